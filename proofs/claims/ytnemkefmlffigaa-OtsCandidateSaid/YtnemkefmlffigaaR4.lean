/-
  The document's own hash of every byte slice up to 100000 bytes.
-/
import Derived.Test.YtnemkefmlffigaaR2
import Derived.Test.YtnemkefmlffigaaR3
import Derived.Test.YtnemkefmlffigaaSa9
import Derived.Test.YtnemkefmlffigaaN3
namespace Go.Proofs.Ytnemkefmlffigaa
open Go.RowKit

theorem Own.madeS (e : TypeId) (w : World) : Own e (w.alloc (.cells #[] e)) w.heap.size (.slice (some ⟨w.heap.size, 0, none⟩) 0 0) [] :=
  World.ownsRow_made w #[] 0 (Nat.le_refl _) (Nat.zero_le _) rfl
theorem take_snocB (l : List UInt8) (i : Nat) (h : i < l.length) : l.take (i + 1) = l.take i ++ [l.getD i 0] := by
  rw [List.take_add_one]; simp [h]

set_option maxHeartbeats 2000000 in
set_option maxRecDepth 100000 in
theorem refSum_any (v : Value) (l : List UInt8) (wz : World) (hr : Rd wz.heap.size wz v l) (hl : l.length ≤ 100000) : Calls Try.prog 67 #[v] wz (Arr (bys (hash l)) wz) := by
  obtain ⟨i0, hi, hz0, hz1, hz2⟩ := info_parts info5
  have HI := Lib.hid hi
  have H0 := Lib.hid hz0
  have H1 := Lib.hid hz1
  have H2 := Lib.hid hz2
  have HRZ := Lib.hid hr
  obtain ⟨A, c, rfl, hc, hm, hn, hcell⟩ := hr
  clear hcell hn hi hz0 hz1 hz2
  unfold maxLen at hm
  go_enter Try.func67, Try.ntmps67
  go_wp2_with (refine wpList_alloc_blk rfl 28 rfl _ z24 ?_)
  intro w a1 a2 a3
  have E0 := Lib.hid a1
  have ES := Lib.hid a2
  have EB := Lib.hid a3
  have HR : Hid (Rd w.heap.size w (.slice A l.length c) l) := (HRZ.out.below a3).more (by omega)
  clear a1 a2 a3 HRZ
  go_wp2_with (at_builtin; refine wpList_app rfl _ _ 24 rfl 5 i0 Try.underlying24 HI.out H0.out H1.out H2.out w.heap.size w.heap.size _ _ [] l rfl (Own.madeS 5 w) rfl (HR.out.below ((Below.refl _ _).alloc (Nat.le_refl _) _)) (by simp; omega) (by simp) ?_)
  intro v1 w1 hown1 hb1
  have O1 := Lib.hid hown1
  have B1 : Hid (Below w.heap.size w w1) := ((Below.refl _ _).alloc (Nat.le_refl _) _).trans hb1
  clear hown1 hb1
  go_wp2_with fail
  refine (refPad_any (l.length : Int) w1 (by omega) (by omega)).mono ?_
  rintro e w2 ⟨v2, rfl, hown2, hb2⟩
  rw [Int.toNat_natCast] at hown2
  have O2 := Lib.hid hown2
  have hs1 := B1.out.size
  have hs2 := hb2.size
  have O1' : Hid (Own 5 w2 w.heap.size v1 l) := O1.out.below hb2 (Nat.le_refl _)
  have B2 : Hid (Below w.heap.size w w2) := B1.out.trans (hb2.mono hs1)
  have hzn : zn l.length < 64 := by unfold zn; omega
  have hpl := padl_length l.length
  have HPL := Lib.hid hpl
  clear hown2 hb2 O1 B1 hpl
  go_wp2_with (at_builtin; refine wpList_app rfl _ _ 24 rfl 5 i0 Try.underlying24 HI.out H0.out H1.out H2.out w.heap.size w2.heap.size v1 v2 l (padl l.length) rfl O1'.out rfl O2.out.rd (by have := HPL.out; omega) (by omega) ?_)
  intro v3 w3 hown3 hb3
  obtain ⟨L, hL⟩ : ∃ L, l ++ padl l.length = L := ⟨_, rfl⟩
  rw [hL] at hown3
  have hLl : L.length = l.length + (9 + zn l.length) := by rw [← hL, List.length_append, HPL.out]
  have hmod : L.length % 64 = 0 := by rw [← hL, List.length_append]; exact padl_mod _
  obtain ⟨N, hN⟩ : ∃ N, L.length = N := ⟨_, rfl⟩
  obtain ⟨M, hM⟩ : ∃ M, N / 64 = M := ⟨_, rfl⟩
  have hNM : N = 64 * M := by omega
  have R3 : Hid (Rd w3.heap.size w3 v3 L) := hown3.rd
  have B3 : Hid (Below w.heap.size w w3) := B2.out.trans hb3
  have hN1 : N ≤ 100072 := by omega
  have hN2 : l.length + 9 ≤ N := by omega
  have hN3 : N ≤ l.length + 72 := by omega
  have HH : Hid (hash l = joinl (chain iv M L)) := by
    show hash l = _
    unfold hash
    rw [hL, ← hM, ← hN, ← hL, List.length_append]
  have HLN := Lib.hid hN
  have HNM := Lib.hid hNM
  obtain ⟨A3, c3, hv3, hc3, hcm3⟩ := R3.out.shape
  rw [hN] at hv3 hc3
  subst hv3
  unfold maxLen at hcm3
  have HMM : Hid (M ≤ 1600) := by show M ≤ 1600; omega
  clear hown3 hb3 O1' O2 B2 hLl hmod hN hM hNM hL hs1 hs2 hzn HPL
  have HIV : Hid ((Try.prog.info? 121).map (·.size) = some (ws iv).length) := s33
  have HZ8 : Hid (z8.length = (ws iv).length) := rfl
  go_wp2_with (first | (refine wpList_buildFlatArr rfl 121 23 8 _ rfl .u32 (ints iv) tu33 s27 (by rw [ints_length, iv_length]; exact zz33) (by kernel_rfl) ?_; rw [ints_ws]) | (refine wpList_alloc_blk rfl 121 rfl _ z33 ?_))
  intro w4 a1 a2 a3
  obtain ⟨g4, hg4⟩ : ∃ g, w3.heap.size = g := ⟨_, rfl⟩
  rw [hg4] at a1 a2 a3 R3 ⊢
  have hgl : w.heap.size ≤ g4 := by rw [← hg4]; exact B3.out.size
  have G4 := Lib.hid a1
  have R4 : Hid (Rd g4 w4 (.slice A3 N c3) L) := R3.out.below a3
  have B4 : Hid (Below w.heap.size w w4) := B3.out.trans (a3.mono hgl)
  clear a1 a2 a3 R3 B3 hg4
  go_wp2_with (refine wpList_store_blk rfl 121 _ _ rfl g4 (ws iv) z8 121 rfl rfl G4.out HIV.out HZ8.out (ws_one _) ?_)
  have G5 : Hid (Blk (w4.setRow g4 (ws iv).toArray) g4 (ws iv) 121) := G4.out.setRow
  have R5 : Hid (Rd g4 (w4.setRow g4 (ws iv).toArray) (.slice A3 N c3) L) := R4.out.keep (fun p hp => cell_setRow_other w4 g4 _ p (by omega))
  have B5 : Hid (Below w.heap.size w (w4.setRow g4 (ws iv).toArray)) := below_setRow' B4.out hgl _
  clear G4 R4 B4
  generalize w4.setRow g4 (ws iv).toArray = w5 at G5 R5 B5 ⊢
  go_loopw [5] (fun x wr => ∃ k j : Nat, k ≤ M ∧ Hid (j = 64 * k) ∧ j ≤ N ∧ x = .int .i64 j ∧ Hid (Blk wr g4 (ws (chain iv k L)) 121) ∧ Hid (Rd g4 wr (.slice A3 N c3) L) ∧ Hid (Below w.heap.size w wr)) (fun x _ => N - (intOf x).toNat)
  case atStart => exact ⟨0, 0, by omega, rfl, by omega, rfl, G5, R5, B5⟩
  case round =>
    clear G5 R5 B5
    obtain ⟨k, j, hk, HJ, hjN, rfl, G0, R0, GB⟩ := hrel
    by_cases hk2 : k < M
    · have hj2 : j + 64 ≤ N := by have := HJ.out; have := HNM.out; omega
      obtain ⟨a, rfl⟩ : ∃ a, A3 = some a := by
        obtain ⟨A', c', hv, h1, h2, h3, h4⟩ := R0.out
        injection hv with e1 e2 e3
        subst e1 e3
        cases A3 with
        | none => have := h3 rfl; omega
        | some a => exact ⟨a, rfl⟩
      obtain ⟨st, hst⟩ : ∃ st, chain iv k L = st := ⟨_, rfl⟩
      have h8 : st.length = 8 := by rw [← hst, chain_length iv iv_length]
      have h32 : W32 st := by rw [← hst]; exact chain_lt iv iv_lt _ _
      have HN1 : Hid (chain iv (k + 1) L = blk st ((L.drop j).take 64)) := by show chain iv (k + 1) L = _; rw [chain_snoc, hst, HJ.out]
      rw [hst] at G0
      have H8 := Lib.hid h8
      have H33 : Hid ((Try.prog.info? 121).map (·.size) = some (ws st).length) := by show _ = _; rw [ws_length, h8]; exact s33
      have q1 : IntKind.i64.wrap ((j : Int) + 64) = ((j + 64 : Nat) : Int) := by rw [IntWalk.i64_in _ (by omega)]; omega
      obtain ⟨j2, hj2e⟩ : ∃ x, j + 64 = x := ⟨_, rfl⟩
      rw [hj2e] at q1 hj2
      have zlt : (j : Int) < (N : Int) := by omega
      have z1 : ¬ (c3 : Int) < (j2 : Int) := by omega
      have z2 : ¬ (j2 : Int) < (j : Int) := by omega
      have z3 : ¬ c3 = j := by omega
      have HJ2 := Lib.hid hj2e
      have hgl4 := G0.out.lt
      clear hst h8 hj2e
      go_wp2
      refine wp_region_till 13 11 (fun w' => Below wr.heap.size wr w') (by kernel_rfl) rfl ?_
      have hS : Below wr.heap.size wr wr.drew := (Below.refl _ _).drew
      refine AnyTill.take (i := 0) (v := .agg (ws st).toArray) rfl (by kernel_rfl) (by kernel_rfl) (by kernel_rfl) (by kernel_rfl) (fun _ _ _ h => h) (by rfl) (fun w' hw' => ?_) hS ?_
      · exact run_load_blk 121 _ rfl g4 rfl (ws st) 121 (G0.out.below hw' hgl4) 8 23 tu33 H33.out
      simp only [Act.put, List.setIfInBounds_toArray, List.set_cons_zero, List.set_cons_succ]
      refine AnyTill.free (i := 1) (v := .slice (some a) N c3) rfl (by kernel_rfl) (by kernel_rfl) (by kernel_rfl) (by kernel_rfl) (fun _ _ _ h => h) (by rfl) (fun w' => ?_) hS ?_
      · first | (go_simp; done) | (go_simp; rfl)
      simp only [Act.put, List.setIfInBounds_toArray, List.set_cons_zero, List.set_cons_succ]
      refine AnyTill.free (i := 2) (v := .int .i64 (j : Int)) rfl (by kernel_rfl) (by kernel_rfl) (by kernel_rfl) (by kernel_rfl) (fun _ _ _ h => h) (by rfl) (fun w' => ?_) hS ?_
      · first | (go_simp; done) | (go_simp; rfl)
      simp only [Act.put, List.setIfInBounds_toArray, List.set_cons_zero, List.set_cons_succ]
      refine AnyTill.free (i := 3) (v := .int .i64 (j : Int)) rfl (by kernel_rfl) (by kernel_rfl) (by kernel_rfl) (by kernel_rfl) (fun _ _ _ h => h) (by rfl) (fun w' => ?_) hS ?_
      · first | (go_simp; done) | (go_simp; rfl)
      simp only [Act.put, List.setIfInBounds_toArray, List.set_cons_zero, List.set_cons_succ]
      refine AnyTill.free (i := 4) (v := .int .i64 (j2 : Int)) rfl (by kernel_rfl) (by kernel_rfl) (by kernel_rfl) (by kernel_rfl) (fun _ _ _ h => h) (by rfl) (fun w' => ?_) hS ?_
      · first | (go_simp; done) | (go_simp; rfl)
      simp only [Act.put, List.setIfInBounds_toArray, List.set_cons_zero, List.set_cons_succ]
      refine AnyTill.free (i := 5) (v := .slice (some (a.add j)) (j2 - j) (c3 - j)) rfl (by kernel_rfl) (by kernel_rfl) (by kernel_rfl) (by kernel_rfl) (fun _ _ _ h => h) (by rfl) (fun w' => ?_) hS ?_
      · go_simp
      simp only [Act.put, List.setIfInBounds_toArray, List.set_cons_zero, List.set_cons_succ]
      have RB : Hid (Rd g4 wr (.slice (some (a.add j)) (j2 - j) (c3 - j)) ((L.drop j).take 64)) := by
        have h := R0.out.drop j hjN
        rw [if_neg z3] at h
        have h2 := h.head (m := 64) (by have := HJ2.out; omega)
        rw [show j2 - j = 64 by have := HJ2.out; omega]
        exact h2
      have HB64 : Hid (((L.drop j).take 64).length = 64) := by show _ = _; rw [List.length_take, List.length_drop, HLN.out]; have := HJ2.out; omega
      have hgsz := GB.out.size
      refine AnyTill.two (i := 6) (j := 10) (by kernel_rfl) rfl rfl (by rfl) (by rfl) (fun K hK => ?_) (fun K hK => ?_)
      · go_simp
        refine (refBlock_in st _ ((L.drop j).take 64) _ H8.out h32 ((RB.out.below (hS.mono (by omega))).more (by have := hS.size; omega)) HB64.out).mono ?_
        rintro e w6 ⟨rfl, hb⟩
        have hSw6 : Below wr.heap.size wr w6 := hS.trans (hb.mono hS.size)
        refine hK.out _ _ (.inr hSw6) ?_
        clear hK K hb
        refine AnyTill.free (i := 7) (v := .tuple #[.agg (ws (blk st ((L.drop j).take 64))).toArray, .int .i64 0]) rfl (by kernel_rfl) (by kernel_rfl) (by kernel_rfl) (by kernel_rfl) (fun _ _ _ h => h) (by rfl) (fun w' => ?_) hSw6 ?_
        · first | (go_simp; done) | (go_simp; rfl)
        simp only [Act.put, List.setIfInBounds_toArray, List.set_cons_zero, List.set_cons_succ]
        refine AnyTill.free (i := 8) (v := .agg (ws (blk st ((L.drop j).take 64))).toArray) rfl (by kernel_rfl) (by kernel_rfl) (by kernel_rfl) (by kernel_rfl) (fun _ _ _ h => h) (by rfl) (fun w' => ?_) hSw6 ?_
        · first | (go_simp; done) | (go_simp; rfl)
        simp only [Act.put, List.setIfInBounds_toArray, List.set_cons_zero, List.set_cons_succ]
        refine AnyTill.free (i := 9) (v := .int .i64 0) rfl (by kernel_rfl) (by kernel_rfl) (by kernel_rfl) (by kernel_rfl) (fun _ _ _ h => h) (by rfl) (fun w' => ?_) hSw6 ?_
        · first | (go_simp; done) | (go_simp; rfl)
        simp only [Act.put, List.setIfInBounds_toArray, List.set_cons_zero, List.set_cons_succ]
        refine AnyTill.one (i := 10) (by kernel_rfl) rfl (by rfl) (fun K hK => ?_)
        refine wp_alloc_blk 121 rfl _ z33 ?_
        intro w7 a1 a2 a3
        have hSw7 : Below wr.heap.size wr w7 := (hSw6).trans (a3.mono (hSw6).size)
        refine hK.out _ _ (.inr hSw7) ?_
        clear hK K
        simp only [Act.put, List.setIfInBounds_toArray, List.set_cons_zero, List.set_cons_succ]
        have hsz6 := hSw6.size
        refine AnyTill.one (i := 11) (by kernel_rfl) rfl (by rfl) (fun K hK => ?_)
        refine wp_store_blk 121 _ _ rfl w6.heap.size (ws (blk st ((L.drop j).take 64))) z8 121 rfl rfl a1 s33 z8_length (ws_one _) ?_
        refine hK.out _ _ (.inl (by kernel_rfl)) ?_
        clear hK K
        refine AnyTill.one (i := 12) (by kernel_rfl) rfl (by rfl) (fun K hK => ?_)
        go_simp
        refine hK.out _ _ (.inl (by kernel_rfl)) ?_
        clear hK K
        refine AnyTill.done (by kernel_rfl) ?_
        refine NoPanic.normal ?_
        have hgn : g4 < w6.heap.size := by omega
        have G6 : Hid (Blk (w7.setRow w6.heap.size (ws (blk st ((L.drop j).take 64))).toArray) w6.heap.size (ws (blk st ((L.drop j).take 64))) 121) := Blk.setRow a1
        have G7 : Hid (Blk (w7.setRow w6.heap.size (ws (blk st ((L.drop j).take 64))).toArray) g4 (ws st) 121) := (G0.out.below hSw7 hgl4).setRowOther (by omega)
        have R7 : Hid (Rd g4 (w7.setRow w6.heap.size (ws (blk st ((L.drop j).take 64))).toArray) (.slice (some a) N c3) L) := (R0.out.below (hSw7.mono (by omega))).keep (fun p hp => cell_setRow_other w7 w6.heap.size _ p (by omega))
        have B7 : Hid (Below w.heap.size w (w7.setRow w6.heap.size (ws (blk st ((L.drop j).take 64))).toArray)) := below_setRow' (GB.out.trans (hSw7.mono hgsz)) (by omega) _
        generalize w7.setRow w6.heap.size (ws (blk st ((L.drop j).take 64))).toArray = w9 at G6 G7 R7 B7 ⊢
        generalize w6.heap.size = gn at G6 hgn ⊢
        rw [← HN1.out] at G6 ⊢
        have hi33 : Hid ((Try.prog.info? 121).map (·.size) = some (ws (chain iv (k + 1) L)).length) := by show _ = _; rw [ws_length, chain_length iv iv_length]; exact s33
        have hl33 : Hid ((ws st).length = (ws (chain iv (k + 1) L)).length) := by show _ = _; rw [ws_length, ws_length, chain_length iv iv_length]; exact H8.out
        generalize hCH : chain iv (k + 1) L = CH at G6 hi33 hl33 ⊢
        have HCH := Lib.hid hCH
        clear hCH q1 z1 z2 z3
        go_wp2_with (first | (refine wpList_load_blk rfl 121 _ rfl gn rfl (ws CH) 121 G6.out 8 23 tu33 hi33.out ?_) | (refine wpList_store_blk rfl 121 _ _ rfl g4 (ws CH) (ws st) 121 rfl rfl G7.out hi33.out hl33.out (ws_one _) ?_))
        go_roundw
        case rel =>
          refine ⟨k + 1, j + 64, by omega, by have := HJ.out; show j + 64 = 64 * (k + 1); omega, by have := HJ2.out; omega, by go_num, ?_, R7.out.keep (fun p hp => cell_setRow_other w9 g4 _ p (by omega)), below_setRow' B7.out (by omega) _⟩
          rw [HCH.out]
          exact G7.out.setRow
        case measure => simp [intOf]; omega
      · refine wp_alloc_blk 121 rfl _ z33 ?_
        intro w6 a1 a2 a3
        have hSw6 : Below wr.heap.size wr w6 := (hS).trans (a3.mono (hS).size)
        refine hK.out _ _ (.inr hSw6) ?_
        clear hK K
        simp only [Act.put, List.setIfInBounds_toArray, List.set_cons_zero, List.set_cons_succ]
        refine AnyTill.one (i := 6) (by kernel_rfl) rfl (by rfl) (fun K hK => ?_)
        go_simp
        refine (refBlock_in st _ ((L.drop j).take 64) _ H8.out h32 ((RB.out.below (hSw6.mono (by omega))).more (by have := hSw6.size; omega)) HB64.out).mono ?_
        rintro e w7 ⟨rfl, hb⟩
        have hSw7 : Below wr.heap.size wr w7 := hSw6.trans (hb.mono hSw6.size)
        have a1' : Blk w7 wr.heap.size z8 121 := a1.below hb a1.lt
        refine hK.out _ _ (.inr hSw7) ?_
        clear hK K hb
        refine AnyTill.free (i := 7) (v := .tuple #[.agg (ws (blk st ((L.drop j).take 64))).toArray, .int .i64 0]) rfl (by kernel_rfl) (by kernel_rfl) (by kernel_rfl) (by kernel_rfl) (fun _ _ _ h => h) (by rfl) (fun w' => ?_) hSw7 ?_
        · first | (go_simp; done) | (go_simp; rfl)
        simp only [Act.put, List.setIfInBounds_toArray, List.set_cons_zero, List.set_cons_succ]
        refine AnyTill.free (i := 8) (v := .agg (ws (blk st ((L.drop j).take 64))).toArray) rfl (by kernel_rfl) (by kernel_rfl) (by kernel_rfl) (by kernel_rfl) (fun _ _ _ h => h) (by rfl) (fun w' => ?_) hSw7 ?_
        · first | (go_simp; done) | (go_simp; rfl)
        simp only [Act.put, List.setIfInBounds_toArray, List.set_cons_zero, List.set_cons_succ]
        refine AnyTill.free (i := 9) (v := .int .i64 0) rfl (by kernel_rfl) (by kernel_rfl) (by kernel_rfl) (by kernel_rfl) (fun _ _ _ h => h) (by rfl) (fun w' => ?_) hSw7 ?_
        · first | (go_simp; done) | (go_simp; rfl)
        simp only [Act.put, List.setIfInBounds_toArray, List.set_cons_zero, List.set_cons_succ]
        have hsz6 := hS.size
        refine AnyTill.one (i := 11) (by kernel_rfl) rfl (by rfl) (fun K hK => ?_)
        refine wp_store_blk 121 _ _ rfl wr.heap.size (ws (blk st ((L.drop j).take 64))) z8 121 rfl rfl a1' s33 z8_length (ws_one _) ?_
        refine hK.out _ _ (.inl (by kernel_rfl)) ?_
        clear hK K
        refine AnyTill.one (i := 12) (by kernel_rfl) rfl (by rfl) (fun K hK => ?_)
        go_simp
        refine hK.out _ _ (.inl (by kernel_rfl)) ?_
        clear hK K
        refine AnyTill.done (by kernel_rfl) ?_
        refine NoPanic.normal ?_
        have hgn : g4 < wr.heap.size := by omega
        have G6 : Hid (Blk (w7.setRow wr.heap.size (ws (blk st ((L.drop j).take 64))).toArray) wr.heap.size (ws (blk st ((L.drop j).take 64))) 121) := Blk.setRow a1'
        have G7 : Hid (Blk (w7.setRow wr.heap.size (ws (blk st ((L.drop j).take 64))).toArray) g4 (ws st) 121) := (G0.out.below hSw7 hgl4).setRowOther (by omega)
        have R7 : Hid (Rd g4 (w7.setRow wr.heap.size (ws (blk st ((L.drop j).take 64))).toArray) (.slice (some a) N c3) L) := (R0.out.below (hSw7.mono (by omega))).keep (fun p hp => cell_setRow_other w7 wr.heap.size _ p (by omega))
        have B7 : Hid (Below w.heap.size w (w7.setRow wr.heap.size (ws (blk st ((L.drop j).take 64))).toArray)) := below_setRow' (GB.out.trans (hSw7.mono hgsz)) (by omega) _
        generalize w7.setRow wr.heap.size (ws (blk st ((L.drop j).take 64))).toArray = w9 at G6 G7 R7 B7 ⊢
        generalize wr.heap.size = gn at G6 hgn ⊢
        rw [← HN1.out] at G6 ⊢
        have hi33 : Hid ((Try.prog.info? 121).map (·.size) = some (ws (chain iv (k + 1) L)).length) := by show _ = _; rw [ws_length, chain_length iv iv_length]; exact s33
        have hl33 : Hid ((ws st).length = (ws (chain iv (k + 1) L)).length) := by show _ = _; rw [ws_length, ws_length, chain_length iv iv_length]; exact H8.out
        generalize hCH : chain iv (k + 1) L = CH at G6 hi33 hl33 ⊢
        have HCH := Lib.hid hCH
        clear hCH q1 z1 z2 z3
        go_wp2_with (first | (refine wpList_load_blk rfl 121 _ rfl gn rfl (ws CH) 121 G6.out 8 23 tu33 hi33.out ?_) | (refine wpList_store_blk rfl 121 _ _ rfl g4 (ws CH) (ws st) 121 rfl rfl G7.out hi33.out hl33.out (ws_one _) ?_))
        go_roundw
        case rel =>
          refine ⟨k + 1, j + 64, by omega, by have := HJ.out; show j + 64 = 64 * (k + 1); omega, by have := HJ2.out; omega, by go_num, ?_, R7.out.keep (fun p hp => cell_setRow_other w9 g4 _ p (by omega)), below_setRow' B7.out (by omega) _⟩
          rw [HCH.out]
          exact G7.out.setRow
        case measure => simp [intOf]; omega
    · obtain rfl : k = M := by omega
      obtain rfl : j = N := by have := HJ.out; have := HNM.out; omega
      obtain ⟨st, hst⟩ : ∃ st, chain iv k L = st := ⟨_, rfl⟩
      have h8 : st.length = 8 := by rw [← hst, chain_length iv iv_length]
      have h32 : W32 st := by rw [← hst]; exact chain_lt iv iv_lt _ _
      have HHS : Hid (hash l = joinl st) := by show hash l = _; rw [HH.out, hst]
      rw [hst] at G0
      have H8 := Lib.hid h8
      have hg4 := G0.out.lt
      have hgsz := GB.out.size
      clear hst h8
      have h24 : Hid ((Try.prog.info? 28).map (·.size) = some z32.length) := s24
      go_wp2_with (first | (refine wpList_buildTo rfl 28 _ rfl (some 36) rfl z32.toArray (by kernel_rfl) ?_) | (refine wpList_alloc_blk rfl 28 rfl _ z24 ?_))
      intro w7 a1 a2 a3
      obtain ⟨g8, hg8⟩ : ∃ g, wr.heap.size = g := ⟨_, rfl⟩
      rw [hg8] at a1 a2 a3 hg4 hgsz ⊢
      have G7 : Hid (Blk w7 g4 (ws st) 121) := G0.out.below a3 hg4
      have B7 : Hid (Below w.heap.size w w7) := GB.out.trans (a3.mono (by omega))
      have A8 := Lib.hid a1
      clear a1 a2 a3 hg8 G0 GB R0
      go_wp2_with (refine wpList_store_blk rfl 28 _ _ rfl g8 z32 z32 28 rfl rfl A8.out h24.out rfl (bys_one' _) ?_)
      have G9 : Hid (Blk (w7.setRow g8 z32.toArray) g4 (ws st) 121) := G7.out.setRowOther (by omega)
      have A9 : Hid (Blk (w7.setRow g8 z32.toArray) g8 (jrow ((joinl st).take 0)) 28) := A8.out.setRow
      have B9 : Hid (Below w.heap.size w (w7.setRow g8 z32.toArray)) := below_setRow' B7.out (by omega) _
      clear G7 A8 B7
      generalize w7.setRow g8 z32.toArray = w9 at G9 A9 B9 ⊢
      go_loopw [9] (fun x wr => ∃ i : Nat, i ≤ 32 ∧ x = .int .i64 i ∧ Hid (Blk wr g4 (ws st) 121) ∧ Hid (Blk wr g8 (jrow ((joinl st).take i)) 28) ∧ Hid (Below w.heap.size w wr)) (fun x _ => 32 - (intOf x).toNat)
      case atStart => exact ⟨0, by omega, rfl, G9, A9, B9⟩
      case round =>
        clear G9 A9 B9
        obtain ⟨i, hi, rfl, G0, A0, GB⟩ := hrel
        have HJL : Hid ((joinl st).length = 32) := by show _ = _; rw [joinl_length, H8.out]
        by_cases hi2 : i < 32
        · have zi : (i : Int) < 32 := by omega
          have hji := joinl_int st i (by rw [H8.out]; omega)
          have htl : ((joinl st).take i).length = i := by rw [List.length_take, HJL.out]; omega
          obtain ⟨vv, cj⟩ : ∃ v, wr.cell? ⟨g8, i, none⟩ = some v := by
            rw [A0.out.cell]
            exact ⟨_, List.getElem?_eq_getElem (by rw [jrow_length _ (by omega)]; omega)⟩
          have fj := A0.out.frozen i
          obtain ⟨q, hq⟩ : ∃ q : Nat, i / 4 = q := ⟨_, rfl⟩
          obtain ⟨r, hr⟩ : ∃ r : Nat, i % 4 = r := ⟨_, rfl⟩
          rw [hq, hr] at hji
          have cs := (G0.out.cell q).trans (ws_cell st q (by rw [H8.out]; omega))
          have e1 : (i : Int) / 4 = (q : Int) := by omega
          have e2 : (i : Int) % 4 = (r : Int) := by omega
          obtain ⟨m, hm'⟩ : ∃ m : Nat, 24 - 8 * r = m := ⟨_, rfl⟩
          have e3 : 24 - 8 * (r : Int) = (m : Int) := by omega
          have zq : (q : Int) < 8 := by omega
          have hm32 : m ≤ 32 := by omega
          rw [hm'] at hji
          generalize hX : st.getD q 0 = X at cs hji
          have HNX : Hid ((jrow ((joinl st).take i)).set i (.int .u8 ((((joinl st).getD i 0).toNat : Nat) : Int)) = jrow ((joinl st).take (i + 1))) := by
            show _ = _
            have h := jrow_set ((joinl st).take i) ((joinl st).getD i 0) (by omega)
            rw [htl, ← take_snocB (joinl st) i (by rw [HJL.out]; exact hi2)] at h
            exact h
          generalize hh : ((joinl st).getD i 0).toNat = h at hji HNX
          have hX32 : X < 4294967296 := by rw [← hX]; exact h32.at q
          have e5 : (X : Int) / 2 ^ m % 256 = (h : Int) := hji.symm
          have l3 : r < 4 := by omega
          clear hq hr hm' hji hX hh htl
          go_wp2
          go_roundw
          case rel =>
            refine ⟨i + 1, by omega, by go_num, G0.out.setOther _ _ (by simp; omega), ?_, GB.out.setCell (by simp; omega) _⟩
            have hx := A0.out.set i (.int .u8 (h : Int))
            rw [HNX.out] at hx
            exact hx
          case measure => simp [intOf]; omega
        · obtain rfl : i = 32 := by omega
          rw [show ((32 : Nat) : Int) = 32 from rfl]
          have A1 : Hid (Blk wr g8 (bys (joinl st)) 28) := by
            have h := A0.out
            rw [List.take_of_length_le (by rw [HJL.out]; omega), jrow_full _ HJL.out] at h
            exact h
          have E1 : Hid (Blk wr wz.heap.size z32 28) := E0.out.below GB.out (by have := ES.out; omega)
          have hI : Hid ((Try.prog.info? 28).map (·.size) = some (bys (joinl st)).length) := by show _ = _; rw [bys_length, HJL.out]; exact s24
          have hZ : Hid (z32.length = (bys (joinl st)).length) := by show _ = _; rw [bys_length, HJL.out, z32_length]
          go_wp2_with (first | (refine wpList_load_blk rfl 28 _ rfl g8 rfl (bys (joinl st)) 28 A1.out 32 5 tu24 hI.out ?_) | (refine wpList_store_blk rfl 28 _ _ rfl wz.heap.size (bys (joinl st)) z32 28 rfl rfl E1.out hI.out hZ.out (bys_one' _) ?_))
          refine bodyPost_ret (v := .agg (bys (joinl st)).toArray) ?_ rfl ?_
          · exact ret_blk rfl _ _ wz.heap.size 28 _ rfl E1.out.setRow 32 5 tu24 hI.out
          · exact ⟨by rw [HHS.out], below_setRow' (EB.out.trans (GB.out.mono (by have := ES.out; omega))) (Nat.le_refl _) _⟩
end Go.Proofs.Ytnemkefmlffigaa
