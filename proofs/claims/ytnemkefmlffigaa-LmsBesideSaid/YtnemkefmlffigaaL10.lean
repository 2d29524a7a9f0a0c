/-
  Package lms: the way up a tree, climb, for every input that it is called with.
-/
import Derived.Test.YtnemkefmlffigaaL9
namespace Go.Proofs.Ytnemkefmlffigaa
open Go.RowKit

theorem run_sliceFromE (a : Addr) (n c m : Nat) (w : World) (h1 : m ≤ n) (_ : n ≤ c) : (Instr.sliceAt 24 (.slice (some a) n c) (some (.int .i64 (m : Int))) none none).run Try.prog w = .ok (.slice (some (if c = m then a else a.add m)) (n - m) (c - m)) w := by
  by_cases hc : c = m
  · simp [Instr.sliceAt, Instr.slice, run_underlying Try.underlying24, Instr.sliceBounds, Instr.sliceBound, asIntOf, h1, hc, Sem.run_bind, Result.andThen]
  · simp [Instr.sliceAt, Instr.slice, run_underlying Try.underlying24, Instr.sliceBounds, Instr.sliceBound, asIntOf, h1, hc, Sem.run_bind, Result.andThen]
theorem Rd.dropE {B : Nat} {w : World} {a : Addr} {n c : Nat} {l : List UInt8} (h : Rd B w (.slice (some a) n c) l) (m : Nat) (hm : m ≤ n) : Rd B w (.slice (some (if c = m then a else a.add m)) (n - m) (c - m)) (l.drop m) := by
  have := h.drop m hm
  by_cases hc : c = m
  · rw [if_pos hc] at this ⊢; exact this
  · rw [if_neg hc] at this ⊢; exact this

/-- What the loop of climb keeps. -/
def ClAt (w : World) (I : List UInt8) (g4 g9 g8 : Nat) (H s : List UInt8) (v : Value) (wr : World) : Prop :=
  Blk wr g4 (bys I) 22 ∧ Blk wr g9 (bys H) 28 ∧ Blk wr g8 z32 28 ∧ Rd w.heap.size wr v s ∧ Below w.heap.size w wr
theorem ClAt.below {w : World} {I : List UInt8} {g4 g9 g8 : Nat} {H s : List UInt8} {v : Value} {wr w' : World} (h : ClAt w I g4 g9 g8 H s v wr) (hb : Below wr.heap.size wr w') : ClAt w I g4 g9 g8 H s v w' := by
  obtain ⟨h1, h2, h3, h4, h5⟩ := h
  exact ⟨h1.below hb h1.lt, h2.below hb h2.lt, h3.below hb h3.lt, h4.below (hb.mono h5.size), h5.trans (hb.mono h5.size)⟩

set_option maxRecDepth 100000 in
set_option maxHeartbeats 2000000 in
theorem climb_any (I p s : List UInt8) (n r : Nat) (sv : Value) (w : World) (hI : I.length = 16) (hp : p.length = 32) (hn0 : 1 ≤ n) (hn : n ≤ 5) (h1 : 2 ^ n ≤ r) (h2 : r < 2 * 2 ^ n) (hs : s.length = 32 * n) (hsv : Rd w.heap.size w sv s) :
    Calls Try.prog 46 #[.agg (bys I).toArray, .int .i64 (r : Int), .agg (bys p).toArray, sv] w (Arr (bys (clm I n r (leafL I r p) s)) w) := by
  have HI := Lib.hid hI
  have HP := Lib.hid hp
  have HSV := Lib.hid hsv
  obtain ⟨a, c, hv, hc, hm⟩ := hsv.some_ (by omega)
  subst hv
  unfold maxLen at hm
  have HSL := Lib.hid hs
  rw [hs] at hc HSV ⊢
  have hp5 : 2 ^ n ≤ 32 := by
    have : n = 1 ∨ n = 2 ∨ n = 3 ∨ n = 4 ∨ n = 5 := by omega
    rcases this with rfl | rfl | rfl | rfl | rfl <;> decide
  have hr64 : r < 64 := by omega
  obtain ⟨X, hX⟩ : ∃ X, leafL I r p = X := ⟨_, rfl⟩
  have hXl : X.length = 32 := by rw [← hX]; exact leafL_length _ _ _
  have HXE := Lib.hid hX
  have HXL := Lib.hid hXl
  obtain ⟨F, hF⟩ : ∃ F, clm I n r X s = F := ⟨_, rfl⟩
  have hFl : F.length = 32 := by rw [← hF]; exact clm_length I n r X s hXl
  have HFE := Lib.hid hF
  rw [hX, hF]
  have H22 : Hid ((Try.prog.info? 22).map (·.size) = some (bys I).length) := by show _ = _; rw [bys_length, hI]; exact s22
  have H24p : Hid ((Try.prog.info? 28).map (·.size) = some (bys p).length) := by show _ = _; rw [bys_length, hp]; exact s24
  have H24x : Hid ((Try.prog.info? 28).map (·.size) = some (bys X).length) := by show _ = _; rw [bys_length, hXl]; exact s24
  have HLZx : Hid (z32.length = (bys X).length) := by show _ = _; rw [bys_length, hXl, z32_length]
  have H24f : Hid ((Try.prog.info? 28).map (·.size) = some (bys F).length) := by show _ = _; rw [bys_length, hFl]; exact s24
  have HLZf : Hid (z32.length = (bys F).length) := by show _ = _; rw [bys_length, hFl, z32_length]
  have HB1 := Lib.hid h1
  have HB2 := Lib.hid h2
  clear hI hp hsv hs hX hXl hF hFl h1 h2 hp5
  go_enter Try.func46, Try.ntmps46
  go_wp2_with (refine wpList_box_blk rfl 22 _ rfl (bys I) rfl ?_)
  intro v1 a1 a2 a3
  have A1 := Lib.hid a1
  have A2 := Lib.hid a2
  have A3 := Lib.hid a3
  clear a1 a2 a3
  go_wp2_with (refine wpList_box_blk rfl 28 _ rfl (bys p) rfl ?_)
  intro v2 a1 a2 a3
  rw [A2.out] at a1 a2 a3 ⊢
  have E0 : Hid (Blk v2 w.heap.size (bys I) 22) := A1.out.below a3 (by omega)
  have E1 : Hid (Blk v2 (w.heap.size + 1) (bys p) 28) := a1
  have EB : Hid (Below w.heap.size w v2) := A3.out.trans (a3.mono (by omega))
  have ES := Lib.hid a2
  clear a1 a2 a3 A1 A2 A3
  go_wp2_with (refine wpList_alloc_blk rfl 28 rfl _ z24 ?_)
  intro v3 a1 a2 a3
  rw [ES.out] at a1 a2 a3 ⊢
  obtain ⟨g4, hg4⟩ : ∃ g, w.heap.size = g := ⟨_, rfl⟩
  obtain ⟨g6, hg6⟩ : ∃ g, g4 + 1 = g := ⟨_, rfl⟩
  obtain ⟨g8, hg8⟩ : ∃ g, g6 + 1 = g := ⟨_, rfl⟩
  have G4 : Hid (Blk v3 g4 (bys I) 22) := by rw [← hg4]; exact E0.out.below a3 (by omega)
  have G6 : Hid (Blk v3 g6 (bys p) 28) := by rw [← hg6, ← hg4]; exact E1.out.below a3 (by omega)
  have G8 : Hid (Blk v3 g8 z32 28) := by rw [← hg8, ← hg6, ← hg4]; exact a1
  have GB : Hid (Below w.heap.size w v3) := EB.out.trans (a3.mono (by omega))
  have hw8 : w.heap.size ≤ g8 := by omega
  have hw4 : w.heap.size ≤ g4 := by omega
  have hg48 : g4 < g8 := by omega
  rw [hg4, hg6, hg8]
  clear a1 a2 a3 E0 E1 EB ES hg4 hg6 hg8
  go_wp2_with (first | (refine wpList_load_blk rfl 22 _ rfl g4 rfl (bys I) 22 G4.out 16 5 tu22 H22.out ?_) | (refine wpList_load_blk rfl 28 _ rfl g6 rfl (bys p) 28 G6.out 32 5 tu24 H24p.out ?_))
  refine (leafHash_any I p r _ HI.out HP.out (by omega)).mono ?_
  rintro e w1 ⟨rfl, hb⟩
  rw [HXE.out]
  have I4 : Hid (Blk w1 g4 (bys I) 22) := G4.out.below hb G4.out.lt
  have I8 : Hid (Blk w1 g8 z32 28) := G8.out.below hb G8.out.lt
  have IB : Hid (Below w.heap.size w w1) := GB.out.trans (hb.mono GB.out.size)
  have hl8 : g8 < w1.heap.size := I8.out.lt
  clear hb G4 G6 G8 GB
  go_wp2_with (refine wpList_alloc_blk rfl 28 rfl _ z24 ?_)
  intro w2 a1 a2 a3
  obtain ⟨g9, hg9⟩ : ∃ g, w1.heap.size = g := ⟨_, rfl⟩
  rw [hg9] at a1 a2 a3 hl8 ⊢
  have A1 := Lib.hid a1
  obtain ⟨t2, ht2⟩ : ∃ t, w2.setRow g9 (bys X).toArray = t := ⟨_, rfl⟩
  have hbt : Below w.heap.size w t2 := by rw [← ht2]; exact below_setRow' (IB.out.trans (a3.mono (by omega))) (by omega) _
  have K0 : Hid (ClAt w I g4 g9 g8 X s (.slice (some a) (32 * n) c) t2) := ⟨by rw [← ht2]; exact (I4.out.below a3 (by omega)).setRowOther (by omega), by rw [← ht2]; exact a1.setRow, by rw [← ht2]; exact (I8.out.below a3 (by omega)).setRowOther (by omega), HSV.out.below hbt, hbt⟩
  have hg89 : g8 < g9 := hl8
  clear a1 a2 a3 hg9 I4 I8 IB hbt hl8
  go_wp2_with (first | (refine wpList_store_blk rfl 28 _ _ rfl g9 (bys X) z32 28 rfl rfl A1.out H24x.out HLZx.out (bys_one' _) ?_; rw [ht2]; clear ht2))
  simp only [Act.put]
  go_loopw [1, 3] (fun x v wr => ∃ (m R : Nat) (H s' : List UInt8) (a' : Addr) (c' : Nat), m ≤ n ∧ x = .int .i64 (R : Int) ∧ v = .slice (some a') (32 * m) c' ∧ 32 * m ≤ c' ∧ c' ≤ 2 ^ 63 - 1 ∧ R < 64 ∧ Hid (s'.length = 32 * m) ∧ Hid (2 ^ m ≤ R) ∧ Hid (R < 2 * 2 ^ m) ∧ Hid (H.length = 32) ∧ Hid (clm I m R H s' = F) ∧ Hid (ClAt w I g4 g9 g8 H s' v wr)) (fun x _ _ => (intOf x).toNat)
  case atStart => exact ⟨n, r, X, s, a, c, Nat.le_refl _, rfl, rfl, hc, hm, hr64, HSL, HB1, HB2, HXL, HFE, K0⟩
  case round =>
    clear K0
    obtain ⟨m, R, H, s', a', c', hmn, rfl, rfl, hc', hm', hR64, HS', HR1, HR2, HHL, HCL, KK⟩ := hrel
    cases m with
    | zero =>
      have hR1 : R = 1 := by have e1 := HR1.out; have e2 := HR2.out; rw [Nat.pow_zero] at e1 e2; omega
      subst hR1
      have hHF : H = F := HCL.out
      subst hHF
      go_wp2_with (first | (refine wpList_load_blk rfl 28 _ rfl g9 rfl (bys H) 28 KK.out.2.1 32 5 tu24 H24f.out ?_) | (refine wpList_store_blk rfl 28 _ _ rfl g8 (bys H) z32 28 rfl rfl KK.out.2.2.1 H24f.out HLZf.out (bys_one' _) ?_))
      refine bodyPost_ret (v := .agg (bys H).toArray) ?_ rfl ?_
      · exact ret_blk rfl _ _ g8 28 _ rfl KK.out.2.2.1.setRow 32 5 tu24 H24f.out
      · exact ⟨rfl, below_setRow' KK.out.2.2.2.2 hw8 _⟩
    | succ m =>
      have hpm : 1 ≤ 2 ^ m := Nat.pow_pos (by omega)
      have hR2 : 2 ≤ R := by have e1 := HR1.out; rw [Nat.pow_succ] at e1; omega
      have zR : (1 : Int) < (R : Int) := by omega
      have hQ1 : Hid (2 ^ m ≤ R / 2) := by show _ ≤ _; have e1 := HR1.out; rw [Nat.pow_succ] at e1; omega
      have hQ2 : Hid (R / 2 < 2 * 2 ^ m) := by show _ < _; have e1 := HR2.out; rw [Nat.pow_succ] at e1; omega
      obtain ⟨T, hT⟩ : ∃ T, s'.take 32 = T := ⟨_, rfl⟩
      have hTl : T.length = 32 := by rw [← hT, List.length_take, HS'.out]; omega
      have HTE := Lib.hid hT
      have HTL := Lib.hid hTl
      have H24t : Hid ((Try.prog.info? 28).map (·.size) = some (bys T).length) := by show _ = _; rw [bys_length, hTl]; exact s24
      have H24h : Hid ((Try.prog.info? 28).map (·.size) = some (bys H).length) := by show _ = _; rw [bys_length, HHL.out]; exact s24
      have hDl : Hid ((s'.drop 32).length = 32 * m) := by show _ = _; rw [List.length_drop, HS'.out]; omega
      have HTK : Hid ((s'.take 32).length = 32) := by show _ = _; rw [hT]; exact hTl
      have HOV : Hid (z32.take 0 ++ (bys (s'.take 32) ++ z32.drop (0 + (s'.take 32).length)) = bys T) := by show _ = _; rw [hT, hTl]; simp [z32, bys]
      clear hT hTl hpm
      have hl9 : g9 < wr.heap.size := KK.out.2.1.lt
      have hwr := KK.out.2.2.2.2.size
      go_wp2_with (refine wpList_alloc_blk rfl 28 rfl _ z24 ?_)
      intro w3 a1 a2 a3
      obtain ⟨g10, hg10⟩ : ∃ g, wr.heap.size = g := ⟨_, rfl⟩
      have K1 := Lib.hid (KK.out.below a3)
      rw [hg10] at a1 a2 a3 hl9 hwr ⊢
      have A10 := Lib.hid a1
      have hss := run_sliceFromE a' (32 * (m + 1)) c' 32
      clear a1 a2 a3 hg10 KK A1
      go_wp2_with (refine wpList_copy_to rfl _ _ 24 rfl 5 Try.underlying24 s5 g10 0 32 32 _ rfl rfl z32 28 A10.out w.heap.size s' K1.out.2.2.2.1 (by rw [z32_length]; omega) 32 HTK.out (bys T) HOV.out ?_)
      intro w4 h4 hb4
      have K2 : Hid (ClAt w I g4 g9 g8 H s' (.slice (some a') (32 * (m + 1)) c') w4) := by
        obtain ⟨f1, f2, f3, f4, f5⟩ := K1.out
        have hbb : Below w.heap.size w3 w4 := hb4.below hwr f5.size
        exact ⟨hb4.blk f1 (by omega), hb4.blk f2 (by omega), hb4.blk f3 (by omega), f4.below hbb, f5.trans hbb⟩
      have A11 := Lib.hid h4
      have hl10 : g10 < w4.heap.size := A11.out.lt
      clear h4 hb4 K1 A10
      have hln : 32 * (m + 1) - 32 = 32 * m := by omega
      by_cases hc32 : c' = 32
      · have hm0 : m = 0 := by omega
        subst hm0
        subst hc32
        have K3 : Hid (ClAt w I g4 g9 g8 H (s'.drop 32) (.slice (some a') (32 * 0) 0) w4) := by
          obtain ⟨f1, f2, f3, f4, f5⟩ := K2.out
          have hd := f4.dropE 32 (by omega)
          rw [if_pos rfl] at hd
          exact ⟨f1, f2, f3, hd, f5⟩
        clear K2 hss hln
        go_wp2_with fail
        refine (siblingL_any R _ (by omega) (by omega)).mono ?_
        rintro e w5 ⟨rfl, hb⟩
        have K4 := Lib.hid (K3.out.below hb)
        have A12 : Hid (Blk w5 g10 (bys T) 28) := A11.out.below hb hl10
        clear hb K3 A11 hl10
        have zq : (R : Int) / 2 = ((R / 2 : Nat) : Int) := by omega
        have zt : Int.tdiv (R : Int) 2 = ((R / 2 : Nat) : Int) := by rw [Int.tdiv_eq_ediv_of_nonneg (by omega)]; exact zq
        obtain ⟨Q, hQ⟩ : ∃ x, R / 2 = x := ⟨_, rfl⟩
        rw [hQ] at zq zt hQ1 hQ2
        have hQR : Q < R := by omega
        have HQE := Lib.hid hQ
        by_cases hev : R % 2 = 0
        · have hsb : ((sbr R : Nat) : Int) = (R : Int) + 1 := by unfold sbr; rw [if_pos hev]; omega
          rw [hsb]
          obtain ⟨U, hU⟩ : ∃ U, upL I Q H T = U := ⟨_, rfl⟩
          have hUl : U.length = 32 := by rw [← hU]; exact upL_length _ _ _ _
          have HUE := Lib.hid hU
          have HUL := Lib.hid hUl
          have H24u : Hid ((Try.prog.info? 28).map (·.size) = some (bys U).length) := by show _ = _; rw [bys_length, hUl]; exact s24
          have HLU : Hid ((bys H).length = (bys U).length) := by show _ = _; rw [bys_length, bys_length, hUl, HHL.out]
          have HC2 : Hid (clm I 0 Q U (s'.drop 32) = F) := by
            have e := HCL.out
            rw [clm, if_pos hev, HTE.out, HQE.out, hU] at e
            exact e
          have zgt : (R : Int) < (R : Int) + 1 := by omega
          clear hsb hU hUl hQ hev
          go_wp2_with (first | (refine wpList_load_blk rfl 22 _ rfl g4 rfl (bys I) 22 K4.out.1 16 5 tu22 H22.out ?_) | (refine wpList_load_blk rfl 28 _ rfl g9 rfl (bys H) 28 K4.out.2.1 32 5 tu24 H24h.out ?_) | (refine wpList_load_blk rfl 28 _ rfl g10 rfl (bys T) 28 A12.out 32 5 tu24 H24t.out ?_))
          refine (upperHash_any I H T Q _ HI.out HHL.out HTL.out (by omega)).mono ?_
          rintro e w6 ⟨rfl, hb⟩
          rw [HUE.out]
          have K5 := Lib.hid (K4.out.below hb)
          clear hb K4 A12
          have K6 : Hid (ClAt w I g4 g9 g8 U (s'.drop 32) (.slice (some a') (32 * 0) (0)) (w6.setRow g9 (bys U).toArray)) := by
            obtain ⟨f1, f2, f3, f4, f5⟩ := K5.out
            have hbb : Below w.heap.size w6 (w6.setRow g9 (bys U).toArray) := below_setRow' (Below.refl _ _) (by omega) _
            exact ⟨f1.setRowOther (by omega), f2.setRow, f3.setRowOther (by omega), f4.below hbb, f5.trans hbb⟩
          go_wp2_with (refine wpList_store_blk rfl 28 _ _ rfl g9 (bys U) (bys H) 28 rfl rfl K5.out.2.1 H24u.out HLU.out (bys_one' _) ?_)
          go_roundw
          case rel => exact ⟨0, Q, U, s'.drop 32, a', 0, by omega, by go_num, rfl, by omega, by omega, by omega, hDl, hQ1, hQ2, HUL, HC2, K6⟩
          case measure => simp [intOf]; omega
        · have hsb : ((sbr R : Nat) : Int) = (R : Int) - 1 := by unfold sbr; rw [if_neg hev]; omega
          rw [hsb]
          obtain ⟨U, hU⟩ : ∃ U, upL I Q T H = U := ⟨_, rfl⟩
          have hUl : U.length = 32 := by rw [← hU]; exact upL_length _ _ _ _
          have HUE := Lib.hid hU
          have HUL := Lib.hid hUl
          have H24u : Hid ((Try.prog.info? 28).map (·.size) = some (bys U).length) := by show _ = _; rw [bys_length, hUl]; exact s24
          have HLU : Hid ((bys H).length = (bys U).length) := by show _ = _; rw [bys_length, bys_length, hUl, HHL.out]
          have HC2 : Hid (clm I 0 Q U (s'.drop 32) = F) := by
            have e := HCL.out
            rw [clm, if_neg hev, HTE.out, HQE.out, hU] at e
            exact e
          have zgt : ¬ ((R : Int) < (R : Int) - 1) := by omega
          clear hsb hU hUl hQ hev
          go_wp2_with (first | (refine wpList_load_blk rfl 22 _ rfl g4 rfl (bys I) 22 K4.out.1 16 5 tu22 H22.out ?_) | (refine wpList_load_blk rfl 28 _ rfl g9 rfl (bys H) 28 K4.out.2.1 32 5 tu24 H24h.out ?_) | (refine wpList_load_blk rfl 28 _ rfl g10 rfl (bys T) 28 A12.out 32 5 tu24 H24t.out ?_))
          refine (upperHash_any I T H Q _ HI.out HTL.out HHL.out (by omega)).mono ?_
          rintro e w6 ⟨rfl, hb⟩
          rw [HUE.out]
          have K5 := Lib.hid (K4.out.below hb)
          clear hb K4 A12
          have K6 : Hid (ClAt w I g4 g9 g8 U (s'.drop 32) (.slice (some a') (32 * 0) (0)) (w6.setRow g9 (bys U).toArray)) := by
            obtain ⟨f1, f2, f3, f4, f5⟩ := K5.out
            have hbb : Below w.heap.size w6 (w6.setRow g9 (bys U).toArray) := below_setRow' (Below.refl _ _) (by omega) _
            exact ⟨f1.setRowOther (by omega), f2.setRow, f3.setRowOther (by omega), f4.below hbb, f5.trans hbb⟩
          go_wp2_with (refine wpList_store_blk rfl 28 _ _ rfl g9 (bys U) (bys H) 28 rfl rfl K5.out.2.1 H24u.out HLU.out (bys_one' _) ?_)
          go_roundw
          case rel => exact ⟨0, Q, U, s'.drop 32, a', 0, by omega, by go_num, rfl, by omega, by omega, by omega, hDl, hQ1, hQ2, HUL, HC2, K6⟩
          case measure => simp [intOf]; omega
      · obtain ⟨a2, ha2⟩ : ∃ x : Addr, x = ⟨a'.block, a'.off + 32, none⟩ := ⟨_, rfl⟩
        have K3 : Hid (ClAt w I g4 g9 g8 H (s'.drop 32) (.slice (some ⟨a'.block, a'.off + 32, none⟩) (32 * m) (c' - 32)) w4) := by
          obtain ⟨f1, f2, f3, f4, f5⟩ := K2.out
          have hd := f4.dropE 32 (by omega)
          rw [if_neg hc32, hln, show a'.add 32 = ⟨a'.block, a'.off + 32, none⟩ by simp [Addr.add]] at hd
          exact ⟨f1, f2, f3, hd, f5⟩
        clear K2 hss ha2
        go_wp2_with fail
        refine (siblingL_any R _ (by omega) (by omega)).mono ?_
        rintro e w5 ⟨rfl, hb⟩
        have K4 := Lib.hid (K3.out.below hb)
        have A12 : Hid (Blk w5 g10 (bys T) 28) := A11.out.below hb hl10
        clear hb K3 A11 hl10
        have zq : (R : Int) / 2 = ((R / 2 : Nat) : Int) := by omega
        have zt : Int.tdiv (R : Int) 2 = ((R / 2 : Nat) : Int) := by rw [Int.tdiv_eq_ediv_of_nonneg (by omega)]; exact zq
        obtain ⟨Q, hQ⟩ : ∃ x, R / 2 = x := ⟨_, rfl⟩
        rw [hQ] at zq zt hQ1 hQ2
        have hQR : Q < R := by omega
        have HQE := Lib.hid hQ
        by_cases hev : R % 2 = 0
        · have hsb : ((sbr R : Nat) : Int) = (R : Int) + 1 := by unfold sbr; rw [if_pos hev]; omega
          rw [hsb]
          obtain ⟨U, hU⟩ : ∃ U, upL I Q H T = U := ⟨_, rfl⟩
          have hUl : U.length = 32 := by rw [← hU]; exact upL_length _ _ _ _
          have HUE := Lib.hid hU
          have HUL := Lib.hid hUl
          have H24u : Hid ((Try.prog.info? 28).map (·.size) = some (bys U).length) := by show _ = _; rw [bys_length, hUl]; exact s24
          have HLU : Hid ((bys H).length = (bys U).length) := by show _ = _; rw [bys_length, bys_length, hUl, HHL.out]
          have HC2 : Hid (clm I m Q U (s'.drop 32) = F) := by
            have e := HCL.out
            rw [clm, if_pos hev, HTE.out, HQE.out, hU] at e
            exact e
          have zgt : (R : Int) < (R : Int) + 1 := by omega
          clear hsb hU hUl hQ hev
          go_wp2_with (first | (refine wpList_load_blk rfl 22 _ rfl g4 rfl (bys I) 22 K4.out.1 16 5 tu22 H22.out ?_) | (refine wpList_load_blk rfl 28 _ rfl g9 rfl (bys H) 28 K4.out.2.1 32 5 tu24 H24h.out ?_) | (refine wpList_load_blk rfl 28 _ rfl g10 rfl (bys T) 28 A12.out 32 5 tu24 H24t.out ?_))
          refine (upperHash_any I H T Q _ HI.out HHL.out HTL.out (by omega)).mono ?_
          rintro e w6 ⟨rfl, hb⟩
          rw [HUE.out]
          have K5 := Lib.hid (K4.out.below hb)
          clear hb K4 A12
          have K6 : Hid (ClAt w I g4 g9 g8 U (s'.drop 32) (.slice (some ⟨a'.block, a'.off + 32, none⟩) (32 * m) (c' - 32)) (w6.setRow g9 (bys U).toArray)) := by
            obtain ⟨f1, f2, f3, f4, f5⟩ := K5.out
            have hbb : Below w.heap.size w6 (w6.setRow g9 (bys U).toArray) := below_setRow' (Below.refl _ _) (by omega) _
            exact ⟨f1.setRowOther (by omega), f2.setRow, f3.setRowOther (by omega), f4.below hbb, f5.trans hbb⟩
          go_wp2_with (refine wpList_store_blk rfl 28 _ _ rfl g9 (bys U) (bys H) 28 rfl rfl K5.out.2.1 H24u.out HLU.out (bys_one' _) ?_)
          go_roundw
          case rel => exact ⟨m, Q, U, s'.drop 32, ⟨a'.block, a'.off + 32, none⟩, c' - 32, by omega, by go_num, rfl, by omega, by omega, by omega, hDl, hQ1, hQ2, HUL, HC2, K6⟩
          case measure => simp [intOf]; omega
        · have hsb : ((sbr R : Nat) : Int) = (R : Int) - 1 := by unfold sbr; rw [if_neg hev]; omega
          rw [hsb]
          obtain ⟨U, hU⟩ : ∃ U, upL I Q T H = U := ⟨_, rfl⟩
          have hUl : U.length = 32 := by rw [← hU]; exact upL_length _ _ _ _
          have HUE := Lib.hid hU
          have HUL := Lib.hid hUl
          have H24u : Hid ((Try.prog.info? 28).map (·.size) = some (bys U).length) := by show _ = _; rw [bys_length, hUl]; exact s24
          have HLU : Hid ((bys H).length = (bys U).length) := by show _ = _; rw [bys_length, bys_length, hUl, HHL.out]
          have HC2 : Hid (clm I m Q U (s'.drop 32) = F) := by
            have e := HCL.out
            rw [clm, if_neg hev, HTE.out, HQE.out, hU] at e
            exact e
          have zgt : ¬ ((R : Int) < (R : Int) - 1) := by omega
          clear hsb hU hUl hQ hev
          go_wp2_with (first | (refine wpList_load_blk rfl 22 _ rfl g4 rfl (bys I) 22 K4.out.1 16 5 tu22 H22.out ?_) | (refine wpList_load_blk rfl 28 _ rfl g9 rfl (bys H) 28 K4.out.2.1 32 5 tu24 H24h.out ?_) | (refine wpList_load_blk rfl 28 _ rfl g10 rfl (bys T) 28 A12.out 32 5 tu24 H24t.out ?_))
          refine (upperHash_any I T H Q _ HI.out HTL.out HHL.out (by omega)).mono ?_
          rintro e w6 ⟨rfl, hb⟩
          rw [HUE.out]
          have K5 := Lib.hid (K4.out.below hb)
          clear hb K4 A12
          have K6 : Hid (ClAt w I g4 g9 g8 U (s'.drop 32) (.slice (some ⟨a'.block, a'.off + 32, none⟩) (32 * m) (c' - 32)) (w6.setRow g9 (bys U).toArray)) := by
            obtain ⟨f1, f2, f3, f4, f5⟩ := K5.out
            have hbb : Below w.heap.size w6 (w6.setRow g9 (bys U).toArray) := below_setRow' (Below.refl _ _) (by omega) _
            exact ⟨f1.setRowOther (by omega), f2.setRow, f3.setRowOther (by omega), f4.below hbb, f5.trans hbb⟩
          go_wp2_with (refine wpList_store_blk rfl 28 _ _ rfl g9 (bys U) (bys H) 28 rfl rfl K5.out.2.1 H24u.out HLU.out (bys_one' _) ?_)
          go_roundw
          case rel => exact ⟨m, Q, U, s'.drop 32, ⟨a'.block, a'.off + 32, none⟩, c' - 32, by omega, by go_num, rfl, by omega, by omega, by omega, hDl, hQ1, hQ2, HUL, HC2, K6⟩
          case measure => simp [intOf]; omega
end Go.Proofs.Ytnemkefmlffigaa
