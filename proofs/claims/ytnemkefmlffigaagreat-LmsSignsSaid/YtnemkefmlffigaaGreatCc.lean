/-
  Package ots: Candidate, for every signature of at most 1000000 bytes and every text of at most 100000.
-/
import Derived.Test.YtnemkefmlffigaaGreatCb
namespace Go.Proofs.YtnemkefmlffigaaGreat
open Go.RowKit

theorem rowsTo_len2 (f : Nat → List UInt8) (n : Nat) (hf : ∀ i, i < n → (f i).length = 32) : (rowsTo f n).length = 32 * n := by
  induction n with
  | zero => rfl
  | succ n ih => rw [rowsTo_succ, List.length_append, ih (fun i hi => hf i (by omega)), hf n (by omega)]; omega
theorem hAt_length (s : List UInt8) (i : Nat) (h : 4 + i * 32 + 32 ≤ s.length) : (hAt s i).length = 32 := by unfold hAt; rw [List.length_take, List.length_drop]; omega
theorem cndF_length (p s : List UInt8) (D : List Nat) (k i : Nat) (h : s.length = lng k) (hi : i < mny k) : (cndF p s D k i).length = 32 := chn_length _ _ _ _ _ (hAt_length _ _ (by rw [h]; unfold lng; omega))

/-- What the loop of Candidate keeps. -/
def CndAt (w : World) (I : List UInt8) (q k g1 gp gs b : Nat) (D : List Nat) (dv v : Value) (l : List UInt8) (wr : World) : Prop :=
  Blk wr g1 z32 23 ∧ Blk wr gp (bys (pre20 I q)) 92 ∧ Blk wr gs (shp k) 96 ∧ RdI b wr dv D ∧ Own 5 wr b v l ∧ b ≤ wr.heap.size ∧ Below w.heap.size w wr
theorem CndAt.below {w : World} {I : List UInt8} {q k g1 gp gs b : Nat} {D : List Nat} {dv v : Value} {l : List UInt8} {wr w' : World} (h : CndAt w I q k g1 gp gs b D dv v l wr) (hb : Below wr.heap.size wr w') : CndAt w I q k g1 gp gs b D dv v l w' := by
  obtain ⟨h1, h2, h3, h4, h5, h6, h7⟩ := h
  exact ⟨h1.below hb h1.lt, h2.below hb h2.lt, h3.below hb h3.lt, h4.below (hb.mono h6), h5.below hb (Nat.le_refl _), Nat.le_trans h6 hb.size, h7.trans (hb.mono h7.size)⟩

set_option maxRecDepth 100000 in
set_option maxHeartbeats 2000000 in
theorem candX_short (I text s : List UInt8) (q : Nat) (tv sv : Value) (w : World) (hI : I.length = 16) (hq : q < 4294967296) (ht : Rd w.heap.size w tv text) (hsv : Rd w.heap.size w sv s) (hs : s.length < 4) : Calls Tryz.prog 41 #[.agg (bys I).toArray, .int .u32 (q : Int), tv, sv] w (TwoD (.agg z32.toArray) (.int .i64 2) w) := by
  obtain ⟨i0, hi, hz0, hz1, hz2⟩ := info_parts info5
  have HIN := Lib.hid hi
  have H0 := Lib.hid hz0
  have H1 := Lib.hid hz1
  have H2 := Lib.hid hz2
  have HI := Lib.hid hI
  have HT := Lib.hid ht
  have HSV := Lib.hid hsv
  have HP := Lib.hid (pre20_length I q hI)
  have H22 : Hid ((Tryz.prog.info? 22).map (·.size) = some (bys I).length) := by show _ = _; rw [bys_length, hI]; exact s22
  have H67 : Hid ((Tryz.prog.info? 92).map (·.size) = some (bys (pre20 I q)).length) := by show _ = _; rw [bys_length, pre20_length I q hI]; exact s67
  have HL67 : Hid (z20.length = (bys (pre20 I q)).length) := by show _ = _; rw [bys_length, pre20_length I q hI, z20_length]
  obtain ⟨d57, hu57, hd57⟩ := row57
  have HU := Lib.hid hu57
  have HD := Lib.hid hd57
  obtain ⟨At, ct, rfl, hct, hmt⟩ := ht.shape
  unfold maxLen at hmt
  obtain ⟨As, cs, rfl, hcs, hms⟩ := hsv.shape
  unfold maxLen at hms
  clear hI hi hz0 hz1 hz2 hu57 hd57 ht hsv
  go_enter Tryz.func41, Tryz.ntmps41
  go_wp2_with (refine wpList_box_blk rfl 22 _ rfl (bys I) rfl ?_)
  intro v1 a1 a2 a3
  have A1 := Lib.hid a1
  have A2 := Lib.hid a2
  have A3 := Lib.hid a3
  clear a1 a2 a3
  go_wp2_with (refine wpList_alloc_blk rfl 23 rfl _ z24 ?_)
  intro v2 a1 a2 a3
  rw [A2.out] at a1 a2 a3 ⊢
  obtain ⟨g0, hg0⟩ : ∃ g, w.heap.size = g := ⟨_, rfl⟩
  obtain ⟨g1, hg1⟩ : ∃ g, g0 + 1 = g := ⟨_, rfl⟩
  have G1 : Hid (Blk v2 g0 (bys I) 22) := by rw [← hg0]; exact A1.out.below a3 (by omega)
  have G2 : Hid (Blk v2 g1 z32 23) := by rw [← hg1, ← hg0]; exact a1
  have GB : Hid (Below w.heap.size w v2) := A3.out.trans (a3.mono (by omega))
  have hs2 : g1 < v2.heap.size := by omega
  have hw0 : w.heap.size ≤ g0 := by omega
  have hg01 : g0 < g1 := by omega
  rw [hg0, hg1]
  clear a1 a2 a3 A1 A2 A3 hg0 hg1
  go_wp2
  refine wp_scope_goto 0 rfl ?_
  go_wp2_with (refine wpList_load_blk rfl 22 _ rfl g0 rfl (bys I) 22 G1.out 16 5 tu22 H22.out ?_)
  refine (prefixOf_any I q _ HI.out hq).mono ?_
  rintro e w1 ⟨rfl, hb⟩
  have E2 : Hid (Blk w1 g1 z32 23) := G2.out.below hb (by omega)
  have EB : Hid (Below w.heap.size w w1) := GB.out.trans (hb.mono (by omega))
  have hs1 : g1 < w1.heap.size := Nat.lt_of_lt_of_le hs2 hb.size
  clear hb G1 G2 GB hs2
  go_wp2_with (refine wpList_alloc_blk rfl 92 rfl _ zi67 ?_)
  intro w2 a1 a2 a3
  obtain ⟨gp, hgp⟩ : ∃ g, w1.heap.size = g := ⟨_, rfl⟩
  rw [hgp] at a1 a2 a3 hs1 ⊢
  have A1 := Lib.hid a1
  obtain ⟨t2, ht2⟩ : ∃ t, w2.setRow gp (bys (pre20 I q)).toArray = t := ⟨_, rfl⟩
  have L2 : Hid (Blk t2 g1 z32 23) := by rw [← ht2]; exact (E2.out.below a3 (by omega)).setRowOther (by omega)
  have L3 : Hid (Blk t2 gp (bys (pre20 I q)) 92) := by rw [← ht2]; exact a1.setRow
  have LB : Hid (Below w.heap.size w t2) := by rw [← ht2]; exact below_setRow' (EB.out.trans (a3.mono (by omega))) (by omega) _
  clear a1 a2 a3 E2 EB hgp
  go_wp2_with (first | (refine wpList_store_blk rfl 92 _ _ rfl gp (bys (pre20 I q)) z20 92 rfl rfl A1.out H67.out HL67.out (bys_one' _) ?_; rw [ht2]))
  clear ht2 A1
  refine (shapeIn_short _ s _ (((HSV.out.below LB.out)).more LB.out.size) hs).mono ?_
  rintro e w3 ⟨rfl, hb⟩
  have M2 : Hid (Blk w3 g1 z32 23) := L2.out.below hb L2.out.lt
  have M3 : Hid (Blk w3 gp (bys (pre20 I q)) 92) := L3.out.below hb L3.out.lt
  have MB : Hid (Below w.heap.size w w3) := LB.out.trans (hb.mono LB.out.size)
  have hs3 : gp < w3.heap.size := M3.out.lt
  clear hb L2 L3 LB
  go_wp2_with (refine wpList_alloc_blk rfl 96 rfl _ zi57 ?_)
  intro w4 a1 a2 a3
  obtain ⟨gs, hgs⟩ : ∃ g, w3.heap.size = g := ⟨_, rfl⟩
  rw [hgs] at a1 a2 a3 hs3 ⊢
  have A1 := Lib.hid a1
  obtain ⟨t6, ht6⟩ : ∃ t, w4.setRow gs shp0.toArray = t := ⟨_, rfl⟩
  have R2 : Hid (Blk t6 g1 z32 23) := by rw [← ht6]; exact (M2.out.below a3 (by omega)).setRowOther (by omega)
  have R3 : Hid (Blk t6 gp (bys (pre20 I q)) 92) := by rw [← ht6]; exact (M3.out.below a3 (by omega)).setRowOther (by omega)
  have R5 : Hid (Blk t6 gs shp0 96) := by rw [← ht6]; exact a1.setRow
  have RB : Hid (Below w.heap.size w t6) := by rw [← ht6]; exact below_setRow' (MB.out.trans (a3.mono (by omega))) (by omega) _
  clear a1 a2 a3 M2 M3 MB hgs
  go_wp2_with (first | (refine wpList_store_blk rfl 96 _ _ rfl gs shp0 shp0 96 rfl rfl A1.out s57 rfl shp0_one ?_; rw [ht6]))
  clear ht6 A1
  refine wp_goto ⟨rfl, ?_⟩
  go_wp2_with (first | (refine wpList_store_blk rfl 23 _ _ rfl g1 z32 z32 23 rfl rfl R2.out s24 rfl (bys_one' _) ?_) | (refine wpList_buildTo rfl 23 _ rfl (some 66) rfl z32.toArray (by kernel_rfl) ?_))
  rw [Exit.noGoto_ret]
  refine bodyPost_ret (v := .tuple #[.agg z32.toArray, .int .i64 2]) ?_ rfl ?_
  · exact ret_blk2 rfl _ _ g1 23 z32 _ rfl rfl R2.out.setRow 32 5 tu24 s24
  · exact ⟨rfl, below_setRow' RB.out (by omega) _⟩

set_option maxRecDepth 100000 in
set_option maxHeartbeats 2000000 in
theorem candX_form (I text s : List UInt8) (q : Nat) (tv sv : Value) (w : World) (hI : I.length = 16) (hq : q < 4294967296) (ht : Rd w.heap.size w tv text) (hsv : Rd w.heap.size w sv s) (hs : 4 ≤ s.length) (hl : s.length ≤ 1000000) (hf : ∀ k, ¬ Fits s k) : Calls Tryz.prog 41 #[.agg (bys I).toArray, .int .u32 (q : Int), tv, sv] w (TwoD (.agg z32.toArray) (.int .i64 3) w) := by
  obtain ⟨i0, hi, hz0, hz1, hz2⟩ := info_parts info5
  have HIN := Lib.hid hi
  have H0 := Lib.hid hz0
  have H1 := Lib.hid hz1
  have H2 := Lib.hid hz2
  have HI := Lib.hid hI
  have HT := Lib.hid ht
  have HSV := Lib.hid hsv
  have HP := Lib.hid (pre20_length I q hI)
  have HF := Lib.hid hf
  clear hf
  have H22 : Hid ((Tryz.prog.info? 22).map (·.size) = some (bys I).length) := by show _ = _; rw [bys_length, hI]; exact s22
  have H67 : Hid ((Tryz.prog.info? 92).map (·.size) = some (bys (pre20 I q)).length) := by show _ = _; rw [bys_length, pre20_length I q hI]; exact s67
  have HL67 : Hid (z20.length = (bys (pre20 I q)).length) := by show _ = _; rw [bys_length, pre20_length I q hI, z20_length]
  obtain ⟨d57, hu57, hd57⟩ := row57
  have HU := Lib.hid hu57
  have HD := Lib.hid hd57
  obtain ⟨At, ct, rfl, hct, hmt⟩ := ht.shape
  unfold maxLen at hmt
  obtain ⟨As, cs, rfl, hcs, hms⟩ := hsv.shape
  unfold maxLen at hms
  clear hI hi hz0 hz1 hz2 hu57 hd57 ht hsv
  go_enter Tryz.func41, Tryz.ntmps41
  go_wp2_with (refine wpList_box_blk rfl 22 _ rfl (bys I) rfl ?_)
  intro v1 a1 a2 a3
  have A1 := Lib.hid a1
  have A2 := Lib.hid a2
  have A3 := Lib.hid a3
  clear a1 a2 a3
  go_wp2_with (refine wpList_alloc_blk rfl 23 rfl _ z24 ?_)
  intro v2 a1 a2 a3
  rw [A2.out] at a1 a2 a3 ⊢
  obtain ⟨g0, hg0⟩ : ∃ g, w.heap.size = g := ⟨_, rfl⟩
  obtain ⟨g1, hg1⟩ : ∃ g, g0 + 1 = g := ⟨_, rfl⟩
  have G1 : Hid (Blk v2 g0 (bys I) 22) := by rw [← hg0]; exact A1.out.below a3 (by omega)
  have G2 : Hid (Blk v2 g1 z32 23) := by rw [← hg1, ← hg0]; exact a1
  have GB : Hid (Below w.heap.size w v2) := A3.out.trans (a3.mono (by omega))
  have hs2 : g1 < v2.heap.size := by omega
  have hw0 : w.heap.size ≤ g0 := by omega
  have hg01 : g0 < g1 := by omega
  rw [hg0, hg1]
  clear a1 a2 a3 A1 A2 A3 hg0 hg1
  go_wp2
  refine wp_scope_goto 0 rfl ?_
  go_wp2_with (refine wpList_load_blk rfl 22 _ rfl g0 rfl (bys I) 22 G1.out 16 5 tu22 H22.out ?_)
  refine (prefixOf_any I q _ HI.out hq).mono ?_
  rintro e w1 ⟨rfl, hb⟩
  have E2 : Hid (Blk w1 g1 z32 23) := G2.out.below hb (by omega)
  have EB : Hid (Below w.heap.size w w1) := GB.out.trans (hb.mono (by omega))
  have hs1 : g1 < w1.heap.size := Nat.lt_of_lt_of_le hs2 hb.size
  clear hb G1 G2 GB hs2
  go_wp2_with (refine wpList_alloc_blk rfl 92 rfl _ zi67 ?_)
  intro w2 a1 a2 a3
  obtain ⟨gp, hgp⟩ : ∃ g, w1.heap.size = g := ⟨_, rfl⟩
  rw [hgp] at a1 a2 a3 hs1 ⊢
  have A1 := Lib.hid a1
  obtain ⟨t2, ht2⟩ : ∃ t, w2.setRow gp (bys (pre20 I q)).toArray = t := ⟨_, rfl⟩
  have L2 : Hid (Blk t2 g1 z32 23) := by rw [← ht2]; exact (E2.out.below a3 (by omega)).setRowOther (by omega)
  have L3 : Hid (Blk t2 gp (bys (pre20 I q)) 92) := by rw [← ht2]; exact a1.setRow
  have LB : Hid (Below w.heap.size w t2) := by rw [← ht2]; exact below_setRow' (EB.out.trans (a3.mono (by omega))) (by omega) _
  clear a1 a2 a3 E2 EB hgp
  go_wp2_with (first | (refine wpList_store_blk rfl 92 _ _ rfl gp (bys (pre20 I q)) z20 92 rfl rfl A1.out H67.out HL67.out (bys_one' _) ?_; rw [ht2]))
  clear ht2 A1
  refine (shapeIn_any _ s _ (((HSV.out.below LB.out)).more LB.out.size) hs hl).mono ?_
  rintro e w3 (⟨k, hk, _⟩ | ⟨_, rfl, hb⟩)
  · exact absurd hk (HF.out k)
  have M2 : Hid (Blk w3 g1 z32 23) := L2.out.below hb L2.out.lt
  have M3 : Hid (Blk w3 gp (bys (pre20 I q)) 92) := L3.out.below hb L3.out.lt
  have MB : Hid (Below w.heap.size w w3) := LB.out.trans (hb.mono LB.out.size)
  have hs3 : gp < w3.heap.size := M3.out.lt
  clear hb L2 L3 LB
  go_wp2_with (refine wpList_alloc_blk rfl 96 rfl _ zi57 ?_)
  intro w4 a1 a2 a3
  obtain ⟨gs, hgs⟩ : ∃ g, w3.heap.size = g := ⟨_, rfl⟩
  rw [hgs] at a1 a2 a3 hs3 ⊢
  have A1 := Lib.hid a1
  obtain ⟨t6, ht6⟩ : ∃ t, w4.setRow gs shp0.toArray = t := ⟨_, rfl⟩
  have R2 : Hid (Blk t6 g1 z32 23) := by rw [← ht6]; exact (M2.out.below a3 (by omega)).setRowOther (by omega)
  have R3 : Hid (Blk t6 gp (bys (pre20 I q)) 92) := by rw [← ht6]; exact (M3.out.below a3 (by omega)).setRowOther (by omega)
  have R5 : Hid (Blk t6 gs shp0 96) := by rw [← ht6]; exact a1.setRow
  have RB : Hid (Below w.heap.size w t6) := by rw [← ht6]; exact below_setRow' (MB.out.trans (a3.mono (by omega))) (by omega) _
  clear a1 a2 a3 M2 M3 MB hgs
  go_wp2_with (first | (refine wpList_store_blk rfl 96 _ _ rfl gs shp0 shp0 96 rfl rfl A1.out s57 rfl shp0_one ?_; rw [ht6]))
  clear ht6 A1
  refine wp_goto ⟨rfl, ?_⟩
  go_wp2_with (first | (refine wpList_store_blk rfl 23 _ _ rfl g1 z32 z32 23 rfl rfl R2.out s24 rfl (bys_one' _) ?_) | (refine wpList_buildTo rfl 23 _ rfl (some 66) rfl z32.toArray (by kernel_rfl) ?_))
  rw [Exit.noGoto_ret]
  refine bodyPost_ret (v := .tuple #[.agg z32.toArray, .int .i64 3]) ?_ rfl ?_
  · exact ret_blk2 rfl _ _ g1 23 z32 _ rfl rfl R2.out.setRow 32 5 tu24 s24
  · exact ⟨rfl, below_setRow' RB.out (by omega) _⟩

set_option maxRecDepth 100000 in
set_option maxHeartbeats 2000000 in
theorem candX_yes (I text s : List UInt8) (q k : Nat) (tv sv : Value) (w : World) (hI : I.length = 16) (hq : q < 4294967296) (ht : Rd w.heap.size w tv text) (hsv : Rd w.heap.size w sv s) (hl : text.length ≤ 100000) (hf : Fits s k) : Calls Tryz.prog 41 #[.agg (bys I).toArray, .int .u32 (q : Int), tv, sv] w (TwoD (.agg (bys (cndL (pre20 I q) s text k)).toArray) (.int .i64 0) w) := by
  obtain ⟨i0, hi, hz0, hz1, hz2⟩ := info_parts info5
  have HIN := Lib.hid hi
  have H0 := Lib.hid hz0
  have H1 := Lib.hid hz1
  have H2 := Lib.hid hz2
  have HI := Lib.hid hI
  have HT := Lib.hid ht
  have HSV := Lib.hid hsv
  have HP := Lib.hid (pre20_length I q hI)
  obtain ⟨hk, hty, hsl⟩ := hf
  have HK := Lib.hid hk
  have HF : Hid (Fits s k) := ⟨hk, hty, hsl⟩
  have hm := mny_le k hk
  obtain ⟨_, _, _, hG5⟩ := hk.le
  have hu : ∀ k', Fits s k' → k' = k := fun k' ⟨h1, h2, _⟩ => by
    have e1 : typ k' = typ k := by rw [h2, hty]
    rcases h1 with rfl | rfl | rfl | rfl <;> rcases hk with rfl | rfl | rfl | rfl <;> first | rfl | (simp [typ] at e1)
  have HUQ := Lib.hid hu
  obtain ⟨D, hD⟩ : ∃ D, cdig (pre20 I q) s text k = D := ⟨_, rfl⟩
  obtain ⟨M, hM⟩ : ∃ M, mny k = M := ⟨_, rfl⟩
  obtain ⟨G, hG⟩ : ∃ G, gr k = G := ⟨_, rfl⟩
  have hM0 : 0 < M := by rw [← hM]; rcases hk with rfl | rfl | rfl | rfl <;> decide
  have hDl : D.length = M := by rw [← hD, ← hM]; unfold cdig; rw [allD_length]; rfl
  have hDg : ∀ i, D.getD i 0 ≤ G := fun i => by rw [← hD, ← hG]; exact digit_le _ k i
  have hsn : s.length = 4 + (1 + M) * 32 := by rw [hsl, ← hM]; rfl
  have hcl : ∀ i, i < M → (cndF (pre20 I q) s D k i).length = 32 := fun i hi => cndF_length _ _ _ _ _ hsl (by rw [hM]; exact hi)
  have HCL := Lib.hid hcl
  have HSN := Lib.hid hsn
  have HDE := Lib.hid hD
  have HME := Lib.hid hM
  have HGE := Lib.hid hG
  have HDL := Lib.hid hDl
  have HDG := Lib.hid hDg
  have HC2 : Hid ((shp k)[2]? = some (.int .i64 (G : Int))) := by show _ = _; rw [← hG]; rfl
  have hs4 : 4 ≤ s.length := by omega
  have hsm : s.length ≤ 1000000 := by rw [hsn]; rw [hM] at hm; omega
  rw [hM] at hm
  rw [hG] at hG5
  have H24 : Hid ((Tryz.prog.info? 23).map (·.size) = some (bys (cndL (pre20 I q) s text k)).length) := by show _ = _; rw [bys_length]; unfold cndL; rw [hpub_length]; exact s24
  have HLZ : Hid (z32.length = (bys (cndL (pre20 I q) s text k)).length) := by show _ = _; rw [bys_length, z32_length]; unfold cndL; rw [hpub_length]
  clear hk hty hsl hu hD hM hG hDl hDg hsn hcl
  have H22 : Hid ((Tryz.prog.info? 22).map (·.size) = some (bys I).length) := by show _ = _; rw [bys_length, hI]; exact s22
  have H67 : Hid ((Tryz.prog.info? 92).map (·.size) = some (bys (pre20 I q)).length) := by show _ = _; rw [bys_length, pre20_length I q hI]; exact s67
  have HL67 : Hid (z20.length = (bys (pre20 I q)).length) := by show _ = _; rw [bys_length, pre20_length I q hI, z20_length]
  obtain ⟨d57, hu57, hd57⟩ := row57
  have HU := Lib.hid hu57
  have HD := Lib.hid hd57
  obtain ⟨At, ct, rfl, hct, hmt⟩ := ht.shape
  unfold maxLen at hmt
  obtain ⟨As, cs, rfl, hcs, hms⟩ := hsv.shape
  unfold maxLen at hms
  clear hI hi hz0 hz1 hz2 hu57 hd57 ht hsv
  go_enter Tryz.func41, Tryz.ntmps41
  go_wp2_with (refine wpList_box_blk rfl 22 _ rfl (bys I) rfl ?_)
  intro v1 a1 a2 a3
  have A1 := Lib.hid a1
  have A2 := Lib.hid a2
  have A3 := Lib.hid a3
  clear a1 a2 a3
  go_wp2_with (refine wpList_alloc_blk rfl 23 rfl _ z24 ?_)
  intro v2 a1 a2 a3
  rw [A2.out] at a1 a2 a3 ⊢
  obtain ⟨g0, hg0⟩ : ∃ g, w.heap.size = g := ⟨_, rfl⟩
  obtain ⟨g1, hg1⟩ : ∃ g, g0 + 1 = g := ⟨_, rfl⟩
  have G1 : Hid (Blk v2 g0 (bys I) 22) := by rw [← hg0]; exact A1.out.below a3 (by omega)
  have G2 : Hid (Blk v2 g1 z32 23) := by rw [← hg1, ← hg0]; exact a1
  have GB : Hid (Below w.heap.size w v2) := A3.out.trans (a3.mono (by omega))
  have hs2 : g1 < v2.heap.size := by omega
  have hw0 : w.heap.size ≤ g0 := by omega
  have hg01 : g0 < g1 := by omega
  rw [hg0, hg1]
  clear a1 a2 a3 A1 A2 A3 hg0 hg1
  go_wp2
  refine wp_scope_goto 0 rfl ?_
  go_wp2_with (refine wpList_load_blk rfl 22 _ rfl g0 rfl (bys I) 22 G1.out 16 5 tu22 H22.out ?_)
  refine (prefixOf_any I q _ HI.out hq).mono ?_
  rintro e w1 ⟨rfl, hb⟩
  have E2 : Hid (Blk w1 g1 z32 23) := G2.out.below hb (by omega)
  have EB : Hid (Below w.heap.size w w1) := GB.out.trans (hb.mono (by omega))
  have hs1 : g1 < w1.heap.size := Nat.lt_of_lt_of_le hs2 hb.size
  clear hb G1 G2 GB hs2
  go_wp2_with (refine wpList_alloc_blk rfl 92 rfl _ zi67 ?_)
  intro w2 a1 a2 a3
  obtain ⟨gp, hgp⟩ : ∃ g, w1.heap.size = g := ⟨_, rfl⟩
  rw [hgp] at a1 a2 a3 hs1 ⊢
  have A1 := Lib.hid a1
  obtain ⟨t2, ht2⟩ : ∃ t, w2.setRow gp (bys (pre20 I q)).toArray = t := ⟨_, rfl⟩
  have L2 : Hid (Blk t2 g1 z32 23) := by rw [← ht2]; exact (E2.out.below a3 (by omega)).setRowOther (by omega)
  have L3 : Hid (Blk t2 gp (bys (pre20 I q)) 92) := by rw [← ht2]; exact a1.setRow
  have LB : Hid (Below w.heap.size w t2) := by rw [← ht2]; exact below_setRow' (EB.out.trans (a3.mono (by omega))) (by omega) _
  clear a1 a2 a3 E2 EB hgp
  go_wp2_with (first | (refine wpList_store_blk rfl 92 _ _ rfl gp (bys (pre20 I q)) z20 92 rfl rfl A1.out H67.out HL67.out (bys_one' _) ?_; rw [ht2]))
  clear ht2 A1
  refine (shapeIn_any _ s _ (((HSV.out.below LB.out)).more LB.out.size) hs4 hsm).mono ?_
  rintro e w3 (⟨k', hk', rfl, hb⟩ | ⟨hno, _⟩)
  case inr => exact absurd HF.out (hno k)
  have hkk := (HUQ.out k' hk').symm
  clear hk'
  subst hkk
  have M2 : Hid (Blk w3 g1 z32 23) := L2.out.below hb L2.out.lt
  have M3 : Hid (Blk w3 gp (bys (pre20 I q)) 92) := L3.out.below hb L3.out.lt
  have MB : Hid (Below w.heap.size w w3) := LB.out.trans (hb.mono LB.out.size)
  have hs3 : gp < w3.heap.size := M3.out.lt
  clear hb L2 L3 LB
  go_wp2_with (refine wpList_alloc_blk rfl 96 rfl _ zi57 ?_)
  intro w4 a1 a2 a3
  obtain ⟨gs, hgs⟩ : ∃ g, w3.heap.size = g := ⟨_, rfl⟩
  rw [hgs] at a1 a2 a3 hs3 ⊢
  have A1 := Lib.hid a1
  obtain ⟨t6, ht6⟩ : ∃ t, w4.setRow gs (shp k).toArray = t := ⟨_, rfl⟩
  have R2 : Hid (Blk t6 g1 z32 23) := by rw [← ht6]; exact (M2.out.below a3 (by omega)).setRowOther (by omega)
  have R3 : Hid (Blk t6 gp (bys (pre20 I q)) 92) := by rw [← ht6]; exact (M3.out.below a3 (by omega)).setRowOther (by omega)
  have R5 : Hid (Blk t6 gs (shp k) 96) := by rw [← ht6]; exact a1.setRow
  have RB : Hid (Below w.heap.size w t6) := by rw [← ht6]; exact below_setRow' (MB.out.trans (a3.mono (by omega))) (by omega) _
  clear a1 a2 a3 M2 M3 MB hgs
  go_wp2_with (first | (refine wpList_store_blk rfl 96 _ _ rfl gs (shp k) shp0 96 rfl rfl A1.out s57 rfl (shp_one k) ?_; rw [ht6]))
  clear ht6 A1
  refine wp_region_rely2 12 0 (fun x => ⟨#[Value.agg (bys I).toArray, Value.int IntKind.u32 ↑q, Value.slice At text.length ct, Value.slice As s.length cs, Value.pointer (some { block := g0, off := 0 }), undef, undef, undef, Value.pointer (some { block := g1, off := 0 }), Value.int IntKind.i64 0, x 10, Value.slice none 0 0, Value.pointer (some { block := gp, off := 0 }), Value.int IntKind.i64 ↑k, Value.pointer (some { block := gs, off := 0 }), x 11, undef, undef, undef, Value.agg (bys I).toArray, Value.int IntKind.u32 ↑q, Value.agg (bys (pre20 I q)).toArray, Value.tuple #[Value.int IntKind.i64 ↑k, Value.agg (shp k).toArray, Value.int IntKind.i64 0], Value.slice As s.length cs, Value.tuple #[Value.int IntKind.i64 ↑k, Value.agg (shp k).toArray, Value.int IntKind.i64 0], Value.int IntKind.i64 ↑k, Value.agg (shp k).toArray, Value.int IntKind.i64 0, Value.int IntKind.i64 0, Value.bool false, x 7, x 0, x 1, x 2, x 3, x 4, x 5, x 6, x 8, x 9, undef, undef, undef, undef, undef, undef, undef, undef, undef, undef, undef, undef, undef, undef, undef, undef, undef, undef, undef, undef, undef, undef, undef, undef, undef, undef, undef, undef], []⟩) (fun jj => ([eqV (.agg (bys (pre20 I q)).toArray), eqV (.slice As s.length cs), (eqV (.agg (bys (hAt s 0)).toArray)), eqV (.slice At text.length ct), (eqV (.agg (bys (hmsg (pre20 I q) (hAt s 0) text)).toArray)), eqV (.int .i64 (k : Int)), (AllN D), (AllN D), (RdIN D), eqV (.int .i64 0), (RdIN D), eqV (.int .i64 0)] : List (Value → World → Prop)).getD jj (fun _ _ => True)) rfl ⟨fun kk => [_, _, _, _, _, _, _, _, _, _, _, _].getD kk undef, rfl⟩ (by kernel_rfl) (by kernel_rfl) ?steps ?fin
  case steps =>
    refine StepsAt.val 0 (.agg (bys (pre20 I q)).toArray) rfl (fun _ _ => rfl) rfl rfl (fun x w1 hb hd => ?_) ?_
    · exact run_load_blk 92 (.tmp 12) rfl gp rfl (bys (pre20 I q)) 92 (R3.out.below hb R3.out.lt) 20 5 tu67 H67.out
    refine StepsAt.val 1 (.slice As s.length cs) rfl (fun _ _ => rfl) rfl rfl (fun x w1 hb hd => ?_) ?_
    · first | (go_simp; done) | (go_simp; rfl)
    refine StepsAt.cons 2 (fun _ _ _ h hb => h) (fun _ _ => rfl) rfl rfl (fun x w1 hb hd K hK => ?_) ?_
    · have h1 : Hid (x 1 = .slice As s.length cs) := hd 1 (by kernel_rfl)
      go_simp
      refine calls_args (args2 := #[.slice As s.length cs, .int .i64 ((0 : Nat) : Int)]) (by rw [h1.out]; rfl) ?_
      refine (hashIn_any _ s 0 _ (((HSV.out.below RB.out).below (hb.mono RB.out.size)).more (Nat.le_trans RB.out.size hb.size)) (by rw [HSN.out]; omega) hsm).mono ?_
      rintro e w2 ⟨rfl, hb2⟩
      exact hK.out _ _ hb2 rfl
    refine StepsAt.val 3 (.slice At text.length ct) rfl (fun _ _ => rfl) rfl rfl (fun x w1 hb hd => ?_) ?_
    · first | (go_simp; done) | (go_simp; rfl)
    refine StepsAt.cons 4 (fun _ _ _ h hb => h) (fun _ _ => rfl) rfl rfl (fun x w1 hb hd K hK => ?_) ?_
    · have h0 : Hid (x 0 = .agg (bys (pre20 I q)).toArray) := hd 0 (by kernel_rfl)
      have h2 : Hid (x 2 = .agg (bys (hAt s 0)).toArray) := hd 2 (by kernel_rfl)
      have h3 : Hid (x 3 = .slice At text.length ct) := hd 3 (by kernel_rfl)
      go_simp
      refine calls_args (args2 := #[.agg (bys (pre20 I q)).toArray, .agg (bys (hAt s 0)).toArray, .slice At text.length ct]) (by rw [h0.out, h2.out, h3.out]) ?_
      refine (messageHash_any (pre20 I q) (hAt s 0) text _ _ HP.out (hAt_length _ _ (by rw [HSN.out]; omega)) (((HT.out.below RB.out).below (hb.mono RB.out.size)).more (Nat.le_trans RB.out.size hb.size)) hl).mono ?_
      rintro e w2 ⟨rfl, hb2⟩
      exact hK.out _ _ hb2 rfl
    refine StepsAt.val 5 (.int .i64 (k : Int)) rfl (fun _ _ => rfl) rfl rfl (fun x w1 hb hd => ?_) ?_
    · first | (go_simp; done) | (go_simp; rfl)
    refine StepsAt.cons 6 (fun _ _ _ h hb => AllN.keep h hb) (fun _ _ => rfl) rfl rfl (fun x w1 hb hd K hK => ?_) ?_
    · have h4 : Hid (x 4 = .agg (bys (hmsg (pre20 I q) (hAt s 0) text)).toArray) := hd 4 (by kernel_rfl)
      have h5 : Hid (x 5 = .int .i64 (k : Int)) := hd 5 (by kernel_rfl)
      go_simp
      refine calls_args (args2 := #[.agg (bys (hmsg (pre20 I q) (hAt s 0) text)).toArray, .int .i64 (k : Int)]) (by rw [h4.out, h5.out]) ?_
      refine (all_yes (hmsg (pre20 I q) (hAt s 0) text) k _ HK.out (hmsg_length _ _ _)).mono ?_
      rintro e w2 ⟨u, rfl, hown, hb2⟩
      have hDD : allD (hmsg (pre20 I q) (hAt s 0) text) k = D := HDE.out
      rw [hDD] at hown
      exact hK.out _ _ hb2 ⟨u, rfl, hown.rd⟩
    refine StepsAt.cons 7 (fun _ _ _ h hb => AllN.keep h hb) (fun _ _ => rfl) rfl rfl (fun x w1 hb hd K hK => ?_) ?_
    · have h6 : AllN D (x 6) w1 := hd 6 (by kernel_rfl)
      exact hK.out _ _ (Below.refl _ _) h6
    refine StepsAt.cons 8 (fun _ _ _ h hb => RdIN.keep h hb) (fun _ _ => rfl) rfl rfl (fun x w1 hb hd K hK => ?_) ?_
    · have h7 : AllN D (x 7) w1 := hd 7 (by kernel_rfl)
      obtain ⟨u, e7, hu⟩ := h7
      have key := hK.out u w1 (Below.refl _ _) hu
      simp only [Act.put, e7, List.setIfInBounds_toArray, List.set_cons_zero, List.set_cons_succ] at key
      go_simp
      exact key
    refine StepsAt.val 9 (.int .i64 0) rfl (fun _ _ => rfl) rfl rfl (fun x w1 hb hd => ?_) ?_
    · have h7 : AllN D (x 7) w1 := hd 7 (by kernel_rfl)
      obtain ⟨u, e7, hu⟩ := h7
      rw [e7]
      first | (go_simp; done) | (go_simp; rfl)
    refine StepsAt.cons 10 (fun _ _ _ h hb => RdIN.keep h hb) (fun _ _ => rfl) rfl rfl (fun x w1 hb hd K hK => ?_) ?_
    · have h8 : RdIN D (x 8) w1 := hd 8 (by kernel_rfl)
      exact hK.out _ _ (Below.refl _ _) h8
    refine StepsAt.val 11 (.int .i64 0) rfl (fun _ _ => rfl) rfl rfl (fun x w1 hb hd => ?_) ?_
    · have h9 : x 9 = .int .i64 0 := hd 9 (by kernel_rfl)
      rw [h9]
      first | (go_simp; done) | (go_simp; rfl)
    exact StepsAt.done
  case fin =>
    intro x w1 hb hd
    have h9 : x 11 = .int .i64 0 := hd 11 (by omega)
    have h8 : RdIN D (x 10) w1 := hd 10 (by omega)
    refine AnyTill.any (S := fun _ => True) (m := 12) _ _ _ _ ?_
    refine AnyTill.done (by kernel_rfl) ?_
    refine NoPanic.normal ?_
    rw [h9]
    obtain ⟨b, hbE⟩ : ∃ b, w1.heap.size = b := ⟨_, rfl⟩
    have S2 : Hid (Blk w1 g1 z32 23) := R2.out.below hb R2.out.lt
    have S3 : Hid (Blk w1 gp (bys (pre20 I q)) 92) := R3.out.below hb R3.out.lt
    have S5 : Hid (Blk w1 gs (shp k) 96) := R5.out.below hb R5.out.lt
    have SB : Hid (Below w.heap.size w w1) := RB.out.trans (hb.mono RB.out.size)
    obtain ⟨AD, cD, eD, hcD, hmD⟩ := RdI.shape h8
    obtain ⟨aD, hAD, _⟩ := RdI.at_ (by rw [← eD]; exact h8) 0 (by rw [HDL.out]; exact hM0)
    subst hAD
    rw [HDL.out] at eD hcD
    unfold maxLen at hmD
    have S8 : Hid (RdI w1.heap.size w1 (.slice (some aD) M cD) D) := by rw [← eD]; exact h8
    have hg1b : g1 < b := by rw [← hbE]; exact S2.out.lt
    have hgpb : gp < b := by rw [← hbE]; exact S3.out.lt
    have hgsb : gs < b := by rw [← hbE]; exact S5.out.lt
    have hwb : w.heap.size ≤ b := by rw [← hbE]; exact SB.out.size
    have K0 : Hid (CndAt w I q k g1 gp gs b D (.slice (some aD) M cD) (.slice none 0 0) (rowsTo (cndF (pre20 I q) s D k) 0) w1) :=
      ⟨S2.out, S3.out, S5.out, by rw [← hbE]; exact S8.out, Own.nil 5 _ _, by omega, SB.out⟩
    generalize x 0 = y0
    generalize x 1 = y1
    generalize x 2 = y2
    generalize x 3 = y3
    generalize x 4 = y4
    generalize x 5 = y5
    generalize x 6 = y6
    generalize x 7 = y7
    generalize x 8 = y8
    generalize x 9 = y9
    rw [eD]
    clear hd h8 h9 eD hb R2 R3 R5 RB S2 S3 S5 S8 SB hbE x
    go_wp2
    go_loopw [11, 44] (fun v x wr => ∃ i : Nat, i ≤ M ∧ x = .int .i64 (i : Int) ∧ Hid (CndAt w I q k g1 gp gs b D (.slice (some aD) M cD) v (rowsTo (cndF (pre20 I q) s D k) i) wr)) (fun _ x _ => M - (intOf x).toNat)
    case atStart => exact ⟨0, by omega, rfl, K0⟩
    case round =>
      clear K0
      obtain ⟨i, hi, rfl, KK⟩ := hrel
      have hel : (rowsTo (cndF (pre20 I q) s D k) i).length = 32 * i := rowsTo_len2 _ _ (fun j hj => HCL.out j (by omega))
      obtain ⟨A4, c4, hv4, hc4, hm4⟩ := KK.out.2.2.2.2.1.rd.shape
      rw [hel] at hv4 hc4
      subst hv4
      unfold maxLen at hm4
      have HEL := Lib.hid hel
      clear hel
      by_cases hi2 : i < M
      · have zi : (i : Int) < (M : Int) := by omega
        have hi3 : i < 65536 := by omega
        obtain ⟨d, hd⟩ : ∃ d, D.getD i 0 = d := ⟨_, rfl⟩
        obtain ⟨aD', hAD, cd⟩ := KK.out.2.2.2.1.at_ i (by rw [HDL.out]; exact hi2)
        injection hAD with hAD
        subst hAD
        rw [hd] at cd
        have hdG : d ≤ G := by rw [← hd]; exact HDG.out i
        have HDI := Lib.hid hd
        clear hd
        have hwg1 : g1 < wr.heap.size := KK.out.1.lt
        have hwgp : gp < wr.heap.size := KK.out.2.1.lt
        have hwgs : gs < wr.heap.size := KK.out.2.2.1.lt
        have hce := HCL.out i hi2
        have HCE := Lib.hid hce
        have H24e : Hid ((Tryz.prog.info? 23).map (·.size) = some (bys (cndF (pre20 I q) s D k i)).length) := by show _ = _; rw [bys_length, hce]; exact s24
        have HLZe : Hid (z32.length = (bys (cndF (pre20 I q) s D k i)).length) := by show _ = _; rw [bys_length, hce, z32_length]
        obtain ⟨J, hJ⟩ : ∃ J, i + 1 = J := ⟨_, rfl⟩
        have HJ := Lib.hid hJ
        clear hce hJ
        go_wp2
        clear cd
        refine wp_region_rely2 11 1 (fun x => ⟨#[Value.agg (bys I).toArray, Value.int IntKind.u32 ↑q, Value.slice At text.length ct, Value.slice As s.length cs, Value.pointer (some { block := g0, off := 0 }), undef, undef, undef, Value.pointer (some { block := g1, off := 0 }), Value.int IntKind.i64 0, Value.slice (some aD) M cD, Value.slice A4 (32 * i) c4, Value.pointer (some { block := gp, off := 0 }), Value.int IntKind.i64 ↑k, Value.pointer (some { block := gs, off := 0 }), Value.int IntKind.i64 0, Value.int IntKind.i64 ↑i, Value.int IntKind.i64 ↑d, x 10, Value.agg (bys I).toArray, Value.int IntKind.u32 ↑q, Value.agg (bys (pre20 I q)).toArray, Value.tuple #[Value.int IntKind.i64 ↑k, Value.agg (shp k).toArray, Value.int IntKind.i64 0], Value.slice As s.length cs, Value.tuple #[Value.int IntKind.i64 ↑k, Value.agg (shp k).toArray, Value.int IntKind.i64 0], Value.int IntKind.i64 ↑k, Value.agg (shp k).toArray, Value.int IntKind.i64 0, Value.int IntKind.i64 0, Value.bool false, y7, y0, y1, y2, y3, y4, y5, y6, y8, y9, Value.int IntKind.i64 0, Value.bool false, Value.slice (some aD) M cD, Value.int IntKind.i64 ↑M, Value.int IntKind.i64 ↑i, Value.bool true, Value.int IntKind.i64 ↑i, Value.pointer (some (aD.add i)), Value.int IntKind.i64 ↑d, x 0, x 1, x 2, x 3, x 4, x 5, x 6, x 7, x 8, x 9, u59, u60, u61, u62, undef, undef, undef, undef, undef], []⟩) (fun jj => ([eqV (.agg (bys (pre20 I q)).toArray), eqV (.int .i64 (i : Int)), eqV (.int .i64 (d : Int)), eqV (.pointer (some ⟨gs, 2, none⟩)), eqV (.int .i64 (G : Int)), eqV (.slice As s.length cs), eqV (.int .i64 (i : Int)), eqV (.int .i64 (J : Int)), (eqV (.agg (bys (hAt s (i + 1))).toArray)), (eqV (.agg (bys (cndF (pre20 I q) s D k i)).toArray)), (NewB wr.heap.size)] : List (Value → World → Prop)).getD jj (fun _ _ => True)) rfl ⟨fun kk => [_, _, _, _, _, _, _, _, _, _, _].getD kk undef, rfl⟩ (by kernel_rfl) (by kernel_rfl) ?steps ?fin
        case steps =>
          refine StepsAt.val 0 (.agg (bys (pre20 I q)).toArray) rfl (fun _ _ => rfl) rfl rfl (fun x w9 hb hd => ?_) ?_
          · exact run_load_blk 92 (.tmp 12) rfl gp rfl (bys (pre20 I q)) 92 (KK.out.2.1.below hb hwgp) 20 5 tu67 H67.out
          refine StepsAt.val 1 (.int .i64 (i : Int)) rfl (fun _ _ => rfl) rfl rfl (fun x w9 hb hd => ?_) ?_
          · first | (go_simp; done) | (go_simp; rfl)
          refine StepsAt.val 2 (.int .i64 (d : Int)) rfl (fun _ _ => rfl) rfl rfl (fun x w9 hb hd => ?_) ?_
          · first | (go_simp; done) | (go_simp; rfl)
          refine StepsAt.val 3 (.pointer (some ⟨gs, 2, none⟩)) rfl (fun _ _ => rfl) rfl rfl (fun x w9 hb hd => ?_) ?_
          · first | (go_simp; done) | (go_simp; rfl)
          refine StepsAt.val 4 (.int .i64 (G : Int)) rfl (fun _ _ => rfl) rfl rfl (fun x w9 hb hd => ?_) ?_
          · have h3 : x 3 = .pointer (some ⟨gs, 2, none⟩) := hd 3 (by kernel_rfl)
            have c := ((KK.out.2.2.1.below hb hwgs).cell 2).trans HC2.out
            rw [h3]
            first | (go_simp; done) | (go_simp; rfl)
          refine StepsAt.val 5 (.slice As s.length cs) rfl (fun _ _ => rfl) rfl rfl (fun x w9 hb hd => ?_) ?_
          · first | (go_simp; done) | (go_simp; rfl)
          refine StepsAt.val 6 (.int .i64 (i : Int)) rfl (fun _ _ => rfl) rfl rfl (fun x w9 hb hd => ?_) ?_
          · first | (go_simp; done) | (go_simp; rfl)
          refine StepsAt.val 7 (.int .i64 (J : Int)) rfl (fun _ _ => rfl) rfl rfl (fun x w9 hb hd => ?_) ?_
          · have h6 : x 6 = .int .i64 (i : Int) := hd 6 (by kernel_rfl)
            rw [h6]
            have zz : (i : Int) + 1 = (J : Int) := by have := HJ.out; omega
            go_simp
            first | done | exact wrap_i64 _ (by omega) (by have := HJ.out; omega)
          refine StepsAt.cons 8 (fun _ _ _ h hb => h) (fun _ _ => rfl) rfl rfl (fun x w9 hb hd K hK => ?_) ?_
          · have h5 : Hid (x 5 = .slice As s.length cs) := hd 5 (by kernel_rfl)
            have h7 : Hid (x 7 = .int .i64 (J : Int)) := hd 7 (by kernel_rfl)
            go_simp
            refine calls_args (args2 := #[.slice As s.length cs, .int .i64 ((i + 1 : Nat) : Int)]) (by rw [h5.out, h7.out, HJ.out]) ?_
            refine (hashIn_any _ s (i + 1) _ (((HSV.out.below KK.out.2.2.2.2.2.2).below (hb.mono KK.out.2.2.2.2.2.2.size)).more (Nat.le_trans KK.out.2.2.2.2.2.2.size hb.size)) (by rw [HSN.out]; omega) hsm).mono ?_
            rintro e w2 ⟨rfl, hb2⟩
            exact hK.out _ _ hb2 rfl
          refine StepsAt.cons 9 (fun _ _ _ h hb => h) (fun _ _ => rfl) rfl rfl (fun x w9 hb hd K hK => ?_) ?_
          · have h0 : Hid (x 0 = .agg (bys (pre20 I q)).toArray) := hd 0 (by kernel_rfl)
            have h1 : Hid (x 1 = .int .i64 (i : Int)) := hd 1 (by kernel_rfl)
            have h2 : Hid (x 2 = .int .i64 (d : Int)) := hd 2 (by kernel_rfl)
            have h4 : Hid (x 4 = .int .i64 (G : Int)) := hd 4 (by kernel_rfl)
            have h8 : Hid (x 8 = .agg (bys (hAt s (i + 1))).toArray) := hd 8 (by kernel_rfl)
            go_simp
            refine calls_args (args2 := #[.agg (bys (pre20 I q)).toArray, .int .i64 (i : Int), .int .i64 (d : Int), .int .i64 ((d + (G - d) : Nat) : Int), .agg (bys (hAt s (i + 1))).toArray]) (by rw [h0.out, h1.out, h2.out, h4.out, h8.out, show d + (G - d) = G by omega]) ?_
            refine (chain_any (pre20 I q) (hAt s (i + 1)) i d (G - d) _ HP.out (hAt_length _ _ (by rw [HSN.out]; omega)) hi3 (by omega)).mono ?_
            rintro e w2 ⟨rfl, hb2⟩
            refine hK.out _ _ hb2 ?_
            unfold cndF
            rw [HDI.out, HGE.out]
            rfl
          refine StepsAt.cons 10 (fun _ _ _ h hb => NewB.keep h hb) (fun _ _ => rfl) rfl rfl (fun x w9 hb hd K hK => ?_) ?_
          · refine wp_of_list rfl (wpList_alloc_blk rfl 23 rfl _ z24 ?_)
            intro w2 b1 b2 b3
            exact hK.out _ _ b3 ⟨_, rfl, b1, hb.size⟩
          exact StepsAt.done
        case fin =>
          intro x w9 hb hd
          have hr : x 9 = .agg (bys (cndF (pre20 I q) s D k i)).toArray := hd 9 (by omega)
          obtain ⟨g, e7, hg7, hgb⟩ : NewB wr.heap.size (x 10) w9 := hd 10 (by omega)
          refine AnyTill.any (S := fun _ => True) (m := 12) _ _ _ _ ?_
          refine AnyTill.one (i := 11) (by kernel_rfl) rfl (by rfl) (fun K hK => ?_)
          refine wp_store_blk 23 (.tmp 18) (.tmp 58) rfl g (bys (cndF (pre20 I q) s D k i)) z32 23 e7 hr hg7 H24e.out HLZe.out (bys_one' _) ?_
          refine hK.out _ _ (.inr trivial) ?_
          clear hK K
          refine AnyTill.done (by kernel_rfl) ?_
          refine NoPanic.normal ?_
          simp only [Act.put]
          have hbF : Below wr.heap.size wr (w9.setRow g (bys (cndF (pre20 I q) s D k i)).toArray) := below_setRow' hb hgb _
          have KF : Hid (CndAt w I q k g1 gp gs b D (.slice (some aD) M cD) (.slice A4 (32 * i) c4) (rowsTo (cndF (pre20 I q) s D k) i) (w9.setRow g (bys (cndF (pre20 I q) s D k i)).toArray)) := KK.out.below hbF
          have LG : Hid (Blk (w9.setRow g (bys (cndF (pre20 I q) s D k i)).toArray) g (bys (cndF (pre20 I q) s D k i)) 23) := hg7.setRow
          have hgF : g < (w9.setRow g (bys (cndF (pre20 I q) s D k i)).toArray).heap.size := LG.out.lt
          generalize w9.setRow g (bys (cndF (pre20 I q) s D k i)).toArray = wf at KF LG hgF ⊢
          rw [e7]
          clear hd hr hbF KK hb hg7 e7
          go_wp2_with (at_builtin; refine wpList_app rfl _ _ 34 rfl 5 i0 Tryz.underlying34 HIN.out H0.out H1.out H2.out b wf.heap.size _ _ (rowsTo (cndF (pre20 I q) s D k) i) (cndF (pre20 I q) s D k i) rfl KF.out.2.2.2.2.1 rfl (Rd.blk 32 HCE.out LG.out hgF (by omega)) (by rw [HEL.out, HCE.out]; omega) KF.out.2.2.2.2.2.1 ?_)
          intro v5 w5 hown5 hb5
          have K5 : Hid (CndAt w I q k g1 gp gs b D (.slice (some aD) M cD) v5 (rowsTo (cndF (pre20 I q) s D k) (i + 1)) w5) := by
            obtain ⟨f1, f2, f3, f4, f5, f6, f7⟩ := KF.out
            rw [rowsTo_succ]
            exact ⟨f1.below hb5 hg1b, f2.below hb5 hgpb, f3.below hb5 hgsb, f4.below hb5, hown5, Nat.le_trans f6 hb5.size, f7.trans (hb5.mono hwb)⟩
          clear hown5 hb5 KF LG hgF
          go_wp2
          go_roundw
          case rel => exact ⟨i + 1, by omega, by go_num, K5⟩
          case measure => simp [intOf]; omega
      · have hiM : i = M := by omega
        subst hiM
        have zi : ¬ ((i : Int) < (i : Int)) := by omega
        have N1 : Hid (Blk wr gp (bys (pre20 I q)) 92) := KK.out.2.1
        have N2 : Hid (Blk wr g1 z32 23) := KK.out.1
        have NO : Hid (Own 5 wr b (.slice A4 (32 * i) c4) (rowsTo (cndF (pre20 I q) s D k) i)) := KK.out.2.2.2.2.1
        have NB : Hid (Below w.heap.size w wr) := KK.out.2.2.2.2.2.2
        clear KK
        go_wp2_with (refine wpList_load_blk rfl 92 _ rfl gp rfl (bys (pre20 I q)) 92 N1.out 20 5 tu67 H67.out ?_)
        refine (publicHash_any (pre20 I q) (rowsTo (cndF (pre20 I q) s D k) i) _ _ HP.out NO.out.rd (by rw [HEL.out]; omega)).mono ?_
        rintro e w6 ⟨rfl, hb⟩
        have X2 : Hid (Blk w6 g1 z32 23) := N2.out.below hb N2.out.lt
        have XB : Hid (Below w.heap.size w w6) := NB.out.trans (hb.mono NB.out.size)
        rw [show hpub (pre20 I q) (rowsTo (cndF (pre20 I q) s D k) i) = cndL (pre20 I q) s text k by unfold cndL; rw [HME.out, HDE.out]]
        clear hb N1 N2 NO NB
        go_wp2_with (refine wpList_store_blk rfl 23 _ _ rfl g1 (bys (cndL (pre20 I q) s text k)) z32 23 rfl rfl X2.out H24.out HLZ.out (bys_one' _) ?_)
        rw [jump_ret]
        refine bodyPost_ret (v := .tuple #[.agg (bys (cndL (pre20 I q) s text k)).toArray, .int .i64 0]) ?_ rfl ?_
        · exact ret_blk2 rfl _ _ g1 23 _ _ rfl rfl X2.out.setRow 32 5 tu24 H24.out
        · exact ⟨rfl, below_setRow' XB.out (by omega) _⟩
end Go.Proofs.YtnemkefmlffigaaGreat
