/-
  Package size and the document's sizes: New, Leader, Meet and the laws' fixed question, for every input that they are called with.
-/
import Derived.Test.YtgabkeohihdenaaZA
namespace Go.Proofs.Ytgabkeohihdenaa
open Go.RowKit

set_option maxRecDepth 100000 in
set_option maxHeartbeats 1000000 in
theorem newS_yes (f t : Int) (w : World) (hf : szB f t = true) : Calls Try.prog 7 #[.int .i64 f, .int .i64 t] w (TwoD (.agg (szl f t).toArray) (.int .i64 0) w) := by
  have HF := Lib.hid hf
  obtain ⟨d, hu, hd⟩ := rowSize
  have HU := Lib.hid hu
  have HD := Lib.hid hd
  clear hf hu hd
  go_enter Try.func7, Try.ntmps7
  go_wp2_with (refine wpList_alloc_blk rfl 23 rfl _ zSize ?_)
  intro w1 a1 a2 a3
  have A1 := Lib.hid a1
  have A2 := Lib.hid a2
  have A3 := Lib.hid a3
  clear a1 a2 a3
  go_wp2_with (first | (refine wpList_buildTo rfl 23 _ rfl (some 9) rfl (szl f t).toArray (by simp only [List.map_toArray, List.map_cons, List.map_nil]; exact builtS f t) ?_) | (refine wpList_alloc_blk rfl 23 rfl _ zSize ?_))
  intro w2 a1 a2 a3
  rw [A2.out] at a1 a2 a3 ⊢
  obtain ⟨g0, hg0⟩ : ∃ g, w.heap.size = g := ⟨_, rfl⟩
  have G0 : Hid (Blk w2 g0 (szl 0 0) 23) := by show Blk _ _ _ _; rw [← hg0]; exact A1.out.below a3 (by omega)
  have G1 : Hid (Blk w2 (g0 + 1) (szl 0 0) 23) := by show Blk _ _ _ _; rw [← hg0]; exact a1
  obtain ⟨t4, ht4⟩ : ∃ t4, w2.setRow (g0 + 1) (szl f t).toArray = t4 := ⟨_, rfl⟩
  have J0 : Hid (Blk t4 g0 (szl 0 0) 23) := by show Blk _ _ _ _; rw [← ht4]; exact G0.out.setRowOther (by omega)
  have J1 : Hid (Blk t4 (g0 + 1) (szl f t) 23) := by show Blk _ _ _ _; rw [← ht4]; exact G1.out.setRow
  have JB : Hid (Below g0 w t4) := by show Below _ _ _; rw [← ht4, ← hg0]; exact below_setRow' (A3.out.trans (a3.mono (by omega))) (by omega) _
  rw [hg0]
  have HG := Lib.hid hg0
  have HT4 := Lib.hid ht4
  clear a1 a2 a3 A1 A2 A3 hg0 ht4 G0
  go_wp2_with (first | (refine wpList_store_blk rfl 23 _ _ rfl (g0 + 1) (szl f t) (szl 0 0) 23 rfl rfl G1.out (sSize _ _) rfl (szl_one _ _) ?_; rw [HT4.out]; clear HT4) | (refine wpList_load_blkU rfl 23 _ rfl (g0 + 1) rfl (szl f t) 23 J1.out d HU.out HD.out (sSize _ _) ?_))
  refine (rightS_any f t _).mono ?_
  rintro e w5 ⟨rfl, hb⟩
  rw [HF.out]
  have K0 : Hid (Blk w5 g0 (szl 0 0) 23) := J0.out.below hb J0.out.lt
  have K1 : Hid (Blk w5 (g0 + 1) (szl f t) 23) := J1.out.below hb J1.out.lt
  have KB : Hid (Below g0 w w5) := JB.out.trans (hb.mono (by have := J0.out.lt; omega))
  clear hb J0 J1 JB G1
  go_wp2_with (first | (refine wpList_load_blkU rfl 23 _ rfl (g0 + 1) rfl (szl f t) 23 K1.out d HU.out HD.out (sSize _ _) ?_) | (refine wpList_store_blk rfl 23 _ _ rfl g0 (szl f t) (szl 0 0) 23 rfl rfl K0.out (sSize _ _) rfl (szl_one _ _) ?_))
  refine bodyPost_ret (v := .tuple #[.agg (szl f t).toArray, .int .i64 0]) ?_ rfl ?_
  · exact ret_blk2U rfl _ _ g0 23 (szl f t) _ rfl rfl K0.out.setRow d HU.out HD.out (sSize _ _)
  · exact ⟨rfl, below_setRow' (by rw [HG.out]; exact KB.out) (by have := HG.out; omega) _⟩

set_option maxRecDepth 100000 in
set_option maxHeartbeats 1000000 in
theorem newS_no (f t : Int) (w : World) (hf : szB f t = false) : Calls Try.prog 7 #[.int .i64 f, .int .i64 t] w (TwoD (.agg (szl 0 0).toArray) (.int .i64 1) w) := by
  have HF := Lib.hid hf
  obtain ⟨d, hu, hd⟩ := rowSize
  have HU := Lib.hid hu
  have HD := Lib.hid hd
  clear hf hu hd
  go_enter Try.func7, Try.ntmps7
  go_wp2_with (refine wpList_alloc_blk rfl 23 rfl _ zSize ?_)
  intro w1 a1 a2 a3
  have A1 := Lib.hid a1
  have A2 := Lib.hid a2
  have A3 := Lib.hid a3
  clear a1 a2 a3
  go_wp2_with (first | (refine wpList_buildTo rfl 23 _ rfl (some 9) rfl (szl f t).toArray (by simp only [List.map_toArray, List.map_cons, List.map_nil]; exact builtS f t) ?_) | (refine wpList_alloc_blk rfl 23 rfl _ zSize ?_))
  intro w2 a1 a2 a3
  rw [A2.out] at a1 a2 a3 ⊢
  obtain ⟨g0, hg0⟩ : ∃ g, w.heap.size = g := ⟨_, rfl⟩
  have G0 : Hid (Blk w2 g0 (szl 0 0) 23) := by show Blk _ _ _ _; rw [← hg0]; exact A1.out.below a3 (by omega)
  have G1 : Hid (Blk w2 (g0 + 1) (szl 0 0) 23) := by show Blk _ _ _ _; rw [← hg0]; exact a1
  obtain ⟨t4, ht4⟩ : ∃ t4, w2.setRow (g0 + 1) (szl f t).toArray = t4 := ⟨_, rfl⟩
  have J0 : Hid (Blk t4 g0 (szl 0 0) 23) := by show Blk _ _ _ _; rw [← ht4]; exact G0.out.setRowOther (by omega)
  have J1 : Hid (Blk t4 (g0 + 1) (szl f t) 23) := by show Blk _ _ _ _; rw [← ht4]; exact G1.out.setRow
  have JB : Hid (Below g0 w t4) := by show Below _ _ _; rw [← ht4, ← hg0]; exact below_setRow' (A3.out.trans (a3.mono (by omega))) (by omega) _
  rw [hg0]
  have HG := Lib.hid hg0
  have HT4 := Lib.hid ht4
  clear a1 a2 a3 A1 A2 A3 hg0 ht4 G0
  go_wp2_with (first | (refine wpList_store_blk rfl 23 _ _ rfl (g0 + 1) (szl f t) (szl 0 0) 23 rfl rfl G1.out (sSize _ _) rfl (szl_one _ _) ?_; rw [HT4.out]; clear HT4) | (refine wpList_load_blkU rfl 23 _ rfl (g0 + 1) rfl (szl f t) 23 J1.out d HU.out HD.out (sSize _ _) ?_))
  refine (rightS_any f t _).mono ?_
  rintro e w5 ⟨rfl, hb⟩
  rw [HF.out]
  have K0 : Hid (Blk w5 g0 (szl 0 0) 23) := J0.out.below hb J0.out.lt
  have K1 : Hid (Blk w5 (g0 + 1) (szl f t) 23) := J1.out.below hb J1.out.lt
  have KB : Hid (Below g0 w w5) := JB.out.trans (hb.mono (by have := J0.out.lt; omega))
  clear hb J0 J1 JB G1
  go_wp2_with (first | (refine wpList_buildTo rfl 23 _ rfl (some 13) rfl (szl 0 0).toArray (by kernel_rfl) ?_) | (refine wpList_store_blk rfl 23 _ _ rfl g0 (szl 0 0) (szl 0 0) 23 rfl rfl K0.out (sSize _ _) rfl (szl_one _ _) ?_))
  refine bodyPost_ret (v := .tuple #[.agg (szl 0 0).toArray, .int .i64 1]) ?_ rfl ?_
  · exact ret_blk2U rfl _ _ g0 23 (szl 0 0) _ rfl rfl K0.out.setRow d HU.out HD.out (sSize _ _)
  · exact ⟨rfl, below_setRow' (by rw [HG.out]; exact KB.out) (by have := HG.out; omega) _⟩

set_option maxRecDepth 100000 in
set_option maxHeartbeats 1000000 in
theorem newSR_yes (f t : Int) (w : World) (hf : szB f t = true) : Calls Try.prog 8 #[.int .i64 f, .int .i64 t] w (TwoD (.agg (szl f t).toArray) (.int .i64 0) w) := by
  have HF := Lib.hid hf
  obtain ⟨d, hu, hd⟩ := rowSizeR
  have HU := Lib.hid hu
  have HD := Lib.hid hd
  clear hf hu hd
  go_enter Try.func8, Try.ntmps8
  go_wp2_with (refine wpList_alloc_blk rfl 27 rfl _ zSizeR ?_)
  intro w1 a1 a2 a3
  have A1 := Lib.hid a1
  have A2 := Lib.hid a2
  have A3 := Lib.hid a3
  clear a1 a2 a3
  go_wp2_with (first | (refine wpList_buildTo rfl 27 _ rfl (some 9) rfl (szl f t).toArray (by simp only [List.map_toArray, List.map_cons, List.map_nil]; exact builtSR f t) ?_) | (refine wpList_alloc_blk rfl 27 rfl _ zSizeR ?_))
  intro w2 a1 a2 a3
  rw [A2.out] at a1 a2 a3 ⊢
  obtain ⟨g0, hg0⟩ : ∃ g, w.heap.size = g := ⟨_, rfl⟩
  have G0 : Hid (Blk w2 g0 (szl 0 0) 27) := by show Blk _ _ _ _; rw [← hg0]; exact A1.out.below a3 (by omega)
  have G1 : Hid (Blk w2 (g0 + 1) (szl 0 0) 27) := by show Blk _ _ _ _; rw [← hg0]; exact a1
  obtain ⟨t4, ht4⟩ : ∃ t4, w2.setRow (g0 + 1) (szl f t).toArray = t4 := ⟨_, rfl⟩
  have J0 : Hid (Blk t4 g0 (szl 0 0) 27) := by show Blk _ _ _ _; rw [← ht4]; exact G0.out.setRowOther (by omega)
  have J1 : Hid (Blk t4 (g0 + 1) (szl f t) 27) := by show Blk _ _ _ _; rw [← ht4]; exact G1.out.setRow
  have JB : Hid (Below g0 w t4) := by show Below _ _ _; rw [← ht4, ← hg0]; exact below_setRow' (A3.out.trans (a3.mono (by omega))) (by omega) _
  rw [hg0]
  have HG := Lib.hid hg0
  have HT4 := Lib.hid ht4
  clear a1 a2 a3 A1 A2 A3 hg0 ht4 G0
  go_wp2_with (first | (refine wpList_store_blk rfl 27 _ _ rfl (g0 + 1) (szl f t) (szl 0 0) 27 rfl rfl G1.out (sSizeR _ _) rfl (szl_one _ _) ?_; rw [HT4.out]; clear HT4) | (refine wpList_load_blkU rfl 27 _ rfl (g0 + 1) rfl (szl f t) 27 J1.out d HU.out HD.out (sSizeR _ _) ?_))
  refine (rightSR_any f t _).mono ?_
  rintro e w5 ⟨rfl, hb⟩
  rw [HF.out]
  have K0 : Hid (Blk w5 g0 (szl 0 0) 27) := J0.out.below hb J0.out.lt
  have K1 : Hid (Blk w5 (g0 + 1) (szl f t) 27) := J1.out.below hb J1.out.lt
  have KB : Hid (Below g0 w w5) := JB.out.trans (hb.mono (by have := J0.out.lt; omega))
  clear hb J0 J1 JB G1
  go_wp2_with (first | (refine wpList_load_blkU rfl 27 _ rfl (g0 + 1) rfl (szl f t) 27 K1.out d HU.out HD.out (sSizeR _ _) ?_) | (refine wpList_store_blk rfl 27 _ _ rfl g0 (szl f t) (szl 0 0) 27 rfl rfl K0.out (sSizeR _ _) rfl (szl_one _ _) ?_))
  refine bodyPost_ret (v := .tuple #[.agg (szl f t).toArray, .int .i64 0]) ?_ rfl ?_
  · exact ret_blk2U rfl _ _ g0 27 (szl f t) _ rfl rfl K0.out.setRow d HU.out HD.out (sSizeR _ _)
  · exact ⟨rfl, below_setRow' (by rw [HG.out]; exact KB.out) (by have := HG.out; omega) _⟩

set_option maxRecDepth 100000 in
set_option maxHeartbeats 1000000 in
theorem newSR_no (f t : Int) (w : World) (hf : szB f t = false) : Calls Try.prog 8 #[.int .i64 f, .int .i64 t] w (TwoD (.agg (szl 0 0).toArray) (.int .i64 1) w) := by
  have HF := Lib.hid hf
  obtain ⟨d, hu, hd⟩ := rowSizeR
  have HU := Lib.hid hu
  have HD := Lib.hid hd
  clear hf hu hd
  go_enter Try.func8, Try.ntmps8
  go_wp2_with (refine wpList_alloc_blk rfl 27 rfl _ zSizeR ?_)
  intro w1 a1 a2 a3
  have A1 := Lib.hid a1
  have A2 := Lib.hid a2
  have A3 := Lib.hid a3
  clear a1 a2 a3
  go_wp2_with (first | (refine wpList_buildTo rfl 27 _ rfl (some 9) rfl (szl f t).toArray (by simp only [List.map_toArray, List.map_cons, List.map_nil]; exact builtSR f t) ?_) | (refine wpList_alloc_blk rfl 27 rfl _ zSizeR ?_))
  intro w2 a1 a2 a3
  rw [A2.out] at a1 a2 a3 ⊢
  obtain ⟨g0, hg0⟩ : ∃ g, w.heap.size = g := ⟨_, rfl⟩
  have G0 : Hid (Blk w2 g0 (szl 0 0) 27) := by show Blk _ _ _ _; rw [← hg0]; exact A1.out.below a3 (by omega)
  have G1 : Hid (Blk w2 (g0 + 1) (szl 0 0) 27) := by show Blk _ _ _ _; rw [← hg0]; exact a1
  obtain ⟨t4, ht4⟩ : ∃ t4, w2.setRow (g0 + 1) (szl f t).toArray = t4 := ⟨_, rfl⟩
  have J0 : Hid (Blk t4 g0 (szl 0 0) 27) := by show Blk _ _ _ _; rw [← ht4]; exact G0.out.setRowOther (by omega)
  have J1 : Hid (Blk t4 (g0 + 1) (szl f t) 27) := by show Blk _ _ _ _; rw [← ht4]; exact G1.out.setRow
  have JB : Hid (Below g0 w t4) := by show Below _ _ _; rw [← ht4, ← hg0]; exact below_setRow' (A3.out.trans (a3.mono (by omega))) (by omega) _
  rw [hg0]
  have HG := Lib.hid hg0
  have HT4 := Lib.hid ht4
  clear a1 a2 a3 A1 A2 A3 hg0 ht4 G0
  go_wp2_with (first | (refine wpList_store_blk rfl 27 _ _ rfl (g0 + 1) (szl f t) (szl 0 0) 27 rfl rfl G1.out (sSizeR _ _) rfl (szl_one _ _) ?_; rw [HT4.out]; clear HT4) | (refine wpList_load_blkU rfl 27 _ rfl (g0 + 1) rfl (szl f t) 27 J1.out d HU.out HD.out (sSizeR _ _) ?_))
  refine (rightSR_any f t _).mono ?_
  rintro e w5 ⟨rfl, hb⟩
  rw [HF.out]
  have K0 : Hid (Blk w5 g0 (szl 0 0) 27) := J0.out.below hb J0.out.lt
  have K1 : Hid (Blk w5 (g0 + 1) (szl f t) 27) := J1.out.below hb J1.out.lt
  have KB : Hid (Below g0 w w5) := JB.out.trans (hb.mono (by have := J0.out.lt; omega))
  clear hb J0 J1 JB G1
  go_wp2_with (first | (refine wpList_buildTo rfl 27 _ rfl (some 13) rfl (szl 0 0).toArray (by kernel_rfl) ?_) | (refine wpList_store_blk rfl 27 _ _ rfl g0 (szl 0 0) (szl 0 0) 27 rfl rfl K0.out (sSizeR _ _) rfl (szl_one _ _) ?_))
  refine bodyPost_ret (v := .tuple #[.agg (szl 0 0).toArray, .int .i64 1]) ?_ rfl ?_
  · exact ret_blk2U rfl _ _ g0 27 (szl 0 0) _ rfl rfl K0.out.setRow d HU.out HD.out (sSizeR _ _)
  · exact ⟨rfl, below_setRow' (by rw [HG.out]; exact KB.out) (by have := HG.out; omega) _⟩

theorem wrap_i64s (n : Int) (h0 : -9223372036854775808 ≤ n) (h1 : n ≤ 9223372036854775807) : IntKind.i64.wrap n = n := by
  unfold IntKind.wrap
  simp [IntKind.signed, IntKind.bits]
  omega

/-- Who leads a view of so many replicas. -/
def ldI (n v : Int) : Int := max v 0 % n
/-- How many two groups have in common. -/
def mtI (n a b : Int) : Int := max (min (max a 0) n + min (max b 0) n - n) 0

set_option maxRecDepth 100000 in
set_option maxHeartbeats 1000000 in
theorem leaderS_any (f t : Nat) (v : Int) (w : World) (hf : SFit f t) : Calls Try.prog 24 #[.agg (szl (f : Int) (t : Int)).toArray, .int .i64 v] w (One (.int .i64 (ldI (nN f t : Nat) v)) w) := by
  have HF := Lib.hid hf
  obtain ⟨d, hu, hd⟩ := rowSize
  have HU := Lib.hid hu
  have HD := Lib.hid hd
  obtain ⟨n4, n26⟩ := nN_le hf
  obtain ⟨n, hn⟩ : ∃ n, nN f t = n := ⟨_, rfl⟩
  rw [hn] at n4 n26 ⊢
  have HN := Lib.hid hn
  have n0 : ¬ (n : Int) = 0 := by omega
  clear hf hu hd hn
  go_enter Try.func24, Try.ntmps24
  go_wp2_with (refine wpList_box_blk rfl 23 _ rfl (szl (f : Int) (t : Int)) rfl ?_)
  intro w1 a1 a2 a3
  have A1 := Lib.hid a1
  have A3 := Lib.hid a3
  clear a1 a2 a3
  go_wp2_with (refine wpList_load_blkU rfl 23 _ rfl w.heap.size rfl (szl (f : Int) (t : Int)) 23 A1.out d HU.out HD.out (sSize _ _) ?_)
  refine (nN_any f t _ HF.out).mono ?_
  rintro e w2 ⟨rfl, hb⟩
  rw [HN.out]
  have B3 : Hid (Below w.heap.size w w2) := A3.out.trans (hb.mono A3.out.size)
  clear hb A1 A3
  unfold ldI
  go_wp2
  go_ret
  exact ⟨rfl, B3.out⟩

set_option maxRecDepth 100000 in
set_option maxHeartbeats 1000000 in
theorem leaderSR_any (f t : Nat) (v : Int) (w : World) (hf : SFit f t) : Calls Try.prog 25 #[.agg (szl (f : Int) (t : Int)).toArray, .int .i64 v] w (One (.int .i64 (ldI (nN f t : Nat) v)) w) := by
  have HF := Lib.hid hf
  obtain ⟨d, hu, hd⟩ := rowSizeR
  have HU := Lib.hid hu
  have HD := Lib.hid hd
  obtain ⟨n4, n26⟩ := nN_le hf
  obtain ⟨n, hn⟩ : ∃ n, nN f t = n := ⟨_, rfl⟩
  rw [hn] at n4 n26 ⊢
  have HN := Lib.hid hn
  have n0 : ¬ (n : Int) = 0 := by omega
  clear hf hu hd hn
  go_enter Try.func25, Try.ntmps25
  go_wp2_with (refine wpList_box_blk rfl 27 _ rfl (szl (f : Int) (t : Int)) rfl ?_)
  intro w1 a1 a2 a3
  have A1 := Lib.hid a1
  have A3 := Lib.hid a3
  clear a1 a2 a3
  go_wp2_with (refine wpList_load_blkU rfl 27 _ rfl w.heap.size rfl (szl (f : Int) (t : Int)) 27 A1.out d HU.out HD.out (sSizeR _ _) ?_)
  refine (nNR_any f t _ HF.out).mono ?_
  rintro e w2 ⟨rfl, hb⟩
  rw [HN.out]
  have B3 : Hid (Below w.heap.size w w2) := A3.out.trans (hb.mono A3.out.size)
  clear hb A1 A3
  unfold ldI
  go_wp2
  go_ret
  exact ⟨rfl, B3.out⟩

set_option maxRecDepth 100000 in
set_option maxHeartbeats 1000000 in
theorem clampS_any (n a : Int) (g : Nat) (w : World) (cg : w.cell? ⟨g, 0, none⟩ = some (.int .i64 n)) : Calls Try.prog 30 #[.int .i64 a, .pointer (some ⟨g, 0, none⟩)] w (One (.int .i64 (min (max a 0) n)) w) := by
  go_enter Try.func30, Try.ntmps30
  go_wp2
  go_ret
  exact ⟨rfl, Below.refl _ _⟩

set_option maxRecDepth 100000 in
set_option maxHeartbeats 1000000 in
theorem meetS_any (f t : Nat) (a b : Int) (w : World) (hf : SFit f t) : Calls Try.prog 26 #[.agg (szl (f : Int) (t : Int)).toArray, .int .i64 a, .int .i64 b] w (One (.int .i64 (mtI (nN f t : Nat) a b)) w) := by
  have HF := Lib.hid hf
  obtain ⟨d, hu, hd⟩ := rowSize
  have HU := Lib.hid hu
  have HD := Lib.hid hd
  obtain ⟨n4, n26⟩ := nN_le hf
  obtain ⟨n, hn⟩ : ∃ n, nN f t = n := ⟨_, rfl⟩
  rw [hn] at n4 n26 ⊢
  have HN := Lib.hid hn
  have n0 : ¬ (n : Int) = 0 := by omega
  clear hf hu hd hn
  have hmf : ∀ (fn : Fn) (first cap : Array Value) (w : World), (Instr.makeFunc fn first cap).run Try.prog w = .ok (.func fn first cap) w := fun _ _ _ _ => rfl
  obtain ⟨x1, hx1⟩ : ∃ x, min (max a 0) (n : Int) = x := ⟨_, rfl⟩
  obtain ⟨x2, hx2⟩ : ∃ x, min (max b 0) (n : Int) = x := ⟨_, rfl⟩
  have b1 : 0 ≤ x1 ∧ x1 ≤ 26 := by omega
  have b2 : 0 ≤ x2 ∧ x2 ≤ 26 := by omega
  have HX1 := Lib.hid hx1
  have HX2 := Lib.hid hx2
  have EQ : Hid (mtI (n : Int) a b = max (x1 + x2 - n) 0) := by show _ = _; unfold mtI; rw [hx1, hx2]
  rw [EQ.out]
  obtain ⟨x3, hx3⟩ : ∃ x, x1 + x2 = x := ⟨_, rfl⟩
  rw [hx3]
  obtain ⟨x4, hx4⟩ : ∃ x, x3 - (n : Int) = x := ⟨_, rfl⟩
  rw [hx4]
  obtain ⟨x5, hx5⟩ : ∃ x, max x4 0 = x := ⟨_, rfl⟩
  rw [hx5]
  have HX3 := Lib.hid hx3
  have HX4 := Lib.hid hx4
  have HX5 := Lib.hid hx5
  have b3 : 0 ≤ x3 ∧ x3 ≤ 52 := by omega
  have b4 : -26 ≤ x4 ∧ x4 ≤ 52 := by omega
  clear hx1 hx2 hx3 hx4 hx5 EQ
  go_enter Try.func26, Try.ntmps26
  go_wp2_with (refine wpList_box_blk rfl 23 _ rfl (szl (f : Int) (t : Int)) rfl ?_)
  intro w1 a1 a2 a3
  have A1 := Lib.hid a1
  have A3 := Lib.hid a3
  clear a1 a2 a3
  go_wp2_with (refine wpList_load_blkU rfl 23 _ rfl w.heap.size rfl (szl (f : Int) (t : Int)) 23 A1.out d HU.out HD.out (sSize _ _) ?_)
  refine (nN_any f t _ HF.out).mono ?_
  rintro e w2 ⟨rfl, hb⟩
  rw [HN.out]
  have B1 : Hid (Blk w2 w.heap.size (szl (f : Int) (t : Int)) 23) := A1.out.below hb A1.out.lt
  have B3 : Hid (Below w.heap.size w w2) := A3.out.trans (hb.mono A3.out.size)
  clear hb A1 A3
  go_wp2_with fail
  obtain ⟨g7, hg7⟩ : ∃ g, w2.heap.size = g := ⟨_, rfl⟩
  obtain ⟨w3, hw3⟩ : ∃ w3, w2.alloc (.cells #[.int .i64 (n : Int)] 3) = w3 := ⟨_, rfl⟩
  have C3 : Hid (Below w.heap.size w w3) := by show Below _ _ _; rw [← hw3]; exact B3.out.alloc B3.out.size _
  have C7 : Hid (w3.cell? ⟨g7, 0, none⟩ = some (.int .i64 (n : Int))) := by show _ = _; rw [← hw3, ← hg7]; exact World.cell?_alloc_at _ _ _ _ rfl
  have CS : Hid (g7 < w3.heap.size) := by show _ < _; rw [← hw3, ← hg7]; simp
  rw [hw3, hg7]
  clear hw3 hg7 B1 B3
  refine wp_region_rely2 11 0 (fun x => ⟨#[Value.agg (szl ↑f ↑t).toArray, Value.int IntKind.i64 a, Value.int IntKind.i64 b, Value.pointer (some { block := w.heap.size, off := 0 }), undef, undef, x 10, Value.pointer (some { block := g7, off := 0 }), Value.func (Fn.func 30) #[] #[Value.pointer (some { block := g7, off := 0 })], Value.agg (szl ↑f ↑t).toArray, Value.int IntKind.i64 ↑n, Value.func (Fn.func 30) #[] #[Value.pointer (some { block := g7, off := 0 })], x 0, x 1, x 2, x 3, x 4, x 5, x 6, x 7, x 8, x 9], []⟩) (fun jj => ([eqV (Value.func (Fn.func 30) #[] #[Value.pointer (some { block := g7, off := 0 })]), eqV (Value.int IntKind.i64 a), (eqV (.int .i64 x1)), eqV (Value.func (Fn.func 30) #[] #[Value.pointer (some { block := g7, off := 0 })]), eqV (Value.int IntKind.i64 b), (eqV (.int .i64 x2)), eqV (.int .i64 x3), eqV (.int .i64 (n : Int)), eqV (.int .i64 x4), eqV (.int .i64 x5), eqV (.int .i64 x5)] : List (Value → World → Prop)).getD jj (fun _ _ => True)) rfl ⟨fun kk => [_, _, _, _, _, _, _, _, _, _, _].getD kk undef, rfl⟩ (by kernel_rfl) (by kernel_rfl) ?steps ?fin
  case steps =>
    refine StepsAt.val 0 (Value.func (Fn.func 30) #[] #[Value.pointer (some { block := g7, off := 0 })]) rfl (fun _ _ => rfl) rfl rfl (fun x w4 hb hd => ?_) ?_
    · first | (go_simp; done) | (go_simp; rfl)
    refine StepsAt.val 1 (Value.int IntKind.i64 a) rfl (fun _ _ => rfl) rfl rfl (fun x w4 hb hd => ?_) ?_
    · first | (go_simp; done) | (go_simp; rfl)
    refine StepsAt.cons 2 (fun _ _ _ h hb => h) (fun _ _ => rfl) rfl rfl (fun x w4 hb hd K hK => ?_) ?_
    · have h0 : Hid (x 0 = Value.func (Fn.func 30) #[] #[Value.pointer (some { block := g7, off := 0 })]) := hd 0 (by kernel_rfl)
      have h1 : Hid (x 1 = Value.int IntKind.i64 a) := hd 1 (by kernel_rfl)
      have e0 := h0.out
      have e1 := h1.out
      have key := fun wy hby => hK.out (.int .i64 x1) wy hby rfl
      simp only [Act.put, e0, e1, List.setIfInBounds_toArray, List.set_cons_zero, List.set_cons_succ] at key
      go_simp
      refine (clampS_any (n : Int) a g7 _ ((hb.cell (p := ⟨g7, 0, none⟩) CS.out).trans C7.out)).mono ?_
      rintro e w9 ⟨rfl, hb9⟩
      rw [HX1.out]
      exact key _ hb9
    refine StepsAt.val 3 (Value.func (Fn.func 30) #[] #[Value.pointer (some { block := g7, off := 0 })]) rfl (fun _ _ => rfl) rfl rfl (fun x w4 hb hd => ?_) ?_
    · first | (go_simp; done) | (go_simp; rfl)
    refine StepsAt.val 4 (Value.int IntKind.i64 b) rfl (fun _ _ => rfl) rfl rfl (fun x w4 hb hd => ?_) ?_
    · first | (go_simp; done) | (go_simp; rfl)
    refine StepsAt.cons 5 (fun _ _ _ h hb => h) (fun _ _ => rfl) rfl rfl (fun x w4 hb hd K hK => ?_) ?_
    · have h3 : Hid (x 3 = Value.func (Fn.func 30) #[] #[Value.pointer (some { block := g7, off := 0 })]) := hd 3 (by kernel_rfl)
      have h4 : Hid (x 4 = Value.int IntKind.i64 b) := hd 4 (by kernel_rfl)
      have e0 := h3.out
      have e1 := h4.out
      have key := fun wy hby => hK.out (.int .i64 x2) wy hby rfl
      simp only [Act.put, e0, e1, List.setIfInBounds_toArray, List.set_cons_zero, List.set_cons_succ] at key
      go_simp
      refine (clampS_any (n : Int) b g7 _ ((hb.cell (p := ⟨g7, 0, none⟩) CS.out).trans C7.out)).mono ?_
      rintro e w9 ⟨rfl, hb9⟩
      rw [HX2.out]
      exact key _ hb9
    refine StepsAt.val 6 (.int .i64 x3) rfl (fun _ _ => rfl) rfl rfl (fun x w4 hb hd => ?_) ?_
    · have h2 : x 2 = .int .i64 x1 := hd 2 (by kernel_rfl)
      have h5 : x 5 = .int .i64 x2 := hd 5 (by kernel_rfl)
      rw [h2, h5]
      go_simp
      rw [HX3.out]
      exact wrap_i64s _ (by omega) (by omega)
    refine StepsAt.val 7 (.int .i64 (n : Int)) rfl (fun _ _ => rfl) rfl rfl (fun x w4 hb hd => ?_) ?_
    · have cc := (hb.cell (p := ⟨g7, 0, none⟩) CS.out).trans C7.out
      first | (go_simp; done) | (go_simp; rfl)
    refine StepsAt.val 8 (.int .i64 x4) rfl (fun _ _ => rfl) rfl rfl (fun x w4 hb hd => ?_) ?_
    · have h6 : x 6 = .int .i64 x3 := hd 6 (by kernel_rfl)
      have h7 : x 7 = .int .i64 (n : Int) := hd 7 (by kernel_rfl)
      rw [h6, h7]
      go_simp
      rw [HX4.out]
      exact wrap_i64s _ (by omega) (by omega)
    refine StepsAt.val 9 (.int .i64 x5) rfl (fun _ _ => rfl) rfl rfl (fun x w4 hb hd => ?_) ?_
    · have h8 : x 8 = .int .i64 x4 := hd 8 (by kernel_rfl)
      rw [h8]
      go_simp
      rw [HX5.out]
    refine StepsAt.val 10 (.int .i64 x5) rfl (fun _ _ => rfl) rfl rfl (fun x w4 hb hd => ?_) ?_
    · have h9 : x 9 = .int .i64 x5 := hd 9 (by kernel_rfl)
      rw [h9]
      first | (go_simp; done) | (go_simp; rfl)
    exact StepsAt.done
  case fin =>
    intro x w4 hb hd
    have hx0 : x 0 = Value.func (Fn.func 30) #[] #[Value.pointer (some { block := g7, off := 0 })] := hd 0 (by omega)
    have hx1 : x 1 = Value.int IntKind.i64 a := hd 1 (by omega)
    have hx2 : x 2 = .int .i64 x1 := hd 2 (by omega)
    have hx3 : x 3 = Value.func (Fn.func 30) #[] #[Value.pointer (some { block := g7, off := 0 })] := hd 3 (by omega)
    have hx4 : x 4 = Value.int IntKind.i64 b := hd 4 (by omega)
    have hx5 : x 5 = .int .i64 x2 := hd 5 (by omega)
    have hx6 : x 6 = .int .i64 x3 := hd 6 (by omega)
    have hx7 : x 7 = .int .i64 (n : Int) := hd 7 (by omega)
    have hx8 : x 8 = .int .i64 x4 := hd 8 (by omega)
    have hx9 : x 9 = .int .i64 x5 := hd 9 (by omega)
    have hx10 : x 10 = .int .i64 x5 := hd 10 (by omega)
    refine AnyTill.any (S := fun _ => True) (m := 11) _ _ _ _ ?_
    refine AnyTill.done (by kernel_rfl) ?_
    refine NoPanic.normal ?_
    try dsimp only
    rw [hx0, hx1, hx2, hx3, hx4, hx5, hx6, hx7, hx8, hx9, hx10]
    have D3 : Hid (Below w.heap.size w w4) := C3.out.trans (hb.mono C3.out.size)
    clear hd hb hx0 hx1 hx2 hx3 hx4 hx5 hx6 hx7 hx8 hx9 hx10 x C3 C7 CS
    go_wp2
    go_ret
    exact ⟨rfl, D3.out⟩

set_option maxRecDepth 100000 in
set_option maxHeartbeats 1000000 in
theorem meetSR_any (f t : Nat) (a b : Int) (w : World) (hf : SFit f t) : Calls Try.prog 27 #[.agg (szl (f : Int) (t : Int)).toArray, .int .i64 a, .int .i64 b] w (One (.int .i64 (mtI (nN f t : Nat) a b)) w) := by
  have HF := Lib.hid hf
  obtain ⟨d, hu, hd⟩ := rowSizeR
  have HU := Lib.hid hu
  have HD := Lib.hid hd
  obtain ⟨n4, n26⟩ := nN_le hf
  obtain ⟨n, hn⟩ : ∃ n, nN f t = n := ⟨_, rfl⟩
  rw [hn] at n4 n26 ⊢
  have HN := Lib.hid hn
  have n0 : ¬ (n : Int) = 0 := by omega
  clear hf hu hd hn
  obtain ⟨x1, hx1⟩ : ∃ x, min (max a 0) (n : Int) = x := ⟨_, rfl⟩
  obtain ⟨x2, hx2⟩ : ∃ x, min (max b 0) (n : Int) = x := ⟨_, rfl⟩
  have b1 : 0 ≤ x1 ∧ x1 ≤ 26 := by omega
  have b2 : 0 ≤ x2 ∧ x2 ≤ 26 := by omega
  have EQ : Hid (mtI (n : Int) a b = max 0 (x1 + x2 - n)) := by show _ = _; unfold mtI; rw [hx1, hx2, Int.max_comm]
  rw [EQ.out]
  go_enter Try.func27, Try.ntmps27
  go_wp2_with (refine wpList_box_blk rfl 27 _ rfl (szl (f : Int) (t : Int)) rfl ?_)
  intro w1 a1 a2 a3
  have A1 := Lib.hid a1
  have A3 := Lib.hid a3
  clear a1 a2 a3
  go_wp2_with (refine wpList_load_blkU rfl 27 _ rfl w.heap.size rfl (szl (f : Int) (t : Int)) 27 A1.out d HU.out HD.out (sSizeR _ _) ?_)
  refine (nNR_any f t _ HF.out).mono ?_
  rintro e w2 ⟨rfl, hb⟩
  rw [HN.out]
  have B3 : Hid (Below w.heap.size w w2) := A3.out.trans (hb.mono A3.out.size)
  clear hb A1 A3
  clear EQ
  go_wp2
  go_ret
  exact ⟨rfl, B3.out⟩

set_option maxRecDepth 100000 in
set_option maxHeartbeats 1000000 in
theorem alive7_any (w : World) : Calls Try.prog 11 #[] w (One (.bool true) w) := by
  obtain ⟨d, hu, hd⟩ := rowSize
  have HU := Lib.hid hu
  have HD := Lib.hid hd
  have HF : Hid (SFit 1 1) := ⟨by decide, by decide, by decide⟩
  clear hu hd
  go_enter Try.func11, Try.ntmps11
  go_wp2_with fail
  refine (newS_yes 1 1 _ (by decide)).mono ?_
  rintro e w1 ⟨rfl, hb⟩
  have A3 := Lib.hid hb
  clear hb
  go_wp2_with (refine wpList_alloc_blk rfl 23 rfl _ zSize ?_)
  intro w2 a1 a2 a3
  obtain ⟨g1, hg1⟩ : ∃ g, w1.heap.size = g := ⟨_, rfl⟩
  rw [hg1] at a1 a2 a3 ⊢
  have G1 := Lib.hid a1
  obtain ⟨t2, ht2⟩ : ∃ t, w2.setRow g1 (szl 1 1).toArray = t := ⟨_, rfl⟩
  have B1 : Hid (Blk t2 g1 (szl 1 1) 23) := by show Blk _ _ _ _; rw [← ht2]; exact a1.setRow
  have B3 : Hid (Below w.heap.size w t2) := by show Below _ _ _; rw [← ht2]; exact below_setRow' (A3.out.trans (a3.mono (by have := A3.out.size; omega))) (by have := A3.out.size; omega) _
  have HT2 := Lib.hid ht2
  clear a1 a2 a3 hg1 ht2 A3
  go_wp2_with (refine wpList_store_blk rfl 23 _ _ rfl g1 (szl 1 1) (szl 0 0) 23 rfl rfl G1.out (sSize _ _) rfl (szl_one _ _) ?_; rw [HT2.out]; clear HT2)
  refine (newS_no 1 2 _ (by decide)).mono ?_
  rintro e w3 ⟨rfl, hb⟩
  have C1 : Hid (Blk w3 g1 (szl 1 1) 23) := B1.out.below hb B1.out.lt
  have C3 : Hid (Below w.heap.size w w3) := B3.out.trans (hb.mono B3.out.size)
  clear hb B1 B3 G1
  go_wp2_with (refine wpList_alloc_blk rfl 23 rfl _ zSize ?_)
  intro w4 a1 a2 a3
  obtain ⟨g3, hg3⟩ : ∃ g, w3.heap.size = g := ⟨_, rfl⟩
  have h13 : g1 < g3 := by have := C1.out.lt; omega
  rw [hg3] at a1 a2 a3 ⊢
  have G3 := Lib.hid a1
  obtain ⟨t4, ht4⟩ : ∃ t, w4.setRow g3 (szl 0 0).toArray = t := ⟨_, rfl⟩
  have D1 : Hid (Blk t4 g1 (szl 1 1) 23) := by show Blk _ _ _ _; rw [← ht4]; exact (C1.out.below a3 h13).setRowOther (by omega)
  have D3 : Hid (Below w.heap.size w t4) := by show Below _ _ _; rw [← ht4]; exact below_setRow' (C3.out.trans (a3.mono (by have := C3.out.size; omega))) (by have := C3.out.size; omega) _
  have HT4 := Lib.hid ht4
  clear a1 a2 a3 hg3 ht4 C1 C3 h13
  go_wp2_with (first | (refine wpList_store_blk rfl 23 _ _ rfl g3 (szl 0 0) (szl 0 0) 23 rfl rfl G3.out (sSize _ _) rfl (szl_one _ _) ?_; rw [HT4.out]; clear HT4) | (refine wpList_load_blkU rfl 23 _ rfl g1 rfl (szl 1 1) 23 D1.out d HU.out HD.out (sSize _ _) ?_))
  refine (nN_any 1 1 _ HF.out).mono ?_
  rintro e w5 ⟨rfl, hb⟩
  rw [show ((nN 1 1 : Nat) : Int) = 6 from rfl]
  have E1 : Hid (Blk w5 g1 (szl 1 1) 23) := D1.out.below hb D1.out.lt
  have E3 : Hid (Below w.heap.size w w5) := D3.out.trans (hb.mono D3.out.size)
  clear hb D1 D3 G3
  go_wp2_with (refine wpList_load_blkUG 23 _ rfl g1 rfl (szl 1 1) 23 E1.out d HU.out HD.out (sSize _ _) (by rfl) ?_)
  refine (nProof_any 1 1 _ HF.out).mono ?_
  rintro e w6 ⟨rfl, hb⟩
  rw [show ((nProof 1 1 : Nat) : Int) = 4 from rfl]
  have F1 : Hid (Blk w6 g1 (szl 1 1) 23) := E1.out.below hb E1.out.lt
  have F3 : Hid (Below w.heap.size w w6) := E3.out.trans (hb.mono E3.out.size)
  clear hb E1 E3
  go_wp2_with (refine wpList_load_blkUG 23 _ rfl g1 rfl (szl 1 1) 23 F1.out d HU.out HD.out (sSize _ _) (by rfl) ?_)
  refine (leaderS_any 1 1 7 _ HF.out).mono ?_
  rintro e w7 ⟨rfl, hb⟩
  rw [show ldI ((nN 1 1 : Nat) : Int) 7 = 1 from by decide]
  have H3 : Hid (Below w.heap.size w w7) := F3.out.trans (hb.mono F3.out.size)
  clear hb F1 F3
  go_wp2
  go_ret
  exact ⟨rfl, H3.out⟩

end Go.Proofs.Ytgabkeohihdenaa
