/-
  The law SizeMeets, walked: it answers true for every size and all groups.
-/
import Derived.Test.YtgabkeohihdenaaZC
namespace Go.Proofs.Ytgabkeohihdenaa
open Go.RowKit

set_option maxRecDepth 100000 in
set_option maxHeartbeats 2000000 in
theorem meets_no (f t : Int) (la lb : List Bool) (av bv : Value) (w : World) (hta : RdO w.heap.size w av la) (htb : RdO w.heap.size w bv lb) (hf : szB f t = false) : Calls Try.prog 4 #[.agg (szl f t).toArray, av, bv] w (One (.bool true) w) := by
  have HY := Lib.hid hf
  clear hf
  obtain ⟨Aa, ca, rfl, hca, hma⟩ := hta.shape
  obtain ⟨Ab, cb, rfl, hcb, hmb⟩ := htb.shape
  have HTA := Lib.hid hta
  have HTB := Lib.hid htb
  obtain ⟨na, hna⟩ : ∃ n, la.length = n := ⟨_, rfl⟩
  obtain ⟨nb, hnb⟩ : ∃ n, lb.length = n := ⟨_, rfl⟩
  have HNA := Lib.hid hna
  have HNB := Lib.hid hnb
  rw [hna] at HTA hca
  rw [hnb] at HTB hcb
  try rw [hna] at dla
  try rw [hnb] at dlb
  rw [hna, hnb]
  unfold maxLen at hma hmb
  clear hta htb hna hnb
  obtain ⟨d, hud, hdd⟩ := rowSize
  have HUd := Lib.hid hud
  have HDd := Lib.hid hdd
  clear hud hdd
  obtain ⟨r, hur, hdr⟩ := rowSizeR
  have HUr := Lib.hid hur
  have HDr := Lib.hid hdr
  clear hur hdr
  go_enter Try.func4, Try.ntmps4
  go_wp2_with (refine wpList_box_blk rfl 23 _ rfl (szl f t) rfl ?_)
  intro w1 a1 a2 a3
  obtain ⟨g3, hg3⟩ : ∃ g, w.heap.size = g := ⟨_, rfl⟩
  have A1 : Hid (Blk w1 g3 (szl f t) 23) := by rw [← hg3]; exact a1
  have A3 := Lib.hid a3
  have cf := (A1.out.cell 0).trans (show _ = some _ from rfl)
  have ct := (A1.out.cell 1).trans (show _ = some _ from rfl)
  rw [hg3]
  have HG := Lib.hid hg3
  clear a1 a2 a3 hg3
  go_wp2_with (first | (refine wpList_buildTo rfl 27 _ rfl (some 18) rfl (szl f t).toArray (by simp only [List.map_toArray, List.map_cons, List.map_nil]; exact builtSR _ _) ?_) | (refine wpList_alloc_blk rfl 27 rfl _ zSizeR ?_))
  intro w2 a1 a2 a3
  obtain ⟨g7, hg7⟩ : ∃ g, w1.heap.size = g := ⟨_, rfl⟩
  have h37 : g3 < g7 := by have := A1.out.lt; omega
  rw [hg7] at a1 a2 a3 ⊢
  have G1 := Lib.hid a1
  obtain ⟨w3, hw3⟩ : ∃ u, w2.setRow g7 (szl f t).toArray = u := ⟨_, rfl⟩
  have B1 : Hid (Blk w3 g3 (szl f t) 23) := by show Blk _ _ _ _; rw [← hw3]; exact (A1.out.below a3 h37).setRowOther (by omega)
  have B7 : Hid (Blk w3 g7 (szl f t) 27) := by show Blk _ _ _ _; rw [← hw3]; exact a1.setRow
  have B3 : Hid (Below w.heap.size w w3) := by show Below _ _ _; rw [← hw3]; exact below_setRow' (A3.out.trans (a3.mono (by have := A3.out.size; omega))) (by have := A3.out.size; omega) _
  have HW3 := Lib.hid hw3
  clear a1 a2 a3 hg7 hw3 A1 A3 cf ct
  go_wp2_with (first | (refine wpList_store_blk rfl 27 _ _ rfl g7 (szl f t) (szl 0 0) 27 rfl rfl G1.out (sSizeR _ _) rfl (szl_one _ _) ?_; rw [HW3.out]; clear HW3) | (refine wpList_load_blkU rfl 27 _ rfl g7 rfl (szl f t) 27 B7.out r HUr.out HDr.out (sSizeR _ _) ?_))
  refine (rightSR_any _ _ _).mono ?_
  rintro e w4 ⟨rfl, hb⟩
  rw [HY.out]
  have C1 : Hid (Blk w4 g3 (szl f t) 23) := B1.out.below hb B1.out.lt
  have C7 : Hid (Blk w4 g7 (szl f t) 27) := B7.out.below hb B7.out.lt
  have C3 : Hid (Below w.heap.size w w4) := B3.out.trans (hb.mono B3.out.size)
  clear hb B1 B7 B3 G1
  go_wp2_with fail
  refine (alive7_any _).mono ?_
  rintro e w5 ⟨rfl, hb⟩
  have Z3 : Hid (Below w.heap.size w w5) := C3.out.trans (hb.mono C3.out.size)
  clear hb
  go_wp2
  go_ret
  exact ⟨rfl, Z3.out⟩

set_option maxRecDepth 100000 in
set_option maxHeartbeats 2000000 in
theorem meets_la (f t : Nat) (la lb : List Bool) (av bv : Value) (w : World) (hta : RdO w.heap.size w av la) (htb : RdO w.heap.size w bv lb) (hf : SFit f t) (h1 : 60 < la.length) : Calls Try.prog 4 #[.agg (szl (f : Int) (t : Int)).toArray, av, bv] w (One (.bool true) w) := by
  have HF := Lib.hid hf
  have HY := Lib.hid hf.yes
  have dla : decide ((60 : Int) < (la.length : Int)) = true := decide_eq_true (by omega)
  clear hf h1
  obtain ⟨Aa, ca, rfl, hca, hma⟩ := hta.shape
  obtain ⟨Ab, cb, rfl, hcb, hmb⟩ := htb.shape
  have HTA := Lib.hid hta
  have HTB := Lib.hid htb
  obtain ⟨na, hna⟩ : ∃ n, la.length = n := ⟨_, rfl⟩
  obtain ⟨nb, hnb⟩ : ∃ n, lb.length = n := ⟨_, rfl⟩
  have HNA := Lib.hid hna
  have HNB := Lib.hid hnb
  rw [hna] at HTA hca
  rw [hnb] at HTB hcb
  try rw [hna] at dla
  try rw [hnb] at dlb
  rw [hna, hnb]
  unfold maxLen at hma hmb
  clear hta htb hna hnb
  obtain ⟨d, hud, hdd⟩ := rowSize
  have HUd := Lib.hid hud
  have HDd := Lib.hid hdd
  clear hud hdd
  obtain ⟨r, hur, hdr⟩ := rowSizeR
  have HUr := Lib.hid hur
  have HDr := Lib.hid hdr
  clear hur hdr
  go_enter Try.func4, Try.ntmps4
  go_wp2_with (refine wpList_box_blk rfl 23 _ rfl (szl (f : Int) (t : Int)) rfl ?_)
  intro w1 a1 a2 a3
  obtain ⟨g3, hg3⟩ : ∃ g, w.heap.size = g := ⟨_, rfl⟩
  have A1 : Hid (Blk w1 g3 (szl (f : Int) (t : Int)) 23) := by rw [← hg3]; exact a1
  have A3 := Lib.hid a3
  have cf := (A1.out.cell 0).trans (show _ = some _ from rfl)
  have ct := (A1.out.cell 1).trans (show _ = some _ from rfl)
  rw [hg3]
  have HG := Lib.hid hg3
  clear a1 a2 a3 hg3
  go_wp2_with (first | (refine wpList_buildTo rfl 27 _ rfl (some 18) rfl (szl (f : Int) (t : Int)).toArray (by simp only [List.map_toArray, List.map_cons, List.map_nil]; exact builtSR _ _) ?_) | (refine wpList_alloc_blk rfl 27 rfl _ zSizeR ?_))
  intro w2 a1 a2 a3
  obtain ⟨g7, hg7⟩ : ∃ g, w1.heap.size = g := ⟨_, rfl⟩
  have h37 : g3 < g7 := by have := A1.out.lt; omega
  rw [hg7] at a1 a2 a3 ⊢
  have G1 := Lib.hid a1
  obtain ⟨w3, hw3⟩ : ∃ u, w2.setRow g7 (szl (f : Int) (t : Int)).toArray = u := ⟨_, rfl⟩
  have B1 : Hid (Blk w3 g3 (szl (f : Int) (t : Int)) 23) := by show Blk _ _ _ _; rw [← hw3]; exact (A1.out.below a3 h37).setRowOther (by omega)
  have B7 : Hid (Blk w3 g7 (szl (f : Int) (t : Int)) 27) := by show Blk _ _ _ _; rw [← hw3]; exact a1.setRow
  have B3 : Hid (Below w.heap.size w w3) := by show Below _ _ _; rw [← hw3]; exact below_setRow' (A3.out.trans (a3.mono (by have := A3.out.size; omega))) (by have := A3.out.size; omega) _
  have HW3 := Lib.hid hw3
  clear a1 a2 a3 hg7 hw3 A1 A3 cf ct
  go_wp2_with (first | (refine wpList_store_blk rfl 27 _ _ rfl g7 (szl (f : Int) (t : Int)) (szl 0 0) 27 rfl rfl G1.out (sSizeR _ _) rfl (szl_one _ _) ?_; rw [HW3.out]; clear HW3) | (refine wpList_load_blkU rfl 27 _ rfl g7 rfl (szl (f : Int) (t : Int)) 27 B7.out r HUr.out HDr.out (sSizeR _ _) ?_))
  refine (rightSR_any _ _ _).mono ?_
  rintro e w4 ⟨rfl, hb⟩
  rw [HY.out]
  have C1 : Hid (Blk w4 g3 (szl (f : Int) (t : Int)) 23) := B1.out.below hb B1.out.lt
  have C7 : Hid (Blk w4 g7 (szl (f : Int) (t : Int)) 27) := B7.out.below hb B7.out.lt
  have C3 : Hid (Below w.heap.size w w4) := B3.out.trans (hb.mono B3.out.size)
  clear hb B1 B7 B3 G1
  go_wp2_with fail
  refine (alive7_any _).mono ?_
  rintro e w5 ⟨rfl, hb⟩
  have Z3 : Hid (Below w.heap.size w w5) := C3.out.trans (hb.mono C3.out.size)
  clear hb
  go_wp2
  go_ret
  exact ⟨rfl, Z3.out⟩

set_option maxRecDepth 100000 in
set_option maxHeartbeats 2000000 in
theorem meets_lb (f t : Nat) (la lb : List Bool) (av bv : Value) (w : World) (hta : RdO w.heap.size w av la) (htb : RdO w.heap.size w bv lb) (hf : SFit f t) (h1 : la.length ≤ 60) (h2 : 60 < lb.length) : Calls Try.prog 4 #[.agg (szl (f : Int) (t : Int)).toArray, av, bv] w (One (.bool true) w) := by
  have HF := Lib.hid hf
  have HY := Lib.hid hf.yes
  have dla : decide ((60 : Int) < (la.length : Int)) = false := decide_eq_false (by omega)
  have dlb : decide ((60 : Int) < (lb.length : Int)) = true := decide_eq_true (by omega)
  clear hf h1 h2
  obtain ⟨Aa, ca, rfl, hca, hma⟩ := hta.shape
  obtain ⟨Ab, cb, rfl, hcb, hmb⟩ := htb.shape
  have HTA := Lib.hid hta
  have HTB := Lib.hid htb
  obtain ⟨na, hna⟩ : ∃ n, la.length = n := ⟨_, rfl⟩
  obtain ⟨nb, hnb⟩ : ∃ n, lb.length = n := ⟨_, rfl⟩
  have HNA := Lib.hid hna
  have HNB := Lib.hid hnb
  rw [hna] at HTA hca
  rw [hnb] at HTB hcb
  try rw [hna] at dla
  try rw [hnb] at dlb
  rw [hna, hnb]
  unfold maxLen at hma hmb
  clear hta htb hna hnb
  obtain ⟨d, hud, hdd⟩ := rowSize
  have HUd := Lib.hid hud
  have HDd := Lib.hid hdd
  clear hud hdd
  obtain ⟨r, hur, hdr⟩ := rowSizeR
  have HUr := Lib.hid hur
  have HDr := Lib.hid hdr
  clear hur hdr
  go_enter Try.func4, Try.ntmps4
  go_wp2_with (refine wpList_box_blk rfl 23 _ rfl (szl (f : Int) (t : Int)) rfl ?_)
  intro w1 a1 a2 a3
  obtain ⟨g3, hg3⟩ : ∃ g, w.heap.size = g := ⟨_, rfl⟩
  have A1 : Hid (Blk w1 g3 (szl (f : Int) (t : Int)) 23) := by rw [← hg3]; exact a1
  have A3 := Lib.hid a3
  have cf := (A1.out.cell 0).trans (show _ = some _ from rfl)
  have ct := (A1.out.cell 1).trans (show _ = some _ from rfl)
  rw [hg3]
  have HG := Lib.hid hg3
  clear a1 a2 a3 hg3
  go_wp2_with (first | (refine wpList_buildTo rfl 27 _ rfl (some 18) rfl (szl (f : Int) (t : Int)).toArray (by simp only [List.map_toArray, List.map_cons, List.map_nil]; exact builtSR _ _) ?_) | (refine wpList_alloc_blk rfl 27 rfl _ zSizeR ?_))
  intro w2 a1 a2 a3
  obtain ⟨g7, hg7⟩ : ∃ g, w1.heap.size = g := ⟨_, rfl⟩
  have h37 : g3 < g7 := by have := A1.out.lt; omega
  rw [hg7] at a1 a2 a3 ⊢
  have G1 := Lib.hid a1
  obtain ⟨w3, hw3⟩ : ∃ u, w2.setRow g7 (szl (f : Int) (t : Int)).toArray = u := ⟨_, rfl⟩
  have B1 : Hid (Blk w3 g3 (szl (f : Int) (t : Int)) 23) := by show Blk _ _ _ _; rw [← hw3]; exact (A1.out.below a3 h37).setRowOther (by omega)
  have B7 : Hid (Blk w3 g7 (szl (f : Int) (t : Int)) 27) := by show Blk _ _ _ _; rw [← hw3]; exact a1.setRow
  have B3 : Hid (Below w.heap.size w w3) := by show Below _ _ _; rw [← hw3]; exact below_setRow' (A3.out.trans (a3.mono (by have := A3.out.size; omega))) (by have := A3.out.size; omega) _
  have HW3 := Lib.hid hw3
  clear a1 a2 a3 hg7 hw3 A1 A3 cf ct
  go_wp2_with (first | (refine wpList_store_blk rfl 27 _ _ rfl g7 (szl (f : Int) (t : Int)) (szl 0 0) 27 rfl rfl G1.out (sSizeR _ _) rfl (szl_one _ _) ?_; rw [HW3.out]; clear HW3) | (refine wpList_load_blkU rfl 27 _ rfl g7 rfl (szl (f : Int) (t : Int)) 27 B7.out r HUr.out HDr.out (sSizeR _ _) ?_))
  refine (rightSR_any _ _ _).mono ?_
  rintro e w4 ⟨rfl, hb⟩
  rw [HY.out]
  have C1 : Hid (Blk w4 g3 (szl (f : Int) (t : Int)) 23) := B1.out.below hb B1.out.lt
  have C7 : Hid (Blk w4 g7 (szl (f : Int) (t : Int)) 27) := B7.out.below hb B7.out.lt
  have C3 : Hid (Below w.heap.size w w4) := B3.out.trans (hb.mono B3.out.size)
  clear hb B1 B7 B3 G1
  go_wp2_with fail
  refine (alive7_any _).mono ?_
  rintro e w5 ⟨rfl, hb⟩
  have Z3 : Hid (Below w.heap.size w w5) := C3.out.trans (hb.mono C3.out.size)
  clear hb
  go_wp2
  go_ret
  exact ⟨rfl, Z3.out⟩

set_option maxRecDepth 100000 in
set_option maxHeartbeats 2000000 in
theorem meets_main (f t : Nat) (la lb : List Bool) (av bv : Value) (w : World) (hta : RdO w.heap.size w av la) (htb : RdO w.heap.size w bv lb) (hf : SFit f t) (h1 : la.length ≤ 60) (h2 : lb.length ≤ 60) : Calls Try.prog 4 #[.agg (szl (f : Int) (t : Int)).toArray, av, bv] w (One (.bool true) w) := by
  have HF := Lib.hid hf
  have HY := Lib.hid hf.yes
  obtain ⟨n4, n26⟩ := nN_le hf
  obtain ⟨n, hn⟩ : ∃ n, nN f t = n := ⟨_, rfl⟩
  rw [hn] at n4 n26
  have HN := Lib.hid hn
  have dla : decide ((60 : Int) < (la.length : Int)) = false := decide_eq_false (by omega)
  have dlb : decide ((60 : Int) < (lb.length : Int)) = false := decide_eq_false (by omega)
  clear hf hn
  obtain ⟨Aa, ca, rfl, hca, hma⟩ := hta.shape
  obtain ⟨Ab, cb, rfl, hcb, hmb⟩ := htb.shape
  have HTA := Lib.hid hta
  have HTB := Lib.hid htb
  obtain ⟨na, hna⟩ : ∃ n, la.length = n := ⟨_, rfl⟩
  obtain ⟨nb, hnb⟩ : ∃ n, lb.length = n := ⟨_, rfl⟩
  have HNA := Lib.hid hna
  have HNB := Lib.hid hnb
  rw [hna] at HTA hca
  rw [hnb] at HTB hcb
  try rw [hna] at dla
  try rw [hnb] at dlb
  rw [hna, hnb]
  unfold maxLen at hma hmb
  clear hta htb hna hnb
  obtain ⟨d, hud, hdd⟩ := rowSize
  have HUd := Lib.hid hud
  have HDd := Lib.hid hdd
  clear hud hdd
  obtain ⟨r, hur, hdr⟩ := rowSizeR
  have HUr := Lib.hid hur
  have HDr := Lib.hid hdr
  clear hur hdr
  go_enter Try.func4, Try.ntmps4
  go_wp2_with (refine wpList_box_blk rfl 23 _ rfl (szl (f : Int) (t : Int)) rfl ?_)
  intro w1 a1 a2 a3
  obtain ⟨g3, hg3⟩ : ∃ g, w.heap.size = g := ⟨_, rfl⟩
  have A1 : Hid (Blk w1 g3 (szl (f : Int) (t : Int)) 23) := by rw [← hg3]; exact a1
  have A3 := Lib.hid a3
  have cf := (A1.out.cell 0).trans (show _ = some _ from rfl)
  have ct := (A1.out.cell 1).trans (show _ = some _ from rfl)
  rw [hg3]
  have HG := Lib.hid hg3
  clear a1 a2 a3 hg3
  go_wp2_with (first | (refine wpList_buildTo rfl 27 _ rfl (some 18) rfl (szl (f : Int) (t : Int)).toArray (by simp only [List.map_toArray, List.map_cons, List.map_nil]; exact builtSR _ _) ?_) | (refine wpList_alloc_blk rfl 27 rfl _ zSizeR ?_))
  intro w2 a1 a2 a3
  obtain ⟨g7, hg7⟩ : ∃ g, w1.heap.size = g := ⟨_, rfl⟩
  have h37 : g3 < g7 := by have := A1.out.lt; omega
  rw [hg7] at a1 a2 a3 ⊢
  have G1 := Lib.hid a1
  obtain ⟨w3, hw3⟩ : ∃ u, w2.setRow g7 (szl (f : Int) (t : Int)).toArray = u := ⟨_, rfl⟩
  have B1 : Hid (Blk w3 g3 (szl (f : Int) (t : Int)) 23) := by show Blk _ _ _ _; rw [← hw3]; exact (A1.out.below a3 h37).setRowOther (by omega)
  have B7 : Hid (Blk w3 g7 (szl (f : Int) (t : Int)) 27) := by show Blk _ _ _ _; rw [← hw3]; exact a1.setRow
  have B3 : Hid (Below w.heap.size w w3) := by show Below _ _ _; rw [← hw3]; exact below_setRow' (A3.out.trans (a3.mono (by have := A3.out.size; omega))) (by have := A3.out.size; omega) _
  have HW3 := Lib.hid hw3
  clear a1 a2 a3 hg7 hw3 A1 A3 cf ct
  go_wp2_with (first | (refine wpList_store_blk rfl 27 _ _ rfl g7 (szl (f : Int) (t : Int)) (szl 0 0) 27 rfl rfl G1.out (sSizeR _ _) rfl (szl_one _ _) ?_; rw [HW3.out]; clear HW3) | (refine wpList_load_blkU rfl 27 _ rfl g7 rfl (szl (f : Int) (t : Int)) 27 B7.out r HUr.out HDr.out (sSizeR _ _) ?_))
  refine (rightSR_any _ _ _).mono ?_
  rintro e w4 ⟨rfl, hb⟩
  rw [HY.out]
  have C1 : Hid (Blk w4 g3 (szl (f : Int) (t : Int)) 23) := B1.out.below hb B1.out.lt
  have C7 : Hid (Blk w4 g7 (szl (f : Int) (t : Int)) 27) := B7.out.below hb B7.out.lt
  have C3 : Hid (Below w.heap.size w w4) := B3.out.trans (hb.mono B3.out.size)
  clear hb B1 B7 B3 G1
  rw [HNA.out] at h1
  rw [HNB.out] at h2
  have K0 : Hid (Blk w4 g3 (szl (f : Int) (t : Int)) 23 ∧ Blk w4 g7 (szl (f : Int) (t : Int)) 27 ∧ Below w.heap.size w w4) := ⟨C1.out, C7.out, C3.out⟩
  clear C1 C7 C3
  go_wp2
  clear dla dlb
  go_loopw [8, 9, 10, 11] (fun x8 x9 x10 x11 wr => ∃ i x y b : Nat, i ≤ n ∧ x8 = .int .i64 (x : Int) ∧ x9 = .int .i64 (y : Int) ∧ x10 = .int .i64 (b : Int) ∧ x11 = .int .i64 (i : Int) ∧ x ≤ i ∧ y ≤ i ∧ b ≤ i ∧ x + y ≤ i + b ∧ Hid (Blk wr g3 (szl (f : Int) (t : Int)) 23 ∧ Blk wr g7 (szl (f : Int) (t : Int)) 27 ∧ Below w.heap.size w wr)) (fun _ _ _ x11 _ => (26 - (intOf x11)).toNat)
  case atStart => exact ⟨0, 0, 0, 0, by omega, rfl, rfl, rfl, rfl, by omega, by omega, by omega, by omega, K0⟩
  case round =>
    clear K0
    obtain ⟨i, x, y, b, hi, rfl, rfl, rfl, rfl, hx, hy, hbb, hxy, KK⟩ := hrel
    go_wp2_with (refine wpList_load_blkU rfl 27 _ rfl g7 rfl (szl (f : Int) (t : Int)) 27 KK.out.2.1 r HUr.out HDr.out (sSizeR _ _) ?_)
    refine (nNR_any f t _ HF.out).mono ?_
    rintro e w5 ⟨rfl, hb⟩
    rw [HN.out]
    have M1 : Hid (Blk w5 g3 (szl (f : Int) (t : Int)) 23) := KK.out.1.below hb KK.out.1.lt
    have M7 : Hid (Blk w5 g7 (szl (f : Int) (t : Int)) 27) := KK.out.2.1.below hb KK.out.2.1.lt
    have M3 : Hid (Below w.heap.size w w5) := KK.out.2.2.trans (hb.mono KK.out.2.2.size)
    clear hb KK
    by_cases hin : i < n
    · have din : decide ((i : Int) < (n : Int)) = true := decide_eq_true (by omega)
      go_wp2_with fail
      clear din
      by_cases ha : i < na <;> by_cases hb' : i < nb
      · have dia : decide ((i : Int) < (na : Int)) = true := decide_eq_true (by omega)
        have dib : decide ((i : Int) < (nb : Int)) = true := decide_eq_true (by omega)
        obtain ⟨pa, rfl, ca_⟩ := HTA.out.at_ i (by rw [HNA.out]; omega)
        have CA := Lib.hid ca_
        have CL : Hid (pa.block < w.heap.size) := by
          obtain ⟨_, _, hv, _, _, _, hr⟩ := HTA.out
          injection hv with e1 e2 e3
          subst e1
          exact (hr pa rfl).1 (by rw [HNA.out]; omega)
        obtain ⟨va, hva⟩ : ∃ v, la.getD i false = v := ⟨_, rfl⟩
        rw [hva] at CA
        clear ca_ hva
        obtain ⟨pb, rfl, cb_⟩ := HTB.out.at_ i (by rw [HNB.out]; omega)
        have CB := Lib.hid cb_
        have CM : Hid (pb.block < w.heap.size) := by
          obtain ⟨_, _, hv, _, _, _, hr⟩ := HTB.out
          injection hv with e1 e2 e3
          subst e1
          exact (hr pb rfl).1 (by rw [HNB.out]; omega)
        obtain ⟨vb, hvb⟩ : ∃ v, lb.getD i false = v := ⟨_, rfl⟩
        rw [hvb] at CB
        clear cb_ hvb
        refine wp_region_rely2 22 0 (fun z => ⟨#[.agg (szl ↑f ↑t).toArray, .slice (some pa) na ca, .slice (some pb) nb cb, .pointer (some { block := g3, off := 0 }), undef, undef, .bool false, .pointer (some { block := g7, off := 0 }), .int IntKind.i64 ↑x, .int IntKind.i64 ↑y, .int IntKind.i64 ↑b, .int IntKind.i64 ↑i, z 20, z 21, .pointer (some { block := g3, off := 0 }), .int IntKind.i64 ↑f, .pointer (some { block := g3, off := 1 }), .int IntKind.i64 ↑t, .agg (szl ↑f ↑t).toArray, .agg (szl ↑f ↑t).toArray, .bool true, .bool false, .bool false, .slice (some pa) na ca, .int IntKind.i64 ↑na, .bool false, .bool false, .bool false, .slice (some pb) nb cb, .int IntKind.i64 ↑nb, .bool false, .bool false, undef, .int IntKind.i64 ↑i, .agg (szl ↑f ↑t).toArray, .int IntKind.i64 ↑n, .bool true, u37, u38, z 0, z 1, z 2, z 3, z 4, z 5, z 6, z 7, z 8, z 9, z 10, z 11, z 12, z 13, z 14, z 15, z 16, z 17, z 18, z 19, u59, u60, u61, u62, u63, u64, u65, u66, u67, u68, u69, u70, undef, undef, undef, undef, undef, undef, undef, undef, undef, undef, undef, undef, undef, undef, undef, undef, undef, undef, undef, undef, undef, undef, undef, undef, undef, undef, undef, undef, undef, undef, undef, undef, undef, undef, undef, undef, undef], []⟩) (fun jj => ([eqV (.int IntKind.i64 ↑i), eqV (.slice (some pa) na ca), eqV (.int .i64 (na : Int)), eqV (.bool true), eqV (.bool true), eqV (.slice (some pa) na ca), eqV (.int IntKind.i64 ↑i), eqV (.pointer (some (pa.add i))), eqV (.bool va), eqV (.bool va), eqV (.int IntKind.i64 ↑i), eqV (.slice (some pb) nb cb), eqV (.int .i64 (nb : Int)), eqV (.bool true), eqV (.bool true), eqV (.slice (some pb) nb cb), eqV (.int IntKind.i64 ↑i), eqV (.pointer (some (pb.add i))), eqV (.bool vb), eqV (.bool vb), eqV (.bool va), eqV (.bool vb)] : List (Value → World → Prop)).getD jj (fun _ _ => True)) rfl ⟨fun kk => [_, _, _, _, _, _, _, _, _, _, _, _, _, _, _, _, _, _, _, _, _, _].getD kk undef, rfl⟩ (by kernel_rfl) (by kernel_rfl) ?steps ?fin
        case steps =>
          refine StepsAt.val 0 (.int IntKind.i64 ↑i) rfl (fun _ _ => rfl) rfl rfl (fun z w6 hb hd => ?_) ?_
          · first | (go_simp; done) | (go_simp; rfl)
          refine StepsAt.val 1 (.slice (some pa) na ca) rfl (fun _ _ => rfl) rfl rfl (fun z w6 hb hd => ?_) ?_
          · first | (go_simp; done) | (go_simp; rfl)
          refine StepsAt.val 2 (.int .i64 (na : Int)) rfl (fun _ _ => rfl) rfl rfl (fun z w6 hb hd => ?_) ?_
          · have h1 : z 1 = .slice (some pa) na ca := hd 1 (by kernel_rfl)
            rw [h1]
            first | (go_simp; done) | (go_simp; rfl)
          refine StepsAt.val 3 (.bool true) rfl (fun _ _ => rfl) rfl rfl (fun z w6 hb hd => ?_) ?_
          · have h0 : z 0 = .int IntKind.i64 ↑i := hd 0 (by kernel_rfl)
            have h2 : z 2 = .int .i64 (na : Int) := hd 2 (by kernel_rfl)
            rw [h0, h2]
            first | (go_simp; done) | (go_simp; exact dia) | (rw [← dia]; go_simp)
          refine StepsAt.val 4 (.bool true) rfl (fun _ _ => rfl) rfl rfl (fun z w6 hb hd => ?_) ?_
          · have h3 : z 3 = .bool true := hd 3 (by kernel_rfl)
            rw [h3]
            first | (go_simp; done) | (go_simp; rfl)
          refine StepsAt.valG 5 (.slice (some pa) na ca) rfl (fun _ _ => rfl) rfl (fun z w6 hd => ?_) (fun z w6 hb hd => ?_) ?_
          · have hG : z 4 = .bool true := hd 4 (by kernel_rfl)
            simp [Region.wanted, yielded, hG]
          · first | (go_simp; done) | (go_simp; rfl)
          refine StepsAt.valG 6 (.int IntKind.i64 ↑i) rfl (fun _ _ => rfl) rfl (fun z w6 hd => ?_) (fun z w6 hb hd => ?_) ?_
          · have hG : z 4 = .bool true := hd 4 (by kernel_rfl)
            simp [Region.wanted, yielded, hG]
          · first | (go_simp; done) | (go_simp; rfl)
          refine StepsAt.valG 7 (.pointer (some (pa.add i))) rfl (fun _ _ => rfl) rfl (fun z w6 hd => ?_) (fun z w6 hb hd => ?_) ?_
          · have hG : z 4 = .bool true := hd 4 (by kernel_rfl)
            simp [Region.wanted, yielded, hG]
          · have h5 : z 5 = .slice (some pa) na ca := hd 5 (by kernel_rfl)
            have h6 : z 6 = .int IntKind.i64 ↑i := hd 6 (by kernel_rfl)
            rw [h5, h6]
            have zi : (i : Int) < (na : Int) := by omega
            first | (go_simp; done) | (go_simp; rfl)
          refine StepsAt.valG 8 (.bool va) rfl (fun _ _ => rfl) rfl (fun z w6 hd => ?_) (fun z w6 hb hd => ?_) ?_
          · have hG : z 4 = .bool true := hd 4 (by kernel_rfl)
            simp [Region.wanted, yielded, hG]
          · have h7 : z 7 = .pointer (some (pa.add i)) := hd 7 (by kernel_rfl)
            have cc := (((M3.out.trans (hb.mono M3.out.size))).cell (p := pa.add i) (by rw [addr_block]; exact CL.out)).trans CA.out
            rw [h7]
            first | (go_simp; done) | (go_simp; rfl)
          refine StepsAt.val 9 (.bool va) rfl (fun _ _ => rfl) rfl rfl (fun z w6 hb hd => ?_) ?_
          · have h4 : z 4 = .bool true := hd 4 (by kernel_rfl)
            have h8 : z 8 = .bool va := hd 8 (by kernel_rfl)
            rw [h4, h8]
            first | (go_simp; done) | (go_simp; rfl)
          refine StepsAt.val 10 (.int IntKind.i64 ↑i) rfl (fun _ _ => rfl) rfl rfl (fun z w6 hb hd => ?_) ?_
          · first | (go_simp; done) | (go_simp; rfl)
          refine StepsAt.val 11 (.slice (some pb) nb cb) rfl (fun _ _ => rfl) rfl rfl (fun z w6 hb hd => ?_) ?_
          · first | (go_simp; done) | (go_simp; rfl)
          refine StepsAt.val 12 (.int .i64 (nb : Int)) rfl (fun _ _ => rfl) rfl rfl (fun z w6 hb hd => ?_) ?_
          · have h11 : z 11 = .slice (some pb) nb cb := hd 11 (by kernel_rfl)
            rw [h11]
            first | (go_simp; done) | (go_simp; rfl)
          refine StepsAt.val 13 (.bool true) rfl (fun _ _ => rfl) rfl rfl (fun z w6 hb hd => ?_) ?_
          · have h10 : z 10 = .int IntKind.i64 ↑i := hd 10 (by kernel_rfl)
            have h12 : z 12 = .int .i64 (nb : Int) := hd 12 (by kernel_rfl)
            rw [h10, h12]
            first | (go_simp; done) | (go_simp; exact dib) | (rw [← dib]; go_simp)
          refine StepsAt.val 14 (.bool true) rfl (fun _ _ => rfl) rfl rfl (fun z w6 hb hd => ?_) ?_
          · have h13 : z 13 = .bool true := hd 13 (by kernel_rfl)
            rw [h13]
            first | (go_simp; done) | (go_simp; rfl)
          refine StepsAt.valG 15 (.slice (some pb) nb cb) rfl (fun _ _ => rfl) rfl (fun z w6 hd => ?_) (fun z w6 hb hd => ?_) ?_
          · have hG : z 14 = .bool true := hd 14 (by kernel_rfl)
            simp [Region.wanted, yielded, hG]
          · first | (go_simp; done) | (go_simp; rfl)
          refine StepsAt.valG 16 (.int IntKind.i64 ↑i) rfl (fun _ _ => rfl) rfl (fun z w6 hd => ?_) (fun z w6 hb hd => ?_) ?_
          · have hG : z 14 = .bool true := hd 14 (by kernel_rfl)
            simp [Region.wanted, yielded, hG]
          · first | (go_simp; done) | (go_simp; rfl)
          refine StepsAt.valG 17 (.pointer (some (pb.add i))) rfl (fun _ _ => rfl) rfl (fun z w6 hd => ?_) (fun z w6 hb hd => ?_) ?_
          · have hG : z 14 = .bool true := hd 14 (by kernel_rfl)
            simp [Region.wanted, yielded, hG]
          · have h15 : z 15 = .slice (some pb) nb cb := hd 15 (by kernel_rfl)
            have h16 : z 16 = .int IntKind.i64 ↑i := hd 16 (by kernel_rfl)
            rw [h15, h16]
            have zi : (i : Int) < (nb : Int) := by omega
            first | (go_simp; done) | (go_simp; rfl)
          refine StepsAt.valG 18 (.bool vb) rfl (fun _ _ => rfl) rfl (fun z w6 hd => ?_) (fun z w6 hb hd => ?_) ?_
          · have hG : z 14 = .bool true := hd 14 (by kernel_rfl)
            simp [Region.wanted, yielded, hG]
          · have h17 : z 17 = .pointer (some (pb.add i)) := hd 17 (by kernel_rfl)
            have cc := (((M3.out.trans (hb.mono M3.out.size))).cell (p := pb.add i) (by rw [addr_block]; exact CM.out)).trans CB.out
            rw [h17]
            first | (go_simp; done) | (go_simp; rfl)
          refine StepsAt.val 19 (.bool vb) rfl (fun _ _ => rfl) rfl rfl (fun z w6 hb hd => ?_) ?_
          · have h14 : z 14 = .bool true := hd 14 (by kernel_rfl)
            have h18 : z 18 = .bool vb := hd 18 (by kernel_rfl)
            rw [h14, h18]
            first | (go_simp; done) | (go_simp; rfl)
          refine StepsAt.val 20 (.bool va) rfl (fun _ _ => rfl) rfl rfl (fun z w6 hb hd => ?_) ?_
          · have h9 : z 9 = .bool va := hd 9 (by kernel_rfl)
            rw [h9]
            first | (go_simp; done) | (go_simp; rfl)
          refine StepsAt.val 21 (.bool vb) rfl (fun _ _ => rfl) rfl rfl (fun z w6 hb hd => ?_) ?_
          · have h19 : z 19 = .bool vb := hd 19 (by kernel_rfl)
            rw [h19]
            first | (go_simp; done) | (go_simp; rfl)
          exact StepsAt.done
        case fin =>
          intro z w6 hb hd
          have hx0 : z 0 = .int IntKind.i64 ↑i := hd 0 (by omega)
          have hx1 : z 1 = .slice (some pa) na ca := hd 1 (by omega)
          have hx2 : z 2 = .int .i64 (na : Int) := hd 2 (by omega)
          have hx3 : z 3 = .bool true := hd 3 (by omega)
          have hx4 : z 4 = .bool true := hd 4 (by omega)
          have hx5 : z 5 = .slice (some pa) na ca := hd 5 (by omega)
          have hx6 : z 6 = .int IntKind.i64 ↑i := hd 6 (by omega)
          have hx7 : z 7 = .pointer (some (pa.add i)) := hd 7 (by omega)
          have hx8 : z 8 = .bool va := hd 8 (by omega)
          have hx9 : z 9 = .bool va := hd 9 (by omega)
          have hx10 : z 10 = .int IntKind.i64 ↑i := hd 10 (by omega)
          have hx11 : z 11 = .slice (some pb) nb cb := hd 11 (by omega)
          have hx12 : z 12 = .int .i64 (nb : Int) := hd 12 (by omega)
          have hx13 : z 13 = .bool true := hd 13 (by omega)
          have hx14 : z 14 = .bool true := hd 14 (by omega)
          have hx15 : z 15 = .slice (some pb) nb cb := hd 15 (by omega)
          have hx16 : z 16 = .int IntKind.i64 ↑i := hd 16 (by omega)
          have hx17 : z 17 = .pointer (some (pb.add i)) := hd 17 (by omega)
          have hx18 : z 18 = .bool vb := hd 18 (by omega)
          have hx19 : z 19 = .bool vb := hd 19 (by omega)
          have hx20 : z 20 = .bool va := hd 20 (by omega)
          have hx21 : z 21 = .bool vb := hd 21 (by omega)
          refine AnyTill.any (S := fun _ => True) (m := 22) _ _ _ _ ?_
          refine AnyTill.done (by kernel_rfl) ?_
          refine NoPanic.normal ?_
          try dsimp only
          rw [hx0, hx1, hx2, hx3, hx4, hx5, hx6, hx7, hx8, hx9, hx10, hx11, hx12, hx13, hx14, hx15, hx16, hx17, hx18, hx19, hx20, hx21]
          have N1 : Hid (Blk w6 g3 (szl (f : Int) (t : Int)) 23) := M1.out.below hb M1.out.lt
          have N7 : Hid (Blk w6 g7 (szl (f : Int) (t : Int)) 27) := M7.out.below hb M7.out.lt
          have N3 : Hid (Below w.heap.size w w6) := M3.out.trans (hb.mono M3.out.size)
          try generalize z 0 = y0
          try generalize z 1 = y1
          try generalize z 2 = y2
          try generalize z 3 = y3
          try generalize z 4 = y4
          try generalize z 5 = y5
          try generalize z 6 = y6
          try generalize z 7 = y7
          try generalize z 8 = y8
          try generalize z 9 = y9
          try generalize z 10 = y10
          try generalize z 11 = y11
          try generalize z 12 = y12
          try generalize z 13 = y13
          try generalize z 14 = y14
          try generalize z 15 = y15
          try generalize z 16 = y16
          try generalize z 17 = y17
          try generalize z 18 = y18
          try generalize z 19 = y19
          try generalize z 20 = y20
          try generalize z 21 = y21
          clear hd hb M1 M7 M3
          cases va with
          | false =>
            cases vb with
            | false =>
              go_wp2
              go_roundw
              case rel => exact ⟨i + 1, x, y, b, by omega, by go_num, by go_num, by go_num, by go_num, by omega, by omega, by omega, by omega, N1.out, N7.out, N3.out⟩
              case measure => simp [intOf]; omega
            | true =>
              go_wp2
              go_roundw
              case rel => exact ⟨i + 1, x, y + 1, b, by omega, by go_num, by go_num, by go_num, by go_num, by omega, by omega, by omega, by omega, N1.out, N7.out, N3.out⟩
              case measure => simp [intOf]; omega
          | true =>
            cases vb with
            | false =>
              go_wp2
              go_roundw
              case rel => exact ⟨i + 1, x + 1, y, b, by omega, by go_num, by go_num, by go_num, by go_num, by omega, by omega, by omega, by omega, N1.out, N7.out, N3.out⟩
              case measure => simp [intOf]; omega
            | true =>
              go_wp2
              go_roundw
              case rel => exact ⟨i + 1, x + 1, y + 1, b + 1, by omega, by go_num, by go_num, by go_num, by go_num, by omega, by omega, by omega, by omega, N1.out, N7.out, N3.out⟩
              case measure => simp [intOf]; omega
      · have dia : decide ((i : Int) < (na : Int)) = true := decide_eq_true (by omega)
        have dib : decide ((i : Int) < (nb : Int)) = false := decide_eq_false (by omega)
        obtain ⟨pa, rfl, ca_⟩ := HTA.out.at_ i (by rw [HNA.out]; omega)
        have CA := Lib.hid ca_
        have CL : Hid (pa.block < w.heap.size) := by
          obtain ⟨_, _, hv, _, _, _, hr⟩ := HTA.out
          injection hv with e1 e2 e3
          subst e1
          exact (hr pa rfl).1 (by rw [HNA.out]; omega)
        obtain ⟨va, hva⟩ : ∃ v, la.getD i false = v := ⟨_, rfl⟩
        rw [hva] at CA
        clear ca_ hva
        refine wp_region_rely2 22 0 (fun z => ⟨#[.agg (szl ↑f ↑t).toArray, .slice (some pa) na ca, .slice Ab nb cb, .pointer (some { block := g3, off := 0 }), undef, undef, .bool false, .pointer (some { block := g7, off := 0 }), .int IntKind.i64 ↑x, .int IntKind.i64 ↑y, .int IntKind.i64 ↑b, .int IntKind.i64 ↑i, z 20, z 21, .pointer (some { block := g3, off := 0 }), .int IntKind.i64 ↑f, .pointer (some { block := g3, off := 1 }), .int IntKind.i64 ↑t, .agg (szl ↑f ↑t).toArray, .agg (szl ↑f ↑t).toArray, .bool true, .bool false, .bool false, .slice (some pa) na ca, .int IntKind.i64 ↑na, .bool false, .bool false, .bool false, .slice Ab nb cb, .int IntKind.i64 ↑nb, .bool false, .bool false, undef, .int IntKind.i64 ↑i, .agg (szl ↑f ↑t).toArray, .int IntKind.i64 ↑n, .bool true, u37, u38, z 0, z 1, z 2, z 3, z 4, z 5, z 6, z 7, z 8, z 9, z 10, z 11, z 12, z 13, z 14, z 15, z 16, z 17, z 18, z 19, u59, u60, u61, u62, u63, u64, u65, u66, u67, u68, u69, u70, undef, undef, undef, undef, undef, undef, undef, undef, undef, undef, undef, undef, undef, undef, undef, undef, undef, undef, undef, undef, undef, undef, undef, undef, undef, undef, undef, undef, undef, undef, undef, undef, undef, undef, undef, undef, undef], []⟩) (fun jj => ([eqV (.int IntKind.i64 ↑i), eqV (.slice (some pa) na ca), eqV (.int .i64 (na : Int)), eqV (.bool true), eqV (.bool true), eqV (.slice (some pa) na ca), eqV (.int IntKind.i64 ↑i), eqV (.pointer (some (pa.add i))), eqV (.bool va), eqV (.bool va), eqV (.int IntKind.i64 ↑i), eqV (.slice Ab nb cb), eqV (.int .i64 (nb : Int)), eqV (.bool false), eqV (.bool false), (eqV undef), (eqV undef), (eqV undef), (eqV undef), eqV (.bool false), eqV (.bool va), eqV (.bool false)] : List (Value → World → Prop)).getD jj (fun _ _ => True)) rfl ⟨fun kk => [_, _, _, _, _, _, _, _, _, _, _, _, _, _, _, _, _, _, _, _, _, _].getD kk undef, rfl⟩ (by kernel_rfl) (by kernel_rfl) ?steps ?fin
        case steps =>
          refine StepsAt.val 0 (.int IntKind.i64 ↑i) rfl (fun _ _ => rfl) rfl rfl (fun z w6 hb hd => ?_) ?_
          · first | (go_simp; done) | (go_simp; rfl)
          refine StepsAt.val 1 (.slice (some pa) na ca) rfl (fun _ _ => rfl) rfl rfl (fun z w6 hb hd => ?_) ?_
          · first | (go_simp; done) | (go_simp; rfl)
          refine StepsAt.val 2 (.int .i64 (na : Int)) rfl (fun _ _ => rfl) rfl rfl (fun z w6 hb hd => ?_) ?_
          · have h1 : z 1 = .slice (some pa) na ca := hd 1 (by kernel_rfl)
            rw [h1]
            first | (go_simp; done) | (go_simp; rfl)
          refine StepsAt.val 3 (.bool true) rfl (fun _ _ => rfl) rfl rfl (fun z w6 hb hd => ?_) ?_
          · have h0 : z 0 = .int IntKind.i64 ↑i := hd 0 (by kernel_rfl)
            have h2 : z 2 = .int .i64 (na : Int) := hd 2 (by kernel_rfl)
            rw [h0, h2]
            first | (go_simp; done) | (go_simp; exact dia) | (rw [← dia]; go_simp)
          refine StepsAt.val 4 (.bool true) rfl (fun _ _ => rfl) rfl rfl (fun z w6 hb hd => ?_) ?_
          · have h3 : z 3 = .bool true := hd 3 (by kernel_rfl)
            rw [h3]
            first | (go_simp; done) | (go_simp; rfl)
          refine StepsAt.valG 5 (.slice (some pa) na ca) rfl (fun _ _ => rfl) rfl (fun z w6 hd => ?_) (fun z w6 hb hd => ?_) ?_
          · have hG : z 4 = .bool true := hd 4 (by kernel_rfl)
            simp [Region.wanted, yielded, hG]
          · first | (go_simp; done) | (go_simp; rfl)
          refine StepsAt.valG 6 (.int IntKind.i64 ↑i) rfl (fun _ _ => rfl) rfl (fun z w6 hd => ?_) (fun z w6 hb hd => ?_) ?_
          · have hG : z 4 = .bool true := hd 4 (by kernel_rfl)
            simp [Region.wanted, yielded, hG]
          · first | (go_simp; done) | (go_simp; rfl)
          refine StepsAt.valG 7 (.pointer (some (pa.add i))) rfl (fun _ _ => rfl) rfl (fun z w6 hd => ?_) (fun z w6 hb hd => ?_) ?_
          · have hG : z 4 = .bool true := hd 4 (by kernel_rfl)
            simp [Region.wanted, yielded, hG]
          · have h5 : z 5 = .slice (some pa) na ca := hd 5 (by kernel_rfl)
            have h6 : z 6 = .int IntKind.i64 ↑i := hd 6 (by kernel_rfl)
            rw [h5, h6]
            have zi : (i : Int) < (na : Int) := by omega
            first | (go_simp; done) | (go_simp; rfl)
          refine StepsAt.valG 8 (.bool va) rfl (fun _ _ => rfl) rfl (fun z w6 hd => ?_) (fun z w6 hb hd => ?_) ?_
          · have hG : z 4 = .bool true := hd 4 (by kernel_rfl)
            simp [Region.wanted, yielded, hG]
          · have h7 : z 7 = .pointer (some (pa.add i)) := hd 7 (by kernel_rfl)
            have cc := (((M3.out.trans (hb.mono M3.out.size))).cell (p := pa.add i) (by rw [addr_block]; exact CL.out)).trans CA.out
            rw [h7]
            first | (go_simp; done) | (go_simp; rfl)
          refine StepsAt.val 9 (.bool va) rfl (fun _ _ => rfl) rfl rfl (fun z w6 hb hd => ?_) ?_
          · have h4 : z 4 = .bool true := hd 4 (by kernel_rfl)
            have h8 : z 8 = .bool va := hd 8 (by kernel_rfl)
            rw [h4, h8]
            first | (go_simp; done) | (go_simp; rfl)
          refine StepsAt.val 10 (.int IntKind.i64 ↑i) rfl (fun _ _ => rfl) rfl rfl (fun z w6 hb hd => ?_) ?_
          · first | (go_simp; done) | (go_simp; rfl)
          refine StepsAt.val 11 (.slice Ab nb cb) rfl (fun _ _ => rfl) rfl rfl (fun z w6 hb hd => ?_) ?_
          · first | (go_simp; done) | (go_simp; rfl)
          refine StepsAt.val 12 (.int .i64 (nb : Int)) rfl (fun _ _ => rfl) rfl rfl (fun z w6 hb hd => ?_) ?_
          · have h11 : z 11 = .slice Ab nb cb := hd 11 (by kernel_rfl)
            rw [h11]
            first | (go_simp; done) | (go_simp; rfl)
          refine StepsAt.val 13 (.bool false) rfl (fun _ _ => rfl) rfl rfl (fun z w6 hb hd => ?_) ?_
          · have h10 : z 10 = .int IntKind.i64 ↑i := hd 10 (by kernel_rfl)
            have h12 : z 12 = .int .i64 (nb : Int) := hd 12 (by kernel_rfl)
            rw [h10, h12]
            first | (go_simp; done) | (go_simp; exact dib) | (rw [← dib]; go_simp)
          refine StepsAt.val 14 (.bool false) rfl (fun _ _ => rfl) rfl rfl (fun z w6 hb hd => ?_) ?_
          · have h13 : z 13 = .bool false := hd 13 (by kernel_rfl)
            rw [h13]
            first | (go_simp; done) | (go_simp; rfl)
          refine StepsAt.skip 15 rfl (fun _ _ => rfl) rfl (fun z w6 hd => ?_) ?_
          · have hG : z 14 = .bool false := hd 14 (by kernel_rfl)
            simp [Region.wanted, yielded, hG]
          refine StepsAt.skip 16 rfl (fun _ _ => rfl) rfl (fun z w6 hd => ?_) ?_
          · have hG : z 14 = .bool false := hd 14 (by kernel_rfl)
            simp [Region.wanted, yielded, hG]
          refine StepsAt.skip 17 rfl (fun _ _ => rfl) rfl (fun z w6 hd => ?_) ?_
          · have hG : z 14 = .bool false := hd 14 (by kernel_rfl)
            simp [Region.wanted, yielded, hG]
          refine StepsAt.skip 18 rfl (fun _ _ => rfl) rfl (fun z w6 hd => ?_) ?_
          · have hG : z 14 = .bool false := hd 14 (by kernel_rfl)
            simp [Region.wanted, yielded, hG]
          refine StepsAt.val 19 (.bool false) rfl (fun _ _ => rfl) rfl rfl (fun z w6 hb hd => ?_) ?_
          · have h14 : z 14 = .bool false := hd 14 (by kernel_rfl)
            have h18 : z 18 = undef := hd 18 (by kernel_rfl)
            rw [h14, h18]
            first | (go_simp; done) | (go_simp; rfl)
          refine StepsAt.val 20 (.bool va) rfl (fun _ _ => rfl) rfl rfl (fun z w6 hb hd => ?_) ?_
          · have h9 : z 9 = .bool va := hd 9 (by kernel_rfl)
            rw [h9]
            first | (go_simp; done) | (go_simp; rfl)
          refine StepsAt.val 21 (.bool false) rfl (fun _ _ => rfl) rfl rfl (fun z w6 hb hd => ?_) ?_
          · have h19 : z 19 = .bool false := hd 19 (by kernel_rfl)
            rw [h19]
            first | (go_simp; done) | (go_simp; rfl)
          exact StepsAt.done
        case fin =>
          intro z w6 hb hd
          have hx0 : z 0 = .int IntKind.i64 ↑i := hd 0 (by omega)
          have hx1 : z 1 = .slice (some pa) na ca := hd 1 (by omega)
          have hx2 : z 2 = .int .i64 (na : Int) := hd 2 (by omega)
          have hx3 : z 3 = .bool true := hd 3 (by omega)
          have hx4 : z 4 = .bool true := hd 4 (by omega)
          have hx5 : z 5 = .slice (some pa) na ca := hd 5 (by omega)
          have hx6 : z 6 = .int IntKind.i64 ↑i := hd 6 (by omega)
          have hx7 : z 7 = .pointer (some (pa.add i)) := hd 7 (by omega)
          have hx8 : z 8 = .bool va := hd 8 (by omega)
          have hx9 : z 9 = .bool va := hd 9 (by omega)
          have hx10 : z 10 = .int IntKind.i64 ↑i := hd 10 (by omega)
          have hx11 : z 11 = .slice Ab nb cb := hd 11 (by omega)
          have hx12 : z 12 = .int .i64 (nb : Int) := hd 12 (by omega)
          have hx13 : z 13 = .bool false := hd 13 (by omega)
          have hx14 : z 14 = .bool false := hd 14 (by omega)
          have hx15 : z 15 = undef := hd 15 (by omega)
          have hx16 : z 16 = undef := hd 16 (by omega)
          have hx17 : z 17 = undef := hd 17 (by omega)
          have hx18 : z 18 = undef := hd 18 (by omega)
          have hx19 : z 19 = .bool false := hd 19 (by omega)
          have hx20 : z 20 = .bool va := hd 20 (by omega)
          have hx21 : z 21 = .bool false := hd 21 (by omega)
          refine AnyTill.any (S := fun _ => True) (m := 22) _ _ _ _ ?_
          refine AnyTill.done (by kernel_rfl) ?_
          refine NoPanic.normal ?_
          try dsimp only
          rw [hx0, hx1, hx2, hx3, hx4, hx5, hx6, hx7, hx8, hx9, hx10, hx11, hx12, hx13, hx14, hx19, hx20, hx21]
          have N1 : Hid (Blk w6 g3 (szl (f : Int) (t : Int)) 23) := M1.out.below hb M1.out.lt
          have N7 : Hid (Blk w6 g7 (szl (f : Int) (t : Int)) 27) := M7.out.below hb M7.out.lt
          have N3 : Hid (Below w.heap.size w w6) := M3.out.trans (hb.mono M3.out.size)
          try generalize z 0 = y0
          try generalize z 1 = y1
          try generalize z 2 = y2
          try generalize z 3 = y3
          try generalize z 4 = y4
          try generalize z 5 = y5
          try generalize z 6 = y6
          try generalize z 7 = y7
          try generalize z 8 = y8
          try generalize z 9 = y9
          try generalize z 10 = y10
          try generalize z 11 = y11
          try generalize z 12 = y12
          try generalize z 13 = y13
          try generalize z 14 = y14
          try generalize z 15 = y15
          try generalize z 16 = y16
          try generalize z 17 = y17
          try generalize z 18 = y18
          try generalize z 19 = y19
          try generalize z 20 = y20
          try generalize z 21 = y21
          clear hd hb M1 M7 M3
          cases va with
          | false =>
            go_wp2
            go_roundw
            case rel => exact ⟨i + 1, x, y, b, by omega, by go_num, by go_num, by go_num, by go_num, by omega, by omega, by omega, by omega, N1.out, N7.out, N3.out⟩
            case measure => simp [intOf]; omega
          | true =>
            go_wp2
            go_roundw
            case rel => exact ⟨i + 1, x + 1, y, b, by omega, by go_num, by go_num, by go_num, by go_num, by omega, by omega, by omega, by omega, N1.out, N7.out, N3.out⟩
            case measure => simp [intOf]; omega
      · have dia : decide ((i : Int) < (na : Int)) = false := decide_eq_false (by omega)
        have dib : decide ((i : Int) < (nb : Int)) = true := decide_eq_true (by omega)
        obtain ⟨pb, rfl, cb_⟩ := HTB.out.at_ i (by rw [HNB.out]; omega)
        have CB := Lib.hid cb_
        have CM : Hid (pb.block < w.heap.size) := by
          obtain ⟨_, _, hv, _, _, _, hr⟩ := HTB.out
          injection hv with e1 e2 e3
          subst e1
          exact (hr pb rfl).1 (by rw [HNB.out]; omega)
        obtain ⟨vb, hvb⟩ : ∃ v, lb.getD i false = v := ⟨_, rfl⟩
        rw [hvb] at CB
        clear cb_ hvb
        refine wp_region_rely2 22 0 (fun z => ⟨#[.agg (szl ↑f ↑t).toArray, .slice Aa na ca, .slice (some pb) nb cb, .pointer (some { block := g3, off := 0 }), undef, undef, .bool false, .pointer (some { block := g7, off := 0 }), .int IntKind.i64 ↑x, .int IntKind.i64 ↑y, .int IntKind.i64 ↑b, .int IntKind.i64 ↑i, z 20, z 21, .pointer (some { block := g3, off := 0 }), .int IntKind.i64 ↑f, .pointer (some { block := g3, off := 1 }), .int IntKind.i64 ↑t, .agg (szl ↑f ↑t).toArray, .agg (szl ↑f ↑t).toArray, .bool true, .bool false, .bool false, .slice Aa na ca, .int IntKind.i64 ↑na, .bool false, .bool false, .bool false, .slice (some pb) nb cb, .int IntKind.i64 ↑nb, .bool false, .bool false, undef, .int IntKind.i64 ↑i, .agg (szl ↑f ↑t).toArray, .int IntKind.i64 ↑n, .bool true, u37, u38, z 0, z 1, z 2, z 3, z 4, z 5, z 6, z 7, z 8, z 9, z 10, z 11, z 12, z 13, z 14, z 15, z 16, z 17, z 18, z 19, u59, u60, u61, u62, u63, u64, u65, u66, u67, u68, u69, u70, undef, undef, undef, undef, undef, undef, undef, undef, undef, undef, undef, undef, undef, undef, undef, undef, undef, undef, undef, undef, undef, undef, undef, undef, undef, undef, undef, undef, undef, undef, undef, undef, undef, undef, undef, undef, undef], []⟩) (fun jj => ([eqV (.int IntKind.i64 ↑i), eqV (.slice Aa na ca), eqV (.int .i64 (na : Int)), eqV (.bool false), eqV (.bool false), (eqV undef), (eqV undef), (eqV undef), (eqV undef), eqV (.bool false), eqV (.int IntKind.i64 ↑i), eqV (.slice (some pb) nb cb), eqV (.int .i64 (nb : Int)), eqV (.bool true), eqV (.bool true), eqV (.slice (some pb) nb cb), eqV (.int IntKind.i64 ↑i), eqV (.pointer (some (pb.add i))), eqV (.bool vb), eqV (.bool vb), eqV (.bool false), eqV (.bool vb)] : List (Value → World → Prop)).getD jj (fun _ _ => True)) rfl ⟨fun kk => [_, _, _, _, _, _, _, _, _, _, _, _, _, _, _, _, _, _, _, _, _, _].getD kk undef, rfl⟩ (by kernel_rfl) (by kernel_rfl) ?steps ?fin
        case steps =>
          refine StepsAt.val 0 (.int IntKind.i64 ↑i) rfl (fun _ _ => rfl) rfl rfl (fun z w6 hb hd => ?_) ?_
          · first | (go_simp; done) | (go_simp; rfl)
          refine StepsAt.val 1 (.slice Aa na ca) rfl (fun _ _ => rfl) rfl rfl (fun z w6 hb hd => ?_) ?_
          · first | (go_simp; done) | (go_simp; rfl)
          refine StepsAt.val 2 (.int .i64 (na : Int)) rfl (fun _ _ => rfl) rfl rfl (fun z w6 hb hd => ?_) ?_
          · have h1 : z 1 = .slice Aa na ca := hd 1 (by kernel_rfl)
            rw [h1]
            first | (go_simp; done) | (go_simp; rfl)
          refine StepsAt.val 3 (.bool false) rfl (fun _ _ => rfl) rfl rfl (fun z w6 hb hd => ?_) ?_
          · have h0 : z 0 = .int IntKind.i64 ↑i := hd 0 (by kernel_rfl)
            have h2 : z 2 = .int .i64 (na : Int) := hd 2 (by kernel_rfl)
            rw [h0, h2]
            first | (go_simp; done) | (go_simp; exact dia) | (rw [← dia]; go_simp)
          refine StepsAt.val 4 (.bool false) rfl (fun _ _ => rfl) rfl rfl (fun z w6 hb hd => ?_) ?_
          · have h3 : z 3 = .bool false := hd 3 (by kernel_rfl)
            rw [h3]
            first | (go_simp; done) | (go_simp; rfl)
          refine StepsAt.skip 5 rfl (fun _ _ => rfl) rfl (fun z w6 hd => ?_) ?_
          · have hG : z 4 = .bool false := hd 4 (by kernel_rfl)
            simp [Region.wanted, yielded, hG]
          refine StepsAt.skip 6 rfl (fun _ _ => rfl) rfl (fun z w6 hd => ?_) ?_
          · have hG : z 4 = .bool false := hd 4 (by kernel_rfl)
            simp [Region.wanted, yielded, hG]
          refine StepsAt.skip 7 rfl (fun _ _ => rfl) rfl (fun z w6 hd => ?_) ?_
          · have hG : z 4 = .bool false := hd 4 (by kernel_rfl)
            simp [Region.wanted, yielded, hG]
          refine StepsAt.skip 8 rfl (fun _ _ => rfl) rfl (fun z w6 hd => ?_) ?_
          · have hG : z 4 = .bool false := hd 4 (by kernel_rfl)
            simp [Region.wanted, yielded, hG]
          refine StepsAt.val 9 (.bool false) rfl (fun _ _ => rfl) rfl rfl (fun z w6 hb hd => ?_) ?_
          · have h4 : z 4 = .bool false := hd 4 (by kernel_rfl)
            have h8 : z 8 = undef := hd 8 (by kernel_rfl)
            rw [h4, h8]
            first | (go_simp; done) | (go_simp; rfl)
          refine StepsAt.val 10 (.int IntKind.i64 ↑i) rfl (fun _ _ => rfl) rfl rfl (fun z w6 hb hd => ?_) ?_
          · first | (go_simp; done) | (go_simp; rfl)
          refine StepsAt.val 11 (.slice (some pb) nb cb) rfl (fun _ _ => rfl) rfl rfl (fun z w6 hb hd => ?_) ?_
          · first | (go_simp; done) | (go_simp; rfl)
          refine StepsAt.val 12 (.int .i64 (nb : Int)) rfl (fun _ _ => rfl) rfl rfl (fun z w6 hb hd => ?_) ?_
          · have h11 : z 11 = .slice (some pb) nb cb := hd 11 (by kernel_rfl)
            rw [h11]
            first | (go_simp; done) | (go_simp; rfl)
          refine StepsAt.val 13 (.bool true) rfl (fun _ _ => rfl) rfl rfl (fun z w6 hb hd => ?_) ?_
          · have h10 : z 10 = .int IntKind.i64 ↑i := hd 10 (by kernel_rfl)
            have h12 : z 12 = .int .i64 (nb : Int) := hd 12 (by kernel_rfl)
            rw [h10, h12]
            first | (go_simp; done) | (go_simp; exact dib) | (rw [← dib]; go_simp)
          refine StepsAt.val 14 (.bool true) rfl (fun _ _ => rfl) rfl rfl (fun z w6 hb hd => ?_) ?_
          · have h13 : z 13 = .bool true := hd 13 (by kernel_rfl)
            rw [h13]
            first | (go_simp; done) | (go_simp; rfl)
          refine StepsAt.valG 15 (.slice (some pb) nb cb) rfl (fun _ _ => rfl) rfl (fun z w6 hd => ?_) (fun z w6 hb hd => ?_) ?_
          · have hG : z 14 = .bool true := hd 14 (by kernel_rfl)
            simp [Region.wanted, yielded, hG]
          · first | (go_simp; done) | (go_simp; rfl)
          refine StepsAt.valG 16 (.int IntKind.i64 ↑i) rfl (fun _ _ => rfl) rfl (fun z w6 hd => ?_) (fun z w6 hb hd => ?_) ?_
          · have hG : z 14 = .bool true := hd 14 (by kernel_rfl)
            simp [Region.wanted, yielded, hG]
          · first | (go_simp; done) | (go_simp; rfl)
          refine StepsAt.valG 17 (.pointer (some (pb.add i))) rfl (fun _ _ => rfl) rfl (fun z w6 hd => ?_) (fun z w6 hb hd => ?_) ?_
          · have hG : z 14 = .bool true := hd 14 (by kernel_rfl)
            simp [Region.wanted, yielded, hG]
          · have h15 : z 15 = .slice (some pb) nb cb := hd 15 (by kernel_rfl)
            have h16 : z 16 = .int IntKind.i64 ↑i := hd 16 (by kernel_rfl)
            rw [h15, h16]
            have zi : (i : Int) < (nb : Int) := by omega
            first | (go_simp; done) | (go_simp; rfl)
          refine StepsAt.valG 18 (.bool vb) rfl (fun _ _ => rfl) rfl (fun z w6 hd => ?_) (fun z w6 hb hd => ?_) ?_
          · have hG : z 14 = .bool true := hd 14 (by kernel_rfl)
            simp [Region.wanted, yielded, hG]
          · have h17 : z 17 = .pointer (some (pb.add i)) := hd 17 (by kernel_rfl)
            have cc := (((M3.out.trans (hb.mono M3.out.size))).cell (p := pb.add i) (by rw [addr_block]; exact CM.out)).trans CB.out
            rw [h17]
            first | (go_simp; done) | (go_simp; rfl)
          refine StepsAt.val 19 (.bool vb) rfl (fun _ _ => rfl) rfl rfl (fun z w6 hb hd => ?_) ?_
          · have h14 : z 14 = .bool true := hd 14 (by kernel_rfl)
            have h18 : z 18 = .bool vb := hd 18 (by kernel_rfl)
            rw [h14, h18]
            first | (go_simp; done) | (go_simp; rfl)
          refine StepsAt.val 20 (.bool false) rfl (fun _ _ => rfl) rfl rfl (fun z w6 hb hd => ?_) ?_
          · have h9 : z 9 = .bool false := hd 9 (by kernel_rfl)
            rw [h9]
            first | (go_simp; done) | (go_simp; rfl)
          refine StepsAt.val 21 (.bool vb) rfl (fun _ _ => rfl) rfl rfl (fun z w6 hb hd => ?_) ?_
          · have h19 : z 19 = .bool vb := hd 19 (by kernel_rfl)
            rw [h19]
            first | (go_simp; done) | (go_simp; rfl)
          exact StepsAt.done
        case fin =>
          intro z w6 hb hd
          have hx0 : z 0 = .int IntKind.i64 ↑i := hd 0 (by omega)
          have hx1 : z 1 = .slice Aa na ca := hd 1 (by omega)
          have hx2 : z 2 = .int .i64 (na : Int) := hd 2 (by omega)
          have hx3 : z 3 = .bool false := hd 3 (by omega)
          have hx4 : z 4 = .bool false := hd 4 (by omega)
          have hx5 : z 5 = undef := hd 5 (by omega)
          have hx6 : z 6 = undef := hd 6 (by omega)
          have hx7 : z 7 = undef := hd 7 (by omega)
          have hx8 : z 8 = undef := hd 8 (by omega)
          have hx9 : z 9 = .bool false := hd 9 (by omega)
          have hx10 : z 10 = .int IntKind.i64 ↑i := hd 10 (by omega)
          have hx11 : z 11 = .slice (some pb) nb cb := hd 11 (by omega)
          have hx12 : z 12 = .int .i64 (nb : Int) := hd 12 (by omega)
          have hx13 : z 13 = .bool true := hd 13 (by omega)
          have hx14 : z 14 = .bool true := hd 14 (by omega)
          have hx15 : z 15 = .slice (some pb) nb cb := hd 15 (by omega)
          have hx16 : z 16 = .int IntKind.i64 ↑i := hd 16 (by omega)
          have hx17 : z 17 = .pointer (some (pb.add i)) := hd 17 (by omega)
          have hx18 : z 18 = .bool vb := hd 18 (by omega)
          have hx19 : z 19 = .bool vb := hd 19 (by omega)
          have hx20 : z 20 = .bool false := hd 20 (by omega)
          have hx21 : z 21 = .bool vb := hd 21 (by omega)
          refine AnyTill.any (S := fun _ => True) (m := 22) _ _ _ _ ?_
          refine AnyTill.done (by kernel_rfl) ?_
          refine NoPanic.normal ?_
          try dsimp only
          rw [hx0, hx1, hx2, hx3, hx4, hx9, hx10, hx11, hx12, hx13, hx14, hx15, hx16, hx17, hx18, hx19, hx20, hx21]
          have N1 : Hid (Blk w6 g3 (szl (f : Int) (t : Int)) 23) := M1.out.below hb M1.out.lt
          have N7 : Hid (Blk w6 g7 (szl (f : Int) (t : Int)) 27) := M7.out.below hb M7.out.lt
          have N3 : Hid (Below w.heap.size w w6) := M3.out.trans (hb.mono M3.out.size)
          try generalize z 0 = y0
          try generalize z 1 = y1
          try generalize z 2 = y2
          try generalize z 3 = y3
          try generalize z 4 = y4
          try generalize z 5 = y5
          try generalize z 6 = y6
          try generalize z 7 = y7
          try generalize z 8 = y8
          try generalize z 9 = y9
          try generalize z 10 = y10
          try generalize z 11 = y11
          try generalize z 12 = y12
          try generalize z 13 = y13
          try generalize z 14 = y14
          try generalize z 15 = y15
          try generalize z 16 = y16
          try generalize z 17 = y17
          try generalize z 18 = y18
          try generalize z 19 = y19
          try generalize z 20 = y20
          try generalize z 21 = y21
          clear hd hb M1 M7 M3
          cases vb with
          | false =>
            go_wp2
            go_roundw
            case rel => exact ⟨i + 1, x, y, b, by omega, by go_num, by go_num, by go_num, by go_num, by omega, by omega, by omega, by omega, N1.out, N7.out, N3.out⟩
            case measure => simp [intOf]; omega
          | true =>
            go_wp2
            go_roundw
            case rel => exact ⟨i + 1, x, y + 1, b, by omega, by go_num, by go_num, by go_num, by go_num, by omega, by omega, by omega, by omega, N1.out, N7.out, N3.out⟩
            case measure => simp [intOf]; omega
      · have dia : decide ((i : Int) < (na : Int)) = false := decide_eq_false (by omega)
        have dib : decide ((i : Int) < (nb : Int)) = false := decide_eq_false (by omega)
        refine wp_region_rely2 22 0 (fun z => ⟨#[.agg (szl ↑f ↑t).toArray, .slice Aa na ca, .slice Ab nb cb, .pointer (some { block := g3, off := 0 }), undef, undef, .bool false, .pointer (some { block := g7, off := 0 }), .int IntKind.i64 ↑x, .int IntKind.i64 ↑y, .int IntKind.i64 ↑b, .int IntKind.i64 ↑i, z 20, z 21, .pointer (some { block := g3, off := 0 }), .int IntKind.i64 ↑f, .pointer (some { block := g3, off := 1 }), .int IntKind.i64 ↑t, .agg (szl ↑f ↑t).toArray, .agg (szl ↑f ↑t).toArray, .bool true, .bool false, .bool false, .slice Aa na ca, .int IntKind.i64 ↑na, .bool false, .bool false, .bool false, .slice Ab nb cb, .int IntKind.i64 ↑nb, .bool false, .bool false, undef, .int IntKind.i64 ↑i, .agg (szl ↑f ↑t).toArray, .int IntKind.i64 ↑n, .bool true, u37, u38, z 0, z 1, z 2, z 3, z 4, z 5, z 6, z 7, z 8, z 9, z 10, z 11, z 12, z 13, z 14, z 15, z 16, z 17, z 18, z 19, u59, u60, u61, u62, u63, u64, u65, u66, u67, u68, u69, u70, undef, undef, undef, undef, undef, undef, undef, undef, undef, undef, undef, undef, undef, undef, undef, undef, undef, undef, undef, undef, undef, undef, undef, undef, undef, undef, undef, undef, undef, undef, undef, undef, undef, undef, undef, undef, undef], []⟩) (fun jj => ([eqV (.int IntKind.i64 ↑i), eqV (.slice Aa na ca), eqV (.int .i64 (na : Int)), eqV (.bool false), eqV (.bool false), (eqV undef), (eqV undef), (eqV undef), (eqV undef), eqV (.bool false), eqV (.int IntKind.i64 ↑i), eqV (.slice Ab nb cb), eqV (.int .i64 (nb : Int)), eqV (.bool false), eqV (.bool false), (eqV undef), (eqV undef), (eqV undef), (eqV undef), eqV (.bool false), eqV (.bool false), eqV (.bool false)] : List (Value → World → Prop)).getD jj (fun _ _ => True)) rfl ⟨fun kk => [_, _, _, _, _, _, _, _, _, _, _, _, _, _, _, _, _, _, _, _, _, _].getD kk undef, rfl⟩ (by kernel_rfl) (by kernel_rfl) ?steps ?fin
        case steps =>
          refine StepsAt.val 0 (.int IntKind.i64 ↑i) rfl (fun _ _ => rfl) rfl rfl (fun z w6 hb hd => ?_) ?_
          · first | (go_simp; done) | (go_simp; rfl)
          refine StepsAt.val 1 (.slice Aa na ca) rfl (fun _ _ => rfl) rfl rfl (fun z w6 hb hd => ?_) ?_
          · first | (go_simp; done) | (go_simp; rfl)
          refine StepsAt.val 2 (.int .i64 (na : Int)) rfl (fun _ _ => rfl) rfl rfl (fun z w6 hb hd => ?_) ?_
          · have h1 : z 1 = .slice Aa na ca := hd 1 (by kernel_rfl)
            rw [h1]
            first | (go_simp; done) | (go_simp; rfl)
          refine StepsAt.val 3 (.bool false) rfl (fun _ _ => rfl) rfl rfl (fun z w6 hb hd => ?_) ?_
          · have h0 : z 0 = .int IntKind.i64 ↑i := hd 0 (by kernel_rfl)
            have h2 : z 2 = .int .i64 (na : Int) := hd 2 (by kernel_rfl)
            rw [h0, h2]
            first | (go_simp; done) | (go_simp; exact dia) | (rw [← dia]; go_simp)
          refine StepsAt.val 4 (.bool false) rfl (fun _ _ => rfl) rfl rfl (fun z w6 hb hd => ?_) ?_
          · have h3 : z 3 = .bool false := hd 3 (by kernel_rfl)
            rw [h3]
            first | (go_simp; done) | (go_simp; rfl)
          refine StepsAt.skip 5 rfl (fun _ _ => rfl) rfl (fun z w6 hd => ?_) ?_
          · have hG : z 4 = .bool false := hd 4 (by kernel_rfl)
            simp [Region.wanted, yielded, hG]
          refine StepsAt.skip 6 rfl (fun _ _ => rfl) rfl (fun z w6 hd => ?_) ?_
          · have hG : z 4 = .bool false := hd 4 (by kernel_rfl)
            simp [Region.wanted, yielded, hG]
          refine StepsAt.skip 7 rfl (fun _ _ => rfl) rfl (fun z w6 hd => ?_) ?_
          · have hG : z 4 = .bool false := hd 4 (by kernel_rfl)
            simp [Region.wanted, yielded, hG]
          refine StepsAt.skip 8 rfl (fun _ _ => rfl) rfl (fun z w6 hd => ?_) ?_
          · have hG : z 4 = .bool false := hd 4 (by kernel_rfl)
            simp [Region.wanted, yielded, hG]
          refine StepsAt.val 9 (.bool false) rfl (fun _ _ => rfl) rfl rfl (fun z w6 hb hd => ?_) ?_
          · have h4 : z 4 = .bool false := hd 4 (by kernel_rfl)
            have h8 : z 8 = undef := hd 8 (by kernel_rfl)
            rw [h4, h8]
            first | (go_simp; done) | (go_simp; rfl)
          refine StepsAt.val 10 (.int IntKind.i64 ↑i) rfl (fun _ _ => rfl) rfl rfl (fun z w6 hb hd => ?_) ?_
          · first | (go_simp; done) | (go_simp; rfl)
          refine StepsAt.val 11 (.slice Ab nb cb) rfl (fun _ _ => rfl) rfl rfl (fun z w6 hb hd => ?_) ?_
          · first | (go_simp; done) | (go_simp; rfl)
          refine StepsAt.val 12 (.int .i64 (nb : Int)) rfl (fun _ _ => rfl) rfl rfl (fun z w6 hb hd => ?_) ?_
          · have h11 : z 11 = .slice Ab nb cb := hd 11 (by kernel_rfl)
            rw [h11]
            first | (go_simp; done) | (go_simp; rfl)
          refine StepsAt.val 13 (.bool false) rfl (fun _ _ => rfl) rfl rfl (fun z w6 hb hd => ?_) ?_
          · have h10 : z 10 = .int IntKind.i64 ↑i := hd 10 (by kernel_rfl)
            have h12 : z 12 = .int .i64 (nb : Int) := hd 12 (by kernel_rfl)
            rw [h10, h12]
            first | (go_simp; done) | (go_simp; exact dib) | (rw [← dib]; go_simp)
          refine StepsAt.val 14 (.bool false) rfl (fun _ _ => rfl) rfl rfl (fun z w6 hb hd => ?_) ?_
          · have h13 : z 13 = .bool false := hd 13 (by kernel_rfl)
            rw [h13]
            first | (go_simp; done) | (go_simp; rfl)
          refine StepsAt.skip 15 rfl (fun _ _ => rfl) rfl (fun z w6 hd => ?_) ?_
          · have hG : z 14 = .bool false := hd 14 (by kernel_rfl)
            simp [Region.wanted, yielded, hG]
          refine StepsAt.skip 16 rfl (fun _ _ => rfl) rfl (fun z w6 hd => ?_) ?_
          · have hG : z 14 = .bool false := hd 14 (by kernel_rfl)
            simp [Region.wanted, yielded, hG]
          refine StepsAt.skip 17 rfl (fun _ _ => rfl) rfl (fun z w6 hd => ?_) ?_
          · have hG : z 14 = .bool false := hd 14 (by kernel_rfl)
            simp [Region.wanted, yielded, hG]
          refine StepsAt.skip 18 rfl (fun _ _ => rfl) rfl (fun z w6 hd => ?_) ?_
          · have hG : z 14 = .bool false := hd 14 (by kernel_rfl)
            simp [Region.wanted, yielded, hG]
          refine StepsAt.val 19 (.bool false) rfl (fun _ _ => rfl) rfl rfl (fun z w6 hb hd => ?_) ?_
          · have h14 : z 14 = .bool false := hd 14 (by kernel_rfl)
            have h18 : z 18 = undef := hd 18 (by kernel_rfl)
            rw [h14, h18]
            first | (go_simp; done) | (go_simp; rfl)
          refine StepsAt.val 20 (.bool false) rfl (fun _ _ => rfl) rfl rfl (fun z w6 hb hd => ?_) ?_
          · have h9 : z 9 = .bool false := hd 9 (by kernel_rfl)
            rw [h9]
            first | (go_simp; done) | (go_simp; rfl)
          refine StepsAt.val 21 (.bool false) rfl (fun _ _ => rfl) rfl rfl (fun z w6 hb hd => ?_) ?_
          · have h19 : z 19 = .bool false := hd 19 (by kernel_rfl)
            rw [h19]
            first | (go_simp; done) | (go_simp; rfl)
          exact StepsAt.done
        case fin =>
          intro z w6 hb hd
          have hx0 : z 0 = .int IntKind.i64 ↑i := hd 0 (by omega)
          have hx1 : z 1 = .slice Aa na ca := hd 1 (by omega)
          have hx2 : z 2 = .int .i64 (na : Int) := hd 2 (by omega)
          have hx3 : z 3 = .bool false := hd 3 (by omega)
          have hx4 : z 4 = .bool false := hd 4 (by omega)
          have hx5 : z 5 = undef := hd 5 (by omega)
          have hx6 : z 6 = undef := hd 6 (by omega)
          have hx7 : z 7 = undef := hd 7 (by omega)
          have hx8 : z 8 = undef := hd 8 (by omega)
          have hx9 : z 9 = .bool false := hd 9 (by omega)
          have hx10 : z 10 = .int IntKind.i64 ↑i := hd 10 (by omega)
          have hx11 : z 11 = .slice Ab nb cb := hd 11 (by omega)
          have hx12 : z 12 = .int .i64 (nb : Int) := hd 12 (by omega)
          have hx13 : z 13 = .bool false := hd 13 (by omega)
          have hx14 : z 14 = .bool false := hd 14 (by omega)
          have hx15 : z 15 = undef := hd 15 (by omega)
          have hx16 : z 16 = undef := hd 16 (by omega)
          have hx17 : z 17 = undef := hd 17 (by omega)
          have hx18 : z 18 = undef := hd 18 (by omega)
          have hx19 : z 19 = .bool false := hd 19 (by omega)
          have hx20 : z 20 = .bool false := hd 20 (by omega)
          have hx21 : z 21 = .bool false := hd 21 (by omega)
          refine AnyTill.any (S := fun _ => True) (m := 22) _ _ _ _ ?_
          refine AnyTill.done (by kernel_rfl) ?_
          refine NoPanic.normal ?_
          try dsimp only
          rw [hx0, hx1, hx2, hx3, hx4, hx9, hx10, hx11, hx12, hx13, hx14, hx19, hx20, hx21]
          have N1 : Hid (Blk w6 g3 (szl (f : Int) (t : Int)) 23) := M1.out.below hb M1.out.lt
          have N7 : Hid (Blk w6 g7 (szl (f : Int) (t : Int)) 27) := M7.out.below hb M7.out.lt
          have N3 : Hid (Below w.heap.size w w6) := M3.out.trans (hb.mono M3.out.size)
          try generalize z 0 = y0
          try generalize z 1 = y1
          try generalize z 2 = y2
          try generalize z 3 = y3
          try generalize z 4 = y4
          try generalize z 5 = y5
          try generalize z 6 = y6
          try generalize z 7 = y7
          try generalize z 8 = y8
          try generalize z 9 = y9
          try generalize z 10 = y10
          try generalize z 11 = y11
          try generalize z 12 = y12
          try generalize z 13 = y13
          try generalize z 14 = y14
          try generalize z 15 = y15
          try generalize z 16 = y16
          try generalize z 17 = y17
          try generalize z 18 = y18
          try generalize z 19 = y19
          try generalize z 20 = y20
          try generalize z 21 = y21
          clear hd hb M1 M7 M3
          go_wp2
          go_roundw
          case rel => exact ⟨i + 1, x, y, b, by omega, by go_num, by go_num, by go_num, by go_num, by omega, by omega, by omega, by omega, N1.out, N7.out, N3.out⟩
          case measure => simp [intOf]; omega
    · obtain rfl : i = n := by omega
      have din : decide ((i : Int) < (i : Int)) = false := decide_eq_false (by omega)
      obtain ⟨M, hM⟩ : ∃ M : Int, mtI (i : Int) (x : Int) (y : Int) = M := ⟨_, rfl⟩
      have hMb : M ≤ (b : Int) := by rw [← hM]; unfold mtI; omega
      have HM := Lib.hid hM
      obtain ⟨Q, hQ⟩ : ∃ Q : Int, mtI (i : Int) (na : Int) (-(nb : Int)) = Q := ⟨_, rfl⟩
      have HQ := Lib.hid hQ
      clear hM hQ
      go_wp2_with fail
      refine wp_region_rely2 38 0 (fun z => ⟨#[.agg (szl ↑f ↑t).toArray, .slice Aa na ca, .slice Ab nb cb, .pointer (some { block := g3, off := 0 }), undef, undef, z 37, .pointer (some { block := g7, off := 0 }), .int IntKind.i64 ↑x, .int IntKind.i64 ↑y, .int IntKind.i64 ↑b, .int IntKind.i64 ↑i, u12, u13, .pointer (some { block := g3, off := 0 }), .int IntKind.i64 ↑f, .pointer (some { block := g3, off := 1 }), .int IntKind.i64 ↑t, .agg (szl ↑f ↑t).toArray, .agg (szl ↑f ↑t).toArray, .bool true, .bool false, .bool false, .slice Aa na ca, .int IntKind.i64 ↑na, .bool false, .bool false, .bool false, .slice Ab nb cb, .int IntKind.i64 ↑nb, .bool false, .bool false, undef, .int IntKind.i64 ↑i, .agg (szl ↑f ↑t).toArray, .int IntKind.i64 ↑i, .bool false, u37, u38, u39, u40, u41, u42, u43, u44, u45, u46, u47, u48, u49, u50, u51, u52, u53, u54, u55, u56, u57, u58, u59, u60, u61, u62, u63, u64, u65, u66, u67, u68, u69, u70, z 0, z 1, z 2, z 3, z 4, z 5, z 6, z 7, z 8, z 9, z 10, z 11, z 12, z 13, z 14, z 15, z 16, z 17, z 18, z 19, z 20, z 21, z 22, z 23, z 24, z 25, z 26, z 27, z 28, z 29, z 30, z 31, z 32, z 33, z 34, z 35, z 36], []⟩) (fun jj => ([(eqV (.bool true)), eqV (.bool true), eqV (.int IntKind.i64 ↑b), eqV (.agg (szl (f : Int) (t : Int)).toArray), eqV (.int IntKind.i64 ↑x), eqV (.int IntKind.i64 ↑y), (eqV (.int .i64 M)), eqV (.bool true), eqV (.bool true), eqV (.bool true), eqV (.agg (szl (f : Int) (t : Int)).toArray), eqV (.int IntKind.i64 ↑x), eqV (.int IntKind.i64 ↑y), (eqV (.int .i64 M)), eqV (.agg (szl (f : Int) (t : Int)).toArray), eqV (.int IntKind.i64 ↑x), eqV (.int IntKind.i64 ↑y), (eqV (.int .i64 M)), eqV (.bool true), eqV (.bool true), eqV (.bool true), eqV (.agg (szl (f : Int) (t : Int)).toArray), eqV (.slice Aa na ca), eqV (.int .i64 (na : Int)), eqV (.slice Ab nb cb), eqV (.int .i64 (nb : Int)), eqV (.int .i64 (-(nb : Int))), (eqV (.int .i64 Q)), eqV (.agg (szl (f : Int) (t : Int)).toArray), eqV (.slice Aa na ca), eqV (.int .i64 (na : Int)), eqV (.slice Ab nb cb), eqV (.int .i64 (nb : Int)), eqV (.int .i64 (-(nb : Int))), (eqV (.int .i64 Q)), eqV (.bool true), eqV (.bool true), eqV (.bool true)] : List (Value → World → Prop)).getD jj (fun _ _ => True)) rfl ⟨fun kk => [_, _, _, _, _, _, _, _, _, _, _, _, _, _, _, _, _, _, _, _, _, _, _, _, _, _, _, _, _, _, _, _, _, _, _, _, _, _].getD kk undef, rfl⟩ (by kernel_rfl) (by kernel_rfl) ?steps ?fin
      case steps =>
        refine StepsAt.cons 0 (fun _ _ _ h hb => h) (fun _ _ => rfl) rfl rfl (fun z w6 hb hd K hK => ?_) ?_
        · go_simp
          refine (alive7_any _).mono ?_
          rintro e w99 ⟨rfl, hb99⟩
          exact hK.out _ _ hb99 rfl
        refine StepsAt.val 1 (.bool true) rfl (fun _ _ => rfl) rfl rfl (fun z w6 hb hd => ?_) ?_
        · have h0 : z 0 = .bool true := hd 0 (by kernel_rfl)
          rw [h0]
          first | (go_simp; done) | (go_simp; rfl)
        refine StepsAt.valG 2 (.int IntKind.i64 ↑b) rfl (fun _ _ => rfl) rfl (fun z w6 hd => ?_) (fun z w6 hb hd => ?_) ?_
        · have hG : z 1 = .bool true := hd 1 (by kernel_rfl)
          simp [Region.wanted, yielded, hG]
        · first | (go_simp; done) | (go_simp; rfl)
        refine StepsAt.valG 3 (.agg (szl (f : Int) (t : Int)).toArray) rfl (fun _ _ => rfl) rfl (fun z w6 hd => ?_) (fun z w6 hb hd => ?_) ?_
        · have hG : z 1 = .bool true := hd 1 (by kernel_rfl)
          simp [Region.wanted, yielded, hG]
        · exact run_load_blkU 23 (.tmp 3) rfl g3 rfl (szl (f : Int) (t : Int)) 23 (M1.out.below hb M1.out.lt) d HUd.out HDd.out (sSize _ _)
        refine StepsAt.valG 4 (.int IntKind.i64 ↑x) rfl (fun _ _ => rfl) rfl (fun z w6 hd => ?_) (fun z w6 hb hd => ?_) ?_
        · have hG : z 1 = .bool true := hd 1 (by kernel_rfl)
          simp [Region.wanted, yielded, hG]
        · first | (go_simp; done) | (go_simp; rfl)
        refine StepsAt.valG 5 (.int IntKind.i64 ↑y) rfl (fun _ _ => rfl) rfl (fun z w6 hd => ?_) (fun z w6 hb hd => ?_) ?_
        · have hG : z 1 = .bool true := hd 1 (by kernel_rfl)
          simp [Region.wanted, yielded, hG]
        · first | (go_simp; done) | (go_simp; rfl)
        refine StepsAt.consG 6 (fun _ _ _ h hb => h) (fun _ _ => rfl) rfl (fun z w6 hd => ?_) (fun z w6 hb hd K hK => ?_) ?_
        · have hG : z 1 = .bool true := hd 1 (by kernel_rfl)
          simp [Region.wanted, yielded, hG]
        · have h3 : Hid (z 3 = .agg (szl (f : Int) (t : Int)).toArray) := hd 3 (by kernel_rfl)
          have h4 : Hid (z 4 = .int IntKind.i64 ↑x) := hd 4 (by kernel_rfl)
          have h5 : Hid (z 5 = .int IntKind.i64 ↑y) := hd 5 (by kernel_rfl)
          go_simp
          refine calls_args (args2 := #[.agg (szl (f : Int) (t : Int)).toArray, .int .i64 (x : Int), .int .i64 (y : Int)]) (by rw [h3.out, h4.out, h5.out]) ?_
          refine (meetS_any f t (x : Int) (y : Int) _ HF.out).mono ?_
          rintro e w99 ⟨rfl, hb99⟩
          rw [HN.out, HM.out]
          exact hK.out _ _ hb99 rfl
        refine StepsAt.valG 7 (.bool true) rfl (fun _ _ => rfl) rfl (fun z w6 hd => ?_) (fun z w6 hb hd => ?_) ?_
        · have hG : z 1 = .bool true := hd 1 (by kernel_rfl)
          simp [Region.wanted, yielded, hG]
        · have h2 : z 2 = .int IntKind.i64 ↑b := hd 2 (by kernel_rfl)
          have h6 : z 6 = .int .i64 M := hd 6 (by kernel_rfl)
          rw [h2, h6]
          have h0 := hMb
          first | (go_simp; done) | (go_simp; omega)
        refine StepsAt.val 8 (.bool true) rfl (fun _ _ => rfl) rfl rfl (fun z w6 hb hd => ?_) ?_
        · have h1 : z 1 = .bool true := hd 1 (by kernel_rfl)
          have h7 : z 7 = .bool true := hd 7 (by kernel_rfl)
          rw [h1, h7]
          first | (go_simp; done) | (go_simp; rfl)
        refine StepsAt.val 9 (.bool true) rfl (fun _ _ => rfl) rfl rfl (fun z w6 hb hd => ?_) ?_
        · have h8 : z 8 = .bool true := hd 8 (by kernel_rfl)
          rw [h8]
          first | (go_simp; done) | (go_simp; rfl)
        refine StepsAt.valG 10 (.agg (szl (f : Int) (t : Int)).toArray) rfl (fun _ _ => rfl) rfl (fun z w6 hd => ?_) (fun z w6 hb hd => ?_) ?_
        · have hG : z 9 = .bool true := hd 9 (by kernel_rfl)
          simp [Region.wanted, yielded, hG]
        · exact run_load_blkU 23 (.tmp 3) rfl g3 rfl (szl (f : Int) (t : Int)) 23 (M1.out.below hb M1.out.lt) d HUd.out HDd.out (sSize _ _)
        refine StepsAt.valG 11 (.int IntKind.i64 ↑x) rfl (fun _ _ => rfl) rfl (fun z w6 hd => ?_) (fun z w6 hb hd => ?_) ?_
        · have hG : z 9 = .bool true := hd 9 (by kernel_rfl)
          simp [Region.wanted, yielded, hG]
        · first | (go_simp; done) | (go_simp; rfl)
        refine StepsAt.valG 12 (.int IntKind.i64 ↑y) rfl (fun _ _ => rfl) rfl (fun z w6 hd => ?_) (fun z w6 hb hd => ?_) ?_
        · have hG : z 9 = .bool true := hd 9 (by kernel_rfl)
          simp [Region.wanted, yielded, hG]
        · first | (go_simp; done) | (go_simp; rfl)
        refine StepsAt.consG 13 (fun _ _ _ h hb => h) (fun _ _ => rfl) rfl (fun z w6 hd => ?_) (fun z w6 hb hd K hK => ?_) ?_
        · have hG : z 9 = .bool true := hd 9 (by kernel_rfl)
          simp [Region.wanted, yielded, hG]
        · have h10 : Hid (z 10 = .agg (szl (f : Int) (t : Int)).toArray) := hd 10 (by kernel_rfl)
          have h11 : Hid (z 11 = .int IntKind.i64 ↑x) := hd 11 (by kernel_rfl)
          have h12 : Hid (z 12 = .int IntKind.i64 ↑y) := hd 12 (by kernel_rfl)
          go_simp
          refine calls_args (args2 := #[.agg (szl (f : Int) (t : Int)).toArray, .int .i64 (x : Int), .int .i64 (y : Int)]) (by rw [h10.out, h11.out, h12.out]) ?_
          refine (meetS_any f t (x : Int) (y : Int) _ HF.out).mono ?_
          rintro e w99 ⟨rfl, hb99⟩
          rw [HN.out, HM.out]
          exact hK.out _ _ hb99 rfl
        refine StepsAt.valG 14 (.agg (szl (f : Int) (t : Int)).toArray) rfl (fun _ _ => rfl) rfl (fun z w6 hd => ?_) (fun z w6 hb hd => ?_) ?_
        · have hG : z 9 = .bool true := hd 9 (by kernel_rfl)
          simp [Region.wanted, yielded, hG]
        · exact run_load_blkU 27 (.tmp 7) rfl g7 rfl (szl (f : Int) (t : Int)) 27 (M7.out.below hb M7.out.lt) r HUr.out HDr.out (sSizeR _ _)
        refine StepsAt.valG 15 (.int IntKind.i64 ↑x) rfl (fun _ _ => rfl) rfl (fun z w6 hd => ?_) (fun z w6 hb hd => ?_) ?_
        · have hG : z 9 = .bool true := hd 9 (by kernel_rfl)
          simp [Region.wanted, yielded, hG]
        · first | (go_simp; done) | (go_simp; rfl)
        refine StepsAt.valG 16 (.int IntKind.i64 ↑y) rfl (fun _ _ => rfl) rfl (fun z w6 hd => ?_) (fun z w6 hb hd => ?_) ?_
        · have hG : z 9 = .bool true := hd 9 (by kernel_rfl)
          simp [Region.wanted, yielded, hG]
        · first | (go_simp; done) | (go_simp; rfl)
        refine StepsAt.consG 17 (fun _ _ _ h hb => h) (fun _ _ => rfl) rfl (fun z w6 hd => ?_) (fun z w6 hb hd K hK => ?_) ?_
        · have hG : z 9 = .bool true := hd 9 (by kernel_rfl)
          simp [Region.wanted, yielded, hG]
        · have h14 : Hid (z 14 = .agg (szl (f : Int) (t : Int)).toArray) := hd 14 (by kernel_rfl)
          have h15 : Hid (z 15 = .int IntKind.i64 ↑x) := hd 15 (by kernel_rfl)
          have h16 : Hid (z 16 = .int IntKind.i64 ↑y) := hd 16 (by kernel_rfl)
          go_simp
          refine calls_args (args2 := #[.agg (szl (f : Int) (t : Int)).toArray, .int .i64 (x : Int), .int .i64 (y : Int)]) (by rw [h14.out, h15.out, h16.out]) ?_
          refine (meetSR_any f t (x : Int) (y : Int) _ HF.out).mono ?_
          rintro e w99 ⟨rfl, hb99⟩
          rw [HN.out, HM.out]
          exact hK.out _ _ hb99 rfl
        refine StepsAt.valG 18 (.bool true) rfl (fun _ _ => rfl) rfl (fun z w6 hd => ?_) (fun z w6 hb hd => ?_) ?_
        · have hG : z 9 = .bool true := hd 9 (by kernel_rfl)
          simp [Region.wanted, yielded, hG]
        · have h13 : z 13 = .int .i64 M := hd 13 (by kernel_rfl)
          have h17 : z 17 = .int .i64 M := hd 17 (by kernel_rfl)
          rw [h13, h17]
          first | (go_simp; done) | (go_simp; rfl)
        refine StepsAt.val 19 (.bool true) rfl (fun _ _ => rfl) rfl rfl (fun z w6 hb hd => ?_) ?_
        · have h9 : z 9 = .bool true := hd 9 (by kernel_rfl)
          have h18 : z 18 = .bool true := hd 18 (by kernel_rfl)
          rw [h9, h18]
          first | (go_simp; done) | (go_simp; rfl)
        refine StepsAt.val 20 (.bool true) rfl (fun _ _ => rfl) rfl rfl (fun z w6 hb hd => ?_) ?_
        · have h19 : z 19 = .bool true := hd 19 (by kernel_rfl)
          rw [h19]
          first | (go_simp; done) | (go_simp; rfl)
        refine StepsAt.valG 21 (.agg (szl (f : Int) (t : Int)).toArray) rfl (fun _ _ => rfl) rfl (fun z w6 hd => ?_) (fun z w6 hb hd => ?_) ?_
        · have hG : z 20 = .bool true := hd 20 (by kernel_rfl)
          simp [Region.wanted, yielded, hG]
        · exact run_load_blkU 23 (.tmp 3) rfl g3 rfl (szl (f : Int) (t : Int)) 23 (M1.out.below hb M1.out.lt) d HUd.out HDd.out (sSize _ _)
        refine StepsAt.valG 22 (.slice Aa na ca) rfl (fun _ _ => rfl) rfl (fun z w6 hd => ?_) (fun z w6 hb hd => ?_) ?_
        · have hG : z 20 = .bool true := hd 20 (by kernel_rfl)
          simp [Region.wanted, yielded, hG]
        · first | (go_simp; done) | (go_simp; rfl)
        refine StepsAt.valG 23 (.int .i64 (na : Int)) rfl (fun _ _ => rfl) rfl (fun z w6 hd => ?_) (fun z w6 hb hd => ?_) ?_
        · have hG : z 20 = .bool true := hd 20 (by kernel_rfl)
          simp [Region.wanted, yielded, hG]
        · have h22 : z 22 = .slice Aa na ca := hd 22 (by kernel_rfl)
          rw [h22]
          first | (go_simp; done) | (go_simp; rfl)
        refine StepsAt.valG 24 (.slice Ab nb cb) rfl (fun _ _ => rfl) rfl (fun z w6 hd => ?_) (fun z w6 hb hd => ?_) ?_
        · have hG : z 20 = .bool true := hd 20 (by kernel_rfl)
          simp [Region.wanted, yielded, hG]
        · first | (go_simp; done) | (go_simp; rfl)
        refine StepsAt.valG 25 (.int .i64 (nb : Int)) rfl (fun _ _ => rfl) rfl (fun z w6 hd => ?_) (fun z w6 hb hd => ?_) ?_
        · have hG : z 20 = .bool true := hd 20 (by kernel_rfl)
          simp [Region.wanted, yielded, hG]
        · have h24 : z 24 = .slice Ab nb cb := hd 24 (by kernel_rfl)
          rw [h24]
          first | (go_simp; done) | (go_simp; rfl)
        refine StepsAt.valG 26 (.int .i64 (-(nb : Int))) rfl (fun _ _ => rfl) rfl (fun z w6 hd => ?_) (fun z w6 hb hd => ?_) ?_
        · have hG : z 20 = .bool true := hd 20 (by kernel_rfl)
          simp [Region.wanted, yielded, hG]
        · have h25 : z 25 = .int .i64 (nb : Int) := hd 25 (by kernel_rfl)
          rw [h25]
          go_simp
          exact wrap_i64s _ (by omega) (by omega)
        refine StepsAt.consG 27 (fun _ _ _ h hb => h) (fun _ _ => rfl) rfl (fun z w6 hd => ?_) (fun z w6 hb hd K hK => ?_) ?_
        · have hG : z 20 = .bool true := hd 20 (by kernel_rfl)
          simp [Region.wanted, yielded, hG]
        · have h21 : Hid (z 21 = .agg (szl (f : Int) (t : Int)).toArray) := hd 21 (by kernel_rfl)
          have h23 : Hid (z 23 = .int .i64 (na : Int)) := hd 23 (by kernel_rfl)
          have h26 : Hid (z 26 = .int .i64 (-(nb : Int))) := hd 26 (by kernel_rfl)
          go_simp
          refine calls_args (args2 := #[.agg (szl (f : Int) (t : Int)).toArray, .int .i64 (na : Int), .int .i64 (-(nb : Int))]) (by rw [h21.out, h23.out, h26.out]) ?_
          refine (meetS_any f t (na : Int) (-(nb : Int)) _ HF.out).mono ?_
          rintro e w99 ⟨rfl, hb99⟩
          rw [HN.out, HQ.out]
          exact hK.out _ _ hb99 rfl
        refine StepsAt.valG 28 (.agg (szl (f : Int) (t : Int)).toArray) rfl (fun _ _ => rfl) rfl (fun z w6 hd => ?_) (fun z w6 hb hd => ?_) ?_
        · have hG : z 20 = .bool true := hd 20 (by kernel_rfl)
          simp [Region.wanted, yielded, hG]
        · exact run_load_blkU 27 (.tmp 7) rfl g7 rfl (szl (f : Int) (t : Int)) 27 (M7.out.below hb M7.out.lt) r HUr.out HDr.out (sSizeR _ _)
        refine StepsAt.valG 29 (.slice Aa na ca) rfl (fun _ _ => rfl) rfl (fun z w6 hd => ?_) (fun z w6 hb hd => ?_) ?_
        · have hG : z 20 = .bool true := hd 20 (by kernel_rfl)
          simp [Region.wanted, yielded, hG]
        · first | (go_simp; done) | (go_simp; rfl)
        refine StepsAt.valG 30 (.int .i64 (na : Int)) rfl (fun _ _ => rfl) rfl (fun z w6 hd => ?_) (fun z w6 hb hd => ?_) ?_
        · have hG : z 20 = .bool true := hd 20 (by kernel_rfl)
          simp [Region.wanted, yielded, hG]
        · have h29 : z 29 = .slice Aa na ca := hd 29 (by kernel_rfl)
          rw [h29]
          first | (go_simp; done) | (go_simp; rfl)
        refine StepsAt.valG 31 (.slice Ab nb cb) rfl (fun _ _ => rfl) rfl (fun z w6 hd => ?_) (fun z w6 hb hd => ?_) ?_
        · have hG : z 20 = .bool true := hd 20 (by kernel_rfl)
          simp [Region.wanted, yielded, hG]
        · first | (go_simp; done) | (go_simp; rfl)
        refine StepsAt.valG 32 (.int .i64 (nb : Int)) rfl (fun _ _ => rfl) rfl (fun z w6 hd => ?_) (fun z w6 hb hd => ?_) ?_
        · have hG : z 20 = .bool true := hd 20 (by kernel_rfl)
          simp [Region.wanted, yielded, hG]
        · have h31 : z 31 = .slice Ab nb cb := hd 31 (by kernel_rfl)
          rw [h31]
          first | (go_simp; done) | (go_simp; rfl)
        refine StepsAt.valG 33 (.int .i64 (-(nb : Int))) rfl (fun _ _ => rfl) rfl (fun z w6 hd => ?_) (fun z w6 hb hd => ?_) ?_
        · have hG : z 20 = .bool true := hd 20 (by kernel_rfl)
          simp [Region.wanted, yielded, hG]
        · have h32 : z 32 = .int .i64 (nb : Int) := hd 32 (by kernel_rfl)
          rw [h32]
          go_simp
          exact wrap_i64s _ (by omega) (by omega)
        refine StepsAt.consG 34 (fun _ _ _ h hb => h) (fun _ _ => rfl) rfl (fun z w6 hd => ?_) (fun z w6 hb hd K hK => ?_) ?_
        · have hG : z 20 = .bool true := hd 20 (by kernel_rfl)
          simp [Region.wanted, yielded, hG]
        · have h28 : Hid (z 28 = .agg (szl (f : Int) (t : Int)).toArray) := hd 28 (by kernel_rfl)
          have h30 : Hid (z 30 = .int .i64 (na : Int)) := hd 30 (by kernel_rfl)
          have h33 : Hid (z 33 = .int .i64 (-(nb : Int))) := hd 33 (by kernel_rfl)
          go_simp
          refine calls_args (args2 := #[.agg (szl (f : Int) (t : Int)).toArray, .int .i64 (na : Int), .int .i64 (-(nb : Int))]) (by rw [h28.out, h30.out, h33.out]) ?_
          refine (meetSR_any f t (na : Int) (-(nb : Int)) _ HF.out).mono ?_
          rintro e w99 ⟨rfl, hb99⟩
          rw [HN.out, HQ.out]
          exact hK.out _ _ hb99 rfl
        refine StepsAt.valG 35 (.bool true) rfl (fun _ _ => rfl) rfl (fun z w6 hd => ?_) (fun z w6 hb hd => ?_) ?_
        · have hG : z 20 = .bool true := hd 20 (by kernel_rfl)
          simp [Region.wanted, yielded, hG]
        · have h27 : z 27 = .int .i64 Q := hd 27 (by kernel_rfl)
          have h34 : z 34 = .int .i64 Q := hd 34 (by kernel_rfl)
          rw [h27, h34]
          first | (go_simp; done) | (go_simp; rfl)
        refine StepsAt.val 36 (.bool true) rfl (fun _ _ => rfl) rfl rfl (fun z w6 hb hd => ?_) ?_
        · have h20 : z 20 = .bool true := hd 20 (by kernel_rfl)
          have h35 : z 35 = .bool true := hd 35 (by kernel_rfl)
          rw [h20, h35]
          first | (go_simp; done) | (go_simp; rfl)
        refine StepsAt.val 37 (.bool true) rfl (fun _ _ => rfl) rfl rfl (fun z w6 hb hd => ?_) ?_
        · have h36 : z 36 = .bool true := hd 36 (by kernel_rfl)
          rw [h36]
          first | (go_simp; done) | (go_simp; rfl)
        exact StepsAt.done
      case fin =>
        intro z w6 hb hd
        have hx0 : z 0 = .bool true := hd 0 (by omega)
        have hx1 : z 1 = .bool true := hd 1 (by omega)
        have hx2 : z 2 = .int IntKind.i64 ↑b := hd 2 (by omega)
        have hx3 : z 3 = .agg (szl (f : Int) (t : Int)).toArray := hd 3 (by omega)
        have hx4 : z 4 = .int IntKind.i64 ↑x := hd 4 (by omega)
        have hx5 : z 5 = .int IntKind.i64 ↑y := hd 5 (by omega)
        have hx6 : z 6 = .int .i64 M := hd 6 (by omega)
        have hx7 : z 7 = .bool true := hd 7 (by omega)
        have hx8 : z 8 = .bool true := hd 8 (by omega)
        have hx9 : z 9 = .bool true := hd 9 (by omega)
        have hx10 : z 10 = .agg (szl (f : Int) (t : Int)).toArray := hd 10 (by omega)
        have hx11 : z 11 = .int IntKind.i64 ↑x := hd 11 (by omega)
        have hx12 : z 12 = .int IntKind.i64 ↑y := hd 12 (by omega)
        have hx13 : z 13 = .int .i64 M := hd 13 (by omega)
        have hx14 : z 14 = .agg (szl (f : Int) (t : Int)).toArray := hd 14 (by omega)
        have hx15 : z 15 = .int IntKind.i64 ↑x := hd 15 (by omega)
        have hx16 : z 16 = .int IntKind.i64 ↑y := hd 16 (by omega)
        have hx17 : z 17 = .int .i64 M := hd 17 (by omega)
        have hx18 : z 18 = .bool true := hd 18 (by omega)
        have hx19 : z 19 = .bool true := hd 19 (by omega)
        have hx20 : z 20 = .bool true := hd 20 (by omega)
        have hx21 : z 21 = .agg (szl (f : Int) (t : Int)).toArray := hd 21 (by omega)
        have hx22 : z 22 = .slice Aa na ca := hd 22 (by omega)
        have hx23 : z 23 = .int .i64 (na : Int) := hd 23 (by omega)
        have hx24 : z 24 = .slice Ab nb cb := hd 24 (by omega)
        have hx25 : z 25 = .int .i64 (nb : Int) := hd 25 (by omega)
        have hx26 : z 26 = .int .i64 (-(nb : Int)) := hd 26 (by omega)
        have hx27 : z 27 = .int .i64 Q := hd 27 (by omega)
        have hx28 : z 28 = .agg (szl (f : Int) (t : Int)).toArray := hd 28 (by omega)
        have hx29 : z 29 = .slice Aa na ca := hd 29 (by omega)
        have hx30 : z 30 = .int .i64 (na : Int) := hd 30 (by omega)
        have hx31 : z 31 = .slice Ab nb cb := hd 31 (by omega)
        have hx32 : z 32 = .int .i64 (nb : Int) := hd 32 (by omega)
        have hx33 : z 33 = .int .i64 (-(nb : Int)) := hd 33 (by omega)
        have hx34 : z 34 = .int .i64 Q := hd 34 (by omega)
        have hx35 : z 35 = .bool true := hd 35 (by omega)
        have hx36 : z 36 = .bool true := hd 36 (by omega)
        have hx37 : z 37 = .bool true := hd 37 (by omega)
        refine AnyTill.any (S := fun _ => True) (m := 38) _ _ _ _ ?_
        refine AnyTill.done (by kernel_rfl) ?_
        refine NoPanic.normal ?_
        try dsimp only
        rw [hx0, hx1, hx2, hx3, hx4, hx5, hx6, hx7, hx8, hx9, hx10, hx11, hx12, hx13, hx14, hx15, hx16, hx17, hx18, hx19, hx20, hx21, hx22, hx23, hx24, hx25, hx26, hx27, hx28, hx29, hx30, hx31, hx32, hx33, hx34, hx35, hx36, hx37]
        have N3 : Hid (Below w.heap.size w w6) := M3.out.trans (hb.mono M3.out.size)
        clear hd hb hx0 hx1 hx2 hx3 hx4 hx5 hx6 hx7 hx8 hx9 hx10 hx11 hx12 hx13 hx14 hx15 hx16 hx17 hx18 hx19 hx20 hx21 hx22 hx23 hx24 hx25 hx26 hx27 hx28 hx29 hx30 hx31 hx32 hx33 hx34 hx35 hx36 hx37 M1 M7 M3
        go_wp2
        go_ret
        exact ⟨rfl, N3.out⟩

theorem meets_all (f t : Int) (av : Value) (la : List Bool) (bv : Value) (lb : List Bool) (w : World) (hta : RdO w.heap.size w av la) (htb : RdO w.heap.size w bv lb) : Calls Try.prog 4 #[.agg (szl f t).toArray, av, bv] w (One (.bool true) w) := by
  rcases size_or f t with ⟨F, T, hf, rfl, rfl⟩ | h
  · by_cases h1 : 60 < la.length
    · exact meets_la F T la lb av bv w hta htb hf h1
    by_cases h2 : 60 < lb.length
    · exact meets_lb F T la lb av bv w hta htb hf (by omega) h2
    exact meets_main F T la lb av bv w hta htb hf (by omega) (by omega)
  · exact meets_no f t la lb av bv w hta htb h

end Go.Proofs.Ytgabkeohihdenaa
