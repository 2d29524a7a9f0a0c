/-
  The law SizeTells, walked: it answers true for all numbers.
-/
import Derived.Test.YtgabkeohihdenaaZC
namespace Go.Proofs.Ytgabkeohihdenaa
open Go.RowKit

set_option maxRecDepth 100000 in
set_option maxHeartbeats 2000000 in
theorem tells_no (f t v : Int) (w : World) (hf : szB f t = false) : Calls Try.prog 3 #[.int .i64 f, .int .i64 t, .int .i64 v] w (One (.bool true) w) := by
  have HY := Lib.hid hf
  clear hf
  obtain ⟨d, hud, hdd⟩ := rowSize
  have HUd := Lib.hid hud
  have HDd := Lib.hid hdd
  clear hud hdd
  obtain ⟨r, hur, hdr⟩ := rowSizeR
  have HUr := Lib.hid hur
  have HDr := Lib.hid hdr
  clear hur hdr
  go_enter Try.func3, Try.ntmps3
  go_wp2_with fail
  refine (newS_no f t _ HY.out).mono ?_
  rintro e w1 ⟨rfl, hb⟩
  have A3 := Lib.hid hb
  clear hb
  go_wp2_with (refine wpList_alloc_blk rfl 23 rfl _ zSize ?_)
  intro w2 a1 a2 a3
  obtain ⟨g7, hg7⟩ : ∃ g, w1.heap.size = g := ⟨_, rfl⟩
  rw [hg7] at a1 a2 a3 ⊢
  have G1 := Lib.hid a1
  obtain ⟨t2, ht2⟩ : ∃ u, w2.setRow g7 (szl 0 0).toArray = u := ⟨_, rfl⟩
  have B1 : Hid (Blk t2 g7 (szl 0 0) 23) := by show Blk _ _ _ _; rw [← ht2]; exact a1.setRow
  have B3 : Hid (Below w.heap.size w t2) := by show Below _ _ _; rw [← ht2]; exact below_setRow' (A3.out.trans (a3.mono (by have := A3.out.size; omega))) (by have := A3.out.size; omega) _
  have HT2 := Lib.hid ht2
  clear a1 a2 a3 hg7 ht2 A3
  go_wp2_with (refine wpList_store_blk rfl 23 _ _ rfl g7 (szl 0 0) (szl 0 0) 23 rfl rfl G1.out (sSize _ _) rfl (szl_one _ _) ?_; rw [HT2.out]; clear HT2)
  refine (newSR_no f t _ HY.out).mono ?_
  rintro e w3 ⟨rfl, hb⟩
  have C1 : Hid (Blk w3 g7 (szl 0 0) 23) := B1.out.below hb B1.out.lt
  have C3 : Hid (Below w.heap.size w w3) := B3.out.trans (hb.mono B3.out.size)
  clear hb B1 B3 G1
  go_wp2_with (refine wpList_alloc_blk rfl 27 rfl _ zSizeR ?_)
  intro w4 a1 a2 a3
  obtain ⟨g9, hg9⟩ : ∃ g, w3.heap.size = g := ⟨_, rfl⟩
  have h79 : g7 < g9 := by have := C1.out.lt; omega
  rw [hg9] at a1 a2 a3 ⊢
  have G3 := Lib.hid a1
  obtain ⟨t4, ht4⟩ : ∃ u, w4.setRow g9 (szl 0 0).toArray = u := ⟨_, rfl⟩
  have D7 : Hid (Blk t4 g7 (szl 0 0) 23) := by show Blk _ _ _ _; rw [← ht4]; exact (C1.out.below a3 h79).setRowOther (by omega)
  have D9 : Hid (Blk t4 g9 (szl 0 0) 27) := by show Blk _ _ _ _; rw [← ht4]; exact a1.setRow
  have D3 : Hid (Below w.heap.size w t4) := by show Below _ _ _; rw [← ht4]; exact below_setRow' (C3.out.trans (a3.mono (by have := C3.out.size; omega))) (by have := C3.out.size; omega) _
  have HT4 := Lib.hid ht4
  have cf := (D7.out.cell 0).trans (show _ = some _ from rfl)
  have ct := (D7.out.cell 1).trans (show _ = some _ from rfl)
  have cf2 := (D9.out.cell 0).trans (show _ = some _ from rfl)
  have ct2 := (D9.out.cell 1).trans (show _ = some _ from rfl)
  clear a1 a2 a3 hg9 ht4 C1 C3 h79
  go_wp2_with (first | (refine wpList_store_blk rfl 27 _ _ rfl g9 (szl 0 0) (szl 0 0) 27 rfl rfl G3.out (sSizeR _ _) rfl (szl_one _ _) ?_; rw [HT4.out]; clear HT4) | (refine wpList_buildG 23 _ rfl (szl f t).toArray (by simp only [List.map_toArray, List.map_cons, List.map_nil]; exact builtS _ _) (by rfl) ?_))
  refine (rightS_any _ _ _).mono ?_
  rintro e w5 ⟨rfl, hb⟩
  rw [HY.out]
  have E7 : Hid (Blk w5 g7 (szl 0 0) 23) := D7.out.below hb D7.out.lt
  have E9 : Hid (Blk w5 g9 (szl 0 0) 27) := D9.out.below hb D9.out.lt
  have E3 : Hid (Below w.heap.size w w5) := D3.out.trans (hb.mono D3.out.size)
  clear hb D7 D9 D3 G3 cf ct cf2 ct2
  go_wp2_with (refine wpList_buildG 27 _ rfl (szl f t).toArray (by simp only [List.map_toArray, List.map_cons, List.map_nil]; exact builtSR _ _) (by rfl) ?_)
  refine (rightSR_any _ _ _).mono ?_
  rintro e w6 ⟨rfl, hb⟩
  rw [HY.out]
  have F7 : Hid (Blk w6 g7 (szl 0 0) 23) := E7.out.below hb E7.out.lt
  have F9 : Hid (Blk w6 g9 (szl 0 0) 27) := E9.out.below hb E9.out.lt
  have F3 : Hid (Below w.heap.size w w6) := E3.out.trans (hb.mono E3.out.size)
  clear hb E7 E9 E3
  go_wp2_with fail
  refine (alive7_any _).mono ?_
  rintro e w7 ⟨rfl, hb⟩
  have Z3 : Hid (Below w.heap.size w w7) := F3.out.trans (hb.mono F3.out.size)
  clear hb
  go_wp2
  go_ret
  exact ⟨rfl, Z3.out⟩

set_option maxRecDepth 100000 in
set_option maxHeartbeats 2000000 in
theorem tells_yes (f t : Nat) (v : Int) (w : World) (hf : SFit f t) : Calls Try.prog 3 #[.int .i64 (f : Int), .int .i64 (t : Int), .int .i64 v] w (One (.bool true) w) := by
  have HF := Lib.hid hf
  have HY := Lib.hid hf.yes
  obtain ⟨N, hN⟩ : ∃ x : Int, ((nN f t : Nat) : Int) = x := ⟨_, rfl⟩
  obtain ⟨FA, hFA⟩ : ∃ x : Int, ((nFast f t : Nat) : Int) = x := ⟨_, rfl⟩
  obtain ⟨PR, hPR⟩ : ∃ x : Int, ((nProof f t : Nat) : Int) = x := ⟨_, rfl⟩
  obtain ⟨MO, hMO⟩ : ∃ x : Int, ((nMost f t : Nat) : Int) = x := ⟨_, rfl⟩
  obtain ⟨VO, hVO⟩ : ∃ x : Int, ((nVouch f t : Nat) : Int) = x := ⟨_, rfl⟩
  obtain ⟨WE, hWE⟩ : ∃ x : Int, ((nWeak f t : Nat) : Int) = x := ⟨_, rfl⟩
  have HN := Lib.hid hN
  have HFA := Lib.hid hFA
  have HPR := Lib.hid hPR
  have HMO := Lib.hid hMO
  have HVO := Lib.hid hVO
  have HWE := Lib.hid hWE
  obtain ⟨LD, hLD⟩ : ∃ x : Int, ldI N v = x := ⟨_, rfl⟩
  have HLD := Lib.hid hLD
  clear hf hN hFA hPR hMO hVO hWE hLD
  obtain ⟨d, hud, hdd⟩ := rowSize
  have HUd := Lib.hid hud
  have HDd := Lib.hid hdd
  clear hud hdd
  obtain ⟨r, hur, hdr⟩ := rowSizeR
  have HUr := Lib.hid hur
  have HDr := Lib.hid hdr
  clear hur hdr
  go_enter Try.func3, Try.ntmps3
  go_wp2_with fail
  refine (newS_yes (f : Int) (t : Int) _ HY.out).mono ?_
  rintro e w1 ⟨rfl, hb⟩
  have A3 := Lib.hid hb
  clear hb
  go_wp2_with (refine wpList_alloc_blk rfl 23 rfl _ zSize ?_)
  intro w2 a1 a2 a3
  obtain ⟨g7, hg7⟩ : ∃ g, w1.heap.size = g := ⟨_, rfl⟩
  rw [hg7] at a1 a2 a3 ⊢
  have G1 := Lib.hid a1
  obtain ⟨t2, ht2⟩ : ∃ u, w2.setRow g7 (szl (f : Int) (t : Int)).toArray = u := ⟨_, rfl⟩
  have B1 : Hid (Blk t2 g7 (szl (f : Int) (t : Int)) 23) := by show Blk _ _ _ _; rw [← ht2]; exact a1.setRow
  have B3 : Hid (Below w.heap.size w t2) := by show Below _ _ _; rw [← ht2]; exact below_setRow' (A3.out.trans (a3.mono (by have := A3.out.size; omega))) (by have := A3.out.size; omega) _
  have HT2 := Lib.hid ht2
  clear a1 a2 a3 hg7 ht2 A3
  go_wp2_with (refine wpList_store_blk rfl 23 _ _ rfl g7 (szl (f : Int) (t : Int)) (szl 0 0) 23 rfl rfl G1.out (sSize _ _) rfl (szl_one _ _) ?_; rw [HT2.out]; clear HT2)
  refine (newSR_yes (f : Int) (t : Int) _ HY.out).mono ?_
  rintro e w3 ⟨rfl, hb⟩
  have C1 : Hid (Blk w3 g7 (szl (f : Int) (t : Int)) 23) := B1.out.below hb B1.out.lt
  have C3 : Hid (Below w.heap.size w w3) := B3.out.trans (hb.mono B3.out.size)
  clear hb B1 B3 G1
  go_wp2_with (refine wpList_alloc_blk rfl 27 rfl _ zSizeR ?_)
  intro w4 a1 a2 a3
  obtain ⟨g9, hg9⟩ : ∃ g, w3.heap.size = g := ⟨_, rfl⟩
  have h79 : g7 < g9 := by have := C1.out.lt; omega
  rw [hg9] at a1 a2 a3 ⊢
  have G3 := Lib.hid a1
  obtain ⟨t4, ht4⟩ : ∃ u, w4.setRow g9 (szl (f : Int) (t : Int)).toArray = u := ⟨_, rfl⟩
  have D7 : Hid (Blk t4 g7 (szl (f : Int) (t : Int)) 23) := by show Blk _ _ _ _; rw [← ht4]; exact (C1.out.below a3 h79).setRowOther (by omega)
  have D9 : Hid (Blk t4 g9 (szl (f : Int) (t : Int)) 27) := by show Blk _ _ _ _; rw [← ht4]; exact a1.setRow
  have D3 : Hid (Below w.heap.size w t4) := by show Below _ _ _; rw [← ht4]; exact below_setRow' (C3.out.trans (a3.mono (by have := C3.out.size; omega))) (by have := C3.out.size; omega) _
  have HT4 := Lib.hid ht4
  have cf := (D7.out.cell 0).trans (show _ = some _ from rfl)
  have ct := (D7.out.cell 1).trans (show _ = some _ from rfl)
  have cf2 := (D9.out.cell 0).trans (show _ = some _ from rfl)
  have ct2 := (D9.out.cell 1).trans (show _ = some _ from rfl)
  clear a1 a2 a3 hg9 ht4 C1 C3 h79
  go_wp2_with (first | (refine wpList_store_blk rfl 27 _ _ rfl g9 (szl (f : Int) (t : Int)) (szl 0 0) 27 rfl rfl G3.out (sSizeR _ _) rfl (szl_one _ _) ?_; rw [HT4.out]; clear HT4) | (refine wpList_buildG 23 _ rfl (szl (f : Int) (t : Int)).toArray (by simp only [List.map_toArray, List.map_cons, List.map_nil]; exact builtS _ _) (by rfl) ?_))
  refine (rightS_any _ _ _).mono ?_
  rintro e w5 ⟨rfl, hb⟩
  rw [HY.out]
  have E7 : Hid (Blk w5 g7 (szl (f : Int) (t : Int)) 23) := D7.out.below hb D7.out.lt
  have E9 : Hid (Blk w5 g9 (szl (f : Int) (t : Int)) 27) := D9.out.below hb D9.out.lt
  have E3 : Hid (Below w.heap.size w w5) := D3.out.trans (hb.mono D3.out.size)
  clear hb D7 D9 D3 G3 cf ct cf2 ct2
  go_wp2_with (refine wpList_buildG 27 _ rfl (szl (f : Int) (t : Int)).toArray (by simp only [List.map_toArray, List.map_cons, List.map_nil]; exact builtSR _ _) (by rfl) ?_)
  refine (rightSR_any _ _ _).mono ?_
  rintro e w6 ⟨rfl, hb⟩
  rw [HY.out]
  have F7 : Hid (Blk w6 g7 (szl (f : Int) (t : Int)) 23) := E7.out.below hb E7.out.lt
  have F9 : Hid (Blk w6 g9 (szl (f : Int) (t : Int)) 27) := E9.out.below hb E9.out.lt
  have F3 : Hid (Below w.heap.size w w6) := E3.out.trans (hb.mono E3.out.size)
  clear hb E7 E9 E3
  go_wp2_with fail
  refine wp_region_rely2 27 0 (fun x => ⟨#[.int IntKind.i64 ↑f, .int IntKind.i64 ↑t, .int IntKind.i64 v, undef, undef, undef, .bool false, .pointer (some { block := g7, off := 0 }), .int IntKind.i64 0, .pointer (some { block := g9, off := 0 }), .int IntKind.i64 0, x 26, .tuple #[Value.agg (szl ↑f ↑t).toArray, Value.int IntKind.i64 0], .int IntKind.i64 ↑f, .int IntKind.i64 ↑t, .tuple #[Value.agg (szl ↑f ↑t).toArray, Value.int IntKind.i64 0], .agg (szl ↑f ↑t).toArray, .int IntKind.i64 0, .tuple #[Value.agg (szl ↑f ↑t).toArray, Value.int IntKind.i64 0], .int IntKind.i64 ↑f, .int IntKind.i64 ↑t, .tuple #[Value.agg (szl ↑f ↑t).toArray, Value.int IntKind.i64 0], .agg (szl ↑f ↑t).toArray, .int IntKind.i64 0, .pointer (some { block := g7, off := 0 }), .int IntKind.i64 ↑f, .pointer (some { block := g9, off := 0 }), .int IntKind.i64 ↑f, .bool false, .bool false, .pointer (some { block := g7, off := 1 }), .int IntKind.i64 ↑t, .pointer (some { block := g9, off := 1 }), .int IntKind.i64 ↑t, .bool false, .bool false, .bool false, .int IntKind.i64 0, .int IntKind.i64 0, .bool false, .bool false, .bool false, .int IntKind.i64 ↑f, .int IntKind.i64 ↑t, .agg (szl ↑f ↑t).toArray, .bool true, .int IntKind.i64 ↑f, .int IntKind.i64 ↑t, .agg (szl ↑f ↑t).toArray, .bool true, .bool false, .bool false, .int IntKind.i64 0, .bool false, undef, x 0, x 1, x 2, x 3, x 4, x 5, x 6, x 7, x 8, x 9, x 10, x 11, x 12, x 13, x 14, x 15, x 16, x 17, x 18, x 19, x 20, x 21, x 22, x 23, x 24, x 25, undef, undef, undef, undef, undef, undef, undef, undef, undef, undef, undef, undef, undef, undef, undef, undef, undef, undef, undef, undef, undef, undef, undef, undef, undef, undef, undef], []⟩) (fun jj => ([eqV (.agg (szl (f : Int) (t : Int)).toArray), (eqV (.int .i64 N)), eqV (.agg (szl (f : Int) (t : Int)).toArray), (eqV (.int .i64 N)), eqV (.bool true), eqV (.bool true), eqV (.agg (szl (f : Int) (t : Int)).toArray), (eqV (.int .i64 FA)), eqV (.agg (szl (f : Int) (t : Int)).toArray), (eqV (.int .i64 FA)), eqV (.bool true), eqV (.bool true), eqV (.bool true), eqV (.agg (szl (f : Int) (t : Int)).toArray), (eqV (.int .i64 PR)), eqV (.agg (szl (f : Int) (t : Int)).toArray), (eqV (.int .i64 PR)), eqV (.bool true), eqV (.bool true), eqV (.bool true), eqV (.agg (szl (f : Int) (t : Int)).toArray), (eqV (.int .i64 MO)), eqV (.agg (szl (f : Int) (t : Int)).toArray), (eqV (.int .i64 MO)), eqV (.bool true), eqV (.bool true), eqV (.bool true)] : List (Value → World → Prop)).getD jj (fun _ _ => True)) rfl ⟨fun kk => [_, _, _, _, _, _, _, _, _, _, _, _, _, _, _, _, _, _, _, _, _, _, _, _, _, _, _].getD kk undef, rfl⟩ (by kernel_rfl) (by kernel_rfl) ?steps ?fin
  case steps =>
    refine StepsAt.val 0 (.agg (szl (f : Int) (t : Int)).toArray) rfl (fun _ _ => rfl) rfl rfl (fun x w7 hb hd => ?_) ?_
    · exact run_load_blkU 23 (.tmp 7) rfl g7 rfl (szl (f : Int) (t : Int)) 23 (F7.out.below hb F7.out.lt) d HUd.out HDd.out (sSize _ _)
    refine StepsAt.cons 1 (fun _ _ _ h hb => h) (fun _ _ => rfl) rfl rfl (fun x w7 hb hd K hK => ?_) ?_
    · have h0 : Hid (x 0 = .agg (szl (f : Int) (t : Int)).toArray) := hd 0 (by kernel_rfl)
      go_simp
      refine calls_args (args2 := #[.agg (szl (f : Int) (t : Int)).toArray]) (by rw [h0.out]) ?_
      refine (nN_any f t _ HF.out).mono ?_
      rintro e w99 ⟨rfl, hb99⟩
      rw [HN.out]
      exact hK.out _ _ hb99 rfl
    refine StepsAt.val 2 (.agg (szl (f : Int) (t : Int)).toArray) rfl (fun _ _ => rfl) rfl rfl (fun x w7 hb hd => ?_) ?_
    · exact run_load_blkU 27 (.tmp 9) rfl g9 rfl (szl (f : Int) (t : Int)) 27 (F9.out.below hb F9.out.lt) r HUr.out HDr.out (sSizeR _ _)
    refine StepsAt.cons 3 (fun _ _ _ h hb => h) (fun _ _ => rfl) rfl rfl (fun x w7 hb hd K hK => ?_) ?_
    · have h2 : Hid (x 2 = .agg (szl (f : Int) (t : Int)).toArray) := hd 2 (by kernel_rfl)
      go_simp
      refine calls_args (args2 := #[.agg (szl (f : Int) (t : Int)).toArray]) (by rw [h2.out]) ?_
      refine (nNR_any f t _ HF.out).mono ?_
      rintro e w99 ⟨rfl, hb99⟩
      rw [HN.out]
      exact hK.out _ _ hb99 rfl
    refine StepsAt.val 4 (.bool true) rfl (fun _ _ => rfl) rfl rfl (fun x w7 hb hd => ?_) ?_
    · have h1 : x 1 = .int .i64 N := hd 1 (by kernel_rfl)
      have h3 : x 3 = .int .i64 N := hd 3 (by kernel_rfl)
      rw [h1, h3]
      first | (go_simp; done) | (go_simp; rfl)
    refine StepsAt.val 5 (.bool true) rfl (fun _ _ => rfl) rfl rfl (fun x w7 hb hd => ?_) ?_
    · have h4 : x 4 = .bool true := hd 4 (by kernel_rfl)
      rw [h4]
      first | (go_simp; done) | (go_simp; rfl)
    refine StepsAt.valG 6 (.agg (szl (f : Int) (t : Int)).toArray) rfl (fun _ _ => rfl) rfl (fun x w7 hd => ?_) (fun x w7 hb hd => ?_) ?_
    · have hG : x 5 = .bool true := hd 5 (by kernel_rfl)
      simp [Region.wanted, yielded, hG]
    · exact run_load_blkU 23 (.tmp 7) rfl g7 rfl (szl (f : Int) (t : Int)) 23 (F7.out.below hb F7.out.lt) d HUd.out HDd.out (sSize _ _)
    refine StepsAt.consG 7 (fun _ _ _ h hb => h) (fun _ _ => rfl) rfl (fun x w7 hd => ?_) (fun x w7 hb hd K hK => ?_) ?_
    · have hG : x 5 = .bool true := hd 5 (by kernel_rfl)
      simp [Region.wanted, yielded, hG]
    · have h6 : Hid (x 6 = .agg (szl (f : Int) (t : Int)).toArray) := hd 6 (by kernel_rfl)
      go_simp
      refine calls_args (args2 := #[.agg (szl (f : Int) (t : Int)).toArray]) (by rw [h6.out]) ?_
      refine (nFast_any f t _ HF.out).mono ?_
      rintro e w99 ⟨rfl, hb99⟩
      rw [HFA.out]
      exact hK.out _ _ hb99 rfl
    refine StepsAt.valG 8 (.agg (szl (f : Int) (t : Int)).toArray) rfl (fun _ _ => rfl) rfl (fun x w7 hd => ?_) (fun x w7 hb hd => ?_) ?_
    · have hG : x 5 = .bool true := hd 5 (by kernel_rfl)
      simp [Region.wanted, yielded, hG]
    · exact run_load_blkU 27 (.tmp 9) rfl g9 rfl (szl (f : Int) (t : Int)) 27 (F9.out.below hb F9.out.lt) r HUr.out HDr.out (sSizeR _ _)
    refine StepsAt.consG 9 (fun _ _ _ h hb => h) (fun _ _ => rfl) rfl (fun x w7 hd => ?_) (fun x w7 hb hd K hK => ?_) ?_
    · have hG : x 5 = .bool true := hd 5 (by kernel_rfl)
      simp [Region.wanted, yielded, hG]
    · have h8 : Hid (x 8 = .agg (szl (f : Int) (t : Int)).toArray) := hd 8 (by kernel_rfl)
      go_simp
      refine calls_args (args2 := #[.agg (szl (f : Int) (t : Int)).toArray]) (by rw [h8.out]) ?_
      refine (nFastR_any f t _ HF.out).mono ?_
      rintro e w99 ⟨rfl, hb99⟩
      rw [HFA.out]
      exact hK.out _ _ hb99 rfl
    refine StepsAt.valG 10 (.bool true) rfl (fun _ _ => rfl) rfl (fun x w7 hd => ?_) (fun x w7 hb hd => ?_) ?_
    · have hG : x 5 = .bool true := hd 5 (by kernel_rfl)
      simp [Region.wanted, yielded, hG]
    · have h7 : x 7 = .int .i64 FA := hd 7 (by kernel_rfl)
      have h9 : x 9 = .int .i64 FA := hd 9 (by kernel_rfl)
      rw [h7, h9]
      first | (go_simp; done) | (go_simp; rfl)
    refine StepsAt.val 11 (.bool true) rfl (fun _ _ => rfl) rfl rfl (fun x w7 hb hd => ?_) ?_
    · have h5 : x 5 = .bool true := hd 5 (by kernel_rfl)
      have h10 : x 10 = .bool true := hd 10 (by kernel_rfl)
      rw [h5, h10]
      first | (go_simp; done) | (go_simp; rfl)
    refine StepsAt.val 12 (.bool true) rfl (fun _ _ => rfl) rfl rfl (fun x w7 hb hd => ?_) ?_
    · have h11 : x 11 = .bool true := hd 11 (by kernel_rfl)
      rw [h11]
      first | (go_simp; done) | (go_simp; rfl)
    refine StepsAt.valG 13 (.agg (szl (f : Int) (t : Int)).toArray) rfl (fun _ _ => rfl) rfl (fun x w7 hd => ?_) (fun x w7 hb hd => ?_) ?_
    · have hG : x 12 = .bool true := hd 12 (by kernel_rfl)
      simp [Region.wanted, yielded, hG]
    · exact run_load_blkU 23 (.tmp 7) rfl g7 rfl (szl (f : Int) (t : Int)) 23 (F7.out.below hb F7.out.lt) d HUd.out HDd.out (sSize _ _)
    refine StepsAt.consG 14 (fun _ _ _ h hb => h) (fun _ _ => rfl) rfl (fun x w7 hd => ?_) (fun x w7 hb hd K hK => ?_) ?_
    · have hG : x 12 = .bool true := hd 12 (by kernel_rfl)
      simp [Region.wanted, yielded, hG]
    · have h13 : Hid (x 13 = .agg (szl (f : Int) (t : Int)).toArray) := hd 13 (by kernel_rfl)
      go_simp
      refine calls_args (args2 := #[.agg (szl (f : Int) (t : Int)).toArray]) (by rw [h13.out]) ?_
      refine (nProof_any f t _ HF.out).mono ?_
      rintro e w99 ⟨rfl, hb99⟩
      rw [HPR.out]
      exact hK.out _ _ hb99 rfl
    refine StepsAt.valG 15 (.agg (szl (f : Int) (t : Int)).toArray) rfl (fun _ _ => rfl) rfl (fun x w7 hd => ?_) (fun x w7 hb hd => ?_) ?_
    · have hG : x 12 = .bool true := hd 12 (by kernel_rfl)
      simp [Region.wanted, yielded, hG]
    · exact run_load_blkU 27 (.tmp 9) rfl g9 rfl (szl (f : Int) (t : Int)) 27 (F9.out.below hb F9.out.lt) r HUr.out HDr.out (sSizeR _ _)
    refine StepsAt.consG 16 (fun _ _ _ h hb => h) (fun _ _ => rfl) rfl (fun x w7 hd => ?_) (fun x w7 hb hd K hK => ?_) ?_
    · have hG : x 12 = .bool true := hd 12 (by kernel_rfl)
      simp [Region.wanted, yielded, hG]
    · have h15 : Hid (x 15 = .agg (szl (f : Int) (t : Int)).toArray) := hd 15 (by kernel_rfl)
      go_simp
      refine calls_args (args2 := #[.agg (szl (f : Int) (t : Int)).toArray]) (by rw [h15.out]) ?_
      refine (nProofR_any f t _ HF.out).mono ?_
      rintro e w99 ⟨rfl, hb99⟩
      rw [HPR.out]
      exact hK.out _ _ hb99 rfl
    refine StepsAt.valG 17 (.bool true) rfl (fun _ _ => rfl) rfl (fun x w7 hd => ?_) (fun x w7 hb hd => ?_) ?_
    · have hG : x 12 = .bool true := hd 12 (by kernel_rfl)
      simp [Region.wanted, yielded, hG]
    · have h14 : x 14 = .int .i64 PR := hd 14 (by kernel_rfl)
      have h16 : x 16 = .int .i64 PR := hd 16 (by kernel_rfl)
      rw [h14, h16]
      first | (go_simp; done) | (go_simp; rfl)
    refine StepsAt.val 18 (.bool true) rfl (fun _ _ => rfl) rfl rfl (fun x w7 hb hd => ?_) ?_
    · have h12 : x 12 = .bool true := hd 12 (by kernel_rfl)
      have h17 : x 17 = .bool true := hd 17 (by kernel_rfl)
      rw [h12, h17]
      first | (go_simp; done) | (go_simp; rfl)
    refine StepsAt.val 19 (.bool true) rfl (fun _ _ => rfl) rfl rfl (fun x w7 hb hd => ?_) ?_
    · have h18 : x 18 = .bool true := hd 18 (by kernel_rfl)
      rw [h18]
      first | (go_simp; done) | (go_simp; rfl)
    refine StepsAt.valG 20 (.agg (szl (f : Int) (t : Int)).toArray) rfl (fun _ _ => rfl) rfl (fun x w7 hd => ?_) (fun x w7 hb hd => ?_) ?_
    · have hG : x 19 = .bool true := hd 19 (by kernel_rfl)
      simp [Region.wanted, yielded, hG]
    · exact run_load_blkU 23 (.tmp 7) rfl g7 rfl (szl (f : Int) (t : Int)) 23 (F7.out.below hb F7.out.lt) d HUd.out HDd.out (sSize _ _)
    refine StepsAt.consG 21 (fun _ _ _ h hb => h) (fun _ _ => rfl) rfl (fun x w7 hd => ?_) (fun x w7 hb hd K hK => ?_) ?_
    · have hG : x 19 = .bool true := hd 19 (by kernel_rfl)
      simp [Region.wanted, yielded, hG]
    · have h20 : Hid (x 20 = .agg (szl (f : Int) (t : Int)).toArray) := hd 20 (by kernel_rfl)
      go_simp
      refine calls_args (args2 := #[.agg (szl (f : Int) (t : Int)).toArray]) (by rw [h20.out]) ?_
      refine (nMost_any f t _ HF.out).mono ?_
      rintro e w99 ⟨rfl, hb99⟩
      rw [HMO.out]
      exact hK.out _ _ hb99 rfl
    refine StepsAt.valG 22 (.agg (szl (f : Int) (t : Int)).toArray) rfl (fun _ _ => rfl) rfl (fun x w7 hd => ?_) (fun x w7 hb hd => ?_) ?_
    · have hG : x 19 = .bool true := hd 19 (by kernel_rfl)
      simp [Region.wanted, yielded, hG]
    · exact run_load_blkU 27 (.tmp 9) rfl g9 rfl (szl (f : Int) (t : Int)) 27 (F9.out.below hb F9.out.lt) r HUr.out HDr.out (sSizeR _ _)
    refine StepsAt.consG 23 (fun _ _ _ h hb => h) (fun _ _ => rfl) rfl (fun x w7 hd => ?_) (fun x w7 hb hd K hK => ?_) ?_
    · have hG : x 19 = .bool true := hd 19 (by kernel_rfl)
      simp [Region.wanted, yielded, hG]
    · have h22 : Hid (x 22 = .agg (szl (f : Int) (t : Int)).toArray) := hd 22 (by kernel_rfl)
      go_simp
      refine calls_args (args2 := #[.agg (szl (f : Int) (t : Int)).toArray]) (by rw [h22.out]) ?_
      refine (nMostR_any f t _ HF.out).mono ?_
      rintro e w99 ⟨rfl, hb99⟩
      rw [HMO.out]
      exact hK.out _ _ hb99 rfl
    refine StepsAt.valG 24 (.bool true) rfl (fun _ _ => rfl) rfl (fun x w7 hd => ?_) (fun x w7 hb hd => ?_) ?_
    · have hG : x 19 = .bool true := hd 19 (by kernel_rfl)
      simp [Region.wanted, yielded, hG]
    · have h21 : x 21 = .int .i64 MO := hd 21 (by kernel_rfl)
      have h23 : x 23 = .int .i64 MO := hd 23 (by kernel_rfl)
      rw [h21, h23]
      first | (go_simp; done) | (go_simp; rfl)
    refine StepsAt.val 25 (.bool true) rfl (fun _ _ => rfl) rfl rfl (fun x w7 hb hd => ?_) ?_
    · have h19 : x 19 = .bool true := hd 19 (by kernel_rfl)
      have h24 : x 24 = .bool true := hd 24 (by kernel_rfl)
      rw [h19, h24]
      first | (go_simp; done) | (go_simp; rfl)
    refine StepsAt.val 26 (.bool true) rfl (fun _ _ => rfl) rfl rfl (fun x w7 hb hd => ?_) ?_
    · have h25 : x 25 = .bool true := hd 25 (by kernel_rfl)
      rw [h25]
      first | (go_simp; done) | (go_simp; rfl)
    exact StepsAt.done
  case fin =>
    intro x w7 hb hd
    have hx0 : x 0 = .agg (szl (f : Int) (t : Int)).toArray := hd 0 (by omega)
    have hx1 : x 1 = .int .i64 N := hd 1 (by omega)
    have hx2 : x 2 = .agg (szl (f : Int) (t : Int)).toArray := hd 2 (by omega)
    have hx3 : x 3 = .int .i64 N := hd 3 (by omega)
    have hx4 : x 4 = .bool true := hd 4 (by omega)
    have hx5 : x 5 = .bool true := hd 5 (by omega)
    have hx6 : x 6 = .agg (szl (f : Int) (t : Int)).toArray := hd 6 (by omega)
    have hx7 : x 7 = .int .i64 FA := hd 7 (by omega)
    have hx8 : x 8 = .agg (szl (f : Int) (t : Int)).toArray := hd 8 (by omega)
    have hx9 : x 9 = .int .i64 FA := hd 9 (by omega)
    have hx10 : x 10 = .bool true := hd 10 (by omega)
    have hx11 : x 11 = .bool true := hd 11 (by omega)
    have hx12 : x 12 = .bool true := hd 12 (by omega)
    have hx13 : x 13 = .agg (szl (f : Int) (t : Int)).toArray := hd 13 (by omega)
    have hx14 : x 14 = .int .i64 PR := hd 14 (by omega)
    have hx15 : x 15 = .agg (szl (f : Int) (t : Int)).toArray := hd 15 (by omega)
    have hx16 : x 16 = .int .i64 PR := hd 16 (by omega)
    have hx17 : x 17 = .bool true := hd 17 (by omega)
    have hx18 : x 18 = .bool true := hd 18 (by omega)
    have hx19 : x 19 = .bool true := hd 19 (by omega)
    have hx20 : x 20 = .agg (szl (f : Int) (t : Int)).toArray := hd 20 (by omega)
    have hx21 : x 21 = .int .i64 MO := hd 21 (by omega)
    have hx22 : x 22 = .agg (szl (f : Int) (t : Int)).toArray := hd 22 (by omega)
    have hx23 : x 23 = .int .i64 MO := hd 23 (by omega)
    have hx24 : x 24 = .bool true := hd 24 (by omega)
    have hx25 : x 25 = .bool true := hd 25 (by omega)
    have hx26 : x 26 = .bool true := hd 26 (by omega)
    refine AnyTill.any (S := fun _ => True) (m := 27) _ _ _ _ ?_
    refine AnyTill.done (by kernel_rfl) ?_
    refine NoPanic.normal ?_
    try dsimp only
    rw [hx0, hx1, hx2, hx3, hx4, hx5, hx6, hx7, hx8, hx9, hx10, hx11, hx12, hx13, hx14, hx15, hx16, hx17, hx18, hx19, hx20, hx21, hx22, hx23, hx24, hx25, hx26]
    have H7 : Hid (Blk w7 g7 (szl (f : Int) (t : Int)) 23) := F7.out.below hb F7.out.lt
    have H9 : Hid (Blk w7 g9 (szl (f : Int) (t : Int)) 27) := F9.out.below hb F9.out.lt
    have H3 : Hid (Below w.heap.size w w7) := F3.out.trans (hb.mono F3.out.size)
    clear hd hb hx0 hx1 hx2 hx3 hx4 hx5 hx6 hx7 hx8 hx9 hx10 hx11 hx12 hx13 hx14 hx15 hx16 hx17 hx18 hx19 hx20 hx21 hx22 hx23 hx24 hx25 hx26 F7 F9 F3 x
    go_wp2_with fail
    refine wp_region_rely2 28 0 (fun x => ⟨#[.int IntKind.i64 ↑f, .int IntKind.i64 ↑t, .int IntKind.i64 v, undef, undef, undef, x 27, .pointer (some { block := g7, off := 0 }), .int IntKind.i64 0, .pointer (some { block := g9, off := 0 }), .int IntKind.i64 0, .bool true, .tuple #[Value.agg (szl ↑f ↑t).toArray, Value.int IntKind.i64 0], .int IntKind.i64 ↑f, .int IntKind.i64 ↑t, .tuple #[Value.agg (szl ↑f ↑t).toArray, Value.int IntKind.i64 0], .agg (szl ↑f ↑t).toArray, .int IntKind.i64 0, .tuple #[Value.agg (szl ↑f ↑t).toArray, Value.int IntKind.i64 0], .int IntKind.i64 ↑f, .int IntKind.i64 ↑t, .tuple #[Value.agg (szl ↑f ↑t).toArray, Value.int IntKind.i64 0], .agg (szl ↑f ↑t).toArray, .int IntKind.i64 0, .pointer (some { block := g7, off := 0 }), .int IntKind.i64 ↑f, .pointer (some { block := g9, off := 0 }), .int IntKind.i64 ↑f, .bool false, .bool false, .pointer (some { block := g7, off := 1 }), .int IntKind.i64 ↑t, .pointer (some { block := g9, off := 1 }), .int IntKind.i64 ↑t, .bool false, .bool false, .bool false, .int IntKind.i64 0, .int IntKind.i64 0, .bool false, .bool false, .bool false, .int IntKind.i64 ↑f, .int IntKind.i64 ↑t, .agg (szl ↑f ↑t).toArray, .bool true, .int IntKind.i64 ↑f, .int IntKind.i64 ↑t, .agg (szl ↑f ↑t).toArray, .bool true, .bool false, .bool false, .int IntKind.i64 0, .bool false, undef, .agg (szl ↑f ↑t).toArray, .int IntKind.i64 N, .agg (szl ↑f ↑t).toArray, .int IntKind.i64 N, .bool true, .bool true, .agg (szl ↑f ↑t).toArray, .int IntKind.i64 FA, .agg (szl ↑f ↑t).toArray, .int IntKind.i64 FA, .bool true, .bool true, .bool true, .agg (szl ↑f ↑t).toArray, .int IntKind.i64 PR, .agg (szl ↑f ↑t).toArray, .int IntKind.i64 PR, .bool true, .bool true, .bool true, .agg (szl ↑f ↑t).toArray, .int IntKind.i64 MO, .agg (szl ↑f ↑t).toArray, .int IntKind.i64 MO, .bool true, .bool true, x 0, x 1, x 2, x 3, x 4, x 5, x 6, x 7, x 8, x 9, x 10, x 11, x 12, x 13, x 14, x 15, x 16, x 17, x 18, x 19, x 20, x 21, x 22, x 23, x 24, x 25, x 26], []⟩) (fun jj => ([(eqV (.bool true)), eqV (.bool true), eqV (.bool true), eqV (.bool true), eqV (.bool true), eqV (.agg (szl (f : Int) (t : Int)).toArray), (eqV (.int .i64 VO)), eqV (.agg (szl (f : Int) (t : Int)).toArray), (eqV (.int .i64 VO)), eqV (.bool true), eqV (.bool true), eqV (.bool true), eqV (.agg (szl (f : Int) (t : Int)).toArray), (eqV (.int .i64 WE)), eqV (.agg (szl (f : Int) (t : Int)).toArray), (eqV (.int .i64 WE)), eqV (.bool true), eqV (.bool true), eqV (.bool true), eqV (.agg (szl (f : Int) (t : Int)).toArray), eqV (.int IntKind.i64 v), (eqV (.int .i64 LD)), eqV (.agg (szl (f : Int) (t : Int)).toArray), eqV (.int IntKind.i64 v), (eqV (.int .i64 LD)), eqV (.bool true), eqV (.bool true), eqV (.bool true)] : List (Value → World → Prop)).getD jj (fun _ _ => True)) rfl ⟨fun kk => [_, _, _, _, _, _, _, _, _, _, _, _, _, _, _, _, _, _, _, _, _, _, _, _, _, _, _, _].getD kk undef, rfl⟩ (by kernel_rfl) (by kernel_rfl) ?steps ?fin
    case steps =>
      refine StepsAt.cons 0 (fun _ _ _ h hb => h) (fun _ _ => rfl) rfl rfl (fun x w8 hb hd K hK => ?_) ?_
      · go_simp
        refine (alive7_any _).mono ?_
        rintro e w99 ⟨rfl, hb99⟩
        exact hK.out _ _ hb99 rfl
      refine StepsAt.val 1 (.bool true) rfl (fun _ _ => rfl) rfl rfl (fun x w8 hb hd => ?_) ?_
      · have h0 : x 0 = .bool true := hd 0 (by kernel_rfl)
        rw [h0]
        first | (go_simp; done) | (go_simp; rfl)
      refine StepsAt.valG 2 (.bool true) rfl (fun _ _ => rfl) rfl (fun x w8 hd => ?_) (fun x w8 hb hd => ?_) ?_
      · have hG : x 1 = .bool true := hd 1 (by kernel_rfl)
        simp [Region.wanted, yielded, hG]
      · first | (go_simp; done) | (go_simp; rfl)
      refine StepsAt.val 3 (.bool true) rfl (fun _ _ => rfl) rfl rfl (fun x w8 hb hd => ?_) ?_
      · have h1 : x 1 = .bool true := hd 1 (by kernel_rfl)
        have h2 : x 2 = .bool true := hd 2 (by kernel_rfl)
        rw [h1, h2]
        first | (go_simp; done) | (go_simp; rfl)
      refine StepsAt.val 4 (.bool true) rfl (fun _ _ => rfl) rfl rfl (fun x w8 hb hd => ?_) ?_
      · have h3 : x 3 = .bool true := hd 3 (by kernel_rfl)
        rw [h3]
        first | (go_simp; done) | (go_simp; rfl)
      refine StepsAt.valG 5 (.agg (szl (f : Int) (t : Int)).toArray) rfl (fun _ _ => rfl) rfl (fun x w8 hd => ?_) (fun x w8 hb hd => ?_) ?_
      · have hG : x 4 = .bool true := hd 4 (by kernel_rfl)
        simp [Region.wanted, yielded, hG]
      · exact run_load_blkU 23 (.tmp 7) rfl g7 rfl (szl (f : Int) (t : Int)) 23 (H7.out.below hb H7.out.lt) d HUd.out HDd.out (sSize _ _)
      refine StepsAt.consG 6 (fun _ _ _ h hb => h) (fun _ _ => rfl) rfl (fun x w8 hd => ?_) (fun x w8 hb hd K hK => ?_) ?_
      · have hG : x 4 = .bool true := hd 4 (by kernel_rfl)
        simp [Region.wanted, yielded, hG]
      · have h5 : Hid (x 5 = .agg (szl (f : Int) (t : Int)).toArray) := hd 5 (by kernel_rfl)
        go_simp
        refine calls_args (args2 := #[.agg (szl (f : Int) (t : Int)).toArray]) (by rw [h5.out]) ?_
        refine (nVouch_any f t _ HF.out).mono ?_
        rintro e w99 ⟨rfl, hb99⟩
        rw [HVO.out]
        exact hK.out _ _ hb99 rfl
      refine StepsAt.valG 7 (.agg (szl (f : Int) (t : Int)).toArray) rfl (fun _ _ => rfl) rfl (fun x w8 hd => ?_) (fun x w8 hb hd => ?_) ?_
      · have hG : x 4 = .bool true := hd 4 (by kernel_rfl)
        simp [Region.wanted, yielded, hG]
      · exact run_load_blkU 27 (.tmp 9) rfl g9 rfl (szl (f : Int) (t : Int)) 27 (H9.out.below hb H9.out.lt) r HUr.out HDr.out (sSizeR _ _)
      refine StepsAt.consG 8 (fun _ _ _ h hb => h) (fun _ _ => rfl) rfl (fun x w8 hd => ?_) (fun x w8 hb hd K hK => ?_) ?_
      · have hG : x 4 = .bool true := hd 4 (by kernel_rfl)
        simp [Region.wanted, yielded, hG]
      · have h7 : Hid (x 7 = .agg (szl (f : Int) (t : Int)).toArray) := hd 7 (by kernel_rfl)
        go_simp
        refine calls_args (args2 := #[.agg (szl (f : Int) (t : Int)).toArray]) (by rw [h7.out]) ?_
        refine (nVouchR_any f t _ HF.out).mono ?_
        rintro e w99 ⟨rfl, hb99⟩
        rw [HVO.out]
        exact hK.out _ _ hb99 rfl
      refine StepsAt.valG 9 (.bool true) rfl (fun _ _ => rfl) rfl (fun x w8 hd => ?_) (fun x w8 hb hd => ?_) ?_
      · have hG : x 4 = .bool true := hd 4 (by kernel_rfl)
        simp [Region.wanted, yielded, hG]
      · have h6 : x 6 = .int .i64 VO := hd 6 (by kernel_rfl)
        have h8 : x 8 = .int .i64 VO := hd 8 (by kernel_rfl)
        rw [h6, h8]
        first | (go_simp; done) | (go_simp; rfl)
      refine StepsAt.val 10 (.bool true) rfl (fun _ _ => rfl) rfl rfl (fun x w8 hb hd => ?_) ?_
      · have h4 : x 4 = .bool true := hd 4 (by kernel_rfl)
        have h9 : x 9 = .bool true := hd 9 (by kernel_rfl)
        rw [h4, h9]
        first | (go_simp; done) | (go_simp; rfl)
      refine StepsAt.val 11 (.bool true) rfl (fun _ _ => rfl) rfl rfl (fun x w8 hb hd => ?_) ?_
      · have h10 : x 10 = .bool true := hd 10 (by kernel_rfl)
        rw [h10]
        first | (go_simp; done) | (go_simp; rfl)
      refine StepsAt.valG 12 (.agg (szl (f : Int) (t : Int)).toArray) rfl (fun _ _ => rfl) rfl (fun x w8 hd => ?_) (fun x w8 hb hd => ?_) ?_
      · have hG : x 11 = .bool true := hd 11 (by kernel_rfl)
        simp [Region.wanted, yielded, hG]
      · exact run_load_blkU 23 (.tmp 7) rfl g7 rfl (szl (f : Int) (t : Int)) 23 (H7.out.below hb H7.out.lt) d HUd.out HDd.out (sSize _ _)
      refine StepsAt.consG 13 (fun _ _ _ h hb => h) (fun _ _ => rfl) rfl (fun x w8 hd => ?_) (fun x w8 hb hd K hK => ?_) ?_
      · have hG : x 11 = .bool true := hd 11 (by kernel_rfl)
        simp [Region.wanted, yielded, hG]
      · have h12 : Hid (x 12 = .agg (szl (f : Int) (t : Int)).toArray) := hd 12 (by kernel_rfl)
        go_simp
        refine calls_args (args2 := #[.agg (szl (f : Int) (t : Int)).toArray]) (by rw [h12.out]) ?_
        refine (nWeak_any f t _ HF.out).mono ?_
        rintro e w99 ⟨rfl, hb99⟩
        rw [HWE.out]
        exact hK.out _ _ hb99 rfl
      refine StepsAt.valG 14 (.agg (szl (f : Int) (t : Int)).toArray) rfl (fun _ _ => rfl) rfl (fun x w8 hd => ?_) (fun x w8 hb hd => ?_) ?_
      · have hG : x 11 = .bool true := hd 11 (by kernel_rfl)
        simp [Region.wanted, yielded, hG]
      · exact run_load_blkU 27 (.tmp 9) rfl g9 rfl (szl (f : Int) (t : Int)) 27 (H9.out.below hb H9.out.lt) r HUr.out HDr.out (sSizeR _ _)
      refine StepsAt.consG 15 (fun _ _ _ h hb => h) (fun _ _ => rfl) rfl (fun x w8 hd => ?_) (fun x w8 hb hd K hK => ?_) ?_
      · have hG : x 11 = .bool true := hd 11 (by kernel_rfl)
        simp [Region.wanted, yielded, hG]
      · have h14 : Hid (x 14 = .agg (szl (f : Int) (t : Int)).toArray) := hd 14 (by kernel_rfl)
        go_simp
        refine calls_args (args2 := #[.agg (szl (f : Int) (t : Int)).toArray]) (by rw [h14.out]) ?_
        refine (nWeakR_any f t _ HF.out).mono ?_
        rintro e w99 ⟨rfl, hb99⟩
        rw [HWE.out]
        exact hK.out _ _ hb99 rfl
      refine StepsAt.valG 16 (.bool true) rfl (fun _ _ => rfl) rfl (fun x w8 hd => ?_) (fun x w8 hb hd => ?_) ?_
      · have hG : x 11 = .bool true := hd 11 (by kernel_rfl)
        simp [Region.wanted, yielded, hG]
      · have h13 : x 13 = .int .i64 WE := hd 13 (by kernel_rfl)
        have h15 : x 15 = .int .i64 WE := hd 15 (by kernel_rfl)
        rw [h13, h15]
        first | (go_simp; done) | (go_simp; rfl)
      refine StepsAt.val 17 (.bool true) rfl (fun _ _ => rfl) rfl rfl (fun x w8 hb hd => ?_) ?_
      · have h11 : x 11 = .bool true := hd 11 (by kernel_rfl)
        have h16 : x 16 = .bool true := hd 16 (by kernel_rfl)
        rw [h11, h16]
        first | (go_simp; done) | (go_simp; rfl)
      refine StepsAt.val 18 (.bool true) rfl (fun _ _ => rfl) rfl rfl (fun x w8 hb hd => ?_) ?_
      · have h17 : x 17 = .bool true := hd 17 (by kernel_rfl)
        rw [h17]
        first | (go_simp; done) | (go_simp; rfl)
      refine StepsAt.valG 19 (.agg (szl (f : Int) (t : Int)).toArray) rfl (fun _ _ => rfl) rfl (fun x w8 hd => ?_) (fun x w8 hb hd => ?_) ?_
      · have hG : x 18 = .bool true := hd 18 (by kernel_rfl)
        simp [Region.wanted, yielded, hG]
      · exact run_load_blkU 23 (.tmp 7) rfl g7 rfl (szl (f : Int) (t : Int)) 23 (H7.out.below hb H7.out.lt) d HUd.out HDd.out (sSize _ _)
      refine StepsAt.valG 20 (.int IntKind.i64 v) rfl (fun _ _ => rfl) rfl (fun x w8 hd => ?_) (fun x w8 hb hd => ?_) ?_
      · have hG : x 18 = .bool true := hd 18 (by kernel_rfl)
        simp [Region.wanted, yielded, hG]
      · first | (go_simp; done) | (go_simp; rfl)
      refine StepsAt.consG 21 (fun _ _ _ h hb => h) (fun _ _ => rfl) rfl (fun x w8 hd => ?_) (fun x w8 hb hd K hK => ?_) ?_
      · have hG : x 18 = .bool true := hd 18 (by kernel_rfl)
        simp [Region.wanted, yielded, hG]
      · have h19 : Hid (x 19 = .agg (szl (f : Int) (t : Int)).toArray) := hd 19 (by kernel_rfl)
        have h20 : Hid (x 20 = .int IntKind.i64 v) := hd 20 (by kernel_rfl)
        go_simp
        refine calls_args (args2 := #[.agg (szl (f : Int) (t : Int)).toArray, .int .i64 v]) (by rw [h19.out, h20.out]) ?_
        refine (leaderS_any f t v _ HF.out).mono ?_
        rintro e w99 ⟨rfl, hb99⟩
        rw [HN.out, HLD.out]
        exact hK.out _ _ hb99 rfl
      refine StepsAt.valG 22 (.agg (szl (f : Int) (t : Int)).toArray) rfl (fun _ _ => rfl) rfl (fun x w8 hd => ?_) (fun x w8 hb hd => ?_) ?_
      · have hG : x 18 = .bool true := hd 18 (by kernel_rfl)
        simp [Region.wanted, yielded, hG]
      · exact run_load_blkU 27 (.tmp 9) rfl g9 rfl (szl (f : Int) (t : Int)) 27 (H9.out.below hb H9.out.lt) r HUr.out HDr.out (sSizeR _ _)
      refine StepsAt.valG 23 (.int IntKind.i64 v) rfl (fun _ _ => rfl) rfl (fun x w8 hd => ?_) (fun x w8 hb hd => ?_) ?_
      · have hG : x 18 = .bool true := hd 18 (by kernel_rfl)
        simp [Region.wanted, yielded, hG]
      · first | (go_simp; done) | (go_simp; rfl)
      refine StepsAt.consG 24 (fun _ _ _ h hb => h) (fun _ _ => rfl) rfl (fun x w8 hd => ?_) (fun x w8 hb hd K hK => ?_) ?_
      · have hG : x 18 = .bool true := hd 18 (by kernel_rfl)
        simp [Region.wanted, yielded, hG]
      · have h22 : Hid (x 22 = .agg (szl (f : Int) (t : Int)).toArray) := hd 22 (by kernel_rfl)
        have h23 : Hid (x 23 = .int IntKind.i64 v) := hd 23 (by kernel_rfl)
        go_simp
        refine calls_args (args2 := #[.agg (szl (f : Int) (t : Int)).toArray, .int .i64 v]) (by rw [h22.out, h23.out]) ?_
        refine (leaderSR_any f t v _ HF.out).mono ?_
        rintro e w99 ⟨rfl, hb99⟩
        rw [HN.out, HLD.out]
        exact hK.out _ _ hb99 rfl
      refine StepsAt.valG 25 (.bool true) rfl (fun _ _ => rfl) rfl (fun x w8 hd => ?_) (fun x w8 hb hd => ?_) ?_
      · have hG : x 18 = .bool true := hd 18 (by kernel_rfl)
        simp [Region.wanted, yielded, hG]
      · have h21 : x 21 = .int .i64 LD := hd 21 (by kernel_rfl)
        have h24 : x 24 = .int .i64 LD := hd 24 (by kernel_rfl)
        rw [h21, h24]
        first | (go_simp; done) | (go_simp; rfl)
      refine StepsAt.val 26 (.bool true) rfl (fun _ _ => rfl) rfl rfl (fun x w8 hb hd => ?_) ?_
      · have h18 : x 18 = .bool true := hd 18 (by kernel_rfl)
        have h25 : x 25 = .bool true := hd 25 (by kernel_rfl)
        rw [h18, h25]
        first | (go_simp; done) | (go_simp; rfl)
      refine StepsAt.val 27 (.bool true) rfl (fun _ _ => rfl) rfl rfl (fun x w8 hb hd => ?_) ?_
      · have h26 : x 26 = .bool true := hd 26 (by kernel_rfl)
        rw [h26]
        first | (go_simp; done) | (go_simp; rfl)
      exact StepsAt.done
    case fin =>
      intro x w8 hb hd
      have hx0 : x 0 = .bool true := hd 0 (by omega)
      have hx1 : x 1 = .bool true := hd 1 (by omega)
      have hx2 : x 2 = .bool true := hd 2 (by omega)
      have hx3 : x 3 = .bool true := hd 3 (by omega)
      have hx4 : x 4 = .bool true := hd 4 (by omega)
      have hx5 : x 5 = .agg (szl (f : Int) (t : Int)).toArray := hd 5 (by omega)
      have hx6 : x 6 = .int .i64 VO := hd 6 (by omega)
      have hx7 : x 7 = .agg (szl (f : Int) (t : Int)).toArray := hd 7 (by omega)
      have hx8 : x 8 = .int .i64 VO := hd 8 (by omega)
      have hx9 : x 9 = .bool true := hd 9 (by omega)
      have hx10 : x 10 = .bool true := hd 10 (by omega)
      have hx11 : x 11 = .bool true := hd 11 (by omega)
      have hx12 : x 12 = .agg (szl (f : Int) (t : Int)).toArray := hd 12 (by omega)
      have hx13 : x 13 = .int .i64 WE := hd 13 (by omega)
      have hx14 : x 14 = .agg (szl (f : Int) (t : Int)).toArray := hd 14 (by omega)
      have hx15 : x 15 = .int .i64 WE := hd 15 (by omega)
      have hx16 : x 16 = .bool true := hd 16 (by omega)
      have hx17 : x 17 = .bool true := hd 17 (by omega)
      have hx18 : x 18 = .bool true := hd 18 (by omega)
      have hx19 : x 19 = .agg (szl (f : Int) (t : Int)).toArray := hd 19 (by omega)
      have hx20 : x 20 = .int IntKind.i64 v := hd 20 (by omega)
      have hx21 : x 21 = .int .i64 LD := hd 21 (by omega)
      have hx22 : x 22 = .agg (szl (f : Int) (t : Int)).toArray := hd 22 (by omega)
      have hx23 : x 23 = .int IntKind.i64 v := hd 23 (by omega)
      have hx24 : x 24 = .int .i64 LD := hd 24 (by omega)
      have hx25 : x 25 = .bool true := hd 25 (by omega)
      have hx26 : x 26 = .bool true := hd 26 (by omega)
      have hx27 : x 27 = .bool true := hd 27 (by omega)
      refine AnyTill.any (S := fun _ => True) (m := 28) _ _ _ _ ?_
      refine AnyTill.done (by kernel_rfl) ?_
      refine NoPanic.normal ?_
      try dsimp only
      rw [hx0, hx1, hx2, hx3, hx4, hx5, hx6, hx7, hx8, hx9, hx10, hx11, hx12, hx13, hx14, hx15, hx16, hx17, hx18, hx19, hx20, hx21, hx22, hx23, hx24, hx25, hx26, hx27]
      have K3 : Hid (Below w.heap.size w w8) := H3.out.trans (hb.mono H3.out.size)
      clear hd hb hx0 hx1 hx2 hx3 hx4 hx5 hx6 hx7 hx8 hx9 hx10 hx11 hx12 hx13 hx14 hx15 hx16 hx17 hx18 hx19 hx20 hx21 hx22 hx23 hx24 hx25 hx26 hx27 H7 H9 H3 x
      go_wp2
      go_ret
      exact ⟨rfl, K3.out⟩

theorem tells_all (f t v : Int) (w : World) : Calls Try.prog 3 #[.int .i64 f, .int .i64 t, .int .i64 v] w (One (.bool true) w) := by
  rcases size_or f t with ⟨F, T, hf, rfl, rfl⟩ | h
  · exact tells_yes F T v w hf
  · exact tells_no f t v w h
theorem quorums_all (f t : Int) (w : World) : Calls Try.prog 5 #[.agg (szl f t).toArray] w (One (.bool true) w) := by
  rcases size_or f t with ⟨F, T, hf, rfl, rfl⟩ | h
  · exact quorums_yes F T w hf
  · exact quorums_no f t w h

end Go.Proofs.Ytgabkeohihdenaa
