/-
  Package ots: hasDigit, long, Long, Type and Secret, for every input.
-/
import Derived.Test.YtejeefkoalbcmaaO7
namespace Go.Proofs.Ytejeefkoalbcmaa
open Go.RowKit

/-- All digits. -/
def mny (k : Nat) : Nat := onn k + chk k
/-- How many bytes a signature has. -/
def lng (k : Nat) : Nat := 4 + (1 + mny k) * 32
theorem mny_le (k : Nat) (hk : Wd k) : mny k ≤ 300 := by
  obtain ⟨_, _, hP, _⟩ := hk.le
  have := chk_le k
  unfold mny; omega

set_option maxHeartbeats 400000 in
theorem hasDigit_in (k i : Nat) (w : World) (hk : Wd k) (hi : i < mny k) : Calls Try.prog 26 #[.agg (shp k).toArray, .int .i64 (i : Int)] w (One (.bool true) w) := by
  have hm := mny_le k hk
  obtain ⟨S, hS⟩ : ∃ S, mny k = S := ⟨_, rfl⟩
  have HC : Hid ((shp k)[1]? = some (.int .i64 (S : Int))) := by show _ = _; rw [← hS]; rfl
  rw [hS] at hm hi
  clear hS hk
  have zi : (i : Int) < (S : Int) := by omega
  go_enter Try.func26, Try.ntmps26
  go_wp2_with (refine wpList_box_blk rfl 57 _ rfl (shp k) rfl ?_)
  intro w1 a1 a2 a3
  have c1 := (a1.cell 1).trans HC.out
  have A3 := Lib.hid a3
  clear a1 a2 a3
  go_wp2
  go_ret
  exact ⟨rfl, A3.out⟩
set_option maxHeartbeats 400000 in
theorem hasDigit_out (k : Nat) (i : Int) (w : World) (hk : Wd k) (hi : i < 0 ∨ (mny k : Int) ≤ i) : Calls Try.prog 26 #[.agg (shp k).toArray, .int .i64 i] w (One (.bool false) w) := by
  have hm := mny_le k hk
  obtain ⟨S, hS⟩ : ∃ S, mny k = S := ⟨_, rfl⟩
  have HC : Hid ((shp k)[1]? = some (.int .i64 (S : Int))) := by show _ = _; rw [← hS]; rfl
  rw [hS] at hm hi
  clear hS hk
  by_cases h0 : i < 0
  · have h0' : ¬ (0 ≤ i) := by omega
    clear hi
    go_enter Try.func26, Try.ntmps26
    go_wp2_with (refine wpList_box_blk rfl 57 _ rfl (shp k) rfl ?_)
    intro w1 a1 a2 a3
    have A3 := Lib.hid a3
    clear a1 a2 a3
    go_wp2
    go_ret
    exact ⟨rfl, A3.out⟩
  · have zi : decide (i < (S : Int)) = false := by simp; omega
    have h0' : 0 ≤ i := by omega
    clear hi h0
    go_enter Try.func26, Try.ntmps26
    go_wp2_with (refine wpList_box_blk rfl 57 _ rfl (shp k) rfl ?_)
    intro w1 a1 a2 a3
    have c1 := (a1.cell 1).trans HC.out
    have A3 := Lib.hid a3
    clear a1 a2 a3
    go_wp2
    go_ret
    exact ⟨rfl, A3.out⟩
set_option maxHeartbeats 400000 in
theorem long_any (k : Nat) (w : World) (hk : Wd k) : Calls Try.prog 34 #[.agg (shp k).toArray] w (One (.int .i64 (lng k : Nat)) w) := by
  have hm := mny_le k hk
  obtain ⟨S, hS⟩ : ∃ S, mny k = S := ⟨_, rfl⟩
  have HC : Hid ((shp k)[1]? = some (.int .i64 (S : Int))) := by show _ = _; rw [← hS]; rfl
  obtain ⟨L, hL⟩ : ∃ L, lng k = L := ⟨_, rfl⟩
  have hL2 : 4 + (1 + S) * 32 = L := by rw [← hL, ← hS]; rfl
  rw [hL]
  rw [hS] at hm
  clear hS hk hL
  go_enter Try.func34, Try.ntmps34
  go_wp2_with (refine wpList_box_blk rfl 57 _ rfl (shp k) rfl ?_)
  intro w1 a1 a2 a3
  have c1 := (a1.cell 1).trans HC.out
  have A3 := Lib.hid a3
  clear a1 a2 a3
  go_wp2
  go_ret
  have e1 : 4 + (1 + (S : Int)) * 32 = (L : Int) := by omega
  exact ⟨by rw [← e1]; rfl, A3.out⟩

set_option maxRecDepth 100000 in
set_option maxHeartbeats 400000 in
theorem longX_yes (k : Nat) (w : World) (hk : Wd k) : Calls Try.prog 14 #[.int .i64 (k : Int)] w (TwoD (.int .i64 (lng k : Nat)) (.int .i64 0) w) := by
  have HK := Lib.hid hk
  clear hk
  obtain ⟨d57, hu57, hd57⟩ := row57
  have HU := Lib.hid hu57
  have HD := Lib.hid hd57
  clear hu57 hd57
  go_enter Try.func14, Try.ntmps14
  go_wp2
  refine wp_scope_goto 0 rfl ?_
  go_wp2_with fail
  refine (shapeOf_yes k _ HK.out).mono ?_
  rintro e w1 ⟨rfl, hb⟩
  have B1 := Lib.hid hb
  clear hb
  go_wp2_with (first | (refine wpList_alloc_blk rfl 57 rfl _ zi57 ?_))
  intro w2 a1 a2 a3
  have A1 := Lib.hid a1
  have A3 := Lib.hid a3
  clear a1 a2 a3
  have hs := B1.out.size
  have L0 : Hid (Blk (w2.setRow w1.heap.size (shp k).toArray) w1.heap.size (shp k) 57) := A1.out.setRow
  have LB : Hid (Below w.heap.size w (w2.setRow w1.heap.size (shp k).toArray)) := below_setRow' (B1.out.trans (A3.out.mono hs)) hs _
  go_wp2_with (first | (refine wpList_store_blk rfl 57 _ _ rfl w1.heap.size (shp k) shp0 57 rfl rfl A1.out s57 rfl (shp_one k) ?_) | (refine wpList_load_blkU rfl 57 _ rfl w1.heap.size rfl (shp k) 57 L0.out d57 HU.out HD.out s57 ?_))
  refine (long_any k _ HK.out).mono ?_
  rintro e w3 ⟨rfl, hb⟩
  have BB : Hid (Below w.heap.size w w3) := LB.out.trans (hb.mono LB.out.size)
  clear hb LB L0 A1 A3 B1 hs
  go_wp2
  rw [jump_ret]
  go_ret2
  exact ⟨rfl, BB.out⟩

set_option maxRecDepth 100000 in
set_option maxHeartbeats 400000 in
theorem longX_no (z : Int) (w : World) (hz : NoW z) : Calls Try.prog 14 #[.int .i64 z] w (TwoD (.int .i64 0) (.int .i64 1) w) := by
  have HZ := Lib.hid hz
  clear hz
  obtain ⟨d57, hu57, hd57⟩ := row57
  have HU := Lib.hid hu57
  have HD := Lib.hid hd57
  clear hu57 hd57
  go_enter Try.func14, Try.ntmps14
  go_wp2
  refine wp_scope_goto 0 rfl ?_
  go_wp2_with fail
  refine (shapeOf_no z _ HZ.out).mono ?_
  rintro e w1 ⟨rfl, hb⟩
  have B1 := Lib.hid hb
  clear hb
  go_wp2_with (first | (refine wpList_alloc_blk rfl 57 rfl _ zi57 ?_))
  intro w2 a1 a2 a3
  have A1 := Lib.hid a1
  have A3 := Lib.hid a3
  clear a1 a2 a3
  have hs := B1.out.size
  have LB : Hid (Below w.heap.size w (w2.setRow w1.heap.size shp0.toArray)) := below_setRow' (B1.out.trans (A3.out.mono hs)) hs _
  go_wp2_with (first | (refine wpList_store_blk rfl 57 _ _ rfl w1.heap.size shp0 shp0 57 rfl rfl A1.out s57 rfl shp0_one ?_))
  refine wp_goto ⟨rfl, ?_⟩
  go_wp2
  rw [Exit.noGoto_ret]
  go_ret2
  exact ⟨rfl, LB.out⟩

set_option maxRecDepth 100000 in
set_option maxHeartbeats 400000 in
theorem typeX_no (z : Int) (w : World) (hz : NoW z) : Calls Try.prog 16 #[.int .i64 z] w (TwoD (.int .u32 0) (.int .i64 1) w) := by
  have HZ := Lib.hid hz
  clear hz
  obtain ⟨d57, hu57, hd57⟩ := row57
  have HU := Lib.hid hu57
  have HD := Lib.hid hd57
  clear hu57 hd57
  go_enter Try.func16, Try.ntmps16
  go_wp2
  refine wp_scope_goto 0 rfl ?_
  go_wp2_with fail
  refine (shapeOf_no z _ HZ.out).mono ?_
  rintro e w1 ⟨rfl, hb⟩
  have B1 := Lib.hid hb
  clear hb
  go_wp2_with (first | (refine wpList_alloc_blk rfl 57 rfl _ zi57 ?_))
  intro w2 a1 a2 a3
  have A1 := Lib.hid a1
  have A3 := Lib.hid a3
  clear a1 a2 a3
  have hs := B1.out.size
  have LB : Hid (Below w.heap.size w (w2.setRow w1.heap.size shp0.toArray)) := below_setRow' (B1.out.trans (A3.out.mono hs)) hs _
  go_wp2_with (first | (refine wpList_store_blk rfl 57 _ _ rfl w1.heap.size shp0 shp0 57 rfl rfl A1.out s57 rfl shp0_one ?_))
  refine wp_goto ⟨rfl, ?_⟩
  go_wp2
  rw [Exit.noGoto_ret]
  go_ret2
  exact ⟨rfl, LB.out⟩

set_option maxRecDepth 100000 in
set_option maxHeartbeats 400000 in
theorem typeX_yes (k : Nat) (w : World) (hk : Wd k) : Calls Try.prog 16 #[.int .i64 (k : Int)] w (TwoD (.int .u32 (typ k : Nat)) (.int .i64 0) w) := by
  have HK := Lib.hid hk
  clear hk
  obtain ⟨d57, hu57, hd57⟩ := row57
  have HU := Lib.hid hu57
  have HD := Lib.hid hd57
  clear hu57 hd57
  go_enter Try.func16, Try.ntmps16
  go_wp2
  refine wp_scope_goto 0 rfl ?_
  go_wp2_with fail
  refine (shapeOf_yes k _ HK.out).mono ?_
  rintro e w1 ⟨rfl, hb⟩
  have B1 := Lib.hid hb
  clear hb
  go_wp2_with (first | (refine wpList_alloc_blk rfl 57 rfl _ zi57 ?_))
  intro w2 a1 a2 a3
  have A1 := Lib.hid a1
  have A3 := Lib.hid a3
  clear a1 a2 a3
  have hs := B1.out.size
  have L0 : Hid (Blk (w2.setRow w1.heap.size (shp k).toArray) w1.heap.size (shp k) 57) := A1.out.setRow
  have LB : Hid (Below w.heap.size w (w2.setRow w1.heap.size (shp k).toArray)) := below_setRow' (B1.out.trans (A3.out.mono hs)) hs _
  have c0 : (w2.setRow w1.heap.size (shp k).toArray).cell? ⟨w1.heap.size, 0, none⟩ = some (.int .u32 (typ k : Nat)) := L0.out.cell 0
  go_wp2_with (first | (refine wpList_store_blk rfl 57 _ _ rfl w1.heap.size (shp k) shp0 57 rfl rfl A1.out s57 rfl (shp_one k) ?_))
  rw [jump_ret]
  go_ret2
  exact ⟨rfl, LB.out⟩
end Go.Proofs.Ytejeefkoalbcmaa
