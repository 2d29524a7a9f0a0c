/-
  Package purse: its cells in memory, isTree, leaves, Right and Crash, for every input that they are called with.
-/
import Derived.Test.YtllncnnigjgadaaGreatLB
import Derived.Test.YtllncnnigjgadaaGreatPA
import Derived.Test.YtllncnnigjgadaaGreatDDx
import Derived.Test.YtllncnnigjgadaaGreatLAx
import Derived.Test.YtllncnnigjgadaaGreatOBx
import Derived.Test.YtllncnnigjgadaaGreatSXx
namespace Go.Proofs.YtllncnnigjgadaaGreat
open Go.RowKit

set_option maxRecDepth 100000 in
set_option maxHeartbeats 400000 in
theorem isTree_no (I seed : List UInt8) (z y : Int) (w : World) (hI : I.length = 16) (hs : seed.length = 32) (hn : NoT z y) : Calls Tryz.prog 41 #[.agg (tcs I seed z y).toArray] w (One (.bool false) w) := by
  have HI := Lib.hid hI
  have HS := Lib.hid hs
  have HN := Lib.hid hn
  have HT := Lib.hid (sTree' I seed z y hI hs)
  obtain ⟨dT, huT, hdT⟩ := rowTree
  have HU := Lib.hid huT
  have HD := Lib.hid hdT
  clear hI hs huT hdT hn
  go_enter Tryz.func41, Tryz.ntmps41
  go_wp2_with (refine wpList_box_blk rfl 32 _ rfl (tcs I seed z y) rfl ?_)
  intro w1 a1 a2 a3
  have A1 := Lib.hid a1
  have A3 := Lib.hid a3
  clear a1 a2 a3
  go_wp2_with (refine wpList_load_blkU rfl 32 _ rfl w.heap.size rfl (tcs I seed z y) 32 A1.out dT HU.out HD.out HT.out ?_)
  refine (longT_no I seed z y _ HI.out HS.out HN.out).mono ?_
  rintro e w2 ⟨rfl, hb⟩
  have B3 : Hid (Below w.heap.size w w2) := A3.out.trans (hb.mono A3.out.size)
  clear hb A1 A3
  go_wp2
  go_ret
  exact ⟨rfl, B3.out⟩

set_option maxRecDepth 100000 in
set_option maxHeartbeats 400000 in
theorem crashP_any (I seed : List UInt8) (z y n m s : Int) (w : World) (hI : I.length = 16) (hs : seed.length = 32) : Calls Tryz.prog 20 #[.agg (pcs I seed z y n m s).toArray] w (Arr (pcs I seed z y m m s) w) := by
  have HM := Lib.hid (pcs_m I seed z y n m s hI hs)
  have HN := Lib.hid (pcs_n I seed z y n m s hI hs)
  have HI := Lib.hid hI
  have HS := Lib.hid hs
  have HP := Lib.hid (sPurse' I seed z y m m s hI hs)
  have HL : Hid (pcs0.length = (pcs I seed z y m m s).length) := by show _ = _; rw [pcs_length I seed z y m m s hI hs]; rfl
  have HSET := Lib.hid (pcs_setn I seed z y n m s m hI hs)
  obtain ⟨dT, huT, hdT⟩ := rowPurse
  have HU := Lib.hid huT
  have HD := Lib.hid hdT
  clear hI hs huT hdT
  go_enter Tryz.func20, Tryz.ntmps20
  go_wp2_with (refine wpList_box_blk rfl 34 _ rfl (pcs I seed z y n m s) rfl ?_)
  intro w1 a1 a2 a3
  have A1 := Lib.hid a1
  have A2 := Lib.hid a2
  have A3 := Lib.hid a3
  clear a1 a2 a3
  go_wp2_with (refine wpList_alloc_blk rfl 34 rfl _ ziPurse ?_)
  intro w2 a1 a2 a3
  rw [A2.out] at a1 a2 a3 ⊢
  obtain ⟨g0, hg0⟩ : ∃ g, w.heap.size = g := ⟨_, rfl⟩
  have G1 : Hid (Blk w2 g0 (pcs I seed z y n m s) 34) := by show Blk _ _ _ _; rw [← hg0]; exact A1.out.below a3 (by omega)
  have G2 : Hid (Blk w2 (g0 + 1) pcs0 34) := by show Blk _ _ _ _; rw [← hg0]; exact a1
  have GB : Hid (Below g0 w w2) := by show Below _ _ _; rw [← hg0]; exact A3.out.trans (a3.mono (by omega))
  rw [hg0]
  have HG := Lib.hid hg0
  have cm := (G1.out.cell 51).trans HM.out
  have cn := (G1.out.cell 50).trans HN.out
  have fz := G1.out.frozen 50
  obtain ⟨t3, ht3⟩ : ∃ t, w2.setCell ⟨g0, 50, none⟩ (.int .i64 m) = t := ⟨_, rfl⟩
  have T1 : Hid (Blk t3 g0 (pcs I seed z y m m s) 34) := by show Blk _ _ _ _; rw [← ht3, ← HSET.out]; exact G1.out.set 50 _
  have T2 : Hid (Blk t3 (g0 + 1) pcs0 34) := by show Blk _ _ _ _; rw [← ht3]; exact G2.out.setOther _ _ (by show g0 + 1 ≠ g0; omega)
  have TB : Hid (Below g0 w t3) := by show Below _ _ _; rw [← ht3]; exact GB.out.setCell (Nat.le_refl g0) _
  have HT3 := Lib.hid ht3
  clear a1 a2 a3 A1 A2 A3 hg0 HM HN G1 G2 GB ht3
  go_wp2_with (first | (rw [HT3.out]; clear HT3 cm cn fz; refine wpList_load_blkU rfl 34 _ rfl g0 rfl (pcs I seed z y m m s) 34 T1.out dT HU.out HD.out HP.out ?_) | (refine wpList_store_blk rfl 34 _ _ rfl (g0 + 1) (pcs I seed z y m m s) pcs0 34 rfl rfl T2.out HP.out HL.out (pcs_one _ _ _ _ _ _ _) ?_))
  refine bodyPost_ret (v := .agg (pcs I seed z y m m s).toArray) ?_ rfl ?_
  · exact ret_blkUL rfl _ _ (g0 + 1) 34 _ rfl T2.out.setRow dT HU.out HD.out HP.out
  · exact ⟨rfl, below_setRow' (by rw [HG.out]; exact TB.out) (by have := HG.out; omega) _⟩
end Go.Proofs.YtllncnnigjgadaaGreat
