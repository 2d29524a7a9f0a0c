/-
  Package lms: fourBytes, number, sibling, kindOf, the leaves and the length of a shape, the key of a leaf, for every input that they are called with.
  Package lms: the key of a leaf, and the hashes of nodes: nodeHash, leafHash, upperHash, for every input that they are called with.
  Package lms: leafHash and upperHash, for every input that they are called with.
  Package lms: shapeOf, for every width and height; hashes, what it lays.
  Package lms: the hash of a node, for every node of a tree.
  Package lms: Long and Leaf, for every input; the siblings of a leaf's way.
  Package lms: Public and Knot, for every input.
-/
import Derived.Test.YtllncnnigjgadaaGreatCC
import Derived.Test.YtllncnnigjgadaaGreatLp
import Derived.Laws.EntriesVeiled
import Derived.Test.YtllncnnigjgadaaGreatLA
import Derived.Test.YtllncnnigjgadaaGreatDDx
import Derived.Test.YtllncnnigjgadaaGreatOBx
import Derived.Test.YtllncnnigjgadaaGreatSXx
namespace Go.Proofs.YtllncnnigjgadaaGreat
open Go.RowKit

end Go.Proofs.YtllncnnigjgadaaGreat

namespace Go.Proofs.YtllncnnigjgadaaGreat
open Go.RowKit

end Go.Proofs.YtllncnnigjgadaaGreat

namespace Go.Proofs.YtllncnnigjgadaaGreat
open Go.RowKit

end Go.Proofs.YtllncnnigjgadaaGreat

namespace Go.Proofs.YtllncnnigjgadaaGreat
open Go.RowKit

set_option maxRecDepth 100000 in
set_option maxHeartbeats 400000 in
theorem lshape_noW (z y : Int) (w : World) (hz : NoW z) : Calls Tryz.prog 46 #[.int .i64 z, .int .i64 y] w (TwoD (.agg shl0.toArray) (.int .i64 1) w) := by
  have HZ := Lib.hid hz
  clear hz
  obtain ⟨d74, hu74, hd74⟩ := row74
  have HU := Lib.hid hu74
  have HD := Lib.hid hd74
  clear hu74 hd74
  go_enter Tryz.func46, Tryz.ntmps46
  go_wp2_with (refine wpList_alloc_blk rfl 65 rfl _ zi74 ?_)
  intro w1 a1 a2 a3
  have A1 := Lib.hid a1
  have A2 := Lib.hid a2
  have A3 := Lib.hid a3
  clear a1 a2 a3
  go_wp2
  refine wp_scope_goto 0 rfl ?_
  go_wp2_with fail
  refine (typeX_no z _ HZ.out).mono ?_
  rintro e w2 ⟨rfl, hb⟩
  have hs1 := A2.out
  have G1 : Hid (Blk w2 w.heap.size shl0 65) := A1.out.below hb (by omega)
  have GB : Hid (Below w.heap.size w w2) := A3.out.trans (hb.mono (by omega))
  clear hb hs1 A1 A2 A3
  go_wp2
  refine wp_goto ⟨rfl, ?_⟩
  go_wp2_with (refine wpList_store_blk rfl 65 _ _ rfl w.heap.size shl0 shl0 65 rfl rfl G1.out s74 rfl shl0_one ?_)
  rw [Exit.noGoto_ret]
  refine bodyPost_ret (v := .tuple #[.agg shl0.toArray, .int .i64 1]) ?_ rfl ?_
  · exact ret_blk2U rfl _ _ w.heap.size 65 shl0 _ rfl rfl G1.out.setRow d74 HU.out HD.out s74
  · exact ⟨rfl, below_setRow' GB.out (Nat.le_refl _) _⟩

set_option maxRecDepth 100000 in
set_option maxHeartbeats 400000 in
theorem lshape_noH (k : Nat) (y : Int) (w : World) (hk : Wd k) (hy : NoH y) : Calls Tryz.prog 46 #[.int .i64 (k : Int), .int .i64 y] w (TwoD (.agg shl0.toArray) (.int .i64 1) w) := by
  have HK := Lib.hid hk
  clear hk
  obtain ⟨d74, hu74, hd74⟩ := row74
  have HU := Lib.hid hu74
  have HD := Lib.hid hd74
  clear hu74 hd74
  go_enter Tryz.func46, Tryz.ntmps46
  go_wp2_with (refine wpList_alloc_blk rfl 65 rfl _ zi74 ?_)
  intro w1 a1 a2 a3
  have A1 := Lib.hid a1
  have A2 := Lib.hid a2
  have A3 := Lib.hid a3
  clear a1 a2 a3
  go_wp2
  refine wp_scope_goto 0 rfl ?_
  go_wp2_with fail
  refine (typeX_yes k _ HK.out).mono ?_
  rintro e w2 ⟨rfl, hb⟩
  have hs1 := A2.out
  have G1 : Hid (Blk w2 w.heap.size shl0 65) := A1.out.below hb (by omega)
  have GB : Hid (Below w.heap.size w w2) := A3.out.trans (hb.mono (by omega))
  have hg2 : w.heap.size < w2.heap.size := by have := hb.size; omega
  clear hb hs1 A1 A2 A3
  go_wp2_with fail
  refine (longX_yes k _ HK.out).mono ?_
  rintro e w3 ⟨rfl, hb⟩
  have E1 : Hid (Blk w3 w.heap.size shl0 65) := G1.out.below hb hg2
  have EB : Hid (Below w.heap.size w w3) := GB.out.trans (hb.mono (by omega))
  clear hb hg2 G1 GB
  rcases hy with hy | hy
  · have z1 : y < 1 := hy
    go_wp2
    refine wp_goto ⟨rfl, ?_⟩
    go_wp2_with (refine wpList_store_blk rfl 65 _ _ rfl w.heap.size shl0 shl0 65 rfl rfl E1.out s74 rfl shl0_one ?_)
    rw [Exit.noGoto_ret]
    refine bodyPost_ret (v := .tuple #[.agg shl0.toArray, .int .i64 1]) ?_ rfl ?_
    · exact ret_blk2U rfl _ _ w.heap.size 65 shl0 _ rfl rfl E1.out.setRow d74 HU.out HD.out s74
    · exact ⟨rfl, below_setRow' EB.out (Nat.le_refl _) _⟩
  · have z1 : ¬ (y < 1) := by omega
    have z2 : 5 < y := hy
    go_wp2
    refine wp_goto ⟨rfl, ?_⟩
    go_wp2_with (refine wpList_store_blk rfl 65 _ _ rfl w.heap.size shl0 shl0 65 rfl rfl E1.out s74 rfl shl0_one ?_)
    rw [Exit.noGoto_ret]
    refine bodyPost_ret (v := .tuple #[.agg shl0.toArray, .int .i64 1]) ?_ rfl ?_
    · exact ret_blk2U rfl _ _ w.heap.size 65 shl0 _ rfl rfl E1.out.setRow d74 HU.out HD.out s74
    · exact ⟨rfl, below_setRow' EB.out (Nat.le_refl _) _⟩

end Go.Proofs.YtllncnnigjgadaaGreat

namespace Go.Proofs.YtllncnnigjgadaaGreat
open Go.RowKit

end Go.Proofs.YtllncnnigjgadaaGreat

namespace Go.Proofs.YtllncnnigjgadaaGreat
open Go.RowKit

theorem lshape_no (z y : Int) (w : World) (h : NoT z y) : Calls Tryz.prog 46 #[.int .i64 z, .int .i64 y] w (TwoD (.agg shl0.toArray) (.int .i64 1) w) := by
  rcases width_or z with ⟨k, hk, rfl⟩ | hz
  · rcases h with h | h
    · exact lshape_noW _ _ _ h
    · exact lshape_noH _ _ _ hk h
  · exact lshape_noW _ _ _ hz
set_option maxRecDepth 100000 in
set_option maxHeartbeats 400000 in
theorem longT_no (I seed : List UInt8) (z y : Int) (w : World) (hI : I.length = 16) (hs : seed.length = 32) (hn : NoT z y) : Calls Tryz.prog 77 #[.agg (tcs I seed z y).toArray] w (TwoD (.int .i64 0) (.int .i64 1) w) := by
  have HZ := Lib.hid (tcs_z I seed z y hI hs)
  have HY := Lib.hid (tcs_y I seed z y hI hs)
  have HN := Lib.hid hn
  clear hI hs hn
  go_enter Tryz.func77, Tryz.ntmps77
  go_wp2_with (refine wpList_box_blk rfl 32 _ rfl (tcs I seed z y) rfl ?_)
  intro w1 a1 a2 a3
  have cz := (a1.cell 48).trans HZ.out
  have cy := (a1.cell 49).trans HY.out
  have A3 := Lib.hid a3
  clear a1 a2 a3
  go_wp2
  refine wp_scope_goto 0 rfl ?_
  go_wp2_with fail
  refine (lshape_no z y _ HN.out).mono ?_
  rintro e w2 ⟨rfl, hb⟩
  have B1 : Hid (Below w.heap.size w w2) := A3.out.trans (hb.mono A3.out.size)
  clear hb A3 cz cy
  go_wp2_with (first | (refine wpList_alloc_blk rfl 65 rfl _ zi74 ?_))
  intro w3 a1 a2 a3
  have A1 := Lib.hid a1
  have hs := B1.out.size
  have LB : Hid (Below w.heap.size w (w3.setRow w2.heap.size shl0.toArray)) := below_setRow' (B1.out.trans (a3.mono hs)) hs _
  clear a1 a2 a3
  go_wp2_with (first | (refine wpList_store_blk rfl 65 _ _ rfl w2.heap.size shl0 shl0 65 rfl rfl A1.out s74 rfl shl0_one ?_))
  refine wp_goto ⟨rfl, ?_⟩
  go_wp2
  rw [Exit.noGoto_ret]
  go_ret2
  exact ⟨rfl, LB.out⟩

end Go.Proofs.YtllncnnigjgadaaGreat

namespace Go.Proofs.YtllncnnigjgadaaGreat
open Go.RowKit

end Go.Proofs.YtllncnnigjgadaaGreat
