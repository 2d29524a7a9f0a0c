/-
  Package ots: types and shapeOf, for every int. Package ots: hasDigit, long, Long, Type and Secret, for every input. Package ots: Secret, for every key and every int. Package ots: Chain, for every key, every three ints and every hash. Package ots: Public of a key whose W is no width; the statements' live question, which is answered with true.
-/
import Derived.Test.YtllncnnigjgadaaGreatOA
import Derived.Maps.Own
import Derived.Maps.OwnOps
import Derived.Maps.RangeWalk
import Derived.ScopeJumps
import Derived.WalkMore
import Derived.Test.YtllncnnigjgadaaGreatOB
import Derived.Test.YtllncnnigjgadaaGreatDDx
import Derived.Test.YtllncnnigjgadaaGreatSXx
namespace Go.Proofs.YtllncnnigjgadaaGreat
open Go.RowKit
open Go.Maps (Keyed int_keyed)

set_option maxRecDepth 100000 in
set_option maxHeartbeats 400000 in
theorem shapeOf_no (z : Int) (w : World) (hz : NoW z) : Calls Tryz.prog 87 #[.int .i64 z] w (TwoD (.agg shp0.toArray) (.int .i64 1) w) := by
  have HZ := Lib.hid hz
  clear hz
  obtain ⟨d57, hu57, hd57⟩ := row57
  have HU := Lib.hid hu57
  have HD := Lib.hid hd57
  clear hu57 hd57
  go_enter Tryz.func87, Tryz.ntmps87
  go_wp2_with (refine wpList_alloc_blk rfl 105 rfl _ zi57 ?_)
  intro w1 a1 a2 a3
  have A1 := Lib.hid a1
  have A2 := Lib.hid a2
  have A3 := Lib.hid a3
  clear a1 a2 a3
  go_wp2
  refine wp_scope_goto 0 rfl ?_
  go_wp2_with fail
  refine (ownX_no z _ HZ.out).mono ?_
  rintro e w2 ⟨rfl, hb⟩
  have hs1 := A2.out
  have G1 : Hid (Blk w2 w.heap.size shp0 105) := A1.out.below hb (by omega)
  have GB : Hid (Below w.heap.size w w2) := A3.out.trans (hb.mono (by omega))
  clear hb hs1 A1 A2 A3
  go_wp2
  refine wp_goto ⟨rfl, ?_⟩
  go_wp2_with (refine wpList_store_blk rfl 105 _ _ rfl w.heap.size shp0 shp0 105 rfl rfl G1.out s57 rfl shp0_one ?_)
  rw [Exit.noGoto_ret]
  refine bodyPost_ret (v := .tuple #[.agg shp0.toArray, .int .i64 1]) ?_ rfl ?_
  · exact ret_blk2U rfl _ _ w.heap.size 105 shp0 _ rfl rfl G1.out.setRow d57 HU.out HD.out s57
  · exact ⟨rfl, below_setRow' GB.out (Nat.le_refl _) _⟩

end Go.Proofs.YtllncnnigjgadaaGreat

namespace Go.Proofs.YtllncnnigjgadaaGreat
open Go.RowKit

set_option maxRecDepth 100000 in
set_option maxHeartbeats 400000 in
theorem typeX_no (z : Int) (w : World) (hz : NoW z) : Calls Tryz.prog 81 #[.int .i64 z] w (TwoD (.int .u32 0) (.int .i64 1) w) := by
  have HZ := Lib.hid hz
  clear hz
  obtain ⟨d57, hu57, hd57⟩ := row57
  have HU := Lib.hid hu57
  have HD := Lib.hid hd57
  clear hu57 hd57
  go_enter Tryz.func81, Tryz.ntmps81
  go_wp2
  refine wp_scope_goto 0 rfl ?_
  go_wp2_with fail
  refine (shapeOf_no z _ HZ.out).mono ?_
  rintro e w1 ⟨rfl, hb⟩
  have B1 := Lib.hid hb
  clear hb
  go_wp2_with (first | (refine wpList_alloc_blk rfl 105 rfl _ zi57 ?_))
  intro w2 a1 a2 a3
  have A1 := Lib.hid a1
  have A3 := Lib.hid a3
  clear a1 a2 a3
  have hs := B1.out.size
  have LB : Hid (Below w.heap.size w (w2.setRow w1.heap.size shp0.toArray)) := below_setRow' (B1.out.trans (A3.out.mono hs)) hs _
  go_wp2_with (first | (refine wpList_store_blk rfl 105 _ _ rfl w1.heap.size shp0 shp0 105 rfl rfl A1.out s57 rfl shp0_one ?_))
  refine wp_goto ⟨rfl, ?_⟩
  go_wp2
  rw [Exit.noGoto_ret]
  go_ret2
  exact ⟨rfl, LB.out⟩

end Go.Proofs.YtllncnnigjgadaaGreat

namespace Go.Proofs.YtllncnnigjgadaaGreat
open Go.RowKit

end Go.Proofs.YtllncnnigjgadaaGreat

namespace Go.Proofs.YtllncnnigjgadaaGreat
open Go.RowKit

end Go.Proofs.YtllncnnigjgadaaGreat

namespace Go.Proofs.YtllncnnigjgadaaGreat
open Go.RowKit

end Go.Proofs.YtllncnnigjgadaaGreat
