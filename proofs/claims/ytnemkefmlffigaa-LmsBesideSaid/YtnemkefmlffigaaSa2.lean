/-
  The round words, the first state, and the document's own round words, as the program answers them: for every world.
-/
import Derived.Test.YtnemkefmlffigaaSa1
import Derived.Test.YtnemkefmlffigaaMs
import Derived.Test.YtnemkefmlffigaaPs
namespace Go.Proofs.Ytnemkefmlffigaa
open Go.RowKit

/-- The call answers the array of these cells, and no old memory has changed. -/
def Arr (cs : List Value) (w : World) (e : Ending) (w' : World) : Prop := e = .returned (.agg cs.toArray) ∧ Below w.heap.size w w'

/-- The zero values' cells. -/
def z8 : List Value := ws (List.replicate 8 0)
def z64 : List Value := ws (List.replicate 64 0)
def z32 : List Value := bys (List.replicate 32 0)
theorem z8_length : z8.length = 8 := by decide
theorem z64_length : z64.length = 64 := by decide
theorem z32_length : z32.length = 32 := by decide
theorem z33 : (Try.prog.info? 121).map (·.zero) = some (some (.agg z8.toArray)) := by kernel_rfl
theorem z34 : (Try.prog.info? 133).map (·.zero) = some (some (.agg z64.toArray)) := by kernel_rfl
theorem z24 : (Try.prog.info? 28).map (·.zero) = some (some (.agg z32.toArray)) := by kernel_rfl
theorem s33 : (Try.prog.info? 121).map (·.size) = some 8 := by kernel_rfl
theorem s34 : (Try.prog.info? 133).map (·.size) = some 64 := by kernel_rfl
theorem s24 : (Try.prog.info? 28).map (·.size) = some 32 := by kernel_rfl
theorem tu33 : Try.prog.underlying 121 = some (.array 8 23) := by kernel_rfl
theorem tu34 : Try.prog.underlying 133 = some (.array 64 23) := by kernel_rfl
theorem tu24 : Try.prog.underlying 28 = some (.array 32 5) := by kernel_rfl
theorem s27 : (Try.prog.info? 23).map (·.size) = some 1 := by kernel_rfl
theorem zz34 : ((Try.prog.info? 133).bind (·.zero)).map (·.cells.size) = some 64 := by kernel_rfl
theorem zz33 : ((Try.prog.info? 121).bind (·.zero)).map (·.cells.size) = some 8 := by kernel_rfl

def ints (l : List Nat) : List Int := l.map fun (n : Nat) => (n : Int)
theorem ints_ws (l : List Nat) : (ints l).map (Value.int .u32) = ws l := by simp [ints, ws]
theorem ints_length (l : List Nat) : (ints l).length = l.length := by simp [ints]

set_option maxHeartbeats 400000 in
theorem roundConstants_any (w : World) : Calls Try.prog 99 #[] w (Arr (ws kw) w) := by
  go_enter Try.func99, Try.ntmps99
  go_wp2_with (refine wpList_alloc_blk rfl 133 rfl _ z34 ?_)
  intro w1 hb1 hs1 hbl
  go_wp2_with (first | (refine wpList_buildFlatArr rfl 133 23 64 _ rfl .u32 (ints kw) tu34 s27 (by rw [ints_length, kw_length]; exact zz34) (by kernel_rfl) ?_; rw [ints_ws]) | (refine wpList_store_blk rfl 133 _ _ rfl w.heap.size (ws kw) _ 133 rfl rfl hb1 (by rw [ws_length, kw_length]; exact s34) (by rw [ws_length, kw_length, z64_length]) (ws_one _) ?_))
  refine bodyPost_ret (v := .agg (ws kw).toArray) ?r rfl ?p
  case r => exact ret_blk rfl _ _ w.heap.size 133 (ws kw) rfl hb1.setRow 64 23 tu34 (by rw [ws_length, kw_length]; exact s34)
  case p => exact ⟨rfl, below_setRow' hbl (Nat.le_refl _) _⟩
set_option maxHeartbeats 400000 in
theorem initial_any (w : World) : Calls Try.prog 92 #[] w (Arr (ws iv) w) := by
  go_enter Try.func92, Try.ntmps92
  go_wp2_with (refine wpList_alloc_blk rfl 121 rfl _ z33 ?_)
  intro w1 hb1 hs1 hbl
  go_wp2_with (first | (refine wpList_buildFlatArr rfl 121 23 8 _ rfl .u32 (ints iv) tu33 s27 (by rw [ints_length, iv_length]; exact zz33) (by kernel_rfl) ?_; rw [ints_ws]) | (refine wpList_store_blk rfl 121 _ _ rfl w.heap.size (ws iv) _ 121 rfl rfl hb1 (by rw [ws_length, iv_length]; exact s33) (by rw [ws_length, iv_length, z8_length]) (ws_one _) ?_))
  refine bodyPost_ret (v := .agg (ws iv).toArray) ?r rfl ?p
  case r => exact ret_blk rfl _ _ w.heap.size 121 (ws iv) rfl hb1.setRow 8 23 tu33 (by rw [ws_length, iv_length]; exact s33)
  case p => exact ⟨rfl, below_setRow' hbl (Nat.le_refl _) _⟩
set_option maxHeartbeats 400000 in
theorem rounds_any (w : World) : Calls Try.prog 97 #[] w (Arr (ws kw) w) := by
  go_enter Try.func97, Try.ntmps97
  go_wp2_with (refine wpList_alloc_blk rfl 133 rfl _ z34 ?_)
  intro w1 hb1 hs1 hbl
  go_wp2_with (first | (refine wpList_buildFlatArr rfl 133 23 64 _ rfl .u32 (ints kw) tu34 s27 (by rw [ints_length, kw_length]; exact zz34) (by kernel_rfl) ?_; rw [ints_ws]) | (refine wpList_store_blk rfl 133 _ _ rfl w.heap.size (ws kw) _ 133 rfl rfl hb1 (by rw [ws_length, kw_length]; exact s34) (by rw [ws_length, kw_length, z64_length]) (ws_one _) ?_))
  refine bodyPost_ret (v := .agg (ws kw).toArray) ?r rfl ?p
  case r => exact ret_blk rfl _ _ w.heap.size 133 (ws kw) rfl hb1.setRow 64 23 tu34 (by rw [ws_length, kw_length]; exact s34)
  case p => exact ⟨rfl, below_setRow' hbl (Nat.le_refl _) _⟩
end Go.Proofs.Ytnemkefmlffigaa
