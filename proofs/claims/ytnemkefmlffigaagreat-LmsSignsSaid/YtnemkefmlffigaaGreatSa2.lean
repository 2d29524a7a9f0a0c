/-
  The round words, the first state, and the document's own round words, as the program answers them: for every world.
-/
import Derived.Test.YtnemkefmlffigaaGreatSa1
import Derived.Test.YtnemkefmlffigaaGreatMs
import Derived.Test.YtnemkefmlffigaaGreatPs
namespace Go.Proofs.YtnemkefmlffigaaGreat
open Go.RowKit

/-- The call answers the array of these cells, and no old memory has changed. -/
def Arr (cs : List Value) (w : World) (e : Ending) (w' : World) : Prop := e = .returned (.agg cs.toArray) ∧ Below w.heap.size w w'

/-- The zero values' cells. -/
def z8 : List Value := ws (List.replicate 8 0)
def z64 : List Value := ws (List.replicate 64 0)
def z32 : List Value := bys (List.replicate 32 0)
theorem z8_length : z8.length = 8 := by decide
theorem z64_length : z64.length = 64 := by decide
theorem z32_length : z32.length = 32 := by decide
theorem z33 : (Tryz.prog.info? 125).map (·.zero) = some (some (.agg z8.toArray)) := by kernel_rfl
theorem z34 : (Tryz.prog.info? 138).map (·.zero) = some (some (.agg z64.toArray)) := by kernel_rfl
theorem z24 : (Tryz.prog.info? 23).map (·.zero) = some (some (.agg z32.toArray)) := by kernel_rfl
theorem s33 : (Tryz.prog.info? 125).map (·.size) = some 8 := by kernel_rfl
theorem s34 : (Tryz.prog.info? 138).map (·.size) = some 64 := by kernel_rfl
theorem s24 : (Tryz.prog.info? 23).map (·.size) = some 32 := by kernel_rfl
theorem tu33 : Tryz.prog.underlying 125 = some (.array 8 48) := by kernel_rfl
theorem tu34 : Tryz.prog.underlying 138 = some (.array 64 48) := by kernel_rfl
theorem tu24 : Tryz.prog.underlying 23 = some (.array 32 5) := by kernel_rfl
theorem s27 : (Tryz.prog.info? 48).map (·.size) = some 1 := by kernel_rfl
theorem zz34 : ((Tryz.prog.info? 138).bind (·.zero)).map (·.cells.size) = some 64 := by kernel_rfl
theorem zz33 : ((Tryz.prog.info? 125).bind (·.zero)).map (·.cells.size) = some 8 := by kernel_rfl

def ints (l : List Nat) : List Int := l.map fun (n : Nat) => (n : Int)
theorem ints_ws (l : List Nat) : (ints l).map (Value.int .u32) = ws l := by simp [ints, ws]
theorem ints_length (l : List Nat) : (ints l).length = l.length := by simp [ints]

set_option maxHeartbeats 400000 in
theorem roundConstants_any (w : World) : Calls Tryz.prog 115 #[] w (Arr (ws kw) w) := by
  go_enter Tryz.func115, Tryz.ntmps115
  go_wp2_with (refine wpList_alloc_blk rfl 138 rfl _ z34 ?_)
  intro w1 hb1 hs1 hbl
  go_wp2_with (first | (refine wpList_buildFlatArr rfl 138 48 64 _ rfl .u32 (ints kw) tu34 s27 (by rw [ints_length, kw_length]; exact zz34) (by kernel_rfl) ?_; rw [ints_ws]) | (refine wpList_store_blk rfl 138 _ _ rfl w.heap.size (ws kw) _ 138 rfl rfl hb1 (by rw [ws_length, kw_length]; exact s34) (by rw [ws_length, kw_length, z64_length]) (ws_one _) ?_))
  refine bodyPost_ret (v := .agg (ws kw).toArray) ?r rfl ?p
  case r => exact ret_blk rfl _ _ w.heap.size 138 (ws kw) rfl hb1.setRow 64 48 tu34 (by rw [ws_length, kw_length]; exact s34)
  case p => exact ⟨rfl, below_setRow' hbl (Nat.le_refl _) _⟩
set_option maxHeartbeats 400000 in
theorem initial_any (w : World) : Calls Tryz.prog 111 #[] w (Arr (ws iv) w) := by
  go_enter Tryz.func111, Tryz.ntmps111
  go_wp2_with (refine wpList_alloc_blk rfl 125 rfl _ z33 ?_)
  intro w1 hb1 hs1 hbl
  go_wp2_with (first | (refine wpList_buildFlatArr rfl 125 48 8 _ rfl .u32 (ints iv) tu33 s27 (by rw [ints_length, iv_length]; exact zz33) (by kernel_rfl) ?_; rw [ints_ws]) | (refine wpList_store_blk rfl 125 _ _ rfl w.heap.size (ws iv) _ 125 rfl rfl hb1 (by rw [ws_length, iv_length]; exact s33) (by rw [ws_length, iv_length, z8_length]) (ws_one _) ?_))
  refine bodyPost_ret (v := .agg (ws iv).toArray) ?r rfl ?p
  case r => exact ret_blk rfl _ _ w.heap.size 125 (ws iv) rfl hb1.setRow 8 48 tu33 (by rw [ws_length, iv_length]; exact s33)
  case p => exact ⟨rfl, below_setRow' hbl (Nat.le_refl _) _⟩
set_option maxHeartbeats 400000 in
theorem rounds_any (w : World) : Calls Tryz.prog 107 #[] w (Arr (ws kw) w) := by
  go_enter Tryz.func107, Tryz.ntmps107
  go_wp2_with (refine wpList_alloc_blk rfl 138 rfl _ z34 ?_)
  intro w1 hb1 hs1 hbl
  go_wp2_with (first | (refine wpList_buildFlatArr rfl 138 48 64 _ rfl .u32 (ints kw) tu34 s27 (by rw [ints_length, kw_length]; exact zz34) (by kernel_rfl) ?_; rw [ints_ws]) | (refine wpList_store_blk rfl 138 _ _ rfl w.heap.size (ws kw) _ 138 rfl rfl hb1 (by rw [ws_length, kw_length]; exact s34) (by rw [ws_length, kw_length, z64_length]) (ws_one _) ?_))
  refine bodyPost_ret (v := .agg (ws kw).toArray) ?r rfl ?p
  case r => exact ret_blk rfl _ _ w.heap.size 138 (ws kw) rfl hb1.setRow 64 48 tu34 (by rw [ws_length, kw_length]; exact s34)
  case p => exact ⟨rfl, below_setRow' hbl (Nat.le_refl _) _⟩
end Go.Proofs.YtnemkefmlffigaaGreat
