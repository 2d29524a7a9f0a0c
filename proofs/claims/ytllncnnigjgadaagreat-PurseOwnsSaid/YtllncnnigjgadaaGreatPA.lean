/-
  Package purse: its cells in memory, isTree, leaves, Right and Crash, for every input that they are called with.
-/
import Derived.Test.YtllncnnigjgadaaGreatLB
namespace Go.Proofs.YtllncnnigjgadaaGreat
open Go.RowKit

/-- The cells of a purse. -/
def pcs (I seed : List UInt8) (z y n m s : Int) : List Value := tcs I seed z y ++ [.int .i64 n, .int .i64 m, .int .i64 s]
theorem pcs_length (I seed : List UInt8) (z y n m s : Int) (hI : I.length = 16) (hs : seed.length = 32) : (pcs I seed z y n m s).length = 53 := by simp [pcs, tcs_length I seed z y hI hs]
theorem pcs_z (I seed : List UInt8) (z y n m s : Int) (hI : I.length = 16) (hs : seed.length = 32) : (pcs I seed z y n m s)[48]? = some (.int .i64 z) := by
  unfold pcs
  rw [List.getElem?_append_left (by rw [tcs_length I seed z y hI hs]; omega)]
  exact tcs_z I seed z y hI hs
theorem pcs_y (I seed : List UInt8) (z y n m s : Int) (hI : I.length = 16) (hs : seed.length = 32) : (pcs I seed z y n m s)[49]? = some (.int .i64 y) := by
  unfold pcs
  rw [List.getElem?_append_left (by rw [tcs_length I seed z y hI hs]; omega)]
  exact tcs_y I seed z y hI hs
theorem pcs_n (I seed : List UInt8) (z y n m s : Int) (hI : I.length = 16) (hs : seed.length = 32) : (pcs I seed z y n m s)[50]? = some (.int .i64 n) := by
  unfold pcs
  rw [List.getElem?_append_right (by rw [tcs_length I seed z y hI hs]; omega), tcs_length I seed z y hI hs]
  rfl
theorem pcs_m (I seed : List UInt8) (z y n m s : Int) (hI : I.length = 16) (hs : seed.length = 32) : (pcs I seed z y n m s)[51]? = some (.int .i64 m) := by
  unfold pcs
  rw [List.getElem?_append_right (by rw [tcs_length I seed z y hI hs]; omega), tcs_length I seed z y hI hs]
  rfl
theorem pcs_s (I seed : List UInt8) (z y n m s : Int) (hI : I.length = 16) (hs : seed.length = 32) : (pcs I seed z y n m s)[52]? = some (.int .i64 s) := by
  unfold pcs
  rw [List.getElem?_append_right (by rw [tcs_length I seed z y hI hs]; omega), tcs_length I seed z y hI hs]
  rfl
theorem pcs_range {w : World} {g : Nat} {I seed : List UInt8} {z y n m s : Int} {t : TypeId} (h : Blk w g (pcs I seed z y n m s) t) : w.rangeAt g 0 (tcs I seed z y) := fun j v hv => by
  have hj : j < (tcs I seed z y).length := (List.getElem?_eq_some_iff.1 hv).1
  rw [h.cell, Nat.zero_add]
  unfold pcs
  rw [List.getElem?_append_left hj]
  exact hv
theorem pcs_one (I seed : List UInt8) (z y n m s : Int) : (pcs I seed z y n m s).toArray.all (·.oneCell') = true := by
  have h := tcs_one I seed z y
  rw [Array.all_eq_true'] at h ⊢
  intro v hv
  simp only [pcs, List.mem_toArray, List.mem_append, List.mem_cons, List.not_mem_nil, or_false] at hv h
  rcases hv with a | a | a | a
  · exact h v a
  · subst a; rfl
  · subst a; rfl
  · subst a; rfl
theorem pcs_setn (I seed : List UInt8) (z y n m s n' : Int) (hI : I.length = 16) (hs : seed.length = 32) : (pcs I seed z y n m s).set 50 (.int .i64 n') = pcs I seed z y n' m s := by
  unfold pcs
  rw [List.set_append_right _ _ (by rw [tcs_length I seed z y hI hs]; omega), tcs_length I seed z y hI hs]
  rfl
theorem pcs_setm (I seed : List UInt8) (z y n m s m' : Int) (hI : I.length = 16) (hs : seed.length = 32) : (pcs I seed z y n m s).set 51 (.int .i64 m') = pcs I seed z y n m' s := by
  unfold pcs
  rw [List.set_append_right _ _ (by rw [tcs_length I seed z y hI hs]; omega), tcs_length I seed z y hI hs]
  rfl
theorem sPurse : (Tryz.prog.info? 34).map (·.size) = some 53 := by kernel_rfl
theorem rowPurse : ∃ d, Tryz.prog.underlying 34 = some d ∧ d.isRow = true := row_of (by kernel_rfl)
theorem sPurse' (I seed : List UInt8) (z y n m s : Int) (hI : I.length = 16) (hs : seed.length = 32) : (Tryz.prog.info? 34).map (·.size) = some (pcs I seed z y n m s).length := by rw [pcs_length I seed z y n m s hI hs]; exact sPurse
theorem sTree' (I seed : List UInt8) (z y : Int) (hI : I.length = 16) (hs : seed.length = 32) : (Tryz.prog.info? 32).map (·.size) = some (tcs I seed z y).length := by rw [tcs_length I seed z y hI hs]; exact sTree
def pcs0 : List Value := pcs K16 K32 0 0 0 0 0
theorem ziPurse : (Tryz.prog.info? 34).map (·.zero) = some (some (.agg pcs0.toArray)) := by kernel_rfl

theorem wpList_load_midG {P : Program} {w : World} {ops : Array Oper} {rest : List Oper} {o : Oper} {a : Act} {Q : Exit → Act → World → Prop} (t : TypeId) (x : Operand) (ho : o.op = .load t x) (g off : Nat) (hx : a.eval x = .pointer (some ⟨g, off, none⟩)) (cs : List Value) (d : TypeDesc) (hc : w.rangeAt g off cs)
    (hu : P.underlying t = some d) (hd : d.isRow = true) (hi : (P.info? t).map (·.size) = some cs.length) (hw : Region.wanted o (yielded ops a.tmps) = true)
    (h : wpList P ops Q rest (a.put o.dst (.agg cs.toArray)) w) : wpList P ops Q (o :: rest) a w := by
  refine BigFrame.wpList_want hw (fun K hK => ?_)
  unfold Oper.wp
  rw [run_load_midU t x ho g off hx cs d hc hu hd hi]
  exact hK _ _ h

set_option maxRecDepth 100000 in
set_option maxHeartbeats 400000 in
theorem isTree_yes (I seed : List UInt8) (k h : Nat) (w : World) (hI : I.length = 16) (hs : seed.length = 32) (hk : Wd k) (hh : Ht h) : Calls Tryz.prog 41 #[.agg (tcs I seed (k : Int) (h : Int)).toArray] w (One (.bool true) w) := by
  have HI := Lib.hid hI
  have HS := Lib.hid hs
  have HK := Lib.hid hk
  have HH := Lib.hid hh
  have HT := Lib.hid (sTree' I seed (k : Int) (h : Int) hI hs)
  obtain ⟨dT, huT, hdT⟩ := rowTree
  have HU := Lib.hid huT
  have HD := Lib.hid hdT
  clear hI hs huT hdT hk hh
  go_enter Tryz.func41, Tryz.ntmps41
  go_wp2_with (refine wpList_box_blk rfl 32 _ rfl (tcs I seed (k : Int) (h : Int)) rfl ?_)
  intro w1 a1 a2 a3
  have A1 := Lib.hid a1
  have A3 := Lib.hid a3
  clear a1 a2 a3
  go_wp2_with (refine wpList_load_blkU rfl 32 _ rfl w.heap.size rfl (tcs I seed (k : Int) (h : Int)) 32 A1.out dT HU.out HD.out HT.out ?_)
  refine (longT_yes I seed k h _ HI.out HS.out HK.out HH.out).mono ?_
  rintro e w2 ⟨rfl, hb⟩
  have B3 : Hid (Below w.heap.size w w2) := A3.out.trans (hb.mono A3.out.size)
  clear hb A1 A3
  go_wp2
  go_ret
  exact ⟨rfl, B3.out⟩

set_option maxRecDepth 100000 in
set_option maxHeartbeats 400000 in
theorem leavesP_any (I seed : List UInt8) (z : Int) (h : Nat) (w : World) (hI : I.length = 16) (hs : seed.length = 32) (hh : Ht h) : Calls Tryz.prog 42 #[.agg (tcs I seed z (h : Int)).toArray] w (One (.int .i64 (2 ^ h : Nat)) w) := by
  have HY := Lib.hid (tcs_y I seed z (h : Int) hI hs)
  clear hI hs
  go_enter Tryz.func42, Tryz.ntmps42
  go_wp2_with (refine wpList_box_blk rfl 32 _ rfl (tcs I seed z (h : Int)) rfl ?_)
  intro w1 a1 a2 a3
  have cy := (a1.cell 49).trans HY.out
  have A3 := Lib.hid a3
  clear a1 a2 a3 HY
  rcases hh with rfl | rfl | rfl | rfl | rfl
  all_goals
    go_wp2
    go_ret
    exact ⟨rfl, A3.out⟩

end Go.Proofs.YtllncnnigjgadaaGreat
