/-
  Package purse: its cells in memory, isTree, leaves, Right and Crash, for every input that they are called with.
-/
import Derived.Test.YthkanlkjdmlafaaLB
namespace Go.Proofs.Ythkanlkjdmlafaa
open Go.RowKit

/-- The cells of a purse. -/
def pcs (I seed : List UInt8) (z y n m s : Int) : List Value := tcs I seed z y ++ [.int .i64 n, .int .i64 m, .int .i64 s]
theorem pcs_length (I seed : List UInt8) (z y n m s : Int) (hI : I.length = 16) (hs : seed.length = 32) : (pcs I seed z y n m s).length = 53 := by simp [pcs, tcs_length I seed z y hI hs]
theorem pcs_z (I seed : List UInt8) (z y n m s : Int) (hI : I.length = 16) (hs : seed.length = 32) : (pcs I seed z y n m s)[48]? = some (.int .i64 z) := by
  unfold pcs
  rw [List.getElem?_append_left (by rw [tcs_length I seed z y hI hs]; omega)]
  exact tcs_z I seed z y hI hs
theorem pcs_y (I seed : List UInt8) (z y n m s : Int) (hI : I.length = 16) (hs : seed.length = 32) : (pcs I seed z y n m s)[49]? = some (.int .i64 y) := by
  unfold pcs
  rw [List.getElem?_append_left (by rw [tcs_length I seed z y hI hs]; omega)]
  exact tcs_y I seed z y hI hs
theorem pcs_n (I seed : List UInt8) (z y n m s : Int) (hI : I.length = 16) (hs : seed.length = 32) : (pcs I seed z y n m s)[50]? = some (.int .i64 n) := by
  unfold pcs
  rw [List.getElem?_append_right (by rw [tcs_length I seed z y hI hs]; omega), tcs_length I seed z y hI hs]
  rfl
theorem pcs_m (I seed : List UInt8) (z y n m s : Int) (hI : I.length = 16) (hs : seed.length = 32) : (pcs I seed z y n m s)[51]? = some (.int .i64 m) := by
  unfold pcs
  rw [List.getElem?_append_right (by rw [tcs_length I seed z y hI hs]; omega), tcs_length I seed z y hI hs]
  rfl
theorem pcs_s (I seed : List UInt8) (z y n m s : Int) (hI : I.length = 16) (hs : seed.length = 32) : (pcs I seed z y n m s)[52]? = some (.int .i64 s) := by
  unfold pcs
  rw [List.getElem?_append_right (by rw [tcs_length I seed z y hI hs]; omega), tcs_length I seed z y hI hs]
  rfl
theorem pcs_range {w : World} {g : Nat} {I seed : List UInt8} {z y n m s : Int} {t : TypeId} (h : Blk w g (pcs I seed z y n m s) t) : w.rangeAt g 0 (tcs I seed z y) := fun j v hv => by
  have hj : j < (tcs I seed z y).length := (List.getElem?_eq_some_iff.1 hv).1
  rw [h.cell, Nat.zero_add]
  unfold pcs
  rw [List.getElem?_append_left hj]
  exact hv
theorem pcs_one (I seed : List UInt8) (z y n m s : Int) : (pcs I seed z y n m s).toArray.all (·.oneCell') = true := by
  have h := tcs_one I seed z y
  rw [Array.all_eq_true'] at h ⊢
  intro v hv
  simp only [pcs, List.mem_toArray, List.mem_append, List.mem_cons, List.not_mem_nil, or_false] at hv h
  rcases hv with a | a | a | a
  · exact h v a
  · subst a; rfl
  · subst a; rfl
  · subst a; rfl
theorem pcs_setn (I seed : List UInt8) (z y n m s n' : Int) (hI : I.length = 16) (hs : seed.length = 32) : (pcs I seed z y n m s).set 50 (.int .i64 n') = pcs I seed z y n' m s := by
  unfold pcs
  rw [List.set_append_right _ _ (by rw [tcs_length I seed z y hI hs]; omega), tcs_length I seed z y hI hs]
  rfl
theorem pcs_setm (I seed : List UInt8) (z y n m s m' : Int) (hI : I.length = 16) (hs : seed.length = 32) : (pcs I seed z y n m s).set 51 (.int .i64 m') = pcs I seed z y n m' s := by
  unfold pcs
  rw [List.set_append_right _ _ (by rw [tcs_length I seed z y hI hs]; omega), tcs_length I seed z y hI hs]
  rfl
theorem sPurse : (Try.prog.info? 30).map (·.size) = some 53 := by kernel_rfl
theorem rowPurse : ∃ d, Try.prog.underlying 30 = some d ∧ d.isRow = true := row_of (by kernel_rfl)
theorem sPurse' (I seed : List UInt8) (z y n m s : Int) (hI : I.length = 16) (hs : seed.length = 32) : (Try.prog.info? 30).map (·.size) = some (pcs I seed z y n m s).length := by rw [pcs_length I seed z y n m s hI hs]; exact sPurse
theorem sTree' (I seed : List UInt8) (z y : Int) (hI : I.length = 16) (hs : seed.length = 32) : (Try.prog.info? 25).map (·.size) = some (tcs I seed z y).length := by rw [tcs_length I seed z y hI hs]; exact sTree
def pcs0 : List Value := pcs K16 K32 0 0 0 0 0
theorem ziPurse : (Try.prog.info? 30).map (·.zero) = some (some (.agg pcs0.toArray)) := by kernel_rfl

theorem wpList_load_midG {P : Program} {w : World} {ops : Array Oper} {rest : List Oper} {o : Oper} {a : Act} {Q : Exit → Act → World → Prop} (t : TypeId) (x : Operand) (ho : o.op = .load t x) (g off : Nat) (hx : a.eval x = .pointer (some ⟨g, off, none⟩)) (cs : List Value) (d : TypeDesc) (hc : w.rangeAt g off cs)
    (hu : P.underlying t = some d) (hd : d.isRow = true) (hi : (P.info? t).map (·.size) = some cs.length) (hw : Region.wanted o (yielded ops a.tmps) = true)
    (h : wpList P ops Q rest (a.put o.dst (.agg cs.toArray)) w) : wpList P ops Q (o :: rest) a w := by
  refine BigFrame.wpList_want hw (fun K hK => ?_)
  unfold Oper.wp
  rw [run_load_midU t x ho g off hx cs d hc hu hd hi]
  exact hK _ _ h

set_option maxRecDepth 100000 in
set_option maxHeartbeats 400000 in
theorem isTree_yes (I seed : List UInt8) (k h : Nat) (w : World) (hI : I.length = 16) (hs : seed.length = 32) (hk : Wd k) (hh : Ht h) : Calls Try.prog 23 #[.agg (tcs I seed (k : Int) (h : Int)).toArray] w (One (.bool true) w) := by
  have HI := Lib.hid hI
  have HS := Lib.hid hs
  have HK := Lib.hid hk
  have HH := Lib.hid hh
  have HT := Lib.hid (sTree' I seed (k : Int) (h : Int) hI hs)
  obtain ⟨dT, huT, hdT⟩ := rowTree
  have HU := Lib.hid huT
  have HD := Lib.hid hdT
  clear hI hs huT hdT hk hh
  go_enter Try.func23, Try.ntmps23
  go_wp2_with (refine wpList_box_blk rfl 25 _ rfl (tcs I seed (k : Int) (h : Int)) rfl ?_)
  intro w1 a1 a2 a3
  have A1 := Lib.hid a1
  have A3 := Lib.hid a3
  clear a1 a2 a3
  go_wp2_with (refine wpList_load_blkU rfl 25 _ rfl w.heap.size rfl (tcs I seed (k : Int) (h : Int)) 25 A1.out dT HU.out HD.out HT.out ?_)
  refine (longT_yes I seed k h _ HI.out HS.out HK.out HH.out).mono ?_
  rintro e w2 ⟨rfl, hb⟩
  have B3 : Hid (Below w.heap.size w w2) := A3.out.trans (hb.mono A3.out.size)
  clear hb A1 A3
  go_wp2
  go_ret
  exact ⟨rfl, B3.out⟩

set_option maxRecDepth 100000 in
set_option maxHeartbeats 400000 in
theorem isTree_no (I seed : List UInt8) (z y : Int) (w : World) (hI : I.length = 16) (hs : seed.length = 32) (hn : NoT z y) : Calls Try.prog 23 #[.agg (tcs I seed z y).toArray] w (One (.bool false) w) := by
  have HI := Lib.hid hI
  have HS := Lib.hid hs
  have HN := Lib.hid hn
  have HT := Lib.hid (sTree' I seed z y hI hs)
  obtain ⟨dT, huT, hdT⟩ := rowTree
  have HU := Lib.hid huT
  have HD := Lib.hid hdT
  clear hI hs huT hdT hn
  go_enter Try.func23, Try.ntmps23
  go_wp2_with (refine wpList_box_blk rfl 25 _ rfl (tcs I seed z y) rfl ?_)
  intro w1 a1 a2 a3
  have A1 := Lib.hid a1
  have A3 := Lib.hid a3
  clear a1 a2 a3
  go_wp2_with (refine wpList_load_blkU rfl 25 _ rfl w.heap.size rfl (tcs I seed z y) 25 A1.out dT HU.out HD.out HT.out ?_)
  refine (longT_no I seed z y _ HI.out HS.out HN.out).mono ?_
  rintro e w2 ⟨rfl, hb⟩
  have B3 : Hid (Below w.heap.size w w2) := A3.out.trans (hb.mono A3.out.size)
  clear hb A1 A3
  go_wp2
  go_ret
  exact ⟨rfl, B3.out⟩

set_option maxRecDepth 100000 in
set_option maxHeartbeats 400000 in
theorem leavesP_any (I seed : List UInt8) (z : Int) (h : Nat) (w : World) (hI : I.length = 16) (hs : seed.length = 32) (hh : Ht h) : Calls Try.prog 19 #[.agg (tcs I seed z (h : Int)).toArray] w (One (.int .i64 (2 ^ h : Nat)) w) := by
  have HY := Lib.hid (tcs_y I seed z (h : Int) hI hs)
  clear hI hs
  go_enter Try.func19, Try.ntmps19
  go_wp2_with (refine wpList_box_blk rfl 25 _ rfl (tcs I seed z (h : Int)) rfl ?_)
  intro w1 a1 a2 a3
  have cy := (a1.cell 49).trans HY.out
  have A3 := Lib.hid a3
  clear a1 a2 a3 HY
  rcases hh with rfl | rfl | rfl | rfl | rfl
  all_goals
    go_wp2
    go_ret
    exact ⟨rfl, A3.out⟩

set_option maxRecDepth 100000 in
set_option maxHeartbeats 400000 in
theorem crashP_any (I seed : List UInt8) (z y n m s : Int) (w : World) (hI : I.length = 16) (hs : seed.length = 32) : Calls Try.prog 10 #[.agg (pcs I seed z y n m s).toArray] w (Arr (pcs I seed z y m m s) w) := by
  have HM := Lib.hid (pcs_m I seed z y n m s hI hs)
  have HN := Lib.hid (pcs_n I seed z y n m s hI hs)
  have HI := Lib.hid hI
  have HS := Lib.hid hs
  have HP := Lib.hid (sPurse' I seed z y m m s hI hs)
  have HL : Hid (pcs0.length = (pcs I seed z y m m s).length) := by show _ = _; rw [pcs_length I seed z y m m s hI hs]; rfl
  have HSET := Lib.hid (pcs_setn I seed z y n m s m hI hs)
  obtain ⟨dT, huT, hdT⟩ := rowPurse
  have HU := Lib.hid huT
  have HD := Lib.hid hdT
  clear hI hs huT hdT
  go_enter Try.func10, Try.ntmps10
  go_wp2_with (refine wpList_box_blk rfl 30 _ rfl (pcs I seed z y n m s) rfl ?_)
  intro w1 a1 a2 a3
  have A1 := Lib.hid a1
  have A2 := Lib.hid a2
  have A3 := Lib.hid a3
  clear a1 a2 a3
  go_wp2_with (refine wpList_alloc_blk rfl 30 rfl _ ziPurse ?_)
  intro w2 a1 a2 a3
  rw [A2.out] at a1 a2 a3 ⊢
  obtain ⟨g0, hg0⟩ : ∃ g, w.heap.size = g := ⟨_, rfl⟩
  have G1 : Hid (Blk w2 g0 (pcs I seed z y n m s) 30) := by show Blk _ _ _ _; rw [← hg0]; exact A1.out.below a3 (by omega)
  have G2 : Hid (Blk w2 (g0 + 1) pcs0 30) := by show Blk _ _ _ _; rw [← hg0]; exact a1
  have GB : Hid (Below g0 w w2) := by show Below _ _ _; rw [← hg0]; exact A3.out.trans (a3.mono (by omega))
  rw [hg0]
  have HG := Lib.hid hg0
  have cm := (G1.out.cell 51).trans HM.out
  have cn := (G1.out.cell 50).trans HN.out
  have fz := G1.out.frozen 50
  obtain ⟨t3, ht3⟩ : ∃ t, w2.setCell ⟨g0, 50, none⟩ (.int .i64 m) = t := ⟨_, rfl⟩
  have T1 : Hid (Blk t3 g0 (pcs I seed z y m m s) 30) := by show Blk _ _ _ _; rw [← ht3, ← HSET.out]; exact G1.out.set 50 _
  have T2 : Hid (Blk t3 (g0 + 1) pcs0 30) := by show Blk _ _ _ _; rw [← ht3]; exact G2.out.setOther _ _ (by show g0 + 1 ≠ g0; omega)
  have TB : Hid (Below g0 w t3) := by show Below _ _ _; rw [← ht3]; exact GB.out.setCell (Nat.le_refl g0) _
  have HT3 := Lib.hid ht3
  clear a1 a2 a3 A1 A2 A3 hg0 HM HN G1 G2 GB ht3
  go_wp2_with (first | (rw [HT3.out]; clear HT3 cm cn fz; refine wpList_load_blkU rfl 30 _ rfl g0 rfl (pcs I seed z y m m s) 30 T1.out dT HU.out HD.out HP.out ?_) | (refine wpList_store_blk rfl 30 _ _ rfl (g0 + 1) (pcs I seed z y m m s) pcs0 30 rfl rfl T2.out HP.out HL.out (pcs_one _ _ _ _ _ _ _) ?_))
  refine bodyPost_ret (v := .agg (pcs I seed z y m m s).toArray) ?_ rfl ?_
  · exact ret_blkUL rfl _ _ (g0 + 1) 30 _ rfl T2.out.setRow dT HU.out HD.out HP.out
  · exact ⟨rfl, below_setRow' (by rw [HG.out]; exact TB.out) (by have := HG.out; omega) _⟩
end Go.Proofs.Ythkanlkjdmlafaa
