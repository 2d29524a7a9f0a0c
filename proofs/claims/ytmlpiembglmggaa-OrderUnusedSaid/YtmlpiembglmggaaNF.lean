/-
  The document's orders: two replies that differ in their versions alone. Each theorem states its own conditions.
-/
import Derived.Test.YtmlpiembglmggaaNE
namespace Go.Proofs.Ytmlpiembglmggaa
open Go.RowKit

set_option maxRecDepth 100000 in
set_option maxHeartbeats 4000000 in
theorem rfSameR_any (r : Rp) (z : Int) (nv nu : Value) (w : World) (hr : RdS w.heap.size w nv (pN r)) (hr2 : RdS w.heap.size w nu (pN r)) (hn : (pN r).length ≤ 1000000) : Calls Try.prog 19 #[.agg (rpc r nv).toArray, .agg (rpc (pC r, pQ r, pE r, pV r, z, pN r) nu).toArray] w (One (.bool (decide (pR r = z))) w) := by
  have HR := Lib.hid hr
  have HS := Lib.hid hr2
  have HN := Lib.hid hn
  clear hr hr2 hn
  have n1 : (pC r == pC r) = true := beq_self_eq_true _
  have n2 : (pQ r == pQ r) = true := beq_self_eq_true _
  have n3 : (pE r == pE r) = true := beq_self_eq_true _
  have n4 : ((⟨(pV r).toArray⟩ : ByteArray).toList == (⟨(pV r).toArray⟩ : ByteArray).toList) = true := beq_self_eq_true _
  go_enter Try.func19, Try.ntmps19
  go_wp2_with (refine wpList_box_blk rfl 37 _ rfl (rpc r nv) rfl ?_)
  intro y0 b1 b2 b3
  obtain ⟨gb0, hg⟩ : ∃ g, w.heap.size = g := ⟨_, rfl⟩
  have X0 := Lib.hid b1
  have EB0 := Lib.hid b3
  rw [hg] at X0 ⊢
  clear b1 b2 b3 hg
  go_wp2_with (refine wpList_box_blk rfl 37 _ rfl (rpc (pC r, pQ r, pE r, pV r, z, pN r) nu) rfl ?_)
  intro y1 b1 b2 b3
  obtain ⟨gb1, hg⟩ : ∃ g, y0.heap.size = g := ⟨_, rfl⟩
  have X1 := Lib.hid b1
  have EB1 := Lib.hid b3
  rw [hg] at X1 ⊢
  clear b1 b2 b3 hg
  have P0_w := Lib.hid (EB0.out.trans (EB1.out.mono EB0.out.size))
  have c_X0 := (X0.out.below EB1.out X0.out.lt).at_ 0 _ rfl
  have c_X0_1 := (X0.out.below EB1.out X0.out.lt).at_ 1 _ rfl
  have c_X0_2 := (X0.out.below EB1.out X0.out.lt).at_ 2 _ rfl
  have c_X0_3 := (X0.out.below EB1.out X0.out.lt).at_ 3 _ rfl
  have c_X0_4 := (X0.out.below EB1.out X0.out.lt).at_ 4 _ rfl
  have c_X0_5 := (X0.out.below EB1.out X0.out.lt).at_ 5 _ rfl
  have c_X1 := X1.out.at_ 0 _ rfl
  have c_X1_1 := X1.out.at_ 1 _ rfl
  have c_X1_2 := X1.out.at_ 2 _ rfl
  have c_X1_3 := X1.out.at_ 3 _ rfl
  have c_X1_4 := X1.out.at_ 4 _ rfl
  have c_X1_5 := X1.out.at_ 5 _ rfl
  by_cases hz : pR r = z
  · subst hz
    have n5 : (pR r == pR r) = true := beq_self_eq_true _
    have HD : Hid (decide (pR r = pR r) = true) := decide_eq_true rfl
    go_wp2_with fail
    refine (strings_same nv nu (pN r) _ _ y1 ((HR.out.below P0_w.out).more P0_w.out.size) ((HS.out.below P0_w.out).more P0_w.out.size) (Nat.le_refl _) (Nat.le_refl _) (by have := HN.out; omega)).mono ?_
    rintro e w9 ⟨rfl, hb⟩
    have E9 := Lib.hid hb
    clear hb
    have P1_w := Lib.hid (P0_w.out.trans (E9.out.mono P0_w.out.size))
    clear P0_w
    have P1_y0 := Lib.hid (EB1.out.trans (E9.out.mono EB1.out.size))
    go_wp2
    go_ret
    exact ⟨by rw [HD.out]; rfl, P1_w.out⟩
  · have n5 : (pR r == z) = false := by rw [beq_eq_false_iff_ne]; exact hz
    have HD : Hid (decide (pR r = z) = false) := decide_eq_false hz
    clear hz
    go_wp2
    go_ret
    exact ⟨by rw [HD.out]; rfl, P0_w.out⟩
end Go.Proofs.Ytmlpiembglmggaa
