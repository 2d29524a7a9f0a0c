/-
  Texts K5.
-/
import Derived.Test.YtdihngkdhanhkaaGreatDoorZ34
import Derived.Test.YtdihngkdhanhkaaGreatDoorZ35
import Derived.Test.YtdihngkdhanhkaaGreatDoorZ37
import Derived.Test.YtdihngkdhanhkaaGreatDoorZ38
namespace Go.Proofs.YtdihngkdhanhkaaGreatDoor
open Go.RowKit

/-- A function as a value. -/
abbrev fnv (f : FuncId) : Value := .func (.func f) #[] #[]
/-- The effects of the kinds. -/
def fnc : List Value := [fnv 129, fnv 130, fnv 131, fnv 132, fnv 133, fnv 134, fnv 135, fnv 136, fnv 137, fnv 138, fnv 139, fnv 140]
/-- The call answers the table, in a new block. -/
def TabF (w : World) (e : Ending) (w' : World) : Prop := ∃ g, e = .returned (.slice (some ⟨g, 0, none⟩) 12 12) ∧ Blk w' g fnc 190 ∧ w.heap.size ≤ g ∧ Below w.heap.size w w'
set_option maxRecDepth 100000 in
set_option maxHeartbeats 4000000 in
theorem effects_any (w : World) : Calls Tryz.prog 109 #[] w (TabF w) := by
  go_enter Tryz.func109, Tryz.ntmps109
  go_wp2
  go_ret
  exact ⟨_, rfl, heap_alloc_new w _, Nat.le_refl _, (Below.refl _ _).alloc (Nat.le_refl _) _⟩
set_option maxRecDepth 100000 in
set_option maxHeartbeats 4000000 in
theorem tnNothing_any (a b g : Nat) (o : Or) (r : Rm) (w : World) (h : TnP a b g w r (noR o 0) []) (hk : oK o = 0) :
    Calls Tryz.prog 129 #[.pointer (some ⟨g, 0, none⟩), .agg (orc o).toArray] w (TnQ a b g (doneR r o).1 (ofR o (doneR r o).2.1) (doneR r o).2.2 w) := by
  obtain ⟨vN, vS, vW, vL, nv, vC, hX, hF, hC, hbg⟩ := h
  have HT := Lib.hid (show TnP a b g w r (noR o 0) [] from ⟨vN, vS, vW, vL, nv, vC, hX, hF, hC, hbg⟩)
  have hlt := hX.lt
  clear hX hF hC
  go_enter Tryz.func129, Tryz.ntmps129
  go_wp2_with (refine wpList_box_blk rfl 35 _ rfl (orc o) rfl ?_)
  intro w1 b1 b2 b3
  have hbO : b ≤ w.heap.size := by omega
  have E1 := Lib.hid (Kp.of b3 hbO)
  have HT1 := Lib.hid (HT.out.keep b3 hbO)
  clear b1 b2 b3 HT
  go_wp2
  refine ⟨rfl, _, results_none rfl _ _ _, ⟨_, rfl⟩, ?_, E1.out⟩
  rw [done0 r o hk]
  exact HT1.out
/-- Each kind has its effect. -/
theorem kind_fn (o : Or) (k : Nat) (hk : oK o = k) (hk2 : k < 12) (hi : fitI (oS o)) :
    ∃ f, fnc[k]? = some (fnv f) ∧ (∀ args w, (callFunc f args).run Tryz.prog w = .ok (.enter f args) w) ∧ ∀ (a b g : Nat) (r : Rm) (w : World), RightR r → TnP a b g w r (noR o 0) [] →
      Calls Tryz.prog f #[.pointer (some ⟨g, 0, none⟩), .agg (orc o).toArray] w (TnQ a b g (doneR r o).1 (ofR o (doneR r o).2.1) (doneR r o).2.2 w) := by
  match k, hk2 with
  | 0, _ => exact ⟨_, rfl, fun args w => enters_of Tryz.func129 (by kernel_rfl) rfl args w, fun a b g r w _ h => tnNothing_any a b g o r w h hk⟩
  | 1, _ => exact ⟨_, rfl, fun args w => enters_of Tryz.func130 (by kernel_rfl) rfl args w, fun a b g r w hR h => tnCreate_any a b g o r w hR h hi hk⟩
  | 2, _ => exact ⟨_, rfl, fun args w => enters_of Tryz.func131 (by kernel_rfl) rfl args w, fun a b g r w hR h => tnGet_any a b g o r w hR h hi hk⟩
  | 3, _ => exact ⟨_, rfl, fun args w => enters_of Tryz.func132 (by kernel_rfl) rfl args w, fun a b g r w hR h => tnSet_any a b g o r w hR h hi hk⟩
  | 4, _ => exact ⟨_, rfl, fun args w => enters_of Tryz.func133 (by kernel_rfl) rfl args w, fun a b g r w hR h => tnDelete_any a b g o r w hR h hi hk⟩
  | 5, _ => exact ⟨_, rfl, fun args w => enters_of Tryz.func134 (by kernel_rfl) rfl args w, fun a b g r w hR h => tnList_any a b g o r w hR h hi hk⟩
  | 6, _ => exact ⟨_, rfl, fun args w => enters_of Tryz.func135 (by kernel_rfl) rfl args w, fun a b g r w hR h => tnOpen_any a b g o r w hR h hi hk⟩
  | 7, _ => exact ⟨_, rfl, fun args w => enters_of Tryz.func136 (by kernel_rfl) rfl args w, fun a b g r w hR h => tnTouch_any a b g o r w hR h hi hk⟩
  | 8, _ => exact ⟨_, rfl, fun args w => enters_of Tryz.func137 (by kernel_rfl) rfl args w, fun a b g r w hR h => tnClose_any a b g o r w hR h hi hk⟩
  | 9, _ => exact ⟨_, rfl, fun args w => enters_of Tryz.func138 (by kernel_rfl) rfl args w, fun a b g r w hR h => tnTick_any a b g o r w hR h hi hk⟩
  | 10, _ => exact ⟨_, rfl, fun args w => enters_of Tryz.func139 (by kernel_rfl) rfl args w, fun a b g r w hR h => tnWatch_any a b g o r w hR h hi hk⟩
  | 11, _ => exact ⟨_, rfl, fun args w => enters_of Tryz.func140 (by kernel_rfl) rfl args w, fun a b g r w hR h => tnWatchKids_any a b g o r w hR h hi hk⟩
theorem done_few (r : Rm) (o : Or) (h : RightR r) : (doneR r o).2.2.length ≤ 200 := by
  have hN := h.n.few
  have hd : ∀ ids, (dropsR (mN r) ids).2.length ≤ 200 := fun ids => by
    have := drops_len ids (mN r)
    omega
  have hif : ∀ (P : Prop) [Decidable P] (c : Ch), (if P then [c] else []).length ≤ 200 := fun P _ c => by split <;> simp
  have key : ∀ x, doneR r o = x → x.2.2.length ≤ 200 := by
    intro x hx
    unfold doneR at hx
    by_cases k : oK o = 1
    · rw [if_pos k] at hx
      by_cases k2 : noLease r o = true
      · rw [if_pos k2] at hx
        subst hx
        first | exact hd _ | exact Nat.zero_le _
      · rw [if_neg k2] at hx
        subst hx
        first | exact hif _ _ | exact Nat.zero_le _
    rw [if_neg k] at hx
    clear k
    by_cases k : oK o = 2
    · rw [if_pos k] at hx
      subst hx
      first | exact hif _ _ | exact Nat.zero_le _
    rw [if_neg k] at hx
    clear k
    by_cases k : oK o = 3
    · rw [if_pos k] at hx
      subst hx
      first | exact hif _ _ | exact Nat.zero_le _
    rw [if_neg k] at hx
    clear k
    by_cases k : oK o = 4
    · rw [if_pos k] at hx
      subst hx
      first | exact hif _ _ | exact Nat.zero_le _
    rw [if_neg k] at hx
    clear k
    by_cases k : oK o = 5
    · rw [if_pos k] at hx
      subst hx
      first | exact hif _ _ | exact Nat.zero_le _
    rw [if_neg k] at hx
    clear k
    by_cases k : oK o = 6
    · rw [if_pos k] at hx
      subst hx
      first | exact hif _ _ | exact Nat.zero_le _
    rw [if_neg k] at hx
    clear k
    by_cases k : oK o = 7
    · rw [if_pos k] at hx
      subst hx
      first | exact hif _ _ | exact Nat.zero_le _
    rw [if_neg k] at hx
    clear k
    by_cases k : oK o = 8
    · rw [if_pos k] at hx
      by_cases k2 : leaseE (mS r) (oS o) = 0
      · rw [if_pos k2] at hx
        subst hx
        first | exact hd _ | exact Nat.zero_le _
      · rw [if_neg k2] at hx
        subst hx
        first | exact hif _ _ | exact Nat.zero_le _
    rw [if_neg k] at hx
    clear k
    by_cases k : oK o = 9
    · rw [if_pos k] at hx
      by_cases k2 : tickE (mT r) (oT o) = 0
      · rw [if_pos k2] at hx
        subst hx
        first | exact hd _ | exact Nat.zero_le _
      · rw [if_neg k2] at hx
        subst hx
        first | exact hif _ _ | exact Nat.zero_le _
    rw [if_neg k] at hx
    clear k
    by_cases k : oK o = 10 ∨ oK o = 11
    · rw [if_pos k] at hx
      subst hx
      first | exact hif _ _ | exact Nat.zero_le _
    rw [if_neg k] at hx
    clear k
    subst hx
    exact Nat.zero_le _
  exact key _ rfl
end Go.Proofs.YtdihngkdhanhkaaGreatDoor
