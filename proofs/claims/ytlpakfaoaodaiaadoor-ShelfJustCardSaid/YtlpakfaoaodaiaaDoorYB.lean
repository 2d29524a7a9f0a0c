/-
  The statements on paths: alive, PathTwo.
  The statements on paths: PathOrder.
  Plain facts on paths: what is joined is a path, below, and its parent the path it was joined to.
-/
import Derived.Test.YtlpakfaoaodaiaaDoorQA
namespace Go.Proofs.YtlpakfaoaodaiaaDoor
open Go.RowKit

theorem live_ab : parentS [47, 97, 47, 98] = [47, 97] ∧ parentE [47, 97, 47, 98] = 0 := by decide +kernel
theorem live_root : parentS [47] = [] ∧ parentE [47] = 6 := by decide +kernel
theorem live_right : rightB [47] = true ∧ rightB [97] = false := by decide +kernel
theorem live_ahead : aheadB [47, 97, 47, 98] [47, 97, 45, 98] = true := by decide +kernel

end Go.Proofs.YtlpakfaoaodaiaaDoor

namespace Go.Proofs.YtlpakfaoaodaiaaDoor
open Go.RowKit

theorem ahead_self (p : List UInt8) : aheadB p p = false := by unfold aheadB; rw [aheadL_irrefl]; simp
theorem ahead_or (p q : List UInt8) (hp : rightB p = true) (hq : rightB q = true) (h : p ≠ q) : aheadB q p = !aheadB p q := by
  rw [aheadB_yes p q hp hq, aheadB_yes q p hq hp]
  exact aheadL_or _ _ (fun e => h (cut_inj p q (right_slash p hp) (right_slash q hq) e.symm))
theorem ahead_trans (p q r : List UInt8) (h : aheadB p q = true) (h2 : aheadB q r = true) : aheadB p r = true := by
  unfold aheadB at *
  simp only [Bool.and_eq_true] at *
  exact ⟨⟨h.1.1, h2.1.2⟩, aheadL_trans _ _ _ h.2 h2.2⟩
theorem below_ahead (p q : List UInt8) (h : belowB p q = true) : aheadB p q = true := by
  unfold aheadB belowB at *
  simp only [Bool.and_eq_true] at *
  exact ⟨h.1, belowL_ahead _ _ h.2⟩
theorem below_between (p q r : List UInt8) (h : aheadB p q = true) (h2 : aheadB q r = true) (h3 : belowB p r = true) : belowB p q = true := by
  unfold aheadB belowB at *
  simp only [Bool.and_eq_true] at *
  exact ⟨h.1, belowL_between _ _ _ h.2 h2.2 h3.2⟩

end Go.Proofs.YtlpakfaoaodaiaaDoor

namespace Go.Proofs.YtlpakfaoaodaiaaDoor
open Go.RowKit

theorem nameB_parts (x : List UInt8) (h : nameB x = true) : x.all chrB = true ∧ x ≠ [] := by
  unfold nameB at h
  simp only [Bool.and_eq_true, decide_eq_true_eq] at h
  refine ⟨h.1.1, ?_⟩
  rintro rfl
  simp at h
theorem slash_made (l : List (List UInt8)) : slashB (madeL l) = true := by
  unfold madeL
  cases l with
  | nil => rfl
  | cons x l => rw [joinL_cons]; rfl
theorem made_len (l : List (List UInt8)) (h : (joinL l).length ≤ 100) : (madeL l).length ≤ 100 := by
  unfold madeL
  split
  · decide
  · exact h
theorem cut_made (l : List (List UInt8)) (h : l.all nameB = true) : cutL (madeL l) = l := by
  rw [List.all_eq_true] at h
  exact cutL_made l (fun y hy => (nameB_parts y (h y hy)).1) (fun y hy => (nameB_parts y (h y hy)).2)
theorem right_made (l : List (List UInt8)) (h : l.all nameB = true) (h8 : l.length ≤ 8) (h100 : (joinL l).length ≤ 100) : rightB (madeL l) = true := by
  unfold rightB
  rw [cut_made l h, h, slash_made]
  have h1 := made_len l h100
  simp [h1, h8]
theorem all_take (l : List (List UInt8)) (k : Nat) (h : l.all nameB = true) : (l.take k).all nameB = true := by
  rw [List.all_eq_true] at *
  exact fun x hx => h x (List.mem_of_mem_take hx)
theorem take_next (l : List (List UInt8)) (i : Nat) (hi : i < l.length) (x : List UInt8) (hx : l.getD i [] = x) : l.take (i + 1) = l.take i ++ [x] ∧ x ∈ l := by
  have e : l[i]? = some x := by
    rw [List.getElem?_eq_getElem hi]
    congr 1
    rw [← hx, List.getD_eq_getElem?_getD, List.getElem?_eq_getElem hi]
    rfl
  refine ⟨by rw [List.take_add_one, e]; rfl, List.mem_of_getElem? e⟩
/-- The first i names of a path, made a path: what comes of it with the next name. -/
theorem step_made (p : List UInt8) (hp : rightB p = true) (i : Nat) (hi : i < (cutL p).length) (x : List UInt8) (hx : (cutL p).getD i [] = x) :
    nameB x = true ∧ joinS (madeL ((cutL p).take i)) x = madeL ((cutL p).take (i + 1)) ∧ joinE (madeL ((cutL p).take i)) x = 0 ∧ belowB (madeL ((cutL p).take i)) (madeL ((cutL p).take (i + 1))) = true := by
  obtain ⟨h100, hall, hs, h8⟩ := rightB_len p hp
  obtain ⟨ht, hm⟩ := take_next _ i hi x hx
  have hj := joinL_cut p
  have R : ∀ k, rightB (madeL ((cutL p).take k)) = true ∧ cutL (madeL ((cutL p).take k)) = (cutL p).take k := fun k =>
    ⟨right_made _ (all_take _ _ hall) (by simp; omega) (Nat.le_trans (joinL_take _ _) (by omega)), cut_made _ (all_take _ _ hall)⟩
  have hn : nameB x = true := (List.all_eq_true.1 hall) x hm
  have hJ : joinP (madeL ((cutL p).take i)) x = madeL ((cutL p).take (i + 1)) := by unfold joinP; rw [(R i).2, ht]
  have hok : joinOk (madeL ((cutL p).take i)) x = true := by unfold joinOk; rw [hJ, (R i).1, hn, (R (i + 1)).1]; rfl
  obtain ⟨j1, j2⟩ := join_yes _ _ hok
  refine ⟨hn, by rw [j1, hJ], j2, ?_⟩
  unfold belowB
  rw [(R i).1, (R (i + 1)).1, (R i).2, (R (i + 1)).2, ht, belowL_snoc]
  rfl
/-- What is joined: its parent, below, a path. -/
theorem joined (p nm : List UInt8) (h : joinOk p nm = true) : joinE p nm = 0 ∧ parentS (joinS p nm) = p ∧ parentE (joinS p nm) = 0 ∧ belowB p (joinS p nm) = true ∧ rightB (joinS p nm) = true ∧ nameB nm = true := by
  obtain ⟨j1, j2⟩ := join_yes p nm h
  unfold joinOk at h
  simp only [Bool.and_eq_true] at h
  obtain ⟨⟨hp, hn⟩, hq⟩ := h
  obtain ⟨h100, hall, hs, h8⟩ := rightB_len p hp
  have hc : cutL (joinP p nm) = cutL p ++ [nm] := cut_made _ (by rw [List.all_append, hall]; simp [hn])
  have hne : cutL (joinP p nm) ≠ [] := by rw [hc]; simp
  obtain ⟨p1, p2⟩ := parent_yes _ hq hne
  rw [j1]
  refine ⟨j2, ?_, p2, ?_, hq, hn⟩
  · rw [p1, hc]
    simp [made_cut p hs]
  · unfold belowB
    rw [hp, hq, hc, belowL_snoc]
    rfl
end Go.Proofs.YtlpakfaoaodaiaaDoor
