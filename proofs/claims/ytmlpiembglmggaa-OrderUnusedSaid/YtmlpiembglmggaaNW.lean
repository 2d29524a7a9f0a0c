/-
  Orders and replies taken part by part, in plain terms. Each theorem states its own conditions.
-/
import Derived.Test.YtmlpiembglmggaaNV
namespace Go.Proofs.Ytmlpiembglmggaa
open Go.RowKit

def numsOf : Nat → List UInt8 × Nat → List Int × List UInt8 × Nat
  | 0, s => ([], s)
  | k + 1, s => ((stN s).1 :: (numsOf k (stN s).2).1, (numsOf k (stN s).2).2)
theorem stN_err {l : List UInt8} {f : Nat} (h : f ≠ 0) : stN (l, f) = (0, l, f) := by
  unfold stN
  rw [if_neg h]
theorem numsOf_err (k : Nat) (l : List UInt8) (f : Nat) (h : f ≠ 0) : (numsOf k (l, f)).2 = (l, f) := by
  induction k with
  | zero => rfl
  | succ k ih => rw [numsOf, stN_err h]; exact ih
theorem nums_bad (k : Nat) : ∀ l : List UInt8, (takeIs k l).2.2 ≠ 0 → (numsOf k (l, 0)).2.2 = (takeIs k l).2.2 := by
  induction k with
  | zero => intro l h; exact absurd rfl h
  | succ k ih =>
    intro l h
    rw [numsOf]
    have e : stN (l, 0) = (zag (takeN l).1, (takeN l).2) := by unfold stN; rw [if_pos rfl]
    rw [e]
    show (numsOf k (takeN l).2).2.2 = _
    obtain ⟨n, r, f, hT⟩ : ∃ a b c, takeN l = (a, b, c) := ⟨_, _, _, rfl⟩
    unfold takeIs at h ⊢
    rw [hT] at h ⊢
    dsimp only at h ⊢
    by_cases hf : f = 0
    · subst hf
      rw [if_neg (by simp)] at h ⊢
      by_cases h2 : (takeIs k r).2.2 = 0
      · rw [if_neg (by simpa using h2)] at h
        exact absurd rfl h
      · rw [if_pos h2]
        exact ih r h2
    · rw [if_pos hf, numsOf_err k r f hf]
theorem nums_good (k : Nat) : ∀ l : List UInt8, (takeIs k l).2.2 = 0 → numsOf k (l, 0) = takeIs k l := by
  induction k with
  | zero => intro l _; rfl
  | succ k ih =>
    intro l h
    rw [numsOf]
    have e : stN (l, 0) = (zag (takeN l).1, (takeN l).2) := by unfold stN; rw [if_pos rfl]
    rw [e]
    dsimp only
    obtain ⟨n, r, f, hT⟩ : ∃ a b c, takeN l = (a, b, c) := ⟨_, _, _, rfl⟩
    unfold takeIs at h ⊢
    rw [hT] at h ⊢
    dsimp only at h ⊢
    by_cases hf : f = 0
    · subst hf
      rw [if_neg (by simp)] at h ⊢
      by_cases h2 : (takeIs k r).2.2 = 0
      · have e2 : (takeIs k r).2 = ((takeIs k r).2.1, 0) := by rw [← h2]
        rw [if_neg (by simpa using h2), ih r h2, e2]
      · rw [if_pos h2] at h
        exact absurd h h2
    · rw [if_pos hf] at h
      exact absurd h hf
theorem stS_err {l : List UInt8} {f : Nat} (m : Int) (h : f ≠ 0) : stS m (l, f) = ([], l, f) := by
  unfold stS
  rw [if_neg h]
theorem stS_ok (l : List UInt8) (m : Int) : stS m (l, 0) = takeS l m := by
  unfold stS
  rw [if_pos rfl]
theorem stL_err {l : List UInt8} {f : Nat} (k m : Int) (h : f ≠ 0) : stL k m (l, f) = ([], l, f) := by
  unfold stL
  rw [if_neg h]
theorem stL_ok (l : List UInt8) (k m : Int) : stL k m (l, 0) = takeL l k m := by
  unfold stL
  rw [if_pos rfl]
/-- The order is what the parts say. -/
theorem takeO_st (l : List UInt8) {ns : List Int} {s6 s7 s8 : List UInt8 × Nat} {p q : List UInt8} (h6 : numsOf 6 (l, 0) = (ns, s6)) (h7 : stS 100 s6 = (p, s7)) (h8 : stS 1000 s7 = (q, s8)) :
    takeO l = if s8.2 ≠ 0 then (or0, [], s8.2) else if mayO (ofTaken ns p q) = true then (ofTaken ns p q, s8.1, 0) else (or0, [], 3) := by
  obtain ⟨r6, f6⟩ := s6
  obtain ⟨r7, f7⟩ := s7
  obtain ⟨r8, f8⟩ := s8
  by_cases e6 : (takeIs 6 l).2.2 = 0
  · have h := nums_good 6 l e6
    rw [h6] at h
    rw [← h] at e6
    dsimp only at e6
    subst e6
    rw [stS_ok] at h7
    by_cases e7 : f7 = 0
    · subst e7
      rw [stS_ok] at h8
      by_cases e8 : f8 = 0
      · subst e8
        rw [if_neg (by simp)]
        exact takeO_4 h.symm h7 h8
      · rw [if_pos e8]
        exact takeO_3 h.symm h7 h8 e8
    · rw [stS_err _ e7] at h8
      injection h8 with _ h8
      injection h8 with _ h8
      subst h8
      rw [if_pos e7]
      exact takeO_2 h.symm h7 e7
  · have h := nums_bad 6 l e6
    rw [h6] at h
    dsimp only at h
    have e6' : f6 ≠ 0 := by rw [h]; exact e6
    rw [stS_err _ e6'] at h7
    injection h7 with _ h7
    injection h7 with _ h7
    subst h7
    rw [stS_err _ e6'] at h8
    injection h8 with _ h8
    injection h8 with _ h8
    subst h8
    rw [if_pos e6', h]
    exact takeO_1 (l := l) (ns := (takeIs 6 l).1) (r1 := (takeIs 6 l).2.1) rfl e6
theorem takeR_st (l : List UInt8) {ns : List Int} {s4 s5 s6 : List UInt8 × Nat} {p : List UInt8} {q : List ByteArray} (h4 : numsOf 4 (l, 0) = (ns, s4)) (h5 : stS 1000 s4 = (p, s5)) (h6 : stL 200 1000 s5 = (q, s6)) :
    takeR l = if s6.2 ≠ 0 then (rp0, [], s6.2) else if ns.getD 2 0 < 0 ∨ 16 < ns.getD 2 0 then (rp0, [], 3) else (rpTaken ns p q, s6.1, 0) := by
  obtain ⟨r4, f4⟩ := s4
  obtain ⟨r5, f5⟩ := s5
  obtain ⟨r6, f6⟩ := s6
  unfold takeR
  by_cases e4 : (takeIs 4 l).2.2 = 0
  · have h := nums_good 4 l e4
    rw [h4] at h
    rw [← h] at e4
    dsimp only at e4
    subst e4
    rw [← h]
    dsimp only
    rw [stS_ok] at h5
    rw [h5]
    dsimp only
    rw [if_neg (by simp)]
    by_cases e5 : f5 = 0
    · subst e5
      rw [stL_ok] at h6
      rw [h6]
      rw [if_neg (by simp)]
    · rw [stL_err _ _ e5] at h6
      injection h6 with _ h6
      injection h6 with _ h6
      subst h6
      rw [if_pos e5, if_pos e5]
  · have h := nums_bad 4 l e4
    rw [h4] at h
    dsimp only at h
    have e4' : f4 ≠ 0 := by rw [h]; exact e4
    rw [stS_err _ e4'] at h5
    injection h5 with _ h5
    injection h5 with _ h5
    subst h5
    rw [stL_err _ _ e4'] at h6
    injection h6 with _ h6
    injection h6 with _ h6
    subst h6
    rw [if_pos e4, if_pos e4', h]
theorem stN_len (s : List UInt8 × Nat) : (stN s).2.1.length ≤ s.1.length := by
  unfold stN
  split
  · exact takeN_rest s.1
  · exact Nat.le_refl _
theorem stS_len (m : Int) (s : List UInt8 × Nat) : (stS m s).2.1.length ≤ s.1.length := by
  unfold stS
  split
  · exact takeS_rest s.1 m
  · exact Nat.le_refl _
end Go.Proofs.Ytmlpiembglmggaa
