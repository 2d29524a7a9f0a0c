/-
  Plain facts on the encodings: what was encoded is taken as it was, what is taken has no other encoding, and where a limit is passed the error is 'large'. Each theorem states its own conditions.
-/
import Derived.Test.YtibapagfpadiiaaA9
namespace Go.Proofs.Ytibapagfpadiiaa
open Go.RowKit
set_option linter.unusedVariables false

theorem zag_zig (n : Int) : zag (zig n).toNat = n := by
  unfold zag zig
  by_cases h : n < 0
  · rw [if_pos h, if_pos (by omega)]; omega
  · rw [if_neg h, if_neg (by omega)]; omega

theorem zig_bound (n : Int) (h0 : -9223372036854775808 ≤ n) (h1 : n ≤ 9223372036854775807) : (zig n).toNat < 18446744073709551616 := by
  unfold zig
  split <;> omega

theorem zig_zag (u : Nat) : (zig (zag u)).toNat = u := by
  unfold zag zig
  by_cases h : u % 2 = 1
  · rw [if_pos h, if_pos (by omega)]; omega
  · rw [if_neg h, if_neg (by omega)]; omega

theorem ba_eq (s : ByteArray) : (⟨s.data.toList.toArray⟩ : ByteArray) = s := by simp

theorem takeS_enc (s : ByteArray) (r : List UInt8) (m : Int) (hs : s.size < 18446744073709551616) (hm : (s.size : Int) ≤ max m 0) : takeS (encS s ++ r) m = (s.data.toList, r, 0) := by
  have hl : s.data.toList.length = s.size := by simp
  have h : takeN (encS s ++ r) = (s.size, s.data.toList ++ r, 0) := by
    unfold encS
    rw [List.append_assoc]
    exact takeN_enc s.size hs _
  rw [takeS_ok h hm (by rw [List.length_append]; omega)]
  have e1 : (s.data.toList ++ r).take s.size = s.data.toList := by rw [List.take_append_of_le_length (by omega), List.take_of_length_le (by omega)]
  have e2 : (s.data.toList ++ r).drop s.size = r := by rw [List.drop_append_of_le_length (by omega), List.drop_of_length_le (by omega), List.nil_append]
  rw [e1, e2]

theorem takeS_big (s : ByteArray) (r : List UInt8) (m : Int) (hs : s.size < 18446744073709551616) (hm : max m 0 < (s.size : Int)) : takeS (encS s ++ r) m = ([], [], 5) := by
  have h : takeN (encS s ++ r) = (s.size, s.data.toList ++ r, 0) := by
    unfold encS
    rw [List.append_assoc]
    exact takeN_enc s.size hs _
  exact takeS_large h hm

theorem takeK_enc (ss : List ByteArray) (r : List UInt8) (m : Int) (h : ∀ s ∈ ss, s.size < 18446744073709551616 ∧ (s.size : Int) ≤ max m 0) : takeK ss.length (encs ss ++ r) m = (ss, r, 0) := by
  induction ss with
  | nil => rfl
  | cons s ss ih =>
    have h1 := h s (by simp)
    have e : takeS (encs (s :: ss) ++ r) m = (s.data.toList, encs ss ++ r, 0) := by
      rw [encs, List.append_assoc]
      exact takeS_enc s _ m h1.1 h1.2
    rw [List.length_cons, takeK, e]
    simp only [ne_eq, not_true_eq_false, if_false]
    rw [ih (fun t ht => h t (by simp [ht]))]
    simp

theorem takeK_big (ss : List ByteArray) (r : List UInt8) (m : Int) (h : ∀ s ∈ ss, s.size < 18446744073709551616) (hb : ∃ s ∈ ss, max m 0 < (s.size : Int)) : takeK ss.length (encs ss ++ r) m = ([], [], 5) := by
  induction ss with
  | nil => obtain ⟨s, hs, _⟩ := hb; cases hs
  | cons s ss ih =>
    have h1 := h s (by simp)
    by_cases hs : max m 0 < (s.size : Int)
    · have e : takeS (encs (s :: ss) ++ r) m = ([], [], 5) := by
        rw [encs, List.append_assoc]
        exact takeS_big s _ m h1 hs
      rw [List.length_cons, takeK, e]
      simp
    · have e : takeS (encs (s :: ss) ++ r) m = (s.data.toList, encs ss ++ r, 0) := by
        rw [encs, List.append_assoc]
        exact takeS_enc s _ m h1 (by omega)
      obtain ⟨t, ht, htb⟩ := hb
      have ht2 : t ∈ ss := by
        rcases List.mem_cons.1 ht with rfl | h2
        · exact absurd htb hs
        · exact h2
      rw [List.length_cons, takeK, e]
      simp only [ne_eq, not_true_eq_false, if_false]
      rw [ih (fun t ht => h t (by simp [ht])) ⟨t, ht2, htb⟩]
      simp

theorem takeL_enc (ss : List ByteArray) (r : List UInt8) (many m : Int) (hn : ss.length < 18446744073709551616) (hmany : (ss.length : Int) ≤ max many 0) (h : ∀ s ∈ ss, s.size < 18446744073709551616 ∧ (s.size : Int) ≤ max m 0) : takeL (encL ss ++ r) many m = (ss, r, 0) := by
  have e : takeN (encL ss ++ r) = (ss.length, encs ss ++ r, 0) := by
    unfold encL
    rw [List.append_assoc]
    exact takeN_enc _ hn _
  rw [takeL_ok m e hmany, takeK_enc ss r m h]

theorem takeL_many (ss : List ByteArray) (r : List UInt8) (many m : Int) (hn : ss.length < 18446744073709551616) (hmany : max many 0 < (ss.length : Int)) : takeL (encL ss ++ r) many m = ([], [], 5) := by
  have e : takeN (encL ss ++ r) = (ss.length, encs ss ++ r, 0) := by
    unfold encL
    rw [List.append_assoc]
    exact takeN_enc _ hn _
  exact takeL_large m e hmany

theorem takeL_big (ss : List ByteArray) (r : List UInt8) (many m : Int) (hn : ss.length < 18446744073709551616) (hmany : (ss.length : Int) ≤ max many 0) (h : ∀ s ∈ ss, s.size < 18446744073709551616) (hb : ∃ s ∈ ss, max m 0 < (s.size : Int)) : takeL (encL ss ++ r) many m = ([], [], 5) := by
  have e : takeN (encL ss ++ r) = (ss.length, encs ss ++ r, 0) := by
    unfold encL
    rw [List.append_assoc]
    exact takeN_enc _ hn _
  rw [takeL_ok m e hmany, takeK_big ss r m h hb]

theorem takeS_only (l s r : List UInt8) (m : Int) (h : takeS l m = (s, r, 0)) : encS ⟨s.toArray⟩ ++ r = l := by
  unfold takeS at h
  by_cases he : (takeN l).2.2 = 0
  · have h2 : takeN l = ((takeN l).1, (takeN l).2.1, 0) := by rw [← he]
    have h3 := (takeN_only l _ _ h2).1
    rw [if_neg (by simp [he])] at h
    split at h
    · simp at h
    · split at h
      · simp at h
      · rename_i hs
        injection h with h4 h5
        injection h5 with h5 _
        have hsz : (ByteArray.mk s.toArray).size = (takeN l).1 := by
          show s.toArray.size = _
          rw [← h4]
          simp
          omega
        unfold encS
        rw [hsz]
        have hd : (ByteArray.mk s.toArray).data.toList = s := by simp
        rw [hd, List.append_assoc, ← h4, ← h5, List.take_append_drop]
        exact h3
  · rw [if_pos he] at h
    injection h with h1 h2
    injection h2 with h2 h3
    exact absurd h3 he

theorem takeK_only (k : Nat) : ∀ (l : List UInt8) (ss : List ByteArray) (r : List UInt8) (m : Int), takeK k l m = (ss, r, 0) → encs ss ++ r = l ∧ ss.length = k := by
  induction k with
  | zero =>
    intro l ss r m h
    rw [takeK] at h
    injection h with h1 h2
    injection h2 with h2 _
    subst h1 h2
    exact ⟨rfl, rfl⟩
  | succ k ih =>
    intro l ss r m h
    rw [takeK] at h
    by_cases h1 : (takeS l m).2.2 = 0
    · rw [if_neg (by simp [h1])] at h
      by_cases h2 : (takeK k (takeS l m).2.1 m).2.2 = 0
      · rw [if_neg (by simp [h2])] at h
        injection h with h3 h4
        injection h4 with h4 _
        have e1 : takeS l m = ((takeS l m).1, (takeS l m).2.1, 0) := by rw [← h1]
        have e2 : takeK k (takeS l m).2.1 m = ((takeK k (takeS l m).2.1 m).1, (takeK k (takeS l m).2.1 m).2.1, 0) := by rw [← h2]
        have h5 := takeS_only _ _ _ _ e1
        have h6 := ih _ _ _ _ e2
        subst h3 h4
        refine ⟨?_, by simp [h6.2]⟩
        rw [encs, List.append_assoc, h6.1, h5]
      · rw [if_pos h2] at h
        injection h with h3 h4
        injection h4 with h4 h5
        exact absurd h5 h2
    · rw [if_pos h1] at h
      injection h with h3 h4
      injection h4 with h4 h5
      exact absurd h5 h1

theorem takeL_only (l : List UInt8) (ss : List ByteArray) (r : List UInt8) (many m : Int) (h : takeL l many m = (ss, r, 0)) : encL ss ++ r = l := by
  unfold takeL at h
  by_cases he : (takeN l).2.2 = 0
  · have h2 : takeN l = ((takeN l).1, (takeN l).2.1, 0) := by rw [← he]
    have h3 := (takeN_only l _ _ h2).1
    rw [if_neg (by simp [he])] at h
    split at h
    · simp at h
    · have h4 := takeK_only _ _ _ _ _ h
      unfold encL
      rw [h4.2, List.append_assoc, h4.1]
      exact h3
  · rw [if_pos he] at h
    injection h with h1 h2
    injection h2 with h2 h3
    exact absurd h3 he
end Go.Proofs.Ytibapagfpadiiaa
