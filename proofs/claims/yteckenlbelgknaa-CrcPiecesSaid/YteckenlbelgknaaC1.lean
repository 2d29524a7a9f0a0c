/-
  Frames in plain terms: what stands ahead of bytes, frames one behind the other; a cut off frame, a spoilt one is none. Each theorem states its own conditions.
-/
import Derived.Test.YteckenlbelgknaaPs
import Derived.Test.YteckenlbelgknaaC0
namespace Go.Proofs.Yteckenlbelgknaa

def sum4 (s : Nat) : List UInt8 := [UInt8.ofNat (s / 16777216), UInt8.ofNat (s / 65536), UInt8.ofNat (s / 256), UInt8.ofNat s]
def headC (d : List UInt8) : List UInt8 := 167 :: (enc d.length ++ d)
def frameC (d : List UInt8) : List UInt8 := headC d ++ sum4 (sumC (headC d))
def longC (n : Nat) : Nat := 1 + (1 + wid n) + n + 4
/-- The frame ahead: what is in it, what is behind, the fault. -/
def takeC : List UInt8 → List UInt8 × List UInt8 × Nat
  | [] => ([], [], 2)
  | x :: t =>
    if x ≠ 167 then ([], [], 3) else if (takeN t).2.2 ≠ 0 then ([], [], (takeN t).2.2) else if 100000 < (takeN t).1 then ([], [], 5)
    else if (takeN t).2.1.length < (takeN t).1 + 4 then ([], [], 2)
    else if sum4 (sumC ((x :: t).take ((x :: t).length - (takeN t).2.1.length + (takeN t).1))) ≠ ((takeN t).2.1.drop (takeN t).1).take 4 then ([], [], 4)
    else ((takeN t).2.1.take (takeN t).1, (takeN t).2.1.drop ((takeN t).1 + 4), 0)
theorem sum4_len (s : Nat) : (sum4 s).length = 4 := rfl
theorem sum4_inj (s t : Nat) (hs : s < 4294967296) (ht : t < 4294967296) (h : sum4 s = sum4 t) : s = t := by
  unfold sum4 at h
  simp only [List.cons.injEq, and_true] at h
  obtain ⟨h1, h2, h3, h4⟩ := h
  have e1 := congrArg UInt8.toNat h1
  have e2 := congrArg UInt8.toNat h2
  have e3 := congrArg UInt8.toNat h3
  have e4 := congrArg UInt8.toNat h4
  simp only [UInt8.toNat_ofNat'] at e1 e2 e3 e4
  omega
theorem frameC_len (d : List UInt8) : (frameC d).length = longC d.length := by
  unfold frameC headC longC
  simp [enc_length, sum4_len]
  omega
theorem takeC_enc (n : Nat) (X : List UInt8) (hn : n < 18446744073709551616) : takeC (167 :: (enc n ++ X)) =
    if 100000 < n then ([], [], 5) else if X.length < n + 4 then ([], [], 2) else if sum4 (sumC (167 :: (enc n ++ X.take n))) ≠ (X.drop n).take 4 then ([], [], 4) else (X.take n, X.drop (n + 4), 0) := by
  rw [takeC]
  rw [takeN_enc n hn X]
  dsimp only
  rw [if_neg (by simp), if_neg (by simp)]
  by_cases h1 : 100000 < n
  · rw [if_pos h1, if_pos h1]
  rw [if_neg h1, if_neg h1]
  by_cases h2 : X.length < n + 4
  · rw [if_pos h2, if_pos h2]
  rw [if_neg h2, if_neg h2]
  have e : ((167 : UInt8) :: (enc n ++ X)).take ((167 :: (enc n ++ X)).length - X.length + n) = 167 :: (enc n ++ X.take n) := by
    have hl : (167 :: (enc n ++ X)).length - X.length + n = ((enc n).length + n) + 1 := by
      simp
      omega
    rw [hl, List.take_succ_cons, List.take_length_add_append]
  rw [e]
theorem takeC_frame (d r : List UInt8) (h : d.length ≤ 100000) : takeC (frameC d ++ r) = (d, r, 0) := by
  have e : frameC d ++ r = 167 :: (enc d.length ++ (d ++ (sum4 (sumC (headC d)) ++ r))) := by
    unfold frameC headC
    simp [List.append_assoc]
  rw [e, takeC_enc _ _ (by omega), if_neg (by omega), if_neg (by simp only [List.length_append, sum4_len]; omega)]
  have e1 : (d ++ (sum4 (sumC (headC d)) ++ r)).take d.length = d := List.take_left
  have e2 : (d ++ (sum4 (sumC (headC d)) ++ r)).drop d.length = sum4 (sumC (headC d)) ++ r := List.drop_left
  have e3 : (d ++ (sum4 (sumC (headC d)) ++ r)).drop (d.length + 4) = r := by
    rw [← List.drop_drop, e2]
    rfl
  rw [e1, e2, e3, if_neg]
  intro hne
  exact hne rfl
/-- A number that is cut off is none. -/
theorem takeN_cut (n : Nat) (k : Nat) (hk : k < (enc n).length) : (takeN ((enc n).take k)).2.2 ≠ 0 := by
  intro h
  have h2 : takeN ((enc n).take k) = ((takeN ((enc n).take k)).1, (takeN ((enc n).take k)).2.1, 0) := by rw [← h]
  obtain ⟨e, hlt⟩ := takeN_only _ _ _ h2
  cases k with
  | zero => simp [takeN] at h
  | succ k =>
    have hl := congrArg List.length e
    rw [List.length_append, List.length_take, enc_length, enc_length] at hl
    rw [enc_length] at hk
    have hh := congrArg List.head? e
    have e1 : (enc n).take (k + 1) = UInt8.ofNat (wid n) :: (be (wid n) n).take k := rfl
    rw [e1] at hh
    unfold enc at hh
    simp only [List.cons_append, List.head?_cons, Option.some.injEq] at hh
    have w1 := wid_le n
    have w2 := wid_le (takeN ((enc n).take (k + 1))).1
    have hh2 := congrArg UInt8.toNat hh
    simp only [UInt8.toNat_ofNat'] at hh2
    unfold enc at w2
    simp only [e1] at hh2 hl w2
    omega
theorem takeC_cut (d : List UInt8) (k : Nat) (hk : k < (frameC d).length) (h : d.length ≤ 100000) : (takeC ((frameC d).take k)).2.2 ≠ 0 := by
  cases k with
  | zero => simp [takeC]
  | succ k =>
    have e : (frameC d).take (k + 1) = 167 :: (enc d.length ++ (d ++ sum4 (sumC (headC d)))).take k := by
      unfold frameC headC
      simp [List.append_assoc]
    rw [e]
    rw [frameC_len] at hk
    unfold longC at hk
    rcases Nat.lt_or_ge k (enc d.length).length with hlt | hge
    · have e2 : (enc d.length ++ (d ++ sum4 (sumC (headC d)))).take k = (enc d.length).take k := List.take_append_of_le_length (by omega)
      rw [e2]
      have := takeN_cut d.length k hlt
      rw [takeC]
      rw [if_neg (by simp), if_pos this]
      exact this
    · have e2 : (enc d.length ++ (d ++ sum4 (sumC (headC d)))).take k = enc d.length ++ (d ++ sum4 (sumC (headC d))).take (k - (enc d.length).length) := by
        rw [List.take_append, List.take_of_length_le hge]
      rw [enc_length] at hge
      rw [e2, takeC_enc _ _ (by omega), if_neg (by omega), if_pos (by
        rw [List.length_take, enc_length]
        omega)]
      simp
/-- A frame with another byte in the place of one, that of the number left out, is none. -/
theorem takeC_spoilt (d r : List UInt8) (a c : List UInt8) (x y : UInt8) (h : d.length ≤ 100000) (hf : frameC d = a ++ x :: c) (hxy : x ≠ y) (hp : a = [] ∨ 1 + (enc d.length).length ≤ a.length) : (takeC ((a ++ y :: c) ++ r)).2.2 ≠ 0 := by
  have hF : frameC d = 167 :: (enc d.length ++ (d ++ sum4 (sumC (headC d)))) := by
    unfold frameC headC
    simp [List.append_assoc]
  rcases hp with rfl | hp
  · rw [hF] at hf
    simp only [List.nil_append, List.cons.injEq] at hf
    obtain ⟨rfl, _⟩ := hf
    show (takeC (y :: (c ++ r))).2.2 ≠ 0
    rw [takeC]
    rw [if_pos (fun e => hxy e.symm)]
    simp
  · obtain ⟨a', rfl⟩ : ∃ a', a = (167 :: enc d.length) ++ a' := by
      refine ⟨a.drop (1 + (enc d.length).length), ?_⟩
      have h1 := congrArg (List.take (1 + (enc d.length).length)) hf
      rw [List.take_append_of_le_length hp, hF, Nat.add_comm 1, List.take_succ_cons, List.take_left] at h1
      rw [h1, Nat.add_comm 1, List.take_append_drop]
    have hX : d ++ sum4 (sumC (headC d)) = a' ++ x :: c := by
      rw [hF] at hf
      have : (167 :: enc d.length) ++ (d ++ sum4 (sumC (headC d))) = (167 :: enc d.length) ++ (a' ++ x :: c) := by
        rw [← List.append_assoc (167 :: enc d.length) a', ← hf]
        rfl
      exact List.append_cancel_left this
    have hlen := congrArg List.length hX
    simp only [List.length_append, List.length_cons, sum4_len] at hlen
    have e : ((167 :: enc d.length) ++ a' ++ y :: c) ++ r = 167 :: (enc d.length ++ ((a' ++ y :: c) ++ r)) := by simp [List.append_assoc]
    rw [e, takeC_enc _ _ (by omega), if_neg (by omega), if_neg (by simp; omega)]
    rw [if_pos]
    · simp
    intro he
    rcases Nat.lt_or_ge a'.length d.length with hlt | hge
    · obtain ⟨d2, hd2⟩ : ∃ d2, d = a' ++ x :: d2 ∧ c = d2 ++ sum4 (sumC (headC d)) := by
        have h1 := congrArg (List.take a'.length) hX
        rw [List.take_append_of_le_length (by omega), List.take_left] at h1
        have h2 : d = a' ++ d.drop a'.length := by
          have := List.take_append_drop a'.length d
          rw [h1] at this
          exact this.symm
        have h3 : d.drop a'.length ++ sum4 (sumC (headC d)) = x :: c := by
          have : a' ++ (d.drop a'.length ++ sum4 (sumC (headC d))) = a' ++ x :: c := by
            rw [← List.append_assoc, ← h2]
            exact hX
          exact List.append_cancel_left this
        cases hdd : d.drop a'.length with
        | nil =>
          have := congrArg List.length hdd
          simp at this
          omega
        | cons z d2 =>
          rw [hdd] at h3 h2
          simp only [List.cons_append, List.cons.injEq] at h3
          obtain ⟨rfl, h3⟩ := h3
          exact ⟨d2, h2, h3.symm⟩
      obtain ⟨hd, hc⟩ := hd2
      have hdl : d.length = (a' ++ y :: d2).length := by
        rw [congrArg List.length hd]
        simp
      have e1 : ((a' ++ y :: c) ++ r) = (a' ++ y :: d2) ++ (sum4 (sumC (headC d)) ++ r) := by rw [hc]; simp [List.append_assoc]
      rw [e1, hdl, List.take_left, List.drop_left] at he
      have e2 : (sum4 (sumC (headC d)) ++ r).take 4 = sum4 (sumC (headC d)) := rfl
      rw [e2, ← hdl] at he
      have l1 : sumC (167 :: (enc d.length ++ (a' ++ y :: d2))) < 4294967296 := moreC_lt _ _ (by decide)
      have l2 : sumC (headC d) < 4294967296 := moreC_lt _ _ (by decide)
      have h9 := sum4_inj _ _ l1 l2 he
      unfold sumC headC at h9
      rw [show (167 : UInt8) :: (enc d.length ++ (a' ++ y :: d2)) = ((167 :: enc d.length) ++ a') ++ y :: d2 by simp [List.append_assoc]] at h9
      rw [show (167 : UInt8) :: (enc d.length ++ d) = ((167 :: enc d.length) ++ a') ++ x :: d2 by rw [List.append_assoc, ← hd]; rfl] at h9
      exact sumC_spoilt _ _ y x 0 (by decide) (fun e => hxy e.symm) h9
    · obtain ⟨s1, hs1⟩ : ∃ s1, a' = d ++ s1 := by
        refine ⟨a'.drop d.length, ?_⟩
        have h1 := congrArg (List.take d.length) hX
        rw [List.take_left, List.take_append_of_le_length hge] at h1
        have := List.take_append_drop d.length a'
        rw [← h1] at this
        exact this.symm
      subst hs1
      have hS : sum4 (sumC (headC d)) = s1 ++ x :: c := by
        rw [List.append_assoc] at hX
        exact List.append_cancel_left hX
      have e1 : ((d ++ s1) ++ y :: c) ++ r = d ++ ((s1 ++ y :: c) ++ r) := by simp [List.append_assoc]
      rw [e1, List.take_left, List.drop_left] at he
      have hl4 : (s1 ++ y :: c).length = 4 := by
        have := congrArg List.length hS
        rw [sum4_len] at this
        simp at this ⊢
        omega
      rw [List.take_append_of_le_length (by omega), List.take_of_length_le (by omega)] at he
      rw [show (167 : UInt8) :: (enc d.length ++ d) = headC d from rfl, hS] at he
      have := List.append_cancel_left he
      simp only [List.cons.injEq, and_true] at this
      exact hxy this
end Go.Proofs.Yteckenlbelgknaa
