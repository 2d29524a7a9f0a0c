/-
  Frames one behind the other, in plain terms: what is found. Each theorem states its own conditions.
-/
import Derived.Test.YteckenlbelgknaaC1
namespace Go.Proofs.Yteckenlbelgknaa

/-- The frames ahead, and how many bytes are left behind them. -/
def scanN : Nat → List UInt8 → List (List UInt8) × Nat
  | 0, b => ([], b.length)
  | f + 1, b => if (takeC b).2.2 ≠ 0 then ([], b.length) else ((takeC b).1 :: (scanN f (takeC b).2.1).1, (scanN f (takeC b).2.1).2)
def scanC (b : List UInt8) : List (List UInt8) × Nat := ((scanN b.length b).1, b.length - (scanN b.length b).2)
theorem takeC_less (b : List UInt8) (h : (takeC b).2.2 = 0) : (takeC b).2.1.length < b.length := by
  cases b with
  | nil => simp [takeC] at h
  | cons x t =>
    rw [takeC] at h ⊢
    split at h
    · simp at h
    rename_i h1
    rw [if_neg h1]
    split at h
    · simp at h
      omega
    rename_i h2
    rw [if_neg h2]
    split at h
    · simp at h
    rename_i h3
    rw [if_neg h3]
    split at h
    · simp at h
    rename_i h4
    rw [if_neg h4]
    split at h
    · simp at h
    rename_i h5
    rw [if_neg h5]
    have h6 : takeN t = ((takeN t).1, (takeN t).2.1, 0) := by
      have : (takeN t).2.2 = 0 := by omega
      rw [← this]
    have h7 := congrArg List.length (takeN_only _ _ _ h6).1
    rw [List.length_append] at h7
    show ((takeN t).2.1.drop ((takeN t).1 + 4)).length < (x :: t).length
    rw [List.length_drop, List.length_cons]
    omega
theorem scanN_fuel : ∀ (f g : Nat) (b : List UInt8), b.length ≤ f → b.length ≤ g → scanN f b = scanN g b
  | 0, 0, _, _, _ => rfl
  | 0, g + 1, b, h, _ => by
    have e : b = [] := List.eq_nil_of_length_eq_zero (by omega)
    subst e
    simp [scanN, takeC]
  | f + 1, 0, b, _, h => by
    have e : b = [] := List.eq_nil_of_length_eq_zero (by omega)
    subst e
    simp [scanN, takeC]
  | f + 1, g + 1, b, hf, hg => by
    unfold scanN
    by_cases h : (takeC b).2.2 = 0
    · have := takeC_less b h
      rw [if_neg (by omega), if_neg (by omega), scanN_fuel f g _ (by omega) (by omega)]
    · rw [if_pos h, if_pos h]
theorem scanN_left : ∀ (f : Nat) (b : List UInt8), (scanN f b).2 ≤ b.length
  | 0, _ => Nat.le_refl _
  | f + 1, b => by
    unfold scanN
    by_cases h : (takeC b).2.2 = 0
    · rw [if_neg (by omega)]
      have := takeC_less b h
      have := scanN_left f (takeC b).2.1
      show (scanN f (takeC b).2.1).2 ≤ b.length
      omega
    · rw [if_pos h]
      exact Nat.le_refl _
theorem scanC_no (b : List UInt8) (h : (takeC b).2.2 ≠ 0) : scanC b = ([], 0) := by
  unfold scanC
  cases hb : b.length with
  | zero => simp [scanN, hb]
  | succ n =>
    unfold scanN
    rw [if_pos h]
    simp [hb]
theorem scanC_yes (b : List UInt8) (h : (takeC b).2.2 = 0) : scanC b = ((takeC b).1 :: (scanC (takeC b).2.1).1, b.length - (takeC b).2.1.length + (scanC (takeC b).2.1).2) := by
  have hl := takeC_less b h
  obtain ⟨n, hn⟩ : ∃ n, b.length = n + 1 := ⟨b.length - 1, by omega⟩
  have e : scanN b.length b = ((takeC b).1 :: (scanN n (takeC b).2.1).1, (scanN n (takeC b).2.1).2) := by
    rw [hn, scanN, if_neg (by omega)]
  have e2 := scanN_fuel n (takeC b).2.1.length (takeC b).2.1 (by omega) (Nat.le_refl _)
  have h3 := scanN_left (takeC b).2.1.length (takeC b).2.1
  unfold scanC
  rw [e, e2]
  refine Prod.ext rfl ?_
  show b.length - _ = _
  omega
theorem scan_frame (d r : List UInt8) (h : d.length ≤ 100000) : scanC (frameC d ++ r) = (d :: (scanC r).1, (frameC d).length + (scanC r).2) := by
  have e := takeC_frame d r h
  rw [scanC_yes _ (by rw [e]), e]
  refine Prod.ext rfl ?_
  show (frameC d ++ r).length - r.length + (scanC r).2 = _
  rw [List.length_append]
  omega
/-- Frames, one behind the other. -/
def framesC (l : List (List UInt8)) : List UInt8 := l.flatMap frameC
theorem scan_frames (r : List UInt8) : ∀ l : List (List UInt8), (∀ d ∈ l, d.length ≤ 100000) → scanC (framesC l ++ r) = (l ++ (scanC r).1, (framesC l).length + (scanC r).2)
  | [], _ => by simp [framesC]
  | d :: l, h => by
    have e : framesC (d :: l) ++ r = frameC d ++ (framesC l ++ r) := by simp [framesC, List.append_assoc]
    rw [e, scan_frame d _ (h d (by simp)), scan_frames r l (fun x hx => h x (List.mem_cons_of_mem _ hx))]
    refine Prod.ext rfl ?_
    simp [framesC]
    omega
theorem frames_snoc (l : List (List UInt8)) (d : List UInt8) : framesC (l ++ [d]) = framesC l ++ frameC d := by simp [framesC]
/-- Frames with a part of a further one behind them. -/
theorem scan_cut (l : List (List UInt8)) (d : List UInt8) (k : Nat) (hl : ∀ x ∈ l, x.length ≤ 100000) (hd : d.length ≤ 100000) (hk : k < (frameC d).length) : scanC (framesC l ++ (frameC d).take k) = (l, (framesC l).length) := by
  rw [scan_frames _ l hl, scanC_no _ (takeC_cut d k hk hd)]
  simp
/-- Frames, one of which is spoilt. -/
theorem scan_spoilt (l : List (List UInt8)) (d r a c : List UInt8) (x y : UInt8) (hl : ∀ x ∈ l, x.length ≤ 100000) (h : d.length ≤ 100000) (hf : frameC d = a ++ x :: c) (hxy : x ≠ y) (hp : a = [] ∨ 1 + (enc d.length).length ≤ a.length) : scanC (framesC l ++ ((a ++ y :: c) ++ r)) = (l, (framesC l).length) := by
  rw [scan_frames _ l hl, scanC_no _ (takeC_spoilt d r a c x y h hf hxy hp)]
  simp
end Go.Proofs.Yteckenlbelgknaa
