/-
  Plain facts on the digits of bytes, of no program: digits of the widths 1, 2, 4 and 8, the checksum of a hash and its check digits; of two hashes whose digits, check digits among them, are each at most the other's, both are the same. No condition beyond those of each line.
-/
namespace Go.Proofs.Ytejeefkoalbcmaa

/-- A width. -/
def Wd (w : Nat) : Prop := w = 1 ∨ w = 2 ∨ w = 4 ∨ w = 8
/-- Digit i of bytes. -/
def dig (l : List UInt8) (i w : Nat) : Nat := (l.getD (i / (8 / w)) 0).toNat / 2 ^ ((8 / w - 1 - i % (8 / w)) * w) % 2 ^ w
/-- The greatest digit. -/
def gr (w : Nat) : Nat := 2 ^ w - 1
/-- How many check digits. -/
def chk (w : Nat) : Nat := if w = 1 then 9 else if w = 2 then 5 else if w = 4 then 3 else 2
/-- By how many bits the sum is moved up. -/
def shf (w : Nat) : Nat := 16 - chk w * w
/-- The sum, over the first n digits, of the greatest digit minus the digit. -/
def ssum (l : List UInt8) (w : Nat) : Nat → Nat
  | 0 => 0
  | n + 1 => ssum l w n + (gr w - dig l n w)
/-- The checksum. -/
def num (l : List UInt8) (w : Nat) : Nat := ssum l w (256 / w) * 2 ^ shf w
/-- A number as two bytes. -/
def by2 (n : Nat) : List UInt8 := [UInt8.ofNat (n / 256), UInt8.ofNat n]
/-- The first n digits. -/
def digs (l : List UInt8) (w n : Nat) : List Nat := (List.range n).map fun i => dig l i w
/-- All digits. -/
def allD (l : List UInt8) (w : Nat) : List Nat := digs l w (256 / w) ++ digs (by2 (num l w)) w (chk w)

theorem dig_lt (l : List UInt8) (i w : Nat) : dig l i w < 2 ^ w := Nat.mod_lt _ (Nat.pow_pos (by omega))
theorem dig_le (l : List UInt8) (i w : Nat) : dig l i w ≤ gr w := by have := dig_lt l i w; unfold gr; omega
theorem digs_length (l : List UInt8) (w n : Nat) : (digs l w n).length = n := by simp [digs]
theorem digs_succ (l : List UInt8) (w n : Nat) : digs l w (n + 1) = digs l w n ++ [dig l n w] := by simp [digs, List.range_succ]
theorem digs_get (l : List UInt8) (w n i : Nat) (h : i < n) : (digs l w n).getD i 0 = dig l i w := by simp [digs, h]
theorem allD_length (l : List UInt8) (w : Nat) : (allD l w).length = 256 / w + chk w := by simp [allD, digs_length]
theorem allD_own (l : List UInt8) (w i : Nat) (h : i < 256 / w) : (allD l w).getD i 0 = dig l i w := by
  rw [← digs_get l w (256 / w) i h]
  unfold allD
  simp [List.getElem?_append_left, digs_length, h]
theorem allD_chk (l : List UInt8) (w i : Nat) (h : i < chk w) : (allD l w).getD (256 / w + i) 0 = dig (by2 (num l w)) i w := by
  rw [← digs_get _ w (chk w) i h]
  unfold allD
  simp [List.getElem?_append_right, digs_length]
theorem allD_lt (l : List UInt8) (w i : Nat) : (allD l w).getD i 0 < 2 ^ w := by
  have hp : 0 < 2 ^ w := Nat.pow_pos (by omega)
  by_cases h : i < 256 / w
  · rw [allD_own l w i h]; exact dig_lt _ _ _
  · obtain ⟨j, rfl⟩ : ∃ j, i = 256 / w + j := ⟨i - 256 / w, by omega⟩
    by_cases h2 : j < chk w
    · rw [allD_chk l w j h2]; exact dig_lt _ _ _
    · rw [List.getD_eq_getElem?_getD, List.getElem?_eq_none (by rw [allD_length]; omega)]; exact hp

theorem ssum_le (l : List UInt8) (w n : Nat) : ssum l w n ≤ n * gr w := by
  induction n with
  | zero => simp [ssum]
  | succ n ih => rw [ssum, Nat.succ_mul]; omega

theorem ssum_cap (l : List UInt8) (w : Nat) (hw : Wd w) : ssum l w (256 / w) < 2 ^ (chk w * w) := by
  have h := ssum_le l w (256 / w)
  rcases hw with rfl | rfl | rfl | rfl <;> simp [gr, chk] at h ⊢ <;> omega
theorem num_lt (l : List UInt8) (w : Nat) (hw : Wd w) : num l w < 65536 := by
  have h := ssum_cap l w hw
  unfold num
  rcases hw with rfl | rfl | rfl | rfl <;> simp [shf, chk] at h ⊢ <;> omega

theorem by2_at (n : Nat) (h : n < 65536) : ((by2 n).getD 0 0).toNat = n / 256 ∧ ((by2 n).getD 1 0).toNat = n % 256 := by
  simp [by2]; omega

/-- A check digit is a digit of the sum. -/
theorem dig_by2 (S i w : Nat) (hw : Wd w) (hS : S < 2 ^ (chk w * w)) (hi : i < chk w) : dig (by2 (S * 2 ^ shf w)) i w = S / (2 ^ w) ^ (chk w - 1 - i) % 2 ^ w := by
  rcases hw with rfl | rfl | rfl | rfl
  · simp [shf, chk] at hS hi ⊢
    have hb := by2_at (S * 128) (by omega)
    have : i = 0 ∨ i = 1 ∨ i = 2 ∨ i = 3 ∨ i = 4 ∨ i = 5 ∨ i = 6 ∨ i = 7 ∨ i = 8 := by omega
    unfold dig
    rcases this with rfl | rfl | rfl | rfl | rfl | rfl | rfl | rfl | rfl
    all_goals
      simp only [Nat.reduceDiv, Nat.reduceMod, Nat.reduceSub, Nat.reduceMul, Nat.reducePow, hb.1, hb.2]
      omega
  · simp [shf, chk] at hS hi ⊢
    have hb := by2_at (S * 64) (by omega)
    have : i = 0 ∨ i = 1 ∨ i = 2 ∨ i = 3 ∨ i = 4 := by omega
    unfold dig
    rcases this with rfl | rfl | rfl | rfl | rfl
    all_goals
      simp only [Nat.reduceDiv, Nat.reduceMod, Nat.reduceSub, Nat.reduceMul, Nat.reducePow, hb.1, hb.2]
      omega
  · simp [shf, chk] at hS hi ⊢
    have hb := by2_at (S * 16) (by omega)
    have : i = 0 ∨ i = 1 ∨ i = 2 := by omega
    unfold dig
    rcases this with rfl | rfl | rfl
    all_goals
      simp only [Nat.reduceDiv, Nat.reduceMod, Nat.reduceSub, Nat.reduceMul, Nat.reducePow, hb.1, hb.2]
      omega
  · simp [shf, chk] at hS hi ⊢
    have hb := by2_at S (by omega)
    have : i = 0 ∨ i = 1 := by omega
    unfold dig
    rcases this with rfl | rfl
    all_goals
      simp only [Nat.reduceDiv, Nat.reduceMod, Nat.reduceSub, Nat.reduceMul, Nat.reducePow, hb.1, hb.2]
      omega

/-- A number whose digits are each at most another's is at most the other. -/
theorem le_of_digits (B : Nat) : ∀ (m S T : Nat), S < B ^ m → T < B ^ m → (∀ j, j < m → S / B ^ j % B ≤ T / B ^ j % B) → S ≤ T := by
  intro m
  induction m with
  | zero => intro S T hS _ _; simp at hS; omega
  | succ m ih =>
    intro S T hS hT h
    have hB : 0 < B := by
      rcases Nat.eq_zero_or_pos B with h0 | h0
      · subst h0; simp at hS
      · exact h0
    have h1 : S / B ≤ T / B := ih (S / B) (T / B) ((Nat.div_lt_iff_lt_mul hB).2 (by rw [Nat.pow_succ] at hS; exact hS)) ((Nat.div_lt_iff_lt_mul hB).2 (by rw [Nat.pow_succ] at hT; exact hT)) (fun j hj => by
      have := h (j + 1) (by omega)
      rw [Nat.pow_succ, Nat.mul_comm, ← Nat.div_div_eq_div_mul, ← Nat.div_div_eq_div_mul] at this
      exact this)
    have h0 := h 0 (by omega)
    simp at h0
    have e1 := Nat.div_add_mod S B
    have e2 := Nat.div_add_mod T B
    have h2 : B * (S / B) ≤ B * (T / B) := Nat.mul_le_mul_left _ h1
    omega

/-- Bytes whose digits are each at most another's. -/
theorem byte_le (l m : List UInt8) (w k : Nat) (hw : Wd w) (h : ∀ j, j < 8 / w → dig l (k * (8 / w) + j) w ≤ dig m (k * (8 / w) + j) w) : (l.getD k 0).toNat ≤ (m.getD k 0).toNat := by
  have hl := UInt8.toNat_lt (l.getD k 0)
  have hm := UInt8.toNat_lt (m.getD k 0)
  refine le_of_digits (2 ^ w) (8 / w) _ _ ?_ ?_ (fun j hj => ?_)
  · rcases hw with rfl | rfl | rfl | rfl <;> simpa using hl
  · rcases hw with rfl | rfl | rfl | rfl <;> simpa using hm
  · have h1 := h (8 / w - 1 - j) (by omega)
    unfold dig at h1
    have e1 : (k * (8 / w) + (8 / w - 1 - j)) / (8 / w) = k := by
      rw [Nat.mul_comm, Nat.mul_add_div (by omega), Nat.div_eq_of_lt (by omega)]; omega
    have e2 : (k * (8 / w) + (8 / w - 1 - j)) % (8 / w) = 8 / w - 1 - j := by
      rw [Nat.mul_comm, Nat.mul_add_mod, Nat.mod_eq_of_lt (by omega)]
    rw [e1, e2, show 8 / w - 1 - (8 / w - 1 - j) = j by omega, Nat.mul_comm j w, Nat.pow_mul] at h1
    exact h1

theorem ssum_mono (l m : List UInt8) (w n : Nat) (h : ∀ i, i < n → dig l i w ≤ dig m i w) : ssum m w n ≤ ssum l w n ∧ (ssum l w n ≤ ssum m w n → ∀ i, i < n → dig m i w ≤ dig l i w) := by
  induction n with
  | zero => exact ⟨Nat.le_refl _, fun _ i hi => absurd hi (by omega)⟩
  | succ n ih =>
    obtain ⟨h1, h2⟩ := ih (fun i hi => h i (by omega))
    have hn := h n (by omega)
    have b1 := dig_le l n w
    have b2 := dig_le m n w
    rw [ssum, ssum]
    refine ⟨by omega, fun hle i hi => ?_⟩
    rcases Nat.lt_or_ge i n with hlt | hge
    · exact h2 (by omega) i hlt
    · obtain rfl : i = n := by omega
      omega

/-- Of two hashes whose digits are each at most the other's, both are the same. -/
theorem same_of_le (l m : List UInt8) (w : Nat) (hw : Wd w) (hl : l.length = 32) (hm : m.length = 32) (h : ∀ i, i < 256 / w + chk w → (allD l w).getD i 0 ≤ (allD m w).getD i 0) : l = m := by
  have hw0 : 0 < w ∧ 256 / w = 32 * (8 / w) := by rcases hw with rfl | rfl | rfl | rfl <;> simp
  have h1 : ∀ i, i < 256 / w → dig l i w ≤ dig m i w := fun i hi => by
    have := h i (by omega)
    rwa [allD_own l w i hi, allD_own m w i hi] at this
  have hc := ssum_mono l m w _ h1
  have hle : ssum l w (256 / w) ≤ ssum m w (256 / w) := by
    refine le_of_digits (2 ^ w) (chk w) _ _ ?_ ?_ (fun j hj => ?_)
    · rw [← Nat.pow_mul, Nat.mul_comm]; exact ssum_cap l w hw
    · rw [← Nat.pow_mul, Nat.mul_comm]; exact ssum_cap m w hw
    · have h2 := h (256 / w + (chk w - 1 - j)) (by omega)
      rw [allD_chk l w _ (by omega), allD_chk m w _ (by omega)] at h2
      unfold num at h2
      rw [dig_by2 _ _ w hw (ssum_cap l w hw) (by omega), dig_by2 _ _ w hw (ssum_cap m w hw) (by omega), show chk w - 1 - (chk w - 1 - j) = j by omega] at h2
      exact h2
  have h3 := hc.2 hle
  have key : ∀ k, k < 32 → l.getD k 0 = m.getD k 0 := fun k hk => by
    have hk2 : ∀ j, j < 8 / w → k * (8 / w) + j < 256 / w := fun j hj => by
      rw [hw0.2]
      have : k * (8 / w) + (8 / w) ≤ 32 * (8 / w) := by rw [← Nat.succ_mul]; exact Nat.mul_le_mul_right _ (by omega)
      omega
    have a := byte_le l m w k hw (fun j hj => h1 _ (hk2 j hj))
    have b := byte_le m l w k hw (fun j hj => h3 _ (hk2 j hj))
    exact UInt8.toNat_inj.1 (by omega)
  refine List.ext_getElem (by omega) (fun k h1 h2 => ?_)
  have := key k (by omega)
  simpa [h1, h2] using this

/-- Is a digit among the first k greater than the other's? -/
def anyGt (x y : List Nat) : Nat → Bool
  | 0 => false
  | k + 1 => anyGt x y k || decide (y.getD k 0 < x.getD k 0)
theorem anyGt_false (x y : List Nat) : ∀ n, anyGt x y n = false → ∀ i, i < n → x.getD i 0 ≤ y.getD i 0
  | 0, _, i, hi => absurd hi (by omega)
  | n + 1, h, i, hi => by
    rw [anyGt, Bool.or_eq_false_iff, decide_eq_false_iff_not] at h
    rcases Nat.lt_or_ge i n with h1 | h1
    · exact anyGt_false x y n h.1 i h1
    · obtain rfl : i = n := by omega
      omega
theorem anyGt_all (l m : List UInt8) (w : Nat) (hw : Wd w) (hl : l.length = 32) (hm : m.length = 32) (hne : l ≠ m) : anyGt (allD l w) (allD m w) (256 / w + chk w) = true := by
  cases hq : anyGt (allD l w) (allD m w) (256 / w + chk w) with
  | true => rfl
  | false => exact absurd (same_of_le l m w hw hl hm (anyGt_false _ _ _ hq)) hne
end Go.Proofs.Ytejeefkoalbcmaa
