/-
  Plain facts, of no program: how many bytes a number of 64 bits takes without leading zero bytes, its bytes, the highest one first, and its encoding. No condition beyond those of each line.
-/
namespace Go.Proofs.Ytejeefkoalbcmaa

/-- How many bytes a number takes, leading zero bytes left out (for numbers below 2^64). -/
def wid (n : Nat) : Nat :=
  if n = 0 then 0 else if n < 256 then 1 else if n < 65536 then 2 else if n < 16777216 then 3 else if n < 4294967296 then 4
  else if n < 1099511627776 then 5 else if n < 281474976710656 then 6 else if n < 72057594037927936 then 7 else 8

/-- The k lowest bytes of a number, the highest one first. -/
def be : Nat → Nat → List UInt8
  | 0, _ => []
  | k + 1, n => UInt8.ofNat (n / 256 ^ k) :: be k n

/-- The encoding of a number. -/
def enc (n : Nat) : List UInt8 := UInt8.ofNat (wid n) :: be (wid n) n

/-- The number that bytes say, the highest one first. -/
def val (l : List UInt8) : Nat := l.foldl (fun a b => 256 * a + b.toNat) 0

theorem wid_le (n : Nat) : wid n ≤ 8 := by
  unfold wid
  repeat' split
  all_goals omega

theorem be_length (k n : Nat) : (be k n).length = k := by
  induction k with
  | zero => rfl
  | succ k ih => simp [be, ih]

theorem enc_length (n : Nat) : (enc n).length = wid n + 1 := by simp [enc, be_length]

theorem pow_eight : ∀ k, k ≤ 8 → 256 ^ k = [1, 256, 65536, 16777216, 4294967296, 1099511627776, 281474976710656, 72057594037927936, 18446744073709551616].getD k 0 := by
  decide

/-- A number is below 256 to its width, and not below 256 to one less. -/
theorem wid_hi (n : Nat) (h : n < 18446744073709551616) : n < 256 ^ wid n := by
  unfold wid
  repeat' split
  all_goals omega

theorem wid_lo (n : Nat) (h : 0 < wid n) : 256 ^ (wid n - 1) ≤ n := by
  revert h
  unfold wid
  repeat' split
  all_goals (intro h; simp only [Nat.reduceSub, Nat.reducePow]; omega)

theorem be_succ (k n : Nat) : be (k + 1) n = be k (n / 256) ++ [UInt8.ofNat n] := by
  induction k generalizing n with
  | zero => simp [be]
  | succ k ih =>
    rw [be, ih n]
    show _ = be (k + 1) (n / 256) ++ _
    rw [be]
    simp only [List.cons_append]
    congr 2
    rw [Nat.div_div_eq_div_mul, Nat.pow_succ, Nat.mul_comm]

theorem be_drop (W k n : Nat) (h : k ≤ W) : (be W n).drop (W - k) = be k n := by
  induction W with
  | zero =>
    obtain rfl : k = 0 := by omega
    rfl
  | succ W ih =>
    rcases Nat.lt_or_ge W k with h1 | h1
    · obtain rfl : k = W + 1 := by omega
      simp
    · have e : W + 1 - k = (W - k) + 1 := by omega
      rw [e, be, List.drop_succ_cons, ih h1]

/-- One byte more of the k lowest bytes. -/
theorem be_take (W k n : Nat) (h : k + 1 ≤ W) : (be W n).take (W - k) = (be W n).take (W - (k + 1)) ++ [UInt8.ofNat (n / 256 ^ k)] := by
  have hl := be_length W n
  have hd := be_drop W (k + 1) n h
  have e : W - k = (W - (k + 1)) + 1 := by omega
  have hlt : W - (k + 1) < (be W n).length := by omega
  rw [e, List.take_succ_eq_append_getElem hlt]
  congr 2
  have h2 : (be W n).drop (W - (k + 1)) = (be W n)[W - (k + 1)] :: (be W n).drop (W - (k + 1) + 1) := List.drop_eq_getElem_cons hlt
  rw [hd, be] at h2
  injection h2 with h3 _
  exact h3.symm

theorem byte_shift (x : Int) (j : Nat) (h : 0 ≤ x) : x / 2 ^ (8 * j) % 256 = ((UInt8.ofNat (x.toNat / 256 ^ j)).toNat : Int) := by
  obtain ⟨n, rfl⟩ := Int.eq_ofNat_of_zero_le h
  have e : (256 : Nat) ^ j = 2 ^ (8 * j) := by rw [Nat.pow_mul]
  have e2 : ((2 : Int) ^ (8 * j)) = ((2 ^ (8 * j) : Nat) : Int) := by simp
  rw [Int.toNat_natCast, e, e2]
  simp

theorem val_snoc (l : List UInt8) (b : UInt8) : val (l ++ [b]) = 256 * val l + b.toNat := by simp [val]

theorem val_be (k n : Nat) : val (be k n) = n % 256 ^ k := by
  induction k generalizing n with
  | zero => simp [be, val, Nat.mod_one]
  | succ k ih =>
    rw [be_succ, val_snoc, ih]
    have h1 : (UInt8.ofNat n).toNat = n % 256 := by simp
    rw [h1, Nat.pow_succ, Nat.mul_comm (256 ^ k) 256, Nat.mod_mul]
    omega

theorem foldl_lt (l : List UInt8) : ∀ a : Nat, l.foldl (fun a b => 256 * a + b.toNat) a < (a + 1) * 256 ^ l.length := by
  induction l with
  | nil => intro a; simp
  | cons b l ih =>
    intro a
    have h := ih (256 * a + b.toNat)
    have hb : b.toNat < 256 := UInt8.toNat_lt b
    have h2 : (256 * a + b.toNat + 1) * 256 ^ l.length ≤ ((a + 1) * 256) * 256 ^ l.length := Nat.mul_le_mul_right _ (by omega)
    rw [List.foldl_cons, List.length_cons, Nat.pow_succ, Nat.mul_comm (256 ^ l.length) 256, ← Nat.mul_assoc]
    exact Nat.lt_of_lt_of_le h h2

theorem val_lt (l : List UInt8) : val l < 256 ^ l.length := by
  have := foldl_lt l 0
  simpa [val] using this

theorem foldl_ge (l : List UInt8) : ∀ a : Nat, a * 256 ^ l.length ≤ l.foldl (fun a b => 256 * a + b.toNat) a := by
  induction l with
  | nil => intro a; simp
  | cons b l ih =>
    intro a
    have h := ih (256 * a + b.toNat)
    have h2 : (a * 256) * 256 ^ l.length ≤ (256 * a + b.toNat) * 256 ^ l.length := Nat.mul_le_mul_right _ (by omega)
    rw [List.foldl_cons, List.length_cons, Nat.pow_succ, Nat.mul_comm (256 ^ l.length) 256, ← Nat.mul_assoc]
    exact Nat.le_trans h2 h

theorem val_cons_ge (b : UInt8) (l : List UInt8) (h : b ≠ 0) : 256 ^ l.length ≤ val (b :: l) := by
  have hb : 1 ≤ b.toNat := by
    rcases Nat.eq_zero_or_pos b.toNat with h0 | h0
    · exact absurd (UInt8.toNat_inj.1 (by simpa using h0)) h
    · exact h0
  have h1 := foldl_ge l (256 * 0 + b.toNat)
  have h2 : 1 * 256 ^ l.length ≤ (256 * 0 + b.toNat) * 256 ^ l.length := Nat.mul_le_mul_right _ (by omega)
  have h3 : val (b :: l) = l.foldl (fun a b => 256 * a + b.toNat) (256 * 0 + b.toNat) := rfl
  rw [h3]
  omega

theorem be_val (l : List UInt8) : be l.length (val l) = l := by
  have key : ∀ (k : Nat) (l : List UInt8), l.length = k → be k (val l) = l := by
    intro k
    induction k with
    | zero =>
      intro l hl
      rw [List.eq_nil_of_length_eq_zero hl]
      rfl
    | succ k ih =>
      intro l hl
      have hne : l ≠ [] := by intro h; rw [h] at hl; simp at hl
      have hs : l.dropLast ++ [l.getLast hne] = l := List.dropLast_concat_getLast hne
      have hd : l.dropLast.length = k := by simp [hl]
      have hb : (l.getLast hne).toNat < 256 := UInt8.toNat_lt _
      rw [← hs, val_snoc, be_succ]
      have e1 : (256 * val l.dropLast + (l.getLast hne).toNat) / 256 = val l.dropLast := by omega
      have e2 : UInt8.ofNat (256 * val l.dropLast + (l.getLast hne).toNat) = l.getLast hne := by
        apply UInt8.toNat_inj.1
        simp
      rw [e1, e2, ih _ hd]
  exact key _ l rfl

/-- The width of a number between two powers of 256. -/
theorem wid_of (n k : Nat) (hk : k < 8) (lo : 256 ^ k ≤ n) (hi : n < 256 ^ (k + 1)) : wid n = k + 1 := by
  have h8 : k = 0 ∨ k = 1 ∨ k = 2 ∨ k = 3 ∨ k = 4 ∨ k = 5 ∨ k = 6 ∨ k = 7 := by omega
  rcases h8 with rfl | rfl | rfl | rfl | rfl | rfl | rfl | rfl
  all_goals
    simp only [Nat.reduceAdd, Nat.reducePow] at lo hi
    unfold wid
    repeat' split
    all_goals omega

/-- What a number's bytes without a leading zero say is encoded as these bytes. -/
theorem enc_val (b : UInt8) (l : List UInt8) (hb : b ≠ 0) (hl : l.length < 8) : enc (val (b :: l)) = UInt8.ofNat (l.length + 1) :: b :: l := by
  have h1 := val_cons_ge b l hb
  have h2 := val_lt (b :: l)
  have hw : wid (val (b :: l)) = l.length + 1 := wid_of _ _ hl h1 (by simpa using h2)
  have h3 := be_val (b :: l)
  rw [List.length_cons] at h3
  unfold enc
  rw [hw, h3]

theorem be_head (k n : Nat) (h : 256 ^ k ≤ n) (h2 : n < 256 ^ (k + 1)) : UInt8.ofNat (n / 256 ^ k) ≠ 0 := by
  have hp : 0 < 256 ^ k := Nat.pow_pos (by omega)
  have h1 : 1 ≤ n / 256 ^ k := (Nat.le_div_iff_mul_le hp).2 (by simpa using h)
  have h3 : n / 256 ^ k < 256 := (Nat.div_lt_iff_lt_mul hp).2 (by rw [Nat.pow_succ, Nat.mul_comm] at h2; exact h2)
  intro h0
  have : (UInt8.ofNat (n / 256 ^ k)).toNat = 0 := by rw [h0]; rfl
  simp at this
  omega

/-- What a number is taken of: its number, what is left, and the error: 0 none, 2 short, 3 form. -/
def takeN : List UInt8 → Nat × List UInt8 × Nat
  | [] => (0, [], 2)
  | k :: t => if 8 < k.toNat ∨ (0 < k.toNat ∧ t.head? = some 0) then (0, [], 3) else if t.length < k.toNat then (0, [], 2) else (val (t.take k.toNat), t.drop k.toNat, 0)

theorem takeN_enc (n : Nat) (h : n < 18446744073709551616) (r : List UInt8) : takeN (enc n ++ r) = (n, r, 0) := by
  have hw := wid_le n
  have h1 : (UInt8.ofNat (wid n)).toNat = wid n := by simp; omega
  have h2 := be_length (wid n) n
  unfold enc takeN
  simp only [List.cons_append, h1]
  rw [if_neg, if_neg]
  · have e1 : (be (wid n) n ++ r).take (wid n) = be (wid n) n := by
      rw [List.take_append_of_le_length (by omega), List.take_of_length_le (by omega)]
    have e2 : (be (wid n) n ++ r).drop (wid n) = r := by
      rw [List.drop_append_of_le_length (by omega), List.drop_of_length_le (by omega), List.nil_append]
    rw [e1, e2, val_be, Nat.mod_eq_of_lt (wid_hi n h)]
  · simp [h2]
  · rintro (h3 | ⟨h3, h4⟩)
    · omega
    · obtain ⟨k, hk⟩ : ∃ k, wid n = k + 1 := ⟨wid n - 1, by omega⟩
      have hlo := wid_lo n h3
      have hhi := wid_hi n h
      rw [hk] at h4 hlo hhi
      simp only [be, List.cons_append, List.head?_cons, Option.some.injEq] at h4
      exact be_head k n (by simpa using hlo) hhi h4

theorem takeN_only (b : List UInt8) (n : Nat) (r : List UInt8) (h : takeN b = (n, r, 0)) : enc n ++ r = b ∧ n < 18446744073709551616 := by
  match b, h with
  | [], h => simp [takeN] at h
  | k :: t, h =>
    rw [takeN] at h
    by_cases hf : 8 < k.toNat ∨ (0 < k.toNat ∧ t.head? = some 0)
    · rw [if_pos hf] at h
      simp at h
    · rw [if_neg hf] at h
      by_cases hs : t.length < k.toNat
      · rw [if_pos hs] at h
        simp at h
      · rw [if_neg hs] at h
        injection h with h1 h2
        injection h2 with h2 h3
        subst h1
        subst h2
        have hk : k.toNat ≤ 8 := by omega
        have hlen : (t.take k.toNat).length = k.toNat := by simp; omega
        have hlt := val_lt (t.take k.toNat)
        rw [hlen] at hlt
        have hp : 256 ^ k.toNat ≤ 256 ^ 8 := Nat.pow_le_pow_right (by omega) hk
        refine ⟨?_, by omega⟩
        rcases Nat.eq_zero_or_pos k.toNat with h0 | h0
        · have hk0 : k = 0 := UInt8.toNat_inj.1 (by simpa using h0)
          subst hk0
          simp [val, enc, wid, be]
        · match t, hs, hf, hlen with
          | [], hs, _, _ => simp at hs; omega
          | c :: u, hs, hf, hlen =>
            have hc : c ≠ 0 := fun e => hf (.inr ⟨h0, by simp [e]⟩)
            obtain ⟨j, hj⟩ : ∃ j, k.toNat = j + 1 := ⟨k.toNat - 1, by omega⟩
            rw [hj] at hlen ⊢
            simp only [List.take_succ_cons, List.drop_succ_cons] at hlen ⊢
            have hl : (u.take j).length = j := by simp only [List.length_cons] at hlen; omega
            rw [enc_val c (u.take j) hc (by omega), hl, ← hj]
            simp

end Go.Proofs.Ytejeefkoalbcmaa
