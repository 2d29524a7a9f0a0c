/-
  CRC-32C in plain terms: the register, linear in what is fed; one byte that is another one has another sum. Each theorem states its own conditions.
-/

namespace Go.Proofs.Yteckenlbelgknaa

def polC : Nat := 0x82f63b78
def bitC (x b : Nat) : Nat := x / 2 ^^^ (if b = x % 2 then 0 else polC)
/-- The register after the bits from k on of a byte, n of them. -/
def bitsC (b : Nat) : Nat → Nat → Nat → Nat
  | _, 0, x => x
  | k, n + 1, x => bitsC b (k + 1) n (bitC x (b / 2 ^ k % 2))
def byteC (x : Nat) (b : UInt8) : Nat := bitsC b.toNat 0 8 x
def feedC (x : Nat) (l : List UInt8) : Nat := l.foldl byteC x
def moreC (s : Nat) (l : List UInt8) : Nat := feedC (s ^^^ 4294967295) l ^^^ 4294967295
def sumC (l : List UInt8) : Nat := moreC 0 l
theorem half_xor (x y : Nat) : (x ^^^ y) / 2 = x / 2 ^^^ y / 2 := by
  have := Nat.shiftRight_xor_distrib (a := x) (b := y) (i := 1)
  rw [Nat.shiftRight_eq_div_pow, Nat.shiftRight_eq_div_pow, Nat.shiftRight_eq_div_pow] at this
  exact this
theorem mod_xor (x y : Nat) : (x ^^^ y) % 2 = (x % 2 + y % 2) % 2 := by
  have h := Nat.testBit_xor x y 0
  simp only [Nat.testBit_zero] at h
  have h0 : (x ^^^ y) % 2 < 2 := Nat.mod_lt _ (by decide)
  have hx : x % 2 = 0 ∨ x % 2 = 1 := by omega
  have hy : y % 2 = 0 ∨ y % 2 = 1 := by omega
  generalize (x ^^^ y) % 2 = z at *
  rcases hx with hx | hx <;> rcases hy with hy | hy <;> rw [hx, hy] at h ⊢ <;> simp at h <;> omega
theorem bitC_lin (x y b c : Nat) (hb : b < 2) (hc : c < 2) : bitC (x ^^^ y) ((b + c) % 2) = bitC x b ^^^ bitC y c := by
  unfold bitC
  rw [half_xor, mod_xor]
  have hx : x % 2 < 2 := Nat.mod_lt _ (by decide)
  have hy : y % 2 < 2 := Nat.mod_lt _ (by decide)
  generalize x % 2 = p at *
  generalize y % 2 = q at *
  generalize x / 2 = u
  generalize y / 2 = v
  have e1 : u ^^^ v ^^^ (polC ^^^ polC) = u ^^^ v := by rw [Nat.xor_self, Nat.xor_zero]
  have hp : p = 0 ∨ p = 1 := by omega
  have hq : q = 0 ∨ q = 1 := by omega
  have hb' : b = 0 ∨ b = 1 := by omega
  have hc' : c = 0 ∨ c = 1 := by omega
  have a1 : ∀ z : Nat, (u ^^^ z) ^^^ v = u ^^^ v ^^^ z := fun z => by rw [Nat.xor_assoc, Nat.xor_comm z v, ← Nat.xor_assoc]
  have a2 : (u ^^^ polC) ^^^ (v ^^^ polC) = u ^^^ v := by
    rw [← Nat.xor_assoc, a1, Nat.xor_assoc, Nat.xor_self, Nat.xor_zero]
  rcases hp with rfl | rfl <;> rcases hq with rfl | rfl <;> rcases hb' with rfl | rfl <;> rcases hc' with rfl | rfl <;>
    simp only [Nat.reduceAdd, Nat.reduceMod, if_true, if_false, Nat.xor_zero, Nat.zero_ne_one, Nat.one_ne_zero, a1, a2, Nat.xor_assoc]
theorem bit_xor (a b k : Nat) : (a ^^^ b) / 2 ^ k % 2 = (a / 2 ^ k % 2 + b / 2 ^ k % 2) % 2 := by
  have := Nat.shiftRight_xor_distrib (a := a) (b := b) (i := k)
  rw [Nat.shiftRight_eq_div_pow, Nat.shiftRight_eq_div_pow, Nat.shiftRight_eq_div_pow] at this
  rw [this, mod_xor]
theorem bitsC_lin (b c : Nat) : ∀ (n k x y : Nat), bitsC (b ^^^ c) k n (x ^^^ y) = bitsC b k n x ^^^ bitsC c k n y
  | 0, _, _, _ => rfl
  | n + 1, k, x, y => by
    show bitsC (b ^^^ c) (k + 1) n (bitC (x ^^^ y) ((b ^^^ c) / 2 ^ k % 2)) = _
    rw [bit_xor, bitC_lin x y _ _ (Nat.mod_lt _ (by decide)) (Nat.mod_lt _ (by decide)), bitsC_lin b c n (k + 1)]
    rfl
theorem byteC_lin (x y : Nat) (b c : UInt8) : byteC (x ^^^ y) (b ^^^ c) = byteC x b ^^^ byteC y c := by
  unfold byteC
  rw [UInt8.toNat_xor]
  exact bitsC_lin _ _ 8 0 x y
theorem polC_big : 2147483648 ≤ polC ∧ polC < 4294967296 := by decide
theorem bitC_lt (x b : Nat) (h : x < 4294967296) : bitC x b < 4294967296 := by
  unfold bitC
  have h1 : x / 2 < 2 ^ 32 := by omega
  have h2 : (if b = x % 2 then 0 else polC) < 2 ^ 32 := by split <;> decide
  exact Nat.xor_lt_two_pow h1 h2
theorem bitC_zero (x : Nat) (h : x < 4294967296) (h0 : bitC x 0 = 0) : x = 0 := by
  unfold bitC at h0
  by_cases hm : 0 = x % 2
  · rw [if_pos hm, Nat.xor_zero] at h0
    omega
  · rw [if_neg hm] at h0
    have e : x / 2 = polC := by
      have := congrArg (fun z => z ^^^ polC) h0
      simpa [Nat.xor_assoc] using this
    have := polC_big.1
    omega
theorem bitsC_zero : ∀ (n k x : Nat), x < 4294967296 → bitsC 0 k n x = 0 → x = 0
  | 0, _, _, _, h => h
  | n + 1, k, x, hx, h => by
    have e : bitsC 0 k (n + 1) x = bitsC 0 (k + 1) n (bitC x 0) := by
      show bitsC 0 (k + 1) n (bitC x (0 / 2 ^ k % 2)) = _
      rw [Nat.zero_div]
    rw [e] at h
    exact bitC_zero x hx (bitsC_zero n (k + 1) _ (bitC_lt x 0 hx) h)
theorem bitsC_lt (b : Nat) : ∀ (n k x : Nat), x < 4294967296 → bitsC b k n x < 4294967296
  | 0, _, _, h => h
  | n + 1, k, _, h => bitsC_lt b n (k + 1) _ (bitC_lt _ _ h)
theorem byteC_lt (x : Nat) (b : UInt8) (h : x < 4294967296) : byteC x b < 4294967296 := bitsC_lt _ 8 0 x h
theorem byteC_zero (x : Nat) (h : x < 4294967296) (h0 : byteC x 0 = 0) : x = 0 := bitsC_zero 8 0 x h h0
theorem byteC_new : ∀ d : UInt8, d ≠ 0 → byteC 0 d ≠ 0 := by
  have key : ∀ n, n < 256 → n ≠ 0 → bitsC n 0 8 0 ≠ 0 := by decide +kernel
  intro d hd
  refine key d.toNat d.toNat_lt fun h => hd ?_
  exact UInt8.toNat_inj.1 h
theorem feedC_lt (l : List UInt8) : ∀ x, x < 4294967296 → feedC x l < 4294967296 := by
  induction l with
  | nil => exact fun _ h => h
  | cons b l ih => exact fun x h => ih _ (byteC_lt x b h)
theorem feedC_append (x : Nat) (a b : List UInt8) : feedC x (a ++ b) = feedC (feedC x a) b := List.foldl_append
theorem feedC_lin (l : List UInt8) : ∀ x y, feedC (x ^^^ y) l = feedC x l ^^^ feedC y (l.map fun _ => 0) := by
  induction l with
  | nil => exact fun _ _ => rfl
  | cons b l ih =>
    intro x y
    show feedC (byteC (x ^^^ y) b) l = _
    have e : byteC (x ^^^ y) b = byteC x b ^^^ byteC y 0 := by
      have := byteC_lin x y b 0
      rwa [UInt8.xor_zero] at this
    rw [e, ih]
    rfl
theorem feedC_zero (l : List UInt8) : ∀ y, y < 4294967296 → feedC y (l.map fun _ => 0) = 0 → y = 0 := by
  induction l with
  | nil => exact fun _ _ h => h
  | cons b l ih => exact fun y hy h => byteC_zero y hy (ih _ (byteC_lt y 0 hy) h)
/-- Registers that differ differ behind the same bytes. -/
theorem feedC_inj (l : List UInt8) (x y : Nat) (hx : x < 4294967296) (hy : y < 4294967296) (h : feedC x l = feedC y l) : x = y := by
  have h1 := feedC_lin l x (x ^^^ y)
  rw [← Nat.xor_assoc, Nat.xor_self, Nat.zero_xor, ← h] at h1
  have h2 : feedC (x ^^^ y) (l.map fun _ => 0) = 0 := by
    have := congrArg (fun z => feedC x l ^^^ z) h1
    simp only [Nat.xor_self, ← Nat.xor_assoc, Nat.zero_xor] at this
    exact this.symm
  have h3 := feedC_zero l _ (Nat.xor_lt_two_pow (n := 32) hx hy) h2
  have := congrArg (fun z => z ^^^ y) h3
  simpa [Nat.xor_assoc] using this
theorem byteC_inj (x : Nat) (b c : UInt8) (h : byteC x b = byteC x c) : b = c := by
  have h1 := byteC_lin x 0 b (b ^^^ c)
  rw [Nat.xor_zero, ← UInt8.xor_assoc, UInt8.xor_self, UInt8.zero_xor, ← h] at h1
  have h2 : byteC 0 (b ^^^ c) = 0 := by
    have := congrArg (fun z => byteC x b ^^^ z) h1
    simp only [Nat.xor_self, ← Nat.xor_assoc, Nat.zero_xor] at this
    exact this.symm
  by_cases hz : b ^^^ c = 0
  · exact UInt8.xor_eq_zero_iff.1 hz
  · exact absurd h2 (byteC_new _ hz)
theorem moreC_lt (s : Nat) (l : List UInt8) (h : s < 4294967296) : moreC s l < 4294967296 :=
  Nat.xor_lt_two_pow (n := 32) (feedC_lt l _ (Nat.xor_lt_two_pow (n := 32) h (by decide))) (by decide)
theorem xor_back (x : Nat) : x ^^^ 4294967295 ^^^ 4294967295 = x := by rw [Nat.xor_assoc, Nat.xor_self, Nat.xor_zero]
theorem moreC_append (s : Nat) (a b : List UInt8) : moreC s (a ++ b) = moreC (moreC s a) b := by
  unfold moreC
  rw [feedC_append, xor_back]
/-- One byte that is another one has another sum. -/
theorem sumC_spoilt (a c : List UInt8) (x y : UInt8) (s : Nat) (hs : s < 4294967296) (h : x ≠ y) : moreC s (a ++ x :: c) ≠ moreC s (a ++ y :: c) := by
  intro e
  unfold moreC at e
  have e1 := congrArg (fun z => z ^^^ 4294967295) e
  simp only [xor_back] at e1
  rw [feedC_append, feedC_append] at e1
  have hs' := feedC_lt a _ (Nat.xor_lt_two_pow (n := 32) hs (show 4294967295 < 2 ^ 32 by decide))
  have e2 := feedC_inj c _ _ (byteC_lt _ x hs') (byteC_lt _ y hs') e1
  exact h (byteC_inj _ x y e2)
end Go.Proofs.Yteckenlbelgknaa
