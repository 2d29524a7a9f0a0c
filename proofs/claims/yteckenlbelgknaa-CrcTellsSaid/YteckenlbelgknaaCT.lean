/-
  CRC-32C in plain terms: a byte by a table. Each theorem states its own conditions.
-/
import Derived.Test.YteckenlbelgknaaC0
namespace Go.Proofs.Yteckenlbelgknaa

/-- Eight steps without a byte. -/
def tabC (x : Nat) : Nat := bitsC 0 0 8 x
theorem bitC_even (x : Nat) (h : x % 2 = 0) : bitC x 0 = x / 2 := by
  unfold bitC
  rw [h, if_pos rfl, Nat.xor_zero]
theorem bitsC_high : ∀ (n k x : Nat), bitsC 0 k n (x * 2 ^ n) = x
  | 0, _, x => by
    show x * 2 ^ 0 = x
    omega
  | n + 1, k, x => by
    have e : bitsC 0 k (n + 1) (x * 2 ^ (n + 1)) = bitsC 0 (k + 1) n (bitC (x * 2 ^ (n + 1)) (0 / 2 ^ k % 2)) := rfl
    have e2 : x * 2 ^ (n + 1) = 2 * (x * 2 ^ n) := by rw [Nat.pow_succ]; rw [Nat.mul_comm 2 (x * 2 ^ n), Nat.mul_assoc]
    rw [e, Nat.zero_div, Nat.zero_mod, e2, bitC_even _ (by omega), Nat.mul_div_cancel_left _ (by decide)]
    exact bitsC_high n (k + 1) x
theorem bitsC_self : ∀ b : Fin 256, bitsC b.1 0 8 b.1 = 0 := by decide +kernel
theorem split_xor (x : Nat) : (x / 256 * 256) ^^^ (x % 256) = x := by
  apply Nat.eq_of_testBit_eq
  intro i
  rw [Nat.testBit_xor]
  have h1 : x / 256 * 256 = 2 ^ 8 * (x / 2 ^ 8) := by omega
  have h2 : x % 256 = x % 2 ^ 8 := rfl
  rw [h1, h2, Nat.testBit_mod_two_pow, Nat.testBit_two_pow_mul, Nat.testBit_div_two_pow]
  by_cases h : i < 8
  · have h3 : ¬ 8 ≤ i := by omega
    simp [h, h3]
  · have h3 : 8 ≤ i := by omega
    rw [show i - 8 + 8 = i from by omega]
    simp [h, h3]
/-- A byte by the table. -/
theorem byteC_tab (x : Nat) (b : UInt8) : byteC x b = tabC ((x ^^^ b.toNat) % 256) ^^^ (x / 256) := by
  have hb : b.toNat < 256 := b.toNat_lt
  have e1 : (x ^^^ b.toNat) % 256 = x % 256 ^^^ b.toNat := by
    have h := Nat.xor_mod_two_pow (a := x) (b := b.toNat) (n := 8)
    rw [show (2 : Nat) ^ 8 = 256 from rfl] at h
    rw [h, Nat.mod_eq_of_lt hb]
  have e2 : bitsC b.toNat 0 8 (x % 256) = tabC (x % 256 ^^^ b.toNat) := by
    have h := bitsC_lin b.toNat 0 8 0 b.toNat (x % 256 ^^^ b.toNat)
    rw [Nat.xor_zero, bitsC_self ⟨b.toNat, hb⟩, Nat.zero_xor] at h
    rw [show b.toNat ^^^ (x % 256 ^^^ b.toNat) = x % 256 from by rw [Nat.xor_comm (x % 256), ← Nat.xor_assoc, Nat.xor_self, Nat.zero_xor]] at h
    exact h
  have h := bitsC_lin 0 b.toNat 8 0 (x / 256 * 256) (x % 256)
  rw [Nat.zero_xor, split_xor, show x / 256 * 256 = x / 256 * 2 ^ 8 from rfl, bitsC_high, e2, ← e1] at h
  unfold byteC
  rw [h, Nat.xor_comm]
/-- An entry of the table, a step at a time. -/
theorem tabC_step (x k n : Nat) : bitsC 0 k (n + 1) x = bitsC 0 (k + 1) n (if x % 2 = 0 then x / 2 else x / 2 ^^^ polC) := by
  show bitsC 0 (k + 1) n (bitC x (0 / 2 ^ k % 2)) = _
  rw [Nat.zero_div, Nat.zero_mod]
  unfold bitC
  by_cases h : x % 2 = 0
  · rw [if_pos h, if_pos h.symm, Nat.xor_zero]
  · rw [if_neg h, if_neg (fun e => h e.symm)]
theorem tabC_lt (x : Nat) (h : x < 4294967296) : tabC x < 4294967296 := bitsC_lt 0 8 0 x h
end Go.Proofs.Yteckenlbelgknaa
