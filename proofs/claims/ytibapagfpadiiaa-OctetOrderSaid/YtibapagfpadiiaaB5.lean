/-
  OctetOrder
-/
import Derived.Test.YtibapagfpadiiaaA6
namespace Go.Proofs.Ytibapagfpadiiaa
open Go.RowKit
set_option linter.unusedVariables false

theorem be_mod (k n : Nat) : be k n = be k (n % 256 ^ k) := by
  have h1 := be_val (be k n)
  rw [be_length, val_be] at h1
  exact h1.symm

theorem less_be (k : Nat) : ∀ n m : Nat, n < 256 ^ k → m < 256 ^ k → Op.bytesLess (be k n) (be k m) = decide (n < m) := by
  induction k with
  | zero =>
    intro n m hn hm
    simp at hn hm
    subst hn hm
    rfl
  | succ k ih =>
    intro n m hn hm
    have hp : 0 < 256 ^ k := Nat.pow_pos (by omega)
    have en : 256 ^ k * (n / 256 ^ k) + n % 256 ^ k = n := Nat.div_add_mod n (256 ^ k)
    have em : 256 ^ k * (m / 256 ^ k) + m % 256 ^ k = m := Nat.div_add_mod m (256 ^ k)
    have rn : n % 256 ^ k < 256 ^ k := Nat.mod_lt _ hp
    have rm : m % 256 ^ k < 256 ^ k := Nat.mod_lt _ hp
    have qn : n / 256 ^ k < 256 := (Nat.div_lt_iff_lt_mul hp).2 (by rw [Nat.pow_succ, Nat.mul_comm] at hn; exact hn)
    have qm : m / 256 ^ k < 256 := (Nat.div_lt_iff_lt_mul hp).2 (by rw [Nat.pow_succ, Nat.mul_comm] at hm; exact hm)
    have ihr := ih (n % 256 ^ k) (m % 256 ^ k) rn rm
    rw [← be_mod, ← be_mod] at ihr
    rw [be, be, Op.bytesLess, ihr]
    generalize n / 256 ^ k = a at *
    generalize m / 256 ^ k = b at *
    generalize n % 256 ^ k = r at *
    generalize m % 256 ^ k = s at *
    generalize 256 ^ k = p at *
    have hlt : decide (UInt8.ofNat a < UInt8.ofNat b) = decide (a < b) := by
      rw [decide_eq_decide, UInt8.lt_iff_toNat_lt]
      simp [Nat.mod_eq_of_lt qn, Nat.mod_eq_of_lt qm]
    have heq : (UInt8.ofNat a == UInt8.ofNat b) = decide (a = b) := by
      rw [Bool.eq_iff_iff, beq_iff_eq, decide_eq_true_iff]
      constructor
      · intro h
        have := congrArg UInt8.toNat h
        simpa [Nat.mod_eq_of_lt qn, Nat.mod_eq_of_lt qm] using this
      · intro h
        rw [h]
    rw [hlt, heq]
    rcases Nat.lt_trichotomy a b with h | h | h
    · have h1 : p * (a + 1) ≤ p * b := Nat.mul_le_mul_left p h
      rw [Nat.mul_add, Nat.mul_one] at h1
      have h2 : n < m := by omega
      simp [h, h2]
    · subst h
      have : (r < s) ↔ (n < m) := by omega
      simp [this]
    · have h1 : p * (b + 1) ≤ p * a := Nat.mul_le_mul_left p h
      rw [Nat.mul_add, Nat.mul_one] at h1
      have h2 : ¬ n < m := by omega
      have h3 : ¬ a < b := by omega
      have h4 : ¬ a = b := by omega
      simp [h2, h3, h4]

theorem less_enc (n m : Nat) (hn : n < 18446744073709551616) (hm : m < 18446744073709551616) (h : wid n = wid m) : Op.bytesLess (enc n) (enc m) = decide (n < m) := by
  have h1 := wid_hi n hn
  have h2 := wid_hi m hm
  unfold enc
  rw [h] at h1 ⊢
  rw [Op.bytesLess, less_be _ _ _ h1 h2]
  simp

theorem wid_less (n m : Nat) (hn : n < 18446744073709551616) (h : wid n < wid m) : n < m := by
  have h1 := wid_hi n hn
  have h2 := wid_lo m (by omega)
  have h3 : 256 ^ wid n ≤ 256 ^ (wid m - 1) := Nat.pow_le_pow_right (by omega) (by omega)
  omega

set_option maxHeartbeats 1000000 in
theorem order_walk (x y : Int) (w : World) (hx0 : 0 ≤ x) (hx1 : x ≤ 18446744073709551615) (hy0 : 0 ≤ y) (hy1 : y ≤ 18446744073709551615) :
    Calls Try.prog 7 #[.int .u64 x, .int .u64 y] w (TrueStays w) := by
  have hwx := wid_le x.toNat
  have hwy := wid_le y.toNat
  go_enter Try.func7, Try.ntmps7
  go_wp2_with fail
  refine (put_any _ [] x w (Rd.nil _ _) hx0 hx1 (by simp)).mono ?_
  rintro e w1 ⟨v1, rfl, hown1, hb1⟩
  rw [List.nil_append] at hown1
  have HO1 := Lib.hid hown1
  have HB1 := Lib.hid hb1
  have hs1 := hb1.size
  clear hown1 hb1
  go_wp2_with fail
  refine (put_any _ [] y w1 (Rd.nil _ _) hy0 hy1 (by simp)).mono ?_
  rintro e w2 ⟨v2, rfl, hown2, hb2⟩
  rw [List.nil_append] at hown2
  have HO2 := Lib.hid hown2
  have HB2 := Lib.hid hb2
  have hs2 := hb2.size
  clear hown2 hb2
  obtain ⟨A1, c1, hv1, _, _⟩ := HO1.out.rd.shape
  obtain ⟨A2, c2, hv2, _, _⟩ := HO2.out.rd.shape
  rw [enc_length] at hv1 hv2
  rw [hv1, hv2]
  have HV1 := Lib.hid hv1
  have HV2 := Lib.hid hv2
  clear hv1 hv2
  go_wp2_with fail
  refine (size_any x w2 hx0 hx1).mono ?_
  rintro e w3 ⟨rfl, rfl⟩
  go_wp2_with fail
  refine (alive_any w2).mono ?_
  rintro e w3 ⟨rfl, hb3⟩
  have hr1 : Rd w1.heap.size w3 (.slice A1 (wid x.toNat + 1) c1) (enc x.toNat) := by
    have h := (HO1.out.rd.below HB2.out).below (hb3.mono hs2)
    rw [HV1.out] at h
    exact h
  have hr2 : Rd w2.heap.size w3 (.slice A2 (wid y.toNat + 1) c2) (enc y.toNat) := by
    have h := HO2.out.rd.below hb3
    rw [HV2.out] at h
    exact h
  have HB3 := Lib.hid hb3
  have hst1 := run_string_rd 22 9 5 Try.underlying22 Try.underlying5 Try.underlying9 hr1
  have hst2 := run_string_rd 22 9 5 Try.underlying22 Try.underlying5 Try.underlying9 hr2
  clear hr1 hr2 hb3
  have hfin : Below w.heap.size w w3 := (HB1.out.trans (HB2.out.mono hs1)).trans (HB3.out.mono (by omega))
  have HF := Lib.hid hfin
  clear hfin
  by_cases hlt : wid x.toNat < wid y.toNat
  · have hxy : x < y := by have := wid_less x.toNat y.toNat (by omega) hlt; omega
    go_wp2
    go_ret
    exact ⟨rfl, HF.out⟩
  · by_cases heq : wid x.toNat = wid y.toNat
    · have hl := less_enc x.toNat y.toNat (by omega) (by omega) heq
      have hxy : decide (x.toNat < y.toNat) = decide (x < y) := by rw [decide_eq_decide]; omega
      rw [hxy] at hl
      clear hxy
      rw [heq] at hst1 ⊢
      go_wp2
      go_ret
      exact ⟨rfl, HF.out⟩
    · have hgt : wid y.toNat < wid x.toNat := by omega
      go_wp2
      go_ret
      exact ⟨rfl, HF.out⟩
end Go.Proofs.Ytibapagfpadiiaa
