/-
  The document's own test for primes, at numbers up to 1000.
-/
import Derived.Test.YtochamncdplaiaaAl
import Derived.Test.YtochamncdplaiaaN2
namespace Go.Proofs.Ytochamncdplaiaa
open Go.RowKit

/-- No number from 2 on whose square is at most n divides n. -/
def Pr (n : Nat) : Prop := ∀ d, 2 ≤ d → d * d ≤ n → n % d ≠ 0

theorem sq_le {a b : Nat} (h : a ≤ b) : a * a ≤ b * b := Nat.mul_le_mul h h

set_option maxHeartbeats 400000 in
theorem prime_yes (n : Nat) (w : World) (hn : n ≤ 1000) (hp : Hid (Pr n)) : Calls Try.prog 28 #[.int .i64 (n : Int)] w fun e w' => e = .returned (.bool true) ∧ w = w' := by
  go_enter Try.func28, Try.ntmps28
  go_wp2
  go_loop [3] (fun i => ∃ d : Nat, 2 ≤ d ∧ d ≤ 1001 ∧ i = .int .i64 d) (fun i => 1001 - (intOf i).toNat)
  case atStart => exact ⟨2, by omega, by omega, rfl⟩
  case round =>
    obtain ⟨d, h2, h3, rfl⟩ := hrel
    obtain ⟨q, hq⟩ : ∃ q : Nat, d * d = q := ⟨_, rfl⟩
    have hqb : q ≤ 1002001 := by have := sq_le h3; omega
    have hqd : d ≤ q := by have := Nat.mul_le_mul_right d (show 1 ≤ d by omega); omega
    have e1 : (d : Int) * (d : Int) = (q : Int) := by rw [← hq]; simp
    have e2 : IntKind.i64.wrap (q : Int) = (q : Int) := IntWalk.i64_in _ (by omega)
    have HQ := Lib.hid hq
    clear hq
    by_cases hlt : q ≤ n
    · have hnd : n % d ≠ 0 := hp.out d h2 (by rw [HQ.out]; exact hlt)
      have hd1 : ((n : Int) % (d : Int) == 0) = false := by
        have : ((n % d : Nat) : Int) ≠ 0 := by omega
        simpa using this
      have hz : (d : Int) ≠ 0 := by omega
      go_wp2
      go_round
      case rel => exact ⟨d + 1, by omega, by omega, by go_num⟩
      case measure => simp [intOf]; omega
    · go_wp2
      go_ret
      exact ⟨rfl, rfl⟩
set_option maxHeartbeats 400000 in
theorem prime_no (n d0 : Nat) (w : World) (hn : n ≤ 1000) (h20 : 2 ≤ d0) (hsq : d0 * d0 ≤ n) (hdv : Hid (n % d0 = 0)) : Calls Try.prog 28 #[.int .i64 (n : Int)] w fun e w' => e = .returned (.bool false) ∧ w = w' := by
  have hd0 : d0 ≤ 1000 := by have := Nat.mul_le_mul_right d0 (show 1 ≤ d0 by omega); omega
  have HSQ := Lib.hid hsq
  clear hsq
  go_enter Try.func28, Try.ntmps28
  go_wp2
  go_loop [3] (fun i => ∃ d : Nat, 2 ≤ d ∧ d ≤ d0 ∧ i = .int .i64 d) (fun i => d0 - (intOf i).toNat)
  case atStart => exact ⟨2, by omega, by omega, rfl⟩
  case round =>
    obtain ⟨d, h2, h3, rfl⟩ := hrel
    obtain ⟨q, hq⟩ : ∃ q : Nat, d * d = q := ⟨_, rfl⟩
    have hlt : q ≤ n := by have := sq_le h3; have := HSQ.out; omega
    have e1 : (d : Int) * (d : Int) = (q : Int) := by rw [← hq]; simp
    have e2 : IntKind.i64.wrap (q : Int) = (q : Int) := IntWalk.i64_in _ (by omega)
    have hz : (d : Int) ≠ 0 := by omega
    clear hq
    by_cases hdd : n % d = 0
    · have hd1 : ((n : Int) % (d : Int) == 0) = true := by
        have : ((n % d : Nat) : Int) = 0 := by omega
        simpa using this
      have HDD := Lib.hid hdd
      clear hdd
      go_wp2
      go_ret
      exact ⟨rfl, rfl⟩
    · have hd1 : ((n : Int) % (d : Int) == 0) = false := by
        have : ((n % d : Nat) : Int) ≠ 0 := by omega
        simpa using this
      have hne : d < d0 := by
        rcases Nat.lt_or_ge d d0 with h | h
        · exact h
        · obtain rfl : d = d0 := by omega
          exact absurd hdv.out hdd
      clear hdd
      go_wp2
      go_round
      case rel => exact ⟨d + 1, by omega, by omega, by go_num⟩
      case measure => simp [intOf]; omega
end Go.Proofs.Ytochamncdplaiaa
