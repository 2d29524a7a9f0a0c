/-
  The document's own comparison of two slices of ints answers true for two that read alike.
-/
import Derived.Test.YtklbegioifpfjaaD7
namespace Go.Proofs.Ytklbegioifpfjaa
open Go.RowKit

set_option maxHeartbeats 400000 in
theorem ints_same (B : Nat) (x y : Value) (l : List Nat) (w : World) (hx : RdI B w x l) (hy : RdI B w y l) (hl : l.length ≤ 100000) : Calls Try.prog 17 #[x, y] w (Drew (.bool true) w) := by
  have HX := Lib.hid hx
  have HY := Lib.hid hy
  obtain ⟨A, c, rfl, hc, hm⟩ := hx.shape
  obtain ⟨A2, c2, rfl, hc2, hm2⟩ := hy.shape
  unfold maxLen at hm hm2
  clear hx hy
  go_enter Try.func17, Try.ntmps17
  go_wp2
  go_loopw [5] (fun x wr => ∃ i : Nat, i ≤ l.length ∧ x = .int .i64 i ∧ Hid (∃ n, wr = w.drewN n)) (fun x _ => l.length - (intOf x).toNat)
  case atStart => exact ⟨0, by omega, rfl, 0, rfl⟩
  case round =>
    obtain ⟨i, hi, rfl, HW⟩ := hrel
    obtain ⟨m, rfl⟩ := HW.out
    by_cases hlt : i < l.length
    · obtain ⟨a, rfl, c1⟩ := HX.out.at_ i hlt
      obtain ⟨a2, rfl, c2⟩ := HY.out.at_ i hlt
      generalize l.getD i 0 = d at c1 c2
      have zi : (i : Int) < l.length := by omega
      go_wp2
      go_quiet (fail)
      go_wp2
      go_roundw
      case rel => exact ⟨i + 1, by omega, by go_num, _, rfl⟩
      case measure => simp [intOf]; omega
    · obtain rfl : i = l.length := by omega
      go_wp2
      go_ret
      exact ⟨rfl, m, rfl⟩
end Go.Proofs.Ytklbegioifpfjaa
