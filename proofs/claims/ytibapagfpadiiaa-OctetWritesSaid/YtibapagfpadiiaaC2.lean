/-
  consistoryref01.Strings answers true for two slices that read as the same strings; what was there stays.
-/
import Derived.Test.YtibapagfpadiiaaC1
namespace Go.Proofs.Ytibapagfpadiiaa
open Go.RowKit
set_option linter.unusedVariables false

set_option maxHeartbeats 1000000 in
theorem strings_same (va vb : Value) (ss : List ByteArray) (B B' : Nat) (w : World) (ha : RdS B w va ss) (hb : RdS B' w vb ss) (hB : B ≤ w.heap.size) (hB' : B' ≤ w.heap.size) (hl : ss.length ≤ 9223372036854775806) :
    Calls Try.prog 28 #[va, vb] w (TrueStays w) := by
  obtain ⟨A, c, hv, _, _⟩ := ha.shape
  obtain ⟨A', c', hv', _, _⟩ := hb.shape
  rw [hv] at ha ⊢
  rw [hv'] at hb ⊢
  have HA := Lib.hid ha
  have HB := Lib.hid hb
  clear ha hb hv hv'
  go_enter Try.func28, Try.ntmps28
  go_wp2
  go_loopw [5] (fun i wr => ∃ k : Nat, k ≤ ss.length ∧ i = .int .i64 k ∧ Hid (Below w.heap.size w wr)) (fun i _ => ss.length - (intOf i).toNat)
  case atStart => exact ⟨0, Nat.zero_le _, rfl, Below.refl _ _⟩
  case round =>
    obtain ⟨k, hk, rfl, HW⟩ := hrel
    by_cases hlt : k < ss.length
    · obtain ⟨a, rfl, hcell⟩ := (HA.out.below (HW.out.mono hB)).at_ k hlt
      obtain ⟨a', rfl, hcell'⟩ := (HB.out.below (HW.out.mono hB')).at_ k hlt
      generalize ss[k] = s at *
      have hlt2 : (k : Int) < (ss.length : Int) := by omega
      go_wp2
      go_quiet (fail)
      go_wp2
      go_roundw
      case rel => exact ⟨k + 1, by omega, by go_num, HW.out.trans (below_drewN _ _ _)⟩
      case measure => simp [intOf]; omega
    · obtain rfl : k = ss.length := by omega
      go_wp2
      go_ret
      exact ⟨rfl, HW.out⟩
end Go.Proofs.Ytibapagfpadiiaa
