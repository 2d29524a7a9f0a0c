/-
  Bytes and words of 32 bits that came in as arguments. Each theorem states its own conditions.
-/
import Derived.Test.YteckenlbelgknaaOP
namespace Go.Proofs.Yteckenlbelgknaa
open Go.RowKit

theorem u8_of {n : Int} (h : (Lit.int .u8 n).wf = true) : ∃ y : UInt8, n = (y.toNat : Int) := by
  have hb := bounds_u8 h
  refine ⟨UInt8.ofNat n.toNat, ?_⟩
  rw [show (UInt8.ofNat n.toNat).toNat = n.toNat % 256 from by simp]
  omega
theorem u32_of {n : Int} (h : (Lit.int .u32 n).wf = true) : ∃ y : Nat, n = (y : Int) ∧ y < 4294967296 := by
  have hb : 0 ≤ n ∧ n < 4294967296 := by
    simp [Lit.wf, IntKind.min, IntKind.max, IntKind.signed, IntKind.bits] at h
    omega
  exact ⟨n.toNat, by omega, by omega⟩
end Go.Proofs.Yteckenlbelgknaa
