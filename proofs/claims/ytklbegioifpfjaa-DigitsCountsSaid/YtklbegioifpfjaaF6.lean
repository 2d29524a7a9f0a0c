/-
  The law DigitsCounts: for every hash and every byte.
-/
import Derived.Test.YtklbegioifpfjaaF61
import Derived.Test.YtklbegioifpfjaaF62
import Derived.Test.YtklbegioifpfjaaF64
import Derived.Test.YtklbegioifpfjaaF68
namespace Go.Proofs.Ytklbegioifpfjaa
open Go.RowKit

theorem counts_law (l : List UInt8) (z : Int) (w : World) (hl : l.length = 32) (h0 : 0 ≤ z) (h1 : z ≤ 255) : Calls Try.prog 7 #[.agg (bys l).toArray, .int .u8 z] w (One (.bool true) w) := by
  obtain ⟨u, rfl⟩ : ∃ u : Nat, z = (u : Int) := ⟨z.toNat, by omega⟩
  have : u % 4 = 0 ∨ u % 4 = 1 ∨ u % 4 = 2 ∨ u % 4 = 3 := by omega
  rcases this with h | h | h | h
  · exact countsLaw_1 l u w hl (by omega) h
  · exact countsLaw_2 l u w hl (by omega) h
  · exact countsLaw_4 l u w hl (by omega) h
  · exact countsLaw_8 l u w hl (by omega) h
end Go.Proofs.Ytklbegioifpfjaa
