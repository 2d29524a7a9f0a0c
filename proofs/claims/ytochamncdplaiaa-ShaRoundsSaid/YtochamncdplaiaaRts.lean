/-
  All 64 round words are what the document's own way gives, reckoned by the kernel; so is which numbers up to 311 are primes.
-/
import Derived.Test.YtochamncdplaiaaN2
namespace Go.Proofs.Ytochamncdplaiaa
theorem rootsA : ∀ i < 16, rootl (pl.getD i 0) 36 % 4294967296 = kw.getD i 0 := by decide +kernel
theorem rootsB : ∀ i < 16, rootl (pl.getD (16 + i) 0) 36 % 4294967296 = kw.getD (16 + i) 0 := by decide +kernel
theorem rootsC : ∀ i < 16, rootl (pl.getD (32 + i) 0) 36 % 4294967296 = kw.getD (32 + i) 0 := by decide +kernel
theorem rootsD : ∀ i < 16, rootl (pl.getD (48 + i) 0) 36 % 4294967296 = kw.getD (48 + i) 0 := by decide +kernel
theorem roots (i : Nat) (h : i < 64) : rootl (pl.getD i 0) 36 % 4294967296 = kw.getD i 0 := by
  by_cases h1 : i < 16
  · exact rootsA i h1
  by_cases h2 : i < 32
  · have := rootsB (i - 16) (by omega); rwa [show 16 + (i - 16) = i by omega] at this
  by_cases h3 : i < 48
  · have := rootsC (i - 32) (by omega); rwa [show 32 + (i - 32) = i by omega] at this
  · have := rootsD (i - 48) (by omega); rwa [show 48 + (i - 48) = i by omega] at this
end Go.Proofs.Ytochamncdplaiaa
