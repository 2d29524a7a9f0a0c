/-
  The fixed question of the laws of layer 5: the public hash of leaf 1, reckoned by the kernel. Of no program.
-/
import Derived.Test.YtllncnnigjgadaaGreatKA
namespace Go.Proofs.YtllncnnigjgadaaGreat
theorem u_1 : uN 1 (rN (eN 1) 265) = nU1 := by decide +kernel
end Go.Proofs.YtllncnnigjgadaaGreat
