/-
  The fixed question of the laws of layer 5: the public hash of leaf 0, reckoned by the kernel. Of no program.
-/
import Derived.Test.YtllncnnigjgadaaGreatKA
namespace Go.Proofs.YtllncnnigjgadaaGreat
theorem u_0 : uN 0 (rN (eN 0) 265) = nU0 := by decide +kernel
end Go.Proofs.YtllncnnigjgadaaGreat
