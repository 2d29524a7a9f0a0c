/-
  The fixed question of the laws of layer 5: the candidate of the text 'b', reckoned by the kernel. Of no program.
-/
import Derived.Test.YtllncnnigjgadaaGreatKA
namespace Go.Proofs.YtllncnnigjgadaaGreat
theorem u_c : uN 1 (rN cN 265) = nUC := by decide +kernel
end Go.Proofs.YtllncnnigjgadaaGreat
