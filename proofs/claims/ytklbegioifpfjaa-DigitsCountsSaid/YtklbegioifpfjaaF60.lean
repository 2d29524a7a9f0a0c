/-
  The law DigitsCounts: for every hash and every byte the checksum is below 2^16, what is shifted away is 0, and all digits are as many as the hash's own and the check digits, each below 2 to the width.
-/
import Derived.Test.YtklbegioifpfjaaEq
namespace Go.Proofs.Ytklbegioifpfjaa
open Go.RowKit

theorem num_mod (l : List UInt8) (k : Nat) : num l k % 2 ^ shf k = 0 := Nat.mul_mod_left _ _

end Go.Proofs.Ytklbegioifpfjaa
