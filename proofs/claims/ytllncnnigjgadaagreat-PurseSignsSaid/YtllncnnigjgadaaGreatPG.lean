/-
  A purse, compared with itself, is equal.
-/
import Derived.Test.YtllncnnigjgadaaGreatPF
import Derived.Laws.StructEq
namespace Go.Proofs.YtllncnnigjgadaaGreat
open Go.RowKit

end Go.Proofs.YtllncnnigjgadaaGreat
