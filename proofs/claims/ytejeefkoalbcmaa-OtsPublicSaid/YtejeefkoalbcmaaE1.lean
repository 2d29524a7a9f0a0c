/-
  The document's own comparison of two slices of ints answers true for two that read alike.
-/
import Derived.Test.YtejeefkoalbcmaaD7
namespace Go.Proofs.Ytejeefkoalbcmaa
open Go.RowKit

end Go.Proofs.Ytejeefkoalbcmaa
