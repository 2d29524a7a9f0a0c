/-
  The program's contracts that the laws ask for. Each theorem states its own conditions.
-/
import Derived.Test.YteckenlbelgknaaCE
import Derived.Test.YteckenlbelgknaaCF
namespace Go.Proofs.Yteckenlbelgknaa
open Go.RowKit

theorem crMore_any (s : Nat) (l : List UInt8) (v : Value) (w : World) (hs : s < 4294967296) (hr : Rd w.heap.size w v l) (_ : l.length ≤ 1000000) : Calls Try.prog 13 #[.int .u32 (s : Int), v] w (OneC (.int .u32 (moreC s l : Int)) w) := crMore_w s l v w hs hr
theorem crSum_any (l : List UInt8) (v : Value) (w : World) (hr : Rd w.heap.size w v l) (_ : l.length ≤ 1000000) : Calls Try.prog 11 #[v] w (OneC (.int .u32 (sumC l : Int)) w) := crSum_w l v w hr
theorem crLong_any (z : Int) (w : World) (hz : z ≤ 1000000000) : Calls Try.prog 17 #[.int .i64 z] w (OneC (.int .i64 (longC z.toNat : Int)) w) :=
  (crLong_w z w hz).mono (by rintro e w' ⟨rfl, rfl⟩; exact ⟨rfl, Below.refl _ _⟩)
end Go.Proofs.Yteckenlbelgknaa
