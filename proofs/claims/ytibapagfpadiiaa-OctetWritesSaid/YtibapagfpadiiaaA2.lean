/-
  octet.width and octet.Size answer, for every number of 64 bits, how many bytes it takes without leading zero bytes, and one more; the world is as it was.
-/
import Derived.Test.YtibapagfpadiiaaA1
import Derived.WalkKit
import Derived.WalkLawsBesides
import Derived.Outline
import Derived.Lib.Hide
namespace Go.Proofs.Ytibapagfpadiiaa
open Go.RowKit

theorem ret_int {k : IntKind} {a b : Int} (h : a = b) : Ending.returned (.int k a) = .returned (.int k b) := by rw [h]

set_option maxHeartbeats 400000 in
theorem width_any (x : Int) (w : World) (h0 : 0 ≤ x) (h1 : x ≤ 18446744073709551615) : Calls Try.prog 31 #[.int .u64 x] w fun e w' => e = .returned (.int .i64 (wid x.toNat)) ∧ w = w' := by
  go_enter Try.func31, Try.ntmps31
  go_wp2_with fail
  refine (len64_any x w h0 h1).mono ?_
  rintro e w' ⟨L, l0, l1, l2, rfl, rfl⟩
  have H := Lib.hid l2
  clear l2 h1
  go_wp2
  go_ret
  exact ⟨ret_int H.out, rfl⟩

set_option maxHeartbeats 400000 in
theorem size_any (x : Int) (w : World) (h0 : 0 ≤ x) (h1 : x ≤ 18446744073709551615) : Calls Try.prog 12 #[.int .u64 x] w fun e w' => e = .returned (.int .i64 (1 + (wid x.toNat : Int))) ∧ w = w' := by
  have hw := wid_le x.toNat
  go_enter Try.func12, Try.ntmps12
  go_wp2_with fail
  refine (width_any x w h0 h1).mono ?_
  rintro e w' ⟨rfl, rfl⟩
  clear h1
  go_wp2
  go_ret
  exact ⟨rfl, rfl⟩
end Go.Proofs.Ytibapagfpadiiaa
