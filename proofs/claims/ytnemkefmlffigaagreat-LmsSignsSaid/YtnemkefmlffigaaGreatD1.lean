/-
  isWidth, greatest, count and digit of package digits, and the document's own 'width': for every width, every byte slice that is read and every digit of it.
-/
import Derived.Test.YtnemkefmlffigaaGreatChecked
import Derived.Test.YtnemkefmlffigaaGreatPs
import Derived.Test.YtnemkefmlffigaaGreatMs
import Derived.WalkKit
import Derived.WalkLawsBesides
import Derived.Outline
import Derived.IntWalk
import Derived.Lib.Hide
import Derived.Deep.QuietTactic
import Derived.BigQuiet
import Derived.Deep.Draws
import Derived.Laws.BitsAllLaws
namespace Go.Proofs.YtnemkefmlffigaaGreat
open Go.RowKit

theorem ret_intD {k : IntKind} {a b : Int} (h : a = b) : Ending.returned (.int k a) = .returned (.int k b) := by rw [h]

/-- The call answers this value, and the world is as it was. -/
def Just (v : Value) (w : World) (e : Ending) (w' : World) : Prop := e = .returned v ∧ w = w'
/-- The call answers this value, and no old memory has changed. -/
def One (v : Value) (w : World) (e : Ending) (w' : World) : Prop := e = .returned v ∧ Below w.heap.size w w'
/-- The call answers this value, and has only drawn. -/
def Drew (v : Value) (w : World) (e : Ending) (w' : World) : Prop := e = .returned v ∧ ∃ n, w' = w.drewN n

set_option maxHeartbeats 400000 in
theorem isWidth_yes (k : Nat) (w : World) (hk : Wd k) : Calls Tryz.prog 86 #[.int .i64 (k : Int)] w (Just (.bool true) w) := by
  rcases hk with rfl | rfl | rfl | rfl
  all_goals
    go_enter Tryz.func86, Tryz.ntmps86
    go_wp2
    go_ret
    exact ⟨rfl, rfl⟩
set_option maxHeartbeats 400000 in
theorem isWidth_no (z : Int) (w : World) (h1 : (z == 1) = false) (h2 : (z == 2) = false) (h4 : (z == 4) = false) (h8 : (z == 8) = false) : Calls Tryz.prog 86 #[.int .i64 z] w (Just (.bool false) w) := by
  go_enter Tryz.func86, Tryz.ntmps86
  go_wp2
  go_ret
  exact ⟨rfl, rfl⟩
set_option maxHeartbeats 400000 in
theorem width_yes (k : Nat) (w : World) (hk : Wd k) : Calls Tryz.prog 100 #[.int .i64 (k : Int)] w (Just (.bool true) w) := by
  rcases hk with rfl | rfl | rfl | rfl
  all_goals
    go_enter Tryz.func100, Tryz.ntmps100
    go_wp2
    go_ret
    exact ⟨rfl, rfl⟩
set_option maxHeartbeats 400000 in
theorem width_no (z : Int) (w : World) (h1 : (z == 1) = false) (h2 : (z == 2) = false) (h4 : (z == 4) = false) (h8 : (z == 8) = false) : Calls Tryz.prog 100 #[.int .i64 z] w (Just (.bool false) w) := by
  go_enter Tryz.func100, Tryz.ntmps100
  go_wp2
  go_ret
  exact ⟨rfl, rfl⟩
set_option maxHeartbeats 400000 in
theorem greatest_any (k : Nat) (w : World) (hk : Wd k) : Calls Tryz.prog 102 #[.int .i64 (k : Int)] w (Just (.int .i64 (gr k : Nat)) w) := by
  rcases hk with rfl | rfl | rfl | rfl
  all_goals
    go_enter Tryz.func102, Tryz.ntmps102
    go_wp2
    go_ret
    exact ⟨rfl, rfl⟩
set_option maxHeartbeats 400000 in
theorem count_any (A : Option Addr) (n c k : Nat) (w : World) (hk : Wd k) (hn : n ≤ 1099511627776) : Calls Tryz.prog 105 #[.slice A n c, .int .i64 (k : Int)] w (Just (.int .i64 (n * (8 / k) : Nat)) w) := by
  rcases hk with rfl | rfl | rfl | rfl
  all_goals
    go_enter Tryz.func105, Tryz.ntmps105
    go_wp2
    go_ret
    exact ⟨ret_intD (by simp <;> omega), rfl⟩
end Go.Proofs.YtnemkefmlffigaaGreat
