/-
  Digit, Own, Check, Shift and Number of package digits: for every input; and the statements' live question, which is answered with true.
-/
import Derived.Test.YtnemkefmlffigaaGreatD6
namespace Go.Proofs.YtnemkefmlffigaaGreat
open Go.RowKit


set_option maxHeartbeats 400000 in
theorem ownX_yes (k : Nat) (w : World) (hk : Wd k) : Calls Tryz.prog 83 #[.int .i64 (k : Int)] w (TwoD (.int .i64 (onn k : Nat)) (.int .i64 0) w) := by
  have HK := Lib.hid hk
  clear hk
  go_enter Tryz.func83, Tryz.ntmps83
  go_wp2_with fail
  refine (isWidth_yes k _ HK.out).mono ?_
  rintro e w2 ⟨rfl, rfl⟩
  go_wp2_with fail
  refine (own_any k _ HK.out).mono ?_
  rintro e w2 ⟨rfl, hb⟩
  have B := Lib.hid hb
  clear hb
  go_wp2
  go_ret2
  exact ⟨rfl, B.out⟩
set_option maxHeartbeats 400000 in
theorem ownX_no (z : Int) (w : World) (hz : NoW z) : Calls Tryz.prog 83 #[.int .i64 z] w (TwoD (.int .i64 0) (.int .i64 1) w) := by
  obtain ⟨h1, h2, h4, h8⟩ := hz
  go_enter Tryz.func83, Tryz.ntmps83
  go_wp2_with fail
  refine (isWidth_no z _ h1 h2 h4 h8).mono ?_
  rintro e w2 ⟨rfl, rfl⟩
  go_wp2
  go_ret2
  exact ⟨rfl, Below.refl _ _⟩
set_option maxHeartbeats 400000 in
theorem checkX_yes (k : Nat) (w : World) (hk : Wd k) : Calls Tryz.prog 84 #[.int .i64 (k : Int)] w (TwoD (.int .i64 (chk k : Nat)) (.int .i64 0) w) := by
  have HK := Lib.hid hk
  clear hk
  go_enter Tryz.func84, Tryz.ntmps84
  go_wp2_with fail
  refine (isWidth_yes k _ HK.out).mono ?_
  rintro e w2 ⟨rfl, rfl⟩
  go_wp2_with fail
  refine (check_any k _ HK.out).mono ?_
  rintro e w2 ⟨rfl, hb⟩
  have B := Lib.hid hb
  clear hb
  go_wp2
  go_ret2
  exact ⟨rfl, B.out⟩
set_option maxHeartbeats 400000 in
theorem checkX_no (z : Int) (w : World) (hz : NoW z) : Calls Tryz.prog 84 #[.int .i64 z] w (TwoD (.int .i64 0) (.int .i64 1) w) := by
  obtain ⟨h1, h2, h4, h8⟩ := hz
  go_enter Tryz.func84, Tryz.ntmps84
  go_wp2_with fail
  refine (isWidth_no z _ h1 h2 h4 h8).mono ?_
  rintro e w2 ⟨rfl, rfl⟩
  go_wp2
  go_ret2
  exact ⟨rfl, Below.refl _ _⟩

end Go.Proofs.YtnemkefmlffigaaGreat
