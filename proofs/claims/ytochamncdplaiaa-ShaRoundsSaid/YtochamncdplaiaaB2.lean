/-
  The law ShaRounds: the round word of every place from 0 to 63 is the cube root's, of every other place there is none.
-/
import Derived.Test.YtochamncdplaiaaP4
namespace Go.Proofs.Ytochamncdplaiaa
open Go.RowKit

set_option maxHeartbeats 1000000 in
theorem rounds_law (i : Int) (w : World) (_h0 : -9223372036854775808 ≤ i) (_h1 : i ≤ 9223372036854775807) : Calls Try.prog 4 #[.int .i64 i] w fun e w' => e = .returned (.bool true) ∧ Below w.heap.size w w' := by
  by_cases hin : 0 ≤ i ∧ i < 64
  · obtain ⟨n, rfl⟩ := Int.eq_ofNat_of_zero_le hin.1
    have hn : n < 64 := by omega
    have zn : (n : Int) < 64 := by omega
    clear hin _h0 _h1
    go_enter Try.func4, Try.ntmps4
    go_wp2_with fail
    refine (round_in n w hn).mono ?_
    rintro e w1 ⟨rfl, hb1⟩
    have B1 := Lib.hid hb1
    clear hb1
    have hroot : ∀ w2, Calls Try.prog 13 #[.int .i64 (n : Int)] w2 fun e w' => e = .returned (.int .u32 ((kw.getD n 0 : Nat) : Int)) ∧ Below w2.heap.size w2 w' := fun w2 => root_any n w2 hn
    have HR := Lib.hid hroot
    clear hroot
    generalize kw.getD n 0 = x at HR ⊢
    go_wp2_with fail
    refine (alive_any w1).mono ?_
    rintro e w2 ⟨rfl, hb2⟩
    have B2 : Hid (Below w.heap.size w w2) := B1.out.trans (hb2.mono B1.out.size)
    clear hb2 B1
    go_wp2_with (go_at_call 13; refine (HR.out w2).mono ?_; rintro e w3 ⟨rfl, hb3⟩; have B3 := Lib.hid hb3; clear hb3)
    go_ret
    exact ⟨rfl, B2.out.trans (B3.out.mono B2.out.size)⟩
  · have hout : i < 0 ∨ 64 ≤ i := by omega
    clear hin
    rcases hout with h | h
    · go_enter Try.func4, Try.ntmps4
      go_wp2_with fail
      refine (round_out i w (.inl h)).mono ?_
      rintro e w1 ⟨rfl, hb1⟩
      have B1 := Lib.hid hb1
      clear hb1
      go_wp2_with (go_at_call 9; refine (alive_any _).mono ?_; rintro e w2 ⟨rfl, hb2⟩; have B2 := Lib.hid hb2; clear hb2)
      go_ret
      exact ⟨rfl, B1.out.trans (B2.out.mono B1.out.size)⟩
    · go_enter Try.func4, Try.ntmps4
      go_wp2_with fail
      refine (round_out i w (.inr h)).mono ?_
      rintro e w1 ⟨rfl, hb1⟩
      have B1 := Lib.hid hb1
      clear hb1
      go_wp2_with (go_at_call 9; refine (alive_any _).mono ?_; rintro e w2 ⟨rfl, hb2⟩; have B2 := Lib.hid hb2; clear hb2)
      go_ret
      exact ⟨rfl, B1.out.trans (B2.out.mono B1.out.size)⟩
end Go.Proofs.Ytochamncdplaiaa
