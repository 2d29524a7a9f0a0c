/-
  The law DigitsTells: for every byte slice, every int and every width (or none) the digit is that of the document's own words.
-/
import Derived.Test.YtklbegioifpfjaaR1
namespace Go.Proofs.Ytklbegioifpfjaa
open Go.RowKit

/-- What both digits answer, with only draws. -/
theorem digitX_any (v : Value) (l : List UInt8) (i z : Int) (w : World) (hr : Rd w.heap.size w v l) (hl : l.length ≤ 100000) : ∃ x y : Int,
    Calls Try.prog 9 #[v, .int .i64 i, .int .i64 z] w (Drew (.tuple #[.int .i64 x, .int .i64 y]) w) ∧ ∀ n, Calls Try.prog 10 #[v, .int .i64 i, .int .i64 z] (w.drewN n) (Just (.tuple #[.int .i64 x, .int .i64 y]) (w.drewN n)) := by
  have hrn : ∀ n, Rd w.heap.size (w.drewN n) v l := fun n => hr.keep (fun p _ => rfl)
  rcases width_or z with ⟨k, hk, rfl⟩ | hz
  · by_cases h : i < 0 ∨ ((l.length * (8 / k) : Nat) : Int) ≤ i
    · exact ⟨0, 1, (digitX_out _ v l i k w hk hr (by omega) h).mono fun _ _ ⟨he, hw⟩ => ⟨he, 0, hw.symm⟩, fun n => refDigit_out _ v l i k _ hk (hrn n) hl h⟩
    · obtain ⟨j, rfl⟩ : ∃ j : Nat, i = (j : Int) := ⟨i.toNat, by omega⟩
      exact ⟨_, 0, digitX_in _ v l j k w hk hr (by omega) (by omega), fun n => refDigit_in _ v l j k _ hk (hrn n) hl (by omega)⟩
  · exact ⟨0, 1, (digitX_no v i z w hz).mono fun _ _ ⟨he, hw⟩ => ⟨he, 0, hw.symm⟩, fun n => refDigit_no v i z _ hz⟩

set_option maxHeartbeats 400000 in
theorem tells_law (v : Value) (l : List UInt8) (i z : Int) (w : World) (hr : Rd w.heap.size w v l) (_ : -9223372036854775808 ≤ i) (_ : i ≤ 9223372036854775807) (_ : -9223372036854775808 ≤ z) (_ : z ≤ 9223372036854775807) : Calls Try.prog 3 #[v, .int .i64 i, .int .i64 z] w (One (.bool true) w) := by
  by_cases hl : 3000 < l.length
  · obtain ⟨A, c, rfl, hc, hm⟩ := hr.shape
    unfold maxLen at hm
    clear hr
    go_enter Try.func3, Try.ntmps3
    go_wp2_with fail
    refine (alive_any _).mono ?_
    rintro e w5 ⟨rfl, hb⟩
    have B5 := Lib.hid hb
    clear hb
    go_wp2
    go_ret
    exact ⟨rfl, B5.out⟩
  · obtain ⟨x, y, C1, C2⟩ := digitX_any v l i z w hr (by omega)
    have H1 := Lib.hid C1
    have H2 := Lib.hid C2
    obtain ⟨A, c, rfl, hc, hm⟩ := hr.shape
    unfold maxLen at hm
    clear hr C1 C2
    go_enter Try.func3, Try.ntmps3
    go_wp2_with fail
    refine H1.out.mono ?_
    rintro e w2 ⟨rfl, n, rfl⟩
    go_wp2_with fail
    refine (H2.out n).mono ?_
    rintro e w3 ⟨rfl, rfl⟩
    go_wp2_with fail
    refine (alive_any _).mono ?_
    rintro e w5 ⟨rfl, hb⟩
    have B5 : Hid (Below w.heap.size w w5) := (Below.drewN' (Below.refl _ _)).trans hb
    clear hb
    go_wp2
    go_ret
    exact ⟨rfl, B5.out⟩
end Go.Proofs.Ytklbegioifpfjaa
