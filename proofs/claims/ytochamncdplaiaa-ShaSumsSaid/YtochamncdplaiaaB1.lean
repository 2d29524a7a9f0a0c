/-
  The law ShaSums: for every byte slice the sum is the document's own hash, and the bytes stay as they were.
-/
import Derived.Test.YtochamncdplaiaaR4
import Derived.Test.YtochamncdplaiaaB6
namespace Go.Proofs.Ytochamncdplaiaa
open Go.RowKit

set_option maxHeartbeats 400000 in
theorem sums_big (v : Value) (l : List UInt8) (w : World) (hr : Rd w.heap.size w v l) (hl : 2000 < l.length) : Calls Try.prog 3 #[v] w fun e w' => e = .returned (.bool true) ∧ Below w.heap.size w w' := by
  obtain ⟨A, c, rfl, hc, hm, hn, hcell⟩ := hr
  clear hcell hn
  unfold maxLen at hm
  go_enter Try.func3, Try.ntmps3
  go_wp2_with (go_at_call 9; refine (alive_any _).mono ?_; rintro e w2 ⟨rfl, hb2⟩; have B2 := Lib.hid hb2; clear hb2)
  go_ret
  exact ⟨rfl, B2.out⟩

set_option maxHeartbeats 2000000 in
theorem sums_small (v : Value) (l : List UInt8) (w : World) (hr : Rd w.heap.size w v l) (hl : l.length ≤ 2000) : Calls Try.prog 3 #[v] w fun e w' => e = .returned (.bool true) ∧ Below w.heap.size w w' := by
  obtain ⟨i0, hi, hz0, hz1, hz2⟩ := info_parts info5
  have HI := Lib.hid hi
  have H0 := Lib.hid hz0
  have H1 := Lib.hid hz1
  have H2 := Lib.hid hz2
  have HR := Lib.hid hr
  obtain ⟨A, c, rfl, hc, hm, hn, hcell⟩ := hr
  clear hcell hn hi hz0 hz1 hz2
  unfold maxLen at hm
  go_enter Try.func3, Try.ntmps3
  go_wp2_with (at_builtin; refine wpList_app rfl _ _ 22 rfl 5 i0 Try.underlying22 HI.out H0.out H1.out H2.out w.heap.size w.heap.size _ _ [] l rfl (Own.made 5 w) rfl (HR.out.below ((Below.refl _ _).alloc (Nat.le_refl _) _)) (by simp; omega) (by simp) ?_)
  intro v1 w1 hown1 hb1
  have O1 : Hid (Rd w1.heap.size w1 v1 l) := hown1.rd
  obtain ⟨A1, c1, hv1, hc1, hcm1⟩ := O1.out.shape
  subst hv1
  have B1 : Hid (Below w.heap.size w w1) := ((Below.refl _ _).alloc (Nat.le_refl _) _).trans hb1
  have hs1 := B1.out.size
  clear hown1 hb1
  go_wp2_with fail
  refine (alive_any _).mono ?_
  rintro e w2 ⟨rfl, hb2⟩
  have O2 : Hid (Rd w1.heap.size w2 (.slice A1 l.length c1) l) := O1.out.below hb2
  have B2 : Hid (Below w.heap.size w w2) := B1.out.trans (hb2.mono hs1)
  have hs2 := hb2.size
  clear hb2 O1 B1
  go_wp2_with fail
  refine (sum_any _ l _ (O2.out.more hs2)).mono ?_
  rintro e w3 ⟨rfl, hb3⟩
  have O3 : Hid (Rd w2.heap.size w3 (.slice A1 l.length c1) l) := (O2.out.more hs2).below hb3
  have B3 : Hid (Below w.heap.size w w3) := B2.out.trans (hb3.mono (by omega))
  have hs3 := hb3.size
  clear hb3 O2 B2
  go_wp2_with fail
  refine (refSum_any _ l _ ((HR.out.below B3.out).more B3.out.size) hl).mono ?_
  rintro e w4 ⟨rfl, hb4⟩
  have O4 : Hid (Rd w3.heap.size w4 (.slice A1 l.length c1) l) := (O3.out.more hs3).below hb4
  have B4 : Hid (Below w.heap.size w w4) := B3.out.trans (hb4.mono (by omega))
  clear hb4 O3 B3
  have heq := eq24 (hash l) (hash_length _) w4
  have st1 := run_string_rd (P := Try.prog) 22 9 5 Try.underlying22 Try.underlying5 Try.underlying9 O4.out
  have st2 := run_string_rd (P := Try.prog) 22 9 5 Try.underlying22 Try.underlying5 Try.underlying9 (HR.out.below B4.out)
  go_wp2
  go_ret
  exact ⟨rfl, B4.out⟩

theorem sums_law (v : Value) (l : List UInt8) (w : World) (hr : Rd w.heap.size w v l) : Calls Try.prog 3 #[v] w fun e w' => e = .returned (.bool true) ∧ Below w.heap.size w w' := by
  by_cases h : 2000 < l.length
  · exact sums_big v l w hr h
  · exact sums_small v l w hr (by omega)
end Go.Proofs.Ytochamncdplaiaa
