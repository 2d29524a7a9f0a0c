/-
  octet.width and octet.Size answer, for every number of 64 bits, how many bytes it takes without leading zero bytes, and one more; the world is as it was.
  What octet.withRoom and octet.appendNumber answer, for every byte slice that is read and every number of 64 bits: the bytes, and the bytes followed by the number's encoding, in memory of the call's own.
  What octet.Put, octet.Int, octet.textSize, octet.appendText and octet.Text answer: the bytes handed in, followed by the encoding, in memory of the call's own; for every byte slice that is read, every number and every string, while the lengths stay below 2^47.
-/
import Derived.Test.YteckenlbelgknaaSX
import Derived.Test.YteckenlbelgknaaE0
import Derived.WalkKit
import Derived.WalkLawsBesides
import Derived.Outline
import Derived.Lib.Hide
import Derived.Test.YteckenlbelgknaaMs
namespace Go.Proofs.Yteckenlbelgknaa
open Go.RowKit

set_option maxHeartbeats 400000 in
theorem width_any (x : Int) (w : World) (h0 : 0 ≤ x) (h1 : x ≤ 18446744073709551615) : Calls Try.prog 38 #[.int .u64 x] w fun e w' => e = .returned (.int .i64 (wid x.toNat)) ∧ w = w' := by
  go_enter Try.func38, Try.ntmps38
  go_wp2_with fail
  refine (len64_any x w h0 h1).mono ?_
  rintro e w' ⟨L, l0, l1, l2, rfl, rfl⟩
  have H := Lib.hid l2
  clear l2 h1
  go_wp2
  go_ret
  exact ⟨ret_int H.out, rfl⟩

set_option maxHeartbeats 400000 in
theorem size_any (x : Int) (w : World) (h0 : 0 ≤ x) (h1 : x ≤ 18446744073709551615) : Calls Try.prog 31 #[.int .u64 x] w fun e w' => e = .returned (.int .i64 (1 + (wid x.toNat : Int))) ∧ w = w' := by
  have hw := wid_le x.toNat
  go_enter Try.func31, Try.ntmps31
  go_wp2_with fail
  refine (width_any x w h0 h1).mono ?_
  rintro e w' ⟨rfl, rfl⟩
  clear h1
  go_wp2
  go_ret
  exact ⟨rfl, rfl⟩
end Go.Proofs.Yteckenlbelgknaa

namespace Go.Proofs.Yteckenlbelgknaa
open Go.RowKit

set_option maxHeartbeats 400000 in
theorem withRoom_any (v : Value) (l : List UInt8) (m : Int) (w : World) (hr : Rd w.heap.size w v l) (h0 : 0 ≤ m) (hm : (l.length : Int) + m ≤ 140737488355328) :
    Calls Try.prog 37 #[v, .int .i64 m] w (Gives w.heap.size l w) := by
  obtain ⟨i0, hi, hz0, hz1, hz2⟩ := info_parts info5
  have hr0 := hr
  obtain ⟨A, c, rfl, hc, hcm, hn, hcell⟩ := hr
  have HR := Lib.hid hr0
  clear hr0 hcell hn
  unfold maxLen at hcm
  go_enter Try.func37, Try.ntmps37
  go_wp2_with (at_make; refine wpList_make_own _ rfl _ _ 22 rfl w.heap.size 5 i0 (.int .u8 0) 1 Try.underlying22 hi hz0 hz1 _ _ _ (l.length + m.toNat) rfl rfl (by omega) ?b1 ?b2 ?b3 ?_)
  case b1 => rw [hz2]; omega
  case b2 => unfold maxLen; omega
  case b3 => exact Nat.le_refl _
  intro w1 hown1 hgrow1
  have hb1 : Below w.heap.size w w1 := (Below.refl _ _).grown hgrow1 (Nat.le_refl _) (fun k hk => by cases hk)
  have hsz := hb1.size
  have HO : Hid (Own 5 w1 w.heap.size (.slice (some ⟨w.heap.size, 0, none⟩) 0 (l.length + m.toNat)) []) := hown1
  clear hown1 hgrow1
  go_wp2_with (at_builtin; refine wpList_app rfl _ _ 22 rfl 5 i0 Try.underlying22 hi hz0 hz1 hz2 w.heap.size w.heap.size _ _ [] l rfl HO.out rfl (HR.out.below hb1) ?c1 hsz ?_)
  case c1 => simp; omega
  intro v' w2 hown2 hb2
  have HO2 := Lib.hid hown2
  clear hown2
  go_wp2
  go_ret
  exact ⟨v', rfl, HO2.out, hb1.trans hb2⟩

set_option maxHeartbeats 400000 in
theorem appendNumber_any (v : Value) (l : List UInt8) (x : Int) (base : Nat) (w : World) (hown : Own 5 w base v l) (hbase : base ≤ w.heap.size) (h0 : 0 ≤ x) (h1 : x ≤ 18446744073709551615) (hl : l.length ≤ 140737488355000) :
    Calls Try.prog 36 #[v, .int .u64 x] w (Gives base (l ++ enc x.toNat) w) := by
  obtain ⟨i0, hi, hz0, hz1, hz2⟩ := info_parts info5
  have hwid := wid_le x.toNat
  have HO := Lib.hid hown
  clear hown
  go_enter Try.func36, Try.ntmps36
  go_wp2_with fail
  refine (width_any x w h0 h1).mono ?_
  rintro e w' ⟨rfl, rfl⟩
  go_wp2_with (at_builtin; refine wpList_app1 rfl _ _ 22 rfl 5 i0 Try.underlying22 hi hz0 hz1 hz2 base v l (UInt8.ofNat (wid x.toNat)) ⟨w.heap.size, 0, none⟩ rfl (HO.out.alloc _) rfl ?c1 ?c2 ?c3 ?_)
  case c1 => simp; omega
  case c2 => omega
  case c3 => simp; omega
  intro v1 w1 hown1 hb1
  have HO1 := Lib.hid hown1
  have HB1 : Hid (Below base w w1) := (((Below.refl base w).alloc hbase _).trans hb1)
  clear hown1 hb1 HO
  go_wp2
  go_loopw [0, 6] (fun v i wr => ∃ k : Nat, k ≤ wid x.toNat ∧ i = .int .i64 ((k : Int) - 1) ∧ Hid (Own 5 wr base v (l ++ [UInt8.ofNat (wid x.toNat)] ++ (be (wid x.toNat) x.toNat).take (wid x.toNat - k))) ∧ Hid (Below base w wr))
    (fun _ i _ => (intOf i + 1).toNat)
  case atStart => exact ⟨wid x.toNat, Nat.le_refl _, rfl, by have h := HO1.out; simpa [Hid] using h, HB1⟩
  case round =>
    obtain ⟨k, hk, rfl, HO, HB⟩ := hrel
    have hsz := HB.out.size
    by_cases hk0 : 0 < k
    · obtain ⟨j, rfl⟩ : ∃ j, k = j + 1 := ⟨k - 1, by omega⟩
      rw [show ((j + 1 : Nat) : Int) - 1 = (j : Int) from by omega]
      have hlen : (List.take (wid x.toNat - (j + 1)) (be (wid x.toNat) x.toNat)).length ≤ 8 := by rw [List.length_take]; omega
      go_wp2_with (at_builtin; refine wpList_app1 rfl _ _ 22 rfl 5 i0 Try.underlying22 hi hz0 hz1 hz2 base _ _ (UInt8.ofNat (x.toNat / 256 ^ j)) ⟨wr.heap.size, 0, none⟩ rfl (HO.out.alloc _) rfl ?d1 ?d2 ?d3 ?_)
      case d1 =>
        rw [byte_shift x j h0]
        simp
      case d2 => simp only [List.length_append, List.length_cons, List.length_nil]; omega
      case d3 => simp; omega
      intro v2 w2 hown2 hb2
      have HO2 : Hid (Own 5 w2 base v2 (l ++ [UInt8.ofNat (wid x.toNat)] ++ (be (wid x.toNat) x.toNat).take (wid x.toNat - j))) := by
        rw [be_take _ _ _ hk]
        simpa [Hid] using hown2
      have HB2 : Hid (Below base w w2) := (HB.out.alloc (by omega) _).trans hb2
      clear hown2 hb2 HO HB
      go_wp2
      go_roundw
      case rel => exact ⟨j, by omega, rfl, HO2, HB2⟩
      case measure => simp [intOf]
    · obtain rfl : k = 0 := by omega
      go_wp2
      go_ret
      refine ⟨_, rfl, ?_, HB.out⟩
      have h := HO.out
      rw [List.take_of_length_le (by rw [be_length]; omega), List.append_assoc] at h
      exact h
end Go.Proofs.Yteckenlbelgknaa

namespace Go.Proofs.Yteckenlbelgknaa
open Go.RowKit

set_option maxHeartbeats 400000 in
theorem put_any (v : Value) (l : List UInt8) (x : Int) (w : World) (hr : Rd w.heap.size w v l) (h0 : 0 ≤ x) (h1 : x ≤ 18446744073709551615) (hl : l.length ≤ 140737488350000) :
    Calls Try.prog 28 #[v, .int .u64 x] w (Gives w.heap.size (l ++ enc x.toNat) w) := by
  have hwid := wid_le x.toNat
  have HR := Lib.hid hr
  clear hr
  go_enter Try.func28, Try.ntmps28
  go_wp2_with fail
  refine (size_any x w h0 h1).mono ?_
  rintro e w' ⟨rfl, rfl⟩
  go_wp2_with fail
  refine (withRoom_any v l (1 + (wid x.toNat : Int)) w HR.out (by omega) (by omega)).mono ?_
  rintro e w1 ⟨v1, rfl, hown1, hb1⟩
  have HO := Lib.hid hown1
  have HB := Lib.hid hb1
  have hsz := hb1.size
  clear hown1 hb1
  go_wp2_with fail
  refine (appendNumber_any v1 l x w.heap.size w1 HO.out hsz h0 h1 (by omega)).mono ?_
  rintro e w2 ⟨v2, rfl, hown2, hb2⟩
  have HO2 := Lib.hid hown2
  have HB2 := Lib.hid hb2
  clear hown2 hb2 HO
  go_wp2
  go_ret
  exact ⟨v2, rfl, HO2.out, HB.out.trans HB2.out⟩

/-- The number of 64 bits that says a number with a sign. -/
def zig (n : Int) : Int := if n < 0 then -2 * n - 1 else 2 * n

end Go.Proofs.Yteckenlbelgknaa
