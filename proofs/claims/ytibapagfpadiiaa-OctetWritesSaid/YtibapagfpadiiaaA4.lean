/-
  What octet.Put, octet.Int, octet.textSize, octet.appendText and octet.Text answer: the bytes handed in, followed by the encoding, in memory of the call's own; for every byte slice that is read, every number and every string, while the lengths stay below 2^47.
-/
import Derived.Test.YtibapagfpadiiaaA3
import Derived.Test.YtibapagfpadiiaaMemS
namespace Go.Proofs.Ytibapagfpadiiaa
open Go.RowKit

set_option maxHeartbeats 400000 in
theorem put_any (v : Value) (l : List UInt8) (x : Int) (w : World) (hr : Rd w.heap.size w v l) (h0 : 0 ≤ x) (h1 : x ≤ 18446744073709551615) (hl : l.length ≤ 140737488350000) :
    Calls Try.prog 10 #[v, .int .u64 x] w (Gives w.heap.size (l ++ enc x.toNat) w) := by
  have hwid := wid_le x.toNat
  have HR := Lib.hid hr
  clear hr
  go_enter Try.func10, Try.ntmps10
  go_wp2_with fail
  refine (size_any x w h0 h1).mono ?_
  rintro e w' ⟨rfl, rfl⟩
  go_wp2_with fail
  refine (withRoom_any v l (1 + (wid x.toNat : Int)) w HR.out (by omega) (by omega)).mono ?_
  rintro e w1 ⟨v1, rfl, hown1, hb1⟩
  have HO := Lib.hid hown1
  have HB := Lib.hid hb1
  have hsz := hb1.size
  clear hown1 hb1
  go_wp2_with fail
  refine (appendNumber_any v1 l x w.heap.size w1 HO.out hsz h0 h1 (by omega)).mono ?_
  rintro e w2 ⟨v2, rfl, hown2, hb2⟩
  have HO2 := Lib.hid hown2
  have HB2 := Lib.hid hb2
  clear hown2 hb2 HO
  go_wp2
  go_ret
  exact ⟨v2, rfl, HO2.out, HB.out.trans HB2.out⟩

/-- The number of 64 bits that says a number with a sign. -/
def zig (n : Int) : Int := if n < 0 then -2 * n - 1 else 2 * n

set_option maxHeartbeats 400000 in
theorem int_any (v : Value) (l : List UInt8) (n : Int) (w : World) (hr : Rd w.heap.size w v l) (h0 : -9223372036854775808 ≤ n) (h1 : n ≤ 9223372036854775807) (hl : l.length ≤ 140737488350000) :
    Calls Try.prog 14 #[v, .int .i64 n] w (Gives w.heap.size (l ++ enc (zig n).toNat) w) := by
  have HR := Lib.hid hr
  clear hr
  by_cases hn : n < 0
  · have hz : (-(n + 1) * 2 + 1).toNat = (zig n).toNat := by unfold zig; rw [if_pos hn]; omega
    have HZ := Lib.hid hz
    clear hz
    go_enter Try.func14, Try.ntmps14
    go_wp2_with fail
    refine (put_any v l (-(n + 1) * 2 + 1) w HR.out (by omega) (by omega) hl).mono ?_
    rintro e w1 ⟨v1, rfl, hown1, hb1⟩
    rw [HZ.out] at hown1
    have HO := Lib.hid hown1
    have HB := Lib.hid hb1
    clear hown1 hb1
    go_wp2
    go_ret
    exact ⟨v1, rfl, HO.out, HB.out⟩
  · have hz : (n * 2).toNat = (zig n).toNat := by unfold zig; rw [if_neg hn]; omega
    have HZ := Lib.hid hz
    clear hz
    go_enter Try.func14, Try.ntmps14
    go_wp2_with fail
    refine (put_any v l (n * 2) w HR.out (by omega) (by omega) hl).mono ?_
    rintro e w1 ⟨v1, rfl, hown1, hb1⟩
    rw [HZ.out] at hown1
    have HO := Lib.hid hown1
    have HB := Lib.hid hb1
    clear hown1 hb1
    go_wp2
    go_ret
    exact ⟨v1, rfl, HO.out, HB.out⟩

set_option maxHeartbeats 400000 in
theorem textSize_any (s : ByteArray) (w : World) (hs : (s.size : Int) ≤ 140737488355328) :
    Calls Try.prog 33 #[.string s] w fun e w' => e = .returned (.int .i64 (1 + (wid s.size : Int) + s.size)) ∧ w = w' := by
  have hwid := wid_le s.size
  go_enter Try.func33, Try.ntmps33
  go_wp2_with fail
  refine (size_any (s.size : Int) w (by omega) (by omega)).mono ?_
  rintro e w' ⟨rfl, rfl⟩
  rw [Int.toNat_natCast]
  go_wp2
  go_ret
  exact ⟨rfl, rfl⟩

set_option maxHeartbeats 400000 in
theorem appendText_any (v : Value) (l : List UInt8) (s : ByteArray) (base : Nat) (w : World) (hown : Own 5 w base v l) (hbase : base ≤ w.heap.size) (hl : (l.length : Int) + s.size ≤ 140737488350000) :
    Calls Try.prog 32 #[v, .string s] w (Gives base (l ++ encS s) w) := by
  obtain ⟨i0, hi, hz0, hz1, hz2⟩ := info_parts info5
  have hwid := wid_le s.size
  have HO := Lib.hid hown
  clear hown
  go_enter Try.func32, Try.ntmps32
  go_wp2_with fail
  refine (appendNumber_any v l (s.size : Int) base w HO.out hbase (by omega) (by omega) (by omega)).mono ?_
  rintro e w1 ⟨v1, rfl, hown1, hb1⟩
  rw [Int.toNat_natCast] at hown1
  have HO1 := Lib.hid hown1
  have HB := Lib.hid hb1
  have hsz := hb1.size
  clear hown1 hb1
  go_wp2_with (at_builtin; refine wpList_apps rfl _ _ 22 9 rfl 5 i0 Try.underlying22 Try.underlying9 hi hz0 hz1 hz2 base v1 _ s rfl HO1.out rfl ?c1 ?c2 ?_)
  case c1 => rw [List.length_append, enc_length]; omega
  case c2 => omega
  intro v2 w2 hown2 hb2
  have HO2 := Lib.hid hown2
  have HB2 := Lib.hid hb2
  clear hown2 hb2
  go_wp2
  go_ret
  exact ⟨v2, rfl, HO2.out, HB.out.trans HB2.out⟩

set_option maxHeartbeats 400000 in
theorem text_any (v : Value) (l : List UInt8) (s : ByteArray) (w : World) (hr : Rd w.heap.size w v l) (hl : (l.length : Int) + s.size ≤ 140737488350000) :
    Calls Try.prog 16 #[v, .string s] w (Gives w.heap.size (l ++ encS s) w) := by
  have hwid := wid_le s.size
  have HR := Lib.hid hr
  clear hr
  go_enter Try.func16, Try.ntmps16
  go_wp2_with fail
  refine (textSize_any s w (by omega)).mono ?_
  rintro e w' ⟨rfl, rfl⟩
  go_wp2_with fail
  refine (withRoom_any v l (1 + (wid s.size : Int) + s.size) w HR.out (by omega) (by omega)).mono ?_
  rintro e w1 ⟨v1, rfl, hown1, hb1⟩
  have HO := Lib.hid hown1
  have HB := Lib.hid hb1
  have hsz := hb1.size
  clear hown1 hb1
  go_wp2_with fail
  refine (appendText_any v1 l s w.heap.size w1 HO.out hsz hl).mono ?_
  rintro e w2 ⟨v2, rfl, hown2, hb2⟩
  have HO2 := Lib.hid hown2
  have HB2 := Lib.hid hb2
  clear hown2 hb2 HO
  go_wp2
  go_ret
  exact ⟨v2, rfl, HO2.out, HB.out.trans HB2.out⟩
end Go.Proofs.Ytibapagfpadiiaa
