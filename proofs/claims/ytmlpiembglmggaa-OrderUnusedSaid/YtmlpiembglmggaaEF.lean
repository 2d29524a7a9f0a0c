/-
  octet.width and octet.Size answer, for every number of 64 bits, how many bytes it takes without leading zero bytes, and one more; the world is as it was. What octet.withRoom and octet.appendNumber answer, for every byte slice that is read and every number of 64 bits: the bytes, and the bytes followed by the number's encoding, in memory of the call's own. What octet.Put, octet.Int, octet.textSize, octet.appendText and octet.Text answer: the bytes handed in, followed by the encoding, in memory of the call's own; for every byte slice that is read, every number and every string, while the lengths stay below 2^47.
  What octet.cutNumber, octet.detached, octet.Take and octet.TakeInt answer for every byte slice that is read: the number ahead, what is left, or the error. The law's live question 'alive' answers true, in every world; what was there stays.
  What octet.listSize and octet.List answer, for every slice of strings that is read and every byte slice, while the lengths stay below 2^47: how many bytes the encoding has, and the bytes followed by it, in memory of the call's own. What octet.TakeInt, octet.above, octet.cutText and octet.TakeText answer for every byte slice that is read and every limit: the number with a sign or the string ahead, what is left, or the error. What octet.TakeList answers for every byte slice of at most 2^40 bytes that is read and all limits: the strings ahead, what is left, or the error.
  Plain facts on the encodings: what was encoded is taken as it was, what is taken has no other encoding, and where a limit is passed the error is 'large'. Each theorem states its own conditions.
  consistoryref01.Strings answers true for two slices that read as the same strings; what was there stays.
  What the document's own Take, TakeText, TakeInt and TakeList (consistoryref01) answer for every byte slice that is read: the same as octet's; what was there stays. What the document's own TakeText, TakeInt and TakeList (consistoryref01) answer for every byte slice that is read: the same as octet's; what was there stays.
  What the document's own Size, Put, Int, Text and List (consistoryref01) answer: the same bytes as octet's; in memory of the call's own, what was there stays.
-/
import Derived.Test.YtmlpiembglmggaaSX
import Derived.Test.YtmlpiembglmggaaE0
import Derived.WalkKit
import Derived.WalkLawsBesides
import Derived.Outline
import Derived.Lib.Hide
import Derived.Test.YtmlpiembglmggaaMs
import Derived.BigQuiet
import Derived.LoopN
import Derived.Deep.QuietTactic
import Derived.Laws.BitsAllLaws
import Derived.Test.YtmlpiembglmggaaCC
namespace Go.Proofs.Ytmlpiembglmggaa
open Go.RowKit

set_option maxHeartbeats 400000 in
theorem width_any (x : Int) (w : World) (h0 : 0 ≤ x) (h1 : x ≤ 18446744073709551615) : Calls Try.prog 58 #[.int .u64 x] w fun e w' => e = .returned (.int .i64 (wid x.toNat)) ∧ w = w' := by
  go_enter Try.func58, Try.ntmps58
  go_wp2_with fail
  refine (len64_any x w h0 h1).mono ?_
  rintro e w' ⟨L, l0, l1, l2, rfl, rfl⟩
  have H := Lib.hid l2
  clear l2 h1
  go_wp2
  go_ret
  exact ⟨ret_int H.out, rfl⟩

set_option maxHeartbeats 400000 in
theorem size_any (x : Int) (w : World) (h0 : 0 ≤ x) (h1 : x ≤ 18446744073709551615) : Calls Try.prog 56 #[.int .u64 x] w fun e w' => e = .returned (.int .i64 (1 + (wid x.toNat : Int))) ∧ w = w' := by
  have hw := wid_le x.toNat
  go_enter Try.func56, Try.ntmps56
  go_wp2_with fail
  refine (width_any x w h0 h1).mono ?_
  rintro e w' ⟨rfl, rfl⟩
  clear h1
  go_wp2
  go_ret
  exact ⟨rfl, rfl⟩
end Go.Proofs.Ytmlpiembglmggaa

namespace Go.Proofs.Ytmlpiembglmggaa
open Go.RowKit

set_option maxHeartbeats 400000 in
theorem withRoom_any (v : Value) (l : List UInt8) (m : Int) (w : World) (hr : Rd w.heap.size w v l) (h0 : 0 ≤ m) (hm : (l.length : Int) + m ≤ 140737488355328) :
    Calls Try.prog 45 #[v, .int .i64 m] w (Gives w.heap.size l w) := by
  obtain ⟨i0, hi, hz0, hz1, hz2⟩ := info_parts info5
  have hr0 := hr
  obtain ⟨A, c, rfl, hc, hcm, hn, hcell⟩ := hr
  have HR := Lib.hid hr0
  clear hr0 hcell hn
  unfold maxLen at hcm
  go_enter Try.func45, Try.ntmps45
  go_wp2_with (at_make; refine wpList_make_own _ rfl _ _ 22 rfl w.heap.size 5 i0 (.int .u8 0) 1 Try.underlying22 hi hz0 hz1 _ _ _ (l.length + m.toNat) rfl rfl (by omega) ?b1 ?b2 ?b3 ?_)
  case b1 => rw [hz2]; omega
  case b2 => unfold maxLen; omega
  case b3 => exact Nat.le_refl _
  intro w1 hown1 hgrow1
  have hb1 : Below w.heap.size w w1 := (Below.refl _ _).grown hgrow1 (Nat.le_refl _) (fun k hk => by cases hk)
  have hsz := hb1.size
  have HO : Hid (Own 5 w1 w.heap.size (.slice (some ⟨w.heap.size, 0, none⟩) 0 (l.length + m.toNat)) []) := hown1
  clear hown1 hgrow1
  go_wp2_with (at_builtin; refine wpList_app rfl _ _ 22 rfl 5 i0 Try.underlying22 hi hz0 hz1 hz2 w.heap.size w.heap.size _ _ [] l rfl HO.out rfl (HR.out.below hb1) ?c1 hsz ?_)
  case c1 => simp; omega
  intro v' w2 hown2 hb2
  have HO2 := Lib.hid hown2
  clear hown2
  go_wp2
  go_ret
  exact ⟨v', rfl, HO2.out, hb1.trans hb2⟩

set_option maxHeartbeats 400000 in
theorem appendNumber_any (v : Value) (l : List UInt8) (x : Int) (base : Nat) (w : World) (hown : Own 5 w base v l) (hbase : base ≤ w.heap.size) (h0 : 0 ≤ x) (h1 : x ≤ 18446744073709551615) (hl : l.length ≤ 140737488355000) :
    Calls Try.prog 48 #[v, .int .u64 x] w (Gives base (l ++ enc x.toNat) w) := by
  obtain ⟨i0, hi, hz0, hz1, hz2⟩ := info_parts info5
  have hwid := wid_le x.toNat
  have HO := Lib.hid hown
  clear hown
  go_enter Try.func48, Try.ntmps48
  go_wp2_with fail
  refine (width_any x w h0 h1).mono ?_
  rintro e w' ⟨rfl, rfl⟩
  go_wp2_with (at_builtin; refine wpList_app1 rfl _ _ 22 rfl 5 i0 Try.underlying22 hi hz0 hz1 hz2 base v l (UInt8.ofNat (wid x.toNat)) ⟨w.heap.size, 0, none⟩ rfl (HO.out.alloc _) rfl ?c1 ?c2 ?c3 ?_)
  case c1 => simp; omega
  case c2 => omega
  case c3 => simp; omega
  intro v1 w1 hown1 hb1
  have HO1 := Lib.hid hown1
  have HB1 : Hid (Below base w w1) := (((Below.refl base w).alloc hbase _).trans hb1)
  clear hown1 hb1 HO
  go_wp2
  go_loopw [0, 6] (fun v i wr => ∃ k : Nat, k ≤ wid x.toNat ∧ i = .int .i64 ((k : Int) - 1) ∧ Hid (Own 5 wr base v (l ++ [UInt8.ofNat (wid x.toNat)] ++ (be (wid x.toNat) x.toNat).take (wid x.toNat - k))) ∧ Hid (Below base w wr))
    (fun _ i _ => (intOf i + 1).toNat)
  case atStart => exact ⟨wid x.toNat, Nat.le_refl _, rfl, by have h := HO1.out; simpa [Hid] using h, HB1⟩
  case round =>
    obtain ⟨k, hk, rfl, HO, HB⟩ := hrel
    have hsz := HB.out.size
    by_cases hk0 : 0 < k
    · obtain ⟨j, rfl⟩ : ∃ j, k = j + 1 := ⟨k - 1, by omega⟩
      rw [show ((j + 1 : Nat) : Int) - 1 = (j : Int) from by omega]
      have hlen : (List.take (wid x.toNat - (j + 1)) (be (wid x.toNat) x.toNat)).length ≤ 8 := by rw [List.length_take]; omega
      go_wp2_with (at_builtin; refine wpList_app1 rfl _ _ 22 rfl 5 i0 Try.underlying22 hi hz0 hz1 hz2 base _ _ (UInt8.ofNat (x.toNat / 256 ^ j)) ⟨wr.heap.size, 0, none⟩ rfl (HO.out.alloc _) rfl ?d1 ?d2 ?d3 ?_)
      case d1 =>
        rw [byte_shift x j h0]
        simp
      case d2 => simp only [List.length_append, List.length_cons, List.length_nil]; omega
      case d3 => simp; omega
      intro v2 w2 hown2 hb2
      have HO2 : Hid (Own 5 w2 base v2 (l ++ [UInt8.ofNat (wid x.toNat)] ++ (be (wid x.toNat) x.toNat).take (wid x.toNat - j))) := by
        rw [be_take _ _ _ hk]
        simpa [Hid] using hown2
      have HB2 : Hid (Below base w w2) := (HB.out.alloc (by omega) _).trans hb2
      clear hown2 hb2 HO HB
      go_wp2
      go_roundw
      case rel => exact ⟨j, by omega, rfl, HO2, HB2⟩
      case measure => simp [intOf]
    · obtain rfl : k = 0 := by omega
      go_wp2
      go_ret
      refine ⟨_, rfl, ?_, HB.out⟩
      have h := HO.out
      rw [List.take_of_length_le (by rw [be_length]; omega), List.append_assoc] at h
      exact h
end Go.Proofs.Ytmlpiembglmggaa

namespace Go.Proofs.Ytmlpiembglmggaa
open Go.RowKit

set_option maxHeartbeats 400000 in
theorem put_any (v : Value) (l : List UInt8) (x : Int) (w : World) (hr : Rd w.heap.size w v l) (h0 : 0 ≤ x) (h1 : x ≤ 18446744073709551615) (hl : l.length ≤ 140737488350000) :
    Calls Try.prog 55 #[v, .int .u64 x] w (Gives w.heap.size (l ++ enc x.toNat) w) := by
  have hwid := wid_le x.toNat
  have HR := Lib.hid hr
  clear hr
  go_enter Try.func55, Try.ntmps55
  go_wp2_with fail
  refine (size_any x w h0 h1).mono ?_
  rintro e w' ⟨rfl, rfl⟩
  go_wp2_with fail
  refine (withRoom_any v l (1 + (wid x.toNat : Int)) w HR.out (by omega) (by omega)).mono ?_
  rintro e w1 ⟨v1, rfl, hown1, hb1⟩
  have HO := Lib.hid hown1
  have HB := Lib.hid hb1
  have hsz := hb1.size
  clear hown1 hb1
  go_wp2_with fail
  refine (appendNumber_any v1 l x w.heap.size w1 HO.out hsz h0 h1 (by omega)).mono ?_
  rintro e w2 ⟨v2, rfl, hown2, hb2⟩
  have HO2 := Lib.hid hown2
  have HB2 := Lib.hid hb2
  clear hown2 hb2 HO
  go_wp2
  go_ret
  exact ⟨v2, rfl, HO2.out, HB.out.trans HB2.out⟩

/-- The number of 64 bits that says a number with a sign. -/
def zig (n : Int) : Int := if n < 0 then -2 * n - 1 else 2 * n

set_option maxHeartbeats 400000 in
theorem int_any (v : Value) (l : List UInt8) (n : Int) (w : World) (hr : Rd w.heap.size w v l) (h0 : -9223372036854775808 ≤ n) (h1 : n ≤ 9223372036854775807) (hl : l.length ≤ 140737488350000) :
    Calls Try.prog 43 #[v, .int .i64 n] w (Gives w.heap.size (l ++ enc (zig n).toNat) w) := by
  have HR := Lib.hid hr
  clear hr
  by_cases hn : n < 0
  · have hz : (-(n + 1) * 2 + 1).toNat = (zig n).toNat := by unfold zig; rw [if_pos hn]; omega
    have HZ := Lib.hid hz
    clear hz
    go_enter Try.func43, Try.ntmps43
    go_wp2_with fail
    refine (put_any v l (-(n + 1) * 2 + 1) w HR.out (by omega) (by omega) hl).mono ?_
    rintro e w1 ⟨v1, rfl, hown1, hb1⟩
    rw [HZ.out] at hown1
    have HO := Lib.hid hown1
    have HB := Lib.hid hb1
    clear hown1 hb1
    go_wp2
    go_ret
    exact ⟨v1, rfl, HO.out, HB.out⟩
  · have hz : (n * 2).toNat = (zig n).toNat := by unfold zig; rw [if_neg hn]; omega
    have HZ := Lib.hid hz
    clear hz
    go_enter Try.func43, Try.ntmps43
    go_wp2_with fail
    refine (put_any v l (n * 2) w HR.out (by omega) (by omega) hl).mono ?_
    rintro e w1 ⟨v1, rfl, hown1, hb1⟩
    rw [HZ.out] at hown1
    have HO := Lib.hid hown1
    have HB := Lib.hid hb1
    clear hown1 hb1
    go_wp2
    go_ret
    exact ⟨v1, rfl, HO.out, HB.out⟩

set_option maxHeartbeats 400000 in
theorem textSize_any (s : ByteArray) (w : World) (hs : (s.size : Int) ≤ 140737488355328) :
    Calls Try.prog 46 #[.string s] w fun e w' => e = .returned (.int .i64 (1 + (wid s.size : Int) + s.size)) ∧ w = w' := by
  have hwid := wid_le s.size
  go_enter Try.func46, Try.ntmps46
  go_wp2_with fail
  refine (size_any (s.size : Int) w (by omega) (by omega)).mono ?_
  rintro e w' ⟨rfl, rfl⟩
  rw [Int.toNat_natCast]
  go_wp2
  go_ret
  exact ⟨rfl, rfl⟩

set_option maxHeartbeats 400000 in
theorem appendText_any (v : Value) (l : List UInt8) (s : ByteArray) (base : Nat) (w : World) (hown : Own 5 w base v l) (hbase : base ≤ w.heap.size) (hl : (l.length : Int) + s.size ≤ 140737488350000) :
    Calls Try.prog 44 #[v, .string s] w (Gives base (l ++ encS s) w) := by
  obtain ⟨i0, hi, hz0, hz1, hz2⟩ := info_parts info5
  have hwid := wid_le s.size
  have HO := Lib.hid hown
  clear hown
  go_enter Try.func44, Try.ntmps44
  go_wp2_with fail
  refine (appendNumber_any v l (s.size : Int) base w HO.out hbase (by omega) (by omega) (by omega)).mono ?_
  rintro e w1 ⟨v1, rfl, hown1, hb1⟩
  rw [Int.toNat_natCast] at hown1
  have HO1 := Lib.hid hown1
  have HB := Lib.hid hb1
  have hsz := hb1.size
  clear hown1 hb1
  go_wp2_with (at_builtin; refine wpList_apps rfl _ _ 22 9 rfl 5 i0 Try.underlying22 Try.underlying9 hi hz0 hz1 hz2 base v1 _ s rfl HO1.out rfl ?c1 ?c2 ?_)
  case c1 => rw [List.length_append, enc_length]; omega
  case c2 => omega
  intro v2 w2 hown2 hb2
  have HO2 := Lib.hid hown2
  have HB2 := Lib.hid hb2
  clear hown2 hb2
  go_wp2
  go_ret
  exact ⟨v2, rfl, HO2.out, HB.out.trans HB2.out⟩

set_option maxHeartbeats 400000 in
theorem text_any (v : Value) (l : List UInt8) (s : ByteArray) (w : World) (hr : Rd w.heap.size w v l) (hl : (l.length : Int) + s.size ≤ 140737488350000) :
    Calls Try.prog 26 #[v, .string s] w (Gives w.heap.size (l ++ encS s) w) := by
  have hwid := wid_le s.size
  have HR := Lib.hid hr
  clear hr
  go_enter Try.func26, Try.ntmps26
  go_wp2_with fail
  refine (textSize_any s w (by omega)).mono ?_
  rintro e w' ⟨rfl, rfl⟩
  go_wp2_with fail
  refine (withRoom_any v l (1 + (wid s.size : Int) + s.size) w HR.out (by omega) (by omega)).mono ?_
  rintro e w1 ⟨v1, rfl, hown1, hb1⟩
  have HO := Lib.hid hown1
  have HB := Lib.hid hb1
  have hsz := hb1.size
  clear hown1 hb1
  go_wp2_with fail
  refine (appendText_any v1 l s w.heap.size w1 HO.out hsz hl).mono ?_
  rintro e w2 ⟨v2, rfl, hown2, hb2⟩
  have HO2 := Lib.hid hown2
  have HB2 := Lib.hid hb2
  clear hown2 hb2 HO
  go_wp2
  go_ret
  exact ⟨v2, rfl, HO2.out, HB.out.trans HB2.out⟩
end Go.Proofs.Ytmlpiembglmggaa

namespace Go.Proofs.Ytmlpiembglmggaa
open Go.RowKit
set_option linter.unusedVariables false

/-- The call answers three results: a number, a slice that reads as r, and an error; what was there stays. -/
def CutN (B : Nat) (r : Nat × List UInt8 × Nat) (w : World) (e : Ending) (w' : World) : Prop :=
  ∃ vr, e = .returned (.tuple #[.int .u64 (r.1 : Int), vr, .int .i64 (r.2.2 : Int)]) ∧ Rd B w' vr r.2.1 ∧ Below w.heap.size w w'

set_option maxHeartbeats 400000 in
theorem cutNumber_nil (A : Option Addr) (c : Nat) (B : Nat) (w : World) : Calls Try.prog 62 #[.slice A 0 c] w (CutN B (takeN []) w) := by
  go_enter Try.func62, Try.ntmps62
  go_wp2
  go_ret3
  exact ⟨_, rfl, Rd.nil _ _, Below.refl _ _⟩

set_option maxHeartbeats 400000 in
theorem cutNumber_big (a : Addr) (k : UInt8) (n c : Nat) (B : Nat) (w : World) (h0 : 0 < n) (hn : n ≤ 9223372036854775807) (hc0 : w.cell? a = some (.int .u8 (k.toNat : Int))) (hk : 8 < (k.toNat : Int)) : Calls Try.prog 62 #[.slice (some a) n c] w (CutN B (0, [], 3) w) := by
  have hk2 := UInt8.toNat_lt k
  have hz : ((n : Int) == 0) = false := by simp; omega
  go_enter Try.func62, Try.ntmps62
  go_wp2
  go_ret3
  exact ⟨_, rfl, Rd.nil _ _, Below.refl _ _⟩

set_option maxHeartbeats 400000 in
theorem cutNumber_zero (a : Addr) (k : UInt8) (n c : Nat) (B : Nat) (w : World) (h0 : 1 < n) (hn : n ≤ 9223372036854775807) (hc0 : w.cell? a = some (.int .u8 (k.toNat : Int))) (hc1 : w.cell? ⟨a.block, a.off + 1, none⟩ = some (.int .u8 0)) (hk : (k.toNat : Int) ≤ 8) (hk0 : 0 < (k.toNat : Int)) : Calls Try.prog 62 #[.slice (some a) n c] w (CutN B (0, [], 3) w) := by
  have hz : ((n : Int) == 0) = false := by simp; omega
  have h8 : decide (8 < (k.toNat : Int)) = false := by simp; omega
  go_enter Try.func62, Try.ntmps62
  go_wp2
  go_ret3
  exact ⟨_, rfl, Rd.nil _ _, Below.refl _ _⟩

/-- Bytes are missing: only the first byte is there, or the second one is not 0. -/
theorem cutNumber_short1 (a : Addr) (k : UInt8) (c : Nat) (B : Nat) (w : World) (hc0 : w.cell? a = some (.int .u8 (k.toNat : Int))) (hk : (k.toNat : Int) ≤ 8) (hk0 : 0 < (k.toNat : Int)) : Calls Try.prog 62 #[.slice (some a) 1 c] w (CutN B (0, [], 2) w) := by
  have h8 : decide (8 < (k.toNat : Int)) = false := by simp; omega
  go_enter Try.func62, Try.ntmps62
  go_wp2
  go_ret3
  exact ⟨_, rfl, Rd.nil _ _, Below.refl _ _⟩

set_option maxHeartbeats 400000 in
theorem cutNumber_short2 (a : Addr) (k d : UInt8) (n c : Nat) (B : Nat) (w : World) (h0 : 1 < n) (hn : n ≤ 9223372036854775807) (hc0 : w.cell? a = some (.int .u8 (k.toNat : Int))) (hc1 : w.cell? ⟨a.block, a.off + 1, none⟩ = some (.int .u8 (d.toNat : Int))) (hd : 0 < (d.toNat : Int)) (hk : (k.toNat : Int) ≤ 8) (hk0 : 0 < (k.toNat : Int)) (hs : (n : Int) < 1 + (k.toNat : Int)) :
    Calls Try.prog 62 #[.slice (some a) n c] w (CutN B (0, [], 2) w) := by
  have hz : ((n : Int) == 0) = false := by simp; omega
  have hd2 : ((d.toNat : Int) == 0) = false := by simp; omega
  have h8 : decide (8 < (k.toNat : Int)) = false := by simp; omega
  go_enter Try.func62, Try.ntmps62
  go_wp2
  go_ret3
  exact ⟨_, rfl, Rd.nil _ _, Below.refl _ _⟩

theorem below_drewN (B : Nat) (w : World) (n : Nat) : Below B w (w.drewN n) := ⟨rfl, rfl, rfl, Nat.le_refl _, fun _ _ => rfl⟩

/-- The single byte 0. -/
theorem cutNumber_none (a : Addr) (n c : Nat) (w : World) (h0 : 0 < n) (hn : n ≤ c) (hc : c ≤ 9223372036854775807) (hc0 : w.cell? a = some (.int .u8 0)) :
    Calls Try.prog 62 #[.slice (some a) n c] w fun e w' => e = .returned (.tuple #[.int .u64 0, .slice (if c = 1 then some a else some ⟨a.block, a.off + 1, none⟩) (n - 1) (c - 1), .int .i64 0]) ∧ Below w.heap.size w w' := by
  have hz : ((n : Int) == 0) = false := by simp; omega
  by_cases hc1 : c = 1
  · subst hc1
    obtain rfl : n = 1 := by omega
    go_enter Try.func62, Try.ntmps62
    go_wp2
    refine wp_loop_rounds 1 ?_
    rw [rounds_succ]
    go_wp2
    go_quiet (fail)
    go_wp2
    go_ret3
    exact ⟨rfl, below_drewN _ _ _⟩
  · go_enter Try.func62, Try.ntmps62
    go_wp2
    refine wp_loop_rounds 1 ?_
    rw [rounds_succ]
    go_wp2
    go_quiet (fail)
    go_wp2
    go_ret3
    exact ⟨rfl, below_drewN _ _ _⟩

theorem or_byte (v c : Nat) (hv : v < 72057594037927936) (hc : c < 256) : bits .or .u64 (IntKind.u64.wrap ((v : Int) * 256)) (IntKind.u64.wrap (c : Int)) = ((256 * v + c : Nat) : Int) := by
  have e1 : IntKind.u64.wrap ((v : Int) * 256) = ((2 ^ 8 * v : Nat) : Int) := by rw [IntKind.wrap_u64]; omega
  have e2 : IntKind.u64.wrap (c : Int) = (c : Int) := by rw [IntKind.wrap_u64]; omega
  rw [e1, e2, u64_or_nat _ _ (by omega) (by omega), ← Nat.two_pow_add_eq_or_of_lt (by omega) v]

theorem val_take (t : List UInt8) (j : Nat) (h : j < t.length) : val (t.take (j + 1)) = 256 * val (t.take j) + t[j].toNat := by
  rw [List.take_succ_eq_append_getElem h, val_snoc]

theorem val_take_lt (t : List UInt8) (j : Nat) (h : j ≤ 7) : val (t.take j) < 72057594037927936 := by
  have h1 := val_lt (t.take j)
  have h2 : (t.take j).length ≤ 7 := by rw [List.length_take]; omega
  have h3 : 256 ^ (t.take j).length ≤ 256 ^ 7 := Nat.pow_le_pow_right (by omega) h2
  omega

theorem round_value (t : List UInt8) (j : Nat) (h : j < t.length) (h7 : j ≤ 7) :
    Value.int .u64 (bits .or .u64 (IntKind.u64.wrap ((val (t.take j) : Int) * 256)) (IntKind.u64.wrap (t[j].toNat : Int))) = .int .u64 (val (t.take (j + 1)) : Int) := by
  rw [or_byte _ _ (val_take_lt t j h7) (UInt8.toNat_lt _), val_take t j h]

set_option maxHeartbeats 1000000 in
theorem cutNumber_ok (a : Addr) (k d : UInt8) (t : List UInt8) (n c : Nat) (w : World) (hnc : n ≤ c) (hc : c ≤ 9223372036854775807) (hc0 : w.cell? a = some (.int .u8 (k.toNat : Int))) (hc1 : w.cell? ⟨a.block, a.off + 1, none⟩ = some (.int .u8 (d.toNat : Int))) (hd : 0 < (d.toNat : Int))
    (hk : (k.toNat : Int) ≤ 8) (hk0 : 0 < (k.toNat : Int)) (hs : 1 + (k.toNat : Int) ≤ (n : Int)) (ht : k.toNat ≤ t.length) (hct : ∀ j (h : j < t.length), w.cell? ⟨a.block, a.off + 1 + j, none⟩ = some (.int .u8 (t[j].toNat : Int))) :
    Calls Try.prog 62 #[.slice (some a) n c] w fun e w' => e = .returned (.tuple #[.int .u64 (val (t.take k.toNat) : Int), .slice (if c = 1 + k.toNat then some a else some (a.add (1 + k.toNat))) (n - (1 + k.toNat)) (c - (1 + k.toNat)), .int .i64 0]) ∧ Below w.heap.size w w' := by
  have hz : ((n : Int) == 0) = false := by simp; omega
  have hd2 : ((d.toNat : Int) == 0) = false := by simp; omega
  have h8 : decide (8 < (k.toNat : Int)) = false := by simp; omega
  have hs2 : decide ((n : Int) < 1 + (k.toNat : Int)) = false := by simp; omega
  have hc2 : ¬ c = 1 := by omega
  have HT := Lib.hid hct
  clear hct
  go_enter Try.func62, Try.ntmps62
  go_wp2
  go_loop [6, 8, 43] (fun x _ i => ∃ j : Nat, j ≤ k.toNat ∧ i = .int .i64 j ∧ x = .int .u64 (val (t.take j) : Int)) (fun _ _ i => k.toNat - (intOf i).toNat)
  case atStart => exact ⟨0, Nat.zero_le _, rfl, rfl⟩
  case round =>
    obtain ⟨j, hj, rfl, rfl⟩ := hrel
    by_cases hlt : j < k.toNat
    · have hcj := HT.out j (by omega)
      go_wp2
      go_round
      case rel => exact ⟨j + 1, by omega, by go_num, round_value t j (by omega) (by omega)⟩
      case measure => simp [intOf]; omega
    · obtain rfl : j = k.toNat := by omega
      go_wp2
      go_quiet (fail)
      go_wp2
      all_goals
        go_ret3
        exact ⟨rfl, below_drewN _ _ _⟩

theorem cutNumber_any (v : Value) (l : List UInt8) (B : Nat) (w : World) (hr : Rd B w v l) (hB : B ≤ w.heap.size) : Calls Try.prog 62 #[v] w (CutN B (takeN l) w) := by
  have hr0 := hr
  obtain ⟨A, c, rfl, hc, hm, hn, hcell⟩ := hr
  unfold maxLen at hm
  match l with
  | [] => exact cutNumber_nil A c B w
  | k :: t =>
    cases A with
    | none =>
      have := hn rfl
      simp at hc
      omega
    | some a =>
      have hl : (k :: t).length = t.length + 1 := rfl
      rw [hl] at hc hr0
      have hc0 : w.cell? a = some (.int .u8 (k.toNat : Int)) := by
        have h := (hcell a rfl).2 0 (by simp)
        simpa [Addr.add] using h
      have hct : ∀ j (h : j < t.length), w.cell? ⟨a.block, a.off + 1 + j, none⟩ = some (.int .u8 (t[j].toNat : Int)) := by
        intro j h
        have h2 := (hcell a rfl).2 (j + 1) (by simpa using h)
        rw [show a.add (j + 1) = ⟨a.block, a.off + 1 + j, none⟩ from by simp [Addr.add]; omega] at h2
        simpa using h2
      have hk2 := UInt8.toNat_lt k
      show Calls Try.prog 62 #[.slice (some a) (t.length + 1) c] w _
      rw [takeN]
      by_cases h8 : 8 < k.toNat
      · rw [if_pos (.inl h8)]
        exact cutNumber_big a k _ c B w (by omega) (by omega) hc0 (by omega)
      by_cases hk0 : k.toNat = 0
      · have hk : k = 0 := UInt8.toNat_inj.1 (by simpa using hk0)
        subst hk
        rw [if_neg (by simp), if_neg (by simp)]
        refine (cutNumber_none a (t.length + 1) c w (by omega) hc (by omega) hc0).mono ?_
        rintro e w' ⟨rfl, hb⟩
        have hd := (hr0.below (hb.mono hB)).drop 1 (by omega)
        refine ⟨_, rfl, ?_, hb⟩
        simpa [Addr.add] using hd
      cases t with
      | nil =>
        rw [if_neg (by simp; omega), if_pos (by simp; omega)]
        exact cutNumber_short1 a k c B w hc0 (by omega) (by omega)
      | cons d u =>
        have hc1 : w.cell? ⟨a.block, a.off + 1, none⟩ = some (.int .u8 (d.toNat : Int)) := hct 0 (by simp)
        by_cases hd0 : d = 0
        · subst hd0
          rw [if_pos (.inr ⟨by omega, rfl⟩)]
          exact cutNumber_zero a k _ c B w (by simp) (by omega) hc0 hc1 (by omega) (by omega)
        · have hdp : 0 < (d.toNat : Int) := by
            rcases Nat.eq_zero_or_pos d.toNat with h | h
            · exact absurd (UInt8.toNat_inj.1 (by simpa using h)) hd0
            · omega
          rw [if_neg (by rintro (h | ⟨_, h⟩); exact h8 h; simp at h; exact hd0 h)]
          by_cases hs : (d :: u).length < k.toNat
          · rw [if_pos hs]
            exact cutNumber_short2 a k d _ c B w (by simp) (by omega) hc0 hc1 hdp (by omega) (by omega) (by omega)
          · rw [if_neg hs]
            refine (cutNumber_ok a k d (d :: u) _ c w hc (by omega) hc0 hc1 hdp (by omega) (by omega) (by omega) (by omega) hct).mono ?_
            rintro e w' ⟨rfl, hb⟩
            have hd := (hr0.below (hb.mono hB)).drop (1 + k.toNat) (by omega)
            refine ⟨_, rfl, ?_, hb⟩
            rw [show (k :: d :: u).drop (1 + k.toNat) = (d :: u).drop k.toNat from by rw [Nat.add_comm]; rfl] at hd
            exact hd

/-- A copy of its own. -/
theorem detached_any (v : Value) (l : List UInt8) (w : World) (hr : Rd w.heap.size w v l) (hl : l.length ≤ 140737488355328) : Calls Try.prog 61 #[v] w (Gives w.heap.size l w) := by
  obtain ⟨i0, hi, hz0, hz1, hz2⟩ := info_parts info5
  have HR := Lib.hid hr
  clear hr
  go_enter Try.func61, Try.ntmps61
  go_wp2_with (at_builtin; refine wpList_app rfl _ _ 22 rfl 5 i0 Try.underlying22 hi hz0 hz1 hz2 w.heap.size w.heap.size _ _ [] l rfl (Own.nil _ _ _) rfl HR.out ?c1 (Nat.le_refl _) ?_)
  case c1 => simpa using hl
  intro v' w2 hown2 hb2
  have HO2 := Lib.hid hown2
  clear hown2
  go_wp2
  go_ret
  exact ⟨v', rfl, HO2.out, hb2⟩

/-- The call answers a number, a slice of its own that holds what is left, and an error. -/
def Takes (r : Nat × List UInt8 × Nat) (w : World) (e : Ending) (w' : World) : Prop :=
  ∃ vr, e = .returned (.tuple #[.int .u64 (r.1 : Int), vr, .int .i64 (r.2.2 : Int)]) ∧ Own 5 w' w.heap.size vr r.2.1 ∧ Below w.heap.size w w'

theorem takeN_rest (l : List UInt8) : (takeN l).2.1.length ≤ l.length := by
  cases l with
  | nil => simp [takeN]
  | cons k t =>
    rw [takeN]
    split
    · simp
    · split
      · simp
      · simp; omega

set_option maxHeartbeats 400000 in
theorem take_any (v : Value) (l : List UInt8) (w : World) (hr : Rd w.heap.size w v l) (hl : l.length ≤ 140737488355328) : Calls Try.prog 59 #[v] w (Takes (takeN l) w) := by
  have hrest := takeN_rest l
  have HR := Lib.hid hr
  clear hr
  go_enter Try.func59, Try.ntmps59
  go_wp2_with fail
  refine (cutNumber_any v l w.heap.size w HR.out (Nat.le_refl _)).mono ?_
  rintro e w1 ⟨v1, rfl, hr1, hb1⟩
  generalize takeN l = r at *
  obtain ⟨n, rest, er⟩ := r
  have hrest2 : rest.length ≤ l.length := hrest
  clear hrest
  have HR1 := Lib.hid hr1
  have HB1 := Lib.hid hb1
  have hsz := hb1.size
  clear hr1 hb1
  go_wp2_with fail
  refine (detached_any v1 rest w1 (HR1.out.more hsz) (by omega)).mono ?_
  rintro e w2 ⟨v2, rfl, hown2, hb2⟩
  have HO2 := Lib.hid hown2
  have HB2 := Lib.hid hb2
  clear hown2 hb2
  go_wp2
  go_ret3
  exact ⟨v2, rfl, HO2.out.base hsz, HB1.out.trans (HB2.out.mono hsz)⟩
end Go.Proofs.Ytmlpiembglmggaa

namespace Go.Proofs.Ytmlpiembglmggaa
open Go.RowKit
set_option linter.unusedVariables false

def TrueStays (w : World) (e : Ending) (w' : World) : Prop := e = .returned (.bool true) ∧ Below w.heap.size w w'

theorem Own.made (e : TypeId) (w : World) : Own e (w.alloc (.cells #[] e)) w.heap.size (.slice (some ⟨w.heap.size, 0, none⟩) 0 0) [] :=
  World.ownsRow_made w #[] 0 (Nat.le_refl _) (Nat.zero_le _) rfl

end Go.Proofs.Ytmlpiembglmggaa

namespace Go.Proofs.Ytmlpiembglmggaa
open Go.RowKit
set_option linter.unusedVariables false

set_option maxHeartbeats 1000000 in
theorem listSize_any (v : Value) (ss : List ByteArray) (B : Nat) (w : World) (hr : RdS B w v ss) (hl : (encs ss).length ≤ 140737488350000) (hn : ss.length ≤ 140737488350000) :
    Calls Try.prog 49 #[v] w fun e w' => e = .returned (.int .i64 (1 + (wid ss.length : Int) + ((encs ss).length : Int))) ∧ w = w' := by
  have hwid := wid_le ss.length
  obtain ⟨A, c, hv, _, _⟩ := hr.shape
  rw [hv] at hr ⊢
  have HR := Lib.hid hr
  clear hr hv
  generalize hL : (encs ss).length = L at *
  have HL := Lib.hid hL
  clear hL
  generalize hW : wid ss.length = W at *
  have HW := Lib.hid hW
  clear hW
  go_enter Try.func49, Try.ntmps49
  go_wp2_with fail
  refine (size_any (ss.length : Int) w (by omega) (by omega)).mono ?_
  rintro e w' ⟨rfl, rfl⟩
  rw [Int.toNat_natCast, HW.out]
  go_wp2
  go_loop [3, 5, 12] (fun t _ i => ∃ k : Nat, k ≤ ss.length ∧ i = .int .i64 k ∧ ∃ T : Nat, T ≤ L ∧ Hid (T = (encs (ss.take k)).length) ∧ t = .int .i64 (1 + (W : Int) + (T : Int))) (fun _ _ i => ss.length - (intOf i).toNat)
  case atStart => exact ⟨0, Nat.zero_le _, rfl, 0, Nat.zero_le _, rfl, by simp⟩
  case round =>
    obtain ⟨k, hk, rfl, T, hT, HT, rfl⟩ := hrel
    by_cases hlt : k < ss.length
    · obtain ⟨a, rfl, hcell⟩ := HR.out.at_ k hlt
      have hs1 : (encs (ss.take (k + 1))).length = T + (wid ss[k].size + 1 + ss[k].size) := by rw [encs_take ss k hlt, List.length_append, encS_length, HT.out]
      have hs2 := encs_take_le ss (k + 1)
      rw [HL.out] at hs2
      have hs3 : T + (wid ss[k].size + 1 + ss[k].size) ≤ L := by omega
      have HS1 := Lib.hid hs1
      clear hs1 hs2
      generalize hs : ss[k] = s at *
      have hws := wid_le s.size
      go_wp2_with fail
      refine (textSize_any s w (by omega)).mono ?_
      rintro e w' ⟨rfl, rfl⟩
      go_wp2
      go_round
      case rel => exact ⟨k + 1, by omega, by go_num, T + (wid s.size + 1 + s.size), hs3, HS1.out.symm, by go_num⟩
      case measure => simp [intOf]; omega
    · obtain rfl : k = ss.length := by omega
      go_wp2
      go_ret
      refine ⟨?_, rfl⟩
      have e : T = L := by rw [HT.out, List.take_length]; exact HL.out
      subst e
      rfl

set_option maxHeartbeats 1000000 in
theorem list_any (v vl : Value) (l : List UInt8) (ss : List ByteArray) (w : World) (hr : Rd w.heap.size w v l) (hrs : RdS w.heap.size w vl ss) (hl : l.length + (encs ss).length ≤ 140737488340000) (hn : ss.length ≤ 140737488340000) :
    Calls Try.prog 29 #[v, vl] w (Gives w.heap.size (l ++ encL ss) w) := by
  have hwid := wid_le ss.length
  obtain ⟨A, c, hv, _, _⟩ := hrs.shape
  rw [hv] at hrs ⊢
  have HR := Lib.hid hr
  have HRS := Lib.hid hrs
  clear hr hrs hv
  generalize hL : (encs ss).length = L at *
  have HL := Lib.hid hL
  clear hL
  go_enter Try.func29, Try.ntmps29
  go_wp2_with fail
  refine (listSize_any _ ss w.heap.size w HRS.out (by rw [HL.out]; omega) (by omega)).mono ?_
  rintro e w' ⟨rfl, rfl⟩
  rw [HL.out]
  go_wp2_with fail
  refine (withRoom_any v l (1 + (wid ss.length : Int) + (L : Int)) w HR.out (by omega) (by omega)).mono ?_
  rintro e w1 ⟨v1, rfl, hown1, hb1⟩
  have HO1 := Lib.hid hown1
  have HB1 := Lib.hid hb1
  have hs1 := hb1.size
  clear hown1 hb1
  go_wp2_with fail
  refine (appendNumber_any v1 l (ss.length : Int) w.heap.size w1 HO1.out hs1 (by omega) (by omega) (by omega)).mono ?_
  rintro e w2 ⟨v2, rfl, hown2, hb2⟩
  rw [Int.toNat_natCast] at hown2
  have HO2 := Lib.hid hown2
  have HB2 : Hid (Below w.heap.size w w2) := HB1.out.trans hb2
  clear hown2 hb2 HO1 HB1
  go_wp2
  go_loopw [5, 7, 18] (fun o _ i wr => ∃ k : Nat, k ≤ ss.length ∧ i = .int .i64 k ∧ Hid (Own 5 wr w.heap.size o (l ++ enc ss.length ++ encs (ss.take k))) ∧ Hid (Below w.heap.size w wr)) (fun _ _ i _ => ss.length - (intOf i).toNat)
  case atStart => exact ⟨0, Nat.zero_le _, rfl, by have h := HO2.out; simpa [Hid, encs] using h, HB2⟩
  case round =>
    obtain ⟨k, hk, rfl, HO, HB⟩ := hrel
    have hsz := HB.out.size
    by_cases hlt : k < ss.length
    · obtain ⟨a, rfl, hcell⟩ := (HRS.out.below HB.out).at_ k hlt
      have hs1 : (encs (ss.take (k + 1))).length = (encs (ss.take k)).length + (wid ss[k].size + 1 + ss[k].size) := by rw [encs_take ss k hlt, List.length_append, encS_length]
      have hs2 := encs_take_le ss (k + 1)
      rw [HL.out] at hs2
      have hs3 : (encs (ss.take k)).length + (wid ss[k].size + 1 + ss[k].size) ≤ L := by omega
      have hel := enc_length ss.length
      have HE := Lib.hid (encs_take ss k hlt)
      have HEL := Lib.hid hel
      clear hs1 hs2 hel
      generalize hs : ss[k] = s at *
      go_wp2_with fail
      refine (appendText_any _ (l ++ enc ss.length ++ encs (ss.take k)) s w.heap.size wr HO.out hsz (by rw [List.length_append, List.length_append, HEL.out]; omega)).mono ?_
      rintro e w3 ⟨v3, rfl, hown3, hb3⟩
      rw [List.append_assoc (l ++ enc ss.length), ← HE.out] at hown3
      have HO3 := Lib.hid hown3
      have HB3 : Hid (Below w.heap.size w w3) := HB.out.trans hb3
      clear hown3 hb3
      go_wp2
      go_roundw
      case rel => exact ⟨k + 1, by omega, by go_num, HO3, HB3⟩
      case measure => simp [intOf]; omega
    · obtain rfl : k = ss.length := by omega
      go_wp2
      go_ret
      refine ⟨_, rfl, ?_, HB.out⟩
      have h := HO.out
      rw [List.take_length, List.append_assoc] at h
      exact h
end Go.Proofs.Ytmlpiembglmggaa

namespace Go.Proofs.Ytmlpiembglmggaa
open Go.RowKit
set_option linter.unusedVariables false

/-- The number with a sign that a number of 64 bits says. -/
def zag (u : Nat) : Int := if u % 2 = 1 then -((u / 2 : Nat) : Int) - 1 else ((u / 2 : Nat) : Int)

theorem takeN_lt (l : List UInt8) : (takeN l).1 < 18446744073709551616 := by
  by_cases h : (takeN l).2.2 = 0
  · have h2 : takeN l = ((takeN l).1, (takeN l).2.1, 0) := by rw [← h]
    exact (takeN_only l _ _ h2).2
  · cases l with
    | nil => simp [takeN]
    | cons k t =>
      revert h
      rw [takeN]
      split
      · simp
      · split
        · simp
        · simp

/-- The call answers a number with a sign, a slice of its own that holds what is left, and an error. -/
def TakesI (r : Nat × List UInt8 × Nat) (w : World) (e : Ending) (w' : World) : Prop :=
  ∃ vr, e = .returned (.tuple #[.int .i64 (zag r.1), vr, .int .i64 (r.2.2 : Int)]) ∧ Own 5 w' w.heap.size vr r.2.1 ∧ Below w.heap.size w w'

theorem ret3_int {k : IntKind} {a b : Int} {x y : Value} (h : a = b) : Ending.returned (.tuple #[.int k a, x, y]) = .returned (.tuple #[.int k b, x, y]) := by rw [h]

set_option maxHeartbeats 400000 in
theorem takeInt_any (v : Value) (l : List UInt8) (w : World) (hr : Rd w.heap.size w v l) (hl : l.length ≤ 140737488355328) : Calls Try.prog 50 #[v] w (TakesI (takeN l) w) := by
  have hn := takeN_lt l
  have HR := Lib.hid hr
  clear hr
  go_enter Try.func50, Try.ntmps50
  go_wp2_with fail
  refine (take_any v l w HR.out hl).mono ?_
  rintro e w1 ⟨v1, rfl, hown1, hb1⟩
  generalize takeN l = r at *
  obtain ⟨n, rest, er⟩ := r
  have hn2 : (n : Int) ≤ 18446744073709551615 := by have h : n < 18446744073709551616 := hn; omega
  have HO1 := Lib.hid hown1
  have HB1 := Lib.hid hb1
  clear hown1 hb1 hn
  by_cases hodd : n % 2 = 1
  · have ho : (((n : Int) % 2) == 1) = true := by simp; omega
    have hz : zag n = -((n : Int) / 2) - 1 := by unfold zag; rw [if_pos hodd]; omega
    have HZ := Lib.hid hz
    clear hz
    go_wp2
    go_ret3
    exact ⟨v1, ret3_int HZ.out.symm, HO1.out, HB1.out⟩
  · have ho : (((n : Int) % 2) == 1) = false := by simp; omega
    have hz : zag n = (n : Int) / 2 := by unfold zag; rw [if_neg hodd]; omega
    have HZ := Lib.hid hz
    clear hz
    go_wp2
    go_ret3
    exact ⟨v1, ret3_int HZ.out.symm, HO1.out, HB1.out⟩

set_option maxHeartbeats 400000 in
theorem above_any (x m : Int) (w : World) (h0 : 0 ≤ x) (h1 : x ≤ 18446744073709551615) (m0 : -9223372036854775808 ≤ m) (m1 : m ≤ 9223372036854775807) :
    Calls Try.prog 63 #[.int .u64 x, .int .i64 m] w fun e w' => e = .returned (.bool (decide (max m 0 < x))) ∧ w = w' := by
  go_enter Try.func63, Try.ntmps63
  go_wp2
  go_ret
  exact ⟨rfl, rfl⟩

theorem above_yes (x m : Int) (w : World) (h0 : 0 ≤ x) (h1 : x ≤ 18446744073709551615) (m0 : -9223372036854775808 ≤ m) (m1 : m ≤ 9223372036854775807) (h : max m 0 < x) :
    Calls Try.prog 63 #[.int .u64 x, .int .i64 m] w fun e w' => e = .returned (.bool true) ∧ w = w' := by
  refine (above_any x m w h0 h1 m0 m1).mono ?_
  rintro e w' ⟨rfl, rfl⟩
  exact ⟨by rw [decide_eq_true h], rfl⟩
theorem above_no (x m : Int) (w : World) (h0 : 0 ≤ x) (h1 : x ≤ 18446744073709551615) (m0 : -9223372036854775808 ≤ m) (m1 : m ≤ 9223372036854775807) (h : x ≤ max m 0) :
    Calls Try.prog 63 #[.int .u64 x, .int .i64 m] w fun e w' => e = .returned (.bool false) ∧ w = w' := by
  refine (above_any x m w h0 h1 m0 m1).mono ?_
  rintro e w' ⟨rfl, rfl⟩
  exact ⟨by rw [decide_eq_false (by omega)], rfl⟩

/-- What a string is taken of: its bytes, what is left, and the error: 5 large. -/
def takeS (l : List UInt8) (most : Int) : List UInt8 × List UInt8 × Nat :=
  if (takeN l).2.2 ≠ 0 then ([], [], (takeN l).2.2)
  else if max most 0 < ((takeN l).1 : Int) then ([], [], 5)
  else if (takeN l).2.1.length < (takeN l).1 then ([], [], 2)
  else ((takeN l).2.1.take (takeN l).1, (takeN l).2.1.drop (takeN l).1, 0)

/-- The call answers a string, a slice that reads as what is left, and an error; what was there stays. -/
def CutS (B : Nat) (r : List UInt8 × List UInt8 × Nat) (w : World) (e : Ending) (w' : World) : Prop :=
  ∃ vr, e = .returned (.tuple #[.string ⟨r.1.toArray⟩, vr, .int .i64 (r.2.2 : Int)]) ∧ Rd B w' vr r.2.1 ∧ Below w.heap.size w w'

theorem takeS_err {l : List UInt8} {n : Nat} {rest : List UInt8} {er : Nat} (m : Int) (h : takeN l = (n, rest, er)) (he : er ≠ 0) : takeS l m = ([], [], er) := by
  unfold takeS; rw [h, if_pos he]
theorem takeS_large {l : List UInt8} {n : Nat} {rest : List UInt8} {m : Int} (h : takeN l = (n, rest, 0)) (hm : max m 0 < (n : Int)) : takeS l m = ([], [], 5) := by
  unfold takeS; rw [h, if_neg (by simp), if_pos hm]
theorem takeS_short {l : List UInt8} {n : Nat} {rest : List UInt8} {m : Int} (h : takeN l = (n, rest, 0)) (hm : (n : Int) ≤ max m 0) (hs : rest.length < n) : takeS l m = ([], [], 2) := by
  unfold takeS; rw [h, if_neg (by simp), if_neg (show ¬ max m 0 < (n : Int) by omega), if_pos hs]
theorem takeS_ok {l : List UInt8} {n : Nat} {rest : List UInt8} {m : Int} (h : takeN l = (n, rest, 0)) (hm : (n : Int) ≤ max m 0) (hs : ¬ rest.length < n) : takeS l m = (rest.take n, rest.drop n, 0) := by
  unfold takeS; rw [h, if_neg (by simp), if_neg (show ¬ max m 0 < (n : Int) by omega), if_neg hs]

set_option maxHeartbeats 1000000 in
theorem cutText_any (v : Value) (l : List UInt8) (m : Int) (B : Nat) (w : World) (hr : Rd B w v l) (hB : B ≤ w.heap.size) (m0 : -9223372036854775808 ≤ m) (m1 : m ≤ 9223372036854775807) :
    Calls Try.prog 60 #[v, .int .i64 m] w (CutS B (takeS l m) w) := by
  have hn := takeN_lt l
  have HR := Lib.hid hr
  clear hr
  go_enter Try.func60, Try.ntmps60
  go_wp2_with fail
  refine (cutNumber_any v l B w HR.out hB).mono ?_
  rintro e w1 ⟨v1, rfl, hr1, hb1⟩
  generalize hT : takeN l = r at *
  obtain ⟨n, rest, er⟩ := r
  have hn2 : (n : Int) ≤ 18446744073709551615 := by have h : n < 18446744073709551616 := hn; omega
  have hr1' : Rd B w1 v1 rest := hr1
  have HR1 := Lib.hid hr1'
  have HB1 := Lib.hid hb1
  have HT := Lib.hid hT
  clear hr1 hr1' hb1 hn hT
  by_cases he : er = 0
  · subst he
    by_cases hab : max m 0 < (n : Int)
    · have HS := Lib.hid (takeS_large HT.out hab)
      go_wp2_with fail
      refine (above_yes (n : Int) m w1 (by omega) hn2 m0 m1 hab).mono ?_
      rintro e w2 ⟨rfl, rfl⟩
      go_wp2
      go_ret3
      rw [HS.out]
      exact ⟨_, rfl, Rd.nil _ _, HB1.out⟩
    · have hab2 : (n : Int) ≤ max m 0 := by omega
      have HAB := Lib.hid hab2
      clear hab hab2
      obtain ⟨A1, c1, hv1, hc1, hm1⟩ := HR1.out.shape
      unfold maxLen at hm1
      rw [hv1] at HR1 ⊢
      clear hv1
      go_wp2_with fail
      refine (above_no (n : Int) m w1 (by omega) hn2 m0 m1 HAB.out).mono ?_
      rintro e w2 ⟨rfl, rfl⟩
      by_cases hsh : rest.length < n
      · have HS := Lib.hid (takeS_short HT.out HAB.out hsh)
        go_wp2
        go_ret3
        rw [HS.out]
        exact ⟨_, rfl, Rd.nil _ _, HB1.out⟩
      · have HS := Lib.hid (takeS_ok HT.out HAB.out hsh)
        cases A1 with
        | none =>
          obtain ⟨A', c', hv', h1', h2', h3', _⟩ := HR1.out
          injection hv' with e1 e2 e3
          subst e1 e3
          have hc0 := h3' rfl
          subst hc0
          have hr0 : rest = [] := List.eq_nil_of_length_eq_zero (by omega)
          subst hr0
          have hn0 : n = 0 := by simp at hsh; exact hsh
          subst hn0
          have hst : ∀ nq, (convert 22 9 (.slice none 0 0)).run Try.prog (w1.drewN nq) = .ok (.string ⟨#[]⟩) (w1.drewN nq) := fun nq => run_string_rd (l := []) 22 9 5 Try.underlying22 Try.underlying5 Try.underlying9 (Rd.nil B (w1.drewN nq))
          go_wp2
          go_quiet (fail)
          go_wp2
          go_ret3
          rw [HS.out]
          exact ⟨_, rfl, Rd.nil _ _, HB1.out.trans (below_drewN _ _ _)⟩
        | some a =>
          have hst : ∀ nq, (convert 22 9 (.slice (some a) n c1)).run Try.prog (w1.drewN nq) = .ok (.string ⟨(rest.take n).toArray⟩) (w1.drewN nq) := fun nq => run_string_rd (w := w1.drewN nq) 22 9 5 Try.underlying22 Try.underlying5 Try.underlying9 (HR1.out.take n (by omega))
          have hdr := HR1.out.drop n (by omega)
          by_cases hcn : c1 = n
          · subst hcn
            rw [if_pos rfl, Nat.sub_self, show rest.length - c1 = 0 by omega] at hdr
            have HD := Lib.hid hdr
            clear hdr
            go_wp2
            go_quiet (fail)
            go_wp2
            go_ret3
            rw [HS.out]
            exact ⟨_, rfl, HD.out, HB1.out.trans (below_drewN _ _ _)⟩
          · rw [if_neg hcn] at hdr
            have HD := Lib.hid hdr
            clear hdr
            go_wp2
            go_quiet (fail)
            go_wp2
            go_ret3
            rw [HS.out]
            exact ⟨_, rfl, HD.out, HB1.out.trans (below_drewN _ _ _)⟩
  · have he1 : ((er : Int) != 0) = true := by simp; omega
    have HS := Lib.hid (takeS_err m HT.out he)
    go_wp2
    go_ret3
    rw [HS.out]
    exact ⟨_, rfl, Rd.nil _ _, HB1.out⟩

/-- The call answers a string, a slice of its own that holds what is left, and an error. -/
def TakesS (r : List UInt8 × List UInt8 × Nat) (w : World) (e : Ending) (w' : World) : Prop :=
  ∃ vr, e = .returned (.tuple #[.string ⟨r.1.toArray⟩, vr, .int .i64 (r.2.2 : Int)]) ∧ Own 5 w' w.heap.size vr r.2.1 ∧ Below w.heap.size w w'

theorem takeS_rest (l : List UInt8) (m : Int) : (takeS l m).2.1.length ≤ l.length := by
  have h := takeN_rest l
  unfold takeS
  split
  · simp
  · split
    · simp
    · split
      · simp
      · simp only [List.length_drop]; omega

set_option maxHeartbeats 400000 in
theorem takeText_any (v : Value) (l : List UInt8) (m : Int) (w : World) (hr : Rd w.heap.size w v l) (m0 : -9223372036854775808 ≤ m) (m1 : m ≤ 9223372036854775807) (hl : l.length ≤ 140737488355328) :
    Calls Try.prog 51 #[v, .int .i64 m] w (TakesS (takeS l m) w) := by
  have hrest := takeS_rest l m
  have HR := Lib.hid hr
  clear hr
  go_enter Try.func51, Try.ntmps51
  go_wp2_with fail
  refine (cutText_any v l m w.heap.size w HR.out (Nat.le_refl _) m0 m1).mono ?_
  rintro e w1 ⟨v1, rfl, hr1, hb1⟩
  generalize takeS l m = r at *
  obtain ⟨s, rest, er⟩ := r
  have hrest2 : rest.length ≤ l.length := hrest
  clear hrest
  have HR1 := Lib.hid hr1
  have HB1 := Lib.hid hb1
  have hsz := hb1.size
  clear hr1 hb1
  go_wp2_with fail
  refine (detached_any v1 rest w1 (HR1.out.more hsz) (by omega)).mono ?_
  rintro e w2 ⟨v2, rfl, hown2, hb2⟩
  have HO2 := Lib.hid hown2
  have HB2 := Lib.hid hb2
  clear hown2 hb2
  go_wp2
  go_ret3
  exact ⟨v2, rfl, HO2.out.base hsz, HB1.out.trans (HB2.out.mono hsz)⟩
end Go.Proofs.Ytmlpiembglmggaa

namespace Go.Proofs.Ytmlpiembglmggaa
open Go.RowKit
set_option linter.unusedVariables false

theorem info9 : (Try.prog.info? 9).map (fun i => (i.zero, i.size, i.bytes)) = some (some (.string ⟨#[]⟩), 1, 16) := by kernel_rfl

/-- k strings, one behind the other: the strings, what is left, and the first error. -/
def takeK : Nat → List UInt8 → Int → List ByteArray × List UInt8 × Nat
  | 0, l, _ => ([], l, 0)
  | k + 1, l, m =>
    if (takeS l m).2.2 ≠ 0 then ([], [], (takeS l m).2.2)
    else if (takeK k (takeS l m).2.1 m).2.2 ≠ 0 then ([], [], (takeK k (takeS l m).2.1 m).2.2)
    else (⟨(takeS l m).1.toArray⟩ :: (takeK k (takeS l m).2.1 m).1, (takeK k (takeS l m).2.1 m).2.1, 0)

/-- What a list is taken of. -/
def takeL (l : List UInt8) (many most : Int) : List ByteArray × List UInt8 × Nat :=
  if (takeN l).2.2 ≠ 0 then ([], [], (takeN l).2.2)
  else if max many 0 < ((takeN l).1 : Int) then ([], [], 5)
  else takeK (takeN l).1 (takeN l).2.1 most

/-- What was taken so far, ahead of what is still taken. -/
def pre (acc : List ByteArray) (r : List ByteArray × List UInt8 × Nat) : List ByteArray × List UInt8 × Nat :=
  if r.2.2 ≠ 0 then ([], [], r.2.2) else (acc ++ r.1, r.2.1, 0)

theorem takeK_err (k : Nat) (l : List UInt8) (m : Int) (h : (takeK k l m).2.2 ≠ 0) : takeK k l m = ([], [], (takeK k l m).2.2) := by
  cases k with
  | zero => simp [takeK] at h
  | succ k =>
    revert h
    rw [takeK]
    split
    · simp
    · split
      · simp
      · simp

theorem pre_nil (k : Nat) (l : List UInt8) (m : Int) : pre [] (takeK k l m) = takeK k l m := by
  unfold pre
  by_cases h : (takeK k l m).2.2 = 0
  · rw [if_neg (by simp [h]), List.nil_append, ← h]
  · rw [if_pos h, ← takeK_err k l m h]

theorem pre_step (acc : List ByteArray) (k : Nat) (l s r : List UInt8) (m : Int) (h : takeS l m = (s, r, 0)) : pre acc (takeK (k + 1) l m) = pre (acc ++ [⟨s.toArray⟩]) (takeK k r m) := by
  unfold pre
  rw [takeK, h]
  simp only [ne_eq, not_true_eq_false, if_false]
  by_cases h2 : (takeK k r m).2.2 = 0
  · simp [h2]
  · simp [h2]

theorem pre_stop (acc : List ByteArray) (k : Nat) (l : List UInt8) (m : Int) (h : (takeS l m).2.2 ≠ 0) : pre acc (takeK (k + 1) l m) = ([], [], (takeS l m).2.2) := by
  unfold pre
  rw [takeK, if_pos h]
  simp [h]

theorem takeN_used (l : List UInt8) (h : (takeN l).2.2 = 0) : (takeN l).2.1.length + 1 ≤ l.length := by
  have h2 : takeN l = ((takeN l).1, (takeN l).2.1, 0) := by rw [← h]
  have h3 := (takeN_only l _ _ h2).1
  have h4 := congrArg List.length h3
  rw [List.length_append, enc_length] at h4
  omega

theorem takeS_used (l s r : List UInt8) (m : Int) (h : takeS l m = (s, r, 0)) : r.length + 1 ≤ l.length := by
  unfold takeS at h
  by_cases he : (takeN l).2.2 = 0
  · have hu := takeN_used l he
    rw [if_neg (by simp [he])] at h
    split at h
    · simp at h
    · split at h
      · simp at h
      · injection h with h1 h2
        injection h2 with h2 h3
        rw [← h2, List.length_drop]
        omega
  · rw [if_pos he] at h
    injection h with h1 h2
    injection h2 with h2 h3
    exact absurd h3 he

theorem takeL_err {l : List UInt8} {n : Nat} {rest : List UInt8} {er : Nat} (many most : Int) (h : takeN l = (n, rest, er)) (he : er ≠ 0) : takeL l many most = ([], [], er) := by
  unfold takeL; rw [h, if_pos he]
theorem takeL_large {l : List UInt8} {n : Nat} {rest : List UInt8} {many : Int} (most : Int) (h : takeN l = (n, rest, 0)) (hm : max many 0 < (n : Int)) : takeL l many most = ([], [], 5) := by
  unfold takeL; rw [h, if_neg (by simp), if_pos hm]
theorem takeL_ok {l : List UInt8} {n : Nat} {rest : List UInt8} {many : Int} (most : Int) (h : takeN l = (n, rest, 0)) (hm : (n : Int) ≤ max many 0) : takeL l many most = takeK n rest most := by
  unfold takeL; rw [h, if_neg (by simp), if_neg (show ¬ max many 0 < (n : Int) by omega)]

/-- The call answers strings, a slice of its own that holds what is left, and an error. -/
def TakesL (r : List ByteArray × List UInt8 × Nat) (w : World) (e : Ending) (w' : World) : Prop :=
  ∃ vl vr, e = .returned (.tuple #[vl, vr, .int .i64 (r.2.2 : Int)]) ∧ OwnS 9 w' w.heap.size vl r.1 ∧ Own 5 w' w.heap.size vr r.2.1 ∧ Below w.heap.size w w'

set_option maxHeartbeats 1000000 in
theorem takeList_any (v : Value) (l : List UInt8) (many m : Int) (w : World) (hr : Rd w.heap.size w v l) (y0 : -9223372036854775808 ≤ many) (y1 : many ≤ 9223372036854775807) (m0 : -9223372036854775808 ≤ m) (m1 : m ≤ 9223372036854775807) (hl : l.length ≤ 1099511627776) :
    Calls Try.prog 54 #[v, .int .i64 many, .int .i64 m] w (TakesL (takeL l many m) w) := by
  obtain ⟨i0, hi, hz0, hz1, hz2⟩ := info_parts info9
  have hn := takeN_lt l
  have hrest := takeN_rest l
  have HR := Lib.hid hr
  clear hr
  go_enter Try.func54, Try.ntmps54
  go_wp2_with fail
  refine (cutNumber_any v l w.heap.size w HR.out (Nat.le_refl _)).mono ?_
  rintro e w1 ⟨v1, rfl, hr1, hb1⟩
  generalize hT : takeN l = r at *
  obtain ⟨n, rest, er⟩ := r
  have hn2 : (n : Int) ≤ 18446744073709551615 := by have h : n < 18446744073709551616 := hn; omega
  have hrest2 : rest.length ≤ l.length := hrest
  have hr1' : Rd w.heap.size w1 v1 rest := hr1
  have HR1 := Lib.hid hr1'
  have HB1 := Lib.hid hb1
  have HT := Lib.hid hT
  have hs1 := hb1.size
  clear hr1 hr1' hb1 hn hT hrest
  by_cases he : er = 0
  · subst he
    by_cases hab : max many 0 < (n : Int)
    · have HS := Lib.hid (takeL_large m HT.out hab)
      go_wp2_with fail
      refine (above_yes (n : Int) many w1 (by omega) hn2 y0 y1 hab).mono ?_
      rintro e w2 ⟨rfl, rfl⟩
      go_wp2
      go_ret3
      rw [HS.out]
      exact ⟨_, _, rfl, OwnS.nil _ _ _, Own.nil _ _ _, HB1.out⟩
    · have hab2 : (n : Int) ≤ max many 0 := by omega
      have HAB := Lib.hid hab2
      clear hab hab2
      have HS := Lib.hid (takeL_ok m HT.out HAB.out)
      go_wp2_with fail
      refine (above_no (n : Int) many w1 (by omega) hn2 y0 y1 HAB.out).mono ?_
      rintro e w2 ⟨rfl, rfl⟩
      go_wp2
      go_loopw [10, 11, 12, 13, 27] (fun vr er vl _ i wr => ∃ k : Nat, k ≤ n ∧ i = .int .u64 k ∧ ∃ (acc : List ByteArray) (r : List UInt8), er = .int .i64 0 ∧ acc.length + r.length ≤ rest.length ∧ Hid (takeK n rest m = pre acc (takeK (n - k) r m)) ∧
          Hid (Rd w.heap.size wr vr r) ∧ Hid (OwnS 9 wr w.heap.size vl acc) ∧ Hid (Below w.heap.size w wr)) (fun _ _ _ _ i _ => n - (intOf i).toNat)
      case atStart => exact ⟨0, Nat.zero_le _, rfl, [], rest, rfl, by simp, (pre_nil _ _ _).symm, HR1, OwnS.nil _ _ _, HB1⟩
      case round =>
        obtain ⟨k, hk, rfl, acc, r, rfl, hlen, HK, HRr, HO, HB⟩ := hrel
        have hsz := HB.out.size
        by_cases hlt : k < n
        · have hlt2 : decide ((k : Int) < (n : Int)) = true := by simp; omega
          go_wp2_with fail
          refine (cutText_any u10 r m w.heap.size wr HRr.out hsz m0 m1).mono ?_
          rintro e w3 ⟨v3, rfl, hr3, hb3⟩
          generalize hq : takeS r m = q at *
          obtain ⟨s, r', er'⟩ := q
          have hr3' : Rd w.heap.size w3 v3 r' := hr3
          have HR3 := Lib.hid hr3'
          have HB3 := Lib.hid hb3
          have HQ := Lib.hid hq
          have hs3 := hb3.size
          clear hr3 hr3' hb3 hq
          have ek : n - k = (n - (k + 1)) + 1 := by omega
          have HE := Lib.hid ek
          clear ek
          by_cases he3 : er' = 0
          · subst he3
            have hu := takeS_used _ _ _ _ HQ.out
            have hK2 : takeK n rest m = pre (acc ++ [⟨s.toArray⟩]) (takeK (n - (k + 1)) r' m) := by rw [HK.out, HE.out, pre_step _ _ _ _ _ _ HQ.out]
            have HK2 := Lib.hid hK2
            clear hK2
            go_wp2_with (at_builtin; refine wpList_app1S rfl _ _ 26 rfl 9 i0 Try.underlying26 hi hz0 hz1 hz2 w.heap.size u12 acc ⟨s.toArray⟩ ⟨w3.heap.size, 0, none⟩ rfl ((HO.out.below HB3.out (Nat.le_refl _)).alloc _) rfl ?d1 ?d2 ?d3 ?_)
            case d1 => simp
            case d2 => omega
            case d3 => simp; omega
            intro v4 w4 hown4 hb4
            have HO4 := Lib.hid hown4
            have hb4' : Below w.heap.size w3 w4 := ((Below.refl _ _).alloc (by omega) _).trans hb4
            have HR4 := Lib.hid (HR3.out.below hb4')
            have HB4 : Hid (Below w.heap.size w w4) := (HB.out.trans (HB3.out.mono hsz)).trans hb4'
            clear hown4 hb4 hb4'
            go_wp2
            go_roundw
            case rel => exact ⟨k + 1, by omega, by go_num, acc ++ [⟨s.toArray⟩], r', rfl, by simp only [List.length_append, List.length_cons, List.length_nil]; omega, HK2, HR4, HO4, HB4⟩
            case measure => simp [intOf]; omega
          · have he4 : ((er' : Int) != 0) = true := by simp; omega
            have hK2 : takeK n rest m = ([], [], er') := by
              have h : (takeS r m).2.2 ≠ 0 := by rw [HQ.out]; exact he3
              rw [HK.out, HE.out, pre_stop _ _ _ _ h, HQ.out]
            have HK2 := Lib.hid hK2
            clear hK2
            go_wp2
            go_ret3
            rw [HS.out, HK2.out]
            exact ⟨_, _, rfl, OwnS.nil _ _ _, Own.nil _ _ _, HB.out.trans (HB3.out.mono hsz)⟩
        · obtain rfl : k = n := by omega
          have hK2 : takeK k rest m = (acc, r, 0) := by
            rw [HK.out, Nat.sub_self]
            simp [pre, takeK]
          have HK2 := Lib.hid hK2
          clear hK2
          go_wp2_with fail
          refine (detached_any u10 r wr (HRr.out.more hsz) (by omega)).mono ?_
          rintro e w3 ⟨v3, rfl, hown3, hb3⟩
          have HO3 := Lib.hid hown3
          have HB3 := Lib.hid hb3
          clear hown3 hb3
          go_wp2
          go_ret3
          rw [HS.out, HK2.out]
          exact ⟨_, _, rfl, HO.out.below HB3.out (Nat.le_refl _), HO3.out.base hsz, HB.out.trans (HB3.out.mono hsz)⟩
  · have he1 : ((er : Int) != 0) = true := by simp; omega
    have HS := Lib.hid (takeL_err many m HT.out he)
    go_wp2
    go_ret3
    rw [HS.out]
    exact ⟨_, _, rfl, OwnS.nil _ _ _, Own.nil _ _ _, HB1.out⟩
end Go.Proofs.Ytmlpiembglmggaa

namespace Go.Proofs.Ytmlpiembglmggaa
open Go.RowKit
set_option linter.unusedVariables false

theorem zag_zig (n : Int) : zag (zig n).toNat = n := by
  unfold zag zig
  by_cases h : n < 0
  · rw [if_pos h, if_pos (by omega)]; omega
  · rw [if_neg h, if_neg (by omega)]; omega

theorem zig_bound (n : Int) (h0 : -9223372036854775808 ≤ n) (h1 : n ≤ 9223372036854775807) : (zig n).toNat < 18446744073709551616 := by
  unfold zig
  split <;> omega

theorem zig_zag (u : Nat) : (zig (zag u)).toNat = u := by
  unfold zag zig
  by_cases h : u % 2 = 1
  · rw [if_pos h, if_pos (by omega)]; omega
  · rw [if_neg h, if_neg (by omega)]; omega

theorem ba_eq (s : ByteArray) : (⟨s.data.toList.toArray⟩ : ByteArray) = s := by simp

theorem takeS_enc (s : ByteArray) (r : List UInt8) (m : Int) (hs : s.size < 18446744073709551616) (hm : (s.size : Int) ≤ max m 0) : takeS (encS s ++ r) m = (s.data.toList, r, 0) := by
  have hl : s.data.toList.length = s.size := by simp
  have h : takeN (encS s ++ r) = (s.size, s.data.toList ++ r, 0) := by
    unfold encS
    rw [List.append_assoc]
    exact takeN_enc s.size hs _
  rw [takeS_ok h hm (by rw [List.length_append]; omega)]
  have e1 : (s.data.toList ++ r).take s.size = s.data.toList := by rw [List.take_append_of_le_length (by omega), List.take_of_length_le (by omega)]
  have e2 : (s.data.toList ++ r).drop s.size = r := by rw [List.drop_append_of_le_length (by omega), List.drop_of_length_le (by omega), List.nil_append]
  rw [e1, e2]

theorem takeS_big (s : ByteArray) (r : List UInt8) (m : Int) (hs : s.size < 18446744073709551616) (hm : max m 0 < (s.size : Int)) : takeS (encS s ++ r) m = ([], [], 5) := by
  have h : takeN (encS s ++ r) = (s.size, s.data.toList ++ r, 0) := by
    unfold encS
    rw [List.append_assoc]
    exact takeN_enc s.size hs _
  exact takeS_large h hm

theorem takeK_enc (ss : List ByteArray) (r : List UInt8) (m : Int) (h : ∀ s ∈ ss, s.size < 18446744073709551616 ∧ (s.size : Int) ≤ max m 0) : takeK ss.length (encs ss ++ r) m = (ss, r, 0) := by
  induction ss with
  | nil => rfl
  | cons s ss ih =>
    have h1 := h s (by simp)
    have e : takeS (encs (s :: ss) ++ r) m = (s.data.toList, encs ss ++ r, 0) := by
      rw [encs, List.append_assoc]
      exact takeS_enc s _ m h1.1 h1.2
    rw [List.length_cons, takeK, e]
    simp only [ne_eq, not_true_eq_false, if_false]
    rw [ih (fun t ht => h t (by simp [ht]))]
    simp

theorem takeK_big (ss : List ByteArray) (r : List UInt8) (m : Int) (h : ∀ s ∈ ss, s.size < 18446744073709551616) (hb : ∃ s ∈ ss, max m 0 < (s.size : Int)) : takeK ss.length (encs ss ++ r) m = ([], [], 5) := by
  induction ss with
  | nil => obtain ⟨s, hs, _⟩ := hb; cases hs
  | cons s ss ih =>
    have h1 := h s (by simp)
    by_cases hs : max m 0 < (s.size : Int)
    · have e : takeS (encs (s :: ss) ++ r) m = ([], [], 5) := by
        rw [encs, List.append_assoc]
        exact takeS_big s _ m h1 hs
      rw [List.length_cons, takeK, e]
      simp
    · have e : takeS (encs (s :: ss) ++ r) m = (s.data.toList, encs ss ++ r, 0) := by
        rw [encs, List.append_assoc]
        exact takeS_enc s _ m h1 (by omega)
      obtain ⟨t, ht, htb⟩ := hb
      have ht2 : t ∈ ss := by
        rcases List.mem_cons.1 ht with rfl | h2
        · exact absurd htb hs
        · exact h2
      rw [List.length_cons, takeK, e]
      simp only [ne_eq, not_true_eq_false, if_false]
      rw [ih (fun t ht => h t (by simp [ht])) ⟨t, ht2, htb⟩]
      simp

theorem takeL_enc (ss : List ByteArray) (r : List UInt8) (many m : Int) (hn : ss.length < 18446744073709551616) (hmany : (ss.length : Int) ≤ max many 0) (h : ∀ s ∈ ss, s.size < 18446744073709551616 ∧ (s.size : Int) ≤ max m 0) : takeL (encL ss ++ r) many m = (ss, r, 0) := by
  have e : takeN (encL ss ++ r) = (ss.length, encs ss ++ r, 0) := by
    unfold encL
    rw [List.append_assoc]
    exact takeN_enc _ hn _
  rw [takeL_ok m e hmany, takeK_enc ss r m h]

theorem takeL_many (ss : List ByteArray) (r : List UInt8) (many m : Int) (hn : ss.length < 18446744073709551616) (hmany : max many 0 < (ss.length : Int)) : takeL (encL ss ++ r) many m = ([], [], 5) := by
  have e : takeN (encL ss ++ r) = (ss.length, encs ss ++ r, 0) := by
    unfold encL
    rw [List.append_assoc]
    exact takeN_enc _ hn _
  exact takeL_large m e hmany

theorem takeL_big (ss : List ByteArray) (r : List UInt8) (many m : Int) (hn : ss.length < 18446744073709551616) (hmany : (ss.length : Int) ≤ max many 0) (h : ∀ s ∈ ss, s.size < 18446744073709551616) (hb : ∃ s ∈ ss, max m 0 < (s.size : Int)) : takeL (encL ss ++ r) many m = ([], [], 5) := by
  have e : takeN (encL ss ++ r) = (ss.length, encs ss ++ r, 0) := by
    unfold encL
    rw [List.append_assoc]
    exact takeN_enc _ hn _
  rw [takeL_ok m e hmany, takeK_big ss r m h hb]

theorem takeS_only (l s r : List UInt8) (m : Int) (h : takeS l m = (s, r, 0)) : encS ⟨s.toArray⟩ ++ r = l := by
  unfold takeS at h
  by_cases he : (takeN l).2.2 = 0
  · have h2 : takeN l = ((takeN l).1, (takeN l).2.1, 0) := by rw [← he]
    have h3 := (takeN_only l _ _ h2).1
    rw [if_neg (by simp [he])] at h
    split at h
    · simp at h
    · split at h
      · simp at h
      · rename_i hs
        injection h with h4 h5
        injection h5 with h5 _
        have hsz : (ByteArray.mk s.toArray).size = (takeN l).1 := by
          show s.toArray.size = _
          rw [← h4]
          simp
          omega
        unfold encS
        rw [hsz]
        have hd : (ByteArray.mk s.toArray).data.toList = s := by simp
        rw [hd, List.append_assoc, ← h4, ← h5, List.take_append_drop]
        exact h3
  · rw [if_pos he] at h
    injection h with h1 h2
    injection h2 with h2 h3
    exact absurd h3 he

theorem takeK_only (k : Nat) : ∀ (l : List UInt8) (ss : List ByteArray) (r : List UInt8) (m : Int), takeK k l m = (ss, r, 0) → encs ss ++ r = l ∧ ss.length = k := by
  induction k with
  | zero =>
    intro l ss r m h
    rw [takeK] at h
    injection h with h1 h2
    injection h2 with h2 _
    subst h1 h2
    exact ⟨rfl, rfl⟩
  | succ k ih =>
    intro l ss r m h
    rw [takeK] at h
    by_cases h1 : (takeS l m).2.2 = 0
    · rw [if_neg (by simp [h1])] at h
      by_cases h2 : (takeK k (takeS l m).2.1 m).2.2 = 0
      · rw [if_neg (by simp [h2])] at h
        injection h with h3 h4
        injection h4 with h4 _
        have e1 : takeS l m = ((takeS l m).1, (takeS l m).2.1, 0) := by rw [← h1]
        have e2 : takeK k (takeS l m).2.1 m = ((takeK k (takeS l m).2.1 m).1, (takeK k (takeS l m).2.1 m).2.1, 0) := by rw [← h2]
        have h5 := takeS_only _ _ _ _ e1
        have h6 := ih _ _ _ _ e2
        subst h3 h4
        refine ⟨?_, by simp [h6.2]⟩
        rw [encs, List.append_assoc, h6.1, h5]
      · rw [if_pos h2] at h
        injection h with h3 h4
        injection h4 with h4 h5
        exact absurd h5 h2
    · rw [if_pos h1] at h
      injection h with h3 h4
      injection h4 with h4 h5
      exact absurd h5 h1

theorem takeL_only (l : List UInt8) (ss : List ByteArray) (r : List UInt8) (many m : Int) (h : takeL l many m = (ss, r, 0)) : encL ss ++ r = l := by
  unfold takeL at h
  by_cases he : (takeN l).2.2 = 0
  · have h2 : takeN l = ((takeN l).1, (takeN l).2.1, 0) := by rw [← he]
    have h3 := (takeN_only l _ _ h2).1
    rw [if_neg (by simp [he])] at h
    split at h
    · simp at h
    · have h4 := takeK_only _ _ _ _ _ h
      unfold encL
      rw [h4.2, List.append_assoc, h4.1]
      exact h3
  · rw [if_pos he] at h
    injection h with h1 h2
    injection h2 with h2 h3
    exact absurd h3 he
end Go.Proofs.Ytmlpiembglmggaa

namespace Go.Proofs.Ytmlpiembglmggaa
open Go.RowKit
set_option linter.unusedVariables false

set_option maxHeartbeats 1000000 in
theorem strings_same (va vb : Value) (ss : List ByteArray) (B B' : Nat) (w : World) (ha : RdS B w va ss) (hb : RdS B' w vb ss) (hB : B ≤ w.heap.size) (hB' : B' ≤ w.heap.size) (hl : ss.length ≤ 9223372036854775806) :
    Calls Try.prog 35 #[va, vb] w (TrueStays w) := by
  obtain ⟨A, c, hv, _, _⟩ := ha.shape
  obtain ⟨A', c', hv', _, _⟩ := hb.shape
  rw [hv] at ha ⊢
  rw [hv'] at hb ⊢
  have HA := Lib.hid ha
  have HB := Lib.hid hb
  clear ha hb hv hv'
  go_enter Try.func35, Try.ntmps35
  go_wp2
  go_loopw [5] (fun i wr => ∃ k : Nat, k ≤ ss.length ∧ i = .int .i64 k ∧ Hid (Below w.heap.size w wr)) (fun i _ => ss.length - (intOf i).toNat)
  case atStart => exact ⟨0, Nat.zero_le _, rfl, Below.refl _ _⟩
  case round =>
    obtain ⟨k, hk, rfl, HW⟩ := hrel
    by_cases hlt : k < ss.length
    · obtain ⟨a, rfl, hcell⟩ := (HA.out.below (HW.out.mono hB)).at_ k hlt
      obtain ⟨a', rfl, hcell'⟩ := (HB.out.below (HW.out.mono hB')).at_ k hlt
      generalize ss[k] = s at *
      have hlt2 : (k : Int) < (ss.length : Int) := by omega
      go_wp2
      go_quiet (fail)
      go_wp2
      go_roundw
      case rel => exact ⟨k + 1, by omega, by go_num, HW.out.trans (below_drewN _ _ _)⟩
      case measure => simp [intOf]; omega
    · obtain rfl : k = ss.length := by omega
      go_wp2
      go_ret
      exact ⟨rfl, HW.out⟩
end Go.Proofs.Ytmlpiembglmggaa

namespace Go.Proofs.Ytmlpiembglmggaa
open Go.RowKit
set_option linter.unusedVariables false

set_option maxHeartbeats 400000 in
theorem refTake_nil (A : Option Addr) (c : Nat) (B : Nat) (w : World) : Calls Try.prog 53 #[.slice A 0 c] w (CutN B (takeN []) w) := by
  go_enter Try.func53, Try.ntmps53
  go_wp2
  go_ret3
  exact ⟨_, rfl, Rd.nil _ _, Below.refl _ _⟩

set_option maxHeartbeats 400000 in
theorem refTake_big (a : Addr) (k : UInt8) (n c : Nat) (B : Nat) (w : World) (h0 : 0 < n) (hn : n ≤ 9223372036854775807) (hc0 : w.cell? a = some (.int .u8 (k.toNat : Int))) (hk : 8 < (k.toNat : Int)) : Calls Try.prog 53 #[.slice (some a) n c] w (CutN B (0, [], 3) w) := by
  have hk2 := UInt8.toNat_lt k
  have hz : ((n : Int) == 0) = false := by simp; omega
  go_enter Try.func53, Try.ntmps53
  go_wp2
  go_ret3
  exact ⟨_, rfl, Rd.nil _ _, Below.refl _ _⟩

set_option maxHeartbeats 400000 in
theorem refTake_zero (a : Addr) (k : UInt8) (n c : Nat) (B : Nat) (w : World) (h0 : 1 < n) (hn : n ≤ 9223372036854775807) (hc0 : w.cell? a = some (.int .u8 (k.toNat : Int))) (hc1 : w.cell? ⟨a.block, a.off + 1, none⟩ = some (.int .u8 0)) (hk : (k.toNat : Int) ≤ 8) (hk0 : 0 < (k.toNat : Int)) : Calls Try.prog 53 #[.slice (some a) n c] w (CutN B (0, [], 3) w) := by
  have hz : ((n : Int) == 0) = false := by simp; omega
  have h8 : decide (8 < (k.toNat : Int)) = false := by simp; omega
  go_enter Try.func53, Try.ntmps53
  go_wp2
  go_ret3
  exact ⟨_, rfl, Rd.nil _ _, Below.refl _ _⟩

/-- Bytes are missing: only the first byte is there, or the second one is not 0. -/
theorem refTake_short1 (a : Addr) (k : UInt8) (c : Nat) (B : Nat) (w : World) (hc0 : w.cell? a = some (.int .u8 (k.toNat : Int))) (hk : (k.toNat : Int) ≤ 8) (hk0 : 0 < (k.toNat : Int)) : Calls Try.prog 53 #[.slice (some a) 1 c] w (CutN B (0, [], 2) w) := by
  have h8 : decide (8 < (k.toNat : Int)) = false := by simp; omega
  go_enter Try.func53, Try.ntmps53
  go_wp2
  go_ret3
  exact ⟨_, rfl, Rd.nil _ _, Below.refl _ _⟩

set_option maxHeartbeats 400000 in
theorem refTake_short2 (a : Addr) (k d : UInt8) (n c : Nat) (B : Nat) (w : World) (h0 : 1 < n) (hn : n ≤ 9223372036854775807) (hc0 : w.cell? a = some (.int .u8 (k.toNat : Int))) (hc1 : w.cell? ⟨a.block, a.off + 1, none⟩ = some (.int .u8 (d.toNat : Int))) (hd : 0 < (d.toNat : Int)) (hk : (k.toNat : Int) ≤ 8) (hk0 : 0 < (k.toNat : Int)) (hs : (n : Int) < 1 + (k.toNat : Int)) :
    Calls Try.prog 53 #[.slice (some a) n c] w (CutN B (0, [], 2) w) := by
  have hz : ((n : Int) == 0) = false := by simp; omega
  have hd2 : ((d.toNat : Int) == 0) = false := by simp; omega
  have h8 : decide (8 < (k.toNat : Int)) = false := by simp; omega
  go_enter Try.func53, Try.ntmps53
  go_wp2
  go_ret3
  exact ⟨_, rfl, Rd.nil _ _, Below.refl _ _⟩

/-- The single byte 0. -/
theorem refTake_none (a : Addr) (n c : Nat) (w : World) (h0 : 0 < n) (hn : n ≤ c) (hc : c ≤ 9223372036854775807) (hc0 : w.cell? a = some (.int .u8 0)) :
    Calls Try.prog 53 #[.slice (some a) n c] w fun e w' => e = .returned (.tuple #[.int .u64 0, .slice (if c = 1 then some a else some ⟨a.block, a.off + 1, none⟩) (n - 1) (c - 1), .int .i64 0]) ∧ Below w.heap.size w w' := by
  have hz : ((n : Int) == 0) = false := by simp; omega
  by_cases hc1 : c = 1
  · subst hc1
    obtain rfl : n = 1 := by omega
    go_enter Try.func53, Try.ntmps53
    go_wp2
    refine wp_loop_rounds 1 ?_
    rw [rounds_succ]
    go_wp2
    go_quiet (fail)
    go_wp2
    go_ret3
    exact ⟨rfl, below_drewN _ _ _⟩
  · go_enter Try.func53, Try.ntmps53
    go_wp2
    refine wp_loop_rounds 1 ?_
    rw [rounds_succ]
    go_wp2
    go_quiet (fail)
    go_wp2
    go_ret3
    exact ⟨rfl, below_drewN _ _ _⟩

set_option maxHeartbeats 1000000 in
theorem refTake_ok (a : Addr) (k d : UInt8) (t : List UInt8) (n c : Nat) (w : World) (hnc : n ≤ c) (hc : c ≤ 9223372036854775807) (hc0 : w.cell? a = some (.int .u8 (k.toNat : Int))) (hc1 : w.cell? ⟨a.block, a.off + 1, none⟩ = some (.int .u8 (d.toNat : Int))) (hd : 0 < (d.toNat : Int))
    (hk : (k.toNat : Int) ≤ 8) (hk0 : 0 < (k.toNat : Int)) (hs : 1 + (k.toNat : Int) ≤ (n : Int)) (ht : k.toNat ≤ t.length) (hct : ∀ j (h : j < t.length), w.cell? ⟨a.block, a.off + 1 + j, none⟩ = some (.int .u8 (t[j].toNat : Int))) :
    Calls Try.prog 53 #[.slice (some a) n c] w fun e w' => e = .returned (.tuple #[.int .u64 (val (t.take k.toNat) : Int), .slice (if c = 1 + k.toNat then some a else some (a.add (1 + k.toNat))) (n - (1 + k.toNat)) (c - (1 + k.toNat)), .int .i64 0]) ∧ Below w.heap.size w w' := by
  have hz : ((n : Int) == 0) = false := by simp; omega
  have hd2 : ((d.toNat : Int) == 0) = false := by simp; omega
  have h8 : decide (8 < (k.toNat : Int)) = false := by simp; omega
  have hs2 : decide ((n : Int) < 1 + (k.toNat : Int)) = false := by simp; omega
  have hc2 : ¬ c = 1 := by omega
  have HT := Lib.hid hct
  clear hct
  go_enter Try.func53, Try.ntmps53
  go_wp2
  go_loop [6, 7] (fun x i => ∃ j : Nat, j ≤ k.toNat ∧ i = .int .i64 ((j : Int) + 1) ∧ x = .int .u64 (val (t.take j) : Int)) (fun _ i => (k.toNat + 1 - intOf i).toNat)
  case atStart => exact ⟨0, Nat.zero_le _, rfl, rfl⟩
  case round =>
    obtain ⟨j, hj, rfl, rfl⟩ := hrel
    by_cases hlt : j < k.toNat
    · have hcj : w.cell? ⟨a.block, a.off + (j + 1), none⟩ = some (.int .u8 (t[j].toNat : Int)) := by
        have h := HT.out j (by omega)
        rw [show a.off + 1 + j = a.off + (j + 1) by omega] at h
        exact h
      have hv := val_take_lt t j (by omega)
      have hb := UInt8.toNat_lt t[j]
      have HV := Lib.hid (val_take t j (by omega))
      generalize val (t.take j) = V at *
      generalize t[j].toNat = C at *
      have hv2 : (V : Int) ≤ 72057594037927935 := by omega
      have hb2 : (C : Int) ≤ 255 := by omega
      clear hv hb
      go_wp2
      go_round
      case rel => exact ⟨j + 1, by omega, by go_num, by rw [HV.out]; go_num⟩
      case measure => simp [intOf]; omega
    · obtain rfl : j = k.toNat := by omega
      go_wp2
      go_quiet (fail)
      go_wp2
      all_goals
        go_ret3
        exact ⟨rfl, below_drewN _ _ _⟩

theorem refTake_any (v : Value) (l : List UInt8) (B : Nat) (w : World) (hr : Rd B w v l) (hB : B ≤ w.heap.size) : Calls Try.prog 53 #[v] w (CutN B (takeN l) w) := by
  have hr0 := hr
  obtain ⟨A, c, rfl, hc, hm, hn, hcell⟩ := hr
  unfold maxLen at hm
  match l with
  | [] => exact refTake_nil A c B w
  | k :: t =>
    cases A with
    | none =>
      have := hn rfl
      simp at hc
      omega
    | some a =>
      have hl : (k :: t).length = t.length + 1 := rfl
      rw [hl] at hc hr0
      have hc0 : w.cell? a = some (.int .u8 (k.toNat : Int)) := by
        have h := (hcell a rfl).2 0 (by simp)
        simpa [Addr.add] using h
      have hct : ∀ j (h : j < t.length), w.cell? ⟨a.block, a.off + 1 + j, none⟩ = some (.int .u8 (t[j].toNat : Int)) := by
        intro j h
        have h2 := (hcell a rfl).2 (j + 1) (by simpa using h)
        rw [show a.add (j + 1) = ⟨a.block, a.off + 1 + j, none⟩ from by simp [Addr.add]; omega] at h2
        simpa using h2
      have hk2 := UInt8.toNat_lt k
      show Calls Try.prog 53 #[.slice (some a) (t.length + 1) c] w _
      rw [takeN]
      by_cases h8 : 8 < k.toNat
      · rw [if_pos (.inl h8)]
        exact refTake_big a k _ c B w (by omega) (by omega) hc0 (by omega)
      by_cases hk0 : k.toNat = 0
      · have hk : k = 0 := UInt8.toNat_inj.1 (by simpa using hk0)
        subst hk
        rw [if_neg (by simp), if_neg (by simp)]
        refine (refTake_none a (t.length + 1) c w (by omega) hc (by omega) hc0).mono ?_
        rintro e w' ⟨rfl, hb⟩
        have hd := (hr0.below (hb.mono hB)).drop 1 (by omega)
        refine ⟨_, rfl, ?_, hb⟩
        simpa [Addr.add] using hd
      cases t with
      | nil =>
        rw [if_neg (by simp; omega), if_pos (by simp; omega)]
        exact refTake_short1 a k c B w hc0 (by omega) (by omega)
      | cons d u =>
        have hc1 : w.cell? ⟨a.block, a.off + 1, none⟩ = some (.int .u8 (d.toNat : Int)) := hct 0 (by simp)
        by_cases hd0 : d = 0
        · subst hd0
          rw [if_pos (.inr ⟨by omega, rfl⟩)]
          exact refTake_zero a k _ c B w (by simp) (by omega) hc0 hc1 (by omega) (by omega)
        · have hdp : 0 < (d.toNat : Int) := by
            rcases Nat.eq_zero_or_pos d.toNat with h | h
            · exact absurd (UInt8.toNat_inj.1 (by simpa using h)) hd0
            · omega
          rw [if_neg (by rintro (h | ⟨_, h⟩); exact h8 h; simp at h; exact hd0 h)]
          by_cases hs : (d :: u).length < k.toNat
          · rw [if_pos hs]
            exact refTake_short2 a k d _ c B w (by simp) (by omega) hc0 hc1 hdp (by omega) (by omega) (by omega)
          · rw [if_neg hs]
            refine (refTake_ok a k d (d :: u) _ c w hc (by omega) hc0 hc1 hdp (by omega) (by omega) (by omega) (by omega) hct).mono ?_
            rintro e w' ⟨rfl, hb⟩
            have hd := (hr0.below (hb.mono hB)).drop (1 + k.toNat) (by omega)
            refine ⟨_, rfl, ?_, hb⟩
            rw [show (k :: d :: u).drop (1 + k.toNat) = (d :: u).drop k.toNat from by rw [Nat.add_comm]; rfl] at hd
            exact hd

end Go.Proofs.Ytmlpiembglmggaa

namespace Go.Proofs.Ytmlpiembglmggaa
open Go.RowKit
set_option linter.unusedVariables false

theorem OwnS.made (e : TypeId) (w : World) : OwnS e (w.alloc (.cells #[] e)) w.heap.size (.slice (some ⟨w.heap.size, 0, none⟩) 0 0) [] :=
  World.ownsRow_made w #[] 0 (Nat.le_refl _) (Nat.zero_le _) rfl

set_option maxHeartbeats 1000000 in
theorem refText_any (v : Value) (l : List UInt8) (m : Int) (B : Nat) (w : World) (hr : Rd B w v l) (hB : B ≤ w.heap.size) (m0 : -9223372036854775808 ≤ m) (m1 : m ≤ 9223372036854775807) :
    Calls Try.prog 39 #[v, .int .i64 m] w (CutS B (takeS l m) w) := by
  have hn := takeN_lt l
  have HR := Lib.hid hr
  clear hr
  go_enter Try.func39, Try.ntmps39
  go_wp2_with fail
  refine (refTake_any v l B w HR.out hB).mono ?_
  rintro e w1 ⟨v1, rfl, hr1, hb1⟩
  generalize hT : takeN l = r at *
  obtain ⟨n, rest, er⟩ := r
  have hn2 : (n : Int) ≤ 18446744073709551615 := by have h : n < 18446744073709551616 := hn; omega
  have hr1' : Rd B w1 v1 rest := hr1
  have HR1 := Lib.hid hr1'
  have HB1 := Lib.hid hb1
  have HT := Lib.hid hT
  clear hr1 hr1' hb1 hn hT
  by_cases he : er = 0
  · subst he
    by_cases hab : max m 0 < (n : Int)
    · have HS := Lib.hid (takeS_large HT.out hab)
      have hab3 : decide (max m 0 < (n : Int)) = true := by simpa using hab
      go_wp2
      go_ret3
      rw [HS.out]
      exact ⟨_, rfl, Rd.nil _ _, HB1.out⟩
    · have hab2 : (n : Int) ≤ max m 0 := by omega
      have HAB := Lib.hid hab2
      clear hab hab2
      obtain ⟨A1, c1, hv1, hc1, hm1⟩ := HR1.out.shape
      unfold maxLen at hm1
      rw [hv1] at HR1 ⊢
      clear hv1
      have hab3 : decide (max m 0 < (n : Int)) = false := by simpa using HAB.out
      by_cases hsh : rest.length < n
      · have HS := Lib.hid (takeS_short HT.out HAB.out hsh)
        go_wp2
        go_ret3
        rw [HS.out]
        exact ⟨_, rfl, Rd.nil _ _, HB1.out⟩
      · have HS := Lib.hid (takeS_ok HT.out HAB.out hsh)
        cases A1 with
        | none =>
          obtain ⟨A', c', hv', h1', h2', h3', _⟩ := HR1.out
          injection hv' with e1 e2 e3
          subst e1 e3
          have hc0 := h3' rfl
          subst hc0
          have hr0 : rest = [] := List.eq_nil_of_length_eq_zero (by omega)
          subst hr0
          have hn0 : n = 0 := by simp at hsh; exact hsh
          subst hn0
          have hst : ∀ nq, (convert 22 9 (.slice none 0 0)).run Try.prog (w1.drewN nq) = .ok (.string ⟨#[]⟩) (w1.drewN nq) := fun nq => run_string_rd (l := []) 22 9 5 Try.underlying22 Try.underlying5 Try.underlying9 (Rd.nil B (w1.drewN nq))
          go_wp2
          go_quiet (fail)
          go_wp2
          go_ret3
          rw [HS.out]
          exact ⟨_, rfl, Rd.nil _ _, HB1.out.trans (below_drewN _ _ _)⟩
        | some a =>
          have hst : ∀ nq, (convert 22 9 (.slice (some a) n c1)).run Try.prog (w1.drewN nq) = .ok (.string ⟨(rest.take n).toArray⟩) (w1.drewN nq) := fun nq => run_string_rd (w := w1.drewN nq) 22 9 5 Try.underlying22 Try.underlying5 Try.underlying9 (HR1.out.take n (by omega))
          have hdr := HR1.out.drop n (by omega)
          by_cases hcn : c1 = n
          · subst hcn
            rw [if_pos rfl, Nat.sub_self, show rest.length - c1 = 0 by omega] at hdr
            have HD := Lib.hid hdr
            clear hdr
            go_wp2
            go_quiet (fail)
            go_wp2
            go_ret3
            rw [HS.out]
            exact ⟨_, rfl, HD.out, HB1.out.trans (below_drewN _ _ _)⟩
          · rw [if_neg hcn] at hdr
            have HD := Lib.hid hdr
            clear hdr
            go_wp2
            go_quiet (fail)
            go_wp2
            go_ret3
            rw [HS.out]
            exact ⟨_, rfl, HD.out, HB1.out.trans (below_drewN _ _ _)⟩
  · have he1 : ((er : Int) != 0) = true := by simp; omega
    have HS := Lib.hid (takeS_err m HT.out he)
    go_wp2
    go_ret3
    rw [HS.out]
    exact ⟨_, rfl, Rd.nil _ _, HB1.out⟩


theorem takeN_err (l : List UInt8) (n : Nat) (rest : List UInt8) (er : Nat) (h : takeN l = (n, rest, er)) (he : er ≠ 0) : n = 0 ∧ rest = [] := by
  cases l with
  | nil =>
    rw [takeN] at h
    injection h with h1 h2
    injection h2 with h2 _
    exact ⟨h1.symm, h2.symm⟩
  | cons k t =>
    rw [takeN] at h
    split at h
    · injection h with h1 h2
      injection h2 with h2 _
      exact ⟨h1.symm, h2.symm⟩
    · split at h
      · injection h with h1 h2
        injection h2 with h2 _
        exact ⟨h1.symm, h2.symm⟩
      · injection h with h1 h2
        injection h2 with h2 h3
        exact absurd h3.symm he

/-- The call answers a number with a sign, a slice that reads as what is left, and an error. -/
def CutI (B : Nat) (r : Nat × List UInt8 × Nat) (w : World) (e : Ending) (w' : World) : Prop :=
  ∃ vr, e = .returned (.tuple #[.int .i64 (zag r.1), vr, .int .i64 (r.2.2 : Int)]) ∧ Rd B w' vr r.2.1 ∧ Below w.heap.size w w'

set_option maxHeartbeats 400000 in
theorem refInt_any (v : Value) (l : List UInt8) (B : Nat) (w : World) (hr : Rd B w v l) (hB : B ≤ w.heap.size) : Calls Try.prog 52 #[v] w (CutI B (takeN l) w) := by
  have hn := takeN_lt l
  have HR := Lib.hid hr
  clear hr
  go_enter Try.func52, Try.ntmps52
  go_wp2_with fail
  refine (refTake_any v l B w HR.out hB).mono ?_
  rintro e w1 ⟨v1, rfl, hr1, hb1⟩
  generalize hT : takeN l = r at *
  obtain ⟨n, rest, er⟩ := r
  have hn2 : (n : Int) ≤ 18446744073709551615 := by have h : n < 18446744073709551616 := hn; omega
  have hr1' : Rd B w1 v1 rest := hr1
  have HR1 := Lib.hid hr1'
  have HB1 := Lib.hid hb1
  have HT := Lib.hid hT
  clear hr1 hr1' hb1 hn hT
  by_cases he : er = 0
  · subst he
    by_cases hodd : n % 2 = 1
    · have ho : (((n : Int) % 2) == 1) = true := by simp; omega
      have hz : zag n = -((n : Int) / 2) - 1 := by unfold zag; rw [if_pos hodd]; omega
      have HZ := Lib.hid hz
      clear hz
      go_wp2
      go_ret3
      exact ⟨v1, ret3_int HZ.out.symm, HR1.out, HB1.out⟩
    · have ho : (((n : Int) % 2) == 1) = false := by simp; omega
      have hz : zag n = (n : Int) / 2 := by unfold zag; rw [if_neg hodd]; omega
      have HZ := Lib.hid hz
      clear hz
      go_wp2
      go_ret3
      exact ⟨v1, ret3_int HZ.out.symm, HR1.out, HB1.out⟩
  · have he1 : ((er : Int) != 0) = true := by simp; omega
    obtain ⟨h1, h2⟩ := takeN_err _ _ _ _ HT.out he
    subst h1 h2
    go_wp2
    go_ret3
    exact ⟨_, ret3_int (show (0 : Int) = zag 0 from rfl), Rd.nil _ _, HB1.out⟩

/-- The call answers strings, a slice that reads as what is left, and an error. -/
def CutL (B : Nat) (r : List ByteArray × List UInt8 × Nat) (w : World) (e : Ending) (w' : World) : Prop :=
  ∃ vl vr, e = .returned (.tuple #[vl, vr, .int .i64 (r.2.2 : Int)]) ∧ OwnS 9 w' w.heap.size vl r.1 ∧ Rd B w' vr r.2.1 ∧ Below w.heap.size w w'

set_option maxHeartbeats 1000000 in
theorem refList_any (v : Value) (l : List UInt8) (many m : Int) (w : World) (hr : Rd w.heap.size w v l) (y0 : -9223372036854775808 ≤ many) (y1 : many ≤ 9223372036854775807) (m0 : -9223372036854775808 ≤ m) (m1 : m ≤ 9223372036854775807) (hl : l.length ≤ 1099511627776) :
    Calls Try.prog 41 #[v, .int .i64 many, .int .i64 m] w (CutL w.heap.size (takeL l many m) w) := by
  obtain ⟨i0, hi, hz0, hz1, hz2⟩ := info_parts info9
  have hn := takeN_lt l
  have hrest := takeN_rest l
  have HR := Lib.hid hr
  clear hr
  go_enter Try.func41, Try.ntmps41
  go_wp2_with fail
  refine (refTake_any v l w.heap.size w HR.out (Nat.le_refl _)).mono ?_
  rintro e w1 ⟨v1, rfl, hr1, hb1⟩
  generalize hT : takeN l = r at *
  obtain ⟨n, rest, er⟩ := r
  have hn2 : (n : Int) ≤ 18446744073709551615 := by have h : n < 18446744073709551616 := hn; omega
  have hrest2 : rest.length ≤ l.length := hrest
  have hr1' : Rd w.heap.size w1 v1 rest := hr1
  have HR1 := Lib.hid hr1'
  have HB1 := Lib.hid hb1
  have HT := Lib.hid hT
  have hs1 := hb1.size
  clear hr1 hr1' hb1 hn hT hrest
  by_cases he : er = 0
  · subst he
    by_cases hab : max many 0 < (n : Int)
    · have HS := Lib.hid (takeL_large m HT.out hab)
      have hab3 : decide (max many 0 < (n : Int)) = true := by simpa using hab
      go_wp2
      go_ret3
      rw [HS.out]
      exact ⟨_, _, rfl, OwnS.nil _ _ _, Rd.nil _ _, HB1.out⟩
    · have hab2 : (n : Int) ≤ max many 0 := by omega
      have HAB := Lib.hid hab2
      clear hab hab2
      have HS := Lib.hid (takeL_ok m HT.out HAB.out)
      have hab3 : decide (max many 0 < (n : Int)) = false := by simpa using HAB.out
      go_wp2
      go_loopw [10, 12, 13, 14, 15, 16] (fun vr vl i _ _ _ wr => ∃ k : Nat, k ≤ n ∧ i = .int .u64 k ∧ ∃ (acc : List ByteArray) (r : List UInt8), acc.length + r.length ≤ rest.length ∧ Hid (takeK n rest m = pre acc (takeK (n - k) r m)) ∧
          Hid (Rd w.heap.size wr vr r) ∧ Hid (OwnS 9 wr w.heap.size vl acc) ∧ Hid (Below w.heap.size w wr)) (fun _ _ i _ _ _ _ => n - (intOf i).toNat)
      case atStart => exact ⟨0, Nat.zero_le _, rfl, [], rest, by simp, (pre_nil _ _ _).symm, HR1.out.below ((Below.refl _ _).alloc (by omega) _), (OwnS.made 9 w1).base hs1, HB1.out.alloc hs1 _⟩
      case round =>
        obtain ⟨k, hk, rfl, acc, r, hlen, HK, HRr, HO, HB⟩ := hrel
        have hsz := HB.out.size
        by_cases hlt : k < n
        · have hlt2 : decide ((k : Int) < (n : Int)) = true := by simp; omega
          go_wp2_with fail
          refine (refText_any u10 r m w.heap.size wr HRr.out hsz m0 m1).mono ?_
          rintro e w3 ⟨v3, rfl, hr3, hb3⟩
          generalize hq : takeS r m = q at *
          obtain ⟨s, r', er'⟩ := q
          have hr3' : Rd w.heap.size w3 v3 r' := hr3
          have HR3 := Lib.hid hr3'
          have HB3 := Lib.hid hb3
          have HQ := Lib.hid hq
          have hs3 := hb3.size
          clear hr3 hr3' hb3 hq
          have ek : n - k = (n - (k + 1)) + 1 := by omega
          have HE := Lib.hid ek
          clear ek
          by_cases he3 : er' = 0
          · subst he3
            have hu := takeS_used _ _ _ _ HQ.out
            have hK2 : takeK n rest m = pre (acc ++ [⟨s.toArray⟩]) (takeK (n - (k + 1)) r' m) := by rw [HK.out, HE.out, pre_step _ _ _ _ _ _ HQ.out]
            have HK2 := Lib.hid hK2
            clear hK2
            go_wp2_with (at_builtin; refine wpList_app1S rfl _ _ 26 rfl 9 i0 Try.underlying26 hi hz0 hz1 hz2 w.heap.size u12 acc ⟨s.toArray⟩ ⟨w3.heap.size, 0, none⟩ rfl ((HO.out.below HB3.out (Nat.le_refl _)).alloc _) rfl ?d1 ?d2 ?d3 ?_)
            case d1 => simp
            case d2 => omega
            case d3 => simp; omega
            intro v4 w4 hown4 hb4
            have HO4 := Lib.hid hown4
            have hb4' : Below w.heap.size w3 w4 := ((Below.refl _ _).alloc (by omega) _).trans hb4
            have HR4 := Lib.hid (HR3.out.below hb4')
            have HB4 : Hid (Below w.heap.size w w4) := (HB.out.trans (HB3.out.mono hsz)).trans hb4'
            clear hown4 hb4 hb4'
            go_wp2
            go_roundw
            case rel => exact ⟨k + 1, by omega, by go_num, acc ++ [⟨s.toArray⟩], r', by simp only [List.length_append, List.length_cons, List.length_nil]; omega, HK2, HR4, HO4, HB4⟩
            case measure => simp [intOf]; omega
          · have he4 : ((er' : Int) != 0) = true := by simp; omega
            have hK2 : takeK n rest m = ([], [], er') := by
              have h : (takeS r m).2.2 ≠ 0 := by rw [HQ.out]; exact he3
              rw [HK.out, HE.out, pre_stop _ _ _ _ h, HQ.out]
            have HK2 := Lib.hid hK2
            clear hK2
            go_wp2
            go_ret3
            rw [HS.out, HK2.out]
            exact ⟨_, _, rfl, OwnS.nil _ _ _, Rd.nil _ _, HB.out.trans (HB3.out.mono hsz)⟩
        · obtain rfl : k = n := by omega
          have hK2 : takeK k rest m = (acc, r, 0) := by
            rw [HK.out, Nat.sub_self]
            simp [pre, takeK]
          have HK2 := Lib.hid hK2
          clear hK2
          go_wp2
          go_ret3
          rw [HS.out, HK2.out]
          exact ⟨_, _, rfl, HO.out, HRr.out, HB.out⟩
  · have he1 : ((er : Int) != 0) = true := by simp; omega
    have HS := Lib.hid (takeL_err many m HT.out he)
    go_wp2
    go_ret3
    rw [HS.out]
    exact ⟨_, _, rfl, OwnS.nil _ _ _, Rd.nil _ _, HB1.out⟩
end Go.Proofs.Ytmlpiembglmggaa

namespace Go.Proofs.Ytmlpiembglmggaa
open Go.RowKit
set_option linter.unusedVariables false

theorem wid_div (m : Nat) (h0 : 0 < m) (h1 : m < 18446744073709551616) : wid m = wid (m / 256) + 1 := by
  rcases (show m < 256 ∨ (256 ≤ m ∧ m < 65536) ∨ (65536 ≤ m ∧ m < 16777216) ∨ (16777216 ≤ m ∧ m < 4294967296) ∨ (4294967296 ≤ m ∧ m < 1099511627776) ∨ (1099511627776 ≤ m ∧ m < 281474976710656) ∨ (281474976710656 ≤ m ∧ m < 72057594037927936) ∨ 72057594037927936 ≤ m from by omega) with h | h | h | h | h | h | h | h
  · rw [wid_case m 1 (by omega), wid_case (m / 256) 0 (by omega)]
  · rw [wid_case m 2 (by omega), wid_case (m / 256) 1 (by omega)]
  · rw [wid_case m 3 (by omega), wid_case (m / 256) 2 (by omega)]
  · rw [wid_case m 4 (by omega), wid_case (m / 256) 3 (by omega)]
  · rw [wid_case m 5 (by omega), wid_case (m / 256) 4 (by omega)]
  · rw [wid_case m 6 (by omega), wid_case (m / 256) 5 (by omega)]
  · rw [wid_case m 7 (by omega), wid_case (m / 256) 6 (by omega)]
  · rw [wid_case m 8 (by omega), wid_case (m / 256) 7 (by omega)]

theorem byte_mod (m : Nat) : ((UInt8.ofNat m).toNat : Int) = (m : Int) % 256 := by simp

set_option maxHeartbeats 400000 in
theorem refSize_any (x : Int) (w : World) (h0 : 0 ≤ x) (h1 : x ≤ 18446744073709551615) : Calls Try.prog 57 #[.int .u64 x] w fun e w' => e = .returned (.int .i64 (1 + (wid x.toNat : Int))) ∧ w = w' := by
  have hwx := wid_le x.toNat
  go_enter Try.func57, Try.ntmps57
  go_wp2
  go_loop [0, 3] (fun n k => ∃ m j : Nat, (m : Int) ≤ 18446744073709551615 ∧ j ≤ 8 ∧ n = .int .u64 (m : Int) ∧ k = .int .i64 (1 + (j : Int)) ∧ Hid (wid x.toNat = wid m + j)) (fun n _ => (intOf n).toNat)
  case atStart => exact ⟨x.toNat, 0, by omega, by omega, by go_num, rfl, rfl⟩
  case round =>
    obtain ⟨m, j, hm, hj, rfl, rfl, HW⟩ := hrel
    by_cases hp : 0 < m
    · have HD := Lib.hid (wid_div m hp (by omega))
      have hj7 : j ≤ 7 := by have := HD.out; have := HW.out; omega
      go_wp2
      go_round
      case rel => exact ⟨m / 256, j + 1, by omega, by omega, by go_num, by go_num, by unfold Hid; have := HD.out; have := HW.out; omega⟩
      case measure => simp [intOf]; omega
    · obtain rfl : m = 0 := by omega
      go_wp2
      go_ret
      exact ⟨ret_int (by have h := HW.out; rw [show wid 0 = 0 from rfl] at h; omega), rfl⟩

set_option maxHeartbeats 1000000 in
theorem refPut_any (v : Value) (l : List UInt8) (x : Int) (w : World) (hr : Rd w.heap.size w v l) (h0 : 0 ≤ x) (h1 : x ≤ 18446744073709551615) (hl : l.length ≤ 140737488350000) :
    Calls Try.prog 47 #[v, .int .u64 x] w (Gives w.heap.size (l ++ enc x.toNat) w) := by
  obtain ⟨i0, hi, hz0, hz1, hz2⟩ := info_parts info5
  have hwid := wid_le x.toNat
  have HR := Lib.hid hr
  clear hr
  go_enter Try.func47, Try.ntmps47
  go_wp2_with (at_builtin; refine wpList_app rfl _ _ 22 rfl 5 i0 Try.underlying22 hi hz0 hz1 hz2 w.heap.size w.heap.size _ _ [] l rfl (Own.made 5 w) rfl (HR.out.below ((Below.refl _ _).alloc (Nat.le_refl _) _)) ?c1 ?c2 ?_)
  case c1 => simp; omega
  case c2 => simp
  intro v1 w1 hown1 hb1
  have HO1 : Hid (Own 5 w1 w.heap.size v1 l) := hown1
  have HB1 : Hid (Below w.heap.size w w1) := ((Below.refl _ _).alloc (Nat.le_refl _) _).trans hb1
  have hs1 := HB1.out.size
  clear hown1 hb1 HR
  go_wp2_with fail
  refine (refSize_any x w1 h0 h1).mono ?_
  rintro e w' ⟨rfl, rfl⟩
  go_wp2_with (at_builtin; refine wpList_app1 rfl _ _ 22 rfl 5 i0 Try.underlying22 hi hz0 hz1 hz2 w.heap.size v1 l (UInt8.ofNat (wid x.toNat)) ⟨w1.heap.size, 0, none⟩ rfl (HO1.out.alloc _) rfl ?d1 ?d2 ?d3 ?_)
  case d1 => simp; omega
  case d2 => omega
  case d3 => simp; omega
  intro v2 w2 hown2 hb2
  have HO2 := Lib.hid hown2
  have HB2 : Hid (Below w.heap.size w w2) := (HB1.out.alloc hs1 _).trans hb2
  clear hown2 hb2 HO1
  go_wp2
  go_loopw [5, 7, 8, 9] (fun v i _ _ wr => ∃ k : Nat, k ≤ wid x.toNat ∧ i = .int .i64 ((k : Int) - 1) ∧ Hid (Own 5 wr w.heap.size v (l ++ [UInt8.ofNat (wid x.toNat)] ++ (be (wid x.toNat) x.toNat).take (wid x.toNat - k))) ∧ Hid (Below w.heap.size w wr))
    (fun _ i _ _ _ => (intOf i + 1).toNat)
  case atStart => exact ⟨wid x.toNat, Nat.le_refl _, by go_num, by have h := HO2.out; simpa [Hid] using h, HB2⟩
  case round =>
    obtain ⟨k, hk, rfl, HO, HB⟩ := hrel
    have hsz := HB.out.size
    by_cases hk0 : 0 < k
    · obtain ⟨j, rfl⟩ : ∃ j, k = j + 1 := ⟨k - 1, by omega⟩
      rw [show ((j + 1 : Nat) : Int) - 1 = (j : Int) from by omega]
      have hlen : (List.take (wid x.toNat - (j + 1)) (be (wid x.toNat) x.toNat)).length ≤ 8 := by rw [List.length_take]; omega
      go_wp2
      go_loop [8, 9] (fun y q => ∃ p m : Nat, p ≤ j ∧ q = .int .i64 (p : Int) ∧ y = .int .u64 (m : Int) ∧ (m : Int) ≤ 18446744073709551615 ∧ Hid (m = x.toNat / 256 ^ p)) (fun _ q => j - (intOf q).toNat)
      case atStart => exact ⟨0, x.toNat, Nat.zero_le _, rfl, by go_num, by omega, by simp [Hid]⟩
      case round =>
        obtain ⟨p, m, hp, rfl, rfl, hm, HM⟩ := hrel
        by_cases hpj : p < j
        · go_wp2
          go_round
          case rel => exact ⟨p + 1, m / 256, by omega, by go_num, by go_num, by omega, by unfold Hid; rw [HM.out, Nat.div_div_eq_div_mul, Nat.pow_succ]⟩
          case measure => simp [intOf]; omega
        · obtain rfl : p = j := by omega
          have HBT := Lib.hid (be_take _ _ x.toNat hk)
          have hb8 : ((UInt8.ofNat (x.toNat / 256 ^ p)).toNat : Int) = (m : Int) % 256 := by rw [← HM.out]; exact byte_mod m
          have HB8 := Lib.hid hb8
          clear hb8
          generalize UInt8.ofNat (x.toNat / 256 ^ p) = b at *
          go_wp2_with (at_builtin; refine wpList_app1 rfl _ _ 22 rfl 5 i0 Try.underlying22 hi hz0 hz1 hz2 w.heap.size _ _ b ⟨wr.heap.size, 0, none⟩ rfl (HO.out.alloc _) rfl ?e1 ?e2 ?e3 ?_)
          case e1 => rw [HB8.out]
          case e2 => first | omega | (simp only [List.length_append, List.length_cons, List.length_nil]; omega)
          case e3 => first | omega | (simp; omega)
          intro v3 w3 hown3 hb3
          have HO3 : Hid (Own 5 w3 w.heap.size v3 (l ++ [UInt8.ofNat (wid x.toNat)] ++ (be (wid x.toNat) x.toNat).take (wid x.toNat - p))) := by
            rw [HBT.out]
            simpa [Hid] using hown3
          have HB3 : Hid (Below w.heap.size w w3) := (HB.out.alloc (by omega) _).trans hb3
          clear hown3 hb3 HO HB
          go_wp2
          go_roundw
          case rel => exact ⟨p, by omega, by go_num, HO3, HB3⟩
          case measure => simp [intOf]
    · obtain rfl : k = 0 := by omega
      go_wp2
      go_ret
      refine ⟨_, rfl, ?_, HB.out⟩
      have h := HO.out
      rw [List.take_of_length_le (by rw [be_length]; omega), List.append_assoc] at h
      exact h

set_option maxHeartbeats 400000 in
theorem refInt2_any (v : Value) (l : List UInt8) (n : Int) (w : World) (hr : Rd w.heap.size w v l) (h0 : -9223372036854775808 ≤ n) (h1 : n ≤ 9223372036854775807) (hl : l.length ≤ 140737488350000) :
    Calls Try.prog 27 #[v, .int .i64 n] w (Gives w.heap.size (l ++ enc (zig n).toNat) w) := by
  have HR := Lib.hid hr
  clear hr
  by_cases hn : n < 0
  · have hz : (2 * -(n + 1) + 1).toNat = (zig n).toNat := by unfold zig; rw [if_pos hn]; omega
    have HZ := Lib.hid hz
    clear hz
    go_enter Try.func27, Try.ntmps27
    go_wp2_with fail
    refine (refPut_any v l (2 * -(n + 1) + 1) w HR.out (by omega) (by omega) hl).mono ?_
    rintro e w1 ⟨v1, rfl, hown1, hb1⟩
    rw [HZ.out] at hown1
    have HO := Lib.hid hown1
    have HB := Lib.hid hb1
    clear hown1 hb1
    go_wp2
    go_ret
    exact ⟨v1, rfl, HO.out, HB.out⟩
  · have hz : (2 * n).toNat = (zig n).toNat := by unfold zig; rw [if_neg hn]
    have HZ := Lib.hid hz
    clear hz
    go_enter Try.func27, Try.ntmps27
    go_wp2_with fail
    refine (refPut_any v l (2 * n) w HR.out (by omega) (by omega) hl).mono ?_
    rintro e w1 ⟨v1, rfl, hown1, hb1⟩
    rw [HZ.out] at hown1
    have HO := Lib.hid hown1
    have HB := Lib.hid hb1
    clear hown1 hb1
    go_wp2
    go_ret
    exact ⟨v1, rfl, HO.out, HB.out⟩

set_option maxHeartbeats 400000 in
theorem refText2_any (v : Value) (l : List UInt8) (s : ByteArray) (w : World) (hr : Rd w.heap.size w v l) (hl : (l.length : Int) + s.size ≤ 140737488340000) :
    Calls Try.prog 28 #[v, .string s] w (Gives w.heap.size (l ++ encS s) w) := by
  obtain ⟨i0, hi, hz0, hz1, hz2⟩ := info_parts info5
  have hwid := wid_le s.size
  have HR := Lib.hid hr
  clear hr
  go_enter Try.func28, Try.ntmps28
  go_wp2_with fail
  refine (refPut_any v l (s.size : Int) w HR.out (by omega) (by omega) (by omega)).mono ?_
  rintro e w1 ⟨v1, rfl, hown1, hb1⟩
  rw [Int.toNat_natCast] at hown1
  have HO1 := Lib.hid hown1
  have HB := Lib.hid hb1
  have hsz := hb1.size
  clear hown1 hb1
  go_wp2_with (at_builtin; refine wpList_apps rfl _ _ 22 9 rfl 5 i0 Try.underlying22 Try.underlying9 hi hz0 hz1 hz2 w.heap.size v1 _ s rfl HO1.out rfl ?c1 ?c2 ?_)
  case c1 => rw [List.length_append, enc_length]; omega
  case c2 => omega
  intro v2 w2 hown2 hb2
  have HO2 := Lib.hid hown2
  have HB2 := Lib.hid hb2
  clear hown2 hb2
  go_wp2
  go_ret
  exact ⟨v2, rfl, HO2.out, HB.out.trans HB2.out⟩

set_option maxHeartbeats 1000000 in
theorem refList2_any (v vl : Value) (l : List UInt8) (ss : List ByteArray) (w : World) (hr : Rd w.heap.size w v l) (hrs : RdS w.heap.size w vl ss) (hl : l.length + (encs ss).length ≤ 140737488330000) (hn : ss.length ≤ 140737488330000) :
    Calls Try.prog 30 #[v, vl] w (Gives w.heap.size (l ++ encL ss) w) := by
  have hwid := wid_le ss.length
  obtain ⟨A, c, hv, _, _⟩ := hrs.shape
  rw [hv] at hrs ⊢
  have HR := Lib.hid hr
  have HRS := Lib.hid hrs
  clear hr hrs hv
  generalize hL : (encs ss).length = L at *
  have HL := Lib.hid hL
  clear hL
  go_enter Try.func30, Try.ntmps30
  go_wp2_with fail
  refine (refPut_any v l (ss.length : Int) w HR.out (by omega) (by omega) (by omega)).mono ?_
  rintro e w2 ⟨v2, rfl, hown2, hb2⟩
  rw [Int.toNat_natCast] at hown2
  have HO2 := Lib.hid hown2
  have HB2 := Lib.hid hb2
  clear hown2 hb2
  go_wp2
  go_loopw [5, 6] (fun o i wr => ∃ k : Nat, k ≤ ss.length ∧ i = .int .i64 k ∧ Hid (Own 5 wr w.heap.size o (l ++ enc ss.length ++ encs (ss.take k))) ∧ Hid (Below w.heap.size w wr)) (fun _ i _ => ss.length - (intOf i).toNat)
  case atStart => exact ⟨0, Nat.zero_le _, rfl, by have h := HO2.out; simpa [Hid, encs] using h, HB2⟩
  case round =>
    obtain ⟨k, hk, rfl, HO, HB⟩ := hrel
    have hsz := HB.out.size
    by_cases hlt : k < ss.length
    · obtain ⟨a, rfl, hcell⟩ := (HRS.out.below HB.out).at_ k hlt
      have hs1 : (encs (ss.take (k + 1))).length = (encs (ss.take k)).length + (wid ss[k].size + 1 + ss[k].size) := by rw [encs_take ss k hlt, List.length_append, encS_length]
      have hs2 := encs_take_le ss (k + 1)
      rw [HL.out] at hs2
      have hs3 : (encs (ss.take k)).length + (wid ss[k].size + 1 + ss[k].size) ≤ L := by omega
      have hel := enc_length ss.length
      have HE := Lib.hid (encs_take ss k hlt)
      have HEL := Lib.hid hel
      clear hs1 hs2 hel
      generalize hs : ss[k] = s at *
      go_wp2_with fail
      refine (refText2_any _ (l ++ enc ss.length ++ encs (ss.take k)) s wr HO.out.rd (by rw [List.length_append, List.length_append, HEL.out]; omega)).mono ?_
      rintro e w3 ⟨v3, rfl, hown3, hb3⟩
      rw [List.append_assoc (l ++ enc ss.length), ← HE.out] at hown3
      have HO3 := Lib.hid (hown3.base hsz)
      have HB3 : Hid (Below w.heap.size w w3) := HB.out.trans (hb3.mono hsz)
      clear hown3 hb3
      go_wp2
      go_roundw
      case rel => exact ⟨k + 1, by omega, by go_num, HO3, HB3⟩
      case measure => simp [intOf]; omega
    · obtain rfl : k = ss.length := by omega
      go_wp2
      go_ret
      refine ⟨_, rfl, ?_, HB.out⟩
      have h := HO.out
      rw [List.take_length, List.append_assoc] at h
      exact h
end Go.Proofs.Ytmlpiembglmggaa
