/-
  Texts EA EB EC ED.
-/
import Derived.Test.YtgfobinklijkpaaGreatDoorX01
import Derived.WalkKit
import Derived.WalkLawsBesides
import Derived.Outline
import Derived.Lib.Hide
import Derived.BigQuiet
import Derived.LoopN
import Derived.Deep.QuietTactic
import Derived.Laws.BitsAllLaws
import Derived.Test.YtgfobinklijkpaaGreatDoorX02
import Derived.Test.YtgfobinklijkpaaGreatDoorX03
import Derived.Test.YtgfobinklijkpaaGreatDoorX04
import Derived.Test.YtgfobinklijkpaaGreatDoorX05
namespace Go.Proofs.YtgfobinklijkpaaGreatDoor
set_option maxRecDepth 100000
set_option maxHeartbeats 16000000
open Go.RowKit
theorem width_any (x : Int) (w : World) (h0 : 0 ≤ x) (h1 : x ≤ 18446744073709551615) : Calls Tryz.prog 108 #[.int .u64 x] w fun e w' => e = .returned (.int .i64 (wid x.toNat)) ∧ w = w' := by
 go_enter Tryz.func108, Tryz.ntmps108
 go_wp2_with fail
 refine (len64_any x w h0 h1).mono ?_
 rintro e w' ⟨L, l0, l1, l2, rfl, rfl⟩
 have H := lhd l2
 clear l2 h1
 go_wp2
 go_ret
 exact ⟨ret_int H.out, rfl⟩
theorem size_any (x : Int) (w : World) (h0 : 0 ≤ x) (h1 : x ≤ 18446744073709551615) : Calls Tryz.prog 64 #[.int .u64 x] w fun e w' => e = .returned (.int .i64 (1 + (wid x.toNat : Int))) ∧ w = w' := by
 have hw := wid_le x.toNat
 go_enter Tryz.func64, Tryz.ntmps64
 go_wp2_with fail
 refine (width_any x w h0 h1).mono ?_
 rintro e w' ⟨rfl, rfl⟩
 clear h1
 go_wp2
 go_ret
 exact ⟨rfl, rfl⟩
theorem withRoom_any (v : Value) (l : List UInt8) (m : Int) (w : World) (hr : Rd w.heap.size w v l) (h0 : 0 ≤ m) (hm : (l.length : Int) + m ≤ 140737488355328) :
 Calls Tryz.prog 63 #[v, .int .i64 m] w (Gives w.heap.size l w) := by
 obtain ⟨i0, hi, hz0, hz1, hz2⟩ := info_parts info5
 have hr0 := hr
 obtain ⟨A, c, rfl, hc, hcm, hn, hcell⟩ := hr
 have HR := lhd hr0
 clear hr0 hcell hn
 unfold maxLen at hcm
 go_enter Tryz.func63, Tryz.ntmps63
 go_wp2_with (at_make; refine wpList_make_own _ rfl _ _ 92 rfl w.heap.size 5 i0 (.int .u8 0) 1 Tryz.underlying92 hi hz0 hz1 _ _ _ (l.length + m.toNat) rfl rfl (by omega) ?b1 ?b2 ?b3 ?_)
 case b1 => rw [hz2]; omega
 case b2 => unfold maxLen; omega
 case b3 => exact Nat.le_refl _
 intro w1 hown1 hgrow1
 have hb1 : Below w.heap.size w w1 := (Below.refl _ _).grown hgrow1 (Nat.le_refl _) (fun k hk => by cases hk)
 have hsz := hb1.size
 have HO : Hid (Own 5 w1 w.heap.size (.slice (some ⟨w.heap.size, 0, none⟩) 0 (l.length + m.toNat)) []) := hown1
 clear hown1 hgrow1
 go_wp2_with (at_builtin; refine wpList_app rfl _ _ 92 rfl 5 i0 Tryz.underlying92 hi hz0 hz1 hz2 w.heap.size w.heap.size _ _ [] l rfl HO.out rfl (HR.out.below hb1) ?c1 hsz ?_)
 case c1 => simp; omega
 intro v' w2 hown2 hb2
 have HO2 := lhd hown2
 clear hown2
 go_wp2
 go_ret
 exact ⟨v', rfl, HO2.out, hb1.trans hb2⟩
theorem appendNumber_any (v : Value) (l : List UInt8) (x : Int) (base : Nat) (w : World) (hown : Own 5 w base v l) (hbase : base ≤ w.heap.size) (h0 : 0 ≤ x) (h1 : x ≤ 18446744073709551615) (hl : l.length ≤ 140737488355000) :
 Calls Tryz.prog 62 #[v, .int .u64 x] w (Gives base (l ++ enc x.toNat) w) := by
 obtain ⟨i0, hi, hz0, hz1, hz2⟩ := info_parts info5
 have hwid := wid_le x.toNat
 have HO := lhd hown
 clear hown
 go_enter Tryz.func62, Tryz.ntmps62
 go_wp2_with fail
 refine (width_any x w h0 h1).mono ?_
 rintro e w' ⟨rfl, rfl⟩
 go_wp2_with (at_builtin; refine wpList_app1 rfl _ _ 92 rfl 5 i0 Tryz.underlying92 hi hz0 hz1 hz2 base v l (UInt8.ofNat (wid x.toNat)) ⟨w.heap.size, 0, none⟩ rfl (HO.out.alloc _) rfl ?c1 ?c2 ?c3 ?_)
 case c1 => simp; omega
 case c2 => omega
 case c3 => simp; omega
 intro v1 w1 hown1 hb1
 have HO1 := lhd hown1
 have HB1 : Hid (Below base w w1) := (((Below.refl base w).alloc hbase _).trans hb1)
 clear hown1 hb1 HO
 go_wp2
 go_loopw [0, 6] (fun v i wr => ∃ k : Nat, k ≤ wid x.toNat ∧ i = .int .i64 ((k : Int) - 1) ∧ Hid (Own 5 wr base v (l ++ [UInt8.ofNat (wid x.toNat)] ++ (be (wid x.toNat) x.toNat).take (wid x.toNat - k))) ∧ Hid (Below base w wr))
  (fun _ i _ => (intOf i + 1).toNat)
 case atStart => exact ⟨wid x.toNat, Nat.le_refl _, rfl, by have h := HO1.out; simpa [Hid] using h, HB1⟩
 case round =>
  obtain ⟨k, hk, rfl, HO, HB⟩ := hrel
  have hsz := HB.out.size
  by_cases hk0 : 0 < k
  ·obtain ⟨j, rfl⟩ : ∃ j, k = j + 1 := ⟨k - 1, by omega⟩
   rw [show ((j + 1 : Nat) : Int) - 1 = (j : Int) from by omega]
   have hlen : (List.take (wid x.toNat - (j + 1)) (be (wid x.toNat) x.toNat)).length ≤ 8 := by rw [List.length_take]; omega
   go_wp2_with (at_builtin; refine wpList_app1 rfl _ _ 92 rfl 5 i0 Tryz.underlying92 hi hz0 hz1 hz2 base _ _ (UInt8.ofNat (x.toNat / 256 ^ j)) ⟨wr.heap.size, 0, none⟩ rfl (HO.out.alloc _) rfl ?d1 ?d2 ?d3 ?_)
   case d1 =>
    rw [byte_shift x j h0]
    simp
   case d2 => simp only [List.length_append, List.length_cons, List.length_nil]; omega
   case d3 => simp; omega
   intro v2 w2 hown2 hb2
   have HO2 : Hid (Own 5 w2 base v2 (l ++ [UInt8.ofNat (wid x.toNat)] ++ (be (wid x.toNat) x.toNat).take (wid x.toNat - j))) := by
    rw [be_take _ _ _ hk]
    simpa [Hid] using hown2
   have HB2 : Hid (Below base w w2) := (HB.out.alloc (by omega) _).trans hb2
   clear hown2 hb2 HO HB
   go_wp2
   go_roundw
   case rel => exact ⟨j, by omega, rfl, HO2, HB2⟩
   case measure => simp [intOf]
  ·obtain rfl : k = 0 := by omega
   go_wp2
   go_ret
   refine ⟨_, rfl, ?_, HB.out⟩
   have h := HO.out
   rw [List.take_of_length_le (by rw [be_length]; omega), List.append_assoc] at h
   exact h
theorem put_any (v : Value) (l : List UInt8) (x : Int) (w : World) (hr : Rd w.heap.size w v l) (h0 : 0 ≤ x) (h1 : x ≤ 18446744073709551615) (hl : l.length ≤ 140737488350000) :
 Calls Tryz.prog 31 #[v, .int .u64 x] w (Gives w.heap.size (l ++ enc x.toNat) w) := by
 have hwid := wid_le x.toNat
 have HR := lhd hr
 clear hr
 go_enter Tryz.func31, Tryz.ntmps31
 go_wp2_with fail
 refine (size_any x w h0 h1).mono ?_
 rintro e w' ⟨rfl, rfl⟩
 go_wp2_with fail
 refine (withRoom_any v l (1 + (wid x.toNat : Int)) w HR.out (by omega) (by omega)).mono ?_
 rintro e w1 ⟨v1, rfl, hown1, hb1⟩
 have HO := lhd hown1
 have HB := lhd hb1
 have hsz := hb1.size
 clear hown1 hb1
 go_wp2_with fail
 refine (appendNumber_any v1 l x w.heap.size w1 HO.out hsz h0 h1 (by omega)).mono ?_
 rintro e w2 ⟨v2, rfl, hown2, hb2⟩
 have HO2 := lhd hown2
 have HB2 := lhd hb2
 clear hown2 hb2 HO
 go_wp2
 go_ret
 exact ⟨v2, rfl, HO2.out, HB.out.trans HB2.out⟩
def zig (n : Int) : Int := if n < 0 then -2 * n - 1 else 2 * n
theorem int_any (v : Value) (l : List UInt8) (n : Int) (w : World) (hr : Rd w.heap.size w v l) (h0 : -9223372036854775808 ≤ n) (h1 : n ≤ 9223372036854775807) (hl : l.length ≤ 140737488350000) :
 Calls Tryz.prog 110 #[v, .int .i64 n] w (Gives w.heap.size (l ++ enc (zig n).toNat) w) := by
 have HR := lhd hr
 clear hr
 by_cases hn : n < 0
 ·have hz : (-(n + 1) * 2 + 1).toNat = (zig n).toNat := by unfold zig; rw [if_pos hn]; omega
  have HZ := lhd hz
  clear hz
  go_enter Tryz.func110, Tryz.ntmps110
  go_wp2_with fail
  refine (put_any v l (-(n + 1) * 2 + 1) w HR.out (by omega) (by omega) hl).mono ?_
  rintro e w1 ⟨v1, rfl, hown1, hb1⟩
  rw [HZ.out] at hown1
  have HO := lhd hown1
  have HB := lhd hb1
  clear hown1 hb1
  go_wp2
  go_ret
  exact ⟨v1, rfl, HO.out, HB.out⟩
 ·have hz : (n * 2).toNat = (zig n).toNat := by unfold zig; rw [if_neg hn]; omega
  have HZ := lhd hz
  clear hz
  go_enter Tryz.func110, Tryz.ntmps110
  go_wp2_with fail
  refine (put_any v l (n * 2) w HR.out (by omega) (by omega) hl).mono ?_
  rintro e w1 ⟨v1, rfl, hown1, hb1⟩
  rw [HZ.out] at hown1
  have HO := lhd hown1
  have HB := lhd hb1
  clear hown1 hb1
  go_wp2
  go_ret
  exact ⟨v1, rfl, HO.out, HB.out⟩
theorem textSize_any (s : ByteArray) (w : World) (hs : (s.size : Int) ≤ 140737488355328) :
 Calls Tryz.prog 112 #[.string s] w fun e w' => e = .returned (.int .i64 (1 + (wid s.size : Int) + s.size)) ∧ w = w' := by
 have hwid := wid_le s.size
 go_enter Tryz.func112, Tryz.ntmps112
 go_wp2_with fail
 refine (size_any (s.size : Int) w (by omega) (by omega)).mono ?_
 rintro e w' ⟨rfl, rfl⟩
 rw [Int.toNat_natCast]
 go_wp2
 go_ret
 exact ⟨rfl, rfl⟩
theorem appendText_any (v : Value) (l : List UInt8) (s : ByteArray) (base : Nat) (w : World) (hown : Own 5 w base v l) (hbase : base ≤ w.heap.size) (hl : (l.length : Int) + s.size ≤ 140737488350000) :
 Calls Tryz.prog 111 #[v, .string s] w (Gives base (l ++ encS s) w) := by
 obtain ⟨i0, hi, hz0, hz1, hz2⟩ := info_parts info5
 have hwid := wid_le s.size
 have HO := lhd hown
 clear hown
 go_enter Tryz.func111, Tryz.ntmps111
 go_wp2_with fail
 refine (appendNumber_any v l (s.size : Int) base w HO.out hbase (by omega) (by omega) (by omega)).mono ?_
 rintro e w1 ⟨v1, rfl, hown1, hb1⟩
 rw [Int.toNat_natCast] at hown1
 have HO1 := lhd hown1
 have HB := lhd hb1
 have hsz := hb1.size
 clear hown1 hb1
 go_wp2_with (at_builtin; refine wpList_apps rfl _ _ 92 9 rfl 5 i0 Tryz.underlying92 Tryz.underlying9 hi hz0 hz1 hz2 base v1 _ s rfl HO1.out rfl ?c1 ?c2 ?_)
 case c1 => rw [List.length_append, enc_length]; omega
 case c2 => omega
 intro v2 w2 hown2 hb2
 have HO2 := lhd hown2
 have HB2 := lhd hb2
 clear hown2 hb2
 go_wp2
 go_ret
 exact ⟨v2, rfl, HO2.out, HB.out.trans HB2.out⟩
theorem text_any (v : Value) (l : List UInt8) (s : ByteArray) (w : World) (hr : Rd w.heap.size w v l) (hl : (l.length : Int) + s.size ≤ 140737488350000) :
 Calls Tryz.prog 67 #[v, .string s] w (Gives w.heap.size (l ++ encS s) w) := by
 have hwid := wid_le s.size
 have HR := lhd hr
 clear hr
 go_enter Tryz.func67, Tryz.ntmps67
 go_wp2_with fail
 refine (textSize_any s w (by omega)).mono ?_
 rintro e w' ⟨rfl, rfl⟩
 go_wp2_with fail
 refine (withRoom_any v l (1 + (wid s.size : Int) + s.size) w HR.out (by omega) (by omega)).mono ?_
 rintro e w1 ⟨v1, rfl, hown1, hb1⟩
 have HO := lhd hown1
 have HB := lhd hb1
 have hsz := hb1.size
 clear hown1 hb1
 go_wp2_with fail
 refine (appendText_any v1 l s w.heap.size w1 HO.out hsz hl).mono ?_
 rintro e w2 ⟨v2, rfl, hown2, hb2⟩
 have HO2 := lhd hown2
 have HB2 := lhd hb2
 clear hown2 hb2 HO
 go_wp2
 go_ret
 exact ⟨v2, rfl, HO2.out, HB.out.trans HB2.out⟩
set_option linter.unusedVariables false
def CutN (B : Nat) (r : Nat × List UInt8 × Nat) (w : World) (e : Ending) (w' : World) : Prop :=
 ∃ vr, e = .returned (.tuple #[.int .u64 (r.1 : Int), vr, .int .i64 (r.2.2 : Int)]) ∧ Rd B w' vr r.2.1 ∧ Below w.heap.size w w'
theorem cutNumber_nil (A : Option Addr) (c : Nat) (B : Nat) (w : World) : Calls Tryz.prog 73 #[.slice A 0 c] w (CutN B (takeN []) w) := by
 go_enter Tryz.func73, Tryz.ntmps73
 go_wp2
 go_ret3
 exact ⟨_, rfl, Rd.nil _ _, Below.refl _ _⟩
theorem cutNumber_big (a : Addr) (k : UInt8) (n c : Nat) (B : Nat) (w : World) (h0 : 0 < n) (hn : n ≤ 9223372036854775807) (hc0 : w.cell? a = some (.int .u8 (k.toNat : Int))) (hk : 8 < (k.toNat : Int)) : Calls Tryz.prog 73 #[.slice (some a) n c] w (CutN B (0, [], 3) w) := by
 have hk2 := UInt8.toNat_lt k
 have hz : ((n : Int) == 0) = false := by simp; omega
 go_enter Tryz.func73, Tryz.ntmps73
 go_wp2
 go_ret3
 exact ⟨_, rfl, Rd.nil _ _, Below.refl _ _⟩
theorem cutNumber_zero (a : Addr) (k : UInt8) (n c : Nat) (B : Nat) (w : World) (h0 : 1 < n) (hn : n ≤ 9223372036854775807) (hc0 : w.cell? a = some (.int .u8 (k.toNat : Int))) (hc1 : w.cell? ⟨a.block, a.off + 1, none⟩ = some (.int .u8 0)) (hk : (k.toNat : Int) ≤ 8) (hk0 : 0 < (k.toNat : Int)) : Calls Tryz.prog 73 #[.slice (some a) n c] w (CutN B (0, [], 3) w) := by
 have hz : ((n : Int) == 0) = false := by simp; omega
 have h8 : decide (8 < (k.toNat : Int)) = false := by simp; omega
 go_enter Tryz.func73, Tryz.ntmps73
 go_wp2
 go_ret3
 exact ⟨_, rfl, Rd.nil _ _, Below.refl _ _⟩
theorem cutNumber_short1 (a : Addr) (k : UInt8) (c : Nat) (B : Nat) (w : World) (hc0 : w.cell? a = some (.int .u8 (k.toNat : Int))) (hk : (k.toNat : Int) ≤ 8) (hk0 : 0 < (k.toNat : Int)) : Calls Tryz.prog 73 #[.slice (some a) 1 c] w (CutN B (0, [], 2) w) := by
 have h8 : decide (8 < (k.toNat : Int)) = false := by simp; omega
 go_enter Tryz.func73, Tryz.ntmps73
 go_wp2
 go_ret3
 exact ⟨_, rfl, Rd.nil _ _, Below.refl _ _⟩
theorem cutNumber_short2 (a : Addr) (k d : UInt8) (n c : Nat) (B : Nat) (w : World) (h0 : 1 < n) (hn : n ≤ 9223372036854775807) (hc0 : w.cell? a = some (.int .u8 (k.toNat : Int))) (hc1 : w.cell? ⟨a.block, a.off + 1, none⟩ = some (.int .u8 (d.toNat : Int))) (hd : 0 < (d.toNat : Int)) (hk : (k.toNat : Int) ≤ 8) (hk0 : 0 < (k.toNat : Int)) (hs : (n : Int) < 1 + (k.toNat : Int)) :
 Calls Tryz.prog 73 #[.slice (some a) n c] w (CutN B (0, [], 2) w) := by
 have hz : ((n : Int) == 0) = false := by simp; omega
 have hd2 : ((d.toNat : Int) == 0) = false := by simp; omega
 have h8 : decide (8 < (k.toNat : Int)) = false := by simp; omega
 go_enter Tryz.func73, Tryz.ntmps73
 go_wp2
 go_ret3
 exact ⟨_, rfl, Rd.nil _ _, Below.refl _ _⟩
theorem below_drewN (B : Nat) (w : World) (n : Nat) : Below B w (w.drewN n) := ⟨rfl, rfl, rfl, Nat.le_refl _, fun _ _ => rfl⟩
theorem cutNumber_none (a : Addr) (n c : Nat) (w : World) (h0 : 0 < n) (hn : n ≤ c) (hc : c ≤ 9223372036854775807) (hc0 : w.cell? a = some (.int .u8 0)) :
 Calls Tryz.prog 73 #[.slice (some a) n c] w fun e w' => e = .returned (.tuple #[.int .u64 0, .slice (if c = 1 then some a else some ⟨a.block, a.off + 1, none⟩) (n - 1) (c - 1), .int .i64 0]) ∧ Below w.heap.size w w' := by
 have hz : ((n : Int) == 0) = false := by simp; omega
 by_cases hc1 : c = 1
 ·subst hc1
  obtain rfl : n = 1 := by omega
  go_enter Tryz.func73, Tryz.ntmps73
  go_wp2
  refine wp_loop_rounds 1 ?_
  rw [rounds_succ]
  go_wp2
  go_quiet (fail)
  go_wp2
  go_ret3
  exact ⟨rfl, below_drewN _ _ _⟩
 ·go_enter Tryz.func73, Tryz.ntmps73
  go_wp2
  refine wp_loop_rounds 1 ?_
  rw [rounds_succ]
  go_wp2
  go_quiet (fail)
  go_wp2
  go_ret3
  exact ⟨rfl, below_drewN _ _ _⟩
theorem or_byte (v c : Nat) (hv : v < 72057594037927936) (hc : c < 256) : bits .or .u64 (IntKind.u64.wrap ((v : Int) * 256)) (IntKind.u64.wrap (c : Int)) = ((256 * v + c : Nat) : Int) := by
 have e1 : IntKind.u64.wrap ((v : Int) * 256) = ((2 ^ 8 * v : Nat) : Int) := by rw [IntKind.wrap_u64]; omega
 have e2 : IntKind.u64.wrap (c : Int) = (c : Int) := by rw [IntKind.wrap_u64]; omega
 rw [e1, e2, u64_or_nat _ _ (by omega) (by omega), ← Nat.two_pow_add_eq_or_of_lt (by omega) v]
theorem val_take (t : List UInt8) (j : Nat) (h : j < t.length) : val (t.take (j + 1)) = 256 * val (t.take j) + t[j].toNat := by
 rw [List.take_succ_eq_append_getElem h, val_snoc]
theorem val_take_lt (t : List UInt8) (j : Nat) (h : j ≤ 7) : val (t.take j) < 72057594037927936 := by
 have h1 := val_lt (t.take j)
 have h2 : (t.take j).length ≤ 7 := by rw [List.length_take]; omega
 have h3 : 256 ^ (t.take j).length ≤ 256 ^ 7 := Nat.pow_le_pow_right (by omega) h2
 omega
theorem round_value (t : List UInt8) (j : Nat) (h : j < t.length) (h7 : j ≤ 7) :
 Value.int .u64 (bits .or .u64 (IntKind.u64.wrap ((val (t.take j) : Int) * 256)) (IntKind.u64.wrap (t[j].toNat : Int))) = .int .u64 (val (t.take (j + 1)) : Int) := by
 rw [or_byte _ _ (val_take_lt t j h7) (UInt8.toNat_lt _), val_take t j h]
theorem cutNumber_ok (a : Addr) (k d : UInt8) (t : List UInt8) (n c : Nat) (w : World) (hnc : n ≤ c) (hc : c ≤ 9223372036854775807) (hc0 : w.cell? a = some (.int .u8 (k.toNat : Int))) (hc1 : w.cell? ⟨a.block, a.off + 1, none⟩ = some (.int .u8 (d.toNat : Int))) (hd : 0 < (d.toNat : Int))
 (hk : (k.toNat : Int) ≤ 8) (hk0 : 0 < (k.toNat : Int)) (hs : 1 + (k.toNat : Int) ≤ (n : Int)) (ht : k.toNat ≤ t.length) (hct : ∀ j (h : j < t.length), w.cell? ⟨a.block, a.off + 1 + j, none⟩ = some (.int .u8 (t[j].toNat : Int))) :
 Calls Tryz.prog 73 #[.slice (some a) n c] w fun e w' => e = .returned (.tuple #[.int .u64 (val (t.take k.toNat) : Int), .slice (if c = 1 + k.toNat then some a else some (a.add (1 + k.toNat))) (n - (1 + k.toNat)) (c - (1 + k.toNat)), .int .i64 0]) ∧ Below w.heap.size w w' := by
 have hz : ((n : Int) == 0) = false := by simp; omega
 have hd2 : ((d.toNat : Int) == 0) = false := by simp; omega
 have h8 : decide (8 < (k.toNat : Int)) = false := by simp; omega
 have hs2 : decide ((n : Int) < 1 + (k.toNat : Int)) = false := by simp; omega
 have hc2 : ¬ c = 1 := by omega
 have HT := lhd hct
 clear hct
 go_enter Tryz.func73, Tryz.ntmps73
 go_wp2
 go_loop [6, 8, 43] (fun x _ i => ∃ j : Nat, j ≤ k.toNat ∧ i = .int .i64 j ∧ x = .int .u64 (val (t.take j) : Int)) (fun _ _ i => k.toNat - (intOf i).toNat)
 case atStart => exact ⟨0, Nat.zero_le _, rfl, rfl⟩
 case round =>
  obtain ⟨j, hj, rfl, rfl⟩ := hrel
  by_cases hlt : j < k.toNat
  ·have hcj := HT.out j (by omega)
   go_wp2
   go_round
   case rel => exact ⟨j + 1, by omega, by go_num, round_value t j (by omega) (by omega)⟩
   case measure => simp [intOf]; omega
  ·obtain rfl : j = k.toNat := by omega
   go_wp2
   go_quiet (fail)
   go_wp2
   all_goals
    go_ret3
    exact ⟨rfl, below_drewN _ _ _⟩
theorem cutNumber_any (v : Value) (l : List UInt8) (B : Nat) (w : World) (hr : Rd B w v l) (hB : B ≤ w.heap.size) : Calls Tryz.prog 73 #[v] w (CutN B (takeN l) w) := by
 have hr0 := hr
 obtain ⟨A, c, rfl, hc, hm, hn, hcell⟩ := hr
 unfold maxLen at hm
 match l with
 | [] => exact cutNumber_nil A c B w
 | k :: t =>
   cases A with
   | none =>
     have := hn rfl
     simp at hc
     omega
   | some a =>
     have hl : (k :: t).length = t.length + 1 := rfl
     rw [hl] at hc hr0
     have hc0 : w.cell? a = some (.int .u8 (k.toNat : Int)) := by
      have h := (hcell a rfl).2 0 (by simp)
      simpa [Addr.add] using h
     have hct : ∀ j (h : j < t.length), w.cell? ⟨a.block, a.off + 1 + j, none⟩ = some (.int .u8 (t[j].toNat : Int)) := by
      intro j h
      have h2 := (hcell a rfl).2 (j + 1) (by simpa using h)
      rw [show a.add (j + 1) = ⟨a.block, a.off + 1 + j, none⟩ from by simp [Addr.add]; omega] at h2
      simpa using h2
     have hk2 := UInt8.toNat_lt k
     show Calls Tryz.prog 73 #[.slice (some a) (t.length + 1) c] w _
     rw [takeN]
     by_cases h8 : 8 < k.toNat
     ·rw [if_pos (.inl h8)]
      exact cutNumber_big a k _ c B w (by omega) (by omega) hc0 (by omega)
     by_cases hk0 : k.toNat = 0
     ·have hk : k = 0 := UInt8.toNat_inj.1 (by simpa using hk0)
      subst hk
      rw [if_neg (by simp), if_neg (by simp)]
      refine (cutNumber_none a (t.length + 1) c w (by omega) hc (by omega) hc0).mono ?_
      rintro e w' ⟨rfl, hb⟩
      have hd := (hr0.below (hb.mono hB)).drop 1 (by omega)
      refine ⟨_, rfl, ?_, hb⟩
      simpa [Addr.add] using hd
     cases t with
     | nil =>
       rw [if_neg (by simp; omega), if_pos (by simp; omega)]
       exact cutNumber_short1 a k c B w hc0 (by omega) (by omega)
     | cons d u =>
       have hc1 : w.cell? ⟨a.block, a.off + 1, none⟩ = some (.int .u8 (d.toNat : Int)) := hct 0 (by simp)
       by_cases hd0 : d = 0
       ·subst hd0
        rw [if_pos (.inr ⟨by omega, rfl⟩)]
        exact cutNumber_zero a k _ c B w (by simp) (by omega) hc0 hc1 (by omega) (by omega)
       ·have hdp : 0 < (d.toNat : Int) := by
         rcases Nat.eq_zero_or_pos d.toNat with h | h
         ·exact absurd (UInt8.toNat_inj.1 (by simpa using h)) hd0
         ·omega
        rw [if_neg (by rintro (h | ⟨_, h⟩); exact h8 h; simp at h; exact hd0 h)]
        by_cases hs : (d :: u).length < k.toNat
        ·rw [if_pos hs]
         exact cutNumber_short2 a k d _ c B w (by simp) (by omega) hc0 hc1 hdp (by omega) (by omega) (by omega)
        ·rw [if_neg hs]
         refine (cutNumber_ok a k d (d :: u) _ c w hc (by omega) hc0 hc1 hdp (by omega) (by omega) (by omega) (by omega) hct).mono ?_
         rintro e w' ⟨rfl, hb⟩
         have hd := (hr0.below (hb.mono hB)).drop (1 + k.toNat) (by omega)
         refine ⟨_, rfl, ?_, hb⟩
         rw [show (k :: d :: u).drop (1 + k.toNat) = (d :: u).drop k.toNat from by rw [Nat.add_comm]; rfl] at hd
         exact hd
theorem detached_any (v : Value) (l : List UInt8) (w : World) (hr : Rd w.heap.size w v l) (hl : l.length ≤ 140737488355328) : Calls Tryz.prog 74 #[v] w (Gives w.heap.size l w) := by
 obtain ⟨i0, hi, hz0, hz1, hz2⟩ := info_parts info5
 have HR := lhd hr
 clear hr
 go_enter Tryz.func74, Tryz.ntmps74
 go_wp2_with (at_builtin; refine wpList_app rfl _ _ 92 rfl 5 i0 Tryz.underlying92 hi hz0 hz1 hz2 w.heap.size w.heap.size _ _ [] l rfl (Own.nil _ _ _) rfl HR.out ?c1 (Nat.le_refl _) ?_)
 case c1 => simpa using hl
 intro v' w2 hown2 hb2
 have HO2 := lhd hown2
 clear hown2
 go_wp2
 go_ret
 exact ⟨v', rfl, HO2.out, hb2⟩
def Takes (r : Nat × List UInt8 × Nat) (w : World) (e : Ending) (w' : World) : Prop :=
 ∃ vr, e = .returned (.tuple #[.int .u64 (r.1 : Int), vr, .int .i64 (r.2.2 : Int)]) ∧ Own 5 w' w.heap.size vr r.2.1 ∧ Below w.heap.size w w'
theorem takeN_rest (l : List UInt8) : (takeN l).2.1.length ≤ l.length := by
 cases l with
 | nil => simp [takeN]
 | cons k t =>
   rw [takeN]
   split
   ·simp
   ·split
    ·simp
    ·simp; omega
theorem take_any (v : Value) (l : List UInt8) (w : World) (hr : Rd w.heap.size w v l) (hl : l.length ≤ 140737488355328) : Calls Tryz.prog 36 #[v] w (Takes (takeN l) w) := by
 have hrest := takeN_rest l
 have HR := lhd hr
 clear hr
 go_enter Tryz.func36, Tryz.ntmps36
 go_wp2_with fail
 refine (cutNumber_any v l w.heap.size w HR.out (Nat.le_refl _)).mono ?_
 rintro e w1 ⟨v1, rfl, hr1, hb1⟩
 generalize takeN l = r at *
 obtain ⟨n, rest, er⟩ := r
 have hrest2 : rest.length ≤ l.length := hrest
 clear hrest
 have HR1 := lhd hr1
 have HB1 := lhd hb1
 have hsz := hb1.size
 clear hr1 hb1
 go_wp2_with fail
 refine (detached_any v1 rest w1 (HR1.out.more hsz) (by omega)).mono ?_
 rintro e w2 ⟨v2, rfl, hown2, hb2⟩
 have HO2 := lhd hown2
 have HB2 := lhd hb2
 clear hown2 hb2
 go_wp2
 go_ret3
 exact ⟨v2, rfl, HO2.out.base hsz, HB1.out.trans (HB2.out.mono hsz)⟩
set_option linter.unusedVariables false
theorem Own.made (e : TypeId) (w : World) : Own e (w.alloc (.cells #[] e)) w.heap.size (.slice (some ⟨w.heap.size, 0, none⟩) 0 0) [] :=
 World.ownsRow_made w #[] 0 (Nat.le_refl _) (Nat.zero_le _) rfl
set_option linter.unusedVariables false
set_option linter.unusedVariables false
def zag (u : Nat) : Int := if u % 2 = 1 then -((u / 2 : Nat) : Int) - 1 else ((u / 2 : Nat) : Int)
theorem takeN_lt (l : List UInt8) : (takeN l).1 < 18446744073709551616 := by
 by_cases h : (takeN l).2.2 = 0
 ·have h2 : takeN l = ((takeN l).1, (takeN l).2.1, 0) := by rw [← h]
  exact (takeN_only l _ _ h2).2
 ·cases l with
  | nil => simp [takeN]
  | cons k t =>
    revert h
    rw [takeN]
    split
    ·simp
    ·split
     ·simp
     ·simp
def TakesI (r : Nat × List UInt8 × Nat) (w : World) (e : Ending) (w' : World) : Prop :=
 ∃ vr, e = .returned (.tuple #[.int .i64 (zag r.1), vr, .int .i64 (r.2.2 : Int)]) ∧ Own 5 w' w.heap.size vr r.2.1 ∧ Below w.heap.size w w'
theorem ret3_int {k : IntKind} {a b : Int} {x y : Value} (h : a = b) : Ending.returned (.tuple #[.int k a, x, y]) = .returned (.tuple #[.int k b, x, y]) := by rw [h]
theorem takeInt_any (v : Value) (l : List UInt8) (w : World) (hr : Rd w.heap.size w v l) (hl : l.length ≤ 140737488355328) : Calls Tryz.prog 113 #[v] w (TakesI (takeN l) w) := by
 have hn := takeN_lt l
 have HR := lhd hr
 clear hr
 go_enter Tryz.func113, Tryz.ntmps113
 go_wp2_with fail
 refine (take_any v l w HR.out hl).mono ?_
 rintro e w1 ⟨v1, rfl, hown1, hb1⟩
 generalize takeN l = r at *
 obtain ⟨n, rest, er⟩ := r
 have hn2 : (n : Int) ≤ 18446744073709551615 := by have h : n < 18446744073709551616 := hn; omega
 have HO1 := lhd hown1
 have HB1 := lhd hb1
 clear hown1 hb1 hn
 by_cases hodd : n % 2 = 1
 ·have ho : (((n : Int) % 2) == 1) = true := by simp; omega
  have hz : zag n = -((n : Int) / 2) - 1 := by unfold zag; rw [if_pos hodd]; omega
  have HZ := lhd hz
  clear hz
  go_wp2
  go_ret3
  exact ⟨v1, ret3_int HZ.out.symm, HO1.out, HB1.out⟩
 ·have ho : (((n : Int) % 2) == 1) = false := by simp; omega
  have hz : zag n = (n : Int) / 2 := by unfold zag; rw [if_neg hodd]; omega
  have HZ := lhd hz
  clear hz
  go_wp2
  go_ret3
  exact ⟨v1, ret3_int HZ.out.symm, HO1.out, HB1.out⟩
theorem above_any (x m : Int) (w : World) (h0 : 0 ≤ x) (h1 : x ≤ 18446744073709551615) (m0 : -9223372036854775808 ≤ m) (m1 : m ≤ 9223372036854775807) :
 Calls Tryz.prog 173 #[.int .u64 x, .int .i64 m] w fun e w' => e = .returned (.bool (decide (max m 0 < x))) ∧ w = w' := by
 go_enter Tryz.func173, Tryz.ntmps173
 go_wp2
 go_ret
 exact ⟨rfl, rfl⟩
theorem above_yes (x m : Int) (w : World) (h0 : 0 ≤ x) (h1 : x ≤ 18446744073709551615) (m0 : -9223372036854775808 ≤ m) (m1 : m ≤ 9223372036854775807) (h : max m 0 < x) :
 Calls Tryz.prog 173 #[.int .u64 x, .int .i64 m] w fun e w' => e = .returned (.bool true) ∧ w = w' := by
 refine (above_any x m w h0 h1 m0 m1).mono ?_
 rintro e w' ⟨rfl, rfl⟩
 exact ⟨by rw [decide_eq_true h], rfl⟩
theorem above_no (x m : Int) (w : World) (h0 : 0 ≤ x) (h1 : x ≤ 18446744073709551615) (m0 : -9223372036854775808 ≤ m) (m1 : m ≤ 9223372036854775807) (h : x ≤ max m 0) :
 Calls Tryz.prog 173 #[.int .u64 x, .int .i64 m] w fun e w' => e = .returned (.bool false) ∧ w = w' := by
 refine (above_any x m w h0 h1 m0 m1).mono ?_
 rintro e w' ⟨rfl, rfl⟩
 exact ⟨by rw [decide_eq_false (by omega)], rfl⟩
def takeS (l : List UInt8) (most : Int) : List UInt8 × List UInt8 × Nat :=
 if (takeN l).2.2 ≠ 0 then ([], [], (takeN l).2.2)
 else if max most 0 < ((takeN l).1 : Int) then ([], [], 5)
 else if (takeN l).2.1.length < (takeN l).1 then ([], [], 2)
 else ((takeN l).2.1.take (takeN l).1, (takeN l).2.1.drop (takeN l).1, 0)
def CutS (B : Nat) (r : List UInt8 × List UInt8 × Nat) (w : World) (e : Ending) (w' : World) : Prop :=
 ∃ vr, e = .returned (.tuple #[.string ⟨r.1.toArray⟩, vr, .int .i64 (r.2.2 : Int)]) ∧ Rd B w' vr r.2.1 ∧ Below w.heap.size w w'
theorem takeS_err {l : List UInt8} {n : Nat} {rest : List UInt8} {er : Nat} (m : Int) (h : takeN l = (n, rest, er)) (he : er ≠ 0) : takeS l m = ([], [], er) := by
 unfold takeS; rw [h, if_pos he]
theorem takeS_large {l : List UInt8} {n : Nat} {rest : List UInt8} {m : Int} (h : takeN l = (n, rest, 0)) (hm : max m 0 < (n : Int)) : takeS l m = ([], [], 5) := by
 unfold takeS; rw [h, if_neg (by simp), if_pos hm]
theorem takeS_short {l : List UInt8} {n : Nat} {rest : List UInt8} {m : Int} (h : takeN l = (n, rest, 0)) (hm : (n : Int) ≤ max m 0) (hs : rest.length < n) : takeS l m = ([], [], 2) := by
 unfold takeS; rw [h, if_neg (by simp), if_neg (show ¬ max m 0 < (n : Int) by omega), if_pos hs]
theorem takeS_ok {l : List UInt8} {n : Nat} {rest : List UInt8} {m : Int} (h : takeN l = (n, rest, 0)) (hm : (n : Int) ≤ max m 0) (hs : ¬ rest.length < n) : takeS l m = (rest.take n, rest.drop n, 0) := by
 unfold takeS; rw [h, if_neg (by simp), if_neg (show ¬ max m 0 < (n : Int) by omega), if_neg hs]
theorem cutText_any (v : Value) (l : List UInt8) (m : Int) (B : Nat) (w : World) (hr : Rd B w v l) (hB : B ≤ w.heap.size) (m0 : -9223372036854775808 ≤ m) (m1 : m ≤ 9223372036854775807) :
 Calls Tryz.prog 140 #[v, .int .i64 m] w (CutS B (takeS l m) w) := by
 have hn := takeN_lt l
 have HR := lhd hr
 clear hr
 go_enter Tryz.func140, Tryz.ntmps140
 go_wp2_with fail
 refine (cutNumber_any v l B w HR.out hB).mono ?_
 rintro e w1 ⟨v1, rfl, hr1, hb1⟩
 generalize hT : takeN l = r at *
 obtain ⟨n, rest, er⟩ := r
 have hn2 : (n : Int) ≤ 18446744073709551615 := by have h : n < 18446744073709551616 := hn; omega
 have hr1' : Rd B w1 v1 rest := hr1
 have HR1 := lhd hr1'
 have HB1 := lhd hb1
 have HT := lhd hT
 clear hr1 hr1' hb1 hn hT
 by_cases he : er = 0
 ·subst he
  by_cases hab : max m 0 < (n : Int)
  ·have HS := lhd (takeS_large HT.out hab)
   go_wp2_with fail
   refine (above_yes (n : Int) m w1 (by omega) hn2 m0 m1 hab).mono ?_
   rintro e w2 ⟨rfl, rfl⟩
   go_wp2
   go_ret3
   rw [HS.out]
   exact ⟨_, rfl, Rd.nil _ _, HB1.out⟩
  ·have hab2 : (n : Int) ≤ max m 0 := by omega
   have HAB := lhd hab2
   clear hab hab2
   obtain ⟨A1, c1, hv1, hc1, hm1⟩ := HR1.out.shape
   unfold maxLen at hm1
   rw [hv1] at HR1 ⊢
   clear hv1
   go_wp2_with fail
   refine (above_no (n : Int) m w1 (by omega) hn2 m0 m1 HAB.out).mono ?_
   rintro e w2 ⟨rfl, rfl⟩
   by_cases hsh : rest.length < n
   ·have HS := lhd (takeS_short HT.out HAB.out hsh)
    go_wp2
    go_ret3
    rw [HS.out]
    exact ⟨_, rfl, Rd.nil _ _, HB1.out⟩
   ·have HS := lhd (takeS_ok HT.out HAB.out hsh)
    cases A1 with
    | none =>
      obtain ⟨A', c', hv', h1', h2', h3', _⟩ := HR1.out
      injection hv' with e1 e2 e3
      subst e1 e3
      have hc0 := h3' rfl
      subst hc0
      have hr0 : rest = [] := List.eq_nil_of_length_eq_zero (by omega)
      subst hr0
      have hn0 : n = 0 := by simp at hsh; exact hsh
      subst hn0
      have hst : ∀ nq, (convert 92 9 (.slice none 0 0)).run Tryz.prog (w1.drewN nq) = .ok (.string ⟨#[]⟩) (w1.drewN nq) := fun nq => run_string_rd (l := []) 92 9 5 Tryz.underlying92 Tryz.underlying5 Tryz.underlying9 (Rd.nil B (w1.drewN nq))
      go_wp2
      go_quiet (fail)
      go_wp2
      go_ret3
      rw [HS.out]
      exact ⟨_, rfl, Rd.nil _ _, HB1.out.trans (below_drewN _ _ _)⟩
    | some a =>
      have hst : ∀ nq, (convert 92 9 (.slice (some a) n c1)).run Tryz.prog (w1.drewN nq) = .ok (.string ⟨(rest.take n).toArray⟩) (w1.drewN nq) := fun nq => run_string_rd (w := w1.drewN nq) 92 9 5 Tryz.underlying92 Tryz.underlying5 Tryz.underlying9 (HR1.out.take n (by omega))
      have hdr := HR1.out.drop n (by omega)
      by_cases hcn : c1 = n
      ·subst hcn
       rw [if_pos rfl, Nat.sub_self, show rest.length - c1 = 0 by omega] at hdr
       have HD := lhd hdr
       clear hdr
       go_wp2
       go_quiet (fail)
       go_wp2
       go_ret3
       rw [HS.out]
       exact ⟨_, rfl, HD.out, HB1.out.trans (below_drewN _ _ _)⟩
      ·rw [if_neg hcn] at hdr
       have HD := lhd hdr
       clear hdr
       go_wp2
       go_quiet (fail)
       go_wp2
       go_ret3
       rw [HS.out]
       exact ⟨_, rfl, HD.out, HB1.out.trans (below_drewN _ _ _)⟩
 ·have he1 : ((er : Int) != 0) = true := by simp; omega
  have HS := lhd (takeS_err m HT.out he)
  go_wp2
  go_ret3
  rw [HS.out]
  exact ⟨_, rfl, Rd.nil _ _, HB1.out⟩
def TakesS (r : List UInt8 × List UInt8 × Nat) (w : World) (e : Ending) (w' : World) : Prop :=
 ∃ vr, e = .returned (.tuple #[.string ⟨r.1.toArray⟩, vr, .int .i64 (r.2.2 : Int)]) ∧ Own 5 w' w.heap.size vr r.2.1 ∧ Below w.heap.size w w'
theorem takeS_rest (l : List UInt8) (m : Int) : (takeS l m).2.1.length ≤ l.length := by
 have h := takeN_rest l
 unfold takeS
 split
 ·simp
 ·split
  ·simp
  ·split
   ·simp
   ·simp only [List.length_drop]; omega
theorem takeText_any (v : Value) (l : List UInt8) (m : Int) (w : World) (hr : Rd w.heap.size w v l) (m0 : -9223372036854775808 ≤ m) (m1 : m ≤ 9223372036854775807) (hl : l.length ≤ 140737488355328) :
 Calls Tryz.prog 114 #[v, .int .i64 m] w (TakesS (takeS l m) w) := by
 have hrest := takeS_rest l m
 have HR := lhd hr
 clear hr
 go_enter Tryz.func114, Tryz.ntmps114
 go_wp2_with fail
 refine (cutText_any v l m w.heap.size w HR.out (Nat.le_refl _) m0 m1).mono ?_
 rintro e w1 ⟨v1, rfl, hr1, hb1⟩
 generalize takeS l m = r at *
 obtain ⟨s, rest, er⟩ := r
 have hrest2 : rest.length ≤ l.length := hrest
 clear hrest
 have HR1 := lhd hr1
 have HB1 := lhd hb1
 have hsz := hb1.size
 clear hr1 hb1
 go_wp2_with fail
 refine (detached_any v1 rest w1 (HR1.out.more hsz) (by omega)).mono ?_
 rintro e w2 ⟨v2, rfl, hown2, hb2⟩
 have HO2 := lhd hown2
 have HB2 := lhd hb2
 clear hown2 hb2
 go_wp2
 go_ret3
 exact ⟨v2, rfl, HO2.out.base hsz, HB1.out.trans (HB2.out.mono hsz)⟩
set_option linter.unusedVariables false
def takeK : Nat → List UInt8 → Int → List ByteArray × List UInt8 × Nat
 | 0, l, _ => ([], l, 0)
 | k + 1, l, m =>
   if (takeS l m).2.2 ≠ 0 then ([], [], (takeS l m).2.2)
   else if (takeK k (takeS l m).2.1 m).2.2 ≠ 0 then ([], [], (takeK k (takeS l m).2.1 m).2.2)
   else (⟨(takeS l m).1.toArray⟩ :: (takeK k (takeS l m).2.1 m).1, (takeK k (takeS l m).2.1 m).2.1, 0)
def pre (acc : List ByteArray) (r : List ByteArray × List UInt8 × Nat) : List ByteArray × List UInt8 × Nat :=
 if r.2.2 ≠ 0 then ([], [], r.2.2) else (acc ++ r.1, r.2.1, 0)
set_option linter.unusedVariables false
theorem zag_zig (n : Int) : zag (zig n).toNat = n := by
 unfold zag zig
 by_cases h : n < 0
 ·rw [if_pos h, if_pos (by omega)]; omega
 ·rw [if_neg h, if_neg (by omega)]; omega
theorem zig_bound (n : Int) (h0 : -9223372036854775808 ≤ n) (h1 : n ≤ 9223372036854775807) : (zig n).toNat < 18446744073709551616 := by
 unfold zig
 split <;> omega
theorem zig_zag (u : Nat) : (zig (zag u)).toNat = u := by
 unfold zag zig
 by_cases h : u % 2 = 1
 ·rw [if_pos h, if_pos (by omega)]; omega
 ·rw [if_neg h, if_neg (by omega)]; omega
theorem takeS_enc (s : ByteArray) (r : List UInt8) (m : Int) (hs : s.size < 18446744073709551616) (hm : (s.size : Int) ≤ max m 0) : takeS (encS s ++ r) m = (s.data.toList, r, 0) := by
 have hl : s.data.toList.length = s.size := by simp
 have h : takeN (encS s ++ r) = (s.size, s.data.toList ++ r, 0) := by
  unfold encS
  rw [List.append_assoc]
  exact takeN_enc s.size hs _
 rw [takeS_ok h hm (by rw [List.length_append]; omega)]
 have e1 : (s.data.toList ++ r).take s.size = s.data.toList := by rw [List.take_append_of_le_length (by omega), List.take_of_length_le (by omega)]
 have e2 : (s.data.toList ++ r).drop s.size = r := by rw [List.drop_append_of_le_length (by omega), List.drop_of_length_le (by omega), List.nil_append]
 rw [e1, e2]
theorem takeS_only (l s r : List UInt8) (m : Int) (h : takeS l m = (s, r, 0)) : encS ⟨s.toArray⟩ ++ r = l := by
 unfold takeS at h
 by_cases he : (takeN l).2.2 = 0
 ·have h2 : takeN l = ((takeN l).1, (takeN l).2.1, 0) := by rw [← he]
  have h3 := (takeN_only l _ _ h2).1
  rw [if_neg (by simp [he])] at h
  split at h
  ·simp at h
  ·split at h
   ·simp at h
   ·rename_i hs
    injection h with h4 h5
    injection h5 with h5 _
    have hsz : (ByteArray.mk s.toArray).size = (takeN l).1 := by
     show s.toArray.size = _
     rw [← h4]
     simp
     omega
    unfold encS
    rw [hsz]
    have hd : (ByteArray.mk s.toArray).data.toList = s := by simp
    rw [hd, List.append_assoc, ← h4, ← h5, List.take_append_drop]
    exact h3
 ·rw [if_pos he] at h
  injection h with h1 h2
  injection h2 with h2 h3
  exact absurd h3 he
end Go.Proofs.YtgfobinklijkpaaGreatDoor
