/-
  What the document's own Size, Put, Int, Text and List (consistoryref01) answer: the same bytes as octet's; in memory of the call's own, what was there stays.
-/
import Derived.Test.YteckenlbelgknaaEC
namespace Go.Proofs.Yteckenlbelgknaa
open Go.RowKit
set_option linter.unusedVariables false

theorem wid_div (m : Nat) (h0 : 0 < m) (h1 : m < 18446744073709551616) : wid m = wid (m / 256) + 1 := by
  rcases (show m < 256 ∨ (256 ≤ m ∧ m < 65536) ∨ (65536 ≤ m ∧ m < 16777216) ∨ (16777216 ≤ m ∧ m < 4294967296) ∨ (4294967296 ≤ m ∧ m < 1099511627776) ∨ (1099511627776 ≤ m ∧ m < 281474976710656) ∨ (281474976710656 ≤ m ∧ m < 72057594037927936) ∨ 72057594037927936 ≤ m from by omega) with h | h | h | h | h | h | h | h
  · rw [wid_case m 1 (by omega), wid_case (m / 256) 0 (by omega)]
  · rw [wid_case m 2 (by omega), wid_case (m / 256) 1 (by omega)]
  · rw [wid_case m 3 (by omega), wid_case (m / 256) 2 (by omega)]
  · rw [wid_case m 4 (by omega), wid_case (m / 256) 3 (by omega)]
  · rw [wid_case m 5 (by omega), wid_case (m / 256) 4 (by omega)]
  · rw [wid_case m 6 (by omega), wid_case (m / 256) 5 (by omega)]
  · rw [wid_case m 7 (by omega), wid_case (m / 256) 6 (by omega)]
  · rw [wid_case m 8 (by omega), wid_case (m / 256) 7 (by omega)]

theorem byte_mod (m : Nat) : ((UInt8.ofNat m).toNat : Int) = (m : Int) % 256 := by simp

set_option maxHeartbeats 400000 in
theorem refSize_any (x : Int) (w : World) (h0 : 0 ≤ x) (h1 : x ≤ 18446744073709551615) : Calls Try.prog 32 #[.int .u64 x] w fun e w' => e = .returned (.int .i64 (1 + (wid x.toNat : Int))) ∧ w = w' := by
  have hwx := wid_le x.toNat
  go_enter Try.func32, Try.ntmps32
  go_wp2
  go_loop [0, 3] (fun n k => ∃ m j : Nat, (m : Int) ≤ 18446744073709551615 ∧ j ≤ 8 ∧ n = .int .u64 (m : Int) ∧ k = .int .i64 (1 + (j : Int)) ∧ Hid (wid x.toNat = wid m + j)) (fun n _ => (intOf n).toNat)
  case atStart => exact ⟨x.toNat, 0, by omega, by omega, by go_num, rfl, rfl⟩
  case round =>
    obtain ⟨m, j, hm, hj, rfl, rfl, HW⟩ := hrel
    by_cases hp : 0 < m
    · have HD := Lib.hid (wid_div m hp (by omega))
      have hj7 : j ≤ 7 := by have := HD.out; have := HW.out; omega
      go_wp2
      go_round
      case rel => exact ⟨m / 256, j + 1, by omega, by omega, by go_num, by go_num, by unfold Hid; have := HD.out; have := HW.out; omega⟩
      case measure => simp [intOf]; omega
    · obtain rfl : m = 0 := by omega
      go_wp2
      go_ret
      exact ⟨ret_int (by have h := HW.out; rw [show wid 0 = 0 from rfl] at h; omega), rfl⟩

set_option maxHeartbeats 1000000 in
theorem refPut_any (v : Value) (l : List UInt8) (x : Int) (w : World) (hr : Rd w.heap.size w v l) (h0 : 0 ≤ x) (h1 : x ≤ 18446744073709551615) (hl : l.length ≤ 140737488350000) :
    Calls Try.prog 30 #[v, .int .u64 x] w (Gives w.heap.size (l ++ enc x.toNat) w) := by
  obtain ⟨i0, hi, hz0, hz1, hz2⟩ := info_parts info5
  have hwid := wid_le x.toNat
  have HR := Lib.hid hr
  clear hr
  go_enter Try.func30, Try.ntmps30
  go_wp2_with (at_builtin; refine wpList_app rfl _ _ 22 rfl 5 i0 Try.underlying22 hi hz0 hz1 hz2 w.heap.size w.heap.size _ _ [] l rfl (Own.made 5 w) rfl (HR.out.below ((Below.refl _ _).alloc (Nat.le_refl _) _)) ?c1 ?c2 ?_)
  case c1 => simp; omega
  case c2 => simp
  intro v1 w1 hown1 hb1
  have HO1 : Hid (Own 5 w1 w.heap.size v1 l) := hown1
  have HB1 : Hid (Below w.heap.size w w1) := ((Below.refl _ _).alloc (Nat.le_refl _) _).trans hb1
  have hs1 := HB1.out.size
  clear hown1 hb1 HR
  go_wp2_with fail
  refine (refSize_any x w1 h0 h1).mono ?_
  rintro e w' ⟨rfl, rfl⟩
  go_wp2_with (at_builtin; refine wpList_app1 rfl _ _ 22 rfl 5 i0 Try.underlying22 hi hz0 hz1 hz2 w.heap.size v1 l (UInt8.ofNat (wid x.toNat)) ⟨w1.heap.size, 0, none⟩ rfl (HO1.out.alloc _) rfl ?d1 ?d2 ?d3 ?_)
  case d1 => simp; omega
  case d2 => omega
  case d3 => simp; omega
  intro v2 w2 hown2 hb2
  have HO2 := Lib.hid hown2
  have HB2 : Hid (Below w.heap.size w w2) := (HB1.out.alloc hs1 _).trans hb2
  clear hown2 hb2 HO1
  go_wp2
  go_loopw [5, 7, 8, 9] (fun v i _ _ wr => ∃ k : Nat, k ≤ wid x.toNat ∧ i = .int .i64 ((k : Int) - 1) ∧ Hid (Own 5 wr w.heap.size v (l ++ [UInt8.ofNat (wid x.toNat)] ++ (be (wid x.toNat) x.toNat).take (wid x.toNat - k))) ∧ Hid (Below w.heap.size w wr))
    (fun _ i _ _ _ => (intOf i + 1).toNat)
  case atStart => exact ⟨wid x.toNat, Nat.le_refl _, by go_num, by have h := HO2.out; simpa [Hid] using h, HB2⟩
  case round =>
    obtain ⟨k, hk, rfl, HO, HB⟩ := hrel
    have hsz := HB.out.size
    by_cases hk0 : 0 < k
    · obtain ⟨j, rfl⟩ : ∃ j, k = j + 1 := ⟨k - 1, by omega⟩
      rw [show ((j + 1 : Nat) : Int) - 1 = (j : Int) from by omega]
      have hlen : (List.take (wid x.toNat - (j + 1)) (be (wid x.toNat) x.toNat)).length ≤ 8 := by rw [List.length_take]; omega
      go_wp2
      go_loop [8, 9] (fun y q => ∃ p m : Nat, p ≤ j ∧ q = .int .i64 (p : Int) ∧ y = .int .u64 (m : Int) ∧ (m : Int) ≤ 18446744073709551615 ∧ Hid (m = x.toNat / 256 ^ p)) (fun _ q => j - (intOf q).toNat)
      case atStart => exact ⟨0, x.toNat, Nat.zero_le _, rfl, by go_num, by omega, by simp [Hid]⟩
      case round =>
        obtain ⟨p, m, hp, rfl, rfl, hm, HM⟩ := hrel
        by_cases hpj : p < j
        · go_wp2
          go_round
          case rel => exact ⟨p + 1, m / 256, by omega, by go_num, by go_num, by omega, by unfold Hid; rw [HM.out, Nat.div_div_eq_div_mul, Nat.pow_succ]⟩
          case measure => simp [intOf]; omega
        · obtain rfl : p = j := by omega
          have HBT := Lib.hid (be_take _ _ x.toNat hk)
          have hb8 : ((UInt8.ofNat (x.toNat / 256 ^ p)).toNat : Int) = (m : Int) % 256 := by rw [← HM.out]; exact byte_mod m
          have HB8 := Lib.hid hb8
          clear hb8
          generalize UInt8.ofNat (x.toNat / 256 ^ p) = b at *
          go_wp2_with (at_builtin; refine wpList_app1 rfl _ _ 22 rfl 5 i0 Try.underlying22 hi hz0 hz1 hz2 w.heap.size _ _ b ⟨wr.heap.size, 0, none⟩ rfl (HO.out.alloc _) rfl ?e1 ?e2 ?e3 ?_)
          case e1 => rw [HB8.out]
          case e2 => first | omega | (simp only [List.length_append, List.length_cons, List.length_nil]; omega)
          case e3 => first | omega | (simp; omega)
          intro v3 w3 hown3 hb3
          have HO3 : Hid (Own 5 w3 w.heap.size v3 (l ++ [UInt8.ofNat (wid x.toNat)] ++ (be (wid x.toNat) x.toNat).take (wid x.toNat - p))) := by
            rw [HBT.out]
            simpa [Hid] using hown3
          have HB3 : Hid (Below w.heap.size w w3) := (HB.out.alloc (by omega) _).trans hb3
          clear hown3 hb3 HO HB
          go_wp2
          go_roundw
          case rel => exact ⟨p, by omega, by go_num, HO3, HB3⟩
          case measure => simp [intOf]
    · obtain rfl : k = 0 := by omega
      go_wp2
      go_ret
      refine ⟨_, rfl, ?_, HB.out⟩
      have h := HO.out
      rw [List.take_of_length_le (by rw [be_length]; omega), List.append_assoc] at h
      exact h

end Go.Proofs.Yteckenlbelgknaa
