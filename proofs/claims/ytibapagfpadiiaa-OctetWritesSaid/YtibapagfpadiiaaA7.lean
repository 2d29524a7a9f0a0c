/-
  What octet.listSize and octet.List answer, for every slice of strings that is read and every byte slice, while the lengths stay below 2^47: how many bytes the encoding has, and the bytes followed by it, in memory of the call's own.
-/
import Derived.Test.YtibapagfpadiiaaA6
namespace Go.Proofs.Ytibapagfpadiiaa
open Go.RowKit
set_option linter.unusedVariables false

set_option maxHeartbeats 1000000 in
theorem listSize_any (v : Value) (ss : List ByteArray) (B : Nat) (w : World) (hr : RdS B w v ss) (hl : (encs ss).length ≤ 140737488350000) (hn : ss.length ≤ 140737488350000) :
    Calls Try.prog 34 #[v] w fun e w' => e = .returned (.int .i64 (1 + (wid ss.length : Int) + ((encs ss).length : Int))) ∧ w = w' := by
  have hwid := wid_le ss.length
  obtain ⟨A, c, hv, _, _⟩ := hr.shape
  rw [hv] at hr ⊢
  have HR := Lib.hid hr
  clear hr hv
  generalize hL : (encs ss).length = L at *
  have HL := Lib.hid hL
  clear hL
  generalize hW : wid ss.length = W at *
  have HW := Lib.hid hW
  clear hW
  go_enter Try.func34, Try.ntmps34
  go_wp2_with fail
  refine (size_any (ss.length : Int) w (by omega) (by omega)).mono ?_
  rintro e w' ⟨rfl, rfl⟩
  rw [Int.toNat_natCast, HW.out]
  go_wp2
  go_loop [3, 5, 12] (fun t _ i => ∃ k : Nat, k ≤ ss.length ∧ i = .int .i64 k ∧ ∃ T : Nat, T ≤ L ∧ Hid (T = (encs (ss.take k)).length) ∧ t = .int .i64 (1 + (W : Int) + (T : Int))) (fun _ _ i => ss.length - (intOf i).toNat)
  case atStart => exact ⟨0, Nat.zero_le _, rfl, 0, Nat.zero_le _, rfl, by simp⟩
  case round =>
    obtain ⟨k, hk, rfl, T, hT, HT, rfl⟩ := hrel
    by_cases hlt : k < ss.length
    · obtain ⟨a, rfl, hcell⟩ := HR.out.at_ k hlt
      have hs1 : (encs (ss.take (k + 1))).length = T + (wid ss[k].size + 1 + ss[k].size) := by rw [encs_take ss k hlt, List.length_append, encS_length, HT.out]
      have hs2 := encs_take_le ss (k + 1)
      rw [HL.out] at hs2
      have hs3 : T + (wid ss[k].size + 1 + ss[k].size) ≤ L := by omega
      have HS1 := Lib.hid hs1
      clear hs1 hs2
      generalize hs : ss[k] = s at *
      have hws := wid_le s.size
      go_wp2_with fail
      refine (textSize_any s w (by omega)).mono ?_
      rintro e w' ⟨rfl, rfl⟩
      go_wp2
      go_round
      case rel => exact ⟨k + 1, by omega, by go_num, T + (wid s.size + 1 + s.size), hs3, HS1.out.symm, by go_num⟩
      case measure => simp [intOf]; omega
    · obtain rfl : k = ss.length := by omega
      go_wp2
      go_ret
      refine ⟨?_, rfl⟩
      have e : T = L := by rw [HT.out, List.take_length]; exact HL.out
      subst e
      rfl

set_option maxHeartbeats 1000000 in
theorem list_any (v vl : Value) (l : List UInt8) (ss : List ByteArray) (w : World) (hr : Rd w.heap.size w v l) (hrs : RdS w.heap.size w vl ss) (hl : l.length + (encs ss).length ≤ 140737488340000) (hn : ss.length ≤ 140737488340000) :
    Calls Try.prog 18 #[v, vl] w (Gives w.heap.size (l ++ encL ss) w) := by
  have hwid := wid_le ss.length
  obtain ⟨A, c, hv, _, _⟩ := hrs.shape
  rw [hv] at hrs ⊢
  have HR := Lib.hid hr
  have HRS := Lib.hid hrs
  clear hr hrs hv
  generalize hL : (encs ss).length = L at *
  have HL := Lib.hid hL
  clear hL
  go_enter Try.func18, Try.ntmps18
  go_wp2_with fail
  refine (listSize_any _ ss w.heap.size w HRS.out (by rw [HL.out]; omega) (by omega)).mono ?_
  rintro e w' ⟨rfl, rfl⟩
  rw [HL.out]
  go_wp2_with fail
  refine (withRoom_any v l (1 + (wid ss.length : Int) + (L : Int)) w HR.out (by omega) (by omega)).mono ?_
  rintro e w1 ⟨v1, rfl, hown1, hb1⟩
  have HO1 := Lib.hid hown1
  have HB1 := Lib.hid hb1
  have hs1 := hb1.size
  clear hown1 hb1
  go_wp2_with fail
  refine (appendNumber_any v1 l (ss.length : Int) w.heap.size w1 HO1.out hs1 (by omega) (by omega) (by omega)).mono ?_
  rintro e w2 ⟨v2, rfl, hown2, hb2⟩
  rw [Int.toNat_natCast] at hown2
  have HO2 := Lib.hid hown2
  have HB2 : Hid (Below w.heap.size w w2) := HB1.out.trans hb2
  clear hown2 hb2 HO1 HB1
  go_wp2
  go_loopw [5, 7, 18] (fun o _ i wr => ∃ k : Nat, k ≤ ss.length ∧ i = .int .i64 k ∧ Hid (Own 5 wr w.heap.size o (l ++ enc ss.length ++ encs (ss.take k))) ∧ Hid (Below w.heap.size w wr)) (fun _ _ i _ => ss.length - (intOf i).toNat)
  case atStart => exact ⟨0, Nat.zero_le _, rfl, by have h := HO2.out; simpa [Hid, encs] using h, HB2⟩
  case round =>
    obtain ⟨k, hk, rfl, HO, HB⟩ := hrel
    have hsz := HB.out.size
    by_cases hlt : k < ss.length
    · obtain ⟨a, rfl, hcell⟩ := (HRS.out.below HB.out).at_ k hlt
      have hs1 : (encs (ss.take (k + 1))).length = (encs (ss.take k)).length + (wid ss[k].size + 1 + ss[k].size) := by rw [encs_take ss k hlt, List.length_append, encS_length]
      have hs2 := encs_take_le ss (k + 1)
      rw [HL.out] at hs2
      have hs3 : (encs (ss.take k)).length + (wid ss[k].size + 1 + ss[k].size) ≤ L := by omega
      have hel := enc_length ss.length
      have HE := Lib.hid (encs_take ss k hlt)
      have HEL := Lib.hid hel
      clear hs1 hs2 hel
      generalize hs : ss[k] = s at *
      go_wp2_with fail
      refine (appendText_any _ (l ++ enc ss.length ++ encs (ss.take k)) s w.heap.size wr HO.out hsz (by rw [List.length_append, List.length_append, HEL.out]; omega)).mono ?_
      rintro e w3 ⟨v3, rfl, hown3, hb3⟩
      rw [List.append_assoc (l ++ enc ss.length), ← HE.out] at hown3
      have HO3 := Lib.hid hown3
      have HB3 : Hid (Below w.heap.size w w3) := HB.out.trans hb3
      clear hown3 hb3
      go_wp2
      go_roundw
      case rel => exact ⟨k + 1, by omega, by go_num, HO3, HB3⟩
      case measure => simp [intOf]; omega
    · obtain rfl : k = ss.length := by omega
      go_wp2
      go_ret
      refine ⟨_, rfl, ?_, HB.out⟩
      have h := HO.out
      rw [List.take_length, List.append_assoc] at h
      exact h
end Go.Proofs.Ytibapagfpadiiaa
