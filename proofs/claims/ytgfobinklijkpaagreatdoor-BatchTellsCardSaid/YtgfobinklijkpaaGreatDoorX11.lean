/-
  Texts ES NC ND NE NF NG.
-/
import Derived.Test.YtgfobinklijkpaaGreatDoorX01
import Derived.Test.YtgfobinklijkpaaGreatDoorX10
namespace Go.Proofs.YtgfobinklijkpaaGreatDoor
set_option maxRecDepth 100000
set_option maxHeartbeats 16000000
open Go.RowKit
set_option linter.unusedVariables false
theorem wid_div (m : Nat) (h0 : 0 < m) (h1 : m < 18446744073709551616) : wid m = wid (m / 256) + 1 := by
 rcases (show m < 256 ∨ (256 ≤ m ∧ m < 65536) ∨ (65536 ≤ m ∧ m < 16777216) ∨ (16777216 ≤ m ∧ m < 4294967296) ∨ (4294967296 ≤ m ∧ m < 1099511627776) ∨ (1099511627776 ≤ m ∧ m < 281474976710656) ∨ (281474976710656 ≤ m ∧ m < 72057594037927936) ∨ 72057594037927936 ≤ m from by omega) with h | h | h | h | h | h | h | h
 ·rw [wid_case m 1 (by omega), wid_case (m / 256) 0 (by omega)]
 ·rw [wid_case m 2 (by omega), wid_case (m / 256) 1 (by omega)]
 ·rw [wid_case m 3 (by omega), wid_case (m / 256) 2 (by omega)]
 ·rw [wid_case m 4 (by omega), wid_case (m / 256) 3 (by omega)]
 ·rw [wid_case m 5 (by omega), wid_case (m / 256) 4 (by omega)]
 ·rw [wid_case m 6 (by omega), wid_case (m / 256) 5 (by omega)]
 ·rw [wid_case m 7 (by omega), wid_case (m / 256) 6 (by omega)]
 ·rw [wid_case m 8 (by omega), wid_case (m / 256) 7 (by omega)]
theorem byte_mod (m : Nat) : ((UInt8.ofNat m).toNat : Int) = (m : Int) % 256 := by simp
theorem refSize_any (x : Int) (w : World) (h0 : 0 ≤ x) (h1 : x ≤ 18446744073709551615) : Calls Tryz.prog 68 #[.int .u64 x] w fun e w' => e = .returned (.int .i64 (1 + (wid x.toNat : Int))) ∧ w = w' := by
 have hwx := wid_le x.toNat
 go_enter Tryz.func68, Tryz.ntmps68
 go_wp2
 go_loop [0, 3] (fun n k => ∃ m j : Nat, (m : Int) ≤ 18446744073709551615 ∧ j ≤ 8 ∧ n = .int .u64 (m : Int) ∧ k = .int .i64 (1 + (j : Int)) ∧ Hid (wid x.toNat = wid m + j)) (fun n _ => (intOf n).toNat)
 case atStart => exact ⟨x.toNat, 0, by omega, by omega, by go_num, rfl, rfl⟩
 case round =>
  obtain ⟨m, j, hm, hj, rfl, rfl, HW⟩ := hrel
  by_cases hp : 0 < m
  ·have HD := lhd (wid_div m hp (by omega))
   have hj7 : j ≤ 7 := by have := HD.out; have := HW.out; omega
   go_wp2
   go_round
   case rel => exact ⟨m / 256, j + 1, by omega, by omega, by go_num, by go_num, by unfold Hid; have := HD.out; have := HW.out; omega⟩
   case measure => simp [intOf]; omega
  ·obtain rfl : m = 0 := by omega
   go_wp2
   go_ret
   exact ⟨ret_int (by have h := HW.out; rw [show wid 0 = 0 from rfl] at h; omega), rfl⟩
theorem refPut_any (v : Value) (l : List UInt8) (x : Int) (w : World) (hr : Rd w.heap.size w v l) (h0 : 0 ≤ x) (h1 : x ≤ 18446744073709551615) (hl : l.length ≤ 140737488350000) :
 Calls Tryz.prog 33 #[v, .int .u64 x] w (Gives w.heap.size (l ++ enc x.toNat) w) := by
 obtain ⟨i0, hi, hz0, hz1, hz2⟩ := info_parts info5
 have hwid := wid_le x.toNat
 have HR := lhd hr
 clear hr
 go_enter Tryz.func33, Tryz.ntmps33
 go_wp2_with (at_builtin; refine wpList_app rfl _ _ 92 rfl 5 i0 Tryz.underlying92 hi hz0 hz1 hz2 w.heap.size w.heap.size _ _ [] l rfl (Own.made 5 w) rfl (HR.out.below ((Below.refl _ _).alloc (Nat.le_refl _) _)) ?c1 ?c2 ?_)
 case c1 => simp; omega
 case c2 => simp
 intro v1 w1 hown1 hb1
 have HO1 : Hid (Own 5 w1 w.heap.size v1 l) := hown1
 have HB1 : Hid (Below w.heap.size w w1) := ((Below.refl _ _).alloc (Nat.le_refl _) _).trans hb1
 have hs1 := HB1.out.size
 clear hown1 hb1 HR
 go_wp2_with fail
 refine (refSize_any x w1 h0 h1).mono ?_
 rintro e w' ⟨rfl, rfl⟩
 go_wp2_with (at_builtin; refine wpList_app1 rfl _ _ 92 rfl 5 i0 Tryz.underlying92 hi hz0 hz1 hz2 w.heap.size v1 l (UInt8.ofNat (wid x.toNat)) ⟨w1.heap.size, 0, none⟩ rfl (HO1.out.alloc _) rfl ?d1 ?d2 ?d3 ?_)
 case d1 => simp; omega
 case d2 => omega
 case d3 => simp; omega
 intro v2 w2 hown2 hb2
 have HO2 := lhd hown2
 have HB2 : Hid (Below w.heap.size w w2) := (HB1.out.alloc hs1 _).trans hb2
 clear hown2 hb2 HO1
 go_wp2
 go_loopw [5, 7, 8, 9] (fun v i _ _ wr => ∃ k : Nat, k ≤ wid x.toNat ∧ i = .int .i64 ((k : Int) - 1) ∧ Hid (Own 5 wr w.heap.size v (l ++ [UInt8.ofNat (wid x.toNat)] ++ (be (wid x.toNat) x.toNat).take (wid x.toNat - k))) ∧ Hid (Below w.heap.size w wr))
  (fun _ i _ _ _ => (intOf i + 1).toNat)
 case atStart => exact ⟨wid x.toNat, Nat.le_refl _, by go_num, by have h := HO2.out; simpa [Hid] using h, HB2⟩
 case round =>
  obtain ⟨k, hk, rfl, HO, HB⟩ := hrel
  have hsz := HB.out.size
  by_cases hk0 : 0 < k
  ·obtain ⟨j, rfl⟩ : ∃ j, k = j + 1 := ⟨k - 1, by omega⟩
   rw [show ((j + 1 : Nat) : Int) - 1 = (j : Int) from by omega]
   have hlen : (List.take (wid x.toNat - (j + 1)) (be (wid x.toNat) x.toNat)).length ≤ 8 := by rw [List.length_take]; omega
   go_wp2
   go_loop [8, 9] (fun y q => ∃ p m : Nat, p ≤ j ∧ q = .int .i64 (p : Int) ∧ y = .int .u64 (m : Int) ∧ (m : Int) ≤ 18446744073709551615 ∧ Hid (m = x.toNat / 256 ^ p)) (fun _ q => j - (intOf q).toNat)
   case atStart => exact ⟨0, x.toNat, Nat.zero_le _, rfl, by go_num, by omega, by simp [Hid]⟩
   case round =>
    obtain ⟨p, m, hp, rfl, rfl, hm, HM⟩ := hrel
    by_cases hpj : p < j
    ·go_wp2
     go_round
     case rel => exact ⟨p + 1, m / 256, by omega, by go_num, by go_num, by omega, by unfold Hid; rw [HM.out, Nat.div_div_eq_div_mul, Nat.pow_succ]⟩
     case measure => simp [intOf]; omega
    ·obtain rfl : p = j := by omega
     have HBT := lhd (be_take _ _ x.toNat hk)
     have hb8 : ((UInt8.ofNat (x.toNat / 256 ^ p)).toNat : Int) = (m : Int) % 256 := by rw [← HM.out]; exact byte_mod m
     have HB8 := lhd hb8
     clear hb8
     generalize UInt8.ofNat (x.toNat / 256 ^ p) = b at *
     go_wp2_with (at_builtin; refine wpList_app1 rfl _ _ 92 rfl 5 i0 Tryz.underlying92 hi hz0 hz1 hz2 w.heap.size _ _ b ⟨wr.heap.size, 0, none⟩ rfl (HO.out.alloc _) rfl ?e1 ?e2 ?e3 ?_)
     case e1 => rw [HB8.out]
     case e2 => first | omega | (simp only [List.length_append, List.length_cons, List.length_nil]; omega)
     case e3 => first | omega | (simp; omega)
     intro v3 w3 hown3 hb3
     have HO3 : Hid (Own 5 w3 w.heap.size v3 (l ++ [UInt8.ofNat (wid x.toNat)] ++ (be (wid x.toNat) x.toNat).take (wid x.toNat - p))) := by
      rw [HBT.out]
      simpa [Hid] using hown3
     have HB3 : Hid (Below w.heap.size w w3) := (HB.out.alloc (by omega) _).trans hb3
     clear hown3 hb3 HO HB
     go_wp2
     go_roundw
     case rel => exact ⟨p, by omega, by go_num, HO3, HB3⟩
     case measure => simp [intOf]
  ·obtain rfl : k = 0 := by omega
   go_wp2
   go_ret
   refine ⟨_, rfl, ?_, HB.out⟩
   have h := HO.out
   rw [List.take_of_length_le (by rw [be_length]; omega), List.append_assoc] at h
   exact h
theorem refInt2_any (v : Value) (l : List UInt8) (n : Int) (w : World) (hr : Rd w.heap.size w v l) (h0 : -9223372036854775808 ≤ n) (h1 : n ≤ 9223372036854775807) (hl : l.length ≤ 140737488350000) :
 Calls Tryz.prog 71 #[v, .int .i64 n] w (Gives w.heap.size (l ++ enc (zig n).toNat) w) := by
 have HR := lhd hr
 clear hr
 by_cases hn : n < 0
 ·have hz : (2 * -(n + 1) + 1).toNat = (zig n).toNat := by unfold zig; rw [if_pos hn]; omega
  have HZ := lhd hz
  clear hz
  go_enter Tryz.func71, Tryz.ntmps71
  go_wp2_with fail
  refine (refPut_any v l (2 * -(n + 1) + 1) w HR.out (by omega) (by omega) hl).mono ?_
  rintro e w1 ⟨v1, rfl, hown1, hb1⟩
  rw [HZ.out] at hown1
  have HO := lhd hown1
  have HB := lhd hb1
  clear hown1 hb1
  go_wp2
  go_ret
  exact ⟨v1, rfl, HO.out, HB.out⟩
 ·have hz : (2 * n).toNat = (zig n).toNat := by unfold zig; rw [if_neg hn]
  have HZ := lhd hz
  clear hz
  go_enter Tryz.func71, Tryz.ntmps71
  go_wp2_with fail
  refine (refPut_any v l (2 * n) w HR.out (by omega) (by omega) hl).mono ?_
  rintro e w1 ⟨v1, rfl, hown1, hb1⟩
  rw [HZ.out] at hown1
  have HO := lhd hown1
  have HB := lhd hb1
  clear hown1 hb1
  go_wp2
  go_ret
  exact ⟨v1, rfl, HO.out, HB.out⟩
theorem refText2_any (v : Value) (l : List UInt8) (s : ByteArray) (w : World) (hr : Rd w.heap.size w v l) (hl : (l.length : Int) + s.size ≤ 140737488340000) :
 Calls Tryz.prog 72 #[v, .string s] w (Gives w.heap.size (l ++ encS s) w) := by
 obtain ⟨i0, hi, hz0, hz1, hz2⟩ := info_parts info5
 have hwid := wid_le s.size
 have HR := lhd hr
 clear hr
 go_enter Tryz.func72, Tryz.ntmps72
 go_wp2_with fail
 refine (refPut_any v l (s.size : Int) w HR.out (by omega) (by omega) (by omega)).mono ?_
 rintro e w1 ⟨v1, rfl, hown1, hb1⟩
 rw [Int.toNat_natCast] at hown1
 have HO1 := lhd hown1
 have HB := lhd hb1
 have hsz := hb1.size
 clear hown1 hb1
 go_wp2_with (at_builtin; refine wpList_apps rfl _ _ 92 9 rfl 5 i0 Tryz.underlying92 Tryz.underlying9 hi hz0 hz1 hz2 w.heap.size v1 _ s rfl HO1.out rfl ?c1 ?c2 ?_)
 case c1 => rw [List.length_append, enc_length]; omega
 case c2 => omega
 intro v2 w2 hown2 hb2
 have HO2 := lhd hown2
 have HB2 := lhd hb2
 clear hown2 hb2
 go_wp2
 go_ret
 exact ⟨v2, rfl, HO2.out, HB.out.trans HB2.out⟩
def IntsOf (B : Nat) (r : List Int × List UInt8 × Nat) (w : World) (e : Ending) (w' : World) : Prop :=
 ∃ vl vr, e = .returned (.tuple #[vl, vr, .int .i64 (r.2.2 : Int)]) ∧ RdE InK w'.heap.size w' vl r.1 ∧ Rd B w' vr r.2.1 ∧ Below w.heap.size w w'
theorem rfInts_any (v : Value) (l : List UInt8) (m B : Nat) (w : World) (hr : Rd B w v l) (hB : B ≤ w.heap.size) (hm : m ≤ 1000) : Calls Tryz.prog 77 #[v, .int .i64 (m : Int)] w (IntsOf B (takeIs m l) w) := by
 obtain ⟨G, hG⟩ : ∃ G, w.heap.size = G := ⟨_, rfl⟩
 have HG := lhd hG
 have HR : Hid (Rd B (w.alloc (.cells #[] 3)) v l) := hr.below ((Below.refl B w).alloc hB (.cells #[] 3))
 have HO0 : Hid (OwnE InK 3 (w.alloc (.cells #[] 3)) G (.slice (some ⟨G, 0, none⟩) 0 0) []) := by
  have := OwnE.empty (E := InK) 3 w G (by rw [hG]; exact Nat.le_refl _)
  rw [hG] at this
  exact this
 have HW0 : Hid (Below G w (w.alloc (.cells #[] 3))) := (Below.refl _ _).alloc (by rw [hG]; exact Nat.le_refl _) _
 have HT0 : Hid (preI [] (takeIs (m - 0) l) = takeIs m l) := preI_nil m l
 have HBG : Hid (B ≤ G) := by
  rw [hG] at hB
  exact hB
 clear hr hB
 go_enter Tryz.func77, Tryz.ntmps77
 go_wp2
 clear hG
 go_loopw [0, 7, 8] (fun b o x wr => ∃ (i : Nat) (lb : List UInt8) (acc : List Int), i ≤ m ∧ x = .int .i64 (i : Int) ∧ Hid (acc.length = i) ∧ Hid (Rd B wr b lb) ∧ Hid (OwnE InK 3 wr G o acc) ∧ Hid (preI acc (takeIs (m - i) lb) = takeIs m l) ∧ Hid (Below G w wr)) (fun _ _ x _ => m - (intOf x).toNat)
 case atStart => exact ⟨0, l, [], by omega, rfl, rfl, HR, HO0, HT0, HW0⟩
 case round =>
  obtain ⟨i, lb, acc, hi, rfl, HAL, HB, HO, HT, HW⟩ := hrel
  have hwr := HW.out.size
  rw [HG.out] at hwr
  clear HR HO0 HW0 HT0
  by_cases hi2 : i < m
  ·have zi : (i : Int) < (m : Int) := by omega
   obtain ⟨q1, hq1⟩ : ∃ q1, m - i = q1 + 1 := ⟨m - i - 1, by omega⟩
   rw [hq1] at HT
   have HQ : Hid (m - (i + 1) = q1) := by show _ = _; omega
   clear hq1
   go_wp2_with fail
   refine (refInt_any u0 lb B wr HB.out (Nat.le_trans HBG.out hwr)).mono ?_
   rintro e w2 ⟨vr, rfl, hrd, hb⟩
   obtain ⟨N9, R9, E9, hT9⟩ : ∃ a b c, takeN lb = (a, b, c) := ⟨_, _, _, rfl⟩
   rw [hT9] at hrd ⊢
   have HT9 := lhd hT9
   have HB2 : Hid (Rd B w2 vr R9) := hrd
   have HO2 := lhd (HO.out.below hb (Nat.le_refl _))
   have HW2 := lhd (HW.out.trans (hb.mono hwr))
   have hw2 : G ≤ w2.heap.size := Nat.le_trans hwr hb.size
   clear hrd hb hT9
   by_cases he : E9 = 0
   ·subst he
    obtain ⟨z9, hz9⟩ : ∃ z, zag N9 = z := ⟨_, rfl⟩
    have HZ9 := lhd hz9
    dsimp only
    rw [hz9]
    clear hz9
    have HO4 : Hid (OwnE InK 3 (w2.alloc (.cells #[.int .i64 z9] 3)) G u7 acc) := HO2.out.alloc _
    have HW4 : Hid (Below G w (w2.alloc (.cells #[.int .i64 z9] 3))) := HW2.out.alloc hw2 _
    have HB4 : Hid (Rd B (w2.alloc (.cells #[.int .i64 z9] 3)) vr R9) := HB2.out.below ((Below.refl _ _).alloc (Nat.le_trans HBG.out hw2) _)
    go_wp2_with (at_builtin; refine wpList_appE (E := InK) rfl _ _ 136 rfl 3 8 Tryz.underlying136 kindIn G _ _ _ acc [z9] rfl HO4.out rfl (RdE.one w2 3 z9) (by simp) ?d1 ?d2 ?d3 ?_)
    case d1 => have := HAL.out; (try simp only [List.length_cons, List.length_nil]); omega
    case d2 => have := HAL.out; (try simp only [List.length_cons, List.length_nil]); omega
    case d3 => first | exact hw2 | omega | exact Nat.le_trans hw2 (by simp)
    intro v5 w5 h5 hb5 hg5 _
    have HO5 := lhd h5
    have HW5 := lhd (HW4.out.trans hb5)
    have HB5 := lhd (HB4.out.below (hb5.mono HBG.out))
    have HT5 : Hid (preI (acc ++ [z9]) (takeIs (m - (i + 1)) R9) = takeIs m l) := by
     show _ = _
     rw [HQ.out, ← HZ9.out, ← preI_step acc q1 lb R9 N9 HT9.out]
     exact HT.out
    have HA5 : Hid ((acc ++ [z9]).length = i + 1) := by
     show _ = _
     simp [HAL.out]
    clear h5 hb5 hg5
    go_wp2
    go_roundw
    case rel => exact ⟨i + 1, R9, acc ++ [z9], by omega, by go_num, HA5, HB5, HO5, HT5, HW5⟩
    case measure => first | (simp [intOf]; done) | (simp [intOf]; omega)
   ·have hne : ((E9 : Int) != 0) = true := by rw [bne_iff_ne]; omega
    have HF : Hid (takeIs m l = ([], [], E9)) := by
     show _ = _
     have h1 := preI_stop acc q1 lb (by rw [HT9.out]; exact he)
     rw [HT9.out] at h1
     rw [← HT.out]
     exact h1
    clear he
    go_wp2
    go_ret3
    refine ⟨.slice none 0 0, .slice none 0 0, ?_, ?_, ?_, HW2.out.mono (by rw [HG.out]; exact Nat.le_refl _)⟩
    ·rw [HF.out]; rfl
    ·rw [HF.out]; exact RdE.nil _ _
    ·rw [HF.out]; exact Rd.nil _ _
  ·obtain rfl : i = m := by omega
   have HF : Hid (takeIs i l = (acc, lb, 0)) := by
    show _ = _
    rw [← HT.out, Nat.sub_self]
    simp [takeIs, preI]
   go_wp2
   go_ret3
   refine ⟨u7, u0, ?_, ?_, ?_, HW.out.mono (by rw [HG.out]; exact Nat.le_refl _)⟩
   ·rw [HF.out]; rfl
   ·rw [HF.out]; exact HO.out.rd
   ·rw [HF.out]; exact HB.out
def nsO (o : Or) : List Int := [oC o, oQ o, oK o, oR o, oS o, oT o]
theorem encI_len (n : Int) : (encI n).length ≤ 9 := by
 unfold encI
 rw [enc_length]
 have := wid_le (zig n).toNat
 omega
theorem encIs_len : ∀ l : List Int, (encIs l).length ≤ 9 * l.length
 | [] => Nat.zero_le _
 | n :: r => by
   have h1 := encI_len n
   have h2 := encIs_len r
   simp only [encIs, List.length_append, List.length_cons]
   omega
theorem encIs_take (l : List Int) (i : Nat) (hi : i < l.length) : encIs (l.take (i + 1)) = encIs (l.take i) ++ encI (l.getD i 0) := by
 rw [List.take_succ_eq_append_getElem hi, encIs_append, List.getD_eq_getElem?_getD, List.getElem?_eq_getElem hi]
 simp [encIs]
theorem encX_len (s : List UInt8) : (encX s).length ≤ 9 + s.length := by
 unfold encX
 rw [encS_length, ba_size]
 have := wid_le s.length
 omega
theorem rfPutO_any (v : Value) (l : List UInt8) (o : Or) (w : World) (hr : Rd w.heap.size w v l) (hf : ∀ n ∈ nsO o, fit64 n) (hl : l.length + (oP o).length + (oV o).length ≤ 1000000) : Calls Tryz.prog 35 #[v, .agg (orc o).toArray] w (Gives w.heap.size (l ++ encO o) w) := by
 have HR := lhd hr
 have HF := lhd hf
 have HL := lhd hl
 clear hr hf hl
 go_enter Tryz.func35, Tryz.ntmps35
 go_wp2_with (refine wpList_box_blk rfl 97 _ rfl (orc o) rfl ?_)
 intro y0 b1 b2 b3
 obtain ⟨gb0, hg⟩ : ∃ g, w.heap.size = g := ⟨_, rfl⟩
 have X0 := lhd b1
 have EB0 := lhd b3
 rw [hg] at X0 ⊢
 clear b1 b2 b3 hg
 have c_X0 := X0.out.at_ 0 _ rfl
 have c_X0_1 := X0.out.at_ 1 _ rfl
 have c_X0_2 := X0.out.at_ 2 _ rfl
 have c_X0_3 := X0.out.at_ 3 _ rfl
 have c_X0_4 := X0.out.at_ 4 _ rfl
 have c_X0_5 := X0.out.at_ 5 _ rfl
 have c_X0_6 := X0.out.at_ 6 _ rfl
 have c_X0_7 := X0.out.at_ 7 _ rfl
 have HCB := lhd (heap_alloc_new y0 (.cells (rowsE InK (nsO o)).toArray 3))
 obtain ⟨gC, hgC⟩ : ∃ g, y0.heap.size = g := ⟨_, rfl⟩
 have HBL : Hid (Below y0.heap.size y0 (y0.alloc (.cells (rowsE InK (nsO o)).toArray 3))) := (Below.refl _ _).alloc (Nat.le_refl _) _
 have RC : Hid (RdE InK (y0.alloc (.cells (rowsE InK (nsO o)).toArray 3)).heap.size (y0.alloc (.cells (rowsE InK (nsO o)).toArray 3)) (.slice (some ⟨gC, 0, none⟩) 6 6) (nsO o)) := by
  have h := RdE.ofBlks (E := InK) (l := nsO o) HCB.out (by show (6 : Nat) ≤ _; decide)
  rw [hgC] at h
  exact h.more (by simp; omega)
 have HB0 : Hid (Rd (y0.alloc (.cells (rowsE InK (nsO o)).toArray 3)).heap.size (y0.alloc (.cells (rowsE InK (nsO o)).toArray 3)) v (l ++ encIs ((nsO o).take 0))) := by
  show Rd _ _ _ _
  rw [show l ++ encIs ((nsO o).take 0) = l by simp [encIs]]
  exact (((HR.out.below EB0.out).more EB0.out.size).below HBL.out).more HBL.out.size
 go_wp2
 obtain ⟨WA, hWA⟩ : ∃ W9, (y0.alloc (.cells (rowsE InK (nsO o)).toArray 3)) = W9 := ⟨_, rfl⟩
 rw [hWA] at HBL RC HB0
 obtain ⟨aC, haC⟩ : ∃ a, (⟨gC, 0, none⟩ : Addr) = a := ⟨_, rfl⟩
 rw [haC] at RC ⊢
 clear HCB hgC haC c_X0 c_X0_1 c_X0_2 c_X0_3 c_X0_4 c_X0_5 c_X0_6 c_X0_7
 have P1_w := lhd (EB0.out.trans (HBL.out.mono EB0.out.size))
 go_loopw [0, 6] (fun b x wr => ∃ i : Nat, i ≤ 6 ∧ x = .int .i64 (i : Int) ∧ Hid (Rd wr.heap.size wr b (l ++ encIs ((nsO o).take i))) ∧ Hid (Below WA.heap.size WA wr)) (fun _ x _ => 6 - (intOf x).toNat)
 case atStart =>
  subst hWA
  exact ⟨0, by omega, rfl, HB0, Below.refl _ _⟩
 case round =>
  obtain ⟨i, hi, rfl, HB, EL⟩ := hrel
  obtain ⟨wO, rfl⟩ : ∃ q, q = wr := ⟨_, rfl⟩
  clear HB0 hWA
  have P2_w := lhd (P1_w.out.trans (EL.out.mono P1_w.out.size))
  clear P1_w
  have P2_y0 := lhd (HBL.out.trans (EL.out.mono HBL.out.size))
  by_cases hi2 : i < 6
  ·have zi : (i : Int) < 6 := by omega
   obtain ⟨a, hA, c0⟩ := ((RC.out.below EL.out).more EL.out.size).at1 i hi2
   obtain ⟨n9, hn9⟩ : ∃ n, (nsO o).getD i 0 = n := ⟨_, rfl⟩
   have HT := lhd (encIs_take (nsO o) i hi2)
   have HN : Hid (fit64 n9) := by
    show fit64 _
    rw [← hn9]
    refine HF.out _ ?_
    rw [List.getD_eq_getElem?_getD, List.getElem?_eq_getElem (show i < (nsO o).length from hi2)]
    exact List.getElem_mem _
   rw [hn9] at c0 HT
   clear hn9
   have HLL : Hid ((l ++ encIs ((nsO o).take i)).length ≤ 2000000) := by
    show _ ≤ _
    have h1 := encIs_len ((nsO o).take i)
    have h2 := List.length_take_le i (nsO o)
    have h3 := HL.out
    rw [List.length_append]
    omega
   obtain rfl : aC = a := Option.some.inj hA
   clear hA
   go_wp2_with fail
   refine (refInt2_any u0 (l ++ encIs ((nsO o).take i)) n9 wO HB.out HN.out.1 HN.out.2 (by have := HLL.out; omega)).mono ?_
   rintro e w3 ⟨v3, rfl, hown, hb⟩
   have HB3 : Hid (Rd w3.heap.size w3 v3 (l ++ encIs ((nsO o).take (i + 1)))) := by
    show Rd _ _ _ _
    rw [HT.out, ← List.append_assoc]
    exact hown.rd
   have EL3 := lhd (EL.out.trans (hb.mono EL.out.size))
   clear hown hb c0
   go_wp2
   go_roundw
   case rel => exact ⟨i + 1, by omega, by go_num, HB3, EL3⟩
   case measure => first | (simp [intOf]; done) | (simp [intOf]; omega)
  obtain rfl : i = 6 := by omega
  have HLL : Hid ((l ++ encIs (nsO o)).length ≤ l.length + 54) := by
   show _ ≤ _
   have h1 := encIs_len (nsO o)
   rw [List.length_append]
   have h2 : (nsO o).length = 6 := rfl
   omega
  have HB6 : Hid (Rd wO.heap.size wO u0 (l ++ encIs (nsO o))) := HB.out
  clear HB
  have c_X0 := (X0.out.below P2_y0.out X0.out.lt).at_ 0 _ rfl
  have c_X0_1 := (X0.out.below P2_y0.out X0.out.lt).at_ 1 _ rfl
  have c_X0_2 := (X0.out.below P2_y0.out X0.out.lt).at_ 2 _ rfl
  have c_X0_3 := (X0.out.below P2_y0.out X0.out.lt).at_ 3 _ rfl
  have c_X0_4 := (X0.out.below P2_y0.out X0.out.lt).at_ 4 _ rfl
  have c_X0_5 := (X0.out.below P2_y0.out X0.out.lt).at_ 5 _ rfl
  have c_X0_6 := (X0.out.below P2_y0.out X0.out.lt).at_ 6 _ rfl
  have c_X0_7 := (X0.out.below P2_y0.out X0.out.lt).at_ 7 _ rfl
  go_wp2_with fail
  refine (refText2_any u0 (l ++ encIs (nsO o)) (ba (oP o)) wO HB6.out (by have h1 := HLL.out; have h2 := HL.out; rw [ba_size]; omega)).mono ?_
  rintro e w4 ⟨v4, rfl, hown, hb⟩
  have H4 := lhd hown.rd
  have E4 := lhd hb
  clear hown hb c_X0 c_X0_1 c_X0_2 c_X0_3 c_X0_4 c_X0_5 c_X0_6 c_X0_7
  have P3_w := lhd (P2_w.out.trans (E4.out.mono P2_w.out.size))
  clear P2_w
  have P3_y0 := lhd (P2_y0.out.trans (E4.out.mono P2_y0.out.size))
  clear P2_y0
  have P3_WA := lhd (EL.out.trans (E4.out.mono EL.out.size))
  have hs4 : w.heap.size ≤ w4.heap.size := P3_w.out.size
  have c_X0 := (X0.out.below P3_y0.out X0.out.lt).at_ 0 _ rfl
  have c_X0_1 := (X0.out.below P3_y0.out X0.out.lt).at_ 1 _ rfl
  have c_X0_2 := (X0.out.below P3_y0.out X0.out.lt).at_ 2 _ rfl
  have c_X0_3 := (X0.out.below P3_y0.out X0.out.lt).at_ 3 _ rfl
  have c_X0_4 := (X0.out.below P3_y0.out X0.out.lt).at_ 4 _ rfl
  have c_X0_5 := (X0.out.below P3_y0.out X0.out.lt).at_ 5 _ rfl
  have c_X0_6 := (X0.out.below P3_y0.out X0.out.lt).at_ 6 _ rfl
  have c_X0_7 := (X0.out.below P3_y0.out X0.out.lt).at_ 7 _ rfl
  go_wp2_with fail
  refine (refText2_any v4 (l ++ encIs (nsO o) ++ encS (ba (oP o))) (ba (oV o)) w4 H4.out (by have h1 := HLL.out; have h2 := HL.out; have h3 : (encS (ba (oP o))).length ≤ 9 + (oP o).length := encX_len (oP o); rw [ba_size, List.length_append]; omega)).mono ?_
  rintro e w5 ⟨v5, rfl, hown, hb⟩
  have H5 := lhd hown
  have E5 := lhd hb
  clear hown hb c_X0 c_X0_1 c_X0_2 c_X0_3 c_X0_4 c_X0_5 c_X0_6 c_X0_7
  have P4_w := lhd (P3_w.out.trans (E5.out.mono P3_w.out.size))
  clear P3_w
  have P4_y0 := lhd (P3_y0.out.trans (E5.out.mono P3_y0.out.size))
  clear P3_y0
  have P4_WA := lhd (P3_WA.out.trans (E5.out.mono P3_WA.out.size))
  clear P3_WA
  have P4_wO := lhd (E4.out.trans (E5.out.mono E4.out.size))
  go_wp2
  go_ret
  refine ⟨_, rfl, ?_, P4_w.out⟩
  have h := H5.out.base hs4
  have e : l ++ encO o = l ++ encIs (nsO o) ++ encS (ba (oP o)) ++ encS (ba (oV o)) := by simp [encO, nsO, encX, List.append_assoc]
  rw [e]
  exact h
def rpc (r : Rp) (nv : Value) : List Value := [.int .i64 (pC r), .int .i64 (pQ r), .int .i64 (pE r), txt (pV r), .int .i64 (pR r), nv]
theorem rfInIs (s : List UInt8) (d : UInt8) (x : Int) (b : Bool) (hx : x = (d.toNat : Int)) (h : s.contains d = b) (w : World) (hs : s.length ≤ 1000000) : Calls Tryz.prog 70 #[txt s, .int .u8 x] w (One (.bool b) w) := by
 subst hx
 rw [← h]
 exact rfIn_any s d w hs
theorem uses_len (k : Int) : (usesT k).length ≤ 3 := by
 unfold usesT
 repeat (split; · simp)
 simp
theorem orc_cells {w : World} {g : Nat} {o : Or} {t : TypeId} (h : Blk w g (orc o) t) : w.cell? ⟨g, 0, none⟩ = some (.int .i64 (oC o)) ∧ w.cell? ⟨g, 1, none⟩ = some (.int .i64 (oQ o)) ∧ w.cell? ⟨g, 2, none⟩ = some (.int .i64 (oK o)) ∧ w.cell? ⟨g, 3, none⟩ = some (txt (oP o)) ∧
 w.cell? ⟨g, 4, none⟩ = some (txt (oV o)) ∧ w.cell? ⟨g, 5, none⟩ = some (.int .i64 (oR o)) ∧ w.cell? ⟨g, 6, none⟩ = some (.int .i64 (oS o)) ∧ w.cell? ⟨g, 7, none⟩ = some (.int .i64 (oT o)) :=
 ⟨h.at_ 0 _ rfl, h.at_ 1 _ rfl, h.at_ 2 _ rfl, h.at_ 3 _ rfl, h.at_ 4 _ rfl, h.at_ 5 _ rfl, h.at_ 6 _ rfl, h.at_ 7 _ rfl⟩
theorem may_bad {o : Or} {B : Bool} {kp kv : Nat} (hB : mayO o = B) (hp : (oP o).length = kp) (hv : (oV o).length = kv) (h : ¬ (0 ≤ oC o ∧ oC o ≤ 1000 ∧ 1 ≤ oQ o ∧ oQ o ≤ 1000000000 ∧ 0 ≤ oK o ∧ oK o ≤ 11 ∧ kp ≤ 100 ∧ kv ≤ 1000)) : B = false := by
 rw [← hB, Bool.eq_false_iff]
 intro hm
 have := may_sized hm
 rw [hp, hv] at this
 exact h this
theorem tri (C : Bool) (p : Prop) [Decidable p] : C = true ∨ (C = false ∧ p) ∨ (C = false ∧ ¬ p) := by
 by_cases h : p <;> cases C <;> simp [h]
set_option maxRecDepth 1000000 in
theorem rfMayO_any (o : Or) (w : World) : Calls Tryz.prog 34 #[.agg (orc o).toArray] w (One (.bool (mayO o)) w) := by
 obtain ⟨B, hB⟩ : ∃ B, mayO o = B := ⟨_, rfl⟩
 have HB := lhd hB
 rw [hB]
 obtain ⟨kp, hkp⟩ : ∃ k, (oP o).length = k := ⟨_, rfl⟩
 have hkz : (⟨(oP o).toArray⟩ : ByteArray).size = kp := hkp
 obtain ⟨kv, hkv⟩ : ∃ k, (oV o).length = k := ⟨_, rfl⟩
 have hvz : (⟨(oV o).toArray⟩ : ByteArray).size = kv := hkv
 have HKP := lhd hkp
 have HKV := lhd hkv
 clear hB hkp hkv
 go_enter Tryz.func34, Tryz.ntmps34
 go_wp2_with (refine wpList_box_blk rfl 97 _ rfl (orc o) rfl ?_)
 intro y0 b1 b2 b3
 obtain ⟨g, hg⟩ : ∃ g, w.heap.size = g := ⟨_, rfl⟩
 have X0 := lhd b1
 have E := lhd b3
 have hs := lhd (show w.heap.size ≤ y0.heap.size by omega)
 rw [hg] at X0 ⊢
 clear b1 b2 b3 hg
 obtain ⟨c0, c1, c2, c3, c4, c5, c6, c7⟩ := orc_cells X0.out
 by_cases h0 : oC o < 0
 ·have HF := lhd (may_bad HB.out HKP.out HKV.out (by omega))
  go_wp2
  go_ret
  exact ⟨by rw [HF.out]; rfl, E.out⟩
 by_cases h1 : (1000 : Int) < oC o
 ·have HF := lhd (may_bad HB.out HKP.out HKV.out (by omega))
  go_wp2
  go_ret
  exact ⟨by rw [HF.out]; rfl, E.out⟩
 by_cases h2 : oQ o < 1
 ·have HF := lhd (may_bad HB.out HKP.out HKV.out (by omega))
  go_wp2
  go_ret
  exact ⟨by rw [HF.out]; rfl, E.out⟩
 by_cases h3 : (1000000000 : Int) < oQ o
 ·have HF := lhd (may_bad HB.out HKP.out HKV.out (by omega))
  go_wp2
  go_ret
  exact ⟨by rw [HF.out]; rfl, E.out⟩
 by_cases h4 : oK o < 0
 ·have HF := lhd (may_bad HB.out HKP.out HKV.out (by omega))
  go_wp2
  go_ret
  exact ⟨by rw [HF.out]; rfl, E.out⟩
 by_cases h5 : (11 : Int) < oK o
 ·have HF := lhd (may_bad HB.out HKP.out HKV.out (by omega))
  go_wp2
  go_ret
  exact ⟨by rw [HF.out]; rfl, E.out⟩
 by_cases h6 : (100 : Int) < (kp : Int)
 ·have HF := lhd (may_bad HB.out HKP.out HKV.out (by omega))
  go_wp2
  go_ret
  exact ⟨by rw [HF.out]; rfl, E.out⟩
 by_cases h7 : (1000 : Int) < (kv : Int)
 ·have HF := lhd (may_bad HB.out HKP.out HKV.out (by omega))
  go_wp2
  go_ret
  exact ⟨by rw [HF.out]; rfl, E.out⟩
 have HSZ : Hid (sizedO o = true) := by
  show _ = _
  have h9 := HKP.out
  have h10 := HKV.out
  unfold sizedO
  simp only [Bool.and_eq_true, decide_eq_true_eq]
  omega
 obtain ⟨U, hU⟩ : ∃ U, usesT (oK o) = U := ⟨_, rfl⟩
 have HU := lhd hU
 have HUL : Hid (U.length ≤ 1000000) := by
  show _ ≤ _
  rw [← hU]
  have := uses_len (oK o)
  omega
 clear hU
 go_wp2_with fail
 refine (rfUses_any (oK o) y0).mono ?_
 rintro e W0 ⟨rfl, hb⟩
 have X := lhd (X0.out.below hb X0.out.lt)
 have E := lhd (E.out.trans (hb.mono hs.out))
 have hs := lhd (Nat.le_trans hs.out hb.size)
 rw [HU.out]
 clear hb X0 c0 c1 c2 c3 c4 c5 c6 c7 h0 h1 h2 h3 h4 h5 h6 h7
 all_goals obtain ⟨C, hC⟩ : ∃ b, U.contains 112 = b := ⟨_, rfl⟩
 all_goals have HC := lhd hC
 all_goals clear hC
 all_goals obtain ⟨c0, c1, c2, c3, c4, c5, c6, c7⟩ := orc_cells X.out
 all_goals go_wp2_with fail
 all_goals refine (rfInIs U 112 112 C (by decide) HC.out W0 HUL.out).mono ?_
 all_goals rintro e W1 ⟨rfl, hb⟩
 all_goals have X := lhd (X.out.below hb X.out.lt)
 all_goals have E := lhd (E.out.trans (hb.mono hs.out))
 all_goals have hs := lhd (Nat.le_trans hs.out hb.size)
 all_goals clear hb c0 c1 c2 c3 c4 c5 c6 c7
 all_goals try clear hz
 all_goals obtain ⟨c0, c1, c2, c3, c4, c5, c6, c7⟩ := orc_cells X.out
 all_goals obtain h | ⟨h, hn⟩ | ⟨h, hn⟩ : C = true ∨ (C = false ∧ oP o = []) ∨ (C = false ∧ ¬ oP o = []) := tri C _
 all_goals subst h
 all_goals first
  | (have HF : Hid (B = false) := by
      show _ = _
      rw [← HB.out]
      unfold mayO usedO
      rw [HU.out, show (U.contains 112 || decide (oP o = [])) = false by rw [HC.out, decide_eq_false hn]; rfl]
      simp
     have hz : (oP o).isEmpty = false := by simpa [List.isEmpty_iff] using hn
     clear hn
     go_wp2
     go_ret
     exact ⟨by rw [HF.out]; rfl, E.out⟩)
  | (have HQ0 : Hid ((U.contains 112 || decide (oP o = [])) = true) := by
      show _ = _
      rw [HC.out, hn]; simp
     have hz : (oP o).isEmpty = true := by rw [hn]; rfl
     clear hn HC c0 c1 c2 c3 c4 c5 c6 c7)
  | (have HQ0 : Hid ((U.contains 112 || decide (oP o = [])) = true) := by
      show _ = _
      rw [HC.out, Bool.true_or]
     clear HC c0 c1 c2 c3 c4 c5 c6 c7)
 all_goals obtain ⟨C, hC⟩ : ∃ b, U.contains 118 = b := ⟨_, rfl⟩
 all_goals have HC := lhd hC
 all_goals clear hC
 all_goals obtain ⟨c0, c1, c2, c3, c4, c5, c6, c7⟩ := orc_cells X.out
 all_goals go_wp2_with fail
 all_goals refine (rfInIs U 118 118 C (by decide) HC.out W1 HUL.out).mono ?_
 all_goals rintro e W2 ⟨rfl, hb⟩
 all_goals have X := lhd (X.out.below hb X.out.lt)
 all_goals have E := lhd (E.out.trans (hb.mono hs.out))
 all_goals have hs := lhd (Nat.le_trans hs.out hb.size)
 all_goals clear hb c0 c1 c2 c3 c4 c5 c6 c7
 all_goals try clear hz
 all_goals obtain ⟨c0, c1, c2, c3, c4, c5, c6, c7⟩ := orc_cells X.out
 all_goals obtain h | ⟨h, hn⟩ | ⟨h, hn⟩ : C = true ∨ (C = false ∧ oV o = []) ∨ (C = false ∧ ¬ oV o = []) := tri C _
 all_goals subst h
 all_goals first
  | (have HF : Hid (B = false) := by
      show _ = _
      rw [← HB.out]
      unfold mayO usedO
      rw [HU.out, show (U.contains 118 || decide (oV o = [])) = false by rw [HC.out, decide_eq_false hn]; rfl]
      simp
     have hz : (oV o).isEmpty = false := by simpa [List.isEmpty_iff] using hn
     clear hn
     go_wp2
     go_ret
     exact ⟨by rw [HF.out]; rfl, E.out⟩)
  | (have HQ1 : Hid ((U.contains 118 || decide (oV o = [])) = true) := by
      show _ = _
      rw [HC.out, hn]; simp
     have hz : (oV o).isEmpty = true := by rw [hn]; rfl
     clear hn HC c0 c1 c2 c3 c4 c5 c6 c7)
  | (have HQ1 : Hid ((U.contains 118 || decide (oV o = [])) = true) := by
      show _ = _
      rw [HC.out, Bool.true_or]
     clear HC c0 c1 c2 c3 c4 c5 c6 c7)
 all_goals obtain ⟨C, hC⟩ : ∃ b, U.contains 110 = b := ⟨_, rfl⟩
 all_goals have HC := lhd hC
 all_goals clear hC
 all_goals obtain ⟨c0, c1, c2, c3, c4, c5, c6, c7⟩ := orc_cells X.out
 all_goals go_wp2_with fail
 all_goals refine (rfInIs U 110 110 C (by decide) HC.out W2 HUL.out).mono ?_
 all_goals rintro e W3 ⟨rfl, hb⟩
 all_goals have X := lhd (X.out.below hb X.out.lt)
 all_goals have E := lhd (E.out.trans (hb.mono hs.out))
 all_goals have hs := lhd (Nat.le_trans hs.out hb.size)
 all_goals clear hb c0 c1 c2 c3 c4 c5 c6 c7
 all_goals try clear hz
 all_goals obtain ⟨c0, c1, c2, c3, c4, c5, c6, c7⟩ := orc_cells X.out
 all_goals obtain h | ⟨h, hn⟩ | ⟨h, hn⟩ : C = true ∨ (C = false ∧ oR o = 0) ∨ (C = false ∧ ¬ oR o = 0) := tri C _
 all_goals subst h
 all_goals first
  | (have HF : Hid (B = false) := by
      show _ = _
      rw [← HB.out]
      unfold mayO usedO
      rw [HU.out, show (U.contains 110 || decide (oR o = 0)) = false by rw [HC.out, decide_eq_false hn]; rfl]
      simp
     have hz : (oR o == 0) = false := by rw [beq_eq_false_iff_ne]; exact hn
     clear hn
     go_wp2
     go_ret
     exact ⟨by rw [HF.out]; rfl, E.out⟩)
  | (have HQ2 : Hid ((U.contains 110 || decide (oR o = 0)) = true) := by
      show _ = _
      rw [HC.out, hn]; simp
     have hz : (oR o == 0) = true := by rw [hn]; rfl
     clear hn HC c0 c1 c2 c3 c4 c5 c6 c7)
  | (have HQ2 : Hid ((U.contains 110 || decide (oR o = 0)) = true) := by
      show _ = _
      rw [HC.out, Bool.true_or]
     clear HC c0 c1 c2 c3 c4 c5 c6 c7)
 all_goals obtain ⟨C, hC⟩ : ∃ b, U.contains 115 = b := ⟨_, rfl⟩
 all_goals have HC := lhd hC
 all_goals clear hC
 all_goals obtain ⟨c0, c1, c2, c3, c4, c5, c6, c7⟩ := orc_cells X.out
 all_goals go_wp2_with fail
 all_goals refine (rfInIs U 115 115 C (by decide) HC.out W3 HUL.out).mono ?_
 all_goals rintro e W4 ⟨rfl, hb⟩
 all_goals have X := lhd (X.out.below hb X.out.lt)
 all_goals have E := lhd (E.out.trans (hb.mono hs.out))
 all_goals have hs := lhd (Nat.le_trans hs.out hb.size)
 all_goals clear hb c0 c1 c2 c3 c4 c5 c6 c7
 all_goals try clear hz
 all_goals obtain ⟨c0, c1, c2, c3, c4, c5, c6, c7⟩ := orc_cells X.out
 all_goals obtain h | ⟨h, hn⟩ | ⟨h, hn⟩ : C = true ∨ (C = false ∧ oS o = 0) ∨ (C = false ∧ ¬ oS o = 0) := tri C _
 all_goals subst h
 all_goals first
  | (have HF : Hid (B = false) := by
      show _ = _
      rw [← HB.out]
      unfold mayO usedO
      rw [HU.out, show (U.contains 115 || decide (oS o = 0)) = false by rw [HC.out, decide_eq_false hn]; rfl]
      simp
     have hz : (oS o == 0) = false := by rw [beq_eq_false_iff_ne]; exact hn
     clear hn
     go_wp2
     go_ret
     exact ⟨by rw [HF.out]; rfl, E.out⟩)
  | (have HQ3 : Hid ((U.contains 115 || decide (oS o = 0)) = true) := by
      show _ = _
      rw [HC.out, hn]; simp
     have hz : (oS o == 0) = true := by rw [hn]; rfl
     clear hn HC c0 c1 c2 c3 c4 c5 c6 c7)
  | (have HQ3 : Hid ((U.contains 115 || decide (oS o = 0)) = true) := by
      show _ = _
      rw [HC.out, Bool.true_or]
     clear HC c0 c1 c2 c3 c4 c5 c6 c7)
 all_goals obtain ⟨C, hC⟩ : ∃ b, U.contains 116 = b := ⟨_, rfl⟩
 all_goals have HC := lhd hC
 all_goals clear hC
 all_goals obtain ⟨c0, c1, c2, c3, c4, c5, c6, c7⟩ := orc_cells X.out
 all_goals go_wp2_with fail
 all_goals refine (rfInIs U 116 116 C (by decide) HC.out W4 HUL.out).mono ?_
 all_goals rintro e W5 ⟨rfl, hb⟩
 all_goals have X := lhd (X.out.below hb X.out.lt)
 all_goals have E := lhd (E.out.trans (hb.mono hs.out))
 all_goals have hs := lhd (Nat.le_trans hs.out hb.size)
 all_goals clear hb c0 c1 c2 c3 c4 c5 c6 c7
 all_goals try clear hz
 all_goals obtain ⟨c0, c1, c2, c3, c4, c5, c6, c7⟩ := orc_cells X.out
 all_goals obtain h | ⟨h, hn⟩ | ⟨h, hn⟩ : C = true ∨ (C = false ∧ oT o = 0) ∨ (C = false ∧ ¬ oT o = 0) := tri C _
 all_goals subst h
 all_goals first
  | (have HF : Hid (B = false) := by
      show _ = _
      rw [← HB.out]
      unfold mayO usedO
      rw [HU.out, show (U.contains 116 || decide (oT o = 0)) = false by rw [HC.out, decide_eq_false hn]; rfl]
      simp
     have hz : (oT o == 0) = false := by rw [beq_eq_false_iff_ne]; exact hn
     clear hn
     go_wp2
     go_ret
     exact ⟨by rw [HF.out]; rfl, E.out⟩)
  | (have HQ4 : Hid ((U.contains 116 || decide (oT o = 0)) = true) := by
      show _ = _
      rw [HC.out, hn]; simp
     have hz : (oT o == 0) = true := by rw [hn]; rfl
     clear hn HC c0 c1 c2 c3 c4 c5 c6 c7)
  | (have HQ4 : Hid ((U.contains 116 || decide (oT o = 0)) = true) := by
      show _ = _
      rw [HC.out, Bool.true_or]
     clear HC c0 c1 c2 c3 c4 c5 c6 c7)
 all_goals (have HF : Hid (B = true) := by
              show _ = _
              rw [← HB.out]
              unfold mayO usedO
              rw [HU.out, HQ0.out, HQ1.out, HQ2.out, HQ3.out, HQ4.out, HSZ.out]
              rfl)
 all_goals obtain ⟨c0, c1, c2, c3, c4, c5, c6, c7⟩ := orc_cells X.out
 all_goals go_wp2
 all_goals go_ret
 all_goals exact ⟨by rw [HF.out]; rfl, E.out⟩
end Go.Proofs.YtgfobinklijkpaaGreatDoor
