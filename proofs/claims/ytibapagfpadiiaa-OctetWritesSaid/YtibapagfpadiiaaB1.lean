/-
  OctetWrites: the walk.
-/
import Derived.Test.YtibapagfpadiiaaB6
import Derived.Test.YtibapagfpadiiaaR3
import Derived.Test.YtibapagfpadiiaaStep
import Derived.Test.YtibapagfpadiiaaB3
import Derived.Deep.DeepCutAuto
namespace Go.Proofs.Ytibapagfpadiiaa
open Go.RowKit
set_option linter.unusedVariables false
attribute [local go_sem ↓] Go.wp_at_zero Go.wp_at_succ

theorem Rd.drew {B : Nat} {w : World} {v : Value} {l : List UInt8} (h : Rd B w v l) : Rd B w.drew v l := h
theorem RdS.drew {B : Nat} {w : World} {v : Value} {l : List ByteArray} (h : RdS B w v l) : RdS B w.drew v l := h

set_option maxRecDepth 100000 in
set_option maxHeartbeats 8000000 in
theorem writes_walk (v vl : Value) (l : List UInt8) (n : Nat) (ss : List ByteArray) (w : World) (hr : Rd w.heap.size w v l) (hrs : RdS w.heap.size w vl ss) (hx1 : (n : Int) ≤ 18446744073709551615)
    (hs : ∀ s ∈ ss, s.size ≤ 140737488355328) (hlen : ss.length ≤ 140737488355328) (hll : l.length ≤ 140737488355328) :
    Calls Try.prog 3 #[v, .int .u64 (n : Int), vl] w (TrueStays w) := by
  obtain ⟨i0, hi, hz0, hz1, hz2⟩ := info_parts info5
  obtain ⟨A, c, hv, _, hcm⟩ := hr.shape
  obtain ⟨As, cs, hvs, _, hcms⟩ := hrs.shape
  unfold maxLen at hcm hcms
  rw [hv] at hr ⊢
  rw [hvs] at hrs ⊢
  have HM := Lib.hid hr
  have HL := Lib.hid hrs
  have HS := Lib.hid hs
  clear hr hv hrs hvs hs
  go_enter Try.func3, Try.ntmps3
  go_wp2
  go_loop [7, 8] (fun t i => ∃ k T : Nat, k ≤ ss.length ∧ i = .int .i64 k ∧ t = .int .i64 T ∧ T ≤ 140737488355328 ∧ (k = 0 ∨ T ≤ 4000) ∧ Hid (T = l.length + tot (ss.take k))) (fun _ i => ss.length - (intOf i).toNat)
  case atStart => exact ⟨0, l.length, Nat.zero_le _, rfl, rfl, hll, .inl rfl, rfl⟩
  case round =>
    obtain ⟨k, T, hk, rfl, rfl, hT, hT4, HT⟩ := hrel
    by_cases hlt : k < ss.length
    · obtain ⟨a, rfl, hcell⟩ := HL.out.at_ k hlt
      have hsz := HS.out ss[k] (List.getElem_mem hlt)
      have HT2 := Lib.hid (tot_take ss k hlt)
      have H4 := Lib.hid hT4
      clear hT4
      generalize ss[k] = s at *
      by_cases hbig : 4000 < (T : Int) + (s.size : Int) + 9
      · go_wp2_with fail
        refine (alive_any w).mono ?_
        rintro e w1 ⟨rfl, hb1⟩
        go_wp2
        go_ret
        exact ⟨rfl, hb1⟩
      · have hbig2 : (T : Int) + (s.size : Int) + 9 ≤ 4000 := by omega
        clear hbig
        go_wp2
        go_round
        case rel => exact ⟨k + 1, T + s.size + 9, by omega, by go_num, by go_num, by omega, .inr (by omega), by unfold Hid; rw [HT2.out, HT.out]; omega⟩
        case measure => simp [intOf]; omega
    · obtain rfl : k = ss.length := by omega
      have H4 := Lib.hid hT4
      clear hT4
      by_cases hbig : 4000 < (T : Int)
      · go_wp2_with fail
        refine (alive_any w).mono ?_
        rintro e w1 ⟨rfl, hb1⟩
        go_wp2
        go_ret
        exact ⟨rfl, hb1⟩
      · have hbig2 : (T : Int) ≤ 4000 := by omega
        clear hbig
        have hl4 : l.length ≤ 4000 := by have := HT.out; omega
        have ht4 : l.length + tot ss ≤ 4000 := by have h := HT.out; rw [List.take_length] at h; omega
        have HT4 := Lib.hid ht4
        clear ht4
        go_wp2_with (at_builtin; refine wpList_app rfl _ _ 22 rfl 5 i0 Try.underlying22 hi hz0 hz1 hz2 w.heap.size w.heap.size _ _ [] l rfl (Own.made 5 w) rfl (HM.out.below ((Below.refl _ _).alloc (Nat.le_refl _) _)) (by simp; omega) (by simp) ?_)
        intro v1 w1 hown1 hb1
        have HO1 : Hid (Own 5 w1 w.heap.size v1 l) := hown1
        have HF1 : Hid (Below w.heap.size w w1) := ((Below.refl _ _).alloc (Nat.le_refl _) _).trans hb1
        have hs1 := HF1.out.size
        clear hown1 hb1
        go_upto_if 40 with (fail)
        go_cut [10] (fun s10 wx => ∃ s : ByteArray, s10 = .string s ∧ s.size ≤ 4000 ∧ wx = w1)
        case first =>
          by_cases hne : 0 < ss.length
          · obtain ⟨a, rfl, hcell⟩ := (HL.out.below HF1.out).at_ 0 hne
            have hsz : ss[0].size ≤ 4000 := by have := le_mx ss ss[0] (List.getElem_mem hne); have := mx_tot ss; have := HT4.out; omega
            generalize ss[0] = s at *
            have hc0 : w1.cell? a = some (.string s) := by simpa [Addr.add] using hcell
            clear hcell
            go_wp2_with fail
            go_meet
            case rel => exact ⟨s, rfl, hsz, rfl⟩
          · have h0 : decide (0 < ss.length) = false := decide_eq_false hne
            have h0' : decide ((0 : Int) < (ss.length : Int)) = false := decide_eq_false (by omega)
            go_wp2_with fail
            go_meet
            case rel => exact ⟨⟨#[]⟩, rfl, Nat.zero_le _, rfl⟩
        case rest =>
          obtain ⟨s, rfl, hs4, rfl⟩ := hcut
          obtain ⟨wa, hwa⟩ : ∃ wa, wa = wc := ⟨_, rfl⟩
          subst hwa
          have hwb := wrap64_bd (n : Int)
          go_upto_region 15 with fail
          generalize wrap64 (n : Int) = k at *
          go_cut [12] (fun s12 wx => s12 = .bool true ∧ Hid (Below wa.heap.size wa wx))
          case first =>
            have hn0 : (0 : Int) ≤ (n : Int) := by omega
            refine wp_region_noPanic ?_
            obtain ⟨L1, hL1⟩ : ∃ L1, l ++ enc (n : Int).toNat = L1 := ⟨_, rfl⟩
            obtain ⟨L2, hL2⟩ : ∃ L2, l ++ enc (zig k).toNat = L2 := ⟨_, rfl⟩
            have HL1 := Lib.hid hL1
            have HL2 := Lib.hid hL2
            clear hL1 hL2
            have HV1 : Hid (Rd wa.heap.size wa v1 l) := HO1.out.rd
            have HVB : Hid (Rd w.heap.size wa (.slice A l.length c) l) := HM.out.below HF1.out
            go_region_held_law (fun _ => True) (trivial)
              (first
                | (go_at_call 10; refine (put_any v1 l (n : Int) wa.drew HV1.out.drew hn0 hx1 (by omega)).mono ?_; rintro e w4 ⟨v4, rfl, hown4, hb4⟩; rw [HL1.out] at hown4; have HB4 : Hid (Below wa.heap.size wa w4) := (Below.refl wa.heap.size wa).drew.trans hb4; have hs44 := HB4.out.size; obtain ⟨A4, c4, hv4, _, _⟩ := hown4.rd.shape; have q4 := hown4.rd; rw [hv4] at q4 ⊢; have e4 := run_string_rd 22 9 5 Try.underlying22 Try.underlying5 Try.underlying9 q4; have HQ4 := Lib.hid q4; clear hown4 hb4 hv4 q4)
                | (go_at_call 11; refine (refPut_any _ l (n : Int) w4 ((HVB.out.below (HB4.out.mono hs1)).more (by omega)) hn0 hx1 (by omega)).mono ?_; rintro e w5 ⟨v5, rfl, hown5, hb5⟩; rw [HL1.out] at hown5; have HB5 : Hid (Below wa.heap.size wa w5) := HB4.out.trans (hb5.mono hs44); have hs55 := HB5.out.size; obtain ⟨A5, c5, hv5, _, _⟩ := hown5.rd.shape; have q5 := hown5.rd; rw [hv5] at q5 ⊢; have e5 := run_string_rd 22 9 5 Try.underlying22 Try.underlying5 Try.underlying9 q5; have e45 := run_string_rd 22 9 5 Try.underlying22 Try.underlying5 Try.underlying9 (HQ4.out.below hb5); clear hown5 hb5 hv5 q5)
                | (go_at_call 12; refine (size_any (n : Int) _ hn0 hx1).mono ?_; rintro e w' ⟨rfl, rfl⟩)
                | (go_at_call 13; refine (refSize_any (n : Int) _ hn0 hx1).mono ?_; rintro e w' ⟨rfl, rfl⟩)
                | (go_at_call 14; refine (int_any v1 l k w5 ((HV1.out.below HB5.out).more hs55) hwb.1 hwb.2 (by omega)).mono ?_; rintro e w6 ⟨v6, rfl, hown6, hb6⟩; rw [HL2.out] at hown6; have HB6 : Hid (Below wa.heap.size wa w6) := HB5.out.trans (hb6.mono hs55); have hs66 := HB6.out.size; obtain ⟨A6, c6, hv6, _, _⟩ := hown6.rd.shape; have q6 := hown6.rd; rw [hv6] at q6 ⊢; have e6 := run_string_rd 22 9 5 Try.underlying22 Try.underlying5 Try.underlying9 q6; have HQ6 := Lib.hid q6; clear hown6 hb6 hv6 q6)
                | (go_at_call 15; refine (refInt2_any _ l k w6 ((HVB.out.below (HB6.out.mono hs1)).more (by omega)) hwb.1 hwb.2 (by omega)).mono ?_; rintro e w7 ⟨v7, rfl, hown7, hb7⟩; rw [HL2.out] at hown7; have HB7 : Hid (Below wa.heap.size wa w7) := HB6.out.trans (hb7.mono hs66); obtain ⟨A7, c7, hv7, _, _⟩ := hown7.rd.shape; have q7 := hown7.rd; rw [hv7] at q7 ⊢; have e7 := run_string_rd 22 9 5 Try.underlying22 Try.underlying5 Try.underlying9 q7; have e67 := run_string_rd 22 9 5 Try.underlying22 Try.underlying5 Try.underlying9 (HQ6.out.below hb7); clear hown7 hb7 hv7 q7)
                | fail)
            all_goals (refine NoPanic.normal ?_; go_wp2_with fail; go_meet; exact ⟨rfl, HB7⟩)
          case rest =>
            obtain ⟨rfl, HB2⟩ := hcut
            have hs2 := HB2.out.size
            obtain ⟨A1, c1, hv1, _, _⟩ := HO1.out.rd.shape
            have hr1 := HO1.out.rd
            rw [hv1] at hr1 ⊢
            clear hv1 HO1
            have HV1 := Lib.hid hr1
            clear hr1
            have HVB : Hid (Rd w.heap.size wa (.slice A l.length c) l) := HM.out.below HF1.out
            have HVL : Hid (RdS w.heap.size wa (.slice As ss.length cs) ss) := HL.out.below HF1.out
            have HK : Hid (∀ w', Below wa.heap.size wa w' → (convert 22 9 (.slice A1 l.length c1)).run Try.prog w' = .ok (.string ⟨l.toArray⟩) w' ∧ (convert 22 9 (.slice A l.length c)).run Try.prog w' = .ok (.string ⟨l.toArray⟩) w') := fun w' hb =>
              ⟨run_string_rd 22 9 5 Try.underlying22 Try.underlying5 Try.underlying9 (HV1.out.below hb), run_string_rd 22 9 5 Try.underlying22 Try.underlying5 Try.underlying9 (HVB.out.below (hb.mono hs1))⟩
            have he4 : (encs ss).length ≤ 4000 := by have := encs_tot ss; have := HT4.out; omega
            have hls : ss.length ≤ 4000 := by have := len_tot ss; have := HT4.out; omega
            have HE4 := Lib.hid he4
            clear he4
            obtain ⟨L1, hL1⟩ : ∃ L1, l ++ encS s = L1 := ⟨_, rfl⟩
            obtain ⟨L2, hL2⟩ : ∃ L2, l ++ encL ss = L2 := ⟨_, rfl⟩
            have HL1 := Lib.hid hL1
            have HL2 := Lib.hid hL2
            clear hL1 hL2
            go_wp2_with fail
            refine wp_region_noPanic ?_
            go_region_held_law (fun w' => (convert 22 9 (.slice A1 l.length c1)).run Try.prog w' = .ok (.string ⟨l.toArray⟩) w' ∧ (convert 22 9 (.slice A l.length c)).run Try.prog w' = .ok (.string ⟨l.toArray⟩) w')
              (first | exact HK.out _ HB2.out | exact HK.out _ HB2.out.drew | exact HK.out _ HB8.out | exact HK.out _ HB9.out | exact HK.out _ HB10.out | exact HK.out _ HB11.out | exact HK.out _ HB12.out)
              (first
                | (go_at_call 9; refine (alive_any _).mono ?_; rintro e w8 ⟨rfl, hb8⟩; have HB8 : Hid (Below wa.heap.size wa w8) := HB2.out.drew.trans (hb8.mono hs2); have hs8 := HB8.out.size; clear hb8)
                | (go_at_call 16; refine (text_any _ l s w8 ((HV1.out.below HB8.out).more hs8) (by omega)).mono ?_; rintro e w9 ⟨v9, rfl, hown9, hb9⟩; rw [HL1.out] at hown9; have HB9 : Hid (Below wa.heap.size wa w9) := HB8.out.trans (hb9.mono hs8); have hs9 := HB9.out.size; obtain ⟨A9, c9, hv9, _, _⟩ := hown9.rd.shape; have q9 := hown9.rd; rw [hv9] at q9 ⊢; have e9 := run_string_rd 22 9 5 Try.underlying22 Try.underlying5 Try.underlying9 q9; have HQ9 := Lib.hid q9; clear hown9 hb9 hv9 q9)
                | (go_at_call 17; refine (refText2_any _ l s w9 ((HVB.out.below (HB9.out.mono hs1)).more (by omega)) (by omega)).mono ?_; rintro e w10 ⟨v10, rfl, hown10, hb10⟩; rw [HL1.out] at hown10; have HB10 : Hid (Below wa.heap.size wa w10) := HB9.out.trans (hb10.mono hs9); have hs10 := HB10.out.size; obtain ⟨A10, c10, hv10, _, _⟩ := hown10.rd.shape; have q10 := hown10.rd; rw [hv10] at q10 ⊢; have e10 := run_string_rd 22 9 5 Try.underlying22 Try.underlying5 Try.underlying9 q10; have e910 := run_string_rd 22 9 5 Try.underlying22 Try.underlying5 Try.underlying9 (HQ9.out.below hb10); clear hown10 hb10 hv10 q10)
                | (go_at_call 18; refine (list_any _ _ l ss w10 ((HV1.out.below HB10.out).more hs10) ((HVL.out.below (HB10.out.mono hs1)).more (by omega)) (by have := HE4.out; omega) (by omega)).mono ?_; rintro e w11 ⟨v11, rfl, hown11, hb11⟩; rw [HL2.out] at hown11; have HB11 : Hid (Below wa.heap.size wa w11) := HB10.out.trans (hb11.mono hs10); have hs11 := HB11.out.size; obtain ⟨A11, c11, hv11, _, _⟩ := hown11.rd.shape; have q11 := hown11.rd; rw [hv11] at q11 ⊢; have e11 := run_string_rd 22 9 5 Try.underlying22 Try.underlying5 Try.underlying9 q11; have HQ11 := Lib.hid q11; clear hown11 hb11 hv11 q11)
                | (go_at_call 19; refine (refList2_any _ _ l ss w11 ((HVB.out.below (HB11.out.mono hs1)).more (by omega)) ((HVL.out.below (HB11.out.mono hs1)).more (by omega)) (by have := HE4.out; omega) (by omega)).mono ?_; rintro e w12 ⟨v12, rfl, hown12, hb12⟩; rw [HL2.out] at hown12; have HB12 : Hid (Below wa.heap.size wa w12) := HB11.out.trans (hb12.mono hs11); obtain ⟨A12, c12, hv12, _, _⟩ := hown12.rd.shape; have q12 := hown12.rd; rw [hv12] at q12 ⊢; have e12 := run_string_rd 22 9 5 Try.underlying22 Try.underlying5 Try.underlying9 q12; have e1112 := run_string_rd 22 9 5 Try.underlying22 Try.underlying5 Try.underlying9 (HQ11.out.below hb12); clear hown12 hb12 hv12 q12)
                | fail)
            all_goals (refine NoPanic.normal ?_; go_wp2; go_ret; exact ⟨rfl, HF1.out.trans (HB12.out.mono hs1)⟩)
end Go.Proofs.Ytibapagfpadiiaa
