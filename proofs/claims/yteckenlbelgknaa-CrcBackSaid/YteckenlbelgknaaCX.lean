/-
  The law CrcBack. Each theorem states its own conditions.
-/
import Derived.Test.YteckenlbelgknaaCQ
import Derived.Test.YteckenlbelgknaaRL
import Derived.Test.YteckenlbelgknaaCU
namespace Go.Proofs.Yteckenlbelgknaa
open Go.RowKit

theorem RdM.lt_ {B : Nat} {w : World} {A : Option Addr} {n c : Nat} {ls : List (List UInt8)} (h : RdM B w (.slice A n c) ls) (j : Nat) (hj : j < ls.length) (a : Addr) (ha : A = some a) : (a.add j).block < B := by
  obtain ⟨vs, h1, ⟨A2, c2, hv, _, _, _, h3⟩, _⟩ := h
  injection hv with e1 _ _
  have := (h3 a (by rw [← e1]; exact ha)).1 (by omega)
  unfold Addr.add
  split <;> exact this

set_option maxRecDepth 100000 in
set_option maxHeartbeats 4000000 in
theorem back15_all (v u : Value) (z : Int) (l : List (List UInt8)) (d : List UInt8) (w : World) (hr : RdM w.heap.size w v l) (hd : Rd w.heap.size w u d) (hz : -9223372036854775808 ≤ z ∧ z ≤ 9223372036854775807) (hbig : ∀ j, (l.getD j []).length ≤ 140737488355328) : Calls Try.prog 5 #[v, u, .int .i64 z] w (OneC (.bool true) w) := by
  obtain ⟨i0, hi0, hz0, hz1, hz2⟩ := info_parts info5
  obtain ⟨A, c, rfl, hc, hm⟩ := hr.shape
  obtain ⟨A2, c2, rfl, hc2, hm2⟩ := hd.shape
  unfold maxLen at hm hm2
  obtain ⟨n, hn⟩ : ∃ q, l.length = q := ⟨_, rfl⟩
  obtain ⟨m, hmm⟩ : ∃ q, d.length = q := ⟨_, rfl⟩
  have HN := Lib.hid hn
  have HM := Lib.hid hmm
  have HR := Lib.hid hr
  have HD := Lib.hid hd
  rw [hn] at HR hc ⊢
  rw [hmm] at HD hc2 ⊢
  have HBG := Lib.hid hbig
  clear hr hd hn hmm hbig
  go_enter Try.func5, Try.ntmps5
  go_wp2
  have b0 : Below w.heap.size w (w.alloc (.cells #[] 5)) := (Below.refl _ _).alloc (Nat.le_refl _) _
  go_loopw [7, 8] (fun vb x wr => ∃ (i : Nat) (Ab : Option Addr) (nb cb : Nat), i ≤ n ∧ i ≤ 30 ∧ x = .int .i64 (i : Int) ∧ vb = .slice Ab nb cb ∧ nb ≤ cb ∧ cb ≤ 9223372036854775807 ∧ nb ≤ 3020 ∧ Hid ((framesC (l.take i)).length = nb) ∧ Hid (∀ q ∈ l.take i, q.length ≤ 100000) ∧ Hid (Rd wr.heap.size wr vb (framesC (l.take i))) ∧ Hid (Below w.heap.size w wr)) (fun _ x _ => n - (intOf x).toNat)
  case atStart => exact ⟨0, some ⟨w.heap.size, 0, none⟩, 0, 0, by omega, by omega, rfl, rfl, by omega, by omega, by omega, Lib.hid rfl, Lib.hid (by simp), Lib.hid (Own.rd (Own.made 5 w)), Lib.hid b0⟩
  case round =>
    clear b0
    obtain ⟨i, Ab, nb, cb, hi, hi30, rfl, rfl, hnb, hcb, hn3, HL, HQ, HBr, HW⟩ := hrel
    have hsz := HW.out.size
    by_cases hi2 : i < n
    · have zi : (i : Int) < (n : Int) := by omega
      by_cases h30 : i = 30
      · have z30 : (i : Int) = 30 := by omega
        go_wp2_with fail
        refine (alive15 wr).mono ?_
        rintro e w6 ⟨rfl, hb⟩
        have B6 := Lib.hid (HW.out.trans (hb.mono hsz))
        clear hb
        dsimp only
        apply_assumption
        go_wp2
        go_ret
        exact ⟨rfl, B6.out⟩
      have z30 : ¬ ((i : Int) = 30) := by omega
      obtain ⟨a, B1, e1, hA, c0, r1⟩ := (HR.out.below HW.out).at_ i (by rw [HN.out]; exact hi2)
      have hal : (a.add i).block < w.heap.size := HR.out.lt_ i (by rw [HN.out]; exact hi2) a hA
      subst hA
      obtain ⟨x, hx⟩ : ∃ x, l.getD i [] = x := ⟨_, rfl⟩
      rw [hx] at c0 r1
      have HX := Lib.hid hx
      have HR1 := Lib.hid r1
      obtain ⟨nx, hnx⟩ : ∃ q, x.length = q := ⟨_, rfl⟩
      have HNX := Lib.hid hnx
      rw [hnx] at c0 HR1
      have hxb : nx ≤ 140737488355328 := by have := HBG.out i; rw [hx, hnx] at this; exact this
      obtain ⟨sm, hsm⟩ : ∃ q, nb + nx = q := ⟨_, rfl⟩
      have hsmi : (nb : Int) + (nx : Int) = (sm : Int) := by omega
      have hsmb : sm ≤ 140737488360000 := by omega
      have z30b : ((i : Int) == 30) = false := by simpa using z30
      clear hx r1 hnx
      by_cases hlong : (3000 : Int) < (sm : Int)
      · go_wp2_with fail
        refine (alive15 wr).mono ?_
        rintro e w6 ⟨rfl, hb⟩
        have B6 := Lib.hid (HW.out.trans (hb.mono hsz))
        clear hb
        dsimp only
        apply_assumption
        go_wp2
        go_ret
        exact ⟨rfl, B6.out⟩
      go_wp2_with fail
      refine (crFrame_any (framesC (l.take i)) x _ _ wr HBr.out ((HR1.out).more hsz) (by rw [HL.out]; omega) (by rw [HNX.out]; omega)).mono ?_
      rintro e w2 ⟨v2, rfl, hown, hb⟩
      have hfs : framesC (l.take i) ++ frameC x = framesC (l.take (i + 1)) := by
        rw [List.take_succ_eq_append_getElem (by rw [HN.out]; exact hi2), frames_snoc]
        congr 2
        rw [← HX.out, List.getD_eq_getElem?_getD, List.getElem?_eq_getElem (by rw [HN.out]; exact hi2)]
        rfl
      rw [hfs] at hown
      have hlen : (framesC (l.take (i + 1))).length = nb + longC nx := by rw [← hfs, List.length_append, HL.out, frameC_len, HNX.out]
      have W2 := Lib.hid (HW.out.trans (hb.mono hsz))
      have R2 := Lib.hid hown.rd
      obtain ⟨Ab2, cb2, rfl, hcb2, hcm2⟩ := hown.rd.shape
      obtain ⟨f, hf⟩ : ∃ q, longC nx = q := ⟨_, rfl⟩
      rw [hlen] at R2 hcb2 ⊢
      have hwx := wid_le nx
      have hfn : f ≤ nx + 14 := by rw [← hf]; unfold longC; omega
      have HLG := Lib.hid hf
      have HLN := Lib.hid hlen
      rw [hf] at R2 hcb2 HLN ⊢
      have c1 : w2.cell? (a.add i) = some (.slice B1 nx e1) := (hb.cell (Nat.lt_of_lt_of_le hal hsz)).trans c0
      clear hb hown hfs hlen hf hwx c0
      unfold maxLen at hcm2
      go_wp2_with fail
      refine (crLong_any (nx : Int) w2 (by omega)).mono ?_
      rintro e w3 ⟨rfl, hb⟩
      rw [show longC ((nx : Int)).toNat = f from HLG.out]
      have W3 := Lib.hid (W2.out.trans (hb.mono W2.out.size))
      have R3 := Lib.hid ((R2.out.below hb).more hb.size)
      clear hb c1 R2 W2
      go_wp2
      go_roundw
      case rel =>
        refine ⟨i + 1, Ab2, nb + f, cb2, by omega, by omega, by go_num, rfl, hcb2, by omega, by omega, HLN, ?_, R3, W3⟩
        exact Lib.hid (by
          intro q hq
          rw [List.take_succ_eq_append_getElem (by rw [HN.out]; exact hi2)] at hq
          rcases List.mem_append.1 hq with h | h
          · exact HQ.out q h
          · have e : q = x := by
              rw [← HX.out, List.getD_eq_getElem?_getD, List.getElem?_eq_getElem (by rw [HN.out]; exact hi2)]
              simpa using h
            rw [e, HNX.out]
            omega)
      case measure => simp [intOf]; omega
    · have zi : ¬ ((i : Int) < (n : Int)) := by omega
      obtain rfl : i = n := by omega
      have hi30' := hi30
      have HT : Hid (l.take i = l) := Lib.hid (List.take_of_length_le (by rw [HN.out]; exact Nat.le_refl _))
      rw [HT.out] at HL HQ HBr
      by_cases hlong : (3000 : Int) < (m : Int)
      · go_wp2_with fail
        refine (alive15 wr).mono ?_
        rintro e w6 ⟨rfl, hb⟩
        have B6 := Lib.hid (HW.out.trans (hb.mono hsz))
        clear hb
        go_wp2
        go_ret
        exact ⟨rfl, B6.out⟩
      go_wp2_with fail
      refine (crFrame_any [] d (.slice none 0 0) _ wr (Rd.nil _ _) ((HD.out.below HW.out).more hsz) (by simp) (by rw [HM.out]; omega)).mono ?_
      rintro e w2 ⟨v2, rfl, hown, hb⟩
      rw [List.nil_append] at hown
      obtain ⟨F, hF⟩ : ∃ q, (frameC d).length = q := ⟨_, rfl⟩
      have hF1 : 5 ≤ F ∧ F ≤ 3014 := by rw [← hF, frameC_len, HM.out]; have := wid_le m; unfold longC; omega
      obtain ⟨gf, cf, rfl, hcf, hcfm, hgf, hgl⟩ := hown.inBlock8 (by rw [hF]; omega)
      have W2 := Lib.hid (HW.out.trans (hb.mono hsz))
      have R2 := Lib.hid hown.rd
      have RB := Lib.hid ((HBr.out.below hb).more hb.size)
      rw [hF] at R2 hcf ⊢
      have HF := Lib.hid hF
      obtain ⟨kf, hkf⟩ : ∃ q : Nat, min (max z 0) ((F : Int) - 1) = (q : Int) := ⟨(min (max z 0) ((F : Int) - 1)).toNat, by omega⟩
      have hk2 : kf < F := by omega
      have hk3 : max (kf : Int) 0 = (kf : Int) := by omega
      have hk4 : (kf : Int) ≤ (cf : Int) := by omega
      clear hown hb hF hgl hgf HBr HW HD HT zi
      go_wp2
      obtain ⟨FF, hF⟩ : ∃ G : (Nat → Value) → Act, G = fun x => ⟨List.toArray (.slice A i c :: .slice A2 m c2 :: .int IntKind.i64 z :: undef :: undef :: undef :: u6 :: .slice Ab nb cb :: .int IntKind.i64 ↑i :: u9 :: .slice (some { block := gf, off := 0 }) F cf :: .int IntKind.i64 ↑kf :: x 12 :: x 13 :: .slice (some { block := w.heap.size, off := 0 }) 0 0 :: .int IntKind.i64 ↑i :: .slice A i c :: .int IntKind.i64 ↑i :: .bool false :: u19 :: u20 :: u21 :: u22 :: u23 :: u24 :: u25 :: u26 :: u27 :: u28 :: u29 :: u30 :: u31 :: u32 :: u33 :: u34 :: u35 :: u36 :: u37 :: u38 :: u39 :: u40 :: u41 :: u42 :: u43 :: u44 :: u45 :: u46 :: u47 :: u48 :: u49 :: u50 :: u51 :: u52 :: u53 :: .slice A2 m c2 :: .int IntKind.i64 ↑m :: .bool false :: undef :: .slice A2 m c2 :: .slice (some { block := gf, off := 0 }) F cf :: .int IntKind.i64 z :: .int IntKind.i64 (max z 0) :: .slice (some { block := gf, off := 0 }) F cf :: .int IntKind.i64 ↑F :: .int IntKind.i64 (↑F - 1) :: .int IntKind.i64 ↑kf :: x 9 :: x 0 :: x 1 :: x 2 :: x 3 :: x 4 :: x 5 :: x 6 :: x 7 :: x 8 :: x 10 :: x 11 :: undef :: undef :: undef :: undef :: undef :: undef :: undef :: undef :: undef :: undef :: undef :: undef :: []), []⟩ := ⟨_, rfl⟩
      have HFF := Lib.hid hF
      refine wp_region_tillK 14 FF (fun _ => undef) (fun _ => True) (by rw [hF]) rfl (by kernel_rfl) ?_
      intro x hL
      clear hF
      obtain ⟨wA, hwA⟩ : ∃ q, w2.drew = q := ⟨_, rfl⟩
      have WA := Lib.hid (show Below w.heap.size w wA by rw [← hwA]; exact W2.out.drew)
      have RA := Lib.hid (show Rd wA.heap.size wA (.slice (some ⟨gf, 0, none⟩) F cf) (frameC d) by rw [← hwA]; exact R2.out.keep fun _ _ => rfl)
      have RC := Lib.hid (show Rd wA.heap.size wA (.slice Ab nb cb) (framesC l) by rw [← hwA]; exact RB.out.keep fun _ _ => rfl)
      have hlA : w.heap.size ≤ wA.heap.size := WA.out.size
      have RV := Lib.hid (show RdM wA.heap.size wA (.slice A i c) l by rw [← hwA]; exact (HR.out.below (W2.out.drew)).more W2.out.drew.size)
      rw [hwA]
      clear hwA W2 R2 RB
      refine AnyTill.takeK 1 (.slice Ab nb cb) rfl (by kernel_rfl) rfl rfl (by kernel_rfl) (by kernel_rfl) HFF (wanted_none rfl) (fun _ _ => rfl) hL rfl (fun w9 hS9 => ?_) trivial ?_
      · first | (go_simp; done) | (go_simp; rfl)
      clear hL x
      intro x hL
      refine AnyTill.takeK 3 (.slice (some ⟨gf, 0, none⟩) F cf) rfl (by kernel_rfl) rfl rfl (by kernel_rfl) (by kernel_rfl) HFF (wanted_none rfl) (fun _ _ => rfl) hL rfl (fun w9 hS9 => ?_) trivial ?_
      · first | (go_simp; done) | (go_simp; rfl)
      clear hL x
      intro x hL
      refine AnyTill.takeK 4 (.int .i64 (kf : Int)) rfl (by kernel_rfl) rfl rfl (by kernel_rfl) (by kernel_rfl) HFF (wanted_none rfl) (fun _ _ => rfl) hL rfl (fun w9 hS9 => ?_) trivial ?_
      · first | (go_simp; done) | (go_simp; rfl)
      clear hL x
      intro x hL
      refine AnyTill.takeK 5 (.int .i64 (kf : Int)) rfl (by kernel_rfl) rfl rfl (by kernel_rfl) (by kernel_rfl) HFF (wanted_none rfl) (fun _ _ => rfl) hL rfl (fun w9 hS9 => ?_) trivial ?_
      · have q4 := hL.at_ 0 rfl
        rw [q4]
        first | (go_simp; done) | (go_simp; rfl)
      clear hL x
      intro x hL
      refine AnyTill.takeK 6 (.slice (some ⟨gf, 0, none⟩) kf cf) rfl (by kernel_rfl) rfl rfl (by kernel_rfl) (by kernel_rfl) HFF (wanted_none rfl) (fun _ _ => rfl) hL rfl (fun w9 hS9 => ?_) trivial ?_
      · have q3 := hL.at_ 2 rfl
        have q5 := hL.at_ 0 rfl
        rw [q3, q5]
        first | (go_simp; done) | (go_simp; rfl)
      clear hL x
      intro x hL
      refine AnyTill.oneK 0 (by kernel_rfl) rfl HFF (wanted_none rfl) (fun _ _ => rfl) hL rfl (fun K hK => ?_)
      go_simp
      have OB := Lib.hid (Own.made 5 wA)
      have WB := Lib.hid (WA.out.alloc WA.out.size (.cells #[] 5))
      have hSA : (wA.alloc (.cells #[] 5)).heap.size = wA.heap.size + 1 := by simp
      have BA := Lib.hid ((Below.refl wA.heap.size wA).alloc (Nat.le_refl _) (.cells #[] 5))
      have RCB := Lib.hid (RC.out.below BA.out)
      have RAB := Lib.hid (RA.out.below BA.out)
      refine hK.out _ _ trivial ?_
      obtain ⟨wB, hwB⟩ : ∃ q, wA.alloc (.cells #[] 5) = q := ⟨_, rfl⟩
      rw [hwB] at OB WB RCB RAB hSA ⊢
      clear BA RC RA WA hwB
      clear hK K hL  x
      intro x hL
      refine AnyTill.oneK 2 (by kernel_rfl) rfl HFF (wanted_none rfl) (fun _ _ => rfl) hL rfl (fun K hK => ?_)
      have q0 := Lib.hid (hL.at_ 0 rfl)
      have q1 := Lib.hid (hL.at_ 5 rfl)
      refine wp_appO _ _ 22 rfl 5 i0 Try.underlying22 hi0 hz0 hz1 hz2 wA.heap.size wA.heap.size _ _ [] (framesC l) q0.out OB.out q1.out RCB.out (by have := HL.out; simp; omega) (by omega) (fun v9 w9 hown9 hb9 => ?_)
      refine hK.out _ _ trivial ?_
      rw [List.nil_append] at hown9
      have OC := Lib.hid hown9
      have RAC := Lib.hid (RAB.out.below hb9)
      have hsC := hb9.size
      have WC := Lib.hid (WB.out.trans (hb9.mono hlA))
      have hsD : wA.heap.size ≤ w9.heap.size := by omega
      clear hown9 hb9 OB RCB RAB WB hsC
      clear hK K hL q0 q1 x
      intro x hL
      refine AnyTill.oneK 7 (by kernel_rfl) rfl HFF (wanted_none rfl) (fun _ _ => rfl) hL rfl (fun K hK => ?_)
      have q2 := Lib.hid (hL.at_ 0 rfl)
      have q6 := Lib.hid (hL.at_ 2 rfl)
      refine wp_appO _ _ 22 rfl 5 i0 Try.underlying22 hi0 hz0 hz1 hz2 wA.heap.size wA.heap.size _ _ (framesC l) ((frameC d).take kf) q2.out OC.out q6.out (RAC.out.take kf (by omega)) (by have := HL.out; have := HF.out; rw [List.length_take]; omega) hsD (fun v8 w8 hown8 hb8 => ?_)
      refine hK.out _ _ trivial ?_
      have OD := Lib.hid hown8
      have WD := Lib.hid (WC.out.trans (hb8.mono hlA))
      clear hown8 hb8 OC RAC WC hsD
      clear hK K hL q2 q6 x
      intro x hL
      refine AnyTill.oneK 8 (by kernel_rfl) rfl HFF (wanted_none rfl) (fun _ _ => rfl) hL rfl (fun K hK => ?_)
      have q7 := Lib.hid (hL.at_ 0 rfl)
      go_simp
      refine calls_args (args2 := #[v8]) (by rw [q7.out]) ?_
      refine (crScan_any _ v8 w8 OD.out.rd (by have := HL.out; have := HF.out; rw [List.length_append, List.length_take]; omega)).mono ?_
      rintro e w7 ⟨vS, rfl, hrm, hb7⟩
      rw [scan_cut l d kf HQ.out (by rw [HM.out]; omega) (by rw [HF.out]; exact hk2)] at hrm ⊢
      dsimp only at hrm ⊢
      rw [HL.out]
      refine hK.out _ _ trivial ?_
      have RS := Lib.hid hrm
      have WE := Lib.hid (WD.out.trans (hb7.mono WD.out.size))
      clear hrm hb7 OD WD
      clear hK K hL q7 x
      intro x hL
      refine AnyTill.takeK 9 (.tuple #[vS, .int .i64 (nb : Int)]) rfl (by kernel_rfl) rfl rfl (by kernel_rfl) (by kernel_rfl) HFF (wanted_none rfl) (fun _ _ => rfl) hL rfl (fun w9 hS9 => ?_) trivial ?_
      · have q8 := hL.at_ 0 rfl
        rw [q8]
        first | (go_simp; done) | (go_simp; rfl)
      clear hL x
      intro x hL
      refine AnyTill.takeK 10 (vS) rfl (by kernel_rfl) rfl rfl (by kernel_rfl) (by kernel_rfl) HFF (wanted_none rfl) (fun _ _ => rfl) hL rfl (fun w9 hS9 => ?_) trivial ?_
      · have q9 := hL.at_ 0 rfl
        rw [q9]
        first | (go_simp; done) | (go_simp; rfl)
      clear hL x
      intro x hL
      refine AnyTill.takeK 11 (.int .i64 (nb : Int)) rfl (by kernel_rfl) rfl rfl (by kernel_rfl) (by kernel_rfl) HFF (wanted_none rfl) (fun _ _ => rfl) hL rfl (fun w9 hS9 => ?_) trivial ?_
      · have q9 := hL.at_ 1 rfl
        rw [q9]
        first | (go_simp; done) | (go_simp; rfl)
      clear hL x
      intro x hL
      refine AnyTill.takeK 12 (vS) rfl (by kernel_rfl) rfl rfl (by kernel_rfl) (by kernel_rfl) HFF (wanted_none rfl) (fun _ _ => rfl) hL rfl (fun w9 hS9 => ?_) trivial ?_
      · have q10 := hL.at_ 1 rfl
        rw [q10]
        first | (go_simp; done) | (go_simp; rfl)
      clear hL x
      intro x hL
      refine AnyTill.takeK 13 (.int .i64 (nb : Int)) rfl (by kernel_rfl) rfl rfl (by kernel_rfl) (by kernel_rfl) HFF (wanted_none rfl) (fun _ _ => rfl) hL rfl (fun w9 hS9 => ?_) trivial ?_
      · have q11 := hL.at_ 1 rfl
        rw [q11]
        first | (go_simp; done) | (go_simp; rfl)
      clear hL x
      intro x hL
      refine AnyTill.done (by kernel_rfl) ?_
      refine NoPanic.normal ?_
      have q12 := hL.at_ 1 rfl
      have q13 := hL.at_ 0 rfl
      rw [HFF.out]
      dsimp only
      rw [q12, q13]
      clear q12 q13 hL HFF
      go_wp2_with fail
      have hsE := WE.out.size
      have RT := Lib.hid ((HR.out.below WE.out).more hsE)
      refine (alive15 w7).mono ?_
      rintro e w6 ⟨rfl, hb⟩
      have WF := Lib.hid (WE.out.trans (hb.mono hsE))
      have RS2 := Lib.hid ((RS.out.below hb).more hb.size)
      have RT2 := Lib.hid ((RT.out.below hb).more hb.size)
      clear hb RS RT WE hsE
      go_wp2_with fail
      refine (rfRowsC_any l l vS _ w6 RS2.out RT2.out).mono ?_
      rintro e w5 ⟨rfl, hb⟩
      have WG := Lib.hid (WF.out.trans (hb.mono WF.out.size))
      rw [show decide (l = l) = true from decide_eq_true rfl]
      clear hb RS2 RT2 WF
      go_wp2
      go_ret
      exact ⟨rfl, WG.out⟩
end Go.Proofs.Yteckenlbelgknaa
