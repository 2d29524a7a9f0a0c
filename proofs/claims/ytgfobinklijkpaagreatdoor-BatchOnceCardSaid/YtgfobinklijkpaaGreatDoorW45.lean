/-
  Texts BG KF BI BJ.
-/
import Derived.Test.YtgfobinklijkpaaGreatDoorW01
import Derived.Test.YtgfobinklijkpaaGreatDoorW40
import Derived.Test.YtgfobinklijkpaaGreatDoorW41
import Derived.Test.YtgfobinklijkpaaGreatDoorW42
import Derived.Test.YtgfobinklijkpaaGreatDoorW44
namespace Go.Proofs.YtgfobinklijkpaaGreatDoor
set_option maxRecDepth 100000
set_option maxHeartbeats 16000000
open Go.RowKit
def ApO (y : Rm × List Rp × List Ev) (f : Int) (w : World) (e : Ending) (w' : World) : Prop :=
 ∃ vN vS vW vL vR, e = .returned (.tuple #[.agg (rmc (mT y.1) vN vS vW vL).toArray, vR, .int .i64 f]) ∧ OwnRm w.heap.size w' vN vS vW vL y.1 ∧ OwnRps 79 9 w.heap.size w' vR y.2.1 ∧ Below w.heap.size w w'
theorem OwnRm.base2 {b b' : Nat} {w : World} {vN vS vW vL : Value} {r : Rm} (h : OwnRm b w vN vS vW vL r) (hb : b' ≤ b) : OwnRm b' w vN vS vW vL r := h.base hb
theorem OwnRps.base2 {e es : TypeId} {b b' : Nat} {w : World} {v : Value} {l : List Rp} (h : OwnRps e es b w v l) (hb : b' ≤ b) : OwnRps e es b' w v l := by
 obtain ⟨ss, h1, h2, h3⟩ := h
 exact ⟨ss, h1, h2.base hb, fun j hj => (h3 j hj).base hb⟩
theorem btApply_any (r : Rm) (s : List UInt8) (vN vS vW vL : Value) (w : World) (hr : RdRm w.heap.size w vN vS vW vL r) (hR : RightR r) (hn : NamesR (mL r)) (hs : s.length ≤ 1000000) :
 Calls Tryz.prog 21 #[.agg (rmc (mT r) vN vS vW vL).toArray, txt s] w (ApO (foldR r ((decB s).getD [])) (decE s) w) := by
 obtain ⟨AN, cN, hv, -, -⟩ := hr.n.shape
 obtain ⟨nN, hnN⟩ : ∃ q, (mN r).length = q := ⟨_, rfl⟩
 rw [hnN] at hv
 subst hv
 obtain ⟨AS, cS, hv, -, -⟩ := hr.s.shape
 obtain ⟨nS, hnS⟩ : ∃ q, (mS r).length = q := ⟨_, rfl⟩
 rw [hnS] at hv
 subst hv
 obtain ⟨AW, cW, hv, -, -⟩ := hr.t.shape
 obtain ⟨nW, hnW⟩ : ∃ q, (mW r).length = q := ⟨_, rfl⟩
 rw [hnW] at hv
 subst hv
 obtain ⟨AL, cL, hv, -, -⟩ := hr.l.shape
 obtain ⟨nL, hnL⟩ : ∃ q, (mL r).length = q := ⟨_, rfl⟩
 rw [hnL] at hv
 subst hv
 have HRD := lhd hr
 have HR := lhd hR
 have HNM := lhd hn
 have HS := lhd hs
 clear hr hR hn hs hnN hnS hnW hnL
 have hfew : ((decB s).getD []).length ≤ 1000 ∧ ∀ o ∈ (decB s).getD [], fitI (oS o) := by
  cases hd : decB s with
  | none => exact ⟨Nat.zero_le _, fun o ho => by cases ho⟩
  | some l =>
    have h := decB_only s l hd
    exact ⟨by have := h.2.1; show l.length ≤ 1000; omega, fun o ho => (h.2.2 o ho).2.2.1⟩
 obtain ⟨l, hl⟩ : ∃ l, (decB s).getD [] = l := ⟨_, rfl⟩
 obtain ⟨f, hf⟩ : ∃ f, decE s = f := ⟨_, rfl⟩
 rw [hl] at hfew
 have HFW := lhd hfew
 have HF := lhd hf
 have HLL := lhd hl
 rw [hl, hf]
 clear hfew hf hl
 obtain ⟨dR, huR, hdR⟩ := rowRmP
 go_enter Tryz.func21, Tryz.ntmps21
 go_wp2_with (refine wpList_box_blk rfl 50 _ rfl (rmc (mT r) (.slice AN nN cN) (.slice AS nS cS) (.slice AW nW cW) (.slice AL nL cL)) rfl ?_)
 intro w1 b1 b2 b3
 go_wp2_with (refine wpList_alloc_blk rfl 50 rfl (rmc 0 (.slice none 0 0) (.slice none 0 0) (.slice none 0 0) (.slice none 0 0)) zeroRmP ?_)
 intro w2 e1 e2 e3
 obtain ⟨B, hB⟩ : ∃ g, w.heap.size = g := ⟨_, rfl⟩
 obtain ⟨g4, hg4⟩ : ∃ g, w.heap.size + 1 = g := ⟨_, rfl⟩
 have X2 := lhd (b1.below e3 (by omega))
 have X4 := lhd e1
 have HB := lhd (b3.trans (e3.mono (by omega)))
 have hB4 : B ≤ g4 := by omega
 have hs2 : B ≤ w2.heap.size := by omega
 rw [hg4] at X4 ⊢
 rw [hB] at X2 HB ⊢
 have HBB := lhd hB
 clear b1 b2 b3 e1 e2 e3 hg4
 go_wp2_with fail
 refine (btDecode_any s w2 HS.out).mono ?_
 rintro e w3 ⟨vO, rfl, hrd, hb⟩
 have HFD : Hid ((if (decB s).isSome = true then (0 : Int) else 3) = f) := lhd HF.out
 obtain ⟨f2, hf2⟩ : ∃ f2, (if (decB s).isSome = true then (0 : Int) else 3) = f2 := ⟨_, rfl⟩
 rw [hf2] at HFD ⊢
 rw [HLL.out] at hrd
 have HO := lhd hrd
 have X23 := lhd (X2.out.below hb X2.out.lt)
 have X43 := lhd (X4.out.below hb X4.out.lt)
 have HB3 := lhd (HB.out.trans (hb.mono hs2))
 have hs3 := HB3.out.size
 have h4l : g4 < w3.heap.size := X43.out.lt
 rw [hB] at hs3
 have HRD3 : Hid (RdRm w3.heap.size w3 (.slice AN nN cN) (.slice AS nS cS) (.slice AW nW cW) (.slice AL nL cL) r) := lhd (HRD.out.belowM (by rw [hB]; exact HB3.out))
 obtain rfl : f2 = f := HFD.out
 clear hrd hb hf2 X2 X4 HB hs2 HFD HRD hB
 go_wp2_with (first | refine wpList_load_part rfl 50 _ rfl B 0 (rmc (mT r) (.slice AN nN cN) (.slice AS nS cS) (.slice AW nW cW) (.slice AL nL cL)) (rmc (mT r) (.slice AN nN cN) (.slice AS nS cS) (.slice AW nW cW) (.slice AL nL cL)) 50 rfl X23.out rfl huR hdR szRmP ?_ | fail)
 refine (rmFold_any r l (.slice AN nN cN) (.slice AS nS cS) (.slice AW nW cW) (.slice AL nL cL) vO w3 HRD3.out HR.out HNM.out HO.out HFW.out.1 HFW.out.2).mono ?_
 rintro e w5 ⟨uN, uS, uW, uL, vR, vE, rfl, hom, hor, -, hb⟩
 obtain ⟨y, hy⟩ : ∃ y, foldR r l = y := ⟨_, rfl⟩
 have HYY := lhd hy
 rw [hy] at hom hor ⊢
 obtain ⟨Ba, ca, hu1⟩ := hom.n.shape
 obtain ⟨Bb, cb, hu2⟩ := hom.s.shape
 obtain ⟨Bc, cc, hu3⟩ := hom.t.shape
 obtain ⟨Bd, cd, hu4, -, -⟩ := hom.l.rd.shape
 obtain ⟨ma, hm1⟩ : ∃ q, (mN y.1).length = q := ⟨_, rfl⟩
 obtain ⟨mb, hm2⟩ : ∃ q, (mS y.1).length = q := ⟨_, rfl⟩
 obtain ⟨mc, hm3⟩ : ∃ q, (mW y.1).length = q := ⟨_, rfl⟩
 obtain ⟨md, hm4⟩ : ∃ q, (mL y.1).length = q := ⟨_, rfl⟩
 rw [hm1] at hu1
 rw [hm2] at hu2
 rw [hm3] at hu3
 rw [hm4] at hu4
 subst hu1 hu2 hu3 hu4
 obtain ⟨RD, hRD⟩ : ∃ q : List Value, rmc (mT y.1) (.slice Ba ma ca) (.slice Bb mb cb) (.slice Bc mc cc) (.slice Bd md cd) = q := ⟨_, rfl⟩
 have hDA : RD.toArray.all (·.oneCell') = true := by rw [← hRD]; exact rmc_all _ _ _ _ _ _ _ _ _ _ _ _ _
 have hDL : RD.length = 5 := by rw [← hRD]; rfl
 have HRD2 := lhd hRD
 have HDL := lhd hDL
 rw [hRD]
 have OM := lhd hom
 have OR := lhd hor
 have X45 := lhd (X43.out.below hb X43.out.lt)
 have HB5 := lhd (HB3.out.trans (hb.mono hs3))
 have hs5 := hb.size
 clear hRD hDL hm1 hm2 hm3 hm4 hom hor hb X23 X43 HB3 HO HRD3 hy
 go_wp2_with (refine wpList_alloc_blk rfl 50 rfl (rmc 0 (.slice none 0 0) (.slice none 0 0) (.slice none 0 0) (.slice none 0 0)) zeroRmP ?_)
 intro w6 a1 a2 a3
 obtain ⟨gA, hgA⟩ : ∃ g, w5.heap.size = g := ⟨_, rfl⟩
 have A1 := lhd a1
 have B6 := lhd a3
 have hne : g4 ≠ gA := by omega
 rw [hgA] at A1 ⊢
 have HGA := lhd hgA
 clear a1 a2 a3 hgA
 go_wp2_with (refine wpList_store_to rfl 50 _ _ rfl gA RD (rmc 0 (.slice none 0 0) (.slice none 0 0) (.slice none 0 0) (.slice none 0 0)) 50 rfl rfl A1.out (by rw [HDL.out]; exact szRmP) (by rw [HDL.out]; rfl) hDA ?_)
 intro w7 e1 e2 e3 e4
 have A2 := lhd e1
 have B7 : Hid (Below w5.heap.size w5 w7) := lhd (B6.out.trans (by rw [HGA.out]; exact e3))
 have X47 := lhd (X45.out.below B7.out X45.out.lt)
 have OM7 := lhd (OM.out.below B7.out)
 have OR7 := lhd (OR.out.below B7.out)
 have HB7 := lhd (HB5.out.trans (B7.out.mono (Nat.le_trans hs3 hs5)))
 clear e1 e2 e3 e4 A1 B6 X45 OM OR HB5 B7 HGA
 go_wp2_with (first | refine wpList_load_part rfl 50 _ rfl gA 0 RD RD 50 rfl A2.out (by simp) huR hdR (by rw [HDL.out]; exact szRmP) ?_ | refine wpList_store_to rfl 50 _ _ rfl g4 RD (rmc 0 (.slice none 0 0) (.slice none 0 0) (.slice none 0 0) (.slice none 0 0)) 50 rfl rfl X47.out (by rw [HDL.out]; exact szRmP) (by rw [HDL.out]; rfl) hDA ?_)
 intro w8 e1 e2 e3 e4
 have V4 := lhd e1
 have KR := lhd (Keep.store (T := fun e => e = 50) (b := B) X47.out rfl hB4 e2 e4)
 have OM8 := lhd (OM7.out.same (fun k hk => e4 k (by omega)))
 have OR8 := lhd (OR7.out.keep KR.out (by decide) (by decide))
 have HB8 := lhd (HB7.out.trans (e3.mono hB4))
 clear e1 e2 e3 e4 KR X47 OM7 OR7 HB7 A2
 go_wp2
 refine bodyPost_ret (v := .tuple #[.agg RD.toArray, vR, .int .i64 f2]) ?_ rfl ?_
 ·exact ret_blk3K rfl _ _ g4 50 RD vR (.int .i64 f2) rfl rfl rfl V4.out dR huR hdR (by rw [HDL.out]; exact szRmP)
 ·rw [HYY.out]
  refine ⟨_, _, _, _, vR, by rw [HRD2.out], ?_, ?_, ?_⟩
  all_goals rw [HBB.out]
  ·exact OM8.out.base2 hs3
  ·exact OR8.out.base2 hs3
  ·exact HB8.out
theorem right_rm0 : RightR rm0 := ⟨(rightN_iff _).1 (by decide +kernel), (rightS_iff _ _).1 (by decide +kernel), (rightW_iff _).1 (by decide +kernel), Nat.zero_le _, fun x h => absurd h (by simp [rm0, mL]), List.Pairwise.nil⟩
def oB : Or := (1, 1, 1, [47, 97], [], 0, 0, 0)
theorem may_oB : mayO oB = true := by decide +kernel
theorem fits_oB : fitsO oB := ⟨⟨by decide, by decide⟩, ⟨by decide, by decide⟩, ⟨by decide, by decide⟩⟩
theorem alive_B1 : encE [oB] = 0 ∧ encV [oB] = encB [oB] := by
 have h := enc_good [oB] (by decide) (fun j hj => by
  have : j = 0 := by simp at hj; omega
  subst this
  exact may_oB)
 exact ⟨h.2, h.1⟩
theorem alive_B2 : decB (encV [oB]) = some [oB] := by
 rw [alive_B1.2]
 exact decB_enc [oB] (by decide) (fun o ho => by
  obtain rfl := List.mem_singleton.1 ho
  exact ⟨may_oB, fits_oB⟩)
theorem alive_B3 : (mN (foldR rm0 [oB]).1).length = 2 := by decide +kernel
theorem alive_B4 : decB [] = none := decB_few [] (.inl (by decide))
theorem alive_B5 : (encV [oB]).length ≤ 1000000 := by rw [alive_B1.2]; decide +kernel
theorem alive14 (w : World) : Calls Tryz.prog 8 #[] w (One (.bool true) w) := by
 obtain ⟨dR, huR, hdR⟩ := rowRmP
 go_enter Tryz.func8, Tryz.ntmps8
 have hba : Below w.heap.size w (w.alloc (.cells (orc oB).toArray 86)) := (Below.refl w.heap.size w).alloc (Nat.le_refl _) _
 have hr0 := RdE.one (E := OrK) w 86 oB
 have hsz1 : (w.alloc (.cells (orc oB).toArray 86)).heap.size = w.heap.size + 1 := by simp
 have hr1 : RdE OrK (w.alloc (.cells (orc oB).toArray 86)).heap.size (w.alloc (.cells (orc oB).toArray 86)) (.slice (some ⟨w.heap.size, 0, none⟩) 1 1) [oB] := by rw [hsz1]; exact hr0
 have HR := lhd hr1
 have HB := lhd hba
 clear hba hr0 hr1 hsz1
 go_wp2_with fail
 refine (btEncode_any [oB] (.slice (some ⟨w.heap.size, 0, none⟩) 1 1) _ HR.out (fun o ho => by
  obtain rfl := List.mem_singleton.1 ho
  exact fits_oB)).mono ?_
 rintro e w1 ⟨rfl, hb⟩
 have B1 := lhd (HB.out.trans (hb.mono HB.out.size))
 obtain ⟨s, hs⟩ : ∃ s, encV [oB] = s := ⟨_, rfl⟩
 have h2 := alive_B2
 have h5 := alive_B5
 rw [hs] at h2 h5 ⊢
 rw [alive_B1.1]
 have H2 := lhd h2
 have H5 := lhd h5
 clear hb hs h2 h5 HR HB
 go_wp2_with fail
 refine (rmNew_any w1).mono ?_
 rintro e w2 ⟨vN, vS, vW, vL, rfl, hrm, hb⟩
 have B2 := lhd (B1.out.trans (hb.mono B1.out.size))
 have RM := lhd hrm
 clear hrm hb B1
 have hA := btApply_any rm0 s vN vS vW vL w2 RM.out right_rm0 (fun x h => by cases h) H5.out
 have hE : decE s = 0 := by unfold decE; rw [H2.out]; rfl
 rw [hE, H2.out] at hA
 have HA := lhd hA
 clear hA hE
 go_wp2_with fail
 refine HA.out.mono ?_
 rintro e w3 ⟨uN, uS, uW, uL, vR, rfl, hom, hor, hb⟩
 have hz : (some [oB]).getD [] = [oB] := rfl
 rw [hz] at hom hor ⊢
 have hl1 : (foldR rm0 [oB]).2.1.length = 1 := foldR_len rm0 [oB]
 have hl2 := alive_B3
 obtain ⟨y, hy⟩ : ∃ y, foldR rm0 [oB] = y := ⟨_, rfl⟩
 rw [hy] at hom hor hl1 hl2 ⊢
 obtain ⟨Ba, ca, hu1⟩ := hom.n.shape
 obtain ⟨Bb, cb, hu2⟩ := hom.s.shape
 obtain ⟨Bc, cc, hu3⟩ := hom.t.shape
 obtain ⟨Bd, cd, hu4, -, -⟩ := hom.l.rd.shape
 obtain ⟨Be, ce, hu5, -, -⟩ := hor.rd.shape
 obtain ⟨mb, hm2⟩ : ∃ q, (mS y.1).length = q := ⟨_, rfl⟩
 obtain ⟨mc, hm3⟩ : ∃ q, (mW y.1).length = q := ⟨_, rfl⟩
 obtain ⟨md, hm4⟩ : ∃ q, (mL y.1).length = q := ⟨_, rfl⟩
 rw [hl2] at hu1
 rw [hm2] at hu2
 rw [hm3] at hu3
 rw [hm4] at hu4
 rw [hl1] at hu5
 subst hu1 hu2 hu3 hu4 hu5
 have B3 := lhd (B2.out.trans (hb.mono B2.out.size))
 clear hom hor hb hl1 hl2 hy hm2 hm3 hm4 hz RM HA H5 H2 B2
 go_wp2_with (refine wpList_alloc_blk rfl 50 rfl (rmc 0 (.slice none 0 0) (.slice none 0 0) (.slice none 0 0) (.slice none 0 0)) zeroRmP ?_)
 intro w4 a1 a2 a3
 obtain ⟨g, hg⟩ : ∃ g, w3.heap.size = g := ⟨_, rfl⟩
 have A1 := lhd a1
 have B4 := lhd a3
 have HG := lhd hg
 rw [hg] at A1 ⊢
 clear a1 a2 a3 hg
 go_wp2_with (refine wpList_store_to rfl 50 _ _ rfl g (rmc (mT y.1) (.slice Ba 2 ca) (.slice Bb mb cb) (.slice Bc mc cc) (.slice Bd md cd)) (rmc 0 (.slice none 0 0) (.slice none 0 0) (.slice none 0 0) (.slice none 0 0)) 50 rfl rfl A1.out szRmP rfl (rmc_all _ _ _ _ _ _ _ _ _ _ _ _ _) ?_)
 intro w5 e1 e2 e3 e4
 have A5 := lhd e1
 have B5 : Hid (Below w.heap.size w w5) := lhd (B3.out.trans ((B4.out.trans (by rw [HG.out]; exact e3)).mono B3.out.size))
 clear e1 e2 e3 e4 A1 B4 B3 HG
 go_wp2_with fail
 refine (btDecode_any [] w5 (by simp)).mono ?_
 rintro e w6 ⟨vO, rfl, -, hb⟩
 rw [alive_B4]
 have A6 := A5.out.below hb A5.out.lt
 have B6 := lhd (B5.out.trans (hb.mono B5.out.size))
 have c0 := A6.at_ 0 _ rfl
 clear hb A5 A6 B5
 go_wp2
 go_ret
 exact ⟨rfl, B6.out⟩
theorem encV_few (l : List Or) : (encV l).length ≤ 1000000 := by
 unfold encV
 split
 ·rename_i h
  have h10 : ¬ 10 < l.length := by
   intro h1
   unfold encE at h
   rw [if_pos h1] at h
   cases h
  have ha : l.all mayO = true := by
   unfold encE at h
   rw [if_neg h10] at h
   by_cases h2 : l.all mayO = true
   ·exact h2
   ·rw [if_neg h2] at h
    cases h
  have h1 := encOs_len l (fun o ho => List.all_eq_true.1 ha o ho)
  have h3 := enc_length l.length
  have h4 := wid_le l.length
  unfold encB
  rw [List.length_append]
  omega
 ·exact Nat.zero_le _
end Go.Proofs.YtgfobinklijkpaaGreatDoor
