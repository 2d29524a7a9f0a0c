/-
  Texts BG KF BI BJ KO BL.
-/
import Derived.Test.YtgfobinklijkpaaGreatDoorV01
import Derived.Deep.Strs
import Derived.Deep.Grids
import Derived.Test.YtgfobinklijkpaaGreatDoorV07
import Derived.Test.YtgfobinklijkpaaGreatDoorV08
import Derived.Test.YtgfobinklijkpaaGreatDoorV19
import Derived.Test.YtgfobinklijkpaaGreatDoorV20
import Derived.Test.YtgfobinklijkpaaGreatDoorV31
import Derived.Test.YtgfobinklijkpaaGreatDoorV41
namespace Go.Proofs.YtgfobinklijkpaaGreatDoor
set_option maxRecDepth 100000
set_option maxHeartbeats 16000000
open Go.RowKit
def ApO (y : Rm × List Rp × List Ev) (f : Int) (w : World) (e : Ending) (w' : World) : Prop :=
 ∃ vN vS vW vL vR, e = .returned (.tuple #[.agg (rmc (mT y.1) vN vS vW vL).toArray, vR, .int .i64 f]) ∧ OwnRm w.heap.size w' vN vS vW vL y.1 ∧ OwnRps 79 9 w.heap.size w' vR y.2.1 ∧ Below w.heap.size w w'
theorem OwnRm.base2 {b b' : Nat} {w : World} {vN vS vW vL : Value} {r : Rm} (h : OwnRm b w vN vS vW vL r) (hb : b' ≤ b) : OwnRm b' w vN vS vW vL r := h.base hb
theorem OwnRps.base2 {e es : TypeId} {b b' : Nat} {w : World} {v : Value} {l : List Rp} (h : OwnRps e es b w v l) (hb : b' ≤ b) : OwnRps e es b' w v l := by
 obtain ⟨ss, h1, h2, h3⟩ := h
 exact ⟨ss, h1, h2.base hb, fun j hj => (h3 j hj).base hb⟩
theorem btApply_any (r : Rm) (s : List UInt8) (vN vS vW vL : Value) (w : World) (hr : RdRm w.heap.size w vN vS vW vL r) (hR : RightR r) (hn : NamesR (mL r)) (hs : s.length ≤ 1000000) :
 Calls Tryz.prog 21 #[.agg (rmc (mT r) vN vS vW vL).toArray, txt s] w (ApO (foldR r ((decB s).getD [])) (decE s) w) := by
 obtain ⟨AN, cN, hv, -, -⟩ := hr.n.shape
 obtain ⟨nN, hnN⟩ : ∃ q, (mN r).length = q := ⟨_, rfl⟩
 rw [hnN] at hv
 subst hv
 obtain ⟨AS, cS, hv, -, -⟩ := hr.s.shape
 obtain ⟨nS, hnS⟩ : ∃ q, (mS r).length = q := ⟨_, rfl⟩
 rw [hnS] at hv
 subst hv
 obtain ⟨AW, cW, hv, -, -⟩ := hr.t.shape
 obtain ⟨nW, hnW⟩ : ∃ q, (mW r).length = q := ⟨_, rfl⟩
 rw [hnW] at hv
 subst hv
 obtain ⟨AL, cL, hv, -, -⟩ := hr.l.shape
 obtain ⟨nL, hnL⟩ : ∃ q, (mL r).length = q := ⟨_, rfl⟩
 rw [hnL] at hv
 subst hv
 have HRD := lhd hr
 have HR := lhd hR
 have HNM := lhd hn
 have HS := lhd hs
 clear hr hR hn hs hnN hnS hnW hnL
 have hfew : ((decB s).getD []).length ≤ 1000 ∧ ∀ o ∈ (decB s).getD [], fitI (oS o) := by
  cases hd : decB s with
  | none => exact ⟨Nat.zero_le _, fun o ho => by cases ho⟩
  | some l =>
    have h := decB_only s l hd
    exact ⟨by have := h.2.1; show l.length ≤ 1000; omega, fun o ho => (h.2.2 o ho).2.2.1⟩
 obtain ⟨l, hl⟩ : ∃ l, (decB s).getD [] = l := ⟨_, rfl⟩
 obtain ⟨f, hf⟩ : ∃ f, decE s = f := ⟨_, rfl⟩
 rw [hl] at hfew
 have HFW := lhd hfew
 have HF := lhd hf
 have HLL := lhd hl
 rw [hl, hf]
 clear hfew hf hl
 obtain ⟨dR, huR, hdR⟩ := rowRmP
 go_enter Tryz.func21, Tryz.ntmps21
 go_wp2_with (refine wpList_box_blk rfl 50 _ rfl (rmc (mT r) (.slice AN nN cN) (.slice AS nS cS) (.slice AW nW cW) (.slice AL nL cL)) rfl ?_)
 intro w1 b1 b2 b3
 go_wp2_with (refine wpList_alloc_blk rfl 50 rfl (rmc 0 (.slice none 0 0) (.slice none 0 0) (.slice none 0 0) (.slice none 0 0)) zeroRmP ?_)
 intro w2 e1 e2 e3
 obtain ⟨B, hB⟩ : ∃ g, w.heap.size = g := ⟨_, rfl⟩
 obtain ⟨g4, hg4⟩ : ∃ g, w.heap.size + 1 = g := ⟨_, rfl⟩
 have X2 := lhd (b1.below e3 (by omega))
 have X4 := lhd e1
 have HB := lhd (b3.trans (e3.mono (by omega)))
 have hB4 : B ≤ g4 := by omega
 have hs2 : B ≤ w2.heap.size := by omega
 rw [hg4] at X4 ⊢
 rw [hB] at X2 HB ⊢
 have HBB := lhd hB
 clear b1 b2 b3 e1 e2 e3 hg4
 go_wp2_with fail
 refine (btDecode_any s w2 HS.out).mono ?_
 rintro e w3 ⟨vO, rfl, hrd, hb⟩
 have HFD : Hid ((if (decB s).isSome = true then (0 : Int) else 3) = f) := lhd HF.out
 obtain ⟨f2, hf2⟩ : ∃ f2, (if (decB s).isSome = true then (0 : Int) else 3) = f2 := ⟨_, rfl⟩
 rw [hf2] at HFD ⊢
 rw [HLL.out] at hrd
 have HO := lhd hrd
 have X23 := lhd (X2.out.below hb X2.out.lt)
 have X43 := lhd (X4.out.below hb X4.out.lt)
 have HB3 := lhd (HB.out.trans (hb.mono hs2))
 have hs3 := HB3.out.size
 have h4l : g4 < w3.heap.size := X43.out.lt
 rw [hB] at hs3
 have HRD3 : Hid (RdRm w3.heap.size w3 (.slice AN nN cN) (.slice AS nS cS) (.slice AW nW cW) (.slice AL nL cL) r) := lhd (HRD.out.belowM (by rw [hB]; exact HB3.out))
 obtain rfl : f2 = f := HFD.out
 clear hrd hb hf2 X2 X4 HB hs2 HFD HRD hB
 go_wp2_with (first | refine wpList_load_part rfl 50 _ rfl B 0 (rmc (mT r) (.slice AN nN cN) (.slice AS nS cS) (.slice AW nW cW) (.slice AL nL cL)) (rmc (mT r) (.slice AN nN cN) (.slice AS nS cS) (.slice AW nW cW) (.slice AL nL cL)) 50 rfl X23.out rfl huR hdR szRmP ?_ | fail)
 refine (rmFold_any r l (.slice AN nN cN) (.slice AS nS cS) (.slice AW nW cW) (.slice AL nL cL) vO w3 HRD3.out HR.out HNM.out HO.out HFW.out.1 HFW.out.2).mono ?_
 rintro e w5 ⟨uN, uS, uW, uL, vR, vE, rfl, hom, hor, -, hb⟩
 obtain ⟨y, hy⟩ : ∃ y, foldR r l = y := ⟨_, rfl⟩
 have HYY := lhd hy
 rw [hy] at hom hor ⊢
 obtain ⟨Ba, ca, hu1⟩ := hom.n.shape
 obtain ⟨Bb, cb, hu2⟩ := hom.s.shape
 obtain ⟨Bc, cc, hu3⟩ := hom.t.shape
 obtain ⟨Bd, cd, hu4, -, -⟩ := hom.l.rd.shape
 obtain ⟨ma, hm1⟩ : ∃ q, (mN y.1).length = q := ⟨_, rfl⟩
 obtain ⟨mb, hm2⟩ : ∃ q, (mS y.1).length = q := ⟨_, rfl⟩
 obtain ⟨mc, hm3⟩ : ∃ q, (mW y.1).length = q := ⟨_, rfl⟩
 obtain ⟨md, hm4⟩ : ∃ q, (mL y.1).length = q := ⟨_, rfl⟩
 rw [hm1] at hu1
 rw [hm2] at hu2
 rw [hm3] at hu3
 rw [hm4] at hu4
 subst hu1 hu2 hu3 hu4
 obtain ⟨RD, hRD⟩ : ∃ q : List Value, rmc (mT y.1) (.slice Ba ma ca) (.slice Bb mb cb) (.slice Bc mc cc) (.slice Bd md cd) = q := ⟨_, rfl⟩
 have hDA : RD.toArray.all (·.oneCell') = true := by rw [← hRD]; exact rmc_all _ _ _ _ _ _ _ _ _ _ _ _ _
 have hDL : RD.length = 5 := by rw [← hRD]; rfl
 have HRD2 := lhd hRD
 have HDL := lhd hDL
 rw [hRD]
 have OM := lhd hom
 have OR := lhd hor
 have X45 := lhd (X43.out.below hb X43.out.lt)
 have HB5 := lhd (HB3.out.trans (hb.mono hs3))
 have hs5 := hb.size
 clear hRD hDL hm1 hm2 hm3 hm4 hom hor hb X23 X43 HB3 HO HRD3 hy
 go_wp2_with (refine wpList_alloc_blk rfl 50 rfl (rmc 0 (.slice none 0 0) (.slice none 0 0) (.slice none 0 0) (.slice none 0 0)) zeroRmP ?_)
 intro w6 a1 a2 a3
 obtain ⟨gA, hgA⟩ : ∃ g, w5.heap.size = g := ⟨_, rfl⟩
 have A1 := lhd a1
 have B6 := lhd a3
 have hne : g4 ≠ gA := by omega
 rw [hgA] at A1 ⊢
 have HGA := lhd hgA
 clear a1 a2 a3 hgA
 go_wp2_with (refine wpList_store_to rfl 50 _ _ rfl gA RD (rmc 0 (.slice none 0 0) (.slice none 0 0) (.slice none 0 0) (.slice none 0 0)) 50 rfl rfl A1.out (by rw [HDL.out]; exact szRmP) (by rw [HDL.out]; rfl) hDA ?_)
 intro w7 e1 e2 e3 e4
 have A2 := lhd e1
 have B7 : Hid (Below w5.heap.size w5 w7) := lhd (B6.out.trans (by rw [HGA.out]; exact e3))
 have X47 := lhd (X45.out.below B7.out X45.out.lt)
 have OM7 := lhd (OM.out.below B7.out)
 have OR7 := lhd (OR.out.below B7.out)
 have HB7 := lhd (HB5.out.trans (B7.out.mono (Nat.le_trans hs3 hs5)))
 clear e1 e2 e3 e4 A1 B6 X45 OM OR HB5 B7 HGA
 go_wp2_with (first | refine wpList_load_part rfl 50 _ rfl gA 0 RD RD 50 rfl A2.out (by simp) huR hdR (by rw [HDL.out]; exact szRmP) ?_ | refine wpList_store_to rfl 50 _ _ rfl g4 RD (rmc 0 (.slice none 0 0) (.slice none 0 0) (.slice none 0 0) (.slice none 0 0)) 50 rfl rfl X47.out (by rw [HDL.out]; exact szRmP) (by rw [HDL.out]; rfl) hDA ?_)
 intro w8 e1 e2 e3 e4
 have V4 := lhd e1
 have KR := lhd (Keep.store (T := fun e => e = 50) (b := B) X47.out rfl hB4 e2 e4)
 have OM8 := lhd (OM7.out.same (fun k hk => e4 k (by omega)))
 have OR8 := lhd (OR7.out.keep KR.out (by decide) (by decide))
 have HB8 := lhd (HB7.out.trans (e3.mono hB4))
 clear e1 e2 e3 e4 KR X47 OM7 OR7 HB7 A2
 go_wp2
 refine bodyPost_ret (v := .tuple #[.agg RD.toArray, vR, .int .i64 f2]) ?_ rfl ?_
 ·exact ret_blk3K rfl _ _ g4 50 RD vR (.int .i64 f2) rfl rfl rfl V4.out dR huR hdR (by rw [HDL.out]; exact szRmP)
 ·rw [HYY.out]
  refine ⟨_, _, _, _, vR, by rw [HRD2.out], ?_, ?_, ?_⟩
  all_goals rw [HBB.out]
  ·exact OM8.out.base2 hs3
  ·exact OR8.out.base2 hs3
  ·exact HB8.out
theorem right_rm0 : RightR rm0 := ⟨(rightN_iff _).1 (by decide +kernel), (rightS_iff _ _).1 (by decide +kernel), (rightW_iff _).1 (by decide +kernel), Nat.zero_le _, fun x h => absurd h (by simp [rm0, mL]), List.Pairwise.nil⟩
def oB : Or := (1, 1, 1, [47, 97], [], 0, 0, 0)
theorem may_oB : mayO oB = true := by decide +kernel
theorem fits_oB : fitsO oB := ⟨⟨by decide, by decide⟩, ⟨by decide, by decide⟩, ⟨by decide, by decide⟩⟩
theorem alive_B1 : encE [oB] = 0 ∧ encV [oB] = encB [oB] := by
 have h := enc_good [oB] (by decide) (fun j hj => by
  have : j = 0 := by simp at hj; omega
  subst this
  exact may_oB)
 exact ⟨h.2, h.1⟩
theorem alive_B2 : decB (encV [oB]) = some [oB] := by
 rw [alive_B1.2]
 exact decB_enc [oB] (by decide) (fun o ho => by
  obtain rfl := List.mem_singleton.1 ho
  exact ⟨may_oB, fits_oB⟩)
theorem alive_B3 : (mN (foldR rm0 [oB]).1).length = 2 := by decide +kernel
theorem alive_B4 : decB [] = none := decB_few [] (.inl (by decide))
theorem alive_B5 : (encV [oB]).length ≤ 1000000 := by rw [alive_B1.2]; decide +kernel
theorem alive14 (w : World) : Calls Tryz.prog 8 #[] w (One (.bool true) w) := by
 obtain ⟨dR, huR, hdR⟩ := rowRmP
 go_enter Tryz.func8, Tryz.ntmps8
 have hba : Below w.heap.size w (w.alloc (.cells (orc oB).toArray 86)) := (Below.refl w.heap.size w).alloc (Nat.le_refl _) _
 have hr0 := RdE.one (E := OrK) w 86 oB
 have hsz1 : (w.alloc (.cells (orc oB).toArray 86)).heap.size = w.heap.size + 1 := by simp
 have hr1 : RdE OrK (w.alloc (.cells (orc oB).toArray 86)).heap.size (w.alloc (.cells (orc oB).toArray 86)) (.slice (some ⟨w.heap.size, 0, none⟩) 1 1) [oB] := by rw [hsz1]; exact hr0
 have HR := lhd hr1
 have HB := lhd hba
 clear hba hr0 hr1 hsz1
 go_wp2_with fail
 refine (btEncode_any [oB] (.slice (some ⟨w.heap.size, 0, none⟩) 1 1) _ HR.out (fun o ho => by
  obtain rfl := List.mem_singleton.1 ho
  exact fits_oB)).mono ?_
 rintro e w1 ⟨rfl, hb⟩
 have B1 := lhd (HB.out.trans (hb.mono HB.out.size))
 obtain ⟨s, hs⟩ : ∃ s, encV [oB] = s := ⟨_, rfl⟩
 have h2 := alive_B2
 have h5 := alive_B5
 rw [hs] at h2 h5 ⊢
 rw [alive_B1.1]
 have H2 := lhd h2
 have H5 := lhd h5
 clear hb hs h2 h5 HR HB
 go_wp2_with fail
 refine (rmNew_any w1).mono ?_
 rintro e w2 ⟨vN, vS, vW, vL, rfl, hrm, hb⟩
 have B2 := lhd (B1.out.trans (hb.mono B1.out.size))
 have RM := lhd hrm
 clear hrm hb B1
 have hA := btApply_any rm0 s vN vS vW vL w2 RM.out right_rm0 (fun x h => by cases h) H5.out
 have hE : decE s = 0 := by unfold decE; rw [H2.out]; rfl
 rw [hE, H2.out] at hA
 have HA := lhd hA
 clear hA hE
 go_wp2_with fail
 refine HA.out.mono ?_
 rintro e w3 ⟨uN, uS, uW, uL, vR, rfl, hom, hor, hb⟩
 have hz : (some [oB]).getD [] = [oB] := rfl
 rw [hz] at hom hor ⊢
 have hl1 : (foldR rm0 [oB]).2.1.length = 1 := foldR_len rm0 [oB]
 have hl2 := alive_B3
 obtain ⟨y, hy⟩ : ∃ y, foldR rm0 [oB] = y := ⟨_, rfl⟩
 rw [hy] at hom hor hl1 hl2 ⊢
 obtain ⟨Ba, ca, hu1⟩ := hom.n.shape
 obtain ⟨Bb, cb, hu2⟩ := hom.s.shape
 obtain ⟨Bc, cc, hu3⟩ := hom.t.shape
 obtain ⟨Bd, cd, hu4, -, -⟩ := hom.l.rd.shape
 obtain ⟨Be, ce, hu5, -, -⟩ := hor.rd.shape
 obtain ⟨mb, hm2⟩ : ∃ q, (mS y.1).length = q := ⟨_, rfl⟩
 obtain ⟨mc, hm3⟩ : ∃ q, (mW y.1).length = q := ⟨_, rfl⟩
 obtain ⟨md, hm4⟩ : ∃ q, (mL y.1).length = q := ⟨_, rfl⟩
 rw [hl2] at hu1
 rw [hm2] at hu2
 rw [hm3] at hu3
 rw [hm4] at hu4
 rw [hl1] at hu5
 subst hu1 hu2 hu3 hu4 hu5
 have B3 := lhd (B2.out.trans (hb.mono B2.out.size))
 clear hom hor hb hl1 hl2 hy hm2 hm3 hm4 hz RM HA H5 H2 B2
 go_wp2_with (refine wpList_alloc_blk rfl 50 rfl (rmc 0 (.slice none 0 0) (.slice none 0 0) (.slice none 0 0) (.slice none 0 0)) zeroRmP ?_)
 intro w4 a1 a2 a3
 obtain ⟨g, hg⟩ : ∃ g, w3.heap.size = g := ⟨_, rfl⟩
 have A1 := lhd a1
 have B4 := lhd a3
 have HG := lhd hg
 rw [hg] at A1 ⊢
 clear a1 a2 a3 hg
 go_wp2_with (refine wpList_store_to rfl 50 _ _ rfl g (rmc (mT y.1) (.slice Ba 2 ca) (.slice Bb mb cb) (.slice Bc mc cc) (.slice Bd md cd)) (rmc 0 (.slice none 0 0) (.slice none 0 0) (.slice none 0 0) (.slice none 0 0)) 50 rfl rfl A1.out szRmP rfl (rmc_all _ _ _ _ _ _ _ _ _ _ _ _ _) ?_)
 intro w5 e1 e2 e3 e4
 have A5 := lhd e1
 have B5 : Hid (Below w.heap.size w w5) := lhd (B3.out.trans ((B4.out.trans (by rw [HG.out]; exact e3)).mono B3.out.size))
 clear e1 e2 e3 e4 A1 B4 B3 HG
 go_wp2_with fail
 refine (btDecode_any [] w5 (by simp)).mono ?_
 rintro e w6 ⟨vO, rfl, -, hb⟩
 rw [alive_B4]
 have A6 := A5.out.below hb A5.out.lt
 have B6 := lhd (B5.out.trans (hb.mono B5.out.size))
 have c0 := A6.at_ 0 _ rfl
 clear hb A5 A6 B5
 go_wp2
 go_ret
 exact ⟨rfl, B6.out⟩
theorem encV_few (l : List Or) : (encV l).length ≤ 1000000 := by
 unfold encV
 split
 ·rename_i h
  have h10 : ¬ 10 < l.length := by
   intro h1
   unfold encE at h
   rw [if_pos h1] at h
   cases h
  have ha : l.all mayO = true := by
   unfold encE at h
   rw [if_neg h10] at h
   by_cases h2 : l.all mayO = true
   ·exact h2
   ·rw [if_neg h2] at h
    cases h
  have h1 := encOs_len l (fun o ho => List.all_eq_true.1 ha o ho)
  have h3 := enc_length l.length
  have h4 := wid_le l.length
  unfold encB
  rw [List.length_append]
  omega
 ·exact Nat.zero_le _
theorem encE_zero (l : List Or) (h : encE l = 0) : encV l = encB l ∧ l.length ≤ 10 ∧ ∀ o ∈ l, mayO o = true := by
 have h10 : ¬ 10 < l.length := by
  intro h1
  unfold encE at h
  rw [if_pos h1] at h
  cases h
 refine ⟨by unfold encV; rw [if_pos h], by omega, ?_⟩
 unfold encE at h
 rw [if_neg h10] at h
 by_cases h2 : l.all mayO = true
 ·exact fun o ho => List.all_eq_true.1 h2 o ho
 ·rw [if_neg h2] at h
  cases h
theorem back14_all (l : List Or) (v : Value) (s : List UInt8) (w : World) (hr : RdE OrK w.heap.size w v l) (hf : ∀ o ∈ l, fitsO o) : Calls Tryz.prog 5 #[v, txt s] w (One (.bool true) w) := by
 obtain ⟨A, cp, rfl, hc, hm⟩ := hr.shape
 unfold maxLen at hm
 obtain ⟨n, hn⟩ : ∃ n, l.length = n := ⟨_, rfl⟩
 have HN := lhd hn
 have HR := lhd hr
 have HF := lhd hf
 rw [hn] at hc HR
 rw [hn]
 obtain ⟨k, hk⟩ : ∃ k, s.length = k := ⟨_, rfl⟩
 have hkz : (⟨s.toArray⟩ : ByteArray).size = k := hk
 have HKS := lhd hk
 clear hr hf hn hk
 go_enter Tryz.func5, Tryz.ntmps5
 go_wp2_with fail
 refine (short14 l (.slice A n cp) w HR.out).mono ?_
 rintro e w1 ⟨bs, rfl, hS, hb⟩
 have B1 := lhd hb
 have HS := lhd hS
 clear hb hS
 cases bs with
 | false =>
   go_wp2_with fail
   refine (alive14 w1).mono ?_
   rintro e wz ⟨rfl, hb⟩
   have BZ := lhd (B1.out.trans (hb.mono B1.out.size))
   clear hb
   go_wp2
   go_ret
   exact ⟨rfl, BZ.out⟩
 | true =>
 have hn30 : n ≤ 30 := by rw [← HN.out]; exact HS.out rfl
 clear HS
 by_cases hk6 : (6000 : Int) < (k : Int)
 ·go_wp2_with fail
  refine (alive14 w1).mono ?_
  rintro e wz ⟨rfl, hb⟩
  have BZ := lhd (B1.out.trans (hb.mono B1.out.size))
  clear hb
  go_wp2
  go_ret
  exact ⟨rfl, BZ.out⟩
 have HK : Hid (s.length ≤ 6000) := lhd (by rw [HKS.out]; omega)
 go_wp2_with fail
 refine (btEncode_any l (.slice A n cp) w1 ((HR.out.below B1.out).more B1.out.size) HF.out).mono ?_
 rintro e w2 ⟨rfl, hb⟩
 have B2 := lhd (B1.out.trans (hb.mono B1.out.size))
 have hz := encE_zero l
 have hfew := encV_few l
 have hbad : encE l ≠ 0 → encV l = [] := fun h => by unfold encV; rw [if_neg h]
 obtain ⟨X, hX⟩ : ∃ X, encV l = X := ⟨_, rfl⟩
 obtain ⟨E, hE⟩ : ∃ E, encE l = E := ⟨_, rfl⟩
 rw [hX, hE] at hz hbad
 rw [hX] at hfew
 rw [hX, hE]
 have HZ := lhd hz
 have HFW := lhd hfew
 have HBD := lhd hbad
 clear hb hz hfew hX hE hbad B1
 go_wp2_with fail
 refine (btDecode_any X w2 HFW.out).mono ?_
 rintro e w3 ⟨va, rfl, hra, hb⟩
 have B3 := lhd (B2.out.trans (hb.mono B2.out.size))
 have RA := lhd hra
 clear hb hra B2
 by_cases hE0 : E = 0
 ·subst hE0
  have h1 := HZ.out rfl
  have hdl := decB_enc l h1.2.1 (fun o ho => ⟨h1.2.2 o ho, HF.out o ho⟩)
  rw [← h1.1] at hdl
  have hra := RA.out
  rw [hdl] at hra ⊢
  have RA1 : Hid (RdE OrK w3.heap.size w3 va l) := lhd hra
  have hisl : (if (some l).isSome = true then (0 : Int) else 3) = 0 := rfl
  rw [hisl]
  clear hra RA h1 hdl hisl HZ HBD
  go_wp2_with fail
  refine (all14_any l va w3 RA1.out (by rw [HN.out]; omega)).mono ?_
  rintro e w4 ⟨vx, rfl, hox, hb⟩
  have O4 := lhd hox
  have B4 := lhd (B3.out.trans (hb.mono B3.out.size))
  clear hox hb B3 RA1
  go_wp2_with fail
  refine (all14_any l (.slice A n cp) w4 ((HR.out.below B4.out).more B4.out.size) (by rw [HN.out]; omega)).mono ?_
  rintro e w5 ⟨vy, rfl, hoy, hb⟩
  have O5 := lhd ((O4.out.below hb (Nat.le_refl _)).rd)
  have OY := lhd hoy.rd
  have B5 := lhd (B4.out.trans (hb.mono B4.out.size))
  clear hoy hb B4 O4
  go_wp2_with fail
  refine (same14_any l l vx vy w5 O5.out OY.out).mono ?_
  rintro e W9 ⟨rfl, hb⟩
  rw [decide_eq_true (rfl : l = l)]
  have B9 := lhd (B5.out.trans (hb.mono B5.out.size))
  clear hb B5 O5 OY
  go_wp2_with fail
  refine (btDecode_any s W9 (by have := HK.out; omega)).mono ?_
  rintro e wa ⟨vb, rfl, hrb, hb⟩
  have Ba := lhd (B9.out.trans (hb.mono B9.out.size))
  have RB := lhd hrb
  clear hrb hb B9
  cases hd : decB s with
  | none =>
    have HD := lhd hd
    have hrb := RB.out
    rw [hd] at hrb
    have RB0 : Hid (RdE OrK wa.heap.size wa vb []) := lhd hrb
    clear hd hrb RB
    go_wp2_with fail
    refine (btEncode_any [] vb wa RB0.out (fun o ho => by cases ho)).mono ?_
    rintro e wb ⟨rfl, hb⟩
    have Bb := lhd (Ba.out.trans (hb.mono Ba.out.size))
    clear hb Ba RB0
    go_wp2_with fail
    refine (alive14 wb).mono ?_
    rintro e wc ⟨rfl, hb⟩
    have Bc := lhd (Bb.out.trans (hb.mono Bb.out.size))
    clear hb Bb
    go_wp2
    go_ret
    exact ⟨rfl, Bc.out⟩
  | some m =>
    have hm := decB_only s m hd
    have hrb := RB.out
    rw [hd] at hrb
    have RB1 : Hid (RdE OrK wa.heap.size wa vb m) := lhd hrb
    have hg := enc_good m (by omega) (fun j hj => (hm.2.2 _ (or_mem m j hj)).1)
    rw [hm.1] at hg
    have HM := lhd hm
    have HGD := lhd hg
    clear hd hrb RB hm hg
    go_wp2_with fail
    refine (btEncode_any m vb wa RB1.out (fun o ho => (HM.out.2.2 o ho).2)).mono ?_
    rintro e wb ⟨rfl, hb⟩
    rw [HGD.out.1, HGD.out.2]
    have Bb := lhd (Ba.out.trans (hb.mono Ba.out.size))
    clear hb Ba RB1
    go_wp2_with fail
    refine (alive14 wb).mono ?_
    rintro e wc ⟨rfl, hb⟩
    have Bc := lhd (Bb.out.trans (hb.mono Bb.out.size))
    clear hb Bb
    go_wp2
    go_ret
    exact ⟨rfl, Bc.out⟩
 ·have hEz : (E == 0) = false := int_neE _ _ hE0
  have hEn : (E != 0) = true := by rw [bne_iff_ne]; exact hE0
  have hX := HBD.out hE0
  subst hX
  have B9 := B3
  obtain ⟨W9, hW9⟩ : ∃ W9, w3 = W9 := ⟨_, rfl⟩
  subst hW9
  go_wp2_with fail
  refine (btDecode_any s w3 (by have := HK.out; omega)).mono ?_
  rintro e wa ⟨vb, rfl, hrb, hb⟩
  have Ba := lhd (B9.out.trans (hb.mono B9.out.size))
  have RB := lhd hrb
  clear hrb hb B9
  cases hd : decB s with
  | none =>
    have HD := lhd hd
    have hrb := RB.out
    rw [hd] at hrb
    have RB0 : Hid (RdE OrK wa.heap.size wa vb []) := lhd hrb
    clear hd hrb RB
    go_wp2_with fail
    refine (btEncode_any [] vb wa RB0.out (fun o ho => by cases ho)).mono ?_
    rintro e wb ⟨rfl, hb⟩
    have Bb := lhd (Ba.out.trans (hb.mono Ba.out.size))
    clear hb Ba RB0
    go_wp2_with fail
    refine (alive14 wb).mono ?_
    rintro e wc ⟨rfl, hb⟩
    have Bc := lhd (Bb.out.trans (hb.mono Bb.out.size))
    clear hb Bb
    go_wp2
    go_ret
    exact ⟨rfl, Bc.out⟩
  | some m =>
    have hm := decB_only s m hd
    have hrb := RB.out
    rw [hd] at hrb
    have RB1 : Hid (RdE OrK wa.heap.size wa vb m) := lhd hrb
    have hg := enc_good m (by omega) (fun j hj => (hm.2.2 _ (or_mem m j hj)).1)
    rw [hm.1] at hg
    have HM := lhd hm
    have HGD := lhd hg
    clear hd hrb RB hm hg
    go_wp2_with fail
    refine (btEncode_any m vb wa RB1.out (fun o ho => (HM.out.2.2 o ho).2)).mono ?_
    rintro e wb ⟨rfl, hb⟩
    rw [HGD.out.1, HGD.out.2]
    have Bb := lhd (Ba.out.trans (hb.mono Ba.out.size))
    clear hb Ba RB1
    go_wp2_with fail
    refine (alive14 wb).mono ?_
    rintro e wc ⟨rfl, hb⟩
    have Bc := lhd (Bb.out.trans (hb.mono Bb.out.size))
    clear hb Bb
    go_wp2
    go_ret
    exact ⟨rfl, Bc.out⟩
open Go.RowKit Go.ChangeShapes Go.WideShapes
theorem nTxK : Tryz.prog.cellsOf 9 = 1 := by kernel_rfl
theorem nInK : Tryz.prog.cellsOf 3 = 1 := by kernel_rfl
theorem nOrK : Tryz.prog.cellsOf 86 = 8 := by kernel_rfl
theorem txt_ofK (s : ByteArray) : Value.string s = txt s.data.toList := by
 cases s
 simp [txt]
theorem split8K (cs : List Value) (h : cs.length = 8) : cs = (cs.drop 0).take 1 ++ ((cs.drop 1).take 1 ++ ((cs.drop 2).take 1 ++ ((cs.drop 3).take 1 ++ ((cs.drop 4).take 1 ++ ((cs.drop 5).take 1 ++ ((cs.drop 6).take 1 ++ ((cs.drop 7).take 1))))))) := by
 match cs, h with
 | [_, _, _, _, _, _, _, _], _ => rfl
section
variable {H : Type} {enc : TypeId × Value → H} {P : Program} {w : World} {base : Nat} {spare : TypeId → Bool} {held : Bool}
theorem trod_struct8K {t : TypeId} {f0 f1 f2 f3 f4 f5 f6 f7 : Field} {fuel : Nat} {cs : List Value} {x : DataW H × List MemPlace} (ht : P.underlying t = some (.struct #[f0, f1, f2, f3, f4, f5, f6, f7])) (h : DataW.trod enc P w base spare held fuel t cs = some x) :
 ∃ y0 y1 y2 y3 y4 y5 y6 y7 n, cs.length = P.cellsOf t ∧ DataW.trod enc P w base spare held n f0.type ((cs.drop f0.offset).take (P.cellsOf f0.type)) = some y0 ∧ DataW.trod enc P w base spare held n f1.type ((cs.drop f1.offset).take (P.cellsOf f1.type)) = some y1 ∧ DataW.trod enc P w base spare held n f2.type ((cs.drop f2.offset).take (P.cellsOf f2.type)) = some y2 ∧ DataW.trod enc P w base spare held n f3.type ((cs.drop f3.offset).take (P.cellsOf f3.type)) = some y3 ∧ DataW.trod enc P w base spare held n f4.type ((cs.drop f4.offset).take (P.cellsOf f4.type)) = some y4 ∧ DataW.trod enc P w base spare held n f5.type ((cs.drop f5.offset).take (P.cellsOf f5.type)) = some y5 ∧ DataW.trod enc P w base spare held n f6.type ((cs.drop f6.offset).take (P.cellsOf f6.type)) = some y6 ∧ DataW.trod enc P w base spare held n f7.type ((cs.drop f7.offset).take (P.cellsOf f7.type)) = some y7 := by
 obtain ⟨xs, n, _, rfl, hl, hlen, hf⟩ := DataW.trod_struct ht h
 match xs, hlen with
 | [y0, y1, y2, y3, y4, y5, y6, y7], _ => exact ⟨y0, y1, y2, y3, y4, y5, y6, y7, n, hl, by simpa using hf 0 f0 rfl, by simpa using hf 1 f1 rfl, by simpa using hf 2 f2 rfl, by simpa using hf 3 f3 rfl, by simpa using hf 4 f4 rfl, by simpa using hf 5 f5 rfl, by simpa using hf 6 f6 rfl, by simpa using hf 7 f7 rfl⟩
end
section
variable {H : Type} {enc : TypeId × Value → H} {W : World} {spare : TypeId → Bool} {held : Bool}
end
section
variable {H : Type} {enc : TypeId × Value → H} {W : World} {spare : TypeId → Bool} {held : Bool}
theorem trod_orderB (fuel : Nat) (cs : List Value) (x : DataW H × List MemPlace) (h : DataW.trod enc Tryz.prog W 0 spare held fuel 86 cs = some x) : ∃ o : Or, cs = OrK.enc o ∧ fitsO o := by
 obtain ⟨y0, y1, y2, y3, y4, y5, y6, y7, n, hl, t0, t1, t2, t3, t4, t5, t6, t7⟩ := trod_struct8K Tryz.underlying86 h
 simp only [nTxK, nInK] at t0 t1 t2 t3 t4 t5 t6 t7
 obtain ⟨a0, h0, _, w0⟩ := DataW.trod_int Tryz.underlying3 t0
 obtain ⟨a1, h1, _, w1⟩ := DataW.trod_int Tryz.underlying3 t1
 obtain ⟨a2, h2, _, w2⟩ := DataW.trod_int Tryz.underlying3 t2
 obtain ⟨a3, h3, _, _⟩ := DataW.trod_string Tryz.underlying9 t3
 obtain ⟨a4, h4, _, _⟩ := DataW.trod_string Tryz.underlying9 t4
 obtain ⟨a5, h5, _, w5⟩ := DataW.trod_int Tryz.underlying3 t5
 obtain ⟨a6, h6, _, w6⟩ := DataW.trod_int Tryz.underlying3 t6
 obtain ⟨a7, h7, _, w7⟩ := DataW.trod_int Tryz.underlying3 t7
 refine ⟨(a0, a1, a2, a3.data.toList, a4.data.toList, a5, a6, a7), ?_, fit_wf w5, fit_wf w6, fit_wf w7⟩
 rw [split8K cs (by rw [hl, nOrK]), h0, h1, h2, h3, h4, h5, h6, h7, txt_ofK a3, txt_ofK a4]
 rfl
theorem open_ordersB {r : Reach} {base : Nat} {v : Value} {d : DataW H} {p : List MemPlace}
 (hv : Value.okWide Tryz.prog W r base 22 v) (h : DataW.Trod enc Tryz.prog W 0 spare held 22 v d p) : ∃ l, RdE OrK W.heap.size W v l ∧ ∀ o ∈ l, fitsO o := by
 obtain ⟨a, n, c, rfl⟩ := okWide_slice Tryz.underlying22 hv
 obtain ⟨fuel, hf⟩ := h
 obtain ⟨v', l, hc, hr, hF, _⟩ := open_rowsE (E := OrK) (F := fitsO) Tryz.underlying22 nOrK trod_orderB hf
 obtain rfl : Value.slice a n c = v' := by simpa [Value.cells] using hc
 exact ⟨l, hr, hF⟩
end
end Go.Proofs.YtgfobinklijkpaaGreatDoor
