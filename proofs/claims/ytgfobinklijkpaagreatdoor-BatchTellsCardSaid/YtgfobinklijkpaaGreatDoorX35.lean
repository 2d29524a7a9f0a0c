/-
  Texts BG KF BI BJ BM BN.
-/
import Derived.Test.YtgfobinklijkpaaGreatDoorX01
import Derived.Test.YtgfobinklijkpaaGreatDoorX09
import Derived.Test.YtgfobinklijkpaaGreatDoorX11
import Derived.Test.YtgfobinklijkpaaGreatDoorX12
import Derived.Test.YtgfobinklijkpaaGreatDoorX22
import Derived.Test.YtgfobinklijkpaaGreatDoorX34
namespace Go.Proofs.YtgfobinklijkpaaGreatDoor
set_option maxRecDepth 100000
set_option maxHeartbeats 16000000
open Go.RowKit
def ApO (y : Rm × List Rp × List Ev) (f : Int) (w : World) (e : Ending) (w' : World) : Prop :=
 ∃ vN vS vW vL vR, e = .returned (.tuple #[.agg (rmc (mT y.1) vN vS vW vL).toArray, vR, .int .i64 f]) ∧ OwnRm w.heap.size w' vN vS vW vL y.1 ∧ OwnRps 79 9 w.heap.size w' vR y.2.1 ∧ Below w.heap.size w w'
theorem OwnRm.base2 {b b' : Nat} {w : World} {vN vS vW vL : Value} {r : Rm} (h : OwnRm b w vN vS vW vL r) (hb : b' ≤ b) : OwnRm b' w vN vS vW vL r := h.base hb
theorem OwnRps.base2 {e es : TypeId} {b b' : Nat} {w : World} {v : Value} {l : List Rp} (h : OwnRps e es b w v l) (hb : b' ≤ b) : OwnRps e es b' w v l := by
 obtain ⟨ss, h1, h2, h3⟩ := h
 exact ⟨ss, h1, h2.base hb, fun j hj => (h3 j hj).base hb⟩
theorem btApply_kf (r : Rm) (s : List UInt8) (vN vS vW vL : Value) (w : World) (hr : RdRm w.heap.size w vN vS vW vL r) (hR : RightR r) (hn : NamesR (mL r)) (hs : s.length ≤ 1000000) (hkf : ∀ o ∈ (decB s).getD [], KindFn o) :
 Calls Tryz.prog 21 #[.agg (rmc (mT r) vN vS vW vL).toArray, txt s] w (ApO (foldR r ((decB s).getD [])) (decE s) w) := by
 obtain ⟨AN, cN, hv, -, -⟩ := hr.n.shape
 obtain ⟨nN, hnN⟩ : ∃ q, (mN r).length = q := ⟨_, rfl⟩
 rw [hnN] at hv
 subst hv
 obtain ⟨AS, cS, hv, -, -⟩ := hr.s.shape
 obtain ⟨nS, hnS⟩ : ∃ q, (mS r).length = q := ⟨_, rfl⟩
 rw [hnS] at hv
 subst hv
 obtain ⟨AW, cW, hv, -, -⟩ := hr.t.shape
 obtain ⟨nW, hnW⟩ : ∃ q, (mW r).length = q := ⟨_, rfl⟩
 rw [hnW] at hv
 subst hv
 obtain ⟨AL, cL, hv, -, -⟩ := hr.l.shape
 obtain ⟨nL, hnL⟩ : ∃ q, (mL r).length = q := ⟨_, rfl⟩
 rw [hnL] at hv
 subst hv
 have HRD := lhd hr
 have HR := lhd hR
 have HNM := lhd hn
 have HS := lhd hs
 clear hr hR hn hs hnN hnS hnW hnL
 have hfew : ((decB s).getD []).length ≤ 1000 ∧ ∀ o ∈ (decB s).getD [], KindFn o := by
  refine ⟨?_, hkf⟩
  cases hd : decB s with
  | none => exact Nat.zero_le _
  | some l =>
    have h := decB_only s l hd
    show l.length ≤ 1000
    omega
 clear hkf
 obtain ⟨l, hl⟩ : ∃ l, (decB s).getD [] = l := ⟨_, rfl⟩
 obtain ⟨f, hf⟩ : ∃ f, decE s = f := ⟨_, rfl⟩
 rw [hl] at hfew
 have HFW := lhd hfew
 have HF := lhd hf
 have HLL := lhd hl
 rw [hl, hf]
 clear hfew hf hl
 obtain ⟨dR, huR, hdR⟩ := rowRmP
 go_enter Tryz.func21, Tryz.ntmps21
 go_wp2_with (refine wpList_box_blk rfl 50 _ rfl (rmc (mT r) (.slice AN nN cN) (.slice AS nS cS) (.slice AW nW cW) (.slice AL nL cL)) rfl ?_)
 intro w1 b1 b2 b3
 go_wp2_with (refine wpList_alloc_blk rfl 50 rfl (rmc 0 (.slice none 0 0) (.slice none 0 0) (.slice none 0 0) (.slice none 0 0)) zeroRmP ?_)
 intro w2 e1 e2 e3
 obtain ⟨B, hB⟩ : ∃ g, w.heap.size = g := ⟨_, rfl⟩
 obtain ⟨g4, hg4⟩ : ∃ g, w.heap.size + 1 = g := ⟨_, rfl⟩
 have X2 := lhd (b1.below e3 (by omega))
 have X4 := lhd e1
 have HB := lhd (b3.trans (e3.mono (by omega)))
 have hB4 : B ≤ g4 := by omega
 have hs2 : B ≤ w2.heap.size := by omega
 rw [hg4] at X4 ⊢
 rw [hB] at X2 HB ⊢
 have HBB := lhd hB
 clear b1 b2 b3 e1 e2 e3 hg4
 go_wp2_with fail
 refine (btDecode_any s w2 HS.out).mono ?_
 rintro e w3 ⟨vO, rfl, hrd, hb⟩
 have HFD : Hid ((if (decB s).isSome = true then (0 : Int) else 3) = f) := lhd HF.out
 obtain ⟨f2, hf2⟩ : ∃ f2, (if (decB s).isSome = true then (0 : Int) else 3) = f2 := ⟨_, rfl⟩
 rw [hf2] at HFD ⊢
 rw [HLL.out] at hrd
 have HO := lhd hrd
 have X23 := lhd (X2.out.below hb X2.out.lt)
 have X43 := lhd (X4.out.below hb X4.out.lt)
 have HB3 := lhd (HB.out.trans (hb.mono hs2))
 have hs3 := HB3.out.size
 have h4l : g4 < w3.heap.size := X43.out.lt
 rw [hB] at hs3
 have HRD3 : Hid (RdRm w3.heap.size w3 (.slice AN nN cN) (.slice AS nS cS) (.slice AW nW cW) (.slice AL nL cL) r) := lhd (HRD.out.belowM (by rw [hB]; exact HB3.out))
 obtain rfl : f2 = f := HFD.out
 clear hrd hb hf2 X2 X4 HB hs2 HFD HRD hB
 go_wp2_with (first | refine wpList_load_part rfl 50 _ rfl B 0 (rmc (mT r) (.slice AN nN cN) (.slice AS nS cS) (.slice AW nW cW) (.slice AL nL cL)) (rmc (mT r) (.slice AN nN cN) (.slice AS nS cS) (.slice AW nW cW) (.slice AL nL cL)) 50 rfl X23.out rfl huR hdR szRmP ?_ | fail)
 refine (rmFold_kf r l (.slice AN nN cN) (.slice AS nS cS) (.slice AW nW cW) (.slice AL nL cL) vO w3 HRD3.out HR.out HNM.out HO.out HFW.out.1 HFW.out.2).mono ?_
 rintro e w5 ⟨uN, uS, uW, uL, vR, vE, rfl, hom, hor, -, hb⟩
 obtain ⟨y, hy⟩ : ∃ y, foldR r l = y := ⟨_, rfl⟩
 have HYY := lhd hy
 rw [hy] at hom hor ⊢
 obtain ⟨Ba, ca, hu1⟩ := hom.n.shape
 obtain ⟨Bb, cb, hu2⟩ := hom.s.shape
 obtain ⟨Bc, cc, hu3⟩ := hom.t.shape
 obtain ⟨Bd, cd, hu4, -, -⟩ := hom.l.rd.shape
 obtain ⟨ma, hm1⟩ : ∃ q, (mN y.1).length = q := ⟨_, rfl⟩
 obtain ⟨mb, hm2⟩ : ∃ q, (mS y.1).length = q := ⟨_, rfl⟩
 obtain ⟨mc, hm3⟩ : ∃ q, (mW y.1).length = q := ⟨_, rfl⟩
 obtain ⟨md, hm4⟩ : ∃ q, (mL y.1).length = q := ⟨_, rfl⟩
 rw [hm1] at hu1
 rw [hm2] at hu2
 rw [hm3] at hu3
 rw [hm4] at hu4
 subst hu1 hu2 hu3 hu4
 obtain ⟨RD, hRD⟩ : ∃ q : List Value, rmc (mT y.1) (.slice Ba ma ca) (.slice Bb mb cb) (.slice Bc mc cc) (.slice Bd md cd) = q := ⟨_, rfl⟩
 have hDA : RD.toArray.all (·.oneCell') = true := by rw [← hRD]; exact rmc_all _ _ _ _ _ _ _ _ _ _ _ _ _
 have hDL : RD.length = 5 := by rw [← hRD]; rfl
 have HRD2 := lhd hRD
 have HDL := lhd hDL
 rw [hRD]
 have OM := lhd hom
 have OR := lhd hor
 have X45 := lhd (X43.out.below hb X43.out.lt)
 have HB5 := lhd (HB3.out.trans (hb.mono hs3))
 have hs5 := hb.size
 clear hRD hDL hm1 hm2 hm3 hm4 hom hor hb X23 X43 HB3 HO HRD3 hy
 go_wp2_with (refine wpList_alloc_blk rfl 50 rfl (rmc 0 (.slice none 0 0) (.slice none 0 0) (.slice none 0 0) (.slice none 0 0)) zeroRmP ?_)
 intro w6 a1 a2 a3
 obtain ⟨gA, hgA⟩ : ∃ g, w5.heap.size = g := ⟨_, rfl⟩
 have A1 := lhd a1
 have B6 := lhd a3
 have hne : g4 ≠ gA := by omega
 rw [hgA] at A1 ⊢
 have HGA := lhd hgA
 clear a1 a2 a3 hgA
 go_wp2_with (refine wpList_store_to rfl 50 _ _ rfl gA RD (rmc 0 (.slice none 0 0) (.slice none 0 0) (.slice none 0 0) (.slice none 0 0)) 50 rfl rfl A1.out (by rw [HDL.out]; exact szRmP) (by rw [HDL.out]; rfl) hDA ?_)
 intro w7 e1 e2 e3 e4
 have A2 := lhd e1
 have B7 : Hid (Below w5.heap.size w5 w7) := lhd (B6.out.trans (by rw [HGA.out]; exact e3))
 have X47 := lhd (X45.out.below B7.out X45.out.lt)
 have OM7 := lhd (OM.out.below B7.out)
 have OR7 := lhd (OR.out.below B7.out)
 have HB7 := lhd (HB5.out.trans (B7.out.mono (Nat.le_trans hs3 hs5)))
 clear e1 e2 e3 e4 A1 B6 X45 OM OR HB5 B7 HGA
 go_wp2_with (first | refine wpList_load_part rfl 50 _ rfl gA 0 RD RD 50 rfl A2.out (by simp) huR hdR (by rw [HDL.out]; exact szRmP) ?_ | refine wpList_store_to rfl 50 _ _ rfl g4 RD (rmc 0 (.slice none 0 0) (.slice none 0 0) (.slice none 0 0) (.slice none 0 0)) 50 rfl rfl X47.out (by rw [HDL.out]; exact szRmP) (by rw [HDL.out]; rfl) hDA ?_)
 intro w8 e1 e2 e3 e4
 have V4 := lhd e1
 have KR := lhd (Keep.store (T := fun e => e = 50) (b := B) X47.out rfl hB4 e2 e4)
 have OM8 := lhd (OM7.out.same (fun k hk => e4 k (by omega)))
 have OR8 := lhd (OR7.out.keep KR.out (by decide) (by decide))
 have HB8 := lhd (HB7.out.trans (e3.mono hB4))
 clear e1 e2 e3 e4 KR X47 OM7 OR7 HB7 A2
 go_wp2
 refine bodyPost_ret (v := .tuple #[.agg RD.toArray, vR, .int .i64 f2]) ?_ rfl ?_
 ·exact ret_blk3K rfl _ _ g4 50 RD vR (.int .i64 f2) rfl rfl rfl V4.out dR huR hdR (by rw [HDL.out]; exact szRmP)
 ·rw [HYY.out]
  refine ⟨_, _, _, _, vR, by rw [HRD2.out], ?_, ?_, ?_⟩
  all_goals rw [HBB.out]
  ·exact OM8.out.base2 hs3
  ·exact OR8.out.base2 hs3
  ·exact HB8.out
theorem right_rm0 : RightR rm0 := ⟨(rightN_iff _).1 (by decide +kernel), (rightS_iff _ _).1 (by decide +kernel), (rightW_iff _).1 (by decide +kernel), Nat.zero_le _, fun x h => absurd h (by simp [rm0, mL]), List.Pairwise.nil⟩
def oB : Or := (1, 1, 1, [47, 97], [], 0, 0, 0)
theorem may_oB : mayO oB = true := by decide +kernel
theorem fits_oB : fitsO oB := ⟨⟨by decide, by decide⟩, ⟨by decide, by decide⟩, ⟨by decide, by decide⟩⟩
theorem alive_B1 : encE [oB] = 0 ∧ encV [oB] = encB [oB] := by
 have h := enc_good [oB] (by decide) (fun j hj => by
  have : j = 0 := by simp at hj; omega
  subst this
  exact may_oB)
 exact ⟨h.2, h.1⟩
theorem alive_B2 : decB (encV [oB]) = some [oB] := by
 rw [alive_B1.2]
 exact decB_enc [oB] (by decide) (fun o ho => by
  obtain rfl := List.mem_singleton.1 ho
  exact ⟨may_oB, fits_oB⟩)
theorem alive_B3 : (mN (foldR rm0 [oB]).1).length = 2 := by decide +kernel
theorem alive_B4 : decB [] = none := decB_few [] (.inl (by decide))
theorem alive_B5 : (encV [oB]).length ≤ 1000000 := by rw [alive_B1.2]; decide +kernel
theorem alive14 (w : World) : Calls Tryz.prog 8 #[] w (One (.bool true) w) := by
 obtain ⟨dR, huR, hdR⟩ := rowRmP
 go_enter Tryz.func8, Tryz.ntmps8
 have hba : Below w.heap.size w (w.alloc (.cells (orc oB).toArray 86)) := (Below.refl w.heap.size w).alloc (Nat.le_refl _) _
 have hr0 := RdE.one (E := OrK) w 86 oB
 have hsz1 : (w.alloc (.cells (orc oB).toArray 86)).heap.size = w.heap.size + 1 := by simp
 have hr1 : RdE OrK (w.alloc (.cells (orc oB).toArray 86)).heap.size (w.alloc (.cells (orc oB).toArray 86)) (.slice (some ⟨w.heap.size, 0, none⟩) 1 1) [oB] := by rw [hsz1]; exact hr0
 have HR := lhd hr1
 have HB := lhd hba
 clear hba hr0 hr1 hsz1
 go_wp2_with fail
 refine (btEncode_any [oB] (.slice (some ⟨w.heap.size, 0, none⟩) 1 1) _ HR.out (fun o ho => by
  obtain rfl := List.mem_singleton.1 ho
  exact fits_oB)).mono ?_
 rintro e w1 ⟨rfl, hb⟩
 have B1 := lhd (HB.out.trans (hb.mono HB.out.size))
 obtain ⟨s, hs⟩ : ∃ s, encV [oB] = s := ⟨_, rfl⟩
 have h2 := alive_B2
 have h5 := alive_B5
 rw [hs] at h2 h5 ⊢
 rw [alive_B1.1]
 have H2 := lhd h2
 have H5 := lhd h5
 clear hb hs h2 h5 HR HB
 go_wp2_with fail
 refine (rmNew_any w1).mono ?_
 rintro e w2 ⟨vN, vS, vW, vL, rfl, hrm, hb⟩
 have B2 := lhd (B1.out.trans (hb.mono B1.out.size))
 have RM := lhd hrm
 clear hrm hb B1
 have hA := btApply_kf rm0 s vN vS vW vL w2 RM.out right_rm0 (fun x h => by cases h) H5.out (fun o ho => by
  rw [H2.out] at ho
  obtain rfl := List.mem_singleton.1 ho
  exact kind_create oB rfl fits_oB.2.1)
 have hE : decE s = 0 := by unfold decE; rw [H2.out]; rfl
 rw [hE, H2.out] at hA
 have HA := lhd hA
 clear hA hE
 go_wp2_with fail
 refine HA.out.mono ?_
 rintro e w3 ⟨uN, uS, uW, uL, vR, rfl, hom, hor, hb⟩
 have hz : (some [oB]).getD [] = [oB] := rfl
 rw [hz] at hom hor ⊢
 have hl1 : (foldR rm0 [oB]).2.1.length = 1 := foldR_len rm0 [oB]
 have hl2 := alive_B3
 obtain ⟨y, hy⟩ : ∃ y, foldR rm0 [oB] = y := ⟨_, rfl⟩
 rw [hy] at hom hor hl1 hl2 ⊢
 obtain ⟨Ba, ca, hu1⟩ := hom.n.shape
 obtain ⟨Bb, cb, hu2⟩ := hom.s.shape
 obtain ⟨Bc, cc, hu3⟩ := hom.t.shape
 obtain ⟨Bd, cd, hu4, -, -⟩ := hom.l.rd.shape
 obtain ⟨Be, ce, hu5, -, -⟩ := hor.rd.shape
 obtain ⟨mb, hm2⟩ : ∃ q, (mS y.1).length = q := ⟨_, rfl⟩
 obtain ⟨mc, hm3⟩ : ∃ q, (mW y.1).length = q := ⟨_, rfl⟩
 obtain ⟨md, hm4⟩ : ∃ q, (mL y.1).length = q := ⟨_, rfl⟩
 rw [hl2] at hu1
 rw [hm2] at hu2
 rw [hm3] at hu3
 rw [hm4] at hu4
 rw [hl1] at hu5
 subst hu1 hu2 hu3 hu4 hu5
 have B3 := lhd (B2.out.trans (hb.mono B2.out.size))
 clear hom hor hb hl1 hl2 hy hm2 hm3 hm4 hz RM HA H5 H2 B2
 go_wp2_with (refine wpList_alloc_blk rfl 50 rfl (rmc 0 (.slice none 0 0) (.slice none 0 0) (.slice none 0 0) (.slice none 0 0)) zeroRmP ?_)
 intro w4 a1 a2 a3
 obtain ⟨g, hg⟩ : ∃ g, w3.heap.size = g := ⟨_, rfl⟩
 have A1 := lhd a1
 have B4 := lhd a3
 have HG := lhd hg
 rw [hg] at A1 ⊢
 clear a1 a2 a3 hg
 go_wp2_with (refine wpList_store_to rfl 50 _ _ rfl g (rmc (mT y.1) (.slice Ba 2 ca) (.slice Bb mb cb) (.slice Bc mc cc) (.slice Bd md cd)) (rmc 0 (.slice none 0 0) (.slice none 0 0) (.slice none 0 0) (.slice none 0 0)) 50 rfl rfl A1.out szRmP rfl (rmc_all _ _ _ _ _ _ _ _ _ _ _ _ _) ?_)
 intro w5 e1 e2 e3 e4
 have A5 := lhd e1
 have B5 : Hid (Below w.heap.size w w5) := lhd (B3.out.trans ((B4.out.trans (by rw [HG.out]; exact e3)).mono B3.out.size))
 clear e1 e2 e3 e4 A1 B4 B3 HG
 go_wp2_with fail
 refine (btDecode_any [] w5 (by simp)).mono ?_
 rintro e w6 ⟨vO, rfl, -, hb⟩
 rw [alive_B4]
 have A6 := A5.out.below hb A5.out.lt
 have B6 := lhd (B5.out.trans (hb.mono B5.out.size))
 have c0 := A6.at_ 0 _ rfl
 clear hb A5 A6 B5
 go_wp2
 go_ret
 exact ⟨rfl, B6.out⟩
theorem rf14Encode_any (l : List Or) (v : Value) (w : World) (hr : RdE OrK w.heap.size w v l) (hf : ∀ o ∈ l, fitsO o) : Calls Tryz.prog 10 #[v] w (One (.tuple #[txt (encV l), .int .i64 (encE l)]) w) := by
 obtain ⟨A, cp, rfl, hc, hm⟩ := hr.shape
 unfold maxLen at hm
 obtain ⟨n, hn⟩ : ∃ n, l.length = n := ⟨_, rfl⟩
 have HN := lhd hn
 have HR := lhd hr
 have HF := lhd hf
 rw [hn] at hc HR
 clear hr hf
 obtain ⟨V, hV⟩ : ∃ V, encV l = V := ⟨_, rfl⟩
 obtain ⟨F, hE⟩ : ∃ F, encE l = F := ⟨_, rfl⟩
 have HV := lhd hV
 have HE := lhd hE
 rw [hV, hE, hn]
 clear hV hE hn
 go_enter Tryz.func10, Tryz.ntmps10
 have HB := lhd (Below.refl w.heap.size w)
 by_cases h10 : (10 : Int) < (n : Int)
 ·have h1 := enc_large l (by rw [HN.out]; omega)
  have HX : Hid (V = [] ∧ F = 5) := lhd (by rw [← HV.out, ← HE.out]; exact h1)
  clear h1
  go_wp2
  go_ret2
  exact ⟨by rw [HX.out.1, HX.out.2]; rfl, HB.out⟩
 have hw : IntKind.u64.wrap (n : Int) = (n : Int) := by rw [IntKind.wrap_u64]; omega
 go_wp2_with fail
 refine (refPut_any (.slice none 0 0) [] (n : Int) w (Rd.nil _ _) (by omega) (by omega) (by simp)).mono ?_
 rintro e w1 ⟨v1, rfl, hown, hb⟩
 have e1 : ([] : List UInt8) ++ enc (n : Int).toNat = enc n ++ encOs (l.take 0) := by simp [encOs]
 rw [e1] at hown
 have HO := lhd hown
 have HB1 := lhd hb
 clear e1 hown hb hw HB
 go_wp2
 go_loopw [4, 5] (fun o x wr => ∃ i : Nat, i ≤ n ∧ x = .int .i64 (i : Int) ∧ Hid (Own 5 wr w.heap.size o (enc n ++ encOs (l.take i))) ∧ Hid (∀ j, j < i → mayO (l.getD j or0) = true) ∧ Hid (Below w.heap.size w wr)) (fun _ x _ => n - (intOf x).toNat)
 case atStart => exact ⟨0, by omega, rfl, HO, lhd (fun j hj => by omega), HB1⟩
 case round =>
  clear HO HB1
  obtain ⟨i, hi, rfl, HO, HA, HB⟩ := hrel
  have hsz := HB.out.size
  by_cases hi2 : i < n
  ·have zi : (i : Int) < (n : Int) := by omega
   have hil : i < l.length := by rw [HN.out]; exact hi2
   obtain ⟨a, hA, c0, c1, c2, c3, c4, c5, c6, c7⟩ := ((HR.out.below HB.out).more hsz).atOr i hil
   subst hA
   have hT := or_take l i hil
   have hM := or_mem l i hil
   have hfo := HF.out _ hM
   have hfew := encOs_few l i (by omega) HA.out
   obtain ⟨o, ho⟩ : ∃ o, l.getD i or0 = o := ⟨_, rfl⟩
   rw [ho] at c0 c1 c2 c3 c4 c5 c6 c7 hT hfo
   have HT := lhd hT
   have HFO := lhd hfo
   have HOO := lhd ho
   have HFW := lhd hfew
   clear hil hT hM hfo ho hfew
   go_wp2_with fail
   refine (rfMayO_any o wr).mono ?_
   rintro e w3 ⟨rfl, hb⟩
   have B3 := lhd hb
   clear hb c0 c1 c2 c3 c4 c5 c6 c7
   obtain ⟨M, hM⟩ : ∃ M, mayO o = M := ⟨_, rfl⟩
   have HM := lhd hM
   rw [hM]
   clear hM
   cases M
   ·have h1 := enc_bad l (by rw [HN.out]; omega) i (by rw [HN.out]; exact hi2) (by rw [HOO.out]; exact HM.out)
    have HX : Hid (V = [] ∧ F = 1) := lhd (by rw [← HV.out, ← HE.out]; exact h1)
    have HB4 : Hid (Below w.heap.size w w3) := lhd (HB.out.trans (B3.out.mono hsz))
    clear h1
    go_wp2
    go_ret2
    exact ⟨by rw [HX.out.1, HX.out.2]; rfl, HB4.out⟩
   have O3 : Hid (Own 5 w3 w.heap.size u4 (enc n ++ encOs (l.take i))) := lhd (HO.out.below B3.out (Nat.le_refl _))
   have hlen : (enc n ++ encOs (l.take i)).length + (oP o).length + (oV o).length ≤ 1000000 := by
    have h1 := HFW.out
    have h2 := may_sized HM.out
    have h3 := enc_length n
    have h4 := wid_le n
    rw [List.length_append]
    omega
   have HLE := lhd hlen
   have hs3 : w.heap.size ≤ w3.heap.size := Nat.le_trans hsz B3.out.size
   obtain ⟨a', hA', c0, c1, c2, c3, c4, c5, c6, c7⟩ := ((HR.out.below (HB.out.trans (B3.out.mono hsz))).more hs3).atOr i (by rw [HN.out]; exact hi2)
   obtain rfl : a = a' := by injection hA'
   rw [HOO.out] at c0 c1 c2 c3 c4 c5 c6 c7
   clear hlen hA'
   go_wp2_with fail
   refine (rfPutO_any u4 (enc n ++ encOs (l.take i)) o w3 O3.out.rd (fits_ns o HM.out HFO.out) HLE.out).mono ?_
   rintro e w4 ⟨v4, rfl, hown, hb⟩
   have e5 : (enc n ++ encOs (l.take i)) ++ encO o = enc n ++ encOs (l.take (i + 1)) := by
    rw [HT.out, encOs_append, encOs_one, List.append_assoc]
   rw [e5] at hown
   have HO4 : Hid (Own 5 w4 w.heap.size v4 (enc n ++ encOs (l.take (i + 1)))) := lhd (hown.base hs3)
   have HB4 : Hid (Below w.heap.size w w4) := lhd ((HB.out.trans (B3.out.mono hsz)).trans (hb.mono hs3))
   have HA4 : Hid (∀ j, j < i + 1 → mayO (l.getD j or0) = true) := by
    refine lhd (fun j hj => ?_)
    by_cases h : j < i
    ·exact HA.out j h
    ·obtain rfl : j = i := by omega
     rw [HOO.out]
     exact HM.out
   clear e5 hown hb hs3 c0 c1 c2 c3 c4 c5 c6 c7
   go_wp2
   go_roundw
   case rel => exact ⟨i + 1, by omega, by go_num, HO4, HA4, HB4⟩
   case measure => first | (simp [intOf]; done) | (simp [intOf]; omega)
  ·obtain rfl : i = n := by omega
   have h1 := enc_good l (by rw [HN.out]; omega) (fun j hj => HA.out j (by rw [← HN.out]; exact hj))
   have e2 : enc i ++ encOs (l.take i) = V := by
    rw [← HV.out, h1.1, ← HN.out, List.take_length]
    rfl
   have HX : Hid (F = 0) := lhd (by rw [← HE.out]; exact h1.2)
   have hrd := HO.out.rd
   rw [e2] at hrd
   obtain ⟨A3, c3, rfl, -, -⟩ := hrd.shape
   have hst := run_string_rd 92 9 5 Tryz.underlying92 Tryz.underlying5 Tryz.underlying9 hrd
   clear h1 e2 hrd HO
   go_wp2
   go_ret2
   exact ⟨by rw [HX.out]; rfl, HB.out⟩
theorem rf14Decode_any (s : List UInt8) (w : World) (hl : s.length ≤ 1000000) : Calls Tryz.prog 13 #[txt s] w (DecO (decB s) w) := by
 obtain ⟨dO, huO, hdO⟩ := rowOrR
 have HL := lhd hl
 clear hl
 go_enter Tryz.func13, Tryz.ntmps13
 obtain ⟨A, c, w1, hcv, hrd, hb1⟩ := bytes_any (P := Tryz.prog) w 9 92 5 s Tryz.underlying9 Tryz.underlying92 Tryz.underlying5 (by have := HL.out; unfold maxLen; omega)
 obtain ⟨B, hB⟩ : ∃ B, w1.heap.size = B := ⟨_, rfl⟩
 have R1 := lhd hrd
 have B1 := lhd hb1
 rw [hB] at R1
 have hsz1 : w.heap.size ≤ B := by rw [← hB]; exact hb1.size
 have HBB := lhd hB
 clear hrd hb1
 go_wp2_with fail
 refine (refTake_any (.slice A s.length c) s B w1 R1.out (Nat.le_of_eq hB.symm)).mono ?_
 rintro e w2 ⟨v2, rfl, hrr, hb⟩
 have hN := takeN_lt s
 have hrest := takeN_rest s
 obtain ⟨⟨n, rest, er⟩, hT⟩ : ∃ q, takeN s = q := ⟨_, rfl⟩
 rw [hT] at hrr hN hrest
 dsimp only at hrr hN hrest
 have hrl : rest.length ≤ 1000000 := Nat.le_trans hrest HL.out
 have HT := lhd hT
 have R2 := lhd hrr
 have hs2 : B ≤ w2.heap.size := by rw [← hB]; exact hb.size
 have B2 := lhd (B1.out.trans (hb.mono B1.out.size))
 have hn2 : (n : Int) ≤ 18446744073709551615 := by omega
 rw [hT]
 dsimp only
 clear hT hrr hb hrest hcv R1 B1 hB
 by_cases he : er = 0
 ·subst he
  by_cases h10 : (10 : Int) < (n : Int)
  ·have HX := lhd (decB_few s (.inr (by rw [HT.out]; show 10 < n; omega)))
   go_wp2
   go_ret2
   exact DecO.no HX.out B2.out
  have hk10 : n ≤ 10 := by omega
  have h10f : decide ((10 : Int) < (n : Int)) = false := decide_eq_false h10
  have hba : Below w2.heap.size w2 (w2.alloc (.cells #[] 97)) := (Below.refl _ _).alloc (Nat.le_refl _) _
  have R3 := lhd (R2.out.below (hba.mono hs2))
  have B3 := lhd (B2.out.trans (hba.mono B2.out.size))
  have O3 : Hid (OwnE OrK 97 (w2.alloc (.cells #[] 97)) B (.slice (some ⟨w2.heap.size, 0, none⟩) 0 0) []) := lhd (OwnE.empty _ _ _ hs2)
  have hs3 : Hid (B ≤ (w2.alloc (.cells #[] 97)).heap.size) := lhd (Nat.le_trans hs2 hba.size)
  clear hba R2 B2
  go_wp2
  go_loopw [5, 7, 8] (fun vr vl x wr => ∃ k : Nat, k ≤ n ∧ x = .int .u64 (k : Int) ∧ ∃ (acc : List Or) (r : List UInt8), acc.length = k ∧ r.length ≤ 1000000 ∧ Hid (takeOs n [] rest = takeOs (n - k) acc r) ∧ Hid (Rd B wr vr r) ∧ Hid (OwnE OrK 97 wr B vl acc) ∧ Hid (Below w.heap.size w wr) ∧ Hid (B ≤ wr.heap.size)) (fun _ _ x _ => n - (intOf x).toNat)
  case atStart => exact ⟨0, Nat.zero_le _, rfl, [], rest, rfl, hrl, rfl, R3, O3, B3, hs3⟩
  case round =>
   clear R3 O3 B3 hs3 hrl
   obtain ⟨k, hk, rfl, acc, r, hac, hrl, HK, HR, HO, HB, hs⟩ := hrel
   have hsz := HB.out.size
   by_cases hlt : k < n
   ·have hlt2 : decide ((k : Int) < (n : Int)) = true := by simp; omega
    go_wp2_with fail
    refine (rfTakeO_at u5 r B wr HR.out hs.out).mono ?_
    rintro e w3 ⟨v3, rfl, hr3, hb⟩
    obtain ⟨⟨o, r', er'⟩, hq⟩ : ∃ q, takeO r = q := ⟨_, rfl⟩
    have hless := takeO_lessB r
    rw [hq] at hr3 hless ⊢
    dsimp only at hr3 hless ⊢
    have hrl2 : r'.length ≤ 1000000 := Nat.le_trans hless hrl
    have HQ := lhd hq
    have R3 := lhd hr3
    have B3 := lhd hb
    have O3 := lhd (HO.out.below hb (Nat.le_refl _))
    have hs3 : B ≤ w3.heap.size := Nat.le_trans hs.out hb.size
    have ek : n - k = (n - (k + 1)) + 1 := by omega
    have HE := lhd ek
    clear hq hless hr3 hb ek HR HO
    go_wp2_with (refine wpList_alloc_blk rfl 97 rfl (orc or0) zeroOrR ?_)
    intro wa a1 a2 a3
    obtain ⟨g, hg⟩ : ∃ g, w3.heap.size = g := ⟨_, rfl⟩
    have A1 := lhd a1
    have BA := lhd a3
    have hgB : B ≤ g := by rw [← hg]; exact hs3
    rw [hg] at A1 ⊢
    have HG := lhd hg
    clear a1 a2 a3 hg
    go_wp2_with (refine wpList_store_to rfl 97 _ _ rfl g (orc o) (orc or0) 97 rfl rfl A1.out szOrR rfl (orc_all o) ?_)
    intro w4 e1 e2 e3 e4
    have A4 := lhd e1
    have B34 : Hid (Below w3.heap.size w3 w4) := lhd (BA.out.trans (by rw [HG.out]; exact e3))
    have R4 := lhd (R3.out.below (B34.out.mono hs3))
    have O4 := lhd (O3.out.below B34.out (Nat.le_refl _))
    have hs4 : B ≤ w4.heap.size := Nat.le_trans hs3 B34.out.size
    have B4 : Hid (Below w.heap.size w w4) := lhd (HB.out.trans ((B3.out.trans (B34.out.mono B3.out.size)).mono hsz))
    clear e1 e2 e3 e4 A1 BA B34 R3 O3 B3 hs3 HB HG
    by_cases he3 : er' = 0
    ·subst he3
     have HK2 : Hid (takeOs n [] rest = takeOs (n - (k + 1)) (acc ++ [o]) r') := lhd (by rw [HK.out, HE.out, takeOs_step _ _ _ _ _ HQ.out])
     clear HK HE HQ
     go_wp2_with (first | refine wpList_load_part rfl 97 _ rfl g 0 (orc o) [.int .i64 (oC o), .int .i64 (oQ o), .int .i64 (oK o), txt (oP o), txt (oV o), .int .i64 (oR o), .int .i64 (oS o), .int .i64 (oT o)] 97 rfl A4.out rfl huO hdO szOrR ?_ | (at_builtin; refine wpList_appF (E := OrK) rfl _ _ 29 rfl 97 80 Tryz.underlying29 kindOrR B _ _ _ acc [o] rfl (O4.out.alloc _) rfl (RdE.one w4 97 o) ?d1 ?d2 ?d3 ?_))
     case d1 => simp only [List.length_cons, List.length_nil, hac]; omega
     case d2 => simp only [List.length_cons, List.length_nil, hac]; omega
     case d3 => simp; omega
     intro v' we m1 m2 m3
     have hba : Below w4.heap.size w4 (w4.alloc (.cells (orc o).toArray 97)) := (Below.refl w4.heap.size w4).alloc (Nat.le_refl _) _
     have HOe := lhd m1
     have hAB : Below B w4 we := (hba.mono hs4).trans m2
     have HBe : Hid (Below w.heap.size w we) := lhd (B4.out.trans (hAB.mono hsz1))
     have Re := lhd (R4.out.below hAB)
     have hse : Hid (B ≤ we.heap.size) := lhd (Nat.le_trans hs4 hAB.size)
     clear m1 m2 m3 hba hs4 O4 B4 R4 A4 hAB
     go_wp2
     go_roundw
     case rel => exact ⟨k + 1, by omega, by go_num, acc ++ [o], r', by simp only [List.length_append, List.length_cons, List.length_nil]; omega, hrl2, HK2, Re, HOe, HBe, hse⟩
     case measure => simp [intOf]; omega
    ·have he4 : ((er' : Int) != 0) = true := by simp; omega
     have HX := lhd (decB_bad s (by rw [HT.out]; show takeOs n [] rest = none; rw [HK.out, HE.out]; exact takeOs_stop _ _ _ (by rw [HQ.out]; exact he3)))
     go_wp2
     go_ret2
     exact DecO.no HX.out B4.out
   ·obtain rfl : k = n := by omega
    have h1 := decB_ends s acc r (by rw [HT.out]) (by rw [HT.out]; exact hk10) (by rw [HT.out]; show takeOs k [] rest = _; rw [HK.out, Nat.sub_self]; rfl)
    have HX := lhd h1
    clear h1
    obtain ⟨A5, c5, rfl, -, -⟩ := HR.out.shape
    obtain ⟨m, hm⟩ : ∃ m, r.length = m := ⟨_, rfl⟩
    have HM := lhd hm
    rw [hm] at hrl ⊢
    clear hm
    by_cases hm0 : (0 : Int) < (m : Int)
    ·have HX2 : Hid (decB s = none) := lhd (by
      rw [HX.out, if_neg]
      intro h
      have := HM.out
      rw [h] at this
      simp only [List.length_nil] at this
      omega)
     go_wp2
     go_ret2
     exact DecO.no HX2.out HB.out
    ·have HX2 : Hid (decB s = some acc) := lhd (by
      rw [HX.out, if_pos]
      apply List.length_eq_zero_iff.1
      rw [HM.out]
      omega)
     have HR7 := lhd HO.out.rd
     go_wp2
     go_ret2
     rw [HX2.out]
     exact ⟨_, rfl, HR7.out, HB.out⟩
 ·have he1 : ((er : Int) != 0) = true := by simp; omega
  have HX := lhd (decB_few s (.inl (by rw [HT.out]; exact he)))
  go_wp2
  go_ret2
  exact DecO.no HX.out B2.out
end Go.Proofs.YtgfobinklijkpaaGreatDoor
