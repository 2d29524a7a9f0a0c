/-
  Texts KH.
-/
import Derived.Test.YtdihngkdhanhkaaGreatDoorV01
import Derived.Test.YtdihngkdhanhkaaGreatDoorV42
import Derived.Test.YtdihngkdhanhkaaGreatDoorV43
import Derived.Test.YtdihngkdhanhkaaGreatDoorV44
namespace Go.Proofs.YtdihngkdhanhkaaGreatDoor
set_option maxRecDepth 100000
set_option maxHeartbeats 16000000
open Go.RowKit
theorem FewP.names {r : Rm} (h : FewP r) : NamesR (mL r) := by
 intro x hx
 obtain ⟨j, hj, rfl⟩ := mem_rp _ x hx
 have := (h.r j hj).2.1
 omega
theorem once13_all (r : Rm) (vN vS vW vL : Value) (o : Or) (vO : Value) (l : List Or) (w : World) (hr : RdRm w.heap.size w vN vS vW vL r) (hfo : fitI (oS o)) (hO : RdE OrK w.heap.size w vO l) (hfl : ∀ x ∈ l, fitI (oS x)) : Calls Tryz.prog 5 #[.agg (rmc (mT r) vN vS vW vL).toArray, .agg (orc o).toArray, vO] w (One (.bool true) w) := by
 obtain ⟨AaN, caN, hv, -, -⟩ := hr.n.shape
 obtain ⟨naN, hnaN⟩ : ∃ q, (mN r).length = q := ⟨_, rfl⟩
 rw [hnaN] at hv
 subst hv
 obtain ⟨AaS, caS, hv, -, -⟩ := hr.s.shape
 obtain ⟨naS, hnaS⟩ : ∃ q, (mS r).length = q := ⟨_, rfl⟩
 rw [hnaS] at hv
 subst hv
 obtain ⟨AaW, caW, hv, -, -⟩ := hr.t.shape
 obtain ⟨naW, hnaW⟩ : ∃ q, (mW r).length = q := ⟨_, rfl⟩
 rw [hnaW] at hv
 subst hv
 obtain ⟨AaL, caL, hv, -, -⟩ := hr.l.shape
 obtain ⟨naL, hnaL⟩ : ∃ q, (mL r).length = q := ⟨_, rfl⟩
 rw [hnaL] at hv
 subst hv
 clear hnaN hnaS hnaW hnaL
 obtain ⟨A, c, hv, hc, hm⟩ := hO.shape
 unfold maxLen at hm
 obtain ⟨n, hnl⟩ : ∃ n, l.length = n := ⟨_, rfl⟩
 have HL := lhd hnl
 rw [hnl] at hv hc
 subst hv
 have RM := lhd hr
 have RO := lhd hO
 have HFO := lhd hfo
 have HFL := lhd hfl
 clear hr hO hfo hfl hnl
 obtain ⟨dR, huR, hdR⟩ := rowRmP
 obtain ⟨dO, huO, hdO⟩ := rowOrT
 obtain ⟨dP, huP, hdP⟩ := rowRpT
 go_enter Tryz.func5, Tryz.ntmps5
 go_wp2_with (refine wpList_box_blk rfl 33 _ rfl (rmc (mT r) (.slice AaN naN caN) (.slice AaS naS caS) (.slice AaW naW caW) (.slice AaL naL caL)) rfl ?_)
 intro w1 b1 b2 b3
 go_wp2_with (refine wpList_box_blk rfl 35 _ rfl (orc o) rfl ?_)
 intro w2 a1 a2 a3
 obtain ⟨g3, hg3⟩ : ∃ g, w.heap.size = g := ⟨_, rfl⟩
 obtain ⟨g4, hg4⟩ : ∃ g, w.heap.size + 1 = g := ⟨_, rfl⟩
 have X3 := lhd (b1.below a3 (by omega))
 have X4 := lhd a1
 have B2 := lhd (b3.trans (a3.mono (by omega)))
 have hl3 : g3 < w2.heap.size := by omega
 have hl4 : g4 < w2.heap.size := by omega
 rw [hg4] at X4 ⊢
 rw [hg3] at X3 ⊢
 clear b1 b2 b3 a1 a2 a3 hg3 hg4
 have RM2 := lhd (RM.out.belowM B2.out)
 have RO2 := lhd ((RO.out.below B2.out).more B2.out.size)
 have KB : Hid (∀ W, Below w2.heap.size w2 W → Below w.heap.size w W) := lhd (fun W hW => B2.out.trans (hW.mono B2.out.size))
 clear RM RO
 go_wp2_with (first | refine wpList_load_part rfl 33 _ rfl g3 0 (rmc (mT r) (.slice AaN naN caN) (.slice AaS naS caS) (.slice AaW naW caW) (.slice AaL naL caL)) (rmc (mT r) (.slice AaN naN caN) (.slice AaS naS caS) (.slice AaW naW caW) (.slice AaL naL caL)) 33 rfl X3.out rfl huR hdR szRmP ?_ | fail)
 refine (few13 r (.slice AaN naN caN) (.slice AaS naS caS) (.slice AaW naW caW) (.slice AaL naL caL) w2 RM2.out).mono ?_
 rintro e w3 ⟨bf, rfl, hF, hb⟩
 have E3 := lhd hb
 have HF := lhd hF
 clear hb hF
 cases bf with
 | false =>
   go_wp2_with fail
   refine (alive13 w3).mono ?_
   rintro e wz ⟨rfl, hbz⟩
   have BZ := lhd ((KB.out _ E3.out).trans (hbz.mono (KB.out _ E3.out).size))
   clear hbz
   go_wp2
   go_ret
   exact ⟨rfl, BZ.out⟩
 | true =>
 have HFP := lhd (HF.out rfl)
 clear HF
 go_wp2_with fail
 refine (short13 l (.slice A n c) w3 ((RO2.out.below E3.out).more E3.out.size)).mono ?_
 rintro e w4 ⟨bs, rfl, hS, hb⟩
 have E4 := lhd (E3.out.trans (hb.mono E3.out.size))
 have HS := lhd hS
 clear hb hS E3
 cases bs with
 | false =>
   go_wp2_with fail
   refine (alive13 w4).mono ?_
   rintro e wz ⟨rfl, hbz⟩
   have BZ := lhd ((KB.out _ E4.out).trans (hbz.mono (KB.out _ E4.out).size))
   clear hbz
   go_wp2
   go_ret
   exact ⟨rfl, BZ.out⟩
 | true =>
 have hn30 : n ≤ 30 := by rw [← HL.out]; exact HS.out rfl
 clear HS
 have X44 := lhd (X4.out.below E4.out hl4)
 have hlen : (orc o).length = 8 := rfl
 go_wp2_with (first | refine wpList_load_partG (by rfl) 35 _ rfl g4 0 (orc o) [.int .i64 (oC o), .int .i64 (oQ o), .int .i64 (oK o), txt (oP o), txt (oV o), .int .i64 (oR o), .int .i64 (oS o), .int .i64 (oT o)] 35 rfl X44.out rfl huO hdO szOrT ?_ | fail)
 have hal : Below w4.heap.size w4 (w4.alloc (.cells (orc o).toArray 35)) := (Below.refl _ _).alloc (Nat.le_refl _) _
 have E5 := lhd (E4.out.trans (hal.mono E4.out.size))
 clear hal
 have hone := RdE.one (E := OrK) w4 35 o
 have hsz1 : (w4.alloc (.cells (orc o).toArray 35)).heap.size = w4.heap.size + 1 := by simp
 rw [← hsz1] at hone
 refine (short13 [o] _ _ hone).mono ?_
 rintro e w6 ⟨bo, rfl, hS, hb⟩
 have E6 := lhd (E5.out.trans (hb.mono E5.out.size))
 clear hb hS E5 X44 hlen E4 hone hsz1
 cases bo with
 | false =>
   go_wp2_with fail
   refine (alive13 w6).mono ?_
   rintro e wz ⟨rfl, hbz⟩
   have BZ := lhd ((KB.out _ E6.out).trans (hbz.mono (KB.out _ E6.out).size))
   clear hbz
   go_wp2
   go_ret
   exact ⟨rfl, BZ.out⟩
 | true =>
 have X36 := lhd (X3.out.below E6.out hl3)
 go_wp2_with (first | refine wpList_load_partG (by rfl) 33 _ rfl g3 0 (rmc (mT r) (.slice AaN naN caN) (.slice AaS naS caS) (.slice AaW naW caW) (.slice AaL naL caL)) (rmc (mT r) (.slice AaN naN caN) (.slice AaS naS caS) (.slice AaW naW caW) (.slice AaL naL caL)) 33 rfl X36.out rfl huR hdR szRmP ?_ | fail)
 refine (plain13 r (.slice AaN naN caN) (.slice AaS naS caS) (.slice AaW naW caW) (.slice AaL naL caL) w6 (RM2.out.belowM E6.out) (by have := HFP.out.n; omega) (by have := HFP.out.s; omega) (by have := HFP.out.w; omega) (by have := HFP.out.l; omega)).mono ?_
 rintro e w7 ⟨uN, uS, uW, uL, rfl, hpl, hb⟩
 have E7 := lhd (E6.out.trans (hb.mono E6.out.size))
 have RP7 := lhd hpl
 clear hb hpl E6 X36
 go_wp2_with fail
 refine (right13 r uN uS uW uL w7 RP7.out).mono ?_
 rintro e w8 ⟨br, rfl, hR, hb⟩
 have E8 := lhd (E7.out.trans (hb.mono E7.out.size))
 have HR := lhd hR
 clear hb hR E7 RP7
 cases br with
 | false =>
   go_wp2_with fail
   refine (alive13 w8).mono ?_
   rintro e wz ⟨rfl, hbz⟩
   have BZ := lhd ((KB.out _ E8.out).trans (hbz.mono (KB.out _ E8.out).size))
   clear hbz
   go_wp2
   go_ret
   exact ⟨rfl, BZ.out⟩
 | true =>
 have HRR := lhd (HR.out.1 rfl)
 have HNM := lhd HFP.out.names
 clear HR
 have X38 := lhd (X3.out.below E8.out hl3)
 have X48 := lhd (X4.out.below E8.out hl4)
 obtain ⟨Y, hY⟩ : ∃ q, applyR r o = q := ⟨_, rfl⟩
 have HY := lhd hY
 have HRY : Hid (RightR Y.1) := by rw [← hY]; exact lhd (right_apply _ _ HRR.out)
 have HNY : Hid (NamesR (mL Y.1) ∧ (pN Y.2.1).length ≤ 1000) := by rw [← hY]; exact lhd (names_apply _ _ HRR.out HNM.out)
 clear hY
 go_wp2_with (first | refine wpList_load_part rfl 33 _ rfl g3 0 (rmc (mT r) (.slice AaN naN caN) (.slice AaS naS caS) (.slice AaW naW caW) (.slice AaL naL caL)) (rmc (mT r) (.slice AaN naN caN) (.slice AaS naS caS) (.slice AaW naW caW) (.slice AaL naL caL)) 33 rfl X38.out rfl huR hdR szRmP ?_ | refine wpList_load_part rfl 35 _ rfl g4 0 (orc o) (orc o) 35 rfl X48.out rfl huO hdO szOrT ?_ | fail)
 refine (rmApply_any r o (.slice AaN naN caN) (.slice AaS naS caS) (.slice AaW naW caW) (.slice AaL naL caL) w8 (RM2.out.belowM E8.out) HRR.out HNM.out HFO.out).mono ?_
 intro e w9 h9
 rw [HY.out] at h9
 obtain ⟨yN, yS, yW, yL, nv, vE, rfl, h1, h2, h3, hb⟩ := h9
 have hYr := h1.rd
 obtain ⟨AbN, cbN, hv, -, -⟩ := hYr.n.shape
 obtain ⟨nbN, hnbN⟩ : ∃ q, (mN Y.1).length = q := ⟨_, rfl⟩
 rw [hnbN] at hv
 subst hv
 obtain ⟨AbS, cbS, hv, -, -⟩ := hYr.s.shape
 obtain ⟨nbS, hnbS⟩ : ∃ q, (mS Y.1).length = q := ⟨_, rfl⟩
 rw [hnbS] at hv
 subst hv
 obtain ⟨AbW, cbW, hv, -, -⟩ := hYr.t.shape
 obtain ⟨nbW, hnbW⟩ : ∃ q, (mW Y.1).length = q := ⟨_, rfl⟩
 rw [hnbW] at hv
 subst hv
 obtain ⟨AbL, cbL, hv, -, -⟩ := hYr.l.shape
 obtain ⟨nbL, hnbL⟩ : ∃ q, (mL Y.1).length = q := ⟨_, rfl⟩
 rw [hnbL] at hv
 subst hv
 clear hnbN hnbS hnbW hnbL
 obtain ⟨Ax, cx, hv⟩ := h2.shape
 obtain ⟨nx, hnx⟩ : ∃ q, (pN Y.2.1).length = q := ⟨_, rfl⟩
 rw [hnx] at hv
 subst hv
 clear hnx
 have E9 := lhd (E8.out.trans (hb.mono E8.out.size))
 have RY := lhd hYr
 have RN := lhd h2.rd
 clear hb hYr h1 h2 h3 X38 X48
 go_wp2_with (refine wpList_alloc_blk rfl 33 rfl (rmc 0 (.slice none 0 0) (.slice none 0 0) (.slice none 0 0) (.slice none 0 0)) zeroRmP ?_)
 intro wa a1 a2 a3
 obtain ⟨g7, hg7⟩ : ∃ g, w9.heap.size = g := ⟨_, rfl⟩
 have Dg7 := lhd a1
 have Ag7 := lhd a3
 have Hg7 := lhd hg7
 rw [hg7] at Dg7 ⊢
 clear a1 a2 a3 hg7
 go_wp2_with (refine wpList_alloc_blk rfl 57 rfl (rpc rp0 (.slice none 0 0)) zeroRpT ?_)
 intro wb a1 a2 a3
 obtain ⟨g8, hg8⟩ : ∃ g, wa.heap.size = g := ⟨_, rfl⟩
 have Dg8 := lhd a1
 have Ag8 := lhd a3
 have Hg8 := lhd hg8
 rw [hg8] at Dg8 ⊢
 clear a1 a2 a3 hg8
 have hg78 : g7 < g8 := by rw [← Hg8.out]; exact Dg7.out.lt
 have Dg7 := lhd (Dg7.out.below Ag8.out Dg7.out.lt)
 go_wp2_with (refine wpList_store_to rfl 33 _ _ rfl g7 (rmc (mT Y.1) (.slice AbN nbN cbN) (.slice AbS nbS cbS) (.slice AbW nbW cbW) (.slice AbL nbL cbL)) (rmc 0 (.slice none 0 0) (.slice none 0 0) (.slice none 0 0) (.slice none 0 0)) 33 rfl rfl Dg7.out szRmP rfl (rmc_all _ _ _ _ _ _ _ _ _ _ _ _ _) ?_)
 intro wc e1 e2 e3 e4
 have X7 := lhd e1
 have D8 := lhd (Dg8.out.same (e4 g8 (by omega)))
 have EA := lhd (Ag7.out.trans ((Ag8.out.mono Ag7.out.size).trans (e3.mono (by rw [Hg7.out]; exact Nat.le_refl _))))
 clear e1 e2 e3 e4 Dg7 Dg8 Ag7 Ag8
 go_wp2_with (refine wpList_store_to rfl 57 _ _ rfl g8 (rpc Y.2.1 (.slice Ax nx cx)) (rpc rp0 (.slice none 0 0)) 57 rfl rfl D8.out szRpT rfl (rpc_allM _ _ _ _) ?_)
 intro wd e1 e2 e3 e4
 have X8 := lhd e1
 have X7 := lhd (X7.out.same (e4 g7 (by omega)))
 have EB := lhd (EA.out.trans (e3.mono (by rw [Hg7.out]; omega)))
 clear e1 e2 e3 e4 D8 EA
 have ED := lhd (E9.out.trans (EB.out.mono E9.out.size))
 have RYd := lhd (RY.out.belowM EB.out)
 have RNd := lhd ((RN.out.below EB.out).more EB.out.size)
 clear E9 EB RY RN Hg7 Hg8 E8
 have hl7 := X7.out.lt
 have hl8 := X8.out.lt
 have KD : Hid (∀ W, Below wd.heap.size wd W → Below w2.heap.size w2 W) := lhd (fun W hW => ED.out.trans (hW.mono ED.out.size))
 go_wp2_with (first | refine wpList_load_part rfl 33 _ rfl g7 0 (rmc (mT Y.1) (.slice AbN nbN cbN) (.slice AbS nbS cbS) (.slice AbW nbW cbW) (.slice AbL nbL cbL)) (rmc (mT Y.1) (.slice AbN nbN cbN) (.slice AbS nbS cbS) (.slice AbW nbW cbW) (.slice AbL nbL cbL)) 33 rfl X7.out rfl huR hdR szRmP ?_ | fail)
 refine (plain13 Y.1 (.slice AbN nbN cbN) (.slice AbS nbS cbS) (.slice AbW nbW cbW) (.slice AbL nbL cbL) wd RYd.out (by have := HRY.out.n.few; omega) (by have := HRY.out.b.few; omega) (by have := HRY.out.w.few; omega) (by have := HRY.out.few; omega)).mono ?_
 rintro e we ⟨pN', pS', pW', pL', rfl, hpl, hb⟩
 have Ee := lhd hb
 have RPe := lhd hpl
 clear hb hpl
 go_wp2_with fail
 refine (right13 Y.1 _ _ _ _ we RPe.out).mono ?_
 rintro e wf ⟨by2, rfl, hR, hb⟩
 obtain rfl : by2 = true := hR.2 HRY.out
 have Ef := lhd (Ee.out.trans (hb.mono Ee.out.size))
 clear hb hR Ee RPe
 have X4f := lhd (X4.out.below (KD.out _ Ef.out) hl4)
 go_wp2_with (first | refine wpList_load_part rfl 35 _ rfl g4 0 (orc o) (orc o) 35 rfl X4f.out rfl huO hdO szOrT ?_ | fail)
 refine (orMay_any o wf).mono ?_
 rintro e wg ⟨rfl, hb⟩
 have Eg := lhd (Ef.out.trans (hb.mono Ef.out.size))
 clear hb Ef X4f
 obtain ⟨bm, hbm⟩ : ∃ q, mayO o = q := ⟨_, rfl⟩
 have HM := lhd hbm
 rw [hbm]
 clear hbm
 cases bm with
 | false =>
   have HYE : Hid (Y = (r, noR o 1, [])) := lhd (by rw [← HY.out]; exact apply_not r o HM.out)
   obtain rfl : Y = (r, noR o 1, []) := HYE.out
   have X8g := X8.out.below Eg.out hl8
   have X7g := lhd (X7.out.below Eg.out hl7)
   have X3g := lhd (X3.out.below (KD.out _ Eg.out) hl3)
   go_wp2_with fail
   refine (alive13 wg).mono ?_
   rintro e wh ⟨rfl, hb⟩
   have Eh := lhd ((Eg.out).trans (hb.mono (Eg.out).size))
   have c2 := (X8g.below hb X8g.lt).at_ 2 _ rfl
   have X7h := lhd (X7g.out.below hb X7g.out.lt)
   have X3h := lhd (X3g.out.below hb X3g.out.lt)
   clear hb X8g X7g X3g
   go_wp2_with (first | refine wpList_load_partG (by rfl) 33 _ rfl g7 0 (rmc (mT r) (.slice AbN nbN cbN) (.slice AbS nbS cbS) (.slice AbW nbW cbW) (.slice AbL nbL cbL)) (rmc (mT r) (.slice AbN nbN cbN) (.slice AbS nbS cbS) (.slice AbW nbW cbW) (.slice AbL nbL cbL)) 33 rfl X7h.out rfl huR hdR szRmP ?_ | refine wpList_load_partG (by rfl) 33 _ rfl g3 0 (rmc (mT r) (.slice AaN naN caN) (.slice AaS naS caS) (.slice AaW naW caW) (.slice AaL naL caL)) (rmc (mT r) (.slice AaN naN caN) (.slice AaS naS caS) (.slice AaW naW caW) (.slice AaL naL caL)) 33 rfl X3h.out rfl huR hdR szRmP ?_ | fail)
   refine (rmSame_yes r (.slice AbN nbN cbN) (.slice AbS nbS cbS) (.slice AbW nbW cbW) (.slice AbL nbL cbL) (.slice AaN naN caN) (.slice AaS naS caS) (.slice AaW naW caW) (.slice AaL naL caL) wh (RYd.out.belowM Eh.out) (RM2.out.belowM (KD.out _ Eh.out)) HRR.out HNM.out).mono ?_
   rintro e wi ⟨rfl, hb⟩
   have Ei := lhd (Eh.out.trans (hb.mono Eh.out.size))
   clear hb c2 X7h X3h
   go_wp2
   go_ret
   exact ⟨rfl, KB.out _ (KD.out _ Ei.out)⟩
 | true =>
 have X7g := lhd (X7.out.below Eg.out hl7)
 have X4g := X4.out.below (KD.out _ Eg.out) hl4
 have c40 := X4g.at_ 0 _ rfl
 clear X4g
 go_wp2_with (first | refine wpList_load_part rfl 33 _ rfl g7 0 (rmc (mT Y.1) (.slice AbN nbN cbN) (.slice AbS nbS cbS) (.slice AbW nbW cbW) (.slice AbL nbL cbL)) (rmc (mT Y.1) (.slice AbN nbN cbN) (.slice AbS nbS cbS) (.slice AbW nbW cbW) (.slice AbL nbL cbL)) 33 rfl X7g.out rfl huR hdR szRmP ?_ | fail)
 refine (rmLast_any Y.1 (oC o) (.slice AbN nbN cbN) (.slice AbS nbS cbS) (.slice AbW nbW cbW) (.slice AbL nbL cbL) wg (RYd.out.belowM Eg.out) (by have := HRY.out.few; omega) HNY.out.1 HRY.out.asc).mono ?_
 rintro e wh ⟨nu, rfl, hn, hb⟩
 obtain ⟨Q, hQ⟩ : ∃ q, lastR (mL Y.1) (oC o) = q := ⟨_, rfl⟩
 have HQ := lhd hQ
 rw [hQ] at hn ⊢
 obtain ⟨Au, cu, hv, -, -⟩ := hn.shape
 obtain ⟨nu2, hnu⟩ : ∃ q, (pN Q.1).length = q := ⟨_, rfl⟩
 rw [hnu] at hv
 subst hv
 have Eh := lhd (Eg.out.trans (hb.mono Eg.out.size))
 clear hb hn hQ hnu X7g c40
 go_wp2_with (refine wpList_alloc_blk rfl 57 rfl (rpc rp0 (.slice none 0 0)) zeroRpT ?_)
 intro wi a1 a2 a3
 obtain ⟨g10, hg10⟩ : ∃ g, wh.heap.size = g := ⟨_, rfl⟩
 have Dg10 := lhd a1
 have Ag10 := lhd a3
 have Hg10 := lhd hg10
 rw [hg10] at Dg10 ⊢
 clear a1 a2 a3 hg10
 go_wp2_with (refine wpList_store_to rfl 57 _ _ rfl g10 (rpc Q.1 (.slice Au nu2 cu)) (rpc rp0 (.slice none 0 0)) 57 rfl rfl Dg10.out szRpT rfl (rpc_allM _ _ _ _) ?_)
 intro wj e1 e2 e3 e4
 have EA := lhd (Ag10.out.trans (e3.mono (by rw [Hg10.out]; exact Nat.le_refl _)))
 have Ej := lhd (Eh.out.trans (EA.out.mono Eh.out.size))
 obtain ⟨Q1, hQ1⟩ : ∃ q, pQ Q.1 = q := ⟨_, rfl⟩
 obtain ⟨OQ, hOQ⟩ : ∃ q, oQ o = q := ⟨_, rfl⟩
 have c1 : wj.cell? ⟨g10, 1, none⟩ = some (.int .i64 Q1) := by rw [← hQ1]; exact e1.at_ 1 _ rfl
 have c41 : wj.cell? ⟨g4, 1, none⟩ = some (.int .i64 OQ) := by rw [← hOQ]; exact (X4.out.below (KD.out _ Ej.out) hl4).at_ 1 _ rfl
 clear e1 e2 e3 e4 Dg10 Ag10 Hg10 EA Eh Eg
 obtain ⟨bq, hbq⟩ : ∃ q, Q.2 = q := ⟨_, rfl⟩
 rw [hbq]
 have ways : (bq = false ∨ (bq = true ∧ Q1 < OQ)) ∨ (bq = true ∧ ¬ Q1 < OQ) := by
  cases bq
  ·exact .inl (.inl rfl)
  ·by_cases h : Q1 < OQ
   ·exact .inl (.inr ⟨rfl, h⟩)
   ·exact .inr ⟨rfl, h⟩
 rcases ways with hw | ⟨hw, hlt⟩
 ·have HYE : Hid (Y = (r, noR o 9, [])) := lhd (by
   rw [← HY.out]
   refine once_full r o HRR.out HM.out ?_
   rw [HY.out, HQ.out, hbq, hQ1, hOQ]
   rcases hw with hw | ⟨_, hw⟩
   ·exact .inl hw
   ·exact .inr hw)
  clear hbq hQ1 hOQ
  rcases hw with hw | ⟨hw, hlt⟩
  all_goals subst hw
  all_goals
   obtain rfl : Y = (r, noR o 9, []) := HYE.out
   have X8g := X8.out.below Ej.out hl8
   have X7g := lhd (X7.out.below Ej.out hl7)
   have X3g := lhd (X3.out.below (KD.out _ Ej.out) hl3)
   go_wp2_with fail
   refine (alive13 wj).mono ?_
   rintro e wh ⟨rfl, hb⟩
   have Eh := lhd ((Ej.out).trans (hb.mono (Ej.out).size))
   have c2 := (X8g.below hb X8g.lt).at_ 2 _ rfl
   have X7h := lhd (X7g.out.below hb X7g.out.lt)
   have X3h := lhd (X3g.out.below hb X3g.out.lt)
   clear hb X8g X7g X3g
   go_wp2_with (first | refine wpList_load_partG (by rfl) 33 _ rfl g7 0 (rmc (mT r) (.slice AbN nbN cbN) (.slice AbS nbS cbS) (.slice AbW nbW cbW) (.slice AbL nbL cbL)) (rmc (mT r) (.slice AbN nbN cbN) (.slice AbS nbS cbS) (.slice AbW nbW cbW) (.slice AbL nbL cbL)) 33 rfl X7h.out rfl huR hdR szRmP ?_ | refine wpList_load_partG (by rfl) 33 _ rfl g3 0 (rmc (mT r) (.slice AaN naN caN) (.slice AaS naS caS) (.slice AaW naW caW) (.slice AaL naL caL)) (rmc (mT r) (.slice AaN naN caN) (.slice AaS naS caS) (.slice AaW naW caW) (.slice AaL naL caL)) 33 rfl X3h.out rfl huR hdR szRmP ?_ | fail)
   refine (rmSame_yes r (.slice AbN nbN cbN) (.slice AbS nbS cbS) (.slice AbW nbW cbW) (.slice AbL nbL cbL) (.slice AaN naN caN) (.slice AaS naS caS) (.slice AaW naW caW) (.slice AaL naL caL) wh (RYd.out.belowM Eh.out) (RM2.out.belowM (KD.out _ Eh.out)) HRR.out HNM.out).mono ?_
   rintro e wi ⟨rfl, hb⟩
   have Ei := lhd (Eh.out.trans (hb.mono Eh.out.size))
   clear hb c2 X7h X3h
   go_wp2
   go_ret
   exact ⟨rfl, KB.out _ (KD.out _ Ei.out)⟩
 have HAG : Hid (∀ m : List Or, (∀ x ∈ m, oC x ≠ oC o) → applyR (foldR Y.1 m).1 o = ((foldR Y.1 m).1, Y.2.1, []) ∧ pC Y.2.1 = oC o) := lhd (fun m hm => by
  have := once_again r o m HRR.out HM.out hm (by rw [HY.out, HQ.out, hbq, hw])
  rw [HY.out] at this
  exact this)
 subst hw
 clear hbq hQ1 hOQ
 go_wp2
 clear c1 c41 hlt
 go_loopw [12] (fun x wr => ∃ i : Nat, i ≤ n ∧ x = .int .i64 (i : Int) ∧ Hid (∀ j, j < i → oC (l.getD j or0) ≠ oC o) ∧ Hid (Below wd.heap.size wd wr)) (fun x _ => n - (intOf x).toNat)
 case atStart => exact ⟨0, Nat.zero_le _, rfl, lhd (fun j h => absurd h (Nat.not_lt_zero j)), Ej⟩
 case round =>
  clear Ej
  obtain ⟨i, hi, rfl, HN, EI⟩ := hrel
  obtain ⟨wI, rfl⟩ : ∃ q, q = wr := ⟨_, rfl⟩
  by_cases hi2 : i < n
  ·have zi : (i : Int) < (n : Int) := by omega
   have hil : i < l.length := by rw [HL.out]; exact hi2
   obtain ⟨a, hA, q0, q1, q2, q3, q4, q5, q6, q7⟩ := (RO2.out.below (KD.out _ EI.out)).atOr i hil
   subst hA
   clear q1 q2 q3 q4 q5 q6 q7
   have c40 := (X4.out.below (KD.out _ EI.out) hl4).at_ 0 _ rfl
   obtain ⟨CI, hCI⟩ : ∃ q, oC (l.getD i or0) = q := ⟨_, rfl⟩
   obtain ⟨CO, hCO⟩ : ∃ q, oC o = q := ⟨_, rfl⟩
   rw [hCI] at q0
   rw [hCO] at c40
   have HCI := lhd hCI
   have HCO := lhd hCO
   have hbe : ∃ b, (CI == CO) = b := ⟨_, rfl⟩
   obtain ⟨b9, hb9⟩ := hbe
   have HB9 : Hid (b9 = false → CI ≠ CO) := lhd (fun h => by
    rw [h] at hb9
    simpa using hb9)
   clear hCI hCO hil
   go_wp2
   refine wp_region_quiet_lit (by kernel_rfl) (by kernel_rfl) ?_
   repeat (first | go_big_quiet_step (fail) | quiet_step (fail))
   refine wpQuiet_nil ?_
   intro _ hw'
   obtain ⟨nq, hw''⟩ := hw'
   subst hw''
   obtain ⟨wD, hW⟩ : ∃ W, wI.drewN nq = W := ⟨_, rfl⟩
   have EID : Hid (Below wd.heap.size wd wD) := lhd (by rw [← hW]; exact EI.out.trans ((Below.drewN' (Below.refl _ _)).mono EI.out.size))
   rw [hW]
   clear hW q0 c40 EI hb9
   cases b9 with
   | true =>
     go_wp2_with fail
     refine (alive13 wD).mono ?_
     rintro e wz ⟨rfl, hbz⟩
     have BZ := lhd ((KB.out _ (KD.out _ EID.out)).trans (hbz.mono (KB.out _ (KD.out _ EID.out)).size))
     clear hbz
     go_wp2
     go_ret
     exact ⟨rfl, BZ.out⟩
   | false =>
     go_wp2
     go_roundw
     case rel =>
      refine ⟨i + 1, by omega, by go_num, lhd fun j hj => ?_, EID⟩
      rcases Nat.lt_or_ge j i with h | h
      ·exact HN.out j h
      ·obtain rfl : j = i := by omega
       rw [HCI.out, HCO.out]
       exact HB9.out rfl
     case measure => simp [intOf]; omega
  ·obtain rfl : i = n := by omega
   have zi : ¬ (i : Int) < (i : Int) := by omega
   have HAG2 : Hid (applyR (foldR Y.1 l).1 o = ((foldR Y.1 l).1, Y.2.1, []) ∧ pC Y.2.1 = oC o) := lhd (HAG.out l (fun x hx => by
    obtain ⟨j, hj, rfl⟩ := List.getElem_of_mem hx
    have := HN.out j (by rw [← HL.out]; exact hj)
    rwa [List.getD_eq_getElem?_getD, List.getElem?_eq_getElem hj] at this))
   clear HAG HN
   have X7i := lhd (X7.out.below EI.out hl7)
   go_wp2_with (first | refine wpList_load_part rfl 33 _ rfl g7 0 (rmc (mT Y.1) (.slice AbN nbN cbN) (.slice AbS nbS cbS) (.slice AbW nbW cbW) (.slice AbL nbL cbL)) (rmc (mT Y.1) (.slice AbN nbN cbN) (.slice AbS nbS cbS) (.slice AbW nbW cbW) (.slice AbL nbL cbL)) 33 rfl X7i.out rfl huR hdR szRmP ?_ | fail)
   refine (rmFold_any Y.1 l (.slice AbN nbN cbN) (.slice AbS nbS cbS) (.slice AbW nbW cbW) (.slice AbL nbL cbL) (.slice A i c) wI (RYd.out.belowM EI.out) HRY.out HNY.out.1 ((RO2.out.below (KD.out _ EI.out)).more (KD.out _ EI.out).size) (by rw [HL.out]; omega) HFL.out).mono ?_
   rintro e wk ⟨fN, fS, fW, fL, vR, vE2, rfl, h1, h2, h3, hb⟩
   obtain ⟨U, hU⟩ : ∃ q, (foldR Y.1 l).1 = q := ⟨_, rfl⟩
   have HRF : Hid (RightR U) := by rw [← hU]; exact lhd (right_fold _ _ HRY.out)
   have HNF : Hid (NamesR (mL U)) := by rw [← hU]; exact lhd (names_fold _ _ HRY.out HNY.out.1)
   rw [hU] at h1 HAG2 ⊢
   have hFr := h1.rd
   obtain ⟨AfN, cfN, hv, -, -⟩ := hFr.n.shape
   obtain ⟨nfN, hnfN⟩ : ∃ q, (mN U).length = q := ⟨_, rfl⟩
   rw [hnfN] at hv
   subst hv
   obtain ⟨AfS, cfS, hv, -, -⟩ := hFr.s.shape
   obtain ⟨nfS, hnfS⟩ : ∃ q, (mS U).length = q := ⟨_, rfl⟩
   rw [hnfS] at hv
   subst hv
   obtain ⟨AfW, cfW, hv, -, -⟩ := hFr.t.shape
   obtain ⟨nfW, hnfW⟩ : ∃ q, (mW U).length = q := ⟨_, rfl⟩
   rw [hnfW] at hv
   subst hv
   obtain ⟨AfL, cfL, hv, -, -⟩ := hFr.l.shape
   obtain ⟨nfL, hnfL⟩ : ∃ q, (mL U).length = q := ⟨_, rfl⟩
   rw [hnfL] at hv
   subst hv
   clear hnfN hnfS hnfW hnfL
   have Ek := lhd (EI.out.trans (hb.mono EI.out.size))
   have RF := lhd hFr
   obtain ⟨ss, hs1, hs2, hs3⟩ := h2
   obtain ⟨AR, cR, hv⟩ := hs2.shape
   obtain ⟨nR, hnR⟩ : ∃ q, (rvs (foldR Y.1 l).2.1 ss).length = q := ⟨_, rfl⟩
   rw [hnR] at hv
   subst hv
   obtain ⟨AE, cE, hv⟩ := h3.shape
   obtain ⟨nE, hnE⟩ : ∃ q, (foldR Y.1 l).2.2.length = q := ⟨_, rfl⟩
   rw [hnE] at hv
   subst hv
   clear hb hFr h1 hs1 hs2 hs3 h3 hU hnR hnE X7i
   go_wp2_with (refine wpList_alloc_blk rfl 33 rfl (rmc 0 (.slice none 0 0) (.slice none 0 0) (.slice none 0 0) (.slice none 0 0)) zeroRmP ?_)
   intro wl a1 a2 a3
   obtain ⟨g13, hg13⟩ : ∃ g, wk.heap.size = g := ⟨_, rfl⟩
   have Dg13 := lhd a1
   have Ag13 := lhd a3
   have Hg13 := lhd hg13
   rw [hg13] at Dg13 ⊢
   clear a1 a2 a3 hg13
   go_wp2_with (refine wpList_store_to rfl 33 _ _ rfl g13 (rmc (mT U) (.slice AfN nfN cfN) (.slice AfS nfS cfS) (.slice AfW nfW cfW) (.slice AfL nfL cfL)) (rmc 0 (.slice none 0 0) (.slice none 0 0) (.slice none 0 0) (.slice none 0 0)) 33 rfl rfl Dg13.out szRmP rfl (rmc_all _ _ _ _ _ _ _ _ _ _ _ _ _) ?_)
   intro wm e1 e2 e3 e4
   have X13 := lhd e1
   have EA := lhd (Ag13.out.trans (e3.mono (by rw [Hg13.out]; exact Nat.le_refl _)))
   have Em := lhd (Ek.out.trans (EA.out.mono Ek.out.size))
   have RFm := lhd (RF.out.belowM EA.out)
   have hl13 := X13.out.lt
   clear e1 e2 e3 e4 Dg13 Ag13 Hg13 EA Ek RF
   have X4m := lhd (X4.out.below (KD.out _ Em.out) hl4)
   go_wp2_with (first | refine wpList_load_part rfl 33 _ rfl g13 0 (rmc (mT U) (.slice AfN nfN cfN) (.slice AfS nfS cfS) (.slice AfW nfW cfW) (.slice AfL nfL cfL)) (rmc (mT U) (.slice AfN nfN cfN) (.slice AfS nfS cfS) (.slice AfW nfW cfW) (.slice AfL nfL cfL)) 33 rfl X13.out rfl huR hdR szRmP ?_ | refine wpList_load_part rfl 35 _ rfl g4 0 (orc o) (orc o) 35 rfl X4m.out rfl huO hdO szOrT ?_ | fail)
   refine (rmApply_any U o (.slice AfN nfN cfN) (.slice AfS nfS cfS) (.slice AfW nfW cfW) (.slice AfL nfL cfL) wm RFm.out HRF.out HNF.out HFO.out).mono ?_
   intro e wn h9
   rw [HAG2.out.1] at h9
   obtain ⟨zN, zS, zW, zL, nw, vE3, rfl, h1, h2, h3, hb⟩ := h9
   have hZr := h1.rd
   dsimp only at hZr h2 h3 ⊢
   obtain ⟨AzN, czN, hv, -, -⟩ := hZr.n.shape
   obtain ⟨nzN, hnzN⟩ : ∃ q, (mN U).length = q := ⟨_, rfl⟩
   rw [hnzN] at hv
   subst hv
   obtain ⟨AzS, czS, hv, -, -⟩ := hZr.s.shape
   obtain ⟨nzS, hnzS⟩ : ∃ q, (mS U).length = q := ⟨_, rfl⟩
   rw [hnzS] at hv
   subst hv
   obtain ⟨AzW, czW, hv, -, -⟩ := hZr.t.shape
   obtain ⟨nzW, hnzW⟩ : ∃ q, (mW U).length = q := ⟨_, rfl⟩
   rw [hnzW] at hv
   subst hv
   obtain ⟨AzL, czL, hv, -, -⟩ := hZr.l.shape
   obtain ⟨nzL, hnzL⟩ : ∃ q, (mL U).length = q := ⟨_, rfl⟩
   rw [hnzL] at hv
   subst hv
   clear hnzN hnzS hnzW hnzL
   obtain ⟨Aw, cw, hv⟩ := h2.shape
   obtain ⟨nw2, hnw⟩ : ∃ q, (pN Y.2.1).length = q := ⟨_, rfl⟩
   rw [hnw] at hv
   subst hv
   obtain ⟨AV, cV, hv, -, -⟩ := h3.rd.shape
   obtain rfl : vE3 = .slice AV 0 cV := hv
   have En := lhd (Em.out.trans (hb.mono Em.out.size))
   have RZn := lhd hZr
   have RWn := lhd h2.rd
   have X13n := lhd (X13.out.below hb hl13)
   have RFn := lhd (RFm.out.belowM hb)
   clear hb hZr h1 h2 h3 hnw X4m X13 RFm Em
   go_wp2_with (refine wpList_alloc_blk rfl 33 rfl (rmc 0 (.slice none 0 0) (.slice none 0 0) (.slice none 0 0) (.slice none 0 0)) zeroRmP ?_)
   intro wo a1 a2 a3
   obtain ⟨g16, hg16⟩ : ∃ g, wn.heap.size = g := ⟨_, rfl⟩
   have Dg16 := lhd a1
   have Ag16 := lhd a3
   have Hg16 := lhd hg16
   rw [hg16] at Dg16 ⊢
   clear a1 a2 a3 hg16
   go_wp2_with (refine wpList_alloc_blk rfl 57 rfl (rpc rp0 (.slice none 0 0)) zeroRpT ?_)
   intro wp a1 a2 a3
   obtain ⟨g17, hg17⟩ : ∃ g, wo.heap.size = g := ⟨_, rfl⟩
   have Dg17 := lhd a1
   have Ag17 := lhd a3
   have Hg17 := lhd hg17
   rw [hg17] at Dg17 ⊢
   clear a1 a2 a3 hg17
   have hg167 : g16 < g17 := by rw [← Hg17.out]; exact Dg16.out.lt
   have Dg16 := lhd (Dg16.out.below Ag17.out Dg16.out.lt)
   go_wp2_with (refine wpList_store_to rfl 33 _ _ rfl g16 (rmc (mT U) (.slice AzN nzN czN) (.slice AzS nzS czS) (.slice AzW nzW czW) (.slice AzL nzL czL)) (rmc 0 (.slice none 0 0) (.slice none 0 0) (.slice none 0 0) (.slice none 0 0)) 33 rfl rfl Dg16.out szRmP rfl (rmc_all _ _ _ _ _ _ _ _ _ _ _ _ _) ?_)
   intro wq e1 e2 e3 e4
   have X16 := lhd e1
   have D17 := lhd (Dg17.out.same (e4 g17 (by omega)))
   have EA := lhd (Ag16.out.trans ((Ag17.out.mono Ag16.out.size).trans (e3.mono (by rw [Hg16.out]; exact Nat.le_refl _))))
   clear e1 e2 e3 e4 Dg16 Dg17 Ag16 Ag17
   go_wp2_with (refine wpList_store_to rfl 57 _ _ rfl g17 (rpc Y.2.1 (.slice Aw nw2 cw)) (rpc rp0 (.slice none 0 0)) 57 rfl rfl D17.out szRpT rfl (rpc_allM _ _ _ _) ?_)
   intro ws e1 e2 e3 e4
   have X17 := lhd e1
   have X16 := lhd (X16.out.same (e4 g16 (by omega)))
   have EB := lhd (EA.out.trans (e3.mono (by rw [Hg16.out]; omega)))
   have Es := lhd (En.out.trans (EB.out.mono En.out.size))
   have RZs := lhd (RZn.out.belowM EB.out)
   have RWs := lhd ((RWn.out.below EB.out).more EB.out.size)
   have RFs := lhd (RFn.out.belowM EB.out)
   have X13s := lhd (X13n.out.below EB.out X13n.out.lt)
   have X8s := lhd (X8.out.below Es.out hl8)
   have X4s := lhd (X4.out.below (KD.out _ Es.out) hl4)
   have RNs := lhd ((RNd.out.below Es.out).more Es.out.size)
   clear e1 e2 e3 e4 D17 EA EB En RZn RWn RFn X13n Hg16 Hg17
   have hg16l := X16.out.lt
   have hg17l := X17.out.lt
   have hg13l := X13s.out.lt
   have hg8l := X8s.out.lt
   have hg4l := X4s.out.lt
   go_wp2
   obtain ⟨W0, hW0⟩ : ∃ q, ws = q := ⟨_, rfl⟩
   have ES : Hid (Below W0.heap.size W0 ws.drew) := lhd (by rw [← hW0]; exact (Below.refl _ _).drew)
   rw [hW0] at X16 X17 X13s X8s X4s RZs RWs RFs RNs Es hg16l hg17l hg13l hg8l hg4l
   obtain ⟨FF, hF⟩ : ∃ F : (Nat → Value) → Act, F = fun x => ⟨#[.agg (rmc (mT r) (Value.slice AaN naN caN) (Value.slice AaS naS caS) (Value.slice AaW naW caW) (Value.slice AaL naL caL)).toArray, .agg (orc o).toArray, .slice A i c, .pointer (some { block := g3, off := 0 }), .pointer (some { block := g4, off := 0 }), undef, x 25, .pointer (some { block := g7, off := 0 }), .pointer (some { block := g8, off := 0 }), vE, .pointer (some { block := g10, off := 0 }), .bool true, .int IntKind.i64 ↑i, .pointer (some { block := g13, off := 0 }), .slice AR nR cR, .slice AE nE cE, .pointer (some { block := g16, off := 0 }), .pointer (some { block := g17, off := 0 }), .slice AV 0 cV, .agg (rmc (mT r) (Value.slice AaN naN caN) (Value.slice AaS naS caS) (Value.slice AaW naW caW) (Value.slice AaL naL caL)).toArray, .bool true, .bool false, .bool false, .slice A i c, .bool true, .bool false, .bool false, .bool false, .agg #[Value.int IntKind.i64 (oC o), Value.int IntKind.i64 (oQ o), Value.int IntKind.i64 (oK o), txt (oP o), txt (oV o), Value.int IntKind.i64 (oR o), Value.int IntKind.i64 (oS o), Value.int IntKind.i64 (oT o)], .slice (some { block := w4.heap.size, off := 0 }) 1 1, .bool true, .bool false, .bool false, .bool false, .agg (rmc (mT r) (Value.slice AaN naN caN) (Value.slice AaS naS caS) (Value.slice AaW naW caW) (Value.slice AaL naL caL)).toArray, .agg (rmc (mT r) uN uS uW uL).toArray, .bool true, .bool false, .bool false, undef, .tuple #[Value.agg (rmc (mT Y.fst) (Value.slice AbN nbN cbN) (Value.slice AbS nbS cbS) (Value.slice AbW nbW cbW) (Value.slice AbL nbL cbL)).toArray, Value.agg (rpc Y.snd.fst (Value.slice Ax nx cx)).toArray, vE], .agg (rmc (mT r) (Value.slice AaN naN caN) (Value.slice AaS naS caS) (Value.slice AaW naW caW) (Value.slice AaL naL caL)).toArray, .agg (orc o).toArray, .tuple #[Value.agg (rmc (mT Y.fst) (Value.slice AbN nbN cbN) (Value.slice AbS nbS cbS) (Value.slice AbW nbW cbW) (Value.slice AbL nbL cbL)).toArray, Value.agg (rpc Y.snd.fst (Value.slice Ax nx cx)).toArray, vE], .agg (rmc (mT Y.fst) (Value.slice AbN nbN cbN) (Value.slice AbS nbS cbS) (Value.slice AbW nbW cbW) (Value.slice AbL nbL cbL)).toArray, .agg (rpc Y.snd.fst (Value.slice Ax nx cx)).toArray, vE, .agg (rmc (mT Y.fst) (Value.slice AbN nbN cbN) (Value.slice AbS nbS cbS) (Value.slice AbW nbW cbW) (Value.slice AbL nbL cbL)).toArray, .agg (rmc (mT Y.fst) pN' pS' pW' pL').toArray, .bool true, .bool false, .agg (orc o).toArray, .bool true, .bool false, undef, undef, undef, undef, undef, undef, undef, undef, undef, undef, undef, .tuple #[Value.agg (rpc Q.fst (Value.slice Au nu2 cu)).toArray, Value.bool true], .agg (rmc (mT Y.fst) (Value.slice AbN nbN cbN) (Value.slice AbS nbS cbS) (Value.slice AbW nbW cbW) (Value.slice AbL nbL cbL)).toArray, .pointer (some { block := g4, off := 0 }), .int IntKind.i64 (oC o), .tuple #[Value.agg (rpc Q.fst (Value.slice Au nu2 cu)).toArray, Value.bool true], .agg (rpc Q.fst (Value.slice Au nu2 cu)).toArray, .bool true, .bool true, .bool false, .bool false, .pointer (some { block := g10, off := 1 }), .int IntKind.i64 Q1, .pointer (some { block := g4, off := 1 }), .int IntKind.i64 OQ, .bool false, .bool false, undef, undef, undef, undef, undef, undef, undef, undef, undef, undef, undef, .int IntKind.i64 ↑i, .slice A i c, .int IntKind.i64 ↑i, .bool false, u96, u97, u98, u99, u100, u101, u102, u103, u104, u105, u106, .tuple #[Value.agg (rmc (mT U) (Value.slice AfN nfN cfN) (Value.slice AfS nfS cfS) (Value.slice AfW nfW cfW) (Value.slice AfL nfL cfL)).toArray, Value.slice AR nR cR, Value.slice AE nE cE], .agg (rmc (mT Y.fst) (Value.slice AbN nbN cbN) (Value.slice AbS nbS cbS) (Value.slice AbW nbW cbW) (Value.slice AbL nbL cbL)).toArray, .slice A i c, .tuple #[Value.agg (rmc (mT U) (Value.slice AfN nfN cfN) (Value.slice AfS nfS cfS) (Value.slice AfW nfW cfW) (Value.slice AfL nfL cfL)).toArray, Value.slice AR nR cR, Value.slice AE nE cE], .agg (rmc (mT U) (Value.slice AfN nfN cfN) (Value.slice AfS nfS cfS) (Value.slice AfW nfW cfW) (Value.slice AfL nfL cfL)).toArray, .slice AR nR cR, .slice AE nE cE, .tuple #[Value.agg (rmc (mT U) (Value.slice AzN nzN czN) (Value.slice AzS nzS czS) (Value.slice AzW nzW czW) (Value.slice AzL nzL czL)).toArray, Value.agg (rpc Y.snd.fst (Value.slice Aw nw2 cw)).toArray, Value.slice AV 0 cV], .agg (rmc (mT U) (Value.slice AfN nfN cfN) (Value.slice AfS nfS cfS) (Value.slice AfW nfW cfW) (Value.slice AfL nfL cfL)).toArray, .agg (orc o).toArray, .tuple #[Value.agg (rmc (mT U) (Value.slice AzN nzN czN) (Value.slice AzS nzS czS) (Value.slice AzW nzW czW) (Value.slice AzL nzL czL)).toArray, Value.agg (rpc Y.snd.fst (Value.slice Aw nw2 cw)).toArray, Value.slice AV 0 cV], .agg (rmc (mT U) (Value.slice AzN nzN czN) (Value.slice AzS nzS czS) (Value.slice AzW nzW czW) (Value.slice AzL nzL czL)).toArray, .agg (rpc Y.snd.fst (Value.slice Aw nw2 cw)).toArray, .slice AV 0 cV, x 0, x 1, x 2, x 3, x 4, x 5, x 6, x 7, x 8, x 9, x 10, x 11, x 12, x 13, x 14, x 15, x 16, x 17, x 18, x 19, x 20, x 21, x 22, x 23, x 24], []⟩ := ⟨_, rfl⟩
   have HFF := lhd hF
   refine wp_region_tillK 26 FF (fun k => [undef, undef, undef, undef, undef, undef, undef, undef, undef, undef, undef, undef, undef, undef, undef, undef, undef, undef, undef, undef, undef, undef, undef, undef, undef, u6].getD k undef) (fun w9 => Below W0.heap.size W0 w9) (by rw [hF]; rfl) rfl (by kernel_rfl) ?_
   intro x hL
   clear hF
   obtain ⟨wA, hwA⟩ : ∃ q, ws.drew = q := ⟨_, rfl⟩
   rw [hwA] at ES ⊢
   clear hwA hW0
   refine AnyTill.oneK 0 (by kernel_rfl) rfl HFF (wanted_none rfl) (fun _ _ => rfl) hL rfl (fun K hK => ?_)
   go_simp
   refine (alive13 wA).mono ?_
   rintro e wB ⟨rfl, hb⟩
   have ES2 := lhd (ES.out.trans (hb.mono ES.out.size))
   refine hK.out _ wB ES2.out ?_
   clear hK K hb ES wA
   clear hL  x
   intro x hL
   obtain ⟨wA, rfl⟩ : ∃ q, q = wB := ⟨_, rfl⟩
   have ES := ES2
   clear ES2
   refine AnyTill.tk 1 (.bool true) (wanted_none rfl) HFF hL (fun w9 hS9 => ?_) ES.out ?_
   ·have q0 := hL.at_ 0 rfl
    rw [q0]
    (go_simp; try rfl)
   clear hL x
   intro x hL
   refine AnyTill.takeK 2 (.agg (rmc (mT U) (.slice AzN nzN czN) (.slice AzS nzS czS) (.slice AzW nzW czW) (.slice AzL nzL czL)).toArray) rfl (by kernel_rfl) rfl rfl (by kernel_rfl) (by kernel_rfl) HFF (by have hG := hL.at_ 0 rfl; simp [Region.wanted, yielded, hG]) (fun _ _ => rfl) hL rfl (fun w9 hS9 => ?_) (by exact ES.out) ?_
   ·exact run_load_part 33 _ rfl g16 0 (rmc (mT U) (.slice AzN nzN czN) (.slice AzS nzS czS) (.slice AzW nzW czW) (.slice AzL nzL czL)) (rmc (mT U) (.slice AzN nzN czN) (.slice AzS nzS czS) (.slice AzW nzW czW) (.slice AzL nzL czL)) 33 rfl (X16.out.below hS9 hg16l) rfl huR hdR szRmP
   clear hL x
   intro x hL
   refine AnyTill.takeK 3 (.agg (rmc (mT U) (.slice AfN nfN cfN) (.slice AfS nfS cfS) (.slice AfW nfW cfW) (.slice AfL nfL cfL)).toArray) rfl (by kernel_rfl) rfl rfl (by kernel_rfl) (by kernel_rfl) HFF (by have hG := hL.at_ 1 rfl; simp [Region.wanted, yielded, hG]) (fun _ _ => rfl) hL rfl (fun w9 hS9 => ?_) (by exact ES.out) ?_
   ·exact run_load_part 33 _ rfl g13 0 (rmc (mT U) (.slice AfN nfN cfN) (.slice AfS nfS cfS) (.slice AfW nfW cfW) (.slice AfL nfL cfL)) (rmc (mT U) (.slice AfN nfN cfN) (.slice AfS nfS cfS) (.slice AfW nfW cfW) (.slice AfL nfL cfL)) 33 rfl (X13s.out.below hS9 hg13l) rfl huR hdR szRmP
   clear hL x
   intro x hL
   refine AnyTill.oneK 4 (by kernel_rfl) rfl HFF (by have hG := hL.at_ 2 rfl; simp [Region.wanted, yielded, hG]) (fun _ _ => rfl) hL rfl (fun K hK => ?_)
   have q2 := lhd (hL.at_ 1 rfl)
   have q3 := lhd (hL.at_ 0 rfl)
   go_simp
   refine calls_args (args2 := #[.agg (rmc (mT U) (.slice AzN nzN czN) (.slice AzS nzS czS) (.slice AzW nzW czW) (.slice AzL nzL czL)).toArray, .agg (rmc (mT U) (.slice AfN nfN cfN) (.slice AfS nfS cfS) (.slice AfW nfW cfW) (.slice AfL nfL cfL)).toArray]) (by rw [q2.out, q3.out]) ?_
   refine (rmSame_yes U (.slice AzN nzN czN) (.slice AzS nzS czS) (.slice AzW nzW czW) (.slice AzL nzL czL) (.slice AfN nfN cfN) (.slice AfS nfS cfS) (.slice AfW nfW cfW) (.slice AfL nfL cfL) wA (RZs.out.belowM ES.out) (RFs.out.belowM ES.out) HRF.out HNF.out).mono ?_
   rintro e wB ⟨rfl, hb⟩
   have ES2 := lhd (ES.out.trans (hb.mono ES.out.size))
   refine hK.out _ wB ES2.out ?_
   clear hK K hb ES wA
   clear hL q2 q3 x
   intro x hL
   obtain ⟨wA, rfl⟩ : ∃ q, q = wB := ⟨_, rfl⟩
   have ES := ES2
   clear ES2
   refine AnyTill.tk 5 (.bool true) (wanted_none rfl) HFF hL (fun w9 hS9 => ?_) ES.out ?_
   ·have q1 := hL.at_ 3 rfl
    have q4 := hL.at_ 0 rfl
    rw [q1, q4]
    (go_simp; try rfl)
   clear hL x
   intro x hL
   refine AnyTill.tk 6 (.bool true) (wanted_none rfl) HFF hL (fun w9 hS9 => ?_) ES.out ?_
   ·have q5 := hL.at_ 0 rfl
    rw [q5]
    (go_simp; try rfl)
   clear hL x
   intro x hL
   refine AnyTill.takeK 7 (.slice AV 0 cV) rfl (by kernel_rfl) rfl rfl (by kernel_rfl) (by kernel_rfl) HFF (by have hG := hL.at_ 0 rfl; simp [Region.wanted, yielded, hG]) (fun _ _ => rfl) hL rfl (fun w9 hS9 => ?_) (by exact ES.out) ?_
   ·(go_simp; try rfl)
   clear hL x
   intro x hL
   refine AnyTill.takeK 8 (.int .i64 0) rfl (by kernel_rfl) rfl rfl (by kernel_rfl) (by kernel_rfl) HFF (by have hG := hL.at_ 1 rfl; simp [Region.wanted, yielded, hG]) (fun _ _ => rfl) hL rfl (fun w9 hS9 => ?_) (by exact ES.out) ?_
   ·have q7 := hL.at_ 0 rfl
    rw [q7]
    (go_simp; try rfl)
   clear hL x
   intro x hL
   refine AnyTill.takeK 9 (.bool true) rfl (by kernel_rfl) rfl rfl (by kernel_rfl) (by kernel_rfl) HFF (by have hG := hL.at_ 2 rfl; simp [Region.wanted, yielded, hG]) (fun _ _ => rfl) hL rfl (fun w9 hS9 => ?_) (by exact ES.out) ?_
   ·have q8 := hL.at_ 0 rfl
    rw [q8]
    (go_simp; try rfl)
   clear hL x
   intro x hL
   refine AnyTill.tk 10 (.bool true) (wanted_none rfl) HFF hL (fun w9 hS9 => ?_) ES.out ?_
   ·have q6 := hL.at_ 3 rfl
    have q9 := hL.at_ 0 rfl
    rw [q6, q9]
    (go_simp; try rfl)
   clear hL x
   intro x hL
   refine AnyTill.tk 11 (.bool true) (wanted_none rfl) HFF hL (fun w9 hS9 => ?_) ES.out ?_
   ·have q10 := hL.at_ 0 rfl
    rw [q10]
    (go_simp; try rfl)
   clear hL x
   intro x hL
   refine AnyTill.takeK 12 (.agg (rpc Y.2.1 (.slice Ax nx cx)).toArray) rfl (by kernel_rfl) rfl rfl (by kernel_rfl) (by kernel_rfl) HFF (by have hG := hL.at_ 0 rfl; simp [Region.wanted, yielded, hG]) (fun _ _ => rfl) hL rfl (fun w9 hS9 => ?_) (by exact ES.out) ?_
   ·exact run_load_part 57 _ rfl g8 0 (rpc Y.2.1 (.slice Ax nx cx)) (rpc Y.2.1 (.slice Ax nx cx)) 57 rfl (X8s.out.below hS9 hg8l) rfl huP hdP szRpT
   clear hL x
   intro x hL
   refine AnyTill.takeK 14 (.agg (rpc Y.2.1 (.slice Aw nw2 cw)).toArray) rfl (by kernel_rfl) rfl rfl (by kernel_rfl) (by kernel_rfl) HFF (by have hG := hL.at_ 1 rfl; simp [Region.wanted, yielded, hG]) (fun _ _ => rfl) hL rfl (fun w9 hS9 => ?_) (by exact ES.out) ?_
   ·exact run_load_part 57 _ rfl g17 0 (rpc Y.2.1 (.slice Aw nw2 cw)) (rpc Y.2.1 (.slice Aw nw2 cw)) 57 rfl (X17.out.below hS9 hg17l) rfl huP hdP szRpT
   clear hL x
   intro x hL
   refine AnyTill.oneK 13 (by kernel_rfl) rfl HFF (by have hG := hL.at_ 2 rfl; simp [Region.wanted, yielded, hG]) (fun _ _ => rfl) hL rfl (fun K hK => ?_)
   have q12 := lhd (hL.at_ 1 rfl)
   go_simp
   refine calls_args (args2 := #[.agg (rpc Y.2.1 (.slice Ax nx cx)).toArray]) (by rw [q12.out]) ?_
   refine (told13 Y.2.1 Ax nx cx wA).mono ?_
   rintro e wB ⟨rfl, hb⟩
   have ES2 := lhd (ES.out.trans (hb.mono ES.out.size))
   refine hK.out _ wB ES2.out ?_
   clear hK K hb ES wA
   clear hL q12 x
   intro x hL
   obtain ⟨wA, rfl⟩ : ∃ q, q = wB := ⟨_, rfl⟩
   have ES := ES2
   clear ES2
   refine AnyTill.oneK 15 (by kernel_rfl) rfl HFF (by have hG := hL.at_ 3 rfl; simp [Region.wanted, yielded, hG]) (fun _ _ => rfl) hL rfl (fun K hK => ?_)
   have q14 := lhd (hL.at_ 1 rfl)
   go_simp
   refine calls_args (args2 := #[.agg (rpc Y.2.1 (.slice Aw nw2 cw)).toArray]) (by rw [q14.out]) ?_
   refine (told13 Y.2.1 Aw nw2 cw wA).mono ?_
   rintro e wB ⟨rfl, hb⟩
   have ES2 := lhd (ES.out.trans (hb.mono ES.out.size))
   refine hK.out _ wB ES2.out ?_
   clear hK K hb ES wA
   clear hL q14 x
   intro x hL
   obtain ⟨wA, rfl⟩ : ∃ q, q = wB := ⟨_, rfl⟩
   have ES := ES2
   clear ES2
   refine AnyTill.oneK 16 (by kernel_rfl) rfl HFF (by have hG := hL.at_ 4 rfl; simp [Region.wanted, yielded, hG]) (fun _ _ => rfl) hL rfl (fun K hK => ?_)
   have q13 := lhd (hL.at_ 1 rfl)
   have q15 := lhd (hL.at_ 0 rfl)
   go_simp
   refine calls_args (args2 := #[.agg (rpc Y.2.1 (.slice Ax nx cx)).toArray, .agg (rpc Y.2.1 (.slice Aw nw2 cw)).toArray]) (by rw [q13.out, q15.out]) ?_
   refine (rfSameR_any Y.2.1 (pR Y.2.1) (.slice Ax nx cx) (.slice Aw nw2 cw) wA (RdS.ofE ((RNs.out.below ES.out).more ES.out.size)) (RdS.ofE ((RWs.out.below ES.out).more ES.out.size)) (by have := HNY.out.2; omega)).mono ?_
   rintro e wB ⟨rfl, hb⟩
   rw [decide_eq_true (rfl : pR Y.2.1 = pR Y.2.1)]
   have ES2 := lhd (ES.out.trans (hb.mono ES.out.size))
   refine hK.out _ wB ES2.out ?_
   clear hK K hb ES wA
   clear hL q13 q15 x
   intro x hL
   obtain ⟨wA, rfl⟩ : ∃ q, q = wB := ⟨_, rfl⟩
   have ES := ES2
   clear ES2
   refine AnyTill.tk 17 (.bool true) (wanted_none rfl) HFF hL (fun w9 hS9 => ?_) ES.out ?_
   ·have q11 := hL.at_ 5 rfl
    have q16 := hL.at_ 0 rfl
    rw [q11, q16]
    (go_simp; try rfl)
   clear hL x
   intro x hL
   refine AnyTill.tk 18 (.bool true) (wanted_none rfl) HFF hL (fun w9 hS9 => ?_) ES.out ?_
   ·have q17 := hL.at_ 0 rfl
    rw [q17]
    (go_simp; try rfl)
   clear hL x
   intro x hL
   refine AnyTill.takeK 19 (.pointer (some ⟨g8, 0, none⟩)) rfl (by kernel_rfl) rfl rfl (by kernel_rfl) (by kernel_rfl) HFF (by have hG := hL.at_ 0 rfl; simp [Region.wanted, yielded, hG]) (fun _ _ => rfl) hL rfl (fun w9 hS9 => ?_) (by exact ES.out) ?_
   ·(go_simp; try rfl)
   clear hL x
   intro x hL
   refine AnyTill.takeK 20 (.int .i64 (pC Y.2.1)) rfl (by kernel_rfl) rfl rfl (by kernel_rfl) (by kernel_rfl) HFF (by have hG := hL.at_ 1 rfl; simp [Region.wanted, yielded, hG]) (fun _ _ => rfl) hL rfl (fun w9 hS9 => ?_) (by exact ES.out) ?_
   ·have q19 := hL.at_ 0 rfl
    rw [q19]
    have cc := (X8s.out.below hS9 hg8l).at_ 0 _ rfl
    (go_simp; try rfl)
   clear hL x
   intro x hL
   refine AnyTill.takeK 21 (.pointer (some ⟨g4, 0, none⟩)) rfl (by kernel_rfl) rfl rfl (by kernel_rfl) (by kernel_rfl) HFF (by have hG := hL.at_ 2 rfl; simp [Region.wanted, yielded, hG]) (fun _ _ => rfl) hL rfl (fun w9 hS9 => ?_) (by exact ES.out) ?_
   ·(go_simp; try rfl)
   clear hL x
   intro x hL
   refine AnyTill.takeK 22 (.int .i64 (oC o)) rfl (by kernel_rfl) rfl rfl (by kernel_rfl) (by kernel_rfl) HFF (by have hG := hL.at_ 3 rfl; simp [Region.wanted, yielded, hG]) (fun _ _ => rfl) hL rfl (fun w9 hS9 => ?_) (by exact ES.out) ?_
   ·have q21 := hL.at_ 0 rfl
    rw [q21]
    have cc := (X4s.out.below hS9 hg4l).at_ 0 _ rfl
    (go_simp; try rfl)
   clear hL x
   intro x hL
   refine AnyTill.takeK 23 (.bool true) rfl (by kernel_rfl) rfl rfl (by kernel_rfl) (by kernel_rfl) HFF (by have hG := hL.at_ 4 rfl; simp [Region.wanted, yielded, hG]) (fun _ _ => rfl) hL rfl (fun w9 hS9 => ?_) (by exact ES.out) ?_
   ·have q20 := hL.at_ 2 rfl
    have q22 := hL.at_ 0 rfl
    rw [q20, q22]
    have hq : (pC Y.2.1 == oC o) = true := int_eqE _ _ HAG2.out.2
    first | (go_simp; done) | (go_simp; rfl) | (go_simp; simp [hq])
   clear hL x
   intro x hL
   refine AnyTill.tk 24 (.bool true) (wanted_none rfl) HFF hL (fun w9 hS9 => ?_) ES.out ?_
   ·have q18 := hL.at_ 5 rfl
    have q23 := hL.at_ 0 rfl
    rw [q18, q23]
    (go_simp; try rfl)
   clear hL x
   intro x hL
   refine AnyTill.tk 25 (.bool true) (wanted_none rfl) HFF hL (fun w9 hS9 => ?_) ES.out ?_
   ·have q24 := hL.at_ 0 rfl
    rw [q24]
    (go_simp; try rfl)
   clear hL x
   intro x hL
   have q25 := hL.at_ 0 rfl
   refine AnyTill.done (by kernel_rfl) ?_
   refine NoPanic.normal ?_
   rw [HFF.out]
   try dsimp only
   rw [q25]
   clear q25
   clear hL HFF
   go_wp2
   go_ret
   exact ⟨rfl, KB.out _ (KD.out _ (Es.out.trans (ES.out.mono Es.out.size)))⟩
end Go.Proofs.YtdihngkdhanhkaaGreatDoor
