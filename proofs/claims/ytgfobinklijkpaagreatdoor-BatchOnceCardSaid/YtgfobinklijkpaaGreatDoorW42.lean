/-
  Texts BF BH NV NW.
-/
import Derived.Test.YtgfobinklijkpaaGreatDoorW01
import Derived.Test.YtgfobinklijkpaaGreatDoorW12
import Derived.Test.YtgfobinklijkpaaGreatDoorW13
import Derived.Test.YtgfobinklijkpaaGreatDoorW20
import Derived.Test.YtgfobinklijkpaaGreatDoorW21
import Derived.Test.YtgfobinklijkpaaGreatDoorW41
namespace Go.Proofs.YtgfobinklijkpaaGreatDoor
set_option maxRecDepth 100000
set_option maxHeartbeats 16000000
open Go.RowKit
def newB (r : Rm) (o : Or) : Bool := !(lastR (mL r) (oC o)).2 || decide (pQ (lastR (mL r) (oC o)).1 < oQ o)
theorem isNewB_any (r : Rm) (o : Or) (vN vS vW vL : Value) (w : World) (hr : RdRm w.heap.size w vN vS vW vL r) (hR : RightR r) (hn : NamesR (mL r)) : Calls Tryz.prog 50 #[.agg (rmc (mT r) vN vS vW vL).toArray, .agg (orc o).toArray] w (One (.bool (newB r o)) w) := by
 obtain ⟨AN, cN, hv, -, -⟩ := hr.n.shape
 obtain ⟨nN, hnN⟩ : ∃ q, (mN r).length = q := ⟨_, rfl⟩
 rw [hnN] at hv
 subst hv
 obtain ⟨AS, cS, hv, -, -⟩ := hr.s.shape
 obtain ⟨nS, hnS⟩ : ∃ q, (mS r).length = q := ⟨_, rfl⟩
 rw [hnS] at hv
 subst hv
 obtain ⟨AW, cW, hv, -, -⟩ := hr.t.shape
 obtain ⟨nW, hnW⟩ : ∃ q, (mW r).length = q := ⟨_, rfl⟩
 rw [hnW] at hv
 subst hv
 obtain ⟨AL, cL, hv, -, -⟩ := hr.l.shape
 obtain ⟨nL, hnL⟩ : ∃ q, (mL r).length = q := ⟨_, rfl⟩
 rw [hnL] at hv
 subst hv
 have HRD := lhd hr
 have HR := lhd hR
 have HNM := lhd hn
 clear hr hR hn hnN hnS hnW hnL
 obtain ⟨dR, huR, hdR⟩ := rowRmP
 obtain ⟨C, hC⟩ : ∃ C, newB r o = C := ⟨_, rfl⟩
 have HC := lhd hC
 rw [hC]
 clear hC
 go_enter Tryz.func50, Tryz.ntmps50
 go_wp2_with (refine wpList_box_blk rfl 50 _ rfl (rmc (mT r) (.slice AN nN cN) (.slice AS nS cS) (.slice AW nW cW) (.slice AL nL cL)) rfl ?_)
 intro w1 b1 b2 b3
 go_wp2_with (refine wpList_box_blk rfl 86 _ rfl (orc o) rfl ?_)
 intro w2 a1 a2 a3
 obtain ⟨g, hg⟩ : ∃ g, w.heap.size = g := ⟨_, rfl⟩
 obtain ⟨g1, hg1⟩ : ∃ g, w.heap.size + 1 = g := ⟨_, rfl⟩
 have X := lhd (b1.below a3 (by omega))
 have Y := lhd a1
 have HB := lhd (b3.trans (a3.mono (by omega)))
 have HRD2 := lhd (HRD.out.belowM HB.out)
 have c0 := a1.at_ 0 _ rfl
 rw [hg1] at Y c0 ⊢
 rw [hg] at X ⊢
 clear b1 b2 b3 a1 a2 a3 hg hg1
 go_wp2_with (first | refine wpList_load_part rfl 50 _ rfl g 0 (rmc (mT r) (.slice AN nN cN) (.slice AS nS cS) (.slice AW nW cW) (.slice AL nL cL)) (rmc (mT r) (.slice AN nN cN) (.slice AS nS cS) (.slice AW nW cW) (.slice AL nL cL)) 50 rfl X.out rfl huR hdR szRmP ?_ | fail)
 refine (rmLast_any r (oC o) (.slice AN nN cN) (.slice AS nS cS) (.slice AW nW cW) (.slice AL nL cL) w2 HRD2.out (by have := HR.out.few; omega) HNM.out HR.out.asc).mono ?_
 rintro e w3 ⟨nv, rfl, hrd, hb⟩
 obtain ⟨An, cn, rfl, -, -⟩ := hrd.shape
 obtain ⟨nn, hnn⟩ : ∃ q, (pN (lastR (mL r) (oC o)).1).length = q := ⟨_, rfl⟩
 have hs2 := HB.out.size
 have HB3 := lhd (HB.out.trans (hb.mono hs2))
 have Y3 := lhd (Y.out.below hb Y.out.lt)
 obtain ⟨x, b, hxb⟩ : ∃ x b, lastR (mL r) (oC o) = (x, b) := ⟨_, _, rfl⟩
 have HX : Hid (C = (!b || decide (pQ x < oQ o))) := lhd (by rw [← HC.out]; unfold newB; rw [hxb])
 rw [hxb] at hnn ⊢
 dsimp only at hnn ⊢
 rw [hnn]
 clear hrd hb hxb hnn c0 X Y HB HRD HRD2 HC hs2
 go_wp2_with (refine wpList_alloc_blk rfl 79 rfl (rpc rp0 (.slice none 0 0)) zeroRpT ?_)
 intro w4 a1 a2 a3
 obtain ⟨g2, hg2⟩ : ∃ g, w3.heap.size = g := ⟨_, rfl⟩
 have A1 := lhd a1
 have Y4 := lhd (Y3.out.below a3 Y3.out.lt)
 have B4 := lhd a3
 have hne : g1 ≠ g2 := by have := Y3.out.lt; omega
 have HG2 := lhd hg2
 rw [hg2] at A1 ⊢
 clear a1 a2 a3 hg2
 go_wp2_with (refine wpList_store_to rfl 79 _ _ rfl g2 (rpc x (.slice An nn cn)) (rpc rp0 (.slice none 0 0)) 79 rfl rfl A1.out szRpT rfl (rpc_allM _ _ _ _) ?_)
 intro w5 e1 e2 e3 e4
 have Y5 := Y4.out.same (e4 g1 hne)
 have B5 : Hid (Below w.heap.size w w5) := lhd (by
  have h := B4.out.trans (by rw [HG2.out]; exact e3)
  exact HB3.out.trans (h.mono HB3.out.size))
 have d1 := e1.at_ 1 _ rfl
 have c1 := Y5.at_ 1 _ rfl
 clear e1 e2 e3 e4 Y5 A1 Y4 Y3 B4 HB3 hne HG2
 cases b
 ·go_wp2
  go_ret
  exact ⟨by rw [HX.out]; rfl, B5.out⟩
 ·by_cases hlt : pQ x < oQ o
  ·go_wp2
   go_ret
   exact ⟨by rw [HX.out, decide_eq_true hlt]; rfl, B5.out⟩
  ·go_wp2
   go_ret
   exact ⟨by rw [HX.out, decide_eq_false (by omega)]; rfl, B5.out⟩
def WaitO (m : List Or) (w : World) (e : Ending) (w' : World) : Prop := ∃ v, e = .returned v ∧ OwnE OrK 86 w' w.heap.size v m ∧ Below w.heap.size w w'
theorem waitS_yes {r : Rm} {m : List Or} {o : Or} (h : m.length ≠ 10) (h2 : m.length ≤ 10) (h3 : hasC m (oC o) = false) (h4 : mayO o = true) (h5 : newB r o = true) : waitS r m o = m ++ [o] := by
 have hf : freshR r o = true := by
  unfold freshR
  unfold newB at h5
  rw [h4, h5]
  rfl
 unfold waitS
 rw [if_pos ⟨by omega, h3, hf⟩]
theorem waitS_may {r : Rm} {m : List Or} {o : Or} (h4 : mayO o = false) : waitS r m o = m := waitS_no r m o (by unfold freshR; rw [h4]; rfl)
theorem waitS_old {r : Rm} {m : List Or} {o : Or} (h5 : newB r o = false) : waitS r m o = m := waitS_no r m o (by unfold freshR; unfold newB at h5; rw [h5, Bool.and_false])
theorem waitS_had {r : Rm} {m : List Or} {o : Or} (h3 : hasC m (oC o) = true) : waitS r m o = m := by
 unfold waitS
 rw [if_neg (fun x => by rw [h3] at x; simp at x)]
theorem btWaiting_any (r : Rm) (l : List Or) (vN vS vW vL vO : Value) (w : World) (hr : RdRm w.heap.size w vN vS vW vL r) (hR : RightR r) (hn : NamesR (mL r)) (hO : RdE OrK w.heap.size w vO l) : Calls Tryz.prog 23 #[.agg (rmc (mT r) vN vS vW vL).toArray, vO] w (WaitO (waitB r l) w) := by
 obtain ⟨AN, cN, hv, -, -⟩ := hr.n.shape
 obtain ⟨nN, hnN⟩ : ∃ q, (mN r).length = q := ⟨_, rfl⟩
 rw [hnN] at hv
 subst hv
 obtain ⟨AS, cS, hv, -, -⟩ := hr.s.shape
 obtain ⟨nS, hnS⟩ : ∃ q, (mS r).length = q := ⟨_, rfl⟩
 rw [hnS] at hv
 subst hv
 obtain ⟨AW, cW, hv, -, -⟩ := hr.t.shape
 obtain ⟨nW, hnW⟩ : ∃ q, (mW r).length = q := ⟨_, rfl⟩
 rw [hnW] at hv
 subst hv
 obtain ⟨AL, cL, hv, -, -⟩ := hr.l.shape
 obtain ⟨nL, hnL⟩ : ∃ q, (mL r).length = q := ⟨_, rfl⟩
 rw [hnL] at hv
 subst hv
 obtain ⟨AO, cO, hv, hcO, hmO⟩ := hO.shape
 unfold maxLen at hmO
 obtain ⟨n, hnO⟩ : ∃ q, l.length = q := ⟨_, rfl⟩
 rw [hnO] at hv hcO
 have HN := lhd hnO
 subst hv
 have HRD := lhd hr
 have HR := lhd hR
 have HNM := lhd hn
 have HO := lhd hO
 clear hr hR hn hO hnN hnS hnW hnL hnO
 obtain ⟨dR, huR, hdR⟩ := rowRmP
 obtain ⟨dO, huO, hdO⟩ := rowOrT
 go_enter Tryz.func23, Tryz.ntmps23
 go_wp2_with (refine wpList_box_blk rfl 50 _ rfl (rmc (mT r) (.slice AN nN cN) (.slice AS nS cS) (.slice AW nW cW) (.slice AL nL cL)) rfl ?_)
 intro w1 b1 b2 b3
 obtain ⟨B, hB⟩ : ∃ g, w.heap.size = g := ⟨_, rfl⟩
 have X := lhd b1
 have HB := lhd b3
 have hs1 : Hid (B + 1 ≤ w1.heap.size) := lhd (show _ ≤ _ by omega)
 rw [hB] at X ⊢
 have HBB := lhd hB
 clear b1 b2 b3 hB
 go_wp2
 go_loopw [5, 10] (fun vP x wr => ∃ k : Nat, k ≤ n ∧ x = .int .i64 (k : Int) ∧ Hid (OwnE OrK 86 wr w.heap.size vP (waitB r (l.take k))) ∧ Hid (Blk wr B (rmc (mT r) (.slice AN nN cN) (.slice AS nS cS) (.slice AW nW cW) (.slice AL nL cL)) 50) ∧ Hid (Below w.heap.size w wr) ∧ Hid (B + 1 ≤ wr.heap.size)) (fun _ x _ => n - (intOf x).toNat)
 case atStart => exact ⟨0, Nat.zero_le _, rfl, OwnE.nil _ _ _, X, HB, hs1⟩
 case round =>
  clear X HB hs1
  obtain ⟨k, hk, rfl, HP, X, HB, hs⟩ := hrel
  have hsz := HB.out.size
  have hwP := waitB_P r (l.take k)
  by_cases hk2 : k < n
  ·have zk : (k : Int) < (n : Int) := by omega
   have hkl : k < l.length := by rw [HN.out]; exact hk2
   obtain ⟨a, hA, c0, c1, c2, c3, c4, c5, c6, c7⟩ := ((HO.out.below HB.out).more hsz).atOr k hkl
   subst hA
   have hsn := wait_snoc r l k hkl
   have hst := wait_stop r l k
   obtain ⟨o, ho⟩ : ∃ o, l.getD k or0 = o := ⟨_, rfl⟩
   obtain ⟨m, hm⟩ : ∃ m, waitB r (l.take k) = m := ⟨_, rfl⟩
   rw [hm] at hsn hst hwP HP
   rw [ho] at c0 c1 c2 c3 c4 c5 c6 c7 hsn
   have hm10 := hwP.few
   have HSN := lhd hsn
   have HST := lhd hst
   clear ho hkl hsn hst hwP hm
   go_wp2_with (refine wpList_alloc_blk rfl 86 rfl (orc or0) zeroOrP ?_)
   intro wa a1 a2 a3
   obtain ⟨gO, hgO⟩ : ∃ g, wr.heap.size = g := ⟨_, rfl⟩
   have A1 := lhd a1
   have BA := lhd a3
   rw [hgO] at A1 ⊢
   have HGO := lhd hgO
   clear a1 a2 a3 hgO c0 c1 c2 c3 c4 c5 c6 c7
   go_wp2_with (refine wpList_store_to rfl 86 _ _ rfl gO (orc o) (orc or0) 86 rfl rfl A1.out szOrT rfl (orc_all o) ?_)
   intro wb e1 e2 e3 e4
   have A2 := lhd e1
   have BB : Hid (Below wr.heap.size wr wb) := lhd (BA.out.trans (by rw [HGO.out]; exact e3))
   have Xb := lhd (X.out.below BB.out X.out.lt)
   have HPb := lhd (HP.out.below BB.out (Nat.le_refl _))
   have HBb := lhd (HB.out.trans (BB.out.mono hsz))
   have hsb : Hid (B + 1 ≤ wb.heap.size) := lhd (Nat.le_trans hs.out BB.out.size)
   have hwb := HBb.out.size
   have hgl : Hid (wr.heap.size ≤ gO) := lhd (by rw [HGO.out]; exact Nat.le_refl _)
   clear e1 e2 e3 e4 A1 BA BB X HP HB HGO hs
   obtain ⟨q, hq⟩ : ∃ q, m.length = q := ⟨_, rfl⟩
   obtain ⟨AP, cP, hvP, -, -⟩ := HPb.out.rd.shape
   rw [hq] at hvP hm10
   subst hvP
   have HQ := lhd hq
   clear hq
   by_cases hq10 : q = 10
   ·subst hq10
    have HE : Hid (waitB r l = m) := lhd (HST.out HQ.out)
    go_wp2
    go_ret
    rw [HE.out]
    exact ⟨_, rfl, HPb.out, HBb.out⟩
   have hqn : ((q : Int) == 10) = false := int_neE _ _ (by omega)
   have c0 := A2.out.at_ 0 _ rfl
   go_wp2_with (refine wpList_load_part rfl 86 _ rfl gO 0 (orc o) (orc o) 86 rfl A2.out rfl huO hdO szOrT ?_)
   refine (orMay_any o wb).mono ?_
   rintro e w3 ⟨rfl, hb⟩
   have A3 := lhd (A2.out.below hb A2.out.lt)
   have X3 := lhd (Xb.out.below hb Xb.out.lt)
   have HP3 := lhd (HPb.out.below hb (Nat.le_refl _))
   have HB3 := lhd (HBb.out.trans (hb.mono hwb))
   have hs3 : Hid (B + 1 ≤ w3.heap.size) := lhd (Nat.le_trans hsb.out hb.size)
   have hw3 := HB3.out.size
   obtain ⟨M, hM⟩ : ∃ M, mayO o = M := ⟨_, rfl⟩
   have HM := lhd hM
   rw [hM]
   clear hM hb A2 Xb HPb HBb hsb hwb c0
   cases M
   ·have HW : Hid (waitB r (l.take (k + 1)) = m) := lhd (by rw [HSN.out]; exact waitS_may HM.out)
    go_wp2
    go_roundw
    case rel =>
     refine ⟨k + 1, by omega, by go_num, ?_, X3, HB3, hs3⟩
     rw [HW.out]
     exact HP3
    case measure => simp [intOf]; omega
   have c0 := A3.out.at_ 0 _ rfl
   go_wp2_with fail
   refine (hasB_any (oC o) m (.slice AP q cP) w3 HP3.out.rd).mono ?_
   rintro e w4 ⟨rfl, hb⟩
   have A4 := lhd (A3.out.below hb A3.out.lt)
   have X4 := lhd (X3.out.below hb X3.out.lt)
   have HP4 := lhd (HP3.out.below hb (Nat.le_refl _))
   have HB4 := lhd (HB3.out.trans (hb.mono hw3))
   have hs4 : Hid (B + 1 ≤ w4.heap.size) := lhd (Nat.le_trans hs3.out hb.size)
   have hw4 := HB4.out.size
   obtain ⟨H, hH⟩ : ∃ H, hasC m (oC o) = H := ⟨_, rfl⟩
   have HH := lhd hH
   rw [hH]
   clear hH hb A3 X3 HP3 HB3 hs3 hw3 c0
   cases H
   case true =>
    have HW : Hid (waitB r (l.take (k + 1)) = m) := lhd (by rw [HSN.out]; exact waitS_had HH.out)
    go_wp2
    go_roundw
    case rel =>
     refine ⟨k + 1, by omega, by go_num, ?_, X4, HB4, hs4⟩
     rw [HW.out]
     exact HP4
    case measure => simp [intOf]; omega
   have HRD4 := lhd (HRD.out.belowM HB4.out)
   have hex : orc o = [.int .i64 (oC o), .int .i64 (oQ o), .int .i64 (oK o), txt (oP o), txt (oV o), .int .i64 (oR o), .int .i64 (oS o), .int .i64 (oT o)] := rfl
   go_wp2_with (first | refine wpList_load_partG (by rfl) 50 _ rfl B 0 (rmc (mT r) (.slice AN nN cN) (.slice AS nS cS) (.slice AW nW cW) (.slice AL nL cL)) (rmc (mT r) (.slice AN nN cN) (.slice AS nS cS) (.slice AW nW cW) (.slice AL nL cL)) 50 rfl X4.out rfl huR hdR szRmP ?_ | refine wpList_load_partG (by rfl) 86 _ rfl gO 0 (orc o) (orc o) 86 rfl A4.out rfl huO hdO szOrT ?_ | fail)
   refine (isNewB_any r o (.slice AN nN cN) (.slice AS nS cS) (.slice AW nW cW) (.slice AL nL cL) w4 HRD4.out HR.out HNM.out).mono ?_
   rintro e w5 ⟨rfl, hb⟩
   have A5 := lhd (A4.out.below hb A4.out.lt)
   have X5 := lhd (X4.out.below hb X4.out.lt)
   have HP5 := lhd (HP4.out.below hb (Nat.le_refl _))
   have HB5 := lhd (HB4.out.trans (hb.mono hw4))
   have hs5 : Hid (B + 1 ≤ w5.heap.size) := lhd (Nat.le_trans hs4.out hb.size)
   have hw5 := HB5.out.size
   obtain ⟨K, hK⟩ : ∃ K, newB r o = K := ⟨_, rfl⟩
   have HK := lhd hK
   rw [hK]
   clear hK hb A4 X4 HP4 HB4 hs4 hw4 HRD4
   cases K
   ·have HW : Hid (waitB r (l.take (k + 1)) = m) := lhd (by rw [HSN.out]; exact waitS_old HK.out)
    go_wp2
    go_roundw
    case rel =>
     refine ⟨k + 1, by omega, by go_num, ?_, X5, HB5, hs5⟩
     rw [HW.out]
     exact HP5
    case measure => simp [intOf]; omega
   have HW : Hid (waitB r (l.take (k + 1)) = m ++ [o]) := lhd (by rw [HSN.out]; exact waitS_yes (by rw [HQ.out]; exact hq10) (by rw [HQ.out]; exact hm10) HH.out HM.out HK.out)
   clear hex
   go_wp2_with (first | refine wpList_load_part rfl 86 _ rfl gO 0 (orc o) [.int .i64 (oC o), .int .i64 (oQ o), .int .i64 (oK o), txt (oP o), txt (oV o), .int .i64 (oR o), .int .i64 (oS o), .int .i64 (oT o)] 86 rfl A5.out rfl huO hdO szOrT ?_ | (at_builtin; refine wpList_appF (E := OrK) rfl _ _ 22 rfl 86 80 Tryz.underlying22 kindOrP w.heap.size _ _ _ m [o] rfl ((HP5.out.alloc _)) rfl (RdE.one w5 86 o) ?d1 ?d2 ?d3 ?_))
   case d1 => simp only [List.length_cons, List.length_nil, HQ.out]; omega
   case d2 => simp only [List.length_cons, List.length_nil, HQ.out]; omega
   case d3 => simp; omega
   intro v' we m1 m2 m3
   have hba : Below w5.heap.size w5 (w5.alloc (.cells (orc o).toArray 86)) := (Below.refl w5.heap.size w5).alloc (Nat.le_refl _) _
   have Xa := X5.out.below hba X5.out.lt
   have hown := HP5.out.alloc (.cells (orc o).toArray 86)
   have hne := hown.not_blk Xa (by decide)
   obtain ⟨q1, q2, q3, q4, q5⟩ := m3
   have X6 : Hid (Blk we B (rmc (mT r) (.slice AN nN cN) (.slice AS nS cS) (.slice AW nW cW) (.slice AL nL cL)) 50) := lhd (Xa.same (q5 B Xa.lt hne.symm))
   have HP6 : Hid (OwnE OrK 86 we w.heap.size v' (waitB r (l.take (k + 1)))) := lhd (by rw [HW.out]; exact m1)
   have HB6 : Hid (Below w.heap.size w we) := lhd (HB5.out.trans ((hba.mono hw5).trans m2))
   have hs6 : Hid (B + 1 ≤ we.heap.size) := lhd (Nat.le_trans hs5.out (Nat.le_trans hba.size q4))
   clear m1 m2 q1 q2 q3 q4 q5 hba Xa hown hne X5 HP5 HB5 hs5 hw5 A5
   go_wp2
   go_roundw
   case rel => exact ⟨k + 1, by omega, by go_num, HP6, X6, HB6, hs6⟩
   case measure => simp [intOf]; omega
  ·obtain rfl : k = n := by omega
   have hE : waitB r (l.take k) = waitB r l := by rw [← HN.out, List.take_length]
   rw [hE] at HP
   clear hE hwP
   go_wp2
   go_ret
   exact ⟨_, rfl, HP.out, HB.out⟩
def Short4 (l : List Or) (w : World) (e : Ending) (w' : World) : Prop := ∃ b, e = .returned (.bool b) ∧ (b = true → l.length ≤ 30) ∧ Below w.heap.size w w'
theorem short14 (l : List Or) (v : Value) (w : World) (hr : RdE OrK w.heap.size w v l) : Calls Tryz.prog 7 #[v] w (Short4 l w) := by
 obtain ⟨A, cp, rfl, hc, hm⟩ := hr.shape
 unfold maxLen at hm
 obtain ⟨n, hn⟩ : ∃ n, l.length = n := ⟨_, rfl⟩
 have HN := lhd hn
 have HR := lhd hr
 rw [hn] at hc HR ⊢
 clear hr hn
 go_enter Tryz.func7, Tryz.ntmps7
 have HR1 := HR
 have HB := lhd (Below.refl w.heap.size w)
 go_wp2
 go_loop [3] (fun x => ∃ i : Nat, i ≤ n ∧ x = .int .i64 (i : Int) ∧ i ≤ 30) (fun x => n - (intOf x).toNat)
 case atStart => exact ⟨0, by omega, rfl, by omega⟩
 case round =>
  obtain ⟨i, hi, rfl, hib⟩ := hrel
  by_cases hi2 : i < n
  ·have zi : (i : Int) < (n : Int) := by omega
   by_cases hz : i = 30
   ·have hzz : ((i : Int) == 30) = true := int_eqE _ _ (by omega)
    subst hz
    go_wp2
    go_ret
    exact ⟨_, rfl, fun h => by simp at h, HB.out⟩
   have hzz : ((i : Int) == 30) = false := int_neE _ _ (by omega)
   obtain ⟨a, hA, c0, c1, c2, c3, c4, c5, c6, c7⟩ := HR1.out.atOr i (by rw [HN.out]; exact hi2)
   subst hA
   obtain ⟨x, hx⟩ : ∃ x, l.getD i or0 = x := ⟨_, rfl⟩
   rw [hx] at c0 c1 c2 c3 c4 c5 c6 c7
   obtain ⟨k, hk⟩ : ∃ k, (oP x).length = k := ⟨_, rfl⟩
   obtain ⟨m, hm3⟩ : ∃ k, (oV x).length = k := ⟨_, rfl⟩
   have hkz : (⟨(oP x).toArray⟩ : ByteArray).size = k := hk
   have hmz : (⟨(oV x).toArray⟩ : ByteArray).size = m := hm3
   clear hk hm3 hx
   by_cases hlong : (200 : Int) < (k : Int)
   ·go_wp2
    go_ret
    exact ⟨_, rfl, fun h => by simp at h, HB.out⟩
   by_cases hlong2 : (1100 : Int) < (m : Int)
   ·go_wp2
    go_ret
    exact ⟨_, rfl, fun h => by simp at h, HB.out⟩
   go_wp2
   go_round
   case rel => exact ⟨i + 1, by omega, by go_num, by omega⟩
   case measure => simp [intOf]; omega
  ·obtain rfl : i = n := by omega
   have zi : ¬ (i : Int) < (i : Int) := by omega
   have hn30 : Hid (l.length ≤ 30) := lhd (by rw [HN.out]; exact hib)
   go_wp2
   go_ret
   exact ⟨_, rfl, fun _ => hn30.out, HB.out⟩
theorem szSl1 : (Tryz.prog.info? 92).map (·.size) = some 1 := by kernel_rfl
theorem szErr1 : (Tryz.prog.info? 25).map (·.size) = some 1 := by kernel_rfl
theorem Own.storedB {e : TypeId} {w w' : World} {base g : Nat} {v : Value} {l : List UInt8} (h : Own e w base v l) (hg : g < base) (ho : ∀ k, k ≠ g → w'.heap[k]? = w.heap[k]?) : Own e w' base v l := by
 refine ⟨h.1, ?_⟩
 rcases h.2 with hn | ⟨q, cap, cur, rfl, hg0, hg', r⟩
 ·exact .inl hn
 ·exact .inr ⟨q, cap, cur, rfl, hg0, by rw [ho q (by omega)]; exact hg', r⟩
theorem Own.one {e : TypeId} {w : World} {base : Nat} {v : Value} {l : List UInt8} (h : Own e w base v l) : v.oneCell' = true := by
 obtain ⟨A, n, c, rfl⟩ := h.isSlice
 rfl
def PSt (g : Nat) (s : List UInt8 × Nat) (w : World) : Prop := ∃ v, Blk w g [v, .int .i64 (s.2 : Int)] 139 ∧ Own 5 w (g + 1) v s.1
def stN (s : List UInt8 × Nat) : Int × List UInt8 × Nat := if s.2 = 0 then (zag (takeN s.1).1, (takeN s.1).2) else (0, s)
def stS (m : Int) (s : List UInt8 × Nat) : List UInt8 × List UInt8 × Nat := if s.2 = 0 then takeS s.1 m else ([], s)
theorem partN_zero (g : Nat) (v : Value) (l : List UInt8) (w : World) (hg : Blk w g [v, .int .i64 0] 139) (hr : Rd w.heap.size w v l) (hl : l.length ≤ 1000000) :
 Calls Tryz.prog 75 #[.pointer (some ⟨g, 0, none⟩)] w (fun e w' => ∃ v', e = .returned (.int .i64 (zag (takeN l).1)) ∧ Blk w' g [v', .int .i64 ((takeN l).2.2 : Int)] 139 ∧ Own 5 w' (g + 1) v' (takeN l).2.1 ∧ Below g w w') := by
 obtain ⟨A, c, rfl, -, -⟩ := hr.shape
 have X := lhd hg
 have HR := lhd hr
 have HL := lhd hl
 have hlt := hg.lt
 clear hr hl hg
 go_enter Tryz.func75, Tryz.ntmps75
 have c0 := X.out.at_ 0 _ rfl
 have c1 := X.out.at_ 1 _ rfl
 go_wp2_with fail
 refine (takeInt_any (.slice A l.length c) l w HR.out (by have := HL.out; omega)).mono ?_
 rintro e w1 ⟨vr, rfl, hown, hb⟩
 obtain ⟨T, hT⟩ : ∃ T, takeN l = T := ⟨_, rfl⟩
 have HT := lhd hT
 rw [hT] at hown ⊢
 obtain ⟨t0, t1, t2⟩ := T
 dsimp only at hown ⊢
 have X1 := lhd (X.out.below hb hlt)
 have HB := lhd (hb.mono (Nat.le_of_lt hlt))
 have HO := lhd (hown.base (base' := g + 1) hlt)
 have h1 := hown.one
 clear hT hb hown c0 c1 X
 go_wp2_with (refine wpList_store_fld rfl 92 _ _ rfl g 0 [.slice A l.length c, .int .i64 0] vr 139 rfl rfl X1.out szSl1 (by show 0 < 2; decide) h1 ?_)
 intro w2 e1 e2 e3 e4
 have X2 := lhd e1
 have HB2 := lhd (HB.out.trans e3)
 have HO2 := lhd (HO.out.storedB (Nat.lt_succ_self g) e4)
 clear e1 e2 e3 e4 X1 HB HO h1
 go_wp2_with (refine wpList_store_fld rfl 25 _ _ rfl g 1 [vr, .int .i64 0] (.int .i64 (t2 : Int)) 139 rfl rfl X2.out szErr1 (by show 1 < 2; decide) rfl ?_)
 intro w3 e1 e2 e3 e4
 have X3 := lhd e1
 have HB3 := lhd (HB2.out.trans e3)
 have HO3 := lhd (HO2.out.storedB (Nat.lt_succ_self g) e4)
 clear e1 e2 e3 e4 X2 HB2 HO2
 go_wp2
 go_ret
 rw [HT.out]
 exact ⟨vr, rfl, X3.out, HO3.out, HB3.out⟩
theorem partN_err (g : Nat) (v : Value) (f : Nat) (w : World) (hg : Blk w g [v, .int .i64 (f : Int)] 139) (hf : f ≠ 0) :
 Calls Tryz.prog 75 #[.pointer (some ⟨g, 0, none⟩)] w (One (.int .i64 0) w) := by
 have hne : ((f : Int) == 0) = false := by rw [beq_eq_false_iff_ne]; omega
 have c1 := hg.at_ 1 _ rfl
 clear hg hf
 go_enter Tryz.func75, Tryz.ntmps75
 go_wp2
 go_ret
 exact ⟨rfl, Below.refl _ _⟩
theorem partN_any (g : Nat) (s : List UInt8 × Nat) (w : World) (h : PSt g s w) (hl : s.1.length ≤ 1000000) :
 Calls Tryz.prog 75 #[.pointer (some ⟨g, 0, none⟩)] w (fun e w' => e = .returned (.int .i64 (stN s).1) ∧ PSt g (stN s).2 w' ∧ Below g w w') := by
 obtain ⟨v, h1, h2⟩ := h
 obtain ⟨l, f⟩ := s
 by_cases hf : f = 0
 ·subst hf
  refine (partN_zero g v l w h1 h2.rd hl).mono ?_
  rintro e w' ⟨v', rfl, hx, ho, hb⟩
  unfold stN
  rw [if_pos rfl]
  exact ⟨rfl, ⟨v', hx, ho⟩, hb⟩
 ·refine (partN_err g v f w h1 hf).mono ?_
  rintro e w' ⟨rfl, hb⟩
  unfold stN
  rw [if_neg hf]
  exact ⟨rfl, ⟨v, h1.below hb h1.lt, h2.below hb (Nat.le_refl _)⟩, hb.mono (Nat.le_of_lt h1.lt)⟩
theorem partS_zero (g : Nat) (v : Value) (l : List UInt8) (m : Int) (m0 : -9223372036854775808 ≤ m) (m1 : m ≤ 9223372036854775807) (w : World) (hg : Blk w g [v, .int .i64 0] 139) (hr : Rd w.heap.size w v l) (hl : l.length ≤ 1000000) :
 Calls Tryz.prog 76 #[.pointer (some ⟨g, 0, none⟩), .int .i64 m] w (fun e w' => ∃ v', e = .returned (txt (takeS l m).1) ∧ Blk w' g [v', .int .i64 ((takeS l m).2.2 : Int)] 139 ∧ Own 5 w' (g + 1) v' (takeS l m).2.1 ∧ Below g w w') := by
 obtain ⟨A, c, rfl, -, -⟩ := hr.shape
 have X := lhd hg
 have HR := lhd hr
 have HL := lhd hl
 have hlt := hg.lt
 clear hr hl hg
 go_enter Tryz.func76, Tryz.ntmps76
 have c0 := X.out.at_ 0 _ rfl
 have c1 := X.out.at_ 1 _ rfl
 go_wp2_with fail
 refine (takeText_any (.slice A l.length c) l m w HR.out m0 m1 (by have := HL.out; omega)).mono ?_
 rintro e w1 ⟨vr, rfl, hown, hb⟩
 obtain ⟨T, hT⟩ : ∃ T, takeS l m = T := ⟨_, rfl⟩
 have HT := lhd hT
 rw [hT] at hown ⊢
 obtain ⟨t0, t1, t2⟩ := T
 dsimp only at hown ⊢
 have X1 := lhd (X.out.below hb hlt)
 have HB := lhd (hb.mono (Nat.le_of_lt hlt))
 have HO := lhd (hown.base (base' := g + 1) hlt)
 have h1 := hown.one
 clear hT hb hown c0 c1 X
 go_wp2_with (refine wpList_store_fld rfl 92 _ _ rfl g 0 [.slice A l.length c, .int .i64 0] vr 139 rfl rfl X1.out szSl1 (by show 0 < 2; decide) h1 ?_)
 intro w2 e1 e2 e3 e4
 have X2 := lhd e1
 have HB2 := lhd (HB.out.trans e3)
 have HO2 := lhd (HO.out.storedB (Nat.lt_succ_self g) e4)
 clear e1 e2 e3 e4 X1 HB HO h1
 go_wp2_with (refine wpList_store_fld rfl 25 _ _ rfl g 1 [vr, .int .i64 0] (.int .i64 (t2 : Int)) 139 rfl rfl X2.out szErr1 (by show 1 < 2; decide) rfl ?_)
 intro w3 e1 e2 e3 e4
 have X3 := lhd e1
 have HB3 := lhd (HB2.out.trans e3)
 have HO3 := lhd (HO2.out.storedB (Nat.lt_succ_self g) e4)
 clear e1 e2 e3 e4 X2 HB2 HO2
 go_wp2
 go_ret
 rw [HT.out]
 exact ⟨vr, rfl, X3.out, HO3.out, HB3.out⟩
theorem partS_err (g : Nat) (v : Value) (f : Nat) (m : Int) (w : World) (hg : Blk w g [v, .int .i64 (f : Int)] 139) (hf : f ≠ 0) :
 Calls Tryz.prog 76 #[.pointer (some ⟨g, 0, none⟩), .int .i64 m] w (One (txt []) w) := by
 have hne : ((f : Int) == 0) = false := by rw [beq_eq_false_iff_ne]; omega
 have c1 := hg.at_ 1 _ rfl
 clear hg hf
 go_enter Tryz.func76, Tryz.ntmps76
 go_wp2
 go_ret
 exact ⟨rfl, Below.refl _ _⟩
theorem partS_any (g : Nat) (s : List UInt8 × Nat) (m : Int) (m0 : -9223372036854775808 ≤ m) (m1 : m ≤ 9223372036854775807) (w : World) (h : PSt g s w) (hl : s.1.length ≤ 1000000) :
 Calls Tryz.prog 76 #[.pointer (some ⟨g, 0, none⟩), .int .i64 m] w (fun e w' => e = .returned (txt (stS m s).1) ∧ PSt g (stS m s).2 w' ∧ Below g w w') := by
 obtain ⟨v, h1, h2⟩ := h
 obtain ⟨l, f⟩ := s
 by_cases hf : f = 0
 ·subst hf
  refine (partS_zero g v l m m0 m1 w h1 h2.rd hl).mono ?_
  rintro e w' ⟨v', rfl, hx, ho, hb⟩
  unfold stS
  rw [if_pos rfl]
  exact ⟨rfl, ⟨v', hx, ho⟩, hb⟩
 ·refine (partS_err g v f m w h1 hf).mono ?_
  rintro e w' ⟨rfl, hb⟩
  unfold stS
  rw [if_neg hf]
  exact ⟨rfl, ⟨v, h1.below hb h1.lt, h2.below hb (Nat.le_refl _)⟩, hb.mono (Nat.le_of_lt h1.lt)⟩
def numsOf : Nat → List UInt8 × Nat → List Int × List UInt8 × Nat
 | 0, s => ([], s)
 | k + 1, s => ((stN s).1 :: (numsOf k (stN s).2).1, (numsOf k (stN s).2).2)
theorem stN_err {l : List UInt8} {f : Nat} (h : f ≠ 0) : stN (l, f) = (0, l, f) := by
 unfold stN
 rw [if_neg h]
theorem numsOf_err (k : Nat) (l : List UInt8) (f : Nat) (h : f ≠ 0) : (numsOf k (l, f)).2 = (l, f) := by
 induction k with
 | zero => rfl
 | succ k ih => rw [numsOf, stN_err h]; exact ih
theorem nums_bad (k : Nat) : ∀ l : List UInt8, (takeIs k l).2.2 ≠ 0 → (numsOf k (l, 0)).2.2 = (takeIs k l).2.2 := by
 induction k with
 | zero => intro l h; exact absurd rfl h
 | succ k ih =>
   intro l h
   rw [numsOf]
   have e : stN (l, 0) = (zag (takeN l).1, (takeN l).2) := by unfold stN; rw [if_pos rfl]
   rw [e]
   show (numsOf k (takeN l).2).2.2 = _
   obtain ⟨n, r, f, hT⟩ : ∃ a b c, takeN l = (a, b, c) := ⟨_, _, _, rfl⟩
   unfold takeIs at h ⊢
   rw [hT] at h ⊢
   dsimp only at h ⊢
   by_cases hf : f = 0
   ·subst hf
    rw [if_neg (by simp)] at h ⊢
    by_cases h2 : (takeIs k r).2.2 = 0
    ·rw [if_neg (by simpa using h2)] at h
     exact absurd rfl h
    ·rw [if_pos h2]
     exact ih r h2
   ·rw [if_pos hf, numsOf_err k r f hf]
theorem nums_good (k : Nat) : ∀ l : List UInt8, (takeIs k l).2.2 = 0 → numsOf k (l, 0) = takeIs k l := by
 induction k with
 | zero => intro l _; rfl
 | succ k ih =>
   intro l h
   rw [numsOf]
   have e : stN (l, 0) = (zag (takeN l).1, (takeN l).2) := by unfold stN; rw [if_pos rfl]
   rw [e]
   dsimp only
   obtain ⟨n, r, f, hT⟩ : ∃ a b c, takeN l = (a, b, c) := ⟨_, _, _, rfl⟩
   unfold takeIs at h ⊢
   rw [hT] at h ⊢
   dsimp only at h ⊢
   by_cases hf : f = 0
   ·subst hf
    rw [if_neg (by simp)] at h ⊢
    by_cases h2 : (takeIs k r).2.2 = 0
    ·have e2 : (takeIs k r).2 = ((takeIs k r).2.1, 0) := by rw [← h2]
     rw [if_neg (by simpa using h2), ih r h2, e2]
    ·rw [if_pos h2] at h
     exact absurd h h2
   ·rw [if_pos hf] at h
    exact absurd h hf
theorem stS_err {l : List UInt8} {f : Nat} (m : Int) (h : f ≠ 0) : stS m (l, f) = ([], l, f) := by
 unfold stS
 rw [if_neg h]
theorem stS_ok (l : List UInt8) (m : Int) : stS m (l, 0) = takeS l m := by
 unfold stS
 rw [if_pos rfl]
theorem takeO_st (l : List UInt8) {ns : List Int} {s6 s7 s8 : List UInt8 × Nat} {p q : List UInt8} (h6 : numsOf 6 (l, 0) = (ns, s6)) (h7 : stS 100 s6 = (p, s7)) (h8 : stS 1000 s7 = (q, s8)) :
 takeO l = if s8.2 ≠ 0 then (or0, [], s8.2) else if mayO (ofTaken ns p q) = true then (ofTaken ns p q, s8.1, 0) else (or0, [], 3) := by
 obtain ⟨r6, f6⟩ := s6
 obtain ⟨r7, f7⟩ := s7
 obtain ⟨r8, f8⟩ := s8
 by_cases e6 : (takeIs 6 l).2.2 = 0
 ·have h := nums_good 6 l e6
  rw [h6] at h
  rw [← h] at e6
  dsimp only at e6
  subst e6
  rw [stS_ok] at h7
  by_cases e7 : f7 = 0
  ·subst e7
   rw [stS_ok] at h8
   by_cases e8 : f8 = 0
   ·subst e8
    rw [if_neg (by simp)]
    exact takeO_4 h.symm h7 h8
   ·rw [if_pos e8]
    exact takeO_3 h.symm h7 h8 e8
  ·rw [stS_err _ e7] at h8
   injection h8 with _ h8
   injection h8 with _ h8
   subst h8
   rw [if_pos e7]
   exact takeO_2 h.symm h7 e7
 ·have h := nums_bad 6 l e6
  rw [h6] at h
  dsimp only at h
  have e6' : f6 ≠ 0 := by rw [h]; exact e6
  rw [stS_err _ e6'] at h7
  injection h7 with _ h7
  injection h7 with _ h7
  subst h7
  rw [stS_err _ e6'] at h8
  injection h8 with _ h8
  injection h8 with _ h8
  subst h8
  rw [if_pos e6', h]
  exact takeO_1 (l := l) (ns := (takeIs 6 l).1) (r1 := (takeIs 6 l).2.1) rfl e6
theorem stN_len (s : List UInt8 × Nat) : (stN s).2.1.length ≤ s.1.length := by
 unfold stN
 split
 ·exact takeN_rest s.1
 ·exact Nat.le_refl _
theorem stS_len (m : Int) (s : List UInt8 × Nat) : (stS m s).2.1.length ≤ s.1.length := by
 unfold stS
 split
 ·exact takeS_rest s.1 m
 ·exact Nat.le_refl _
end Go.Proofs.YtgfobinklijkpaaGreatDoor
