/-
  Texts KF KG KT KV.
-/
import Derived.Test.YtdihngkdhanhkaaGreatDoorV01
import Derived.Test.YtdihngkdhanhkaaGreatDoorV09
import Derived.Test.YtdihngkdhanhkaaGreatDoorV11
import Derived.Test.YtdihngkdhanhkaaGreatDoorV15
import Derived.Test.YtdihngkdhanhkaaGreatDoorV41
namespace Go.Proofs.YtdihngkdhanhkaaGreatDoor
set_option maxRecDepth 100000
set_option maxHeartbeats 16000000
open Go.RowKit
def oA : Or := (1, 1, 1, [47, 97], [120], 0, 0, 0)
theorem right_rm0 : RightR rm0 := ⟨(rightN_iff _).1 (by decide +kernel), (rightS_iff _ _).1 (by decide +kernel), (rightW_iff _).1 (by decide +kernel), Nat.zero_le _, fun x h => absurd h (by simp [rm0, mL]), List.Pairwise.nil⟩
theorem alive_1 : pE (applyR rm0 oA).2.1 = 0 ∧ (mN (applyR rm0 oA).1).length = 2 ∧ pE (applyR (applyR rm0 oA).1 oA).2.1 = 0 ∧ (lastR (mL (applyR rm0 oA).1) 1).2 = true ∧ pQ (lastR (mL (applyR rm0 oA).1) 1).1 = 1 := by decide +kernel
theorem apply_again (r : Rm) (o : Or) (h1 : mayO o = true) (h2 : (lastR (mL r) (oC o)).2 = true) (h3 : pQ (lastR (mL r) (oC o)).1 = oQ o) : applyR r o = (r, (lastR (mL r) (oC o)).1, []) := by
 unfold applyR
 rw [if_neg (by rw [h1]; decide), if_pos ⟨h2, h3⟩]
theorem alive_2 : (applyR (applyR rm0 oA).1 oA).1 = (applyR rm0 oA).1 := by
 rw [apply_again _ oA (by decide +kernel) alive_1.2.2.2.1 alive_1.2.2.2.2]
theorem alive13 (w : World) : Calls Tryz.prog 13 #[] w (One (.bool true) w) := by
 obtain ⟨dR, huR, hdR⟩ := rowRmP
 obtain ⟨dP, huP, hdP⟩ := rowRpT
 obtain ⟨dO, huO, hdO⟩ := rowOrT
 go_enter Tryz.func13, Tryz.ntmps13
 go_wp2_with (refine wpList_alloc_blk rfl 35 rfl (orc or0) zeroOrP ?_)
 intro w1 a1 a2 a3
 obtain ⟨B, hB⟩ : ∃ g, w.heap.size = g := ⟨_, rfl⟩
 have A1 := lhd a1
 have BA := lhd a3
 rw [hB] at A1 BA ⊢
 have HBB := lhd hB
 clear a1 a2 a3 hB
 go_wp2_with (refine wpList_store_to rfl 35 _ _ rfl B (orc oA) (orc or0) 35 rfl rfl A1.out szOrT rfl (orc_all oA) ?_)
 intro w2 e1 e2 e3 e4
 have O2 := lhd e1
 have B2 := lhd (BA.out.trans e3)
 clear e1 e2 e3 e4 A1 BA
 obtain ⟨Y, hY⟩ : ∃ q, applyR rm0 oA = q := ⟨_, rfl⟩
 have HY := lhd hY
 have HYR : Hid (RightR Y.1) := by rw [← hY]; exact lhd (right_apply _ _ right_rm0)
 have HYN : Hid (NamesR (mL Y.1)) := by rw [← hY]; exact lhd (names_apply _ _ right_rm0 (fun x h => by cases h)).1
 clear hY
 go_wp2
 refine wp_region_relyF [5, 6] 9 3 (fun x => ⟨#[.bool false, .pointer (some { block := B, off := 0 }), x 7, x 8, undef, undef, undef, undef, undef, undef, .agg #[Value.int IntKind.i64 1, Value.int IntKind.i64 1, Value.int IntKind.i64 1, Value.string { data := #[47, 97] }, Value.string { data := #[120] }, Value.int IntKind.i64 0, Value.int IntKind.i64 0, Value.int IntKind.i64 0], x 3, x 0, x 1, x 2, x 4, x 5, x 6, undef, undef, undef, undef, undef, undef, undef, undef, undef, undef, undef, undef, undef, undef, undef, undef, undef, undef, undef, undef, undef, undef, undef, undef, undef, undef, undef, undef, undef, undef, undef, undef, undef, undef, undef, undef, undef, undef, undef, undef], []⟩) (fun jj => ([(RmR rm0), (eqV (.agg (orc oA).toArray)), (AppV w2.heap.size Y), (AppV w2.heap.size Y), (RmV w2.heap.size Y.1), (RpO w2.heap.size Y.2.1), (fun v w => EvO w2.heap.size w v Y.2.2), (NewBx 33 (rmc 0 (.slice none 0 0) (.slice none 0 0) (.slice none 0 0) (.slice none 0 0)) w2.heap.size), (NewBx 57 (rpc rp0 (.slice none 0 0)) w2.heap.size)] : List (Value → World → Prop)).getD jj (fun _ _ => True)) rfl ⟨fun kk => [_, _, _, _, _, _, _, _, _].getD kk undef, rfl⟩ (by kernel_rfl) (lateF_of 2 (by decide) (by kernel_rfl)) (by kernel_rfl) ?pure ?steps ?fin
 case steps =>
  refine StepsAt.cons 0 (fun _ _ _ h hb => h.keep hb) (fun _ _ => rfl) rfl rfl (fun x w1 hb hd K hK => ?_) ?_
  ·go_simp
   refine (rmNew_any w1).mono ?_
   rintro e w99 ⟨vN, vS, vW, vL, rfl, hr9, hb99⟩
   exact hK.out _ _ hb99 ⟨_, _, _, _, rfl, hr9⟩
  refine StepsAt.val 1 (.agg (orc oA).toArray) rfl (fun _ _ => rfl) rfl rfl (fun x w1 hb hd => ?_) ?_
  ·refine run_load_part 35 _ rfl B 0 (orc oA) (orc oA) 35 rfl (O2.out.below hb O2.out.lt) rfl huO hdO szOrT
  refine StepsAt.cons 2 (fun _ _ _ h hb => h.keep hb) (fun _ _ => rfl) rfl rfl (fun x w1 hb hd K hK => ?_) ?_
  ·obtain ⟨vN, vS, vW, vL, h0, hr0⟩ : RmR rm0 (x 0) w1 := hd 0 (by kernel_rfl)
   have h1 : x 1 = .agg (orc oA).toArray := hd 1 (by kernel_rfl)
   have H0 := lhd h0
   have H1 := lhd h1
   clear h0 h1
   go_simp
   refine calls_args (args2 := #[.agg (rmc (mT rm0) vN vS vW vL).toArray, .agg (orc oA).toArray]) (by rw [H0.out, H1.out]) ?_
   refine (rmApply_any rm0 oA vN vS vW vL w1 hr0 right_rm0 (fun x h => by cases h) (by unfold fitI; decide)).mono ?_
   intro e w99 h99
   rw [HY.out] at h99
   obtain ⟨v, rfl, h2, hb99⟩ := h99.val (B := w2.heap.size) hb.size
   exact hK.out _ _ hb99 h2
  refine StepsAt.rel 3 (fun _ _ _ h hb => AppV.keep h hb) (fun _ _ => rfl) rfl rfl (fun x w1 hb hd => ?_) ?_
  ·have h9 : AppV w2.heap.size Y (x 2) w1 := hd 2 (by kernel_rfl)
   refine ⟨x 2, ?_, h9⟩
   (go_simp; try rfl)
  refine StepsAt.rel 4 (fun _ _ _ h hb => RmV.keep h hb) (fun _ _ => rfl) rfl rfl (fun x w1 hb hd => ?_) ?_
  ·obtain ⟨a, b, cc, hx, h1, h2, h3⟩ : AppV w2.heap.size Y (x 3) w1 := hd 3 (by kernel_rfl)
   refine ⟨a, ?_, h1⟩
   rw [hx]
   (go_simp; try rfl)
  refine StepsAt.rel 5 (fun _ _ _ h hb => RpO.keep h hb) (fun _ _ => rfl) rfl rfl (fun x w1 hb hd => ?_) ?_
  ·obtain ⟨a, b, cc, hx, h1, h2, h3⟩ : AppV w2.heap.size Y (x 3) w1 := hd 3 (by kernel_rfl)
   refine ⟨b, ?_, h2⟩
   rw [hx]
   (go_simp; try rfl)
  refine StepsAt.rel 6 (fun _ _ _ h hb => EvO.below h hb) (fun _ _ => rfl) rfl rfl (fun x w1 hb hd => ?_) ?_
  ·obtain ⟨a, b, cc, hx, h1, h2, h3⟩ : AppV w2.heap.size Y (x 3) w1 := hd 3 (by kernel_rfl)
   refine ⟨cc, ?_, h3⟩
   rw [hx]
   (go_simp; try rfl)
  refine StepsAt.cons 7 (fun _ _ _ h hb => NewBx.keep h hb) (fun _ _ => rfl) rfl rfl (fun x w1 hb hd K hK => ?_) ?_
  ·refine wp_of_list rfl (wpList_alloc_blk rfl 33 rfl (rmc 0 (.slice none 0 0) (.slice none 0 0) (.slice none 0 0) (.slice none 0 0)) zeroRmP ?_)
   intro w8 a1 a2 a3
   exact hK.out _ _ a3 ⟨_, rfl, a1, hb.size⟩
  refine StepsAt.cons 8 (fun _ _ _ h hb => NewBx.keep h hb) (fun _ _ => rfl) rfl rfl (fun x w1 hb hd K hK => ?_) ?_
  ·refine wp_of_list rfl (wpList_alloc_blk rfl 57 rfl (rpc rp0 (.slice none 0 0)) zeroRpT ?_)
   intro w8 a1 a2 a3
   exact hK.out _ _ a3 ⟨_, rfl, a1, hb.size⟩
  exact StepsAt.done
 case pure =>
  intro p hp op ho xx w1 hd
  have key : AppV w2.heap.size Y (xx 3) w1 → p = 5 ∨ p = 6 := fun _ => by simpa using hp
  clear key
  rcases List.mem_cons.1 hp with rfl | hp
  ·skip
   injection ho with ho
   subst ho
   obtain ⟨a, b, cc, hx, h1, h2, h3⟩ : AppV w2.heap.size Y (xx 3) w1 := hd 3 (by kernel_rfl)
   refine ⟨rfl, b, fun w' => ?_, h2⟩
   dsimp only
   rw [hx]
   (go_simp; try rfl)
  ·obtain rfl := List.mem_singleton.1 hp
   injection ho with ho
   subst ho
   obtain ⟨a, b, cc, hx, h1, h2, h3⟩ : AppV w2.heap.size Y (xx 3) w1 := hd 3 (by kernel_rfl)
   refine ⟨rfl, cc, fun w' => ?_, h3⟩
   dsimp only
   rw [hx]
   (go_simp; try rfl)
 case fin =>
  intro xx w1 hb hd
  obtain ⟨vN, vS, vW, vL, hx0, hom⟩ : RmV w2.heap.size Y.1 (xx 4) w1 := hd 4 (by omega)
  obtain ⟨nv, hx1, hon⟩ : RpO w2.heap.size Y.2.1 (xx 5) w1 := hd 5 (by omega)
  have hev : EvO w2.heap.size w1 (xx 6) Y.2.2 := hd 6 (by omega)
  obtain ⟨gR, hxr, hbR, hgR⟩ : NewBx 33 (rmc 0 (.slice none 0 0) (.slice none 0 0) (.slice none 0 0) (.slice none 0 0)) w2.heap.size (xx 7) w1 := hd 7 (by omega)
  obtain ⟨gP, hxp, hbP, hgP⟩ : NewBx 57 (rpc rp0 (.slice none 0 0)) w2.heap.size (xx 8) w1 := hd 8 (by omega)
  obtain ⟨AP, cP, hv1⟩ := hom.n.shape
  obtain ⟨AR, cR, hv2⟩ := hom.s.shape
  obtain ⟨AT, cT, hv3⟩ := hom.t.shape
  obtain ⟨AQ, cQ, hv4, -, -⟩ := hom.l.rd.shape
  obtain ⟨Ax, cx, hv5⟩ := hon.shape
  obtain ⟨nP, hn1⟩ : ∃ q, (mN Y.1).length = q := ⟨_, rfl⟩
  obtain ⟨nR, hn2⟩ : ∃ q, (mS Y.1).length = q := ⟨_, rfl⟩
  obtain ⟨nT, hn3⟩ : ∃ q, (mW Y.1).length = q := ⟨_, rfl⟩
  obtain ⟨nQ, hn4⟩ : ∃ q, (mL Y.1).length = q := ⟨_, rfl⟩
  obtain ⟨nx, hn5⟩ : ∃ q, (pN Y.2.1).length = q := ⟨_, rfl⟩
  rw [hn1] at hv1
  rw [hn2] at hv2
  rw [hn3] at hv3
  rw [hn4] at hv4
  rw [hn5] at hv5
  subst hv1 hv2 hv3 hv4 hv5
  have HNs := lhd hn1
  have OM := lhd hom
  have ON := lhd hon
  have EV := lhd hev
  have BR := lhd hbR
  have BP := lhd hbP
  have EB := lhd hb
  refine AnyTill.any (S := fun _ => True) (m := 12) _ _ _ _ ?_
  rw [hx0, hx1, hxr, hxp]
  clear hd hb hx0 hx1 hxr hxp hbR hbP hom hon hev hn1 hn2 hn3 hn4 hn5
  obtain ⟨RC, hRC⟩ : ∃ q : List Value, rmc (mT Y.1) (.slice AP nP cP) (.slice AR nR cR) (.slice AT nT cT) (.slice AQ nQ cQ) = q := ⟨_, rfl⟩
  have hRA : RC.toArray.all (·.oneCell') = true := by rw [← hRC]; exact rmc_all _ _ _ _ _ _ _ _ _ _ _ _ _
  have hRL : RC.length = 5 := by rw [← hRC]; rfl
  have HRC := lhd hRC
  have HRL := lhd hRL
  rw [hRC]
  clear hRC hRL
  refine AnyTill.one (i := 9) (by kernel_rfl) rfl (by rfl) (fun K hK => ?_)
  refine wp_of_list rfl (wpList_store_to rfl 33 _ _ rfl gR RC (rmc 0 (.slice none 0 0) (.slice none 0 0) (.slice none 0 0) (.slice none 0 0)) 33 rfl rfl BR.out (by rw [HRL.out]; exact szRmP) (by rw [HRL.out]; rfl) hRA ?_)
  intro w8 e1 e2 e3 e4
  refine hK.out _ _ (.inr trivial) ?_
  have KR := lhd (Keep.store (T := fun e => e = 33) (b := w2.heap.size) BR.out rfl hgR e2 e4)
  have R8 := lhd e1
  have P8 := lhd (BP.out.keepT KR.out (by decide))
  have OM := lhd (OM.out.keepR KR.out)
  have ON := lhd (ON.out.keep KR.out (by decide))
  have EV := lhd (EV.out.keep KR.out (by decide))
  have EB := lhd (EB.out.trans (e3.mono hgR))
  clear hK K e1 e2 e3 e4 KR BR BP
  refine AnyTill.one (i := 10) (by kernel_rfl) rfl (by rfl) (fun K hK => ?_)
  refine wp_of_list rfl (wpList_store_to rfl 57 _ _ rfl gP (rpc Y.2.1 (.slice Ax nx cx)) (rpc rp0 (.slice none 0 0)) 57 rfl rfl P8.out szRpT rfl (rpc_allM _ _ _ _) ?_)
  intro w9 e1 e2 e3 e4
  refine hK.out _ _ (.inr trivial) ?_
  have KP := lhd (Keep.store (T := fun e => e = 57) (b := w2.heap.size) P8.out rfl hgP e2 e4)
  have R9 := lhd (R8.out.keepT KP.out (by decide))
  have P9 := lhd e1
  have OM := lhd (OM.out.storeP (fun x hx => (HYR.out.fine x hx).2.2) P8.out hgP e2 e4 e1 rfl)
  have RM := lhd OM.out.rd
  have ON := lhd (ON.out.keep KP.out (by decide))
  have EV := lhd (EV.out.keep KP.out (by decide))
  have EB := lhd (EB.out.trans (e3.mono hgP))
  clear hK K e1 e2 e3 e4 KP R8 P8
  refine AnyTill.one (i := 11) (by kernel_rfl) rfl (by rfl) (fun K hK => ?_)
  go_simp
  refine hK.out _ _ (.inr trivial) ?_
  clear hK K
  refine AnyTill.done (by kernel_rfl) ?_
  refine NoPanic.normal ?_
  try dsimp only
  have hsz := EB.out.size
  have O9 := lhd (O2.out.below EB.out O2.out.lt)
  have hR0 : B ≤ w2.heap.size := Nat.le_of_lt O2.out.lt
  have B9 := lhd (B2.out.trans (EB.out.mono hR0))
  have hs9 : B ≤ w9.heap.size := Nat.le_trans hR0 hsz
  clear EB hsz O2 B2 EV ON
  obtain ⟨v6, hv6⟩ : ∃ q, xx 6 = q := ⟨_, rfl⟩
  obtain ⟨v3, hv3⟩ : ∃ q, xx 3 = q := ⟨_, rfl⟩
  obtain ⟨v0, hv0⟩ : ∃ q, xx 0 = q := ⟨_, rfl⟩
  obtain ⟨v1, hv1⟩ : ∃ q, xx 1 = q := ⟨_, rfl⟩
  obtain ⟨v2, hv2⟩ : ∃ q, xx 2 = q := ⟨_, rfl⟩
  rw [hv6, hv3, hv0, hv1, hv2]
  clear hv6 hv3 hv0 hv1 hv2
  obtain ⟨Z, hZ⟩ : ∃ q, applyR Y.1 oA = q := ⟨_, rfl⟩
  have HZE : Hid (pE Z.2.1 = 0) := by rw [← hZ, ← HY.out]; exact lhd alive_1.2.2.1
  have HZY : Hid (Z.1 = Y.1) := by rw [← hZ, ← HY.out]; exact lhd alive_2
  have HYE : Hid (pE Y.2.1 = 0) := by rw [← HY.out]; exact lhd alive_1.1
  have HYl : Hid ((mN Y.1).length = 2) := by rw [← HY.out]; exact lhd alive_1.2.1
  have HLS : Hid ((lastR (mL Y.1) 1).2 = true) := by rw [← HY.out]; exact lhd alive_1.2.2.2.1
  have HLQ : Hid (pQ (lastR (mL Y.1) 1).1 = 1) := by rw [← HY.out]; exact lhd alive_1.2.2.2.2
  have HZ := lhd hZ
  clear hZ
  go_wp2_with (first | refine wpList_load_part rfl 33 _ rfl gR 0 RC RC 33 rfl R9.out (by simp) huR hdR (by rw [HRL.out]; exact szRmP) ?_ | refine wpList_load_part rfl 35 _ rfl B 0 (orc oA) (orc oA) 35 rfl O9.out rfl huO hdO szOrT ?_)
  refine calls_args (args2 := #[.agg (rmc (mT Y.1) (.slice AP nP cP) (.slice AR nR cR) (.slice AT nT cT) (.slice AQ nQ cQ)).toArray, .agg (orc oA).toArray]) (by rw [HRC.out]) ?_
  refine (rmApply_any Y.1 oA _ _ _ _ w9 RM.out HYR.out HYN.out (by unfold fitI; decide)).mono ?_
  rintro e wa ⟨uN, uS, uW, uL, nv, vM, rfl, ho, hn, he, hb⟩
  rw [HZ.out] at ho hn he ⊢
  obtain ⟨Ba, ca, hu1⟩ := ho.n.shape
  obtain ⟨Bb, cb, hu2⟩ := ho.s.shape
  obtain ⟨Bc, cc, hu3⟩ := ho.t.shape
  obtain ⟨Bd, cd, hu4, -, -⟩ := ho.l.rd.shape
  obtain ⟨Bx, cx2, hu5⟩ := hn.shape
  obtain ⟨ma, hm1⟩ : ∃ q, (mN Z.1).length = q := ⟨_, rfl⟩
  obtain ⟨mb, hm2⟩ : ∃ q, (mS Z.1).length = q := ⟨_, rfl⟩
  obtain ⟨mc, hm3⟩ : ∃ q, (mW Z.1).length = q := ⟨_, rfl⟩
  obtain ⟨md, hm4⟩ : ∃ q, (mL Z.1).length = q := ⟨_, rfl⟩
  obtain ⟨mx, hm5⟩ : ∃ q, (pN Z.2.1).length = q := ⟨_, rfl⟩
  rw [hm1] at hu1
  rw [hm2] at hu2
  rw [hm3] at hu3
  rw [hm4] at hu4
  rw [hm5] at hu5
  subst hu1 hu2 hu3 hu4 hu5
  clear hm1 hm2 hm3 hm4 hm5
  obtain ⟨RD, hRD⟩ : ∃ q : List Value, rmc (mT Z.1) (.slice Ba ma ca) (.slice Bb mb cb) (.slice Bc mc cc) (.slice Bd md cd) = q := ⟨_, rfl⟩
  have hDA : RD.toArray.all (·.oneCell') = true := by rw [← hRD]; exact rmc_all _ _ _ _ _ _ _ _ _ _ _ _ _
  have hDL : RD.length = 5 := by rw [← hRD]; rfl
  have HRD := lhd hRD
  have HDL := lhd hDL
  rw [hRD]
  clear hRD hDL
  have RMa := lhd (RM.out.belowM hb)
  have RMz := lhd ho.rd
  have R9a := lhd (R9.out.below hb R9.out.lt)
  have P9a := lhd (P9.out.below hb P9.out.lt)
  have Ba := lhd (B9.out.trans (hb.mono hs9))
  have hsa : B ≤ wa.heap.size := Nat.le_trans hs9 hb.size
  clear ho hn he hb RM R9 P9 B9 O9
  go_wp2_with (refine wpList_alloc_blk rfl 33 rfl (rmc 0 (.slice none 0 0) (.slice none 0 0) (.slice none 0 0) (.slice none 0 0)) zeroRmP ?_)
  intro wb a1 a2 a3
  go_wp2_with (refine wpList_alloc_blk rfl 57 rfl (rpc rp0 (.slice none 0 0)) zeroRpT ?_)
  intro wc d1 d2 d3
  obtain ⟨gA, hgA⟩ : ∃ g, wa.heap.size = g := ⟨_, rfl⟩
  obtain ⟨gQ, hgQ⟩ : ∃ g, wa.heap.size + 1 = g := ⟨_, rfl⟩
  have hAQ : gA ≠ gQ := by omega
  have hBA : B ≤ gA := by omega
  have A1 := lhd (a1.below d3 (by omega))
  have Q1 := lhd d1
  have B7 := lhd (a3.trans (d3.mono (by omega)))
  rw [hgQ] at Q1 ⊢
  rw [hgA] at A1 B7 ⊢
  have HGA := lhd hgA
  have hQA : gA ≤ gQ := by omega
  clear a1 a2 a3 d1 d2 d3 hgA hgQ
  go_wp2_with (refine wpList_store_to rfl 33 _ _ rfl gA RD (rmc 0 (.slice none 0 0) (.slice none 0 0) (.slice none 0 0) (.slice none 0 0)) 33 rfl rfl A1.out (by rw [HDL.out]; exact szRmP) (by rw [HDL.out]; rfl) hDA ?_)
  intro wd e1 e2 e3 e4
  have A2 := lhd e1
  have Q2 := lhd (Q1.out.same (e4 gQ hAQ.symm))
  have B8 := lhd (B7.out.trans e3)
  clear e1 e2 e3 e4 A1 Q1 B7
  go_wp2_with (refine wpList_store_to rfl 57 _ _ rfl gQ (rpc Z.2.1 (.slice Bx mx cx2)) (rpc rp0 (.slice none 0 0)) 57 rfl rfl Q2.out szRpT rfl (rpc_allM _ _ _ _) ?_)
  intro we e1 e2 e3 e4
  have Q3 := lhd e1
  have A3 := lhd (A2.out.same (e4 gA hAQ))
  have B9 : Hid (Below wa.heap.size wa we) := lhd (by rw [HGA.out]; exact B8.out.trans (e3.mono hQA))
  have RMe := lhd (RMa.out.belowM B9.out)
  have RMy := lhd (RMz.out.belowM B9.out)
  have R9e := lhd (R9a.out.below B9.out R9a.out.lt)
  have P9e := lhd (P9a.out.below B9.out P9a.out.lt)
  have Be := lhd (Ba.out.trans (B9.out.mono hsa))
  have hse : B ≤ we.heap.size := Nat.le_trans hsa B9.out.size
  clear e1 e2 e3 e4 A2 Q2 B8 B9 RMa RMz R9a P9a Ba hsa
  go_wp2_with (first | refine wpList_load_part rfl 33 _ rfl gA 0 RD RD 33 rfl A3.out (by simp) huR hdR (by rw [HDL.out]; exact szRmP) ?_ | fail)
  refine calls_args (args2 := #[.agg (rmc (mT Z.1) (.slice Ba ma ca) (.slice Bb mb cb) (.slice Bc mc cc) (.slice Bd md cd)).toArray, .int .i64 1]) (by rw [HRD.out]) ?_
  refine (rmLast_any Z.1 1 _ _ _ _ we RMy.out (by rw [HZY.out]; exact Nat.le_trans HYR.out.few (by decide)) (by rw [HZY.out]; exact HYN.out) (by rw [HZY.out]; exact HYR.out.asc)).mono ?_
  rintro e wf ⟨nu, rfl, hn, hb⟩
  rw [HZY.out] at hn ⊢
  obtain ⟨Cx, dx, hnu, -, -⟩ := hn.shape
  obtain ⟨kx, hkx⟩ : ∃ q, (pN (lastR (mL Y.1) 1).1).length = q := ⟨_, rfl⟩
  rw [hkx] at hnu
  subst hnu
  rw [HLS.out]
  obtain ⟨X, hX⟩ : ∃ q, (lastR (mL Y.1) 1).1 = q := ⟨_, rfl⟩
  have HXQ : Hid (pQ X = 1) := by rw [← hX]; exact HLQ
  rw [hX]
  have RMf := lhd (RMe.out.belowM hb)
  have RMg := lhd (RMy.out.belowM hb)
  have R9f := lhd (R9e.out.below hb R9e.out.lt)
  have P9f := lhd (P9e.out.below hb P9e.out.lt)
  have A3f := lhd (A3.out.below hb A3.out.lt)
  have Q3f := lhd (Q3.out.below hb Q3.out.lt)
  have Bf := lhd (Be.out.trans (hb.mono hse))
  have hsf : B ≤ wf.heap.size := Nat.le_trans hse hb.size
  clear hX hkx hn hb RMe RMy R9e P9e A3 Q3 Be hse
  go_wp2_with (refine wpList_alloc_blk rfl 57 rfl (rpc rp0 (.slice none 0 0)) zeroRpT ?_)
  intro wg a1 a2 a3
  obtain ⟨gX, hgX⟩ : ∃ g, wf.heap.size = g := ⟨_, rfl⟩
  have X1 := lhd a1
  have B7 := lhd a3
  rw [hgX] at X1 B7 ⊢
  have HGX := lhd hgX
  clear a1 a2 a3 hgX
  go_wp2_with (refine wpList_store_to rfl 57 _ _ rfl gX (rpc X (.slice Cx kx dx)) (rpc rp0 (.slice none 0 0)) 57 rfl rfl X1.out szRpT rfl (rpc_allM _ _ _ _) ?_)
  intro wh e1 e2 e3 e4
  have X3 := lhd e1
  have B9 : Hid (Below wf.heap.size wf wh) := lhd (by rw [HGX.out]; exact B7.out.trans e3)
  have RMh := lhd (RMf.out.belowM B9.out)
  have RMi := lhd (RMg.out.belowM B9.out)
  have R9h := lhd (R9f.out.below B9.out R9f.out.lt)
  have P9h := lhd (P9f.out.below B9.out P9f.out.lt)
  have A3h := lhd (A3f.out.below B9.out A3f.out.lt)
  have Q3h := lhd (Q3f.out.below B9.out Q3f.out.lt)
  have Bh := lhd (Bf.out.trans (B9.out.mono hsf))
  have hsh : B ≤ wh.heap.size := Nat.le_trans hsf B9.out.size
  clear e1 e2 e3 e4 X1 B7 B9 RMf RMg R9f P9f A3f Q3f Bf hsf HGX
  have z1 : wh.cell? ⟨gP, 2, none⟩ = some (.int .i64 0) := (P9h.out.cell 2).trans (by rw [← HYE.out]; rfl)
  have z2 : wh.cell? ⟨gQ, 2, none⟩ = some (.int .i64 0) := (Q3h.out.cell 2).trans (by rw [← HZE.out]; rfl)
  have z3 : wh.cell? ⟨gR, 0, none⟩ = some (.slice AP nP cP) := (R9h.out.cell 0).trans (by rw [← HRC.out]; rfl)
  have z4 : wh.cell? ⟨gX, 1, none⟩ = some (.int .i64 1) := (X3.out.cell 1).trans (by rw [← HXQ.out]; rfl)
  obtain rfl : nP = 2 := by rw [← HNs.out]; exact HYl.out
  go_wp2_with (first | refine wpList_load_partG (by rfl) 33 _ rfl gR 0 RC RC 33 rfl R9h.out (by simp) huR hdR (by rw [HRL.out]; exact szRmP) ?_ | refine wpList_load_partG (by rfl) 33 _ rfl gA 0 RD RD 33 rfl A3h.out (by simp) huR hdR (by rw [HDL.out]; exact szRmP) ?_ | fail)
  refine calls_args (args2 := #[.agg (rmc (mT Y.1) (.slice AP 2 cP) (.slice AR nR cR) (.slice AT nT cT) (.slice AQ nQ cQ)).toArray, .agg (rmc (mT Y.1) (.slice Ba ma ca) (.slice Bb mb cb) (.slice Bc mc cc) (.slice Bd md cd)).toArray]) (by rw [HRC.out, ← HZY.out, HRD.out]) ?_
  refine (rmSame_yes Y.1 _ _ _ _ _ _ _ _ wh RMh.out (by have h := RMi.out; rw [HZY.out] at h; exact h) HYR.out HYN.out).mono ?_
  rintro e wi ⟨rfl, hb⟩
  have z4 : wi.cell? ⟨gX, 1, none⟩ = some (.int .i64 1) := ((X3.out.below hb X3.out.lt).cell 1).trans (by rw [← HXQ.out]; rfl)
  have Bi := lhd (Bh.out.trans (hb.mono hsh))
  clear hb z1 z2 z3
  go_wp2
  go_ret
  exact ⟨rfl, by rw [HBB.out]; exact Bi.out⟩
def ShortO (l : List Or) (w : World) (e : Ending) (w' : World) : Prop := ∃ b, e = .returned (.bool b) ∧ (b = true → l.length ≤ 30) ∧ Below w.heap.size w w'
theorem short13 (l : List Or) (v : Value) (w : World) (hr : RdE OrK w.heap.size w v l) : Calls Tryz.prog 10 #[v] w (ShortO l w) := by
 obtain ⟨A, cp, rfl, hc, hm⟩ := hr.shape
 unfold maxLen at hm
 obtain ⟨n, hn⟩ : ∃ n, l.length = n := ⟨_, rfl⟩
 have HN := lhd hn
 have HR := lhd hr
 rw [hn] at hc HR ⊢
 clear hr hn
 go_enter Tryz.func10, Tryz.ntmps10
 have HR1 := HR
 have HB := lhd (Below.refl w.heap.size w)
 go_wp2
 go_loop [3] (fun x => ∃ i : Nat, i ≤ n ∧ x = .int .i64 (i : Int) ∧ i ≤ 30) (fun x => n - (intOf x).toNat)
 case atStart => exact ⟨0, by omega, rfl, by omega⟩
 case round =>
  obtain ⟨i, hi, rfl, hib⟩ := hrel
  by_cases hi2 : i < n
  ·have zi : (i : Int) < (n : Int) := by omega
   by_cases hz : i = 30
   ·have hzz : ((i : Int) == 30) = true := int_eqE _ _ (by omega)
    subst hz
    go_wp2
    go_ret
    exact ⟨_, rfl, fun h => by simp at h, HB.out⟩
   have hzz : ((i : Int) == 30) = false := int_neE _ _ (by omega)
   obtain ⟨a, hA, c0, c1, c2, c3, c4, c5, c6, c7⟩ := HR1.out.atOr i (by rw [HN.out]; exact hi2)
   subst hA
   obtain ⟨x, hx⟩ : ∃ x, l.getD i or0 = x := ⟨_, rfl⟩
   rw [hx] at c0 c1 c2 c3 c4 c5 c6 c7
   obtain ⟨k, hk⟩ : ∃ k, (oP x).length = k := ⟨_, rfl⟩
   obtain ⟨m, hm3⟩ : ∃ k, (oV x).length = k := ⟨_, rfl⟩
   have hkz : (⟨(oP x).toArray⟩ : ByteArray).size = k := hk
   have hmz : (⟨(oV x).toArray⟩ : ByteArray).size = m := hm3
   clear hk hm3 hx
   by_cases hlong : (200 : Int) < (k : Int)
   ·go_wp2
    go_ret
    exact ⟨_, rfl, fun h => by simp at h, HB.out⟩
   by_cases hlong2 : (1100 : Int) < (m : Int)
   ·go_wp2
    go_ret
    exact ⟨_, rfl, fun h => by simp at h, HB.out⟩
   go_wp2
   go_round
   case rel => exact ⟨i + 1, by omega, by go_num, by omega⟩
   case measure => simp [intOf]; omega
  ·obtain rfl : i = n := by omega
   have zi : ¬ (i : Int) < (i : Int) := by omega
   have hn30 : Hid (l.length ≤ 30) := lhd (by rw [HN.out]; exact hib)
   go_wp2
   go_ret
   exact ⟨_, rfl, fun _ => hn30.out, HB.out⟩
theorem last_apply (r : Rm) (o : Or) (c : Int) (h : RightR r) (hc : oC o ≠ c) : lastR (mL (applyR r o).1) c = lastR (mL r) c := by
 unfold applyR
 split
 ·rfl
 split
 ·rfl
 split
 ·rfl
 split
 ·rfl
 show lastR (seenR (ofR o (doneR r o).2.1) false (mL r)) c = _
 rw [seenR_last _ _ h.asc, if_neg (fun e => hc e.symm)]
theorem last_fold (c : Int) : ∀ (l : List Or) (r : Rm), RightR r → (∀ o ∈ l, oC o ≠ c) → lastR (mL (foldR r l).1) c = lastR (mL r) c
 | [], _, _, _ => rfl
 | o :: l, r, h, hc => by
   show lastR (mL (foldR (applyR r o).1 l).1) c = _
   rw [last_fold c l _ (right_apply r o h) (fun x hx => hc x (List.mem_cons_of_mem _ hx)), last_apply r o c h (hc o (by simp))]
theorem apply_not (r : Rm) (o : Or) (h : mayO o = false) : applyR r o = (r, noR o 1, []) := by unfold applyR; rw [if_pos h]
theorem apply_ways (r : Rm) (o : Or) (hr : RightR r) (h : mayO o = true) :
 (applyR r o = (r, (lastR (mL r) (oC o)).1, []) ∧ (lastR (mL r) (oC o)).2 = true ∧ pQ (lastR (mL r) (oC o)).1 = oQ o) ∨
 (applyR r o = (r, noR o 15, []) ∧ (lastR (mL r) (oC o)).2 = true ∧ oQ o < pQ (lastR (mL r) (oC o)).1) ∨
 (applyR r o = (r, noR o 9, []) ∧ (lastR (mL r) (oC o)).2 = false) ∨
 (lastR (mL (applyR r o).1) (oC o) = ((applyR r o).2.1, true) ∧ pQ (applyR r o).2.1 = oQ o ∧ pC (applyR r o).2.1 = oC o) := by
 have hm : ¬ mayO o = false := by rw [h]; simp
 by_cases h1 : (lastR (mL r) (oC o)).2 = true ∧ pQ (lastR (mL r) (oC o)).1 = oQ o
 ·exact .inl ⟨by unfold applyR; rw [if_neg hm, if_pos h1], h1⟩
 by_cases h2 : (lastR (mL r) (oC o)).2 = true ∧ oQ o < pQ (lastR (mL r) (oC o)).1
 ·exact .inr (.inl ⟨by unfold applyR; rw [if_neg hm, if_neg h1, if_pos h2], h2⟩)
 by_cases h3 : (lastR (mL r) (oC o)).2 = false ∧ 50 ≤ (mL r).length
 ·exact .inr (.inr (.inl ⟨by unfold applyR; rw [if_neg hm, if_neg h1, if_neg h2, if_pos h3], h3.1⟩))
 ·have e : applyR r o = takenR r o := by unfold applyR; rw [if_neg hm, if_neg h1, if_neg h2, if_neg h3]
  refine .inr (.inr (.inr ?_))
  rw [e]
  refine ⟨?_, rfl, rfl⟩
  show lastR (seenR (ofR o (doneR r o).2.1) false (mL r)) (oC o) = _
  rw [seenR_last _ _ hr.asc, if_pos (show oC o = pC (ofR o (doneR r o).2.1) from rfl)]
  rfl
theorem once_again (r : Rm) (o : Or) (l : List Or) (hr : RightR r) (h : mayO o = true) (hl : ∀ x ∈ l, oC x ≠ oC o)
 (h1 : (lastR (mL (applyR r o).1) (oC o)).2 = true) :
 applyR (foldR (applyR r o).1 l).1 o = ((foldR (applyR r o).1 l).1, (applyR r o).2.1, []) ∧ pC (applyR r o).2.1 = oC o := by
 have hR := right_apply r o hr
 have hk := last_fold (oC o) l (applyR r o).1 hR hl
 have hm : ¬ mayO o = false := by rw [h]; simp
 rcases apply_ways r o hr h with ⟨e, e1, e2⟩ | ⟨e, e1, e2⟩ | ⟨e, e1⟩ | ⟨e, e1, e2⟩
 ·rw [e] at hk ⊢
  dsimp only at hk ⊢
  refine ⟨?_, (lastR_mem _ _ e1).2⟩
  unfold applyR
  rw [if_neg hm, hk, if_pos ⟨e1, e2⟩]
 ·rw [e] at hk ⊢
  dsimp only at hk ⊢
  refine ⟨?_, rfl⟩
  unfold applyR
  rw [if_neg hm, hk, if_neg (fun x => by omega), if_pos ⟨e1, e2⟩]
 ·rw [e] at h1
  dsimp only at h1
  rw [e1] at h1
  cases h1
 ·generalize applyR r o = X at *
  rw [e] at hk
  refine ⟨?_, e2⟩
  unfold applyR
  rw [if_neg hm, hk, if_pos ⟨rfl, e1⟩]
theorem once_full (r : Rm) (o : Or) (hr : RightR r) (h : mayO o = true)
 (h1 : (lastR (mL (applyR r o).1) (oC o)).2 = false ∨ pQ (lastR (mL (applyR r o).1) (oC o)).1 < oQ o) : applyR r o = (r, noR o 9, []) := by
 rcases apply_ways r o hr h with ⟨e, e1, e2⟩ | ⟨e, e1, e2⟩ | ⟨e, e1⟩ | ⟨e, e1, e2⟩
 ·rw [e] at h1
  dsimp only at h1
  rw [e1] at h1
  rcases h1 with h1 | h1
  ·cases h1
  ·omega
 ·rw [e] at h1
  dsimp only at h1
  rw [e1] at h1
  rcases h1 with h1 | h1
  ·cases h1
  ·omega
 ·exact e
 ·rw [e] at h1
  rcases h1 with h1 | h1
  ·cases h1
  ·dsimp only at h1
   omega
theorem rowRm12 : ∃ d, Tryz.prog.underlying 61 = some d ∧ d.isRow = true := ⟨_, Tryz.underlying61, rfl⟩
theorem rowRp12 : ∃ d, Tryz.prog.underlying 57 = some d ∧ d.isRow = true := ⟨_, Tryz.underlying57, rfl⟩
theorem szRp12 : (Tryz.prog.info? 57).map (·.size) = some 6 := by kernel_rfl
theorem told13 (x : Rp) (A : Option Addr) (n c : Nat) (w : World) : Calls Tryz.prog 19 #[.agg (rpc x (.slice A n c)).toArray] w (One (.agg (rpc x (.slice A n c)).toArray) w) := by
 obtain ⟨dR, huR, hdR⟩ := rowRm12
 have HU := lhd huR
 have HD := lhd hdR
 clear huR hdR
 go_enter Tryz.func19, Tryz.ntmps19
 go_wp2_with (refine wpList_box_blk rfl 57 _ rfl (rpc x (.slice A n c)) rfl ?_)
 intro w1 b1 b2 b3
 go_wp2_with (refine wpList_alloc_blk rfl 61 rfl (rpc rp0 (.slice none 0 0)) zeroRpRm ?_)
 intro w2 a1 a2 a3
 obtain ⟨g0, hg0⟩ : ∃ g, w.heap.size = g := ⟨_, rfl⟩
 obtain ⟨g1, hg1⟩ : ∃ g, w.heap.size + 1 = g := ⟨_, rfl⟩
 have X0 := b1.below a3 (by omega)
 have X1 := lhd a1
 have HB := lhd (b3.trans (a3.mono (by omega)))
 have hw1 : w.heap.size ≤ g1 := by omega
 have HW1 := lhd hw1
 rw [hg1] at X1 ⊢
 rw [hg0] at X0 ⊢
 have c0 := X0.at_ 0 _ rfl
 have c1 := X0.at_ 1 _ rfl
 have c2 := X0.at_ 2 _ rfl
 have c3 := X0.at_ 3 _ rfl
 have c4 := X0.at_ 4 _ rfl
 have c5 := X0.at_ 5 _ rfl
 clear b1 b2 b3 a1 a2 a3 hg1 hg0 X0 hw1
 go_wp2_with (refine wpList_store_to rfl 61 _ _ rfl g1 (rpc x (.slice A n c)) (rpc rp0 (.slice none 0 0)) 61 rfl rfl X1.out szRpRm rfl (rpc_allM _ _ _ _) ?_)
 intro w3 e1 e2 e3 e4
 go_wp2
 refine bodyPost_ret (v := .agg (rpc x (.slice A n c)).toArray) ?_ rfl ?_
 ·exact ret_blkUL rfl _ _ g1 61 (rpc x (.slice A n c)) rfl e1 dR HU.out HD.out szRpRm
 ·exact ⟨rfl, HB.out.trans (e3.mono HW1.out)⟩
theorem take_rp (l : List Rp) (i : Nat) (hi : i < l.length) : l.take (i + 1) = l.take i ++ [l.getD i rp0] := by
 rw [List.take_add_one, List.getD_eq_getElem?_getD, List.getElem?_eq_getElem hi]
 rfl
def RpsO (B : Nat) (l : List Rp) (w : World) (e : Ending) (w' : World) : Prop := ∃ u, e = .returned u ∧ OwnRp 61 w' w.heap.size B u l ∧ Below w.heap.size w w'
theorem replies13 (B : Nat) (l : List Rp) (v : Value) (w : World) (hr : RdRp B w v l) (hB : B ≤ w.heap.size) (hl : l.length ≤ 1000) : Calls Tryz.prog 28 #[v] w (RpsO B l w) := by
 obtain ⟨A, cp, rfl, hc, hm⟩ := hr.shape
 unfold maxLen at hm
 obtain ⟨n, hn⟩ : ∃ n, l.length = n := ⟨_, rfl⟩
 have HN := lhd hn
 have HR := lhd hr
 rw [hn] at hc HR hl ⊢
 have HL := lhd hl
 have HBw := lhd hB
 obtain ⟨dR, huR, hdR⟩ := rowRp12
 clear hr hn hl hB
 go_enter Tryz.func28, Tryz.ntmps28
 go_wp2
 have HO1 : Hid (OwnRp 61 (w.alloc (.cells #[] 61)) w.heap.size B (.slice (some ⟨w.heap.size, 0, none⟩) 0 0) []) := lhd (OwnRp.empty _ _ _ _ (Nat.le_refl _))
 have HB1 : Hid (Below w.heap.size w (w.alloc (.cells #[] 61))) := lhd ((Below.refl _ _).alloc (Nat.le_refl _) _)
 go_loopw [3, 4] (fun u x wr => ∃ i : Nat, i ≤ n ∧ x = .int .i64 (i : Int) ∧ Hid (OwnRp 61 wr w.heap.size B u (l.take i)) ∧ Hid (Below w.heap.size w wr)) (fun _ x _ => n - (intOf x).toNat)
 case atStart => exact ⟨0, Nat.zero_le _, rfl, HO1, HB1⟩
 case round =>
  clear HO1 HB1
  obtain ⟨i, hi, rfl, HO, HB⟩ := hrel
  obtain ⟨wq, rfl⟩ : ∃ q, q = wr := ⟨_, rfl⟩
  by_cases hi2 : i < n
  ·have zi : (i : Int) < (n : Int) := by omega
   have hrb := HR.out.below (HB.out.mono HBw.out)
   obtain ⟨a, s, hA, hs, -⟩ := hrb.at_ i (by rw [HN.out]; exact hi2)
   subst hA
   obtain ⟨ss, h1, h2, h3⟩ := hrb
   have hnd : ∀ j v, (rpc (l.getD i rp0) (slv (ss.getD i sl0)))[j]? = some v → wq.cell? ((a.add (i * 6)).add j) = some v := by
    intro j v hv
    refine h2.node i (by rw [rvs_len h1, HN.out]; exact hi2) j v ?_
    show (rvc ((rvs l ss).getD i rv0))[j]? = some v
    rw [rvs_at h1 i (by rw [HN.out]; exact hi2)]
    exact hv
   have hns := h3 i (by rw [HN.out]; exact hi2)
   obtain ⟨⟨Ax, nx, cx⟩, hsx⟩ : ∃ q, ss.getD i sl0 = q := ⟨_, rfl⟩
   rw [hsx] at hnd hns
   have HT := lhd (take_rp l i (by rw [HN.out]; exact hi2))
   obtain ⟨x, hx⟩ : ∃ x, l.getD i rp0 = x := ⟨_, rfl⟩
   rw [hx] at hnd hns HT
   have HNS := lhd hns
   have HLE : Hid ((l.take i).length ≤ 1000000) := lhd (by
    have := HL.out
    have := HN.out
    rw [List.length_take]
    omega)
   clear hns hsx hx h1 h2 h3 hs
   go_wp2_with (first | refine wpList_load_rowE rfl 57 _ rfl (a.add (i * 6)) (by first | rfl | (simp [Act.eval, Act.put, Addr.add])) (rpc x (.slice Ax nx cx)) hnd dR huR hdR szRp12 ?_ | fail)
   refine (told13 x Ax nx cx wq).mono ?_
   rintro e wt ⟨rfl, hb⟩
   have hsz := HB.out.size
   have HOt := lhd (HO.out.below hb (Nat.le_refl _) (Nat.le_trans HBw.out hsz))
   have HBt := lhd (HB.out.trans (hb.mono hsz))
   have hsw := HBt.out.size
   have HNt := lhd HNS.out
   have hb1 : Below wt.heap.size wt (wt.alloc (.cells (rpc x (.slice Ax nx cx)).toArray 61)) := (Below.refl _ _).alloc (Nat.le_refl _) _
   have hNS2 := HNS.out.below (hb.mono (Nat.le_trans HBw.out hsz))
   have HNS2 := lhd (hNS2.below (hb1.mono (Nat.le_trans HBw.out hsw)))
   have HB2 := lhd hb1
   have HO' := lhd (HOt.out.below hb1 (Nat.le_refl _) (Nat.le_trans HBw.out hsw))
   clear hb hb1 hnd HO HB HNS hNS2 HNt
   have hlen : (rpc x (.slice Ax nx cx)).length = 6 := rfl
   go_wp2_with (at_builtin; refine wpList_appRp rfl _ _ 49 rfl 61 Tryz.underlying49 kindRvR w.heap.size _ _ (l.take i) x (Ax, nx, cx) (wt.heap.size + 1) B HBw.out rfl HO'.out rfl (RdE.one (E := RvK) wt 61 (rpv x (Ax, nx, cx))) HNS2.out HLE.out ?c1 ?_)
   case c1 => simp; omega
   intro vo wa hown hb5
   rw [← HT.out] at hown
   have HOn := lhd hown
   have HBn := lhd (HBt.out.trans ((HB2.out.mono hsw).trans hb5))
   clear hown hb5 HO' HB2 HOt HBt hsw hsz
   go_wp2
   go_roundw
   case rel => exact ⟨i + 1, by omega, by go_num, HOn, HBn⟩
   case measure => simp [intOf]; omega
  ·obtain rfl : i = n := by omega
   have zi : ¬ (i : Int) < (i : Int) := by omega
   have HF : Hid (l.take i = l) := lhd (List.take_of_length_le (by rw [HN.out]; exact Nat.le_refl _))
   rw [HF.out] at HO
   go_wp2
   go_ret
   exact ⟨_, rfl, HO.out, HB.out⟩
end Go.Proofs.YtdihngkdhanhkaaGreatDoor
