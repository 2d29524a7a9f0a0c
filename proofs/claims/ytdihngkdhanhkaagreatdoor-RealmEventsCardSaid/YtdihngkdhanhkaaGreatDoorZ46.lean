/-
  Texts KF KG KR.
-/
import Derived.Test.YtdihngkdhanhkaaGreatDoorZ09
import Derived.Test.YtdihngkdhanhkaaGreatDoorZ10
import Derived.Test.YtdihngkdhanhkaaGreatDoorZ45
namespace Go.Proofs.YtdihngkdhanhkaaGreatDoor
open Go.RowKit

def oA : Or := (1, 1, 1, [47, 97], [120], 0, 0, 0)
theorem right_rm0 : RightR rm0 := ⟨(rightN_iff _).1 (by decide +kernel), (rightS_iff _ _).1 (by decide +kernel), (rightW_iff _).1 (by decide +kernel), Nat.zero_le _, fun x h => absurd h (by simp [rm0, mL]), List.Pairwise.nil⟩
theorem alive_1 : pE (applyR rm0 oA).2.1 = 0 ∧ (mN (applyR rm0 oA).1).length = 2 ∧ pE (applyR (applyR rm0 oA).1 oA).2.1 = 0 ∧ (lastR (mL (applyR rm0 oA).1) 1).2 = true ∧ pQ (lastR (mL (applyR rm0 oA).1) 1).1 = 1 := by decide +kernel
theorem apply_again (r : Rm) (o : Or) (h1 : mayO o = true) (h2 : (lastR (mL r) (oC o)).2 = true) (h3 : pQ (lastR (mL r) (oC o)).1 = oQ o) : applyR r o = (r, (lastR (mL r) (oC o)).1, []) := by
  unfold applyR
  rw [if_neg (by rw [h1]; decide), if_pos ⟨h2, h3⟩]
theorem alive_2 : (applyR (applyR rm0 oA).1 oA).1 = (applyR rm0 oA).1 := by
  rw [apply_again _ oA (by decide +kernel) alive_1.2.2.2.1 alive_1.2.2.2.2]
set_option maxRecDepth 100000 in
set_option maxHeartbeats 16000000 in
theorem alive13 (w : World) : Calls Tryz.prog 13 #[] w (One (.bool true) w) := by
  obtain ⟨dR, huR, hdR⟩ := rowRmP
  obtain ⟨dP, huP, hdP⟩ := rowRpT
  obtain ⟨dO, huO, hdO⟩ := rowOrT
  go_enter Tryz.func13, Tryz.ntmps13
  go_wp2_with (refine wpList_alloc_blk rfl 35 rfl (orc or0) zeroOrP ?_)
  intro w1 a1 a2 a3
  obtain ⟨B, hB⟩ : ∃ g, w.heap.size = g := ⟨_, rfl⟩
  have A1 := Lib.hid a1
  have BA := Lib.hid a3
  rw [hB] at A1 BA ⊢
  have HBB := Lib.hid hB
  clear a1 a2 a3 hB
  go_wp2_with (refine wpList_store_to rfl 35 _ _ rfl B (orc oA) (orc or0) 35 rfl rfl A1.out szOrT rfl (orc_all oA) ?_)
  intro w2 e1 e2 e3 e4
  have O2 := Lib.hid e1
  have B2 := Lib.hid (BA.out.trans e3)
  clear e1 e2 e3 e4 A1 BA
  obtain ⟨Y, hY⟩ : ∃ q, applyR rm0 oA = q := ⟨_, rfl⟩
  have HY := Lib.hid hY
  have HYR : Hid (RightR Y.1) := by rw [← hY]; exact Lib.hid (right_apply _ _ right_rm0)
  have HYN : Hid (NamesR (mL Y.1)) := by rw [← hY]; exact Lib.hid (names_apply _ _ right_rm0 (fun x h => by cases h)).1
  clear hY
  go_wp2
  refine wp_region_relyF [5, 6] 9 3 (fun x => ⟨#[.bool false, .pointer (some { block := B, off := 0 }), x 7, x 8, undef, undef, undef, undef, undef, undef, .agg #[Value.int IntKind.i64 1, Value.int IntKind.i64 1, Value.int IntKind.i64 1, Value.string { data := #[47, 97] }, Value.string { data := #[120] }, Value.int IntKind.i64 0, Value.int IntKind.i64 0, Value.int IntKind.i64 0], x 3, x 0, x 1, x 2, x 4, x 5, x 6, undef, undef, undef, undef, undef, undef, undef, undef, undef, undef, undef, undef, undef, undef, undef, undef, undef, undef, undef, undef, undef, undef, undef, undef, undef, undef, undef, undef, undef, undef, undef, undef, undef, undef, undef, undef, undef, undef, undef, undef], []⟩) (fun jj => ([(RmR rm0), (eqV (.agg (orc oA).toArray)), (AppV w2.heap.size Y), (AppV w2.heap.size Y), (RmV w2.heap.size Y.1), (RpO w2.heap.size Y.2.1), (fun v w => EvO w2.heap.size w v Y.2.2), (NewBx 33 (rmc 0 (.slice none 0 0) (.slice none 0 0) (.slice none 0 0) (.slice none 0 0)) w2.heap.size), (NewBx 57 (rpc rp0 (.slice none 0 0)) w2.heap.size)] : List (Value → World → Prop)).getD jj (fun _ _ => True)) rfl ⟨fun kk => [_, _, _, _, _, _, _, _, _].getD kk undef, rfl⟩ (by kernel_rfl) (lateF_of 2 (by decide) (by kernel_rfl)) (by kernel_rfl) ?pure ?steps ?fin
  case steps =>
    refine StepsAt.cons 0 (fun _ _ _ h hb => h.keep hb) (fun _ _ => rfl) rfl rfl (fun x w1 hb hd K hK => ?_) ?_
    · go_simp
      refine (rmNew_any w1).mono ?_
      rintro e w99 ⟨vN, vS, vW, vL, rfl, hr9, hb99⟩
      exact hK.out _ _ hb99 ⟨_, _, _, _, rfl, hr9⟩
    refine StepsAt.val 1 (.agg (orc oA).toArray) rfl (fun _ _ => rfl) rfl rfl (fun x w1 hb hd => ?_) ?_
    · refine run_load_part 35 _ rfl B 0 (orc oA) (orc oA) 35 rfl (O2.out.below hb O2.out.lt) rfl huO hdO szOrT
    refine StepsAt.cons 2 (fun _ _ _ h hb => h.keep hb) (fun _ _ => rfl) rfl rfl (fun x w1 hb hd K hK => ?_) ?_
    · obtain ⟨vN, vS, vW, vL, h0, hr0⟩ : RmR rm0 (x 0) w1 := hd 0 (by kernel_rfl)
      have h1 : x 1 = .agg (orc oA).toArray := hd 1 (by kernel_rfl)
      have H0 := Lib.hid h0
      have H1 := Lib.hid h1
      clear h0 h1
      go_simp
      refine calls_args (args2 := #[.agg (rmc (mT rm0) vN vS vW vL).toArray, .agg (orc oA).toArray]) (by rw [H0.out, H1.out]) ?_
      refine (rmApply_any rm0 oA vN vS vW vL w1 hr0 right_rm0 (fun x h => by cases h) (by unfold fitI; decide)).mono ?_
      intro e w99 h99
      rw [HY.out] at h99
      obtain ⟨v, rfl, h2, hb99⟩ := h99.val (B := w2.heap.size) hb.size
      exact hK.out _ _ hb99 h2
    refine StepsAt.rel 3 (fun _ _ _ h hb => AppV.keep h hb) (fun _ _ => rfl) rfl rfl (fun x w1 hb hd => ?_) ?_
    · have h9 : AppV w2.heap.size Y (x 2) w1 := hd 2 (by kernel_rfl)
      refine ⟨x 2, ?_, h9⟩
      first | (go_simp; done) | (go_simp; rfl)
    refine StepsAt.rel 4 (fun _ _ _ h hb => RmV.keep h hb) (fun _ _ => rfl) rfl rfl (fun x w1 hb hd => ?_) ?_
    · obtain ⟨a, b, cc, hx, h1, h2, h3⟩ : AppV w2.heap.size Y (x 3) w1 := hd 3 (by kernel_rfl)
      refine ⟨a, ?_, h1⟩
      rw [hx]
      first | (go_simp; done) | (go_simp; rfl)
    refine StepsAt.rel 5 (fun _ _ _ h hb => RpO.keep h hb) (fun _ _ => rfl) rfl rfl (fun x w1 hb hd => ?_) ?_
    · obtain ⟨a, b, cc, hx, h1, h2, h3⟩ : AppV w2.heap.size Y (x 3) w1 := hd 3 (by kernel_rfl)
      refine ⟨b, ?_, h2⟩
      rw [hx]
      first | (go_simp; done) | (go_simp; rfl)
    refine StepsAt.rel 6 (fun _ _ _ h hb => EvO.below h hb) (fun _ _ => rfl) rfl rfl (fun x w1 hb hd => ?_) ?_
    · obtain ⟨a, b, cc, hx, h1, h2, h3⟩ : AppV w2.heap.size Y (x 3) w1 := hd 3 (by kernel_rfl)
      refine ⟨cc, ?_, h3⟩
      rw [hx]
      first | (go_simp; done) | (go_simp; rfl)
    refine StepsAt.cons 7 (fun _ _ _ h hb => NewBx.keep h hb) (fun _ _ => rfl) rfl rfl (fun x w1 hb hd K hK => ?_) ?_
    · refine wp_of_list rfl (wpList_alloc_blk rfl 33 rfl (rmc 0 (.slice none 0 0) (.slice none 0 0) (.slice none 0 0) (.slice none 0 0)) zeroRmP ?_)
      intro w8 a1 a2 a3
      exact hK.out _ _ a3 ⟨_, rfl, a1, hb.size⟩
    refine StepsAt.cons 8 (fun _ _ _ h hb => NewBx.keep h hb) (fun _ _ => rfl) rfl rfl (fun x w1 hb hd K hK => ?_) ?_
    · refine wp_of_list rfl (wpList_alloc_blk rfl 57 rfl (rpc rp0 (.slice none 0 0)) zeroRpT ?_)
      intro w8 a1 a2 a3
      exact hK.out _ _ a3 ⟨_, rfl, a1, hb.size⟩
    exact StepsAt.done
  case pure =>
    intro p hp op ho xx w1 hd
    have key : AppV w2.heap.size Y (xx 3) w1 → p = 5 ∨ p = 6 := fun _ => by simpa using hp
    clear key
    rcases List.mem_cons.1 hp with rfl | hp
    · skip
      injection ho with ho
      subst ho
      obtain ⟨a, b, cc, hx, h1, h2, h3⟩ : AppV w2.heap.size Y (xx 3) w1 := hd 3 (by kernel_rfl)
      refine ⟨rfl, b, fun w' => ?_, h2⟩
      dsimp only
      rw [hx]
      first | (go_simp; done) | (go_simp; rfl)
    · obtain rfl := List.mem_singleton.1 hp
      injection ho with ho
      subst ho
      obtain ⟨a, b, cc, hx, h1, h2, h3⟩ : AppV w2.heap.size Y (xx 3) w1 := hd 3 (by kernel_rfl)
      refine ⟨rfl, cc, fun w' => ?_, h3⟩
      dsimp only
      rw [hx]
      first | (go_simp; done) | (go_simp; rfl)
  case fin =>
    intro xx w1 hb hd
    obtain ⟨vN, vS, vW, vL, hx0, hom⟩ : RmV w2.heap.size Y.1 (xx 4) w1 := hd 4 (by omega)
    obtain ⟨nv, hx1, hon⟩ : RpO w2.heap.size Y.2.1 (xx 5) w1 := hd 5 (by omega)
    have hev : EvO w2.heap.size w1 (xx 6) Y.2.2 := hd 6 (by omega)
    obtain ⟨gR, hxr, hbR, hgR⟩ : NewBx 33 (rmc 0 (.slice none 0 0) (.slice none 0 0) (.slice none 0 0) (.slice none 0 0)) w2.heap.size (xx 7) w1 := hd 7 (by omega)
    obtain ⟨gP, hxp, hbP, hgP⟩ : NewBx 57 (rpc rp0 (.slice none 0 0)) w2.heap.size (xx 8) w1 := hd 8 (by omega)
    obtain ⟨AP, cP, hv1⟩ := hom.n.shape
    obtain ⟨AR, cR, hv2⟩ := hom.s.shape
    obtain ⟨AT, cT, hv3⟩ := hom.t.shape
    obtain ⟨AQ, cQ, hv4, -, -⟩ := hom.l.rd.shape
    obtain ⟨Ax, cx, hv5⟩ := hon.shape
    obtain ⟨nP, hn1⟩ : ∃ q, (mN Y.1).length = q := ⟨_, rfl⟩
    obtain ⟨nR, hn2⟩ : ∃ q, (mS Y.1).length = q := ⟨_, rfl⟩
    obtain ⟨nT, hn3⟩ : ∃ q, (mW Y.1).length = q := ⟨_, rfl⟩
    obtain ⟨nQ, hn4⟩ : ∃ q, (mL Y.1).length = q := ⟨_, rfl⟩
    obtain ⟨nx, hn5⟩ : ∃ q, (pN Y.2.1).length = q := ⟨_, rfl⟩
    rw [hn1] at hv1
    rw [hn2] at hv2
    rw [hn3] at hv3
    rw [hn4] at hv4
    rw [hn5] at hv5
    subst hv1 hv2 hv3 hv4 hv5
    have HNs := Lib.hid hn1
    have OM := Lib.hid hom
    have ON := Lib.hid hon
    have EV := Lib.hid hev
    have BR := Lib.hid hbR
    have BP := Lib.hid hbP
    have EB := Lib.hid hb
    refine AnyTill.any (S := fun _ => True) (m := 12) _ _ _ _ ?_
    rw [hx0, hx1, hxr, hxp]
    clear hd hb hx0 hx1 hxr hxp hbR hbP hom hon hev hn1 hn2 hn3 hn4 hn5
    obtain ⟨RC, hRC⟩ : ∃ q : List Value, rmc (mT Y.1) (.slice AP nP cP) (.slice AR nR cR) (.slice AT nT cT) (.slice AQ nQ cQ) = q := ⟨_, rfl⟩
    have hRA : RC.toArray.all (·.oneCell') = true := by rw [← hRC]; exact rmc_all _ _ _ _ _ _ _ _ _ _ _ _ _
    have hRL : RC.length = 5 := by rw [← hRC]; rfl
    have HRC := Lib.hid hRC
    have HRL := Lib.hid hRL
    rw [hRC]
    clear hRC hRL
    refine AnyTill.one (i := 9) (by kernel_rfl) rfl (by rfl) (fun K hK => ?_)
    refine wp_of_list rfl (wpList_store_to rfl 33 _ _ rfl gR RC (rmc 0 (.slice none 0 0) (.slice none 0 0) (.slice none 0 0) (.slice none 0 0)) 33 rfl rfl BR.out (by rw [HRL.out]; exact szRmP) (by rw [HRL.out]; rfl) hRA ?_)
    intro w8 e1 e2 e3 e4
    refine hK.out _ _ (.inr trivial) ?_
    have KR := Lib.hid (Keep.store (T := fun e => e = 33) (b := w2.heap.size) BR.out rfl hgR e2 e4)
    have R8 := Lib.hid e1
    have P8 := Lib.hid (BP.out.keepT KR.out (by decide))
    have OM := Lib.hid (OM.out.keepR KR.out)
    have ON := Lib.hid (ON.out.keep KR.out (by decide))
    have EV := Lib.hid (EV.out.keep KR.out (by decide))
    have EB := Lib.hid (EB.out.trans (e3.mono hgR))
    clear hK K e1 e2 e3 e4 KR BR BP
    refine AnyTill.one (i := 10) (by kernel_rfl) rfl (by rfl) (fun K hK => ?_)
    refine wp_of_list rfl (wpList_store_to rfl 57 _ _ rfl gP (rpc Y.2.1 (.slice Ax nx cx)) (rpc rp0 (.slice none 0 0)) 57 rfl rfl P8.out szRpT rfl (rpc_allM _ _ _ _) ?_)
    intro w9 e1 e2 e3 e4
    refine hK.out _ _ (.inr trivial) ?_
    have KP := Lib.hid (Keep.store (T := fun e => e = 57) (b := w2.heap.size) P8.out rfl hgP e2 e4)
    have R9 := Lib.hid (R8.out.keepT KP.out (by decide))
    have P9 := Lib.hid e1
    have OM := Lib.hid (OM.out.storeP (fun x hx => (HYR.out.fine x hx).2.2) P8.out hgP e2 e4 e1 rfl)
    have RM := Lib.hid OM.out.rd
    have ON := Lib.hid (ON.out.keep KP.out (by decide))
    have EV := Lib.hid (EV.out.keep KP.out (by decide))
    have EB := Lib.hid (EB.out.trans (e3.mono hgP))
    clear hK K e1 e2 e3 e4 KP R8 P8
    refine AnyTill.one (i := 11) (by kernel_rfl) rfl (by rfl) (fun K hK => ?_)
    go_simp
    refine hK.out _ _ (.inr trivial) ?_
    clear hK K
    refine AnyTill.done (by kernel_rfl) ?_
    refine NoPanic.normal ?_
    try dsimp only
    have hsz := EB.out.size
    have O9 := Lib.hid (O2.out.below EB.out O2.out.lt)
    have hR0 : B ≤ w2.heap.size := Nat.le_of_lt O2.out.lt
    have B9 := Lib.hid (B2.out.trans (EB.out.mono hR0))
    have hs9 : B ≤ w9.heap.size := Nat.le_trans hR0 hsz
    clear EB hsz O2 B2 EV ON
    obtain ⟨v6, hv6⟩ : ∃ q, xx 6 = q := ⟨_, rfl⟩
    obtain ⟨v3, hv3⟩ : ∃ q, xx 3 = q := ⟨_, rfl⟩
    obtain ⟨v0, hv0⟩ : ∃ q, xx 0 = q := ⟨_, rfl⟩
    obtain ⟨v1, hv1⟩ : ∃ q, xx 1 = q := ⟨_, rfl⟩
    obtain ⟨v2, hv2⟩ : ∃ q, xx 2 = q := ⟨_, rfl⟩
    rw [hv6, hv3, hv0, hv1, hv2]
    clear hv6 hv3 hv0 hv1 hv2
    obtain ⟨Z, hZ⟩ : ∃ q, applyR Y.1 oA = q := ⟨_, rfl⟩
    have HZE : Hid (pE Z.2.1 = 0) := by rw [← hZ, ← HY.out]; exact Lib.hid alive_1.2.2.1
    have HZY : Hid (Z.1 = Y.1) := by rw [← hZ, ← HY.out]; exact Lib.hid alive_2
    have HYE : Hid (pE Y.2.1 = 0) := by rw [← HY.out]; exact Lib.hid alive_1.1
    have HYl : Hid ((mN Y.1).length = 2) := by rw [← HY.out]; exact Lib.hid alive_1.2.1
    have HLS : Hid ((lastR (mL Y.1) 1).2 = true) := by rw [← HY.out]; exact Lib.hid alive_1.2.2.2.1
    have HLQ : Hid (pQ (lastR (mL Y.1) 1).1 = 1) := by rw [← HY.out]; exact Lib.hid alive_1.2.2.2.2
    have HZ := Lib.hid hZ
    clear hZ
    go_wp2_with (first | refine wpList_load_part rfl 33 _ rfl gR 0 RC RC 33 rfl R9.out (by simp) huR hdR (by rw [HRL.out]; exact szRmP) ?_ | refine wpList_load_part rfl 35 _ rfl B 0 (orc oA) (orc oA) 35 rfl O9.out rfl huO hdO szOrT ?_)
    refine calls_args (args2 := #[.agg (rmc (mT Y.1) (.slice AP nP cP) (.slice AR nR cR) (.slice AT nT cT) (.slice AQ nQ cQ)).toArray, .agg (orc oA).toArray]) (by rw [HRC.out]) ?_
    refine (rmApply_any Y.1 oA _ _ _ _ w9 RM.out HYR.out HYN.out (by unfold fitI; decide)).mono ?_
    rintro e wa ⟨uN, uS, uW, uL, nv, vM, rfl, ho, hn, he, hb⟩
    rw [HZ.out] at ho hn he ⊢
    obtain ⟨Ba, ca, hu1⟩ := ho.n.shape
    obtain ⟨Bb, cb, hu2⟩ := ho.s.shape
    obtain ⟨Bc, cc, hu3⟩ := ho.t.shape
    obtain ⟨Bd, cd, hu4, -, -⟩ := ho.l.rd.shape
    obtain ⟨Bx, cx2, hu5⟩ := hn.shape
    obtain ⟨ma, hm1⟩ : ∃ q, (mN Z.1).length = q := ⟨_, rfl⟩
    obtain ⟨mb, hm2⟩ : ∃ q, (mS Z.1).length = q := ⟨_, rfl⟩
    obtain ⟨mc, hm3⟩ : ∃ q, (mW Z.1).length = q := ⟨_, rfl⟩
    obtain ⟨md, hm4⟩ : ∃ q, (mL Z.1).length = q := ⟨_, rfl⟩
    obtain ⟨mx, hm5⟩ : ∃ q, (pN Z.2.1).length = q := ⟨_, rfl⟩
    rw [hm1] at hu1
    rw [hm2] at hu2
    rw [hm3] at hu3
    rw [hm4] at hu4
    rw [hm5] at hu5
    subst hu1 hu2 hu3 hu4 hu5
    clear hm1 hm2 hm3 hm4 hm5
    obtain ⟨RD, hRD⟩ : ∃ q : List Value, rmc (mT Z.1) (.slice Ba ma ca) (.slice Bb mb cb) (.slice Bc mc cc) (.slice Bd md cd) = q := ⟨_, rfl⟩
    have hDA : RD.toArray.all (·.oneCell') = true := by rw [← hRD]; exact rmc_all _ _ _ _ _ _ _ _ _ _ _ _ _
    have hDL : RD.length = 5 := by rw [← hRD]; rfl
    have HRD := Lib.hid hRD
    have HDL := Lib.hid hDL
    rw [hRD]
    clear hRD hDL
    have RMa := Lib.hid (RM.out.belowM hb)
    have RMz := Lib.hid ho.rd
    have R9a := Lib.hid (R9.out.below hb R9.out.lt)
    have P9a := Lib.hid (P9.out.below hb P9.out.lt)
    have Ba := Lib.hid (B9.out.trans (hb.mono hs9))
    have hsa : B ≤ wa.heap.size := Nat.le_trans hs9 hb.size
    clear ho hn he hb RM R9 P9 B9 O9
    go_wp2_with (refine wpList_alloc_blk rfl 33 rfl (rmc 0 (.slice none 0 0) (.slice none 0 0) (.slice none 0 0) (.slice none 0 0)) zeroRmP ?_)
    intro wb a1 a2 a3
    go_wp2_with (refine wpList_alloc_blk rfl 57 rfl (rpc rp0 (.slice none 0 0)) zeroRpT ?_)
    intro wc d1 d2 d3
    obtain ⟨gA, hgA⟩ : ∃ g, wa.heap.size = g := ⟨_, rfl⟩
    obtain ⟨gQ, hgQ⟩ : ∃ g, wa.heap.size + 1 = g := ⟨_, rfl⟩
    have hAQ : gA ≠ gQ := by omega
    have hBA : B ≤ gA := by omega
    have A1 := Lib.hid (a1.below d3 (by omega))
    have Q1 := Lib.hid d1
    have B7 := Lib.hid (a3.trans (d3.mono (by omega)))
    rw [hgQ] at Q1 ⊢
    rw [hgA] at A1 B7 ⊢
    have HGA := Lib.hid hgA
    have hQA : gA ≤ gQ := by omega
    clear a1 a2 a3 d1 d2 d3 hgA hgQ
    go_wp2_with (refine wpList_store_to rfl 33 _ _ rfl gA RD (rmc 0 (.slice none 0 0) (.slice none 0 0) (.slice none 0 0) (.slice none 0 0)) 33 rfl rfl A1.out (by rw [HDL.out]; exact szRmP) (by rw [HDL.out]; rfl) hDA ?_)
    intro wd e1 e2 e3 e4
    have A2 := Lib.hid e1
    have Q2 := Lib.hid (Q1.out.same (e4 gQ hAQ.symm))
    have B8 := Lib.hid (B7.out.trans e3)
    clear e1 e2 e3 e4 A1 Q1 B7
    go_wp2_with (refine wpList_store_to rfl 57 _ _ rfl gQ (rpc Z.2.1 (.slice Bx mx cx2)) (rpc rp0 (.slice none 0 0)) 57 rfl rfl Q2.out szRpT rfl (rpc_allM _ _ _ _) ?_)
    intro we e1 e2 e3 e4
    have Q3 := Lib.hid e1
    have A3 := Lib.hid (A2.out.same (e4 gA hAQ))
    have B9 : Hid (Below wa.heap.size wa we) := Lib.hid (by rw [HGA.out]; exact B8.out.trans (e3.mono hQA))
    have RMe := Lib.hid (RMa.out.belowM B9.out)
    have RMy := Lib.hid (RMz.out.belowM B9.out)
    have R9e := Lib.hid (R9a.out.below B9.out R9a.out.lt)
    have P9e := Lib.hid (P9a.out.below B9.out P9a.out.lt)
    have Be := Lib.hid (Ba.out.trans (B9.out.mono hsa))
    have hse : B ≤ we.heap.size := Nat.le_trans hsa B9.out.size
    clear e1 e2 e3 e4 A2 Q2 B8 B9 RMa RMz R9a P9a Ba hsa
    go_wp2_with (first | refine wpList_load_part rfl 33 _ rfl gA 0 RD RD 33 rfl A3.out (by simp) huR hdR (by rw [HDL.out]; exact szRmP) ?_ | fail)
    refine calls_args (args2 := #[.agg (rmc (mT Z.1) (.slice Ba ma ca) (.slice Bb mb cb) (.slice Bc mc cc) (.slice Bd md cd)).toArray, .int .i64 1]) (by rw [HRD.out]) ?_
    refine (rmLast_any Z.1 1 _ _ _ _ we RMy.out (by rw [HZY.out]; exact Nat.le_trans HYR.out.few (by decide)) (by rw [HZY.out]; exact HYN.out) (by rw [HZY.out]; exact HYR.out.asc)).mono ?_
    rintro e wf ⟨nu, rfl, hn, hb⟩
    rw [HZY.out] at hn ⊢
    obtain ⟨Cx, dx, hnu, -, -⟩ := hn.shape
    obtain ⟨kx, hkx⟩ : ∃ q, (pN (lastR (mL Y.1) 1).1).length = q := ⟨_, rfl⟩
    rw [hkx] at hnu
    subst hnu
    rw [HLS.out]
    obtain ⟨X, hX⟩ : ∃ q, (lastR (mL Y.1) 1).1 = q := ⟨_, rfl⟩
    have HXQ : Hid (pQ X = 1) := by rw [← hX]; exact HLQ
    rw [hX]
    have RMf := Lib.hid (RMe.out.belowM hb)
    have RMg := Lib.hid (RMy.out.belowM hb)
    have R9f := Lib.hid (R9e.out.below hb R9e.out.lt)
    have P9f := Lib.hid (P9e.out.below hb P9e.out.lt)
    have A3f := Lib.hid (A3.out.below hb A3.out.lt)
    have Q3f := Lib.hid (Q3.out.below hb Q3.out.lt)
    have Bf := Lib.hid (Be.out.trans (hb.mono hse))
    have hsf : B ≤ wf.heap.size := Nat.le_trans hse hb.size
    clear hX hkx hn hb RMe RMy R9e P9e A3 Q3 Be hse
    go_wp2_with (refine wpList_alloc_blk rfl 57 rfl (rpc rp0 (.slice none 0 0)) zeroRpT ?_)
    intro wg a1 a2 a3
    obtain ⟨gX, hgX⟩ : ∃ g, wf.heap.size = g := ⟨_, rfl⟩
    have X1 := Lib.hid a1
    have B7 := Lib.hid a3
    rw [hgX] at X1 B7 ⊢
    have HGX := Lib.hid hgX
    clear a1 a2 a3 hgX
    go_wp2_with (refine wpList_store_to rfl 57 _ _ rfl gX (rpc X (.slice Cx kx dx)) (rpc rp0 (.slice none 0 0)) 57 rfl rfl X1.out szRpT rfl (rpc_allM _ _ _ _) ?_)
    intro wh e1 e2 e3 e4
    have X3 := Lib.hid e1
    have B9 : Hid (Below wf.heap.size wf wh) := Lib.hid (by rw [HGX.out]; exact B7.out.trans e3)
    have RMh := Lib.hid (RMf.out.belowM B9.out)
    have RMi := Lib.hid (RMg.out.belowM B9.out)
    have R9h := Lib.hid (R9f.out.below B9.out R9f.out.lt)
    have P9h := Lib.hid (P9f.out.below B9.out P9f.out.lt)
    have A3h := Lib.hid (A3f.out.below B9.out A3f.out.lt)
    have Q3h := Lib.hid (Q3f.out.below B9.out Q3f.out.lt)
    have Bh := Lib.hid (Bf.out.trans (B9.out.mono hsf))
    have hsh : B ≤ wh.heap.size := Nat.le_trans hsf B9.out.size
    clear e1 e2 e3 e4 X1 B7 B9 RMf RMg R9f P9f A3f Q3f Bf hsf HGX
    have z1 : wh.cell? ⟨gP, 2, none⟩ = some (.int .i64 0) := (P9h.out.cell 2).trans (by rw [← HYE.out]; rfl)
    have z2 : wh.cell? ⟨gQ, 2, none⟩ = some (.int .i64 0) := (Q3h.out.cell 2).trans (by rw [← HZE.out]; rfl)
    have z3 : wh.cell? ⟨gR, 0, none⟩ = some (.slice AP nP cP) := (R9h.out.cell 0).trans (by rw [← HRC.out]; rfl)
    have z4 : wh.cell? ⟨gX, 1, none⟩ = some (.int .i64 1) := (X3.out.cell 1).trans (by rw [← HXQ.out]; rfl)
    obtain rfl : nP = 2 := by rw [← HNs.out]; exact HYl.out
    go_wp2_with (first | refine wpList_load_partG (by rfl) 33 _ rfl gR 0 RC RC 33 rfl R9h.out (by simp) huR hdR (by rw [HRL.out]; exact szRmP) ?_ | refine wpList_load_partG (by rfl) 33 _ rfl gA 0 RD RD 33 rfl A3h.out (by simp) huR hdR (by rw [HDL.out]; exact szRmP) ?_ | fail)
    refine calls_args (args2 := #[.agg (rmc (mT Y.1) (.slice AP 2 cP) (.slice AR nR cR) (.slice AT nT cT) (.slice AQ nQ cQ)).toArray, .agg (rmc (mT Y.1) (.slice Ba ma ca) (.slice Bb mb cb) (.slice Bc mc cc) (.slice Bd md cd)).toArray]) (by rw [HRC.out, ← HZY.out, HRD.out]) ?_
    refine (rmSame_yes Y.1 _ _ _ _ _ _ _ _ wh RMh.out (by have h := RMi.out; rw [HZY.out] at h; exact h) HYR.out HYN.out).mono ?_
    rintro e wi ⟨rfl, hb⟩
    have z4 : wi.cell? ⟨gX, 1, none⟩ = some (.int .i64 1) := ((X3.out.below hb X3.out.lt).cell 1).trans (by rw [← HXQ.out]; rfl)
    have Bi := Lib.hid (Bh.out.trans (hb.mono hsh))
    clear hb z1 z2 z3
    go_wp2
    go_ret
    exact ⟨rfl, by rw [HBB.out]; exact Bi.out⟩
end Go.Proofs.YtdihngkdhanhkaaGreatDoor
namespace Go.Proofs.YtdihngkdhanhkaaGreatDoor
open Go.RowKit

/-- Whether orders are short: if so, they are at most 30. -/
def ShortO (l : List Or) (w : World) (e : Ending) (w' : World) : Prop := ∃ b, e = .returned (.bool b) ∧ (b = true → l.length ≤ 30) ∧ Below w.heap.size w w'
set_option maxRecDepth 100000 in
set_option maxHeartbeats 4000000 in
theorem short13 (l : List Or) (v : Value) (w : World) (hr : RdE OrK w.heap.size w v l) : Calls Tryz.prog 10 #[v] w (ShortO l w) := by
  obtain ⟨A, cp, rfl, hc, hm⟩ := hr.shape
  unfold maxLen at hm
  obtain ⟨n, hn⟩ : ∃ n, l.length = n := ⟨_, rfl⟩
  have HN := Lib.hid hn
  have HR := Lib.hid hr
  rw [hn] at hc HR ⊢
  clear hr hn
  go_enter Tryz.func10, Tryz.ntmps10
  have HR1 := HR
  have HB := Lib.hid (Below.refl w.heap.size w)
  go_wp2
  go_loop [3] (fun x => ∃ i : Nat, i ≤ n ∧ x = .int .i64 (i : Int) ∧ i ≤ 30) (fun x => n - (intOf x).toNat)
  case atStart => exact ⟨0, by omega, rfl, by omega⟩
  case round =>
    obtain ⟨i, hi, rfl, hib⟩ := hrel
    by_cases hi2 : i < n
    · have zi : (i : Int) < (n : Int) := by omega
      by_cases hz : i = 30
      · have hzz : ((i : Int) == 30) = true := int_eqE _ _ (by omega)
        subst hz
        go_wp2
        go_ret
        exact ⟨_, rfl, fun h => by simp at h, HB.out⟩
      have hzz : ((i : Int) == 30) = false := int_neE _ _ (by omega)
      obtain ⟨a, hA, c0, c1, c2, c3, c4, c5, c6, c7⟩ := HR1.out.atOr i (by rw [HN.out]; exact hi2)
      subst hA
      obtain ⟨x, hx⟩ : ∃ x, l.getD i or0 = x := ⟨_, rfl⟩
      rw [hx] at c0 c1 c2 c3 c4 c5 c6 c7
      obtain ⟨k, hk⟩ : ∃ k, (oP x).length = k := ⟨_, rfl⟩
      obtain ⟨m, hm3⟩ : ∃ k, (oV x).length = k := ⟨_, rfl⟩
      have hkz : (⟨(oP x).toArray⟩ : ByteArray).size = k := hk
      have hmz : (⟨(oV x).toArray⟩ : ByteArray).size = m := hm3
      clear hk hm3 hx
      by_cases hlong : (200 : Int) < (k : Int)
      · go_wp2
        go_ret
        exact ⟨_, rfl, fun h => by simp at h, HB.out⟩
      by_cases hlong2 : (1100 : Int) < (m : Int)
      · go_wp2
        go_ret
        exact ⟨_, rfl, fun h => by simp at h, HB.out⟩
      go_wp2
      go_round
      case rel => exact ⟨i + 1, by omega, by go_num, by omega⟩
      case measure => simp [intOf]; omega
    · obtain rfl : i = n := by omega
      have zi : ¬ (i : Int) < (i : Int) := by omega
      have hn30 : Hid (l.length ≤ 30) := Lib.hid (by rw [HN.out]; exact hib)
      go_wp2
      go_ret
      exact ⟨_, rfl, fun _ => hn30.out, HB.out⟩
end Go.Proofs.YtdihngkdhanhkaaGreatDoor
namespace Go.Proofs.YtdihngkdhanhkaaGreatDoor

/-- An order that asks for a watch. -/
def AskO (o : Or) (w : Wa) : Prop := oC o = wC w ∧ oP o = wP w ∧ decide (oK o = 11) = wK w ∧ (oK o = 10 ∨ oK o = 11)
/-- Each watch was asked for. -/
def WatR (l : List Or) (r : Rm) : Prop := ∀ w ∈ mW r, ∃ o ∈ l, AskO o w
theorem fault_zero {f : Nat} {c : Ch} (h : (if f = 0 then [c] else []) ≠ []) : ((f : Nat) : Int) = 0 := by
  split at h
  · rename_i he
    rw [he]
    rfl
  · exact absurd rfl h
theorem done_w (r : Rm) (o : Or) : (mW (doneR r o).1 = mW r ∧ ((doneR r o).2.2 ≠ [] → pE (doneR r o).2.1 = 0)) ∨
    ((doneR r o).2.2 = [] ∧ (oK o = 10 ∨ oK o = 11) ∧ mW (doneR r o).1 = addW (mW r) (oP o, oC o, decide (oK o = 11))) := by
  have key : ∀ x, doneR r o = x → (mW x.1 = mW r ∧ (x.2.2 ≠ [] → pE x.2.1 = 0)) ∨ (x.2.2 = [] ∧ (oK o = 10 ∨ oK o = 11) ∧ mW x.1 = addW (mW r) (oP o, oC o, decide (oK o = 11))) := by
    intro x hx
    unfold doneR at hx
    by_cases k : oK o = 1
    · rw [if_pos k] at hx
      by_cases k2 : noLease r o = true
      · rw [if_pos k2] at hx
        subst hx
        exact .inl ⟨rfl, fun h => absurd rfl h⟩
      · rw [if_neg k2] at hx
        subst hx
        exact .inl ⟨rfl, fault_zero⟩
    rw [if_neg k] at hx
    clear k
    by_cases k : oK o = 2
    · rw [if_pos k] at hx
      subst hx
      exact .inl ⟨rfl, fun h => absurd rfl h⟩
    rw [if_neg k] at hx
    clear k
    by_cases k : oK o = 3
    · rw [if_pos k] at hx
      subst hx
      exact .inl ⟨rfl, fault_zero⟩
    rw [if_neg k] at hx
    clear k
    by_cases k : oK o = 4
    · rw [if_pos k] at hx
      subst hx
      exact .inl ⟨rfl, fault_zero⟩
    rw [if_neg k] at hx
    clear k
    by_cases k : oK o = 5
    · rw [if_pos k] at hx
      subst hx
      exact .inl ⟨rfl, fun h => absurd rfl h⟩
    rw [if_neg k] at hx
    clear k
    by_cases k : oK o = 6
    · rw [if_pos k] at hx
      subst hx
      exact .inl ⟨rfl, fun h => absurd rfl h⟩
    rw [if_neg k] at hx
    clear k
    by_cases k : oK o = 7
    · rw [if_pos k] at hx
      subst hx
      exact .inl ⟨rfl, fun h => absurd rfl h⟩
    rw [if_neg k] at hx
    clear k
    by_cases k : oK o = 8
    · rw [if_pos k] at hx
      by_cases k2 : leaseE (mS r) (oS o) = 0
      · rw [if_pos k2] at hx
        subst hx
        exact .inl ⟨rfl, fun _ => rfl⟩
      · rw [if_neg k2] at hx
        subst hx
        exact .inl ⟨rfl, fun h => absurd rfl h⟩
    rw [if_neg k] at hx
    clear k
    by_cases k : oK o = 9
    · rw [if_pos k] at hx
      by_cases k2 : tickE (mT r) (oT o) = 0
      · rw [if_pos k2] at hx
        subst hx
        exact .inl ⟨rfl, fun _ => rfl⟩
      · rw [if_neg k2] at hx
        subst hx
        exact .inl ⟨rfl, fun h => absurd rfl h⟩
    rw [if_neg k] at hx
    clear k
    by_cases k : oK o = 10 ∨ oK o = 11
    · rw [if_pos k] at hx
      subst hx
      exact .inr ⟨rfl, k, rfl⟩
    rw [if_neg k] at hx
    clear k
    subst hx
    exact .inl ⟨rfl, fun h => absurd rfl h⟩
  exact key _ rfl
theorem addW_or (l : List Wa) (w : Wa) : addW l w = l ∨ addW l w = l ++ [w] := by
  unfold addW
  split
  · exact .inr rfl
  · exact .inl rfl
theorem fireW_touch : ∀ (l : List Wa) (cs : List Ch) (e : Ev), e ∈ fireW l cs → touchB e.2 e.1 = true
  | _, [], _, h => by cases h
  | l, c :: r, e, h => by
    unfold fireW at h
    rcases List.mem_append.1 h with h | h
    · obtain ⟨_, h2, h3⟩ := (toldW_mem _ _ _).1 h
      rw [h3]
      exact h2
    · exact fireW_touch _ r e h
/-- Who is told had asked; the reply is no error; nobody is told twice. -/
theorem told_apply (r : Rm) (o : Or) : (∀ e ∈ (applyR r o).2.2, e.1 ∈ mW r ∧ touchB e.2 e.1 = true ∧ pE (applyR r o).2.1 = 0) ∧
    ((mW (applyR r o).1).length + (applyR r o).2.2.length = (mW r).length ∨ ((applyR r o).2.2 = [] ∧ (mW (applyR r o).1).length = (mW r).length + 1)) := by
  unfold applyR
  split
  · exact ⟨fun e h => (by cases h), .inl rfl⟩
  split
  · exact ⟨fun e h => (by cases h), .inl rfl⟩
  split
  · exact ⟨fun e h => (by cases h), .inl rfl⟩
  split
  · exact ⟨fun e h => (by cases h), .inl rfl⟩
  show (∀ e ∈ fireW (mW (doneR r o).1) (doneR r o).2.2, e.1 ∈ mW r ∧ touchB e.2 e.1 = true ∧ pE (doneR r o).2.1 = 0) ∧
    ((leftW (mW (doneR r o).1) (doneR r o).2.2).length + (fireW (mW (doneR r o).1) (doneR r o).2.2).length = (mW r).length ∨ (fireW (mW (doneR r o).1) (doneR r o).2.2 = [] ∧ (leftW (mW (doneR r o).1) (doneR r o).2.2).length = (mW r).length + 1))
  rcases done_w r o with ⟨h1, h2⟩ | ⟨h1, _, h3⟩
  · rw [h1]
    refine ⟨fun e he => ⟨fireW_memW _ _ _ he, fireW_touch _ _ _ he, h2 fun hn => ?_⟩, .inl (fire_len _ _)⟩
    rw [hn] at he
    cases he
  · rw [h1, h3]
    refine ⟨fun e he => (by cases he), ?_⟩
    show (addW _ _).length + 0 = _ ∨ ([] = [] ∧ (addW _ _).length = _)
    rcases addW_or (mW r) (oP o, oC o, decide (oK o = 11)) with h | h
    · rw [h]
      exact .inl rfl
    · rw [h]
      exact .inr ⟨rfl, by simp⟩
theorem wat_more {l : List Or} {r : Rm} (h : WatR l r) (o : Or) : WatR (l ++ [o]) r := fun w hw => by
  obtain ⟨x, h1, h2⟩ := h w hw
  exact ⟨x, List.mem_append_left _ h1, h2⟩
theorem wat_apply (l : List Or) (r : Rm) (o : Or) (h : WatR l r) : WatR (l ++ [o]) (applyR r o).1 := by
  unfold applyR
  split
  · exact wat_more h o
  split
  · exact wat_more h o
  split
  · exact wat_more h o
  split
  · exact wat_more h o
  intro w hw
  have hw1 : w ∈ mW (doneR r o).1 := ((leftW_mem _ _ _).1 hw).1
  rcases done_w r o with ⟨h1, _⟩ | ⟨_, h2, h3⟩
  · rw [h1] at hw1
    exact wat_more h o w hw1
  · rw [h3] at hw1
    rcases addW_or (mW r) (oP o, oC o, decide (oK o = 11)) with h4 | h4
    · rw [h4] at hw1
      exact wat_more h o w hw1
    · rw [h4] at hw1
      rcases List.mem_append.1 hw1 with hw1 | hw1
      · exact wat_more h o w hw1
      · obtain rfl := List.mem_singleton.1 hw1
        exact ⟨o, by simp, rfl, rfl, rfl, h2⟩
theorem wat_fold : ∀ (b a : List Or) (r : Rm), WatR a r → WatR (a ++ b) (foldR r b).1
  | [], a, r, h => by
    rw [List.append_nil]
    exact h
  | o :: b, a, r, h => by
    have := wat_fold b (a ++ [o]) _ (wat_apply a r o h)
    rw [List.append_assoc] at this
    exact this
def askBR (o : Or) (w : Wa) : Bool := decide (oC o = wC w) && (decide (oP o = wP w) && ((decide (oK o = 11) == wK w) && (decide (oK o = 10) || decide (oK o = 11))))
def askedB (l : List Or) (w : Wa) : Bool := l.any fun o => askBR o w
theorem asked_of {l : List Or} {r : Rm} (h : WatR l r) (w : Wa) (hw : w ∈ mW r) : askedB l w = true := by
  obtain ⟨o, h1, h2, h3, h4, h5⟩ := h w hw
  refine List.any_eq_true.2 ⟨o, h1, ?_⟩
  unfold askBR
  rw [decide_eq_true h2, decide_eq_true h3]
  rcases h5 with h5 | h5
  · rw [decide_eq_true h5, ← h4]
    simp
  · rw [decide_eq_true h5] at h4 ⊢
    rw [← h4]
    simp
theorem asked_snoc (l : List Or) (w : Wa) (i : Nat) (hi : i < l.length) : askedB (l.take (i + 1)) w = (askedB (l.take i) w || askBR (l.getD i or0) w) := by
  have e : l.take (i + 1) = l.take i ++ [l.getD i or0] := by
    rw [List.take_add_one, List.getD_eq_getElem?_getD, List.getElem?_eq_getElem hi]
    rfl
  unfold askedB
  rw [e, List.any_append]
  simp
theorem hasW_snoc (l : List Wa) (w : Wa) (i : Nat) (hi : i < l.length) : hasW (l.take (i + 1)) w = (hasW (l.take i) w || decide (l.getD i wa0 = w)) := by
  rw [take_snocW l wa0 i hi]
  unfold hasW
  rw [List.any_append]
  simp
theorem wat_rm0 : WatR [] rm0 := fun w hw => by cases hw
end Go.Proofs.YtdihngkdhanhkaaGreatDoor
