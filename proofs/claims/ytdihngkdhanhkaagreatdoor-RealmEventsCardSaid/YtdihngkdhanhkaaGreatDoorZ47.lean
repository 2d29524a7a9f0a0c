/-
  Texts KS.
-/
import Derived.Test.YtdihngkdhanhkaaGreatDoorZ28
import Derived.Test.YtdihngkdhanhkaaGreatDoorZ46
namespace Go.Proofs.YtdihngkdhanhkaaGreatDoor
open Go.RowKit

theorem run_loadop_rowS {P : Program} {w : World} {o : Oper} {a : Act} (ty : TypeId) (x : Operand) (ho : o.op = .load ty x) (ad : Addr) (hx : a.eval x = .pointer (some ad)) (cs : List Value) (hc : ∀ j v, cs[j]? = some v → w.cell? (ad.add j) = some v) (d : TypeDesc) (hu : P.underlying ty = some d) (hd : d.isRow = true) (hi : (P.info? ty).map (·.size) = some cs.length) : (execOp a.eval o).run P w = .ok (.value (.agg cs.toArray)) w := by
  unfold execOp
  simp only [ho, hx, Instr.loadAt, Instr.sureAddr, Sem.run_bind, Sem.run_pure, Result.andThen_ok, run_load_rowE ty ad cs hc d hu hd hi]
theorem ev_chg (e : Ev) (j : Nat) (v : Value) (h : (chc e.2)[j]? = some v) : (evc e)[3 + j]? = some v := by
  rw [Nat.add_comm]
  exact h
theorem ev_wat (e : Ev) (j : Nat) (v : Value) (h : (wac e.1)[j]? = some v) : (evc e)[j]? = some v := by
  match j, h with
  | 0, h => exact h
  | 1, h => exact h
  | 2, h => exact h
  | n + 3, h => simp [wac] at h
theorem add3S (a : Addr) (j : Nat) : (⟨a.block, a.off + 3, none⟩ : Addr).add j = a.add (3 + j) := by
  unfold Addr.add
  split <;> split <;> simp_all [Nat.add_assoc] <;> omega
set_option maxRecDepth 100000 in
set_option maxHeartbeats 16000000 in
theorem events13_all (v : Value) (l : List Or) (w : World) (hr : RdE OrK w.heap.size w v l) (hfi : ∀ o ∈ l, fitI (oS o)) : Calls Tryz.prog 8 #[v] w (One (.bool true) w) := by
  obtain ⟨A, c, hv, hc, hm⟩ := hr.shape
  unfold maxLen at hm
  obtain ⟨n, hnl⟩ : ∃ n, l.length = n := ⟨_, rfl⟩
  have HL := Lib.hid hnl
  rw [hnl] at hv hc
  subst hv
  have HO := Lib.hid hr
  have HI := Lib.hid hfi
  clear hr hfi hnl
  obtain ⟨dR, huR, hdR⟩ := rowRmP
  obtain ⟨dO, huO, hdO⟩ := rowOrT
  go_enter Tryz.func8, Tryz.ntmps8
  go_wp2_with fail
  refine (short13 l (.slice A n c) w HO.out).mono ?_
  rintro e w1 ⟨sb, rfl, hsb, hb⟩
  have B1 := Lib.hid hb
  have HSB := Lib.hid hsb
  clear hb hsb
  cases sb with
  | false =>
    go_wp2_with fail
    refine (alive13 w1).mono ?_
    rintro e w2 ⟨rfl, hb⟩
    have B2 := Lib.hid (B1.out.trans (hb.mono B1.out.size))
    clear hb
    go_wp2
    go_ret
    exact ⟨rfl, B2.out⟩
  | true =>
    have hn30 : n ≤ 30 := by rw [← HL.out]; exact HSB.out rfl
    go_wp2_with fail
    refine (rmNew_any w1).mono ?_
    rintro e w2 ⟨vN, vS, vW, vL, rfl, hrd, hb⟩
    obtain ⟨AP, cP, hv1, -, -⟩ := hrd.n.shape
    obtain ⟨AR, cR, hv2, -, -⟩ := hrd.s.shape
    obtain ⟨AT, cT, hv3, -, -⟩ := hrd.t.shape
    obtain ⟨AQ, cQ, hv4, -, -⟩ := hrd.l.shape
    obtain ⟨nP, hn1⟩ : ∃ q, (mN rm0).length = q := ⟨_, rfl⟩
    obtain ⟨nR, hn2⟩ : ∃ q, (mS rm0).length = q := ⟨_, rfl⟩
    obtain ⟨nT, hn3⟩ : ∃ q, (mW rm0).length = q := ⟨_, rfl⟩
    obtain ⟨nQ, hn4⟩ : ∃ q, (mL rm0).length = q := ⟨_, rfl⟩
    rw [hn1] at hv1
    rw [hn2] at hv2
    rw [hn3] at hv3
    rw [hn4] at hv4
    subst hv1 hv2 hv3 hv4
    have RM := Lib.hid hrd
    have B2 := Lib.hid (B1.out.trans (hb.mono B1.out.size))
    clear hrd hb hn1 hn2 hn3 hn4
    have hs2 := B2.out.size
    go_wp2_with (refine wpList_alloc_blk rfl 33 rfl (rmc 0 (.slice none 0 0) (.slice none 0 0) (.slice none 0 0) (.slice none 0 0)) zeroRmP ?_)
    intro w3 a1 a2 a3
    obtain ⟨g3, hg3⟩ : ∃ g, w2.heap.size = g := ⟨_, rfl⟩
    have A1 := Lib.hid a1
    have RM3 := Lib.hid (RM.out.belowM a3)
    have B3 := Lib.hid (B2.out.trans (a3.mono hs2))
    have hg3w : w.heap.size ≤ g3 := by omega
    have HBW := Lib.hid a3
    rw [hg3] at A1 HBW ⊢
    have HG3 := Lib.hid hg3
    clear a1 a2 a3 hg3 B2
    go_wp2_with (refine wpList_store_to rfl 33 _ _ rfl g3 (rmc (mT rm0) (.slice AP nP cP) (.slice AR nR cR) (.slice AT nT cT) (.slice AQ nQ cQ)) (rmc 0 (.slice none 0 0) (.slice none 0 0) (.slice none 0 0) (.slice none 0 0)) 33 rfl rfl A1.out szRmP rfl (rmc_all _ _ _ _ _ _ _ _ _ _ _ _ _) ?_)
    intro w4 e1 e2 e3 e4
    have X4 := Lib.hid e1
    have B4 := Lib.hid (B3.out.trans (e3.mono hg3w))
    have RM4 : Hid (RdRm w4.heap.size w4 (.slice AP nP cP) (.slice AR nR cR) (.slice AT nT cT) (.slice AQ nQ cQ) rm0) := by
      exact Lib.hid (RM.out.belowM (by rw [HG3.out]; exact HBW.out.trans e3))
    clear e1 e2 e3 e4 A1 B3 RM3 RM
    go_wp2
    go_loopw [4] (fun x wr => ∃ i : Nat, i ≤ n ∧ x = .int .i64 (i : Int) ∧ Hid (∃ vN vS vW vL, RdRm wr.heap.size wr vN vS vW vL (foldR rm0 (l.take i)).1 ∧ Blk wr g3 (rmc (mT (foldR rm0 (l.take i)).1) vN vS vW vL) 33) ∧ Hid (Below w.heap.size w wr)) (fun x _ => n - (intOf x).toNat)
    case atStart => exact ⟨0, Nat.zero_le _, rfl, Lib.hid ⟨_, _, _, _, by rw [List.take_zero]; exact RM4.out, by rw [List.take_zero]; exact X4.out⟩, B4⟩
    case round =>
      clear X4 B4 RM4
      obtain ⟨i, hi, rfl, HIV, HB⟩ := hrel
      obtain ⟨vN, vS, vW, vL, hF, hX⟩ := HIV.out
      obtain ⟨y, hy⟩ : ∃ q, (foldR rm0 (l.take i)).1 = q := ⟨_, rfl⟩
      rw [hy] at hF hX
      have HYR : Hid (RightR y) := by rw [← hy]; exact Lib.hid (right_fold _ rm0 right_rm0)
      have HYN : Hid (NamesR (mL y)) := by rw [← hy]; exact Lib.hid (names_fold _ rm0 right_rm0 (fun x h => by cases h))
      have HYO : Hid (WatR (l.take i) y) := by rw [← hy]; exact Lib.hid (wat_fold (l.take i) [] rm0 wat_rm0)
      obtain ⟨AZ, cZ, hvZ, -, -⟩ := hF.t.shape
      obtain ⟨nZ, hnZ⟩ : ∃ q, (mW y).length = q := ⟨_, rfl⟩
      rw [hnZ] at hvZ
      subst hvZ
      have HNZ := Lib.hid hnZ
      have F := Lib.hid hF
      have X3 := Lib.hid hX
      have HYq := Lib.hid hy
      clear hF hX hy HIV hnZ
      by_cases hi2 : i < n
      · have zi : (i : Int) < (n : Int) := by omega
        have hil : i < l.length := by rw [HL.out]; exact hi2
        have hws := HB.out.size
        have hOr := (HO.out.below HB.out).more hws
        obtain ⟨a, hA, -⟩ := hOr.cells i hil
        subst hA
        have hsn := fold_snoc rm0 l i hil
        have hmem : l.getD i or0 ∈ l := by
          rw [List.getD_eq_getElem?_getD, List.getElem?_eq_getElem hil]
          exact List.getElem_mem hil
        have hio := HI.out _ hmem
        rw [HYq.out] at hsn
        obtain ⟨o, ho⟩ : ∃ q, l.getD i or0 = q := ⟨_, rfl⟩
        have hnf : ∀ W, Below wr.heap.size wr W → ∀ j v, (orc o)[j]? = some v → W.cell? ((a.add (i * 8)).add j) = some v := by
          intro W hW j v hv
          refine (hOr.below hW).node i hil j v ?_
          show (orc (l.getD i or0))[j]? = some v
          rw [ho]
          exact hv
        rw [ho] at hio hsn
        have HNF := Lib.hid hnf
        have HIO := Lib.hid hio
        obtain ⟨Y, hY⟩ : ∃ q, applyR y o = q := ⟨_, rfl⟩
        have hsn2 := congrArg (fun q => q.1) hsn
        dsimp only at hsn2
        rw [hY] at hsn2
        have HSN := Lib.hid hsn2
        have HY := Lib.hid hY
        have HRY : Hid (RightR Y.1) := by rw [← hY]; exact Lib.hid (right_apply _ _ HYR.out)
        have HNY : Hid (NamesR (mL Y.1)) := by rw [← hY]; exact Lib.hid (names_apply _ _ HYR.out HYN.out).1
        have HTY := Lib.hid (told_apply y o)
        rw [hY] at HTY
        clear hY hsn hsn2 hnf hio hmem ho hOr hil
        go_wp2
        obtain ⟨v18, hv18⟩ : ∃ q : Value, .agg (rmc (mT rm0) (.slice AP nP cP) (.slice AR nR cR) (.slice AT nT cT) (.slice AQ nQ cQ)).toArray = q := ⟨_, rfl⟩
        have HV18 := Lib.hid hv18
        rw [hv18]
        clear hv18
        refine wp_region_relyF [8, 9] 12 3 (fun x => ⟨#[.slice (some a) n c, undef, u2, .pointer (some { block := g3, off := 0 }), .int IntKind.i64 ↑i, x 10, x 11, u7, u8, u9, u10, u11, u12, u13, .slice (some a) n c, .bool true, .bool false, undef, v18, .int IntKind.i64 ↑i, .slice (some a) n c, .int IntKind.i64 ↑n, .bool true, u23, u24, x 6, x 0, x 1, x 2, x 3, x 4, x 5, x 7, x 8, x 9, u35, u36, u37, u38, u39, u40, u41, u42, u43, u44, u45, u46, u47, u48, u49, u50, u51, u52, u53, u54, u55, u56, u57, u58, u59, u60, u61, u62, u63, u64, u65, u66, u67, u68, u69, u70, u71, u72, u73, u74, u75, u76, u77, u78, u79, u80, u81, u82, u83, u84, u85, u86, u87, u88, u89, u90, u91, u92, u93, u94, u95, u96, u97, u98, u99, u100, u101, u102, u103, u104, u105, u106, u107, u108, u109, u110, u111, u112, u113, u114, u115, u116, u117, u118, u119, u120, u121, u122, u123, u124, u125, u126, u127, u128, u129, u130, u131, u132, u133, u134, u135, u136, u137, u138, u139, u140, u141, u142, u143, u144, u145, u146, u147, u148, u149, u150, u151, u152, u153, u154, u155, u156, u157, u158, u159, u160, u161, u162, u163, u164, u165, u166, u167, u168, u169, u170, u171, u172, undef], []⟩) (fun jj => ([(eqV (.agg (rmc (mT y) vN vS (.slice AZ nZ cZ) vL).toArray)), (eqV (.slice (some a) n c)), (eqV (.int .i64 (i : Int))), (eqV (.pointer (some (a.add (i * 8))))), (eqV (.agg (orc o).toArray)), (AppV wr.heap.size Y), (AppV wr.heap.size Y), (RmV wr.heap.size Y.1), (RpO wr.heap.size Y.2.1), (fun v w => EvO wr.heap.size w v Y.2.2), (NewBx 33 (rmc 0 (.slice none 0 0) (.slice none 0 0) (.slice none 0 0) (.slice none 0 0)) wr.heap.size), (NewBx 57 (rpc rp0 (.slice none 0 0)) wr.heap.size)] : List (Value → World → Prop)).getD jj (fun _ _ => True)) rfl ⟨fun kk => [_, _, _, _, _, _, _, _, _, _, _, _].getD kk undef, rfl⟩ (by kernel_rfl) (lateF_of 2 (by decide) (by kernel_rfl)) (by kernel_rfl) ?pure ?steps ?fin
        case steps => as_aux_lemma =>
            refine StepsAt.val 0 (.agg (rmc (mT y) vN vS (.slice AZ nZ cZ) vL).toArray) rfl (fun _ _ => rfl) rfl rfl (fun x w1 hb hd => ?_) ?_
            · refine run_load_part 33 _ rfl g3 0 (rmc (mT y) vN vS (.slice AZ nZ cZ) vL) (rmc (mT y) vN vS (.slice AZ nZ cZ) vL) 33 rfl (X3.out.below hb X3.out.lt) rfl huR hdR szRmP
            refine StepsAt.val 1 (.slice (some a) n c) rfl (fun _ _ => rfl) rfl rfl (fun x w1 hb hd => ?_) ?_
            · first | (go_simp; done) | (go_simp; rfl)
            refine StepsAt.val 2 (.int .i64 (i : Int)) rfl (fun _ _ => rfl) rfl rfl (fun x w1 hb hd => ?_) ?_
            · first | (go_simp; done) | (go_simp; rfl)
            refine StepsAt.val 3 (.pointer (some (a.add (i * 8)))) rfl (fun _ _ => rfl) rfl rfl (fun x w1 hb hd => ?_) ?_
            · have h1 : x 1 = .slice (some a) n c := hd 1 (by kernel_rfl)
              have h2 : x 2 = .int .i64 (i : Int) := hd 2 (by kernel_rfl)
              rw [h1, h2]
              clear h1 h2
              first | (go_simp; done) | (go_simp; rfl)
            refine StepsAt.val 4 (.agg (orc o).toArray) rfl (fun _ _ => rfl) rfl rfl (fun x w1 hb hd => ?_) ?_
            · have h3 : x 3 = .pointer (some (a.add (i * 8))) := hd 3 (by kernel_rfl)
              refine run_loadop_rowS 35 _ rfl (a.add (i * 8)) ?_ (orc o) (HNF.out w1 hb) dO huO hdO szOrT
              rw [h3]
              rfl
            refine StepsAt.cons 5 (fun _ _ _ h hb => h.keep hb) (fun _ _ => rfl) rfl rfl (fun x w1 hb hd K hK => ?_) ?_
            · have h0 : x 0 = .agg (rmc (mT y) vN vS (.slice AZ nZ cZ) vL).toArray := hd 0 (by kernel_rfl)
              have h4 : x 4 = .agg (orc o).toArray := hd 4 (by kernel_rfl)
              have H0 := Lib.hid h0
              have H4 := Lib.hid h4
              clear h0 h4
              go_simp
              refine calls_args (args2 := #[.agg (rmc (mT y) vN vS (.slice AZ nZ cZ) vL).toArray, .agg (orc o).toArray]) (by rw [H0.out, H4.out]) ?_
              refine (rmApply_any y o vN vS (.slice AZ nZ cZ) vL w1 (F.out.belowM hb) HYR.out HYN.out HIO.out).mono ?_
              intro e w99 h99
              rw [HY.out] at h99
              obtain ⟨v, rfl, h2, hb99⟩ := h99.val (B := wr.heap.size) hb.size
              exact hK.out _ _ hb99 h2
            refine StepsAt.rel 6 (fun _ _ _ h hb => AppV.keep h hb) (fun _ _ => rfl) rfl rfl (fun x w1 hb hd => ?_) ?_
            · have h9 : AppV wr.heap.size Y (x 5) w1 := hd 5 (by kernel_rfl)
              refine ⟨x 5, ?_, h9⟩
              first | (go_simp; done) | (go_simp; rfl)
            refine StepsAt.rel 7 (fun _ _ _ h hb => RmV.keep h hb) (fun _ _ => rfl) rfl rfl (fun x w1 hb hd => ?_) ?_
            · obtain ⟨a, b, cc, hx, h1, h2, h3⟩ : AppV wr.heap.size Y (x 6) w1 := hd 6 (by kernel_rfl)
              refine ⟨a, ?_, h1⟩
              rw [hx]
              first | (go_simp; done) | (go_simp; rfl)
            refine StepsAt.rel 8 (fun _ _ _ h hb => RpO.keep h hb) (fun _ _ => rfl) rfl rfl (fun x w1 hb hd => ?_) ?_
            · obtain ⟨a, b, cc, hx, h1, h2, h3⟩ : AppV wr.heap.size Y (x 6) w1 := hd 6 (by kernel_rfl)
              refine ⟨b, ?_, h2⟩
              rw [hx]
              first | (go_simp; done) | (go_simp; rfl)
            refine StepsAt.rel 9 (fun _ _ _ h hb => EvO.below h hb) (fun _ _ => rfl) rfl rfl (fun x w1 hb hd => ?_) ?_
            · obtain ⟨a, b, cc, hx, h1, h2, h3⟩ : AppV wr.heap.size Y (x 6) w1 := hd 6 (by kernel_rfl)
              refine ⟨cc, ?_, h3⟩
              rw [hx]
              first | (go_simp; done) | (go_simp; rfl)
            refine StepsAt.cons 10 (fun _ _ _ h hb => NewBx.keep h hb) (fun _ _ => rfl) rfl rfl (fun x w1 hb hd K hK => ?_) ?_
            · refine wp_of_list rfl (wpList_alloc_blk rfl 33 rfl (rmc 0 (.slice none 0 0) (.slice none 0 0) (.slice none 0 0) (.slice none 0 0)) zeroRmP ?_)
              intro w8 a1 a2 a3
              exact hK.out _ _ a3 ⟨_, rfl, a1, hb.size⟩
            refine StepsAt.cons 11 (fun _ _ _ h hb => NewBx.keep h hb) (fun _ _ => rfl) rfl rfl (fun x w1 hb hd K hK => ?_) ?_
            · refine wp_of_list rfl (wpList_alloc_blk rfl 57 rfl (rpc rp0 (.slice none 0 0)) zeroRpT ?_)
              intro w8 a1 a2 a3
              exact hK.out _ _ a3 ⟨_, rfl, a1, hb.size⟩
            exact StepsAt.done
        case pure => as_aux_lemma =>
            intro p hp op ho xx w1 hd
            have key : AppV wr.heap.size Y (xx 6) w1 → p = 8 ∨ p = 9 := fun _ => by simpa using hp
            clear key
            rcases List.mem_cons.1 hp with rfl | hp
            · skip
              injection ho with ho
              subst ho
              obtain ⟨a, b, cc, hx, h1, h2, h3⟩ : AppV wr.heap.size Y (xx 6) w1 := hd 6 (by kernel_rfl)
              refine ⟨rfl, b, fun w' => ?_, h2⟩
              dsimp only
              rw [hx]
              first | (go_simp; done) | (go_simp; rfl)
            · obtain rfl := List.mem_singleton.1 hp
              injection ho with ho
              subst ho
              obtain ⟨a, b, cc, hx, h1, h2, h3⟩ : AppV wr.heap.size Y (xx 6) w1 := hd 6 (by kernel_rfl)
              refine ⟨rfl, cc, fun w' => ?_, h3⟩
              dsimp only
              rw [hx]
              first | (go_simp; done) | (go_simp; rfl)
        case fin =>
          intro xx w1 hb hd
          obtain ⟨zN, zS, zW, zL, hx0, hom⟩ : RmV wr.heap.size Y.1 (xx 7) w1 := hd 7 (by omega)
          obtain ⟨nv, hx1, hon⟩ : RpO wr.heap.size Y.2.1 (xx 8) w1 := hd 8 (by omega)
          have hev : EvO wr.heap.size w1 (xx 9) Y.2.2 := hd 9 (by omega)
          obtain ⟨gR, hxr, hbR, hgR⟩ : NewBx 33 (rmc 0 (.slice none 0 0) (.slice none 0 0) (.slice none 0 0) (.slice none 0 0)) wr.heap.size (xx 10) w1 := hd 10 (by omega)
          obtain ⟨gP, hxp, hbP, hgP⟩ : NewBx 57 (rpc rp0 (.slice none 0 0)) wr.heap.size (xx 11) w1 := hd 11 (by omega)
          obtain ⟨AP, cP, hv1⟩ := hom.n.shape
          obtain ⟨AR, cR, hv2⟩ := hom.s.shape
          obtain ⟨AT, cT, hv3⟩ := hom.t.shape
          obtain ⟨AQ, cQ, hv4, -, -⟩ := hom.l.rd.shape
          obtain ⟨Ax, cx, hv5⟩ := hon.shape
          obtain ⟨nP, hn1⟩ : ∃ q, (mN Y.1).length = q := ⟨_, rfl⟩
          obtain ⟨nR, hn2⟩ : ∃ q, (mS Y.1).length = q := ⟨_, rfl⟩
          obtain ⟨nT, hn3⟩ : ∃ q, (mW Y.1).length = q := ⟨_, rfl⟩
          obtain ⟨nQ, hn4⟩ : ∃ q, (mL Y.1).length = q := ⟨_, rfl⟩
          obtain ⟨nx, hn5⟩ : ∃ q, (pN Y.2.1).length = q := ⟨_, rfl⟩
          rw [hn1] at hv1
          rw [hn2] at hv2
          rw [hn3] at hv3
          rw [hn4] at hv4
          rw [hn5] at hv5
          subst hv1 hv2 hv3 hv4 hv5
          have HNs := Lib.hid hn1
          have HNTs := Lib.hid hn3
          have OM := Lib.hid hom
          have ON := Lib.hid hon
          have EV := Lib.hid hev
          have BR := Lib.hid hbR
          have BP := Lib.hid hbP
          have EB := Lib.hid hb
          refine AnyTill.any (S := fun _ => True) (m := 15) _ _ _ _ ?_
          rw [hx0, hx1, hxr, hxp]
          clear hd hb hx0 hx1 hxr hxp hbR hbP hom hon hev hn1 hn2 hn3 hn4 hn5
          obtain ⟨RC, hRC⟩ : ∃ q : List Value, rmc (mT Y.1) (.slice AP nP cP) (.slice AR nR cR) (.slice AT nT cT) (.slice AQ nQ cQ) = q := ⟨_, rfl⟩
          have hRA : RC.toArray.all (·.oneCell') = true := by rw [← hRC]; exact rmc_all _ _ _ _ _ _ _ _ _ _ _ _ _
          have hRL : RC.length = 5 := by rw [← hRC]; rfl
          have HRC := Lib.hid hRC
          have HRL := Lib.hid hRL
          rw [hRC]
          clear hRC hRL
          refine AnyTill.one (i := 12) (by kernel_rfl) rfl (by rfl) (fun K hK => ?_)
          refine wp_of_list rfl (wpList_store_to rfl 33 _ _ rfl gR RC (rmc 0 (.slice none 0 0) (.slice none 0 0) (.slice none 0 0) (.slice none 0 0)) 33 rfl rfl BR.out (by rw [HRL.out]; exact szRmP) (by rw [HRL.out]; rfl) hRA ?_)
          intro w8 e1 e2 e3 e4
          refine hK.out _ _ (.inr trivial) ?_
          have KR := Lib.hid (Keep.store (T := fun e => e = 33) (b := wr.heap.size) BR.out rfl hgR e2 e4)
          have R8 := Lib.hid e1
          have P8 := Lib.hid (BP.out.keepT KR.out (by decide))
          have OM := Lib.hid (OM.out.keepR KR.out)
          have ON := Lib.hid (ON.out.keep KR.out (by decide))
          have EV := Lib.hid (EV.out.keep KR.out (by decide))
          have EB := Lib.hid (EB.out.trans (e3.mono hgR))
          clear hK K e1 e2 e3 e4 KR BR BP
          refine AnyTill.one (i := 13) (by kernel_rfl) rfl (by rfl) (fun K hK => ?_)
          refine wp_of_list rfl (wpList_store_to rfl 57 _ _ rfl gP (rpc Y.2.1 (.slice Ax nx cx)) (rpc rp0 (.slice none 0 0)) 57 rfl rfl P8.out szRpT rfl (rpc_allM _ _ _ _) ?_)
          intro w9 e1 e2 e3 e4
          refine hK.out _ _ (.inr trivial) ?_
          have KP := Lib.hid (Keep.store (T := fun e => e = 57) (b := wr.heap.size) P8.out rfl hgP e2 e4)
          have R9 := Lib.hid (R8.out.keepT KP.out (by decide))
          have P9 := Lib.hid e1
          have OM := Lib.hid (OM.out.storeP (fun x hx => (HRY.out.fine x hx).2.2) P8.out hgP e2 e4 e1 rfl)
          have RM := Lib.hid OM.out.rd
          have ON := Lib.hid (ON.out.keep KP.out (by decide))
          have EV := Lib.hid (EV.out.keep KP.out (by decide))
          have EB := Lib.hid (EB.out.trans (e3.mono hgP))
          clear hK K e1 e2 e3 e4 KP R8 P8
          refine AnyTill.one (i := 14) (by kernel_rfl) rfl (by rfl) (fun K hK => ?_)
          go_simp
          refine hK.out _ _ (.inr trivial) ?_
          clear hK K
          refine AnyTill.done (by kernel_rfl) ?_
          refine NoPanic.normal ?_
          try dsimp only
          have hsz := EB.out.size
          have X39 := Lib.hid (X3.out.below EB.out X3.out.lt)
          have F9 := Lib.hid (F.out.belowM EB.out)
          have B9 := Lib.hid (HB.out.trans (EB.out.mono hws))
          have hs9 : w.heap.size ≤ w9.heap.size := Nat.le_trans hws hsz
          have hevr := EV.out.rd
          obtain ⟨AE, cE, hvE, -, -⟩ := hevr.shape
          obtain ⟨nE, hnE⟩ : ∃ q, (Y.2.2).length = q := ⟨_, rfl⟩
          rw [hnE] at hvE
          rw [hvE] at hevr ⊢
          have HNE := Lib.hid hnE
          have HEV := Lib.hid hevr
          have hE300 : nE ≤ 300 := by
            rw [← hnE, ← HY.out]
            exact few_ev y o HYR.out
          have hZ200 : nZ ≤ 200 := by
            rw [← HNZ.out]
            exact HYR.out.w.few
          have HRZ := Lib.hid (show (mW Y.1).length ≤ 200 from HRY.out.w.few)
          clear EB EV ON F X3 HB hnE hvE hevr
          obtain ⟨v6, hv6⟩ : ∃ q, xx 6 = q := ⟨_, rfl⟩
          obtain ⟨v0, hv0⟩ : ∃ q, xx 0 = q := ⟨_, rfl⟩
          obtain ⟨v1, hv1⟩ : ∃ q, xx 1 = q := ⟨_, rfl⟩
          obtain ⟨v2, hv2⟩ : ∃ q, xx 2 = q := ⟨_, rfl⟩
          obtain ⟨v3, hv3⟩ : ∃ q, xx 3 = q := ⟨_, rfl⟩
          obtain ⟨v4, hv4⟩ : ∃ q, xx 4 = q := ⟨_, rfl⟩
          obtain ⟨v5, hv5⟩ : ∃ q, xx 5 = q := ⟨_, rfl⟩
          rw [hv6, hv0, hv1, hv2, hv3, hv4, hv5]
          clear hv6 hv0 hv1 hv2 hv3 hv4 hv5
          go_wp2
          go_loopw [8] (fun x wq => ∃ k : Nat, k ≤ nE ∧ x = .int .i64 (k : Int) ∧ Hid (Below w9.heap.size w9 wq)) (fun x _ => nE - (intOf x).toNat)
          case atStart => exact ⟨0, Nat.zero_le _, rfl, Lib.hid (Below.refl _ _)⟩
          case round =>
            obtain ⟨k, hk, rfl, EK⟩ := hrel
            obtain ⟨wV, rfl⟩ : ∃ q, q = wr := ⟨_, rfl⟩
            by_cases hk2 : k < nE
            · have zk : (k : Int) < (nE : Int) := by omega
              have hkl : k < Y.2.2.length := by rw [HNE.out]; exact hk2
              obtain ⟨b, hbA, -⟩ := HEV.out.atEv k hkl
              subst hbA
              obtain ⟨e9, he9⟩ : ∃ q, (Y.2.2).getD k ev0 = q := ⟨_, rfl⟩
              have hem : e9 ∈ Y.2.2 := by rw [← he9]; exact getD_memW Y.2.2 ev0 k hkl
              have hT := HTY.out.1 e9 hem
              have HHAD : Hid (hasW (mW y) e9.1 = true) := Lib.hid ((hasW_iff _ _).2 hT.1)
              have HASK : Hid (askedB (l.take i) e9.1 = true) := Lib.hid (asked_of HYO.out e9.1 hT.1)
              have HTOU := Lib.hid hT.2.1
              have HPE := Lib.hid hT.2.2
              have HCE : Hid (∀ W, Below w9.heap.size w9 W → ∀ j v, (evc e9)[j]? = some v → W.cell? ((b.add (k * 5)).add j) = some v) := Lib.hid (fun W hW j v hv => by
                refine (HEV.out.below hW).node k hkl j v ?_
                show (evc (Y.2.2.getD k ev0))[j]? = some v
                rw [he9]
                exact hv)
              clear he9 hem hT hkl
              go_wp2
              go_loopw [9, 11] (fun h x wq => ∃ j : Nat, j ≤ nZ ∧ x = .int .i64 (j : Int) ∧ h = .bool (hasW ((mW y).take j) e9.1) ∧ Hid (Below w9.heap.size w9 wq)) (fun _ x _ => nZ - (intOf x).toNat)
              case atStart => exact ⟨0, Nat.zero_le _, rfl, rfl, EK⟩
              case round =>
                clear EK
                obtain ⟨j, hj, rfl, rfl, EJ⟩ := hrel
                obtain ⟨wJ, rfl⟩ : ∃ q, q = wr := ⟨_, rfl⟩
                have z3 := (X39.out.below EJ.out X39.out.lt).at_ 3 _ rfl
                by_cases hj2 : j < nZ
                · have zj : (j : Int) < (nZ : Int) := by omega
                  have hjl : j < (mW y).length := by rw [HNZ.out]; exact hj2
                  obtain ⟨a2, hA2, q0, q1, q2⟩ := (F9.out.t.below EJ.out).atWa j hjl
                  subst hA2
                  have hs := hasW_snoc (mW y) e9.1 j hjl
                  obtain ⟨x9, hx9⟩ : ∃ q, (mW y).getD j wa0 = q := ⟨_, rfl⟩
                  rw [hx9] at q0 q1 q2 hs
                  have hne := run_eqlWaP x9 e9.1
                  obtain ⟨Bq, hBq⟩ : ∃ B, decide (x9 = e9.1) = B := ⟨_, rfl⟩
                  rw [hBq] at hne hs
                  obtain ⟨b0, hb0⟩ : ∃ q, hasW ((mW y).take j) e9.1 = q := ⟨_, rfl⟩
                  rw [hb0] at hs ⊢
                  have HS := Lib.hid hs
                  have p0 : wJ.cell? (b.add (k * 5)) = some (txt (wP e9.1)) := HCE.out wJ EJ.out 0 _ rfl
                  have p1 : wJ.cell? ⟨(b.add (k * 5)).block, (b.add (k * 5)).off + 1, none⟩ = some (.int .i64 (wC e9.1)) := HCE.out wJ EJ.out 1 _ rfl
                  have p2 : wJ.cell? ⟨(b.add (k * 5)).block, (b.add (k * 5)).off + 2, none⟩ = some (.bool (wK e9.1)) := HCE.out wJ EJ.out 2 _ rfl
                  clear hx9 hBq hb0 hs hjl
                  cases b0
                  all_goals
                    go_wp2
                    refine wp_region_quiet_lit (by kernel_rfl) (by kernel_rfl) ?_
                    repeat (first | go_big_quiet_step (fail) | quiet_step (fail))
                    refine wpQuiet_nil ?_
                    intro _ hw'
                    obtain ⟨nq, hw''⟩ := hw'
                    subst hw''
                    obtain ⟨wD, hW⟩ : ∃ W, wJ.drewN nq = W := ⟨_, rfl⟩
                    have EJD : Hid (Below w9.heap.size w9 wD) := Lib.hid (by rw [← hW]; exact EJ.out.trans ((Below.drewN' (Below.refl _ _)).mono EJ.out.size))
                    rw [hW]
                    clear hW p0 p1 p2 q0 q1 q2 z3 hne EJ
                    go_wp2
                    go_roundw
                    case rel => exact ⟨j + 1, by omega, by go_num, by rw [HS.out]; try rfl, EJD⟩
                    case measure => simp [intOf]; omega
                · obtain rfl : j = nZ := by omega
                  have zj : ¬ (j : Int) < (j : Int) := by omega
                  have hT2 : hasW ((mW y).take j) e9.1 = true := by rw [List.take_of_length_le (by rw [HNZ.out]; exact Nat.le_refl _)]; exact HHAD.out
                  rw [hT2]
                  clear hT2
                  go_wp2
                  clear z3
                  go_loopw [10, 12] (fun h x wq => ∃ q : Nat, q ≤ i ∧ x = .int .i64 (q : Int) ∧ h = .bool (askedB (l.take q) e9.1) ∧ Hid (Below w9.heap.size w9 wq)) (fun _ x _ => i - (intOf x).toNat)
                  case atStart => exact ⟨0, Nat.zero_le _, rfl, rfl, EJ⟩
                  case round =>
                    clear EJ
                    obtain ⟨q, hq, rfl, rfl, EQ⟩ := hrel
                    obtain ⟨wQ, rfl⟩ : ∃ q, q = wr := ⟨_, rfl⟩
                    by_cases hq2 : q < i
                    · have zq : (q : Int) < (i : Int) := by omega
                      have hql : q < l.length := by rw [HL.out]; omega
                      have hor : Below w.heap.size w wQ := B9.out.trans (EQ.out.mono hs9)
                      have hOr := (HO.out.below hor).more hor.size
                      have hs := asked_snoc l e9.1 q hql
                      obtain ⟨o2, ho2⟩ : ∃ z, l.getD q or0 = z := ⟨_, rfl⟩
                      have hnd : ∀ j v, (orc o2)[j]? = some v → wQ.cell? ((a.add (q * 8)).add j) = some v := by
                        intro j v hv
                        refine hOr.node q hql j v ?_
                        show (orc (l.getD q or0))[j]? = some v
                        rw [ho2]
                        exact hv
                      rw [ho2] at hs
                      clear hor hOr ho2 hql
                      go_wp2_with (first | refine wpList_load_rowE rfl 35 _ rfl (a.add (q * 8)) (by first | rfl | (simp [Act.eval, Act.put, Addr.add])) (orc o2) hnd dO huO hdO szOrT ?_ | refine wpList_alloc_blk rfl 35 rfl (orc or0) zeroOrP ?_)
                      intro wa a1 a2 a3
                      obtain ⟨gO, hgO⟩ : ∃ g, wQ.heap.size = g := ⟨_, rfl⟩
                      have A1 := Lib.hid a1
                      have BA := Lib.hid a3
                      rw [hgO] at A1 BA ⊢
                      have HGO := Lib.hid hgO
                      clear a1 a2 a3 hgO hnd
                      go_wp2_with (refine wpList_store_to rfl 35 _ _ rfl gO (orc o2) (orc or0) 35 rfl rfl A1.out szOrT rfl (orc_all o2) ?_)
                      intro wb e1 e2 e3 e4
                      have EB : Hid (Below w9.heap.size w9 wb) := Lib.hid (EQ.out.trans (Below.mono (by rw [HGO.out]; exact BA.out.trans e3) EQ.out.size))
                      have p0 : wb.cell? (b.add (k * 5)) = some (txt (wP e9.1)) := HCE.out wb EB.out 0 _ rfl
                      have p1 : wb.cell? ⟨(b.add (k * 5)).block, (b.add (k * 5)).off + 1, none⟩ = some (.int .i64 (wC e9.1)) := HCE.out wb EB.out 1 _ rfl
                      have p2 : wb.cell? ⟨(b.add (k * 5)).block, (b.add (k * 5)).off + 2, none⟩ = some (.bool (wK e9.1)) := HCE.out wb EB.out 2 _ rfl
                      have d0 : wb.cell? ⟨gO, 0, none⟩ = some (.int .i64 (oC o2)) := e1.at_ 0 _ rfl
                      have d2 : wb.cell? ⟨gO, 2, none⟩ = some (.int .i64 (oK o2)) := e1.at_ 2 _ rfl
                      have d3 : wb.cell? ⟨gO, 3, none⟩ = some (txt (oP o2)) := e1.at_ 3 _ rfl
                      clear e1 e2 e3 e4 A1 BA HGO EQ
                      unfold askBR at hs
                      obtain ⟨r9, hr9⟩ : ∃ z, askedB (l.take (q + 1)) e9.1 = z := ⟨_, rfl⟩
                      have HR9 := Lib.hid hr9
                      rw [hr9] at hs
                      obtain ⟨b1, hb1⟩ : ∃ z, askedB (l.take q) e9.1 = z := ⟨_, rfl⟩
                      rw [hb1] at hs ⊢
                      obtain ⟨C2, hC2⟩ : ∃ z, oC o2 = z := ⟨_, rfl⟩
                      obtain ⟨P2, hP2⟩ : ∃ z, oP o2 = z := ⟨_, rfl⟩
                      obtain ⟨K2, hK2⟩ : ∃ z, oK o2 = z := ⟨_, rfl⟩
                      obtain ⟨CE, hCE⟩ : ∃ z, wC e9.1 = z := ⟨_, rfl⟩
                      obtain ⟨PE, hPE⟩ : ∃ z, wP e9.1 = z := ⟨_, rfl⟩
                      obtain ⟨KE, hKE⟩ : ∃ z, wK e9.1 = z := ⟨_, rfl⟩
                      rw [hC2, hP2, hK2, hCE, hPE, hKE] at hs
                      rw [hPE] at p0
                      rw [hCE] at p1
                      rw [hKE] at p2
                      rw [hC2] at d0
                      rw [hK2] at d2
                      rw [hP2] at d3
                      clear hr9 hb1 hC2 hP2 hK2 hCE hPE hKE
                      have ways : (b1 = true ∧ r9 = true) ∨ (b1 = false ∧ (C2 == CE) = false ∧ r9 = false) ∨ (b1 = false ∧ (C2 == CE) = true ∧ (P2 == PE) = false ∧ r9 = false) ∨
                          (b1 = false ∧ (C2 == CE) = true ∧ (P2 == PE) = true ∧ (K2 == 11) = true ∧ KE = false ∧ r9 = false) ∨
                          (b1 = false ∧ (C2 == CE) = true ∧ (P2 == PE) = true ∧ (K2 == 11) = false ∧ KE = true ∧ r9 = false) ∨
                          (b1 = false ∧ (C2 == CE) = true ∧ (P2 == PE) = true ∧ (K2 == 11) = true ∧ KE = true ∧ (K2 == 10) = false ∧ r9 = true) ∨
                          (b1 = false ∧ (C2 == CE) = true ∧ (P2 == PE) = true ∧ (K2 == 11) = false ∧ KE = false ∧ (K2 == 10) = true ∧ r9 = true) ∨
                          (b1 = false ∧ (C2 == CE) = true ∧ (P2 == PE) = true ∧ (K2 == 11) = false ∧ KE = false ∧ (K2 == 10) = false ∧ r9 = false) := by
                        rw [hs]
                        by_cases t1 : C2 = CE <;> by_cases t2 : P2 = PE <;> by_cases t3 : K2 = 11 <;> by_cases t4 : K2 = 10 <;> cases b1 <;> cases KE <;> simp [t1, t2, t3, t4] <;> omega
                      clear hs
                      rcases ways with ⟨k1, k9⟩ | ⟨k1, k2, k9⟩ | ⟨k1, k2, k3, k9⟩ | ⟨k1, k2, k3, k4, k5, k9⟩ | ⟨k1, k2, k3, k4, k5, k9⟩ | ⟨k1, k2, k3, k4, k5, k6, k9⟩ | ⟨k1, k2, k3, k4, k5, k6, k9⟩ | ⟨k1, k2, k3, k4, k5, k6, k9⟩
                      all_goals
                        (try subst k5)
                        subst k1 k9
                        go_wp2
                        refine wp_region_quiet_lit (by kernel_rfl) (by kernel_rfl) ?_
                        repeat (first | go_big_quiet_step (fail) | quiet_step (fail))
                        refine wpQuiet_nil ?_
                        intro _ hw'
                        obtain ⟨nq, hw''⟩ := hw'
                        subst hw''
                        obtain ⟨wD, hW⟩ : ∃ W, wb.drewN nq = W := ⟨_, rfl⟩
                        have EQD : Hid (Below w9.heap.size w9 wD) := Lib.hid (by rw [← hW]; exact EB.out.trans ((Below.drewN' (Below.refl _ _)).mono EB.out.size))
                        rw [hW]
                        clear hW p0 p1 p2 d0 d2 d3 EB
                        go_wp2
                        go_roundw
                        case rel => exact ⟨q + 1, by omega, by go_num, by rw [HR9.out], EQD⟩
                        case measure => simp [intOf]; omega
                    · obtain rfl : q = i := by omega
                      have zq : ¬ (q : Int) < (q : Int) := by omega
                      rw [HASK.out]
                      go_wp2
                      obtain ⟨dC, huC, hdC⟩ := rowChP
                      obtain ⟨dW, huW, hdW⟩ := rowWaP

                      have EQd := Lib.hid (Below.trans EQ.out ((Below.refl _ _).drew.mono EQ.out.size))
                      obtain ⟨W0, hW0⟩ : ∃ q, w9 = q := ⟨_, rfl⟩
                      rw [hW0] at EQd P9 HCE
                      obtain ⟨FF, hF⟩ : ∃ F : (Nat → Value) → Act, F = fun x => ⟨#[.slice (some a) n c, undef, u2, .pointer (some { block := g3, off := 0 }), .int IntKind.i64 ↑q, .pointer (some { block := gR, off := 0 }), .pointer (some { block := gP, off := 0 }), .slice (some b) nE cE, .int IntKind.i64 ↑k, .bool true, .bool true, .int IntKind.i64 ↑j, .int IntKind.i64 ↑q, u13, .slice (some a) n c, .bool true, .bool false, undef, v18, .int IntKind.i64 ↑q, .slice (some a) n c, .int IntKind.i64 ↑n, .bool true, u23, u24, v6, v0, v1, v2, v3, v4, v5, .agg RC.toArray, .agg (rpc Y.snd.fst (Value.slice Ax nx cx)).toArray, .slice (some b) nE cE, .int IntKind.i64 ↑k, .slice (some b) nE cE, .int IntKind.i64 ↑nE, .bool true, u39, u40, .int IntKind.i64 ↑j, .pointer (some { block := g3, off := 3 }), .pointer (some { block := g3, off := 3 }), .slice AZ j cZ, .int IntKind.i64 ↑j, .bool false, u47, u48, u49, u50, u51, u52, u53, u54, u55, u56, u57, u58, u59, u60, u61, u62, u63, .int IntKind.i64 ↑q, .int IntKind.i64 ↑q, .bool false, u67, u68, u69, u70, u71, u72, u73, u74, u75, u76, u77, u78, u79, u80, u81, u82, u83, u84, u85, u86, u87, u88, u89, u90, u91, u92, u93, u94, u95, u96, u97, u98, u99, u100, u101, u102, u103, u104, u105, u106, u107, u108, u109, u110, u111, u112, u113, u114, u115, u116, u117, x 0, x 1, x 2, x 3, x 4, x 5, x 6, x 7, x 8, x 9, x 10, x 11, x 12, x 13, x 14, x 15, x 16, x 17, x 18, x 19, x 20, x 21, x 22, x 23, x 24, u143, u144, u145, u146, u147, u148, u149, u150, u151, u152, u153, u154, u155, u156, u157, u158, u159, u160, u161, u162, u163, u164, u165, u166, u167, u168, u169, u170, u171, u172, undef], []⟩ := ⟨_, rfl⟩
                      have HFF := Lib.hid hF
                      refine wp_region_tillK 25 FF (fun k => [u118, u119, u120, u121, u122, u123, u124, u125, u126, u127, u128, u129, u130, u131, u132, u133, u134, u135, u136, u137, u138, u139, u140, u141, u142].getD k undef) (fun w9 => Below W0.heap.size W0 w9) (by rw [hF]; rfl) rfl (by kernel_rfl) ?_
                      intro x hL
                      clear hF
                      obtain ⟨wA, hwA⟩ : ∃ q, wQ.drew = q := ⟨_, rfl⟩
                      rw [hwA] at EQd ⊢
                      clear hwA EQ
                      refine AnyTill.takeK 0 (.bool true) rfl (by kernel_rfl) rfl rfl (by kernel_rfl) (by kernel_rfl) HFF (wanted_none rfl) (fun _ _ => rfl) hL rfl (fun w9 hS9 => ?_) (by exact EQd.out) ?_
                      · first | (go_simp; done) | (go_simp; rfl)
                      clear hL x
                      intro x hL
                      refine AnyTill.takeK 1 (.bool false) rfl (by kernel_rfl) rfl rfl (by kernel_rfl) (by kernel_rfl) HFF (wanted_none rfl) (fun _ _ => rfl) hL rfl (fun w9 hS9 => ?_) (by exact EQd.out) ?_
                      · have q0 := hL.at_ 0 rfl
                        rw [q0]
                        first | (go_simp; done) | (go_simp; rfl)
                      clear hL x
                      intro x hL
                      refine AnyTill.takeK 2 (.bool false) rfl (by kernel_rfl) rfl rfl (by kernel_rfl) (by kernel_rfl) HFF (wanted_none rfl) (fun _ _ => rfl) hL rfl (fun w9 hS9 => ?_) (by exact EQd.out) ?_
                      · have q1 := hL.at_ 0 rfl
                        rw [q1]
                        first | (go_simp; done) | (go_simp; rfl)
                      clear hL x
                      intro x hL
                      refine AnyTill.takeK 3 (.bool true) rfl (by kernel_rfl) rfl rfl (by kernel_rfl) (by kernel_rfl) HFF (by have hG := hL.at_ 0 rfl; simp [Region.wanted, yielded, hG]) (fun _ _ => rfl) hL rfl (fun w9 hS9 => ?_) (by exact EQd.out) ?_
                      · first | (go_simp; done) | (go_simp; rfl)
                      clear hL x
                      intro x hL
                      refine AnyTill.takeK 4 (.bool false) rfl (by kernel_rfl) rfl rfl (by kernel_rfl) (by kernel_rfl) HFF (by have hG := hL.at_ 1 rfl; simp [Region.wanted, yielded, hG]) (fun _ _ => rfl) hL rfl (fun w9 hS9 => ?_) (by exact EQd.out) ?_
                      · have q3 := hL.at_ 0 rfl
                        rw [q3]
                        first | (go_simp; done) | (go_simp; rfl)
                      clear hL x
                      intro x hL
                      refine AnyTill.takeK 5 (.bool false) rfl (by kernel_rfl) rfl rfl (by kernel_rfl) (by kernel_rfl) HFF (wanted_none rfl) (fun _ _ => rfl) hL rfl (fun w9 hS9 => ?_) (by exact EQd.out) ?_
                      · have q2 := hL.at_ 2 rfl
                        have q4 := hL.at_ 0 rfl
                        rw [q2, q4]
                        first | (go_simp; done) | (go_simp; rfl)
                      clear hL x
                      intro x hL
                      refine AnyTill.takeK 6 (.bool false) rfl (by kernel_rfl) rfl rfl (by kernel_rfl) (by kernel_rfl) HFF (wanted_none rfl) (fun _ _ => rfl) hL rfl (fun w9 hS9 => ?_) (by exact EQd.out) ?_
                      · have q5 := hL.at_ 0 rfl
                        rw [q5]
                        first | (go_simp; done) | (go_simp; rfl)
                      clear hL x
                      intro x hL
                      refine AnyTill.takeK 7 (.slice (some b) nE cE) rfl (by kernel_rfl) rfl rfl (by kernel_rfl) (by kernel_rfl) HFF (by have hG := hL.at_ 0 rfl; simp [Region.wanted, yielded, hG]) (fun _ _ => rfl) hL rfl (fun w9 hS9 => ?_) (by exact EQd.out) ?_
                      · first | (go_simp; done) | (go_simp; rfl)
                      clear hL x
                      intro x hL
                      refine AnyTill.takeK 8 (.int .i64 (k : Int)) rfl (by kernel_rfl) rfl rfl (by kernel_rfl) (by kernel_rfl) HFF (by have hG := hL.at_ 1 rfl; simp [Region.wanted, yielded, hG]) (fun _ _ => rfl) hL rfl (fun w9 hS9 => ?_) (by exact EQd.out) ?_
                      · first | (go_simp; done) | (go_simp; rfl)
                      clear hL x
                      intro x hL
                      refine AnyTill.takeK 9 (.pointer (some (b.add (k * 5)))) rfl (by kernel_rfl) rfl rfl (by kernel_rfl) (by kernel_rfl) HFF (by have hG := hL.at_ 2 rfl; simp [Region.wanted, yielded, hG]) (fun _ _ => rfl) hL rfl (fun w9 hS9 => ?_) (by exact EQd.out) ?_
                      · have q7 := hL.at_ 1 rfl
                        have q8 := hL.at_ 0 rfl
                        rw [q7, q8]
                        first | (go_simp; done) | (go_simp; rfl)
                      clear hL x
                      intro x hL
                      refine AnyTill.takeK 10 (.pointer (some ⟨(b.add (k * 5)).block, (b.add (k * 5)).off + 3, none⟩)) rfl (by kernel_rfl) rfl rfl (by kernel_rfl) (by kernel_rfl) HFF (by have hG := hL.at_ 3 rfl; simp [Region.wanted, yielded, hG]) (fun _ _ => rfl) hL rfl (fun w9 hS9 => ?_) (by exact EQd.out) ?_
                      · have q9 := hL.at_ 0 rfl
                        rw [q9]
                        first | (go_simp; done) | (go_simp; rfl)
                      clear hL x
                      intro x hL
                      refine AnyTill.takeK 11 (.agg (chc e9.2).toArray) rfl (by kernel_rfl) rfl rfl (by kernel_rfl) (by kernel_rfl) HFF (by have hG := hL.at_ 4 rfl; simp [Region.wanted, yielded, hG]) (fun _ _ => rfl) hL rfl (fun w9 hS9 => ?_) (by exact EQd.out) ?_
                      · have hp := hL.at_ 0 rfl
                        refine run_loadop_rowS 96 _ rfl ⟨(b.add (k * 5)).block, (b.add (k * 5)).off + 3, none⟩ ?_ (chc e9.2) (fun j v hv => ?_) dC huC hdC szChP
                        · exact hp
                        · have hc := HCE.out w9 hS9 (3 + j) v (ev_chg e9 j v hv)
                          rw [add3S]
                          exact hc
                      clear hL x
                      intro x hL
                      refine AnyTill.takeK 12 (.slice (some b) nE cE) rfl (by kernel_rfl) rfl rfl (by kernel_rfl) (by kernel_rfl) HFF (by have hG := hL.at_ 5 rfl; simp [Region.wanted, yielded, hG]) (fun _ _ => rfl) hL rfl (fun w9 hS9 => ?_) (by exact EQd.out) ?_
                      · first | (go_simp; done) | (go_simp; rfl)
                      clear hL x
                      intro x hL
                      refine AnyTill.takeK 13 (.int .i64 (k : Int)) rfl (by kernel_rfl) rfl rfl (by kernel_rfl) (by kernel_rfl) HFF (by have hG := hL.at_ 6 rfl; simp [Region.wanted, yielded, hG]) (fun _ _ => rfl) hL rfl (fun w9 hS9 => ?_) (by exact EQd.out) ?_
                      · first | (go_simp; done) | (go_simp; rfl)
                      clear hL x
                      intro x hL
                      refine AnyTill.takeK 14 (.pointer (some (b.add (k * 5)))) rfl (by kernel_rfl) rfl rfl (by kernel_rfl) (by kernel_rfl) HFF (by have hG := hL.at_ 7 rfl; simp [Region.wanted, yielded, hG]) (fun _ _ => rfl) hL rfl (fun w9 hS9 => ?_) (by exact EQd.out) ?_
                      · have q12 := hL.at_ 1 rfl
                        have q13 := hL.at_ 0 rfl
                        rw [q12, q13]
                        first | (go_simp; done) | (go_simp; rfl)
                      clear hL x
                      intro x hL
                      refine AnyTill.takeK 15 (.pointer (some (b.add (k * 5)))) rfl (by kernel_rfl) rfl rfl (by kernel_rfl) (by kernel_rfl) HFF (by have hG := hL.at_ 8 rfl; simp [Region.wanted, yielded, hG]) (fun _ _ => rfl) hL rfl (fun w9 hS9 => ?_) (by exact EQd.out) ?_
                      · have q14 := hL.at_ 0 rfl
                        rw [q14]
                        first | (go_simp; done) | (go_simp; rfl)
                      clear hL x
                      intro x hL
                      refine AnyTill.takeK 16 (.agg (wac e9.1).toArray) rfl (by kernel_rfl) rfl rfl (by kernel_rfl) (by kernel_rfl) HFF (by have hG := hL.at_ 9 rfl; simp [Region.wanted, yielded, hG]) (fun _ _ => rfl) hL rfl (fun w9 hS9 => ?_) (by exact EQd.out) ?_
                      · have hp := hL.at_ 0 rfl
                        refine run_loadop_rowS 94 _ rfl (b.add (k * 5)) ?_ (wac e9.1) (fun j v hv => ?_) dW huW hdW szWaP
                        · exact hp
                        · exact HCE.out w9 hS9 j v (ev_wat e9 j v hv)
                      clear hL x
                      intro x hL
                      refine AnyTill.oneK 17 (by kernel_rfl) rfl HFF (by have hG := hL.at_ 10 rfl; simp [Region.wanted, yielded, hG]) (fun _ _ => rfl) hL rfl (fun K hK => ?_)
                      have q11 := Lib.hid (hL.at_ 5 rfl)
                      have q16 := Lib.hid (hL.at_ 0 rfl)
                      go_simp
                      refine calls_args (args2 := #[.agg (chc e9.2).toArray, .agg (wac e9.1).toArray]) (by rw [q11.out, q16.out]) ?_
                      refine (waTouches_any e9.2 e9.1 wA).mono ?_
                      rintro e w2 ⟨rfl, hb⟩
                      rw [HTOU.out]
                      have EQ2 := Lib.hid (Below.trans EQd.out (hb.mono EQd.out.size))
                      refine hK.out _ w2 EQ2.out ?_
                      clear hK K hb EQd
                      clear hL q11 q16 x
                      intro x hL
                      refine AnyTill.takeK 18 (.bool false) rfl (by kernel_rfl) rfl rfl (by kernel_rfl) (by kernel_rfl) HFF (by have hG := hL.at_ 11 rfl; simp [Region.wanted, yielded, hG]) (fun _ _ => rfl) hL rfl (fun w9 hS9 => ?_) (by exact EQ2.out) ?_
                      · have q17 := hL.at_ 0 rfl
                        rw [q17]
                        first | (go_simp; done) | (go_simp; rfl)
                      clear hL x
                      intro x hL
                      refine AnyTill.takeK 19 (.bool false) rfl (by kernel_rfl) rfl rfl (by kernel_rfl) (by kernel_rfl) HFF (wanted_none rfl) (fun _ _ => rfl) hL rfl (fun w9 hS9 => ?_) (by exact EQ2.out) ?_
                      · have q6 := hL.at_ 12 rfl
                        have q18 := hL.at_ 0 rfl
                        rw [q6, q18]
                        first | (go_simp; done) | (go_simp; rfl)
                      clear hL x
                      intro x hL
                      refine AnyTill.takeK 20 (.bool false) rfl (by kernel_rfl) rfl rfl (by kernel_rfl) (by kernel_rfl) HFF (wanted_none rfl) (fun _ _ => rfl) hL rfl (fun w9 hS9 => ?_) (by exact EQ2.out) ?_
                      · have q19 := hL.at_ 0 rfl
                        rw [q19]
                        first | (go_simp; done) | (go_simp; rfl)
                      clear hL x
                      intro x hL
                      refine AnyTill.takeK 21 (.pointer (some ⟨gP, 2, none⟩)) rfl (by kernel_rfl) rfl rfl (by kernel_rfl) (by kernel_rfl) HFF (by have hG := hL.at_ 0 rfl; simp [Region.wanted, yielded, hG]) (fun _ _ => rfl) hL rfl (fun w9 hS9 => ?_) (by exact EQ2.out) ?_
                      · first | (go_simp; done) | (go_simp; rfl)
                      clear hL x
                      intro x hL
                      refine AnyTill.takeK 22 (.int .i64 0) rfl (by kernel_rfl) rfl rfl (by kernel_rfl) (by kernel_rfl) HFF (by have hG := hL.at_ 1 rfl; simp [Region.wanted, yielded, hG]) (fun _ _ => rfl) hL rfl (fun w9 hS9 => ?_) (by exact EQ2.out) ?_
                      · have q21 := hL.at_ 0 rfl
                        rw [q21]
                        have cc : w9.cell? ⟨gP, 2, none⟩ = some (.int .i64 0) := by
                          rw [← HPE.out]
                          exact (P9.out.below hS9 P9.out.lt).at_ 2 _ rfl
                        first | (go_simp; done) | (go_simp; rfl)
                      clear hL x
                      intro x hL
                      refine AnyTill.takeK 23 (.bool false) rfl (by kernel_rfl) rfl rfl (by kernel_rfl) (by kernel_rfl) HFF (by have hG := hL.at_ 2 rfl; simp [Region.wanted, yielded, hG]) (fun _ _ => rfl) hL rfl (fun w9 hS9 => ?_) (by exact EQ2.out) ?_
                      · have q22 := hL.at_ 0 rfl
                        rw [q22]
                        first | (go_simp; done) | (go_simp; rfl)
                      clear hL x
                      intro x hL
                      refine AnyTill.takeK 24 (.bool false) rfl (by kernel_rfl) rfl rfl (by kernel_rfl) (by kernel_rfl) HFF (wanted_none rfl) (fun _ _ => rfl) hL rfl (fun w9 hS9 => ?_) (by exact EQ2.out) ?_
                      · have q20 := hL.at_ 3 rfl
                        have q23 := hL.at_ 0 rfl
                        rw [q20, q23]
                        first | (go_simp; done) | (go_simp; rfl)
                      clear hL x
                      intro x hL
                      have q24 := hL.at_ 0 rfl
                      refine AnyTill.done (by kernel_rfl) ?_
                      refine NoPanic.normal ?_
                      rw [HFF.out]
                      try dsimp only
                      rw [q24]
                      clear q24
                      clear hL HFF
                      rw [← hW0] at EQ2 P9 HCE
                      clear hW0
                      go_wp2
                      go_roundw
                      case rel => exact ⟨k + 1, by omega, by go_num, EQ2⟩
                      case measure => simp [intOf]; omega
            · obtain rfl : k = nE := by omega
              have zk : ¬ (k : Int) < (k : Int) := by omega
              have hgl3 := X39.out.lt
              have hglR := R9.out.lt
              have X3k := Lib.hid (X39.out.below EK.out hgl3)
              have RKk := Lib.hid (R9.out.below EK.out hglR)
              have RMk := Lib.hid (RM.out.belowM EK.out)
              have HBk := Lib.hid (B9.out.trans (EK.out.mono hs9))
              have OMk := Lib.hid (OM.out.below EK.out)
              have zr := RKk.out.at_ 3 (.slice AT nT cT) (by rw [← HRC.out]; rfl)
              have z3 := X3k.out.at_ 3 _ rfl
              have hlen : nT + k = nZ ∨ (k = 0 ∧ nT = nZ + 1) := by
                have h1 := HTY.out.2
                rw [HNZ.out, HNE.out, HNTs.out] at h1
                rcases h1 with h1 | ⟨h1, h2⟩
                · exact .inl h1
                · have h3 := HNE.out
                  rw [h1] at h3
                  exact .inr ⟨h3.symm, h2⟩
              have hT200 : nT ≤ 200 := by
                rw [← HNTs.out]
                exact HRZ.out
              rcases hlen with hl | ⟨hl, hl2⟩
              · have hw1 : wrap64 ((nT : Int) + (k : Int)) = (nZ : Int) := by unfold wrap64; omega
                have hq1 : ((nT : Int) + (k : Int) == (nZ : Int)) = true := int_eqE _ _ (by omega)
                have hq2 : ((nT : Int) + (k : Int) != (nZ : Int)) = false := by simp; omega
                clear hl
                go_wp2_with (first | refine wpList_load_part rfl 33 _ rfl gR 0 RC RC 33 rfl RKk.out (by simp) huR hdR (by rw [HRL.out]; exact szRmP) ?_ | refine wpList_store_to rfl 33 _ _ rfl g3 RC (rmc (mT y) vN vS (.slice AZ nZ cZ) vL) 33 rfl rfl X3k.out (by rw [HRL.out]; exact szRmP) (by rw [HRL.out]; rfl) hRA ?_)
                intro wa e1 e2 e3 e4
                have Xa := Lib.hid e1
                have RMa := Lib.hid (OMk.out.keepR (Keep.store (T := fun e => e = 33) (b := w.heap.size) X3k.out rfl hg3w e2 e4)).rd
                have Ba := Lib.hid (HBk.out.trans (e3.mono hg3w))
                rw [← HRC.out] at Xa
                clear e1 e2 e3 e4 zr z3
                go_wp2
                rw [← HV18.out]
                go_roundw
                case rel =>
                  refine ⟨i + 1, by omega, by go_num, ?_, Ba⟩
                  rw [HSN.out]
                  exact Lib.hid ⟨_, _, _, _, RMa.out, Xa.out⟩
                case measure => simp [intOf]; omega
              · subst hl
                have hw3 : ((nT : Int) == (nZ : Int)) = false := int_neE _ _ (by omega)
                have hw4 : ((nT : Int) != (nZ : Int)) = true := by simp; omega
                have hw6 : ((nT : Int) != (nZ : Int) + 1) = false := by simp; omega
                have hw7 : ((nZ : Int) + 1 != (nZ : Int)) = true := by simp; omega
                have hw8 : ((nZ : Int) + 1 == (nZ : Int)) = false := int_neE _ _ (by omega)
                clear hl2
                go_wp2_with (first | refine wpList_load_part rfl 33 _ rfl gR 0 RC RC 33 rfl RKk.out (by simp) huR hdR (by rw [HRL.out]; exact szRmP) ?_ | refine wpList_store_to rfl 33 _ _ rfl g3 RC (rmc (mT y) vN vS (.slice AZ nZ cZ) vL) 33 rfl rfl X3k.out (by rw [HRL.out]; exact szRmP) (by rw [HRL.out]; rfl) hRA ?_)
                intro wa e1 e2 e3 e4
                have Xa := Lib.hid e1
                have RMa := Lib.hid (OMk.out.keepR (Keep.store (T := fun e => e = 33) (b := w.heap.size) X3k.out rfl hg3w e2 e4)).rd
                have Ba := Lib.hid (HBk.out.trans (e3.mono hg3w))
                rw [← HRC.out] at Xa
                clear e1 e2 e3 e4 zr z3
                go_wp2
                rw [← HV18.out]
                go_roundw
                case rel =>
                  refine ⟨i + 1, by omega, by go_num, ?_, Ba⟩
                  rw [HSN.out]
                  exact Lib.hid ⟨_, _, _, _, RMa.out, Xa.out⟩
                case measure => simp [intOf]; omega
      · have zi : ¬ (i : Int) < (n : Int) := by omega
        go_wp2_with fail
        refine (alive13 wr).mono ?_
        rintro e wd ⟨rfl, hb⟩
        have HBd := Lib.hid (HB.out.trans (hb.mono HB.out.size))
        clear hb
        go_wp2
        go_ret
        exact ⟨rfl, HBd.out⟩
end Go.Proofs.YtdihngkdhanhkaaGreatDoor
