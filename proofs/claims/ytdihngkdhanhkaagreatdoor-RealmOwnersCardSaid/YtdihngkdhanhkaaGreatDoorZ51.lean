/-
  Texts KQ KO.
-/
import Derived.Deep.Strs
import Derived.Deep.Grids
import Derived.Test.YtdihngkdhanhkaaGreatDoorZ10
import Derived.Test.YtdihngkdhanhkaaGreatDoorZ20
import Derived.Test.YtdihngkdhanhkaaGreatDoorZ32
import Derived.Test.YtdihngkdhanhkaaGreatDoorZ50
namespace Go.Proofs.YtdihngkdhanhkaaGreatDoor
open Go.RowKit

theorem run_loadop_rowE {P : Program} {w : World} {o : Oper} {a : Act} (ty : TypeId) (x : Operand) (ho : o.op = .load ty x) (ad : Addr) (hx : a.eval x = .pointer (some ad)) (cs : List Value) (hc : ∀ j v, cs[j]? = some v → w.cell? (ad.add j) = some v) (d : TypeDesc) (hu : P.underlying ty = some d) (hd : d.isRow = true) (hi : (P.info? ty).map (·.size) = some cs.length) : (execOp a.eval o).run P w = .ok (.value (.agg cs.toArray)) w := by
  unfold execOp
  simp only [ho, hx, Instr.loadAt, Instr.sureAddr, Sem.run_bind, Sem.run_pure, Result.andThen_ok, run_load_rowE ty ad cs hc d hu hd hi]
theorem owners_fold (l : List Or) : ∀ r : Rm, OwnersR r → OwnersR (foldR r l).1 := by
  induction l with
  | nil => exact fun _ h => h
  | cons o l ih => exact fun r h => ih _ (owners_apply r o h)
theorem owners_rm0 : OwnersR rm0 := by
  intro x hx h0
  obtain rfl : x = ([47], [], 0, 0) := by simpa [rm0, mN] using hx
  exact absurd h0 (by decide)
set_option maxRecDepth 100000 in
set_option maxHeartbeats 16000000 in
theorem owners13_all (v : Value) (l : List Or) (w : World) (hr : RdE OrK w.heap.size w v l) (hfi : ∀ o ∈ l, fitI (oS o)) : Calls Tryz.prog 7 #[v] w (One (.bool true) w) := by
  obtain ⟨A, c, hv, hc, hm⟩ := hr.shape
  unfold maxLen at hm
  obtain ⟨n, hnl⟩ : ∃ n, l.length = n := ⟨_, rfl⟩
  have HL := Lib.hid hnl
  rw [hnl] at hv hc
  subst hv
  have HO := Lib.hid hr
  have HI := Lib.hid hfi
  clear hr hfi hnl
  obtain ⟨dR, huR, hdR⟩ := rowRmP
  obtain ⟨dO, huO, hdO⟩ := rowOrT
  obtain ⟨dN, huN, hdN⟩ := rowPN
  obtain ⟨dB, huB, hdB⟩ := rowBkT
  go_enter Tryz.func7, Tryz.ntmps7
  go_wp2_with fail
  refine (short13 l (.slice A n c) w HO.out).mono ?_
  rintro e w1 ⟨sb, rfl, hsb, hb⟩
  have B1 := Lib.hid hb
  have HSB := Lib.hid hsb
  clear hb hsb
  cases sb with
  | false =>
    go_wp2_with fail
    refine (alive13 w1).mono ?_
    rintro e w2 ⟨rfl, hb⟩
    have B2 := Lib.hid (B1.out.trans (hb.mono B1.out.size))
    clear hb
    go_wp2
    go_ret
    exact ⟨rfl, B2.out⟩
  | true =>
    have hn30 : n ≤ 30 := by rw [← HL.out]; exact HSB.out rfl
    go_wp2_with fail
    refine (rmNew_any w1).mono ?_
    rintro e w2 ⟨vN, vS, vW, vL, rfl, hrd, hb⟩
    obtain ⟨AP, cP, hv1, -, -⟩ := hrd.n.shape
    obtain ⟨AR, cR, hv2, -, -⟩ := hrd.s.shape
    obtain ⟨AT, cT, hv3, -, -⟩ := hrd.t.shape
    obtain ⟨AQ, cQ, hv4, -, -⟩ := hrd.l.shape
    obtain ⟨nP, hn1⟩ : ∃ q, (mN rm0).length = q := ⟨_, rfl⟩
    obtain ⟨nR, hn2⟩ : ∃ q, (mS rm0).length = q := ⟨_, rfl⟩
    obtain ⟨nT, hn3⟩ : ∃ q, (mW rm0).length = q := ⟨_, rfl⟩
    obtain ⟨nQ, hn4⟩ : ∃ q, (mL rm0).length = q := ⟨_, rfl⟩
    rw [hn1] at hv1
    rw [hn2] at hv2
    rw [hn3] at hv3
    rw [hn4] at hv4
    subst hv1 hv2 hv3 hv4
    have RM := Lib.hid hrd
    have B2 := Lib.hid (B1.out.trans (hb.mono B1.out.size))
    clear hrd hb hn1 hn2 hn3 hn4
    have hs2 := B2.out.size
    go_wp2_with (refine wpList_alloc_blk rfl 33 rfl (rmc 0 (.slice none 0 0) (.slice none 0 0) (.slice none 0 0) (.slice none 0 0)) zeroRmP ?_)
    intro w3 a1 a2 a3
    obtain ⟨g3, hg3⟩ : ∃ g, w2.heap.size = g := ⟨_, rfl⟩
    have A1 := Lib.hid a1
    have RM3 := Lib.hid (RM.out.belowM a3)
    have B3 := Lib.hid (B2.out.trans (a3.mono hs2))
    have hg3w : w.heap.size ≤ g3 := by omega
    have HBW := Lib.hid a3
    rw [hg3] at A1 HBW ⊢
    have HG3 := Lib.hid hg3
    clear a1 a2 a3 hg3 B2
    go_wp2_with (refine wpList_store_to rfl 33 _ _ rfl g3 (rmc (mT rm0) (.slice AP nP cP) (.slice AR nR cR) (.slice AT nT cT) (.slice AQ nQ cQ)) (rmc 0 (.slice none 0 0) (.slice none 0 0) (.slice none 0 0) (.slice none 0 0)) 33 rfl rfl A1.out szRmP rfl (rmc_all _ _ _ _ _ _ _ _ _ _ _ _ _) ?_)
    intro w4 e1 e2 e3 e4
    have X4 := Lib.hid e1
    have B4 := Lib.hid (B3.out.trans (e3.mono hg3w))
    have RM4 : Hid (RdRm w4.heap.size w4 (.slice AP nP cP) (.slice AR nR cR) (.slice AT nT cT) (.slice AQ nQ cQ) rm0) := by
      exact Lib.hid (RM.out.belowM (by rw [HG3.out]; exact HBW.out.trans e3))
    clear e1 e2 e3 e4 A1 B3 RM3 RM
    go_wp2
    go_loopw [4] (fun x wr => ∃ i : Nat, i ≤ n ∧ x = .int .i64 (i : Int) ∧ Hid (∃ vN vS vW vL, RdRm wr.heap.size wr vN vS vW vL (foldR rm0 (l.take i)).1 ∧ Blk wr g3 (rmc (mT (foldR rm0 (l.take i)).1) vN vS vW vL) 33) ∧ Hid (Below w.heap.size w wr)) (fun x _ => n - (intOf x).toNat)
    case atStart => exact ⟨0, Nat.zero_le _, rfl, Lib.hid ⟨_, _, _, _, by rw [List.take_zero]; exact RM4.out, by rw [List.take_zero]; exact X4.out⟩, B4⟩
    case round =>
      clear X4 B4 RM4
      obtain ⟨i, hi, rfl, HIV, HB⟩ := hrel
      obtain ⟨vN, vS, vW, vL, hF, hX⟩ := HIV.out
      obtain ⟨y, hy⟩ : ∃ q, (foldR rm0 (l.take i)).1 = q := ⟨_, rfl⟩
      rw [hy] at hF hX
      have HYR : Hid (RightR y) := by rw [← hy]; exact Lib.hid (right_fold _ rm0 right_rm0)
      have HYN : Hid (NamesR (mL y)) := by rw [← hy]; exact Lib.hid (names_fold _ rm0 right_rm0 (fun x h => by cases h))
      have HYO : Hid (OwnersR y) := by rw [← hy]; exact Lib.hid (owners_fold _ rm0 owners_rm0)
      have F := Lib.hid hF
      have X3 := Lib.hid hX
      have HYq := Lib.hid hy
      clear hF hX hy HIV
      by_cases hi2 : i < n
      · have zi : (i : Int) < (n : Int) := by omega
        have hil : i < l.length := by rw [HL.out]; exact hi2
        have hws := HB.out.size
        have hOr := (HO.out.below HB.out).more hws
        obtain ⟨a, hA, -⟩ := hOr.cells i hil
        subst hA
        have hsn := fold_snoc rm0 l i hil
        have hmem : l.getD i or0 ∈ l := by
          rw [List.getD_eq_getElem?_getD, List.getElem?_eq_getElem hil]
          exact List.getElem_mem hil
        have hio := HI.out _ hmem
        rw [HYq.out] at hsn
        obtain ⟨o, ho⟩ : ∃ q, l.getD i or0 = q := ⟨_, rfl⟩
        have hnf : ∀ W, Below wr.heap.size wr W → ∀ j v, (orc o)[j]? = some v → W.cell? ((a.add (i * 8)).add j) = some v := by
          intro W hW j v hv
          refine (hOr.below hW).node i hil j v ?_
          show (orc (l.getD i or0))[j]? = some v
          rw [ho]
          exact hv
        rw [ho] at hio hsn
        have HNF := Lib.hid hnf
        have HIO := Lib.hid hio
        obtain ⟨Y, hY⟩ : ∃ q, applyR y o = q := ⟨_, rfl⟩
        have hsn2 := congrArg (fun q => q.1) hsn
        dsimp only at hsn2
        rw [hY] at hsn2
        have HSN := Lib.hid hsn2
        have HY := Lib.hid hY
        have HRY : Hid (RightR Y.1) := by rw [← hY]; exact Lib.hid (right_apply _ _ HYR.out)
        have HNY : Hid (NamesR (mL Y.1)) := by rw [← hY]; exact Lib.hid (names_apply _ _ HYR.out HYN.out).1
        have HOY : Hid (OwnersR Y.1) := by rw [← hY]; exact Lib.hid (owners_apply _ _ HYO.out)
        clear hY hsn hsn2 hnf hio hmem ho hOr hil
        go_wp2
        refine wp_region_relyF [8, 9] 12 3 (fun x => ⟨#[.slice (some a) n c, undef, u2, .pointer (some { block := g3, off := 0 }), .int IntKind.i64 ↑i, x 10, x 11, u7, u8, u9, .slice (some a) n c, .bool true, .bool false, undef, .agg (rmc (mT rm0) (Value.slice AP nP cP) (Value.slice AR nR cR) (Value.slice AT nT cT) (Value.slice AQ nQ cQ)).toArray, .int IntKind.i64 ↑i, .slice (some a) n c, .int IntKind.i64 ↑n, .bool true, u19, u20, x 6, x 0, x 1, x 2, x 3, x 4, x 5, x 7, x 8, x 9, u31, u32, u33, u34, u35, u36, u37, u38, u39, u40, u41, u42, u43, u44, u45, u46, u47, u48, u49, u50, u51, u52, u53, u54, u55, u56, u57, u58, u59, u60, u61, u62, u63, u64, undef], []⟩) (fun jj => ([(eqV (.agg (rmc (mT y) vN vS vW vL).toArray)), (eqV (.slice (some a) n c)), (eqV (.int .i64 (i : Int))), (eqV (.pointer (some (a.add (i * 8))))), (eqV (.agg (orc o).toArray)), (AppV wr.heap.size Y), (AppV wr.heap.size Y), (RmV wr.heap.size Y.1), (RpO wr.heap.size Y.2.1), (fun v w => EvO wr.heap.size w v Y.2.2), (NewBx 33 (rmc 0 (.slice none 0 0) (.slice none 0 0) (.slice none 0 0) (.slice none 0 0)) wr.heap.size), (NewBx 57 (rpc rp0 (.slice none 0 0)) wr.heap.size)] : List (Value → World → Prop)).getD jj (fun _ _ => True)) rfl ⟨fun kk => [_, _, _, _, _, _, _, _, _, _, _, _].getD kk undef, rfl⟩ (by kernel_rfl) (lateF_of 2 (by decide) (by kernel_rfl)) (by kernel_rfl) ?pure ?steps ?fin
        case steps => as_aux_lemma =>
            refine StepsAt.val 0 (.agg (rmc (mT y) vN vS vW vL).toArray) rfl (fun _ _ => rfl) rfl rfl (fun x w1 hb hd => ?_) ?_
            · refine run_load_part 33 _ rfl g3 0 (rmc (mT y) vN vS vW vL) (rmc (mT y) vN vS vW vL) 33 rfl (X3.out.below hb X3.out.lt) rfl huR hdR szRmP
            refine StepsAt.val 1 (.slice (some a) n c) rfl (fun _ _ => rfl) rfl rfl (fun x w1 hb hd => ?_) ?_
            · first | (go_simp; done) | (go_simp; rfl)
            refine StepsAt.val 2 (.int .i64 (i : Int)) rfl (fun _ _ => rfl) rfl rfl (fun x w1 hb hd => ?_) ?_
            · first | (go_simp; done) | (go_simp; rfl)
            refine StepsAt.val 3 (.pointer (some (a.add (i * 8)))) rfl (fun _ _ => rfl) rfl rfl (fun x w1 hb hd => ?_) ?_
            · have h1 : x 1 = .slice (some a) n c := hd 1 (by kernel_rfl)
              have h2 : x 2 = .int .i64 (i : Int) := hd 2 (by kernel_rfl)
              rw [h1, h2]
              clear h1 h2
              first | (go_simp; done) | (go_simp; rfl)
            refine StepsAt.val 4 (.agg (orc o).toArray) rfl (fun _ _ => rfl) rfl rfl (fun x w1 hb hd => ?_) ?_
            · have h3 : x 3 = .pointer (some (a.add (i * 8))) := hd 3 (by kernel_rfl)
              refine run_loadop_rowE 35 _ rfl (a.add (i * 8)) ?_ (orc o) (HNF.out w1 hb) dO huO hdO szOrT
              rw [h3]
              rfl
            refine StepsAt.cons 5 (fun _ _ _ h hb => h.keep hb) (fun _ _ => rfl) rfl rfl (fun x w1 hb hd K hK => ?_) ?_
            · have h0 : x 0 = .agg (rmc (mT y) vN vS vW vL).toArray := hd 0 (by kernel_rfl)
              have h4 : x 4 = .agg (orc o).toArray := hd 4 (by kernel_rfl)
              have H0 := Lib.hid h0
              have H4 := Lib.hid h4
              clear h0 h4
              go_simp
              refine calls_args (args2 := #[.agg (rmc (mT y) vN vS vW vL).toArray, .agg (orc o).toArray]) (by rw [H0.out, H4.out]) ?_
              refine (rmApply_any y o vN vS vW vL w1 (F.out.belowM hb) HYR.out HYN.out HIO.out).mono ?_
              intro e w99 h99
              rw [HY.out] at h99
              obtain ⟨v, rfl, h2, hb99⟩ := h99.val (B := wr.heap.size) hb.size
              exact hK.out _ _ hb99 h2
            refine StepsAt.rel 6 (fun _ _ _ h hb => AppV.keep h hb) (fun _ _ => rfl) rfl rfl (fun x w1 hb hd => ?_) ?_
            · have h9 : AppV wr.heap.size Y (x 5) w1 := hd 5 (by kernel_rfl)
              refine ⟨x 5, ?_, h9⟩
              first | (go_simp; done) | (go_simp; rfl)
            refine StepsAt.rel 7 (fun _ _ _ h hb => RmV.keep h hb) (fun _ _ => rfl) rfl rfl (fun x w1 hb hd => ?_) ?_
            · obtain ⟨a, b, cc, hx, h1, h2, h3⟩ : AppV wr.heap.size Y (x 6) w1 := hd 6 (by kernel_rfl)
              refine ⟨a, ?_, h1⟩
              rw [hx]
              first | (go_simp; done) | (go_simp; rfl)
            refine StepsAt.rel 8 (fun _ _ _ h hb => RpO.keep h hb) (fun _ _ => rfl) rfl rfl (fun x w1 hb hd => ?_) ?_
            · obtain ⟨a, b, cc, hx, h1, h2, h3⟩ : AppV wr.heap.size Y (x 6) w1 := hd 6 (by kernel_rfl)
              refine ⟨b, ?_, h2⟩
              rw [hx]
              first | (go_simp; done) | (go_simp; rfl)
            refine StepsAt.rel 9 (fun _ _ _ h hb => EvO.below h hb) (fun _ _ => rfl) rfl rfl (fun x w1 hb hd => ?_) ?_
            · obtain ⟨a, b, cc, hx, h1, h2, h3⟩ : AppV wr.heap.size Y (x 6) w1 := hd 6 (by kernel_rfl)
              refine ⟨cc, ?_, h3⟩
              rw [hx]
              first | (go_simp; done) | (go_simp; rfl)
            refine StepsAt.cons 10 (fun _ _ _ h hb => NewBx.keep h hb) (fun _ _ => rfl) rfl rfl (fun x w1 hb hd K hK => ?_) ?_
            · refine wp_of_list rfl (wpList_alloc_blk rfl 33 rfl (rmc 0 (.slice none 0 0) (.slice none 0 0) (.slice none 0 0) (.slice none 0 0)) zeroRmP ?_)
              intro w8 a1 a2 a3
              exact hK.out _ _ a3 ⟨_, rfl, a1, hb.size⟩
            refine StepsAt.cons 11 (fun _ _ _ h hb => NewBx.keep h hb) (fun _ _ => rfl) rfl rfl (fun x w1 hb hd K hK => ?_) ?_
            · refine wp_of_list rfl (wpList_alloc_blk rfl 57 rfl (rpc rp0 (.slice none 0 0)) zeroRpT ?_)
              intro w8 a1 a2 a3
              exact hK.out _ _ a3 ⟨_, rfl, a1, hb.size⟩
            exact StepsAt.done
        case pure => as_aux_lemma =>
            intro p hp op ho xx w1 hd
            have key : AppV wr.heap.size Y (xx 6) w1 → p = 8 ∨ p = 9 := fun _ => by simpa using hp
            clear key
            rcases List.mem_cons.1 hp with rfl | hp
            · skip
              injection ho with ho
              subst ho
              obtain ⟨a, b, cc, hx, h1, h2, h3⟩ : AppV wr.heap.size Y (xx 6) w1 := hd 6 (by kernel_rfl)
              refine ⟨rfl, b, fun w' => ?_, h2⟩
              dsimp only
              rw [hx]
              first | (go_simp; done) | (go_simp; rfl)
            · obtain rfl := List.mem_singleton.1 hp
              injection ho with ho
              subst ho
              obtain ⟨a, b, cc, hx, h1, h2, h3⟩ : AppV wr.heap.size Y (xx 6) w1 := hd 6 (by kernel_rfl)
              refine ⟨rfl, cc, fun w' => ?_, h3⟩
              dsimp only
              rw [hx]
              first | (go_simp; done) | (go_simp; rfl)
        case fin =>
          intro xx w1 hb hd
          obtain ⟨zN, zS, zW, zL, hx0, hom⟩ : RmV wr.heap.size Y.1 (xx 7) w1 := hd 7 (by omega)
          obtain ⟨nv, hx1, hon⟩ : RpO wr.heap.size Y.2.1 (xx 8) w1 := hd 8 (by omega)
          have hev : EvO wr.heap.size w1 (xx 9) Y.2.2 := hd 9 (by omega)
          obtain ⟨gR, hxr, hbR, hgR⟩ : NewBx 33 (rmc 0 (.slice none 0 0) (.slice none 0 0) (.slice none 0 0) (.slice none 0 0)) wr.heap.size (xx 10) w1 := hd 10 (by omega)
          obtain ⟨gP, hxp, hbP, hgP⟩ : NewBx 57 (rpc rp0 (.slice none 0 0)) wr.heap.size (xx 11) w1 := hd 11 (by omega)
          obtain ⟨AP, cP, hv1⟩ := hom.n.shape
          obtain ⟨AR, cR, hv2⟩ := hom.s.shape
          obtain ⟨AT, cT, hv3⟩ := hom.t.shape
          obtain ⟨AQ, cQ, hv4, -, -⟩ := hom.l.rd.shape
          obtain ⟨Ax, cx, hv5⟩ := hon.shape
          obtain ⟨nP, hn1⟩ : ∃ q, (mN Y.1).length = q := ⟨_, rfl⟩
          obtain ⟨nR, hn2⟩ : ∃ q, (mS Y.1).length = q := ⟨_, rfl⟩
          obtain ⟨nT, hn3⟩ : ∃ q, (mW Y.1).length = q := ⟨_, rfl⟩
          obtain ⟨nQ, hn4⟩ : ∃ q, (mL Y.1).length = q := ⟨_, rfl⟩
          obtain ⟨nx, hn5⟩ : ∃ q, (pN Y.2.1).length = q := ⟨_, rfl⟩
          rw [hn1] at hv1
          rw [hn2] at hv2
          rw [hn3] at hv3
          rw [hn4] at hv4
          rw [hn5] at hv5
          subst hv1 hv2 hv3 hv4 hv5
          have HNs := Lib.hid hn1
          have OM := Lib.hid hom
          have ON := Lib.hid hon
          have EV := Lib.hid hev
          have BR := Lib.hid hbR
          have BP := Lib.hid hbP
          have EB := Lib.hid hb
          refine AnyTill.any (S := fun _ => True) (m := 15) _ _ _ _ ?_
          rw [hx0, hx1, hxr, hxp]
          clear hd hb hx0 hx1 hxr hxp hbR hbP hom hon hev hn1 hn2 hn3 hn4 hn5
          obtain ⟨RC, hRC⟩ : ∃ q : List Value, rmc (mT Y.1) (.slice AP nP cP) (.slice AR nR cR) (.slice AT nT cT) (.slice AQ nQ cQ) = q := ⟨_, rfl⟩
          have hRA : RC.toArray.all (·.oneCell') = true := by rw [← hRC]; exact rmc_all _ _ _ _ _ _ _ _ _ _ _ _ _
          have hRL : RC.length = 5 := by rw [← hRC]; rfl
          have HRC := Lib.hid hRC
          have HRL := Lib.hid hRL
          rw [hRC]
          clear hRC hRL
          refine AnyTill.one (i := 12) (by kernel_rfl) rfl (by rfl) (fun K hK => ?_)
          refine wp_of_list rfl (wpList_store_to rfl 33 _ _ rfl gR RC (rmc 0 (.slice none 0 0) (.slice none 0 0) (.slice none 0 0) (.slice none 0 0)) 33 rfl rfl BR.out (by rw [HRL.out]; exact szRmP) (by rw [HRL.out]; rfl) hRA ?_)
          intro w8 e1 e2 e3 e4
          refine hK.out _ _ (.inr trivial) ?_
          have KR := Lib.hid (Keep.store (T := fun e => e = 33) (b := wr.heap.size) BR.out rfl hgR e2 e4)
          have R8 := Lib.hid e1
          have P8 := Lib.hid (BP.out.keepT KR.out (by decide))
          have OM := Lib.hid (OM.out.keepR KR.out)
          have ON := Lib.hid (ON.out.keep KR.out (by decide))
          have EV := Lib.hid (EV.out.keep KR.out (by decide))
          have EB := Lib.hid (EB.out.trans (e3.mono hgR))
          clear hK K e1 e2 e3 e4 KR BR BP
          refine AnyTill.one (i := 13) (by kernel_rfl) rfl (by rfl) (fun K hK => ?_)
          refine wp_of_list rfl (wpList_store_to rfl 57 _ _ rfl gP (rpc Y.2.1 (.slice Ax nx cx)) (rpc rp0 (.slice none 0 0)) 57 rfl rfl P8.out szRpT rfl (rpc_allM _ _ _ _) ?_)
          intro w9 e1 e2 e3 e4
          refine hK.out _ _ (.inr trivial) ?_
          have KP := Lib.hid (Keep.store (T := fun e => e = 57) (b := wr.heap.size) P8.out rfl hgP e2 e4)
          have R9 := Lib.hid (R8.out.keepT KP.out (by decide))
          have P9 := Lib.hid e1
          have OM := Lib.hid (OM.out.storeP (fun x hx => (HRY.out.fine x hx).2.2) P8.out hgP e2 e4 e1 rfl)
          have RM := Lib.hid OM.out.rd
          have ON := Lib.hid (ON.out.keep KP.out (by decide))
          have EV := Lib.hid (EV.out.keep KP.out (by decide))
          have EB := Lib.hid (EB.out.trans (e3.mono hgP))
          clear hK K e1 e2 e3 e4 KP R8 P8
          refine AnyTill.one (i := 14) (by kernel_rfl) rfl (by rfl) (fun K hK => ?_)
          go_simp
          refine hK.out _ _ (.inr trivial) ?_
          clear hK K
          refine AnyTill.done (by kernel_rfl) ?_
          refine NoPanic.normal ?_
          try dsimp only
          have hsz := EB.out.size
          have X39 := Lib.hid (X3.out.below EB.out X3.out.lt)
          have B9 := Lib.hid (HB.out.trans (EB.out.mono hws))
          have hs9 : w.heap.size ≤ w9.heap.size := Nat.le_trans hws hsz
          clear EB EV ON P9 F X3 HB RM
          obtain ⟨v9, hv9⟩ : ∃ q, xx 9 = q := ⟨_, rfl⟩
          obtain ⟨v6, hv6⟩ : ∃ q, xx 6 = q := ⟨_, rfl⟩
          obtain ⟨v0, hv0⟩ : ∃ q, xx 0 = q := ⟨_, rfl⟩
          obtain ⟨v1, hv1⟩ : ∃ q, xx 1 = q := ⟨_, rfl⟩
          obtain ⟨v2, hv2⟩ : ∃ q, xx 2 = q := ⟨_, rfl⟩
          obtain ⟨v3, hv3⟩ : ∃ q, xx 3 = q := ⟨_, rfl⟩
          obtain ⟨v4, hv4⟩ : ∃ q, xx 4 = q := ⟨_, rfl⟩
          obtain ⟨v5, hv5⟩ : ∃ q, xx 5 = q := ⟨_, rfl⟩
          rw [hv9, hv6, hv0, hv1, hv2, hv3, hv4, hv5]
          clear hv9 hv6 hv0 hv1 hv2 hv3 hv4 hv5
          go_wp2_with (first | refine wpList_load_part rfl 33 _ rfl gR 0 RC RC 33 rfl R9.out (by simp) huR hdR (by rw [HRL.out]; exact szRmP) ?_ | refine wpList_store_to rfl 33 _ _ rfl g3 RC (rmc (mT y) vN vS vW vL) 33 rfl rfl X39.out (by rw [HRL.out]; exact szRmP) (by rw [HRL.out]; rfl) hRA ?_)
          intro wa e1 e2 e3 e4
          have Xa := Lib.hid e1
          have RMa := Lib.hid (OM.out.keepR (Keep.store (T := fun e => e = 33) (b := w.heap.size) X39.out rfl hg3w e2 e4)).rd
          have Ba := Lib.hid (B9.out.trans (e3.mono hg3w))
          clear e1 e2 e3 e4 OM X39 B9 hs9 R9
          have hnP : nP ≤ 200 := by rw [← HNs.out]; exact HRY.out.n.few
          go_wp2
          go_loopw [8] (fun x wq => ∃ k : Nat, k ≤ nP ∧ x = .int .i64 (k : Int) ∧ Hid (Blk wq g3 RC 33) ∧ Hid (RdRm wq.heap.size wq (.slice AP nP cP) (.slice AR nR cR) (.slice AT nT cT) (.slice AQ nQ cQ) Y.1) ∧ Hid (Below w.heap.size w wq)) (fun x _ => nP - (intOf x).toNat)
          case atStart => exact ⟨0, Nat.zero_le _, rfl, Xa, RMa, Ba⟩
          case round =>
            clear Xa RMa Ba
            obtain ⟨k, hk, rfl, X, RM, HB⟩ := hrel
            have z0 : wr.cell? ⟨g3, 0, none⟩ = some (.slice AP nP cP) := (X.out.cell 0).trans (by rw [← HRC.out]; rfl)
            by_cases hk2 : k < nP
            · have zk : (k : Int) < (nP : Int) := by omega
              have hkl : k < (mN Y.1).length := by rw [HNs.out]; exact hk2
              have hnr := RM.out.n.toE
              obtain ⟨b, hA, -⟩ := hnr.cells k hkl
              subst hA
              obtain ⟨x, hx⟩ : ∃ q, (mN Y.1).getD k nd0 = q := ⟨_, rfl⟩
              have hmem : x ∈ mN Y.1 := by
                rw [← hx, List.getD_eq_getElem?_getD, List.getElem?_eq_getElem hkl]
                exact List.getElem_mem hkl
              have hnd : ∀ j v, (ndc x)[j]? = some v → wr.cell? ((b.add (k * 4)).add j) = some v := by
                intro j v hv
                refine hnr.node k hkl j v ?_
                show (ndc ((mN Y.1).getD k nd0))[j]? = some v
                rw [hx]
                exact hv
              have hfine := HRY.out.n.fine x hmem
              have hown := HOY.out x hmem
              have hge : ¬ nO x < 0 := by
                unfold fineN at hfine
                simp only [Bool.and_eq_true, decide_eq_true_eq] at hfine
                omega
              have HOWN := Lib.hid hown
              have hgl := X.out.lt
              have hws := HB.out.size
              clear hx hmem hfine hown hnr hkl
              go_wp2_with (first | refine wpList_load_rowE rfl 91 _ rfl (b.add (k * 4)) (by first | rfl | (simp [Act.eval, Act.put, Addr.add])) (ndc x) hnd dN huN hdN sPN ?_ | refine wpList_alloc_blk rfl 91 rfl (ndc nd0) zPN ?_)
              intro wb a1 a2 a3
              obtain ⟨gN, hgN⟩ : ∃ g, wr.heap.size = g := ⟨_, rfl⟩
              have A1 := Lib.hid a1
              have BA := Lib.hid a3
              rw [hgN] at A1 BA ⊢
              have HGN := Lib.hid hgN
              clear a1 a2 a3 hgN hnd z0
              go_wp2_with (refine wpList_store_to rfl 91 _ _ rfl gN (ndc x) (ndc nd0) 91 rfl rfl A1.out sPN rfl (enc_all NdK x) ?_)
              intro wc e1 e2 e3 e4
              have N1 := Lib.hid e1
              have BB : Hid (Below wr.heap.size wr wc) := Lib.hid (by rw [HGN.out]; exact BA.out.trans e3)
              have Xc := Lib.hid (X.out.below BB.out hgl)
              have RMc := Lib.hid (RM.out.belowM BB.out)
              have HBc := Lib.hid (HB.out.trans (BB.out.mono hws))
              have hwc : w.heap.size ≤ wc.heap.size := Nat.le_trans hws BB.out.size
              clear e1 e2 e3 e4 A1 BA BB X RM HB HGN hgl hws
              have z3 : wc.cell? ⟨gN, 3, none⟩ = some (.int .i64 (nO x)) := (N1.out.cell 3).trans rfl
              by_cases h0 : 0 < nO x
              · have hhas : Hid (hasSe (mS Y.1) (nO x) = true) := Lib.hid ((hasSe_of _ _).2 (HOWN.out h0))
                go_wp2_with (first | refine wpList_load_partG (by rfl) 27 _ rfl g3 1 RC [.int .i64 (mT Y.1), .slice AR nR cR] 33 rfl Xc.out (by rw [← HRC.out]; rfl) huB hdB szBkT ?_ | fail)
                refine (bkHas_any (mT Y.1) (mS Y.1) (nO x) (.slice AR nR cR) wc RMc.out.s HRY.out.b).mono ?_
                rintro e wd ⟨rfl, hb⟩
                rw [hhas.out]
                have Xd := Lib.hid (Xc.out.below hb Xc.out.lt)
                have RMd := Lib.hid (RMc.out.belowM hb)
                have HBd := Lib.hid (HBc.out.trans (hb.mono hwc))
                clear hb z3
                go_wp2
                go_roundw
                case rel => exact ⟨k + 1, by omega, by go_num, Xd, RMd, HBd⟩
                case measure => simp [intOf]; omega
              · go_wp2
                go_roundw
                case rel => exact ⟨k + 1, by omega, by go_num, Xc, RMc, HBc⟩
                case measure => simp [intOf]; omega
            · obtain rfl : k = nP := by omega
              have zk : ¬ (k : Int) < (k : Int) := by omega
              have hws := HB.out.size
              go_wp2_with (first | refine wpList_load_part rfl 33 _ rfl g3 0 RC RC 33 rfl X.out (by simp) huR hdR (by rw [HRL.out]; exact szRmP) ?_ | fail)
              refine calls_args (args2 := #[.agg (rmc (mT Y.1) (.slice AP k cP) (.slice AR nR cR) (.slice AT nT cT) (.slice AQ nQ cQ)).toArray]) (by rw [HRC.out]) ?_
              refine (rmRight_yes Y.1 _ _ _ _ wr RM.out HRY.out).mono ?_
              rintro e wd ⟨rfl, hb⟩
              have Xd : Hid (Blk wd g3 (rmc (mT Y.1) (.slice AP k cP) (.slice AR nR cR) (.slice AT nT cT) (.slice AQ nQ cQ)) 33) := Lib.hid (by rw [HRC.out]; exact X.out.below hb X.out.lt)
              have RMd := Lib.hid (RM.out.belowM hb)
              have HBd := Lib.hid (HB.out.trans (hb.mono hws))
              clear hb z0
              go_wp2
              go_roundw
              case rel =>
                refine ⟨i + 1, by omega, by go_num, ?_, HBd⟩
                rw [HSN.out]
                exact Lib.hid ⟨_, _, _, _, RMd.out, Xd.out⟩
              case measure => simp [intOf]; omega
      · have zi : ¬ (i : Int) < (n : Int) := by omega
        go_wp2_with fail
        refine (alive13 wr).mono ?_
        rintro e wd ⟨rfl, hb⟩
        have HBd := Lib.hid (HB.out.trans (hb.mono HB.out.size))
        clear hb
        go_wp2
        go_ret
        exact ⟨rfl, HBd.out⟩
end Go.Proofs.YtdihngkdhanhkaaGreatDoor
namespace Go.Proofs.YtdihngkdhanhkaaGreatDoor
open Go.RowKit Go.ChangeShapes Go.WideShapes

theorem nTxK : Tryz.prog.cellsOf 9 = 1 := by kernel_rfl
theorem nInK : Tryz.prog.cellsOf 3 = 1 := by kernel_rfl
theorem nOrK : Tryz.prog.cellsOf 35 = 8 := by kernel_rfl
theorem txt_ofK (s : ByteArray) : Value.string s = txt s.data.toList := by
  cases s
  simp [txt]
theorem split8K (cs : List Value) (h : cs.length = 8) : cs = (cs.drop 0).take 1 ++ ((cs.drop 1).take 1 ++ ((cs.drop 2).take 1 ++ ((cs.drop 3).take 1 ++ ((cs.drop 4).take 1 ++ ((cs.drop 5).take 1 ++ ((cs.drop 6).take 1 ++ ((cs.drop 7).take 1))))))) := by
  match cs, h with
  | [_, _, _, _, _, _, _, _], _ => rfl
section
variable {H : Type} {enc : TypeId × Value → H} {P : Program} {w : World} {base : Nat} {spare : TypeId → Bool} {held : Bool}
theorem trod_struct8K {t : TypeId} {f0 f1 f2 f3 f4 f5 f6 f7 : Field} {fuel : Nat} {cs : List Value} {x : DataW H × List MemPlace} (ht : P.underlying t = some (.struct #[f0, f1, f2, f3, f4, f5, f6, f7])) (h : DataW.trod enc P w base spare held fuel t cs = some x) :
    ∃ y0 y1 y2 y3 y4 y5 y6 y7 n, cs.length = P.cellsOf t ∧ DataW.trod enc P w base spare held n f0.type ((cs.drop f0.offset).take (P.cellsOf f0.type)) = some y0 ∧ DataW.trod enc P w base spare held n f1.type ((cs.drop f1.offset).take (P.cellsOf f1.type)) = some y1 ∧ DataW.trod enc P w base spare held n f2.type ((cs.drop f2.offset).take (P.cellsOf f2.type)) = some y2 ∧ DataW.trod enc P w base spare held n f3.type ((cs.drop f3.offset).take (P.cellsOf f3.type)) = some y3 ∧ DataW.trod enc P w base spare held n f4.type ((cs.drop f4.offset).take (P.cellsOf f4.type)) = some y4 ∧ DataW.trod enc P w base spare held n f5.type ((cs.drop f5.offset).take (P.cellsOf f5.type)) = some y5 ∧ DataW.trod enc P w base spare held n f6.type ((cs.drop f6.offset).take (P.cellsOf f6.type)) = some y6 ∧ DataW.trod enc P w base spare held n f7.type ((cs.drop f7.offset).take (P.cellsOf f7.type)) = some y7 := by
  obtain ⟨xs, n, _, rfl, hl, hlen, hf⟩ := DataW.trod_struct ht h
  match xs, hlen with
  | [y0, y1, y2, y3, y4, y5, y6, y7], _ => exact ⟨y0, y1, y2, y3, y4, y5, y6, y7, n, hl, by simpa using hf 0 f0 rfl, by simpa using hf 1 f1 rfl, by simpa using hf 2 f2 rfl, by simpa using hf 3 f3 rfl, by simpa using hf 4 f4 rfl, by simpa using hf 5 f5 rfl, by simpa using hf 6 f6 rfl, by simpa using hf 7 f7 rfl⟩
end
section
variable {H : Type} {enc : TypeId × Value → H} {W : World} {spare : TypeId → Bool} {held : Bool}
set_option maxRecDepth 100000 in
theorem trod_orderK (fuel : Nat) (cs : List Value) (x : DataW H × List MemPlace) (h : DataW.trod enc Tryz.prog W 0 spare held fuel 35 cs = some x) : ∃ o : Or, cs = OrK.enc o ∧ fitI (oS o) := by
  obtain ⟨y0, y1, y2, y3, y4, y5, y6, y7, n, hl, t0, t1, t2, t3, t4, t5, t6, t7⟩ := trod_struct8K Tryz.underlying35 h
  simp only [nTxK, nInK] at t0 t1 t2 t3 t4 t5 t6 t7
  obtain ⟨a0, h0, _, w0⟩ := DataW.trod_int Tryz.underlying3 t0
  obtain ⟨a1, h1, _, w1⟩ := DataW.trod_int Tryz.underlying3 t1
  obtain ⟨a2, h2, _, w2⟩ := DataW.trod_int Tryz.underlying3 t2
  obtain ⟨a3, h3, _, _⟩ := DataW.trod_string Tryz.underlying9 t3
  obtain ⟨a4, h4, _, _⟩ := DataW.trod_string Tryz.underlying9 t4
  obtain ⟨a5, h5, _, w5⟩ := DataW.trod_int Tryz.underlying3 t5
  obtain ⟨a6, h6, _, w6⟩ := DataW.trod_int Tryz.underlying3 t6
  obtain ⟨a7, h7, _, w7⟩ := DataW.trod_int Tryz.underlying3 t7
  refine ⟨(a0, a1, a2, a3.data.toList, a4.data.toList, a5, a6, a7), ?_, fit_wf w6⟩
  rw [split8K cs (by rw [hl, nOrK]), h0, h1, h2, h3, h4, h5, h6, h7, txt_ofK a3, txt_ofK a4]
  rfl
set_option maxRecDepth 100000 in
theorem open_orders {r : Reach} {base : Nat} {v : Value} {d : DataW H} {p : List MemPlace}
    (hv : Value.okWide Tryz.prog W r base 38 v) (h : DataW.Trod enc Tryz.prog W 0 spare held 38 v d p) : ∃ l, RdE OrK W.heap.size W v l ∧ ∀ o ∈ l, fitI (oS o) := by
  obtain ⟨a, n, c, rfl⟩ := okWide_slice Tryz.underlying38 hv
  obtain ⟨fuel, hf⟩ := h
  obtain ⟨v', l, hc, hr, hF, _⟩ := open_rowsE (E := OrK) (F := fun o => fitI (oS o)) Tryz.underlying38 nOrK trod_orderK hf
  obtain rfl : Value.slice a n c = v' := by simpa [Value.cells] using hc
  exact ⟨l, hr, hF⟩
end
end Go.Proofs.YtdihngkdhanhkaaGreatDoor
