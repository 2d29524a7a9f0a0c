/-
  Texts BK.
-/
import Derived.Test.YtgfobinklijkpaaGreatDoorW01
import Derived.Test.YtgfobinklijkpaaGreatDoorW14
import Derived.Test.YtgfobinklijkpaaGreatDoorW41
import Derived.Test.YtgfobinklijkpaaGreatDoorW42
import Derived.Test.YtgfobinklijkpaaGreatDoorW45
namespace Go.Proofs.YtgfobinklijkpaaGreatDoor
set_option maxRecDepth 100000
set_option maxHeartbeats 16000000
open Go.RowKit
theorem unlike_at {m : List Or} (h : m.Pairwise fun a b => oC a ≠ oC b) (k i : Nat) (hk : k < i) (hi : i < m.length) : oC (m.getD k or0) ≠ oC (m.getD i or0) := by
 have h2 := List.pairwise_iff_getElem.1 h k i (by omega) hi hk
 rw [List.getD_eq_getElem?_getD, List.getD_eq_getElem?_getD, List.getElem?_eq_getElem hi, List.getElem?_eq_getElem (by omega)]
 exact h2
theorem who_at {l : List Rp} {m : List Or} (h : l.map (fun x => (pC x, pQ x)) = m.map fun o => (oC o, oQ o)) (j : Nat) (hj : j < m.length) (hl : j < l.length) : pC (l.getD j rp0) = oC (m.getD j or0) ∧ pQ (l.getD j rp0) = oQ (m.getD j or0) := by
 have h1 := congrArg (fun x => x[j]?) h
 simp only [List.getElem?_map, List.getElem?_eq_getElem hj, List.getElem?_eq_getElem hl, Option.map_some, Option.some.injEq, Prod.mk.injEq] at h1
 rw [List.getD_eq_getElem?_getD, List.getD_eq_getElem?_getD, List.getElem?_eq_getElem hj, List.getElem?_eq_getElem hl]
 exact h1
def LastV (x : Rp × Bool) (v : Value) (_ : World) : Prop := ∃ A n c, v = .tuple #[.agg (rpc x.1 (.slice A n c)).toArray, .bool x.2]
def RpS (x : Rp) (v : Value) (_ : World) : Prop := ∃ A n c, v = .agg (rpc x (.slice A n c)).toArray
theorem once14_all (pa l : List Or) (vp vl : Value) (w : World) (hp : RdE OrK w.heap.size w vp pa) (hfp : ∀ o ∈ pa, fitsO o) (hl : RdE OrK w.heap.size w vl l) (hfl : ∀ o ∈ l, fitsO o) : Calls Tryz.prog 6 #[vp, vl] w (One (.bool true) w) := by
 obtain ⟨A, cp, hv, hc, hm⟩ := hp.shape
 unfold maxLen at hm
 obtain ⟨n, hn⟩ : ∃ n, pa.length = n := ⟨_, rfl⟩
 rw [hn] at hv hc
 subst hv
 obtain ⟨A2, cp2, hv, hc2, hm2⟩ := hl.shape
 unfold maxLen at hm2
 obtain ⟨n2, hn2⟩ : ∃ n, l.length = n := ⟨_, rfl⟩
 rw [hn2] at hv hc2
 subst hv
 have HN := lhd hn
 have HN2 := lhd hn2
 have HP := lhd hp
 have HL := lhd hl
 have HFP := lhd hfp
 have HFL := lhd hfl
 clear hp hl hfp hfl hn hn2
 obtain ⟨dR, huR, hdR⟩ := rowRmP
 obtain ⟨dO, huO, hdO⟩ := rowOrT
 obtain ⟨dP, huP, hdP⟩ := rowRpT
 go_enter Tryz.func6, Tryz.ntmps6
 go_wp2_with fail
 refine (short14 pa (.slice A n cp) w HP.out).mono ?_
 rintro e w1 ⟨b1, rfl, hS, hb⟩
 have B1 := lhd hb
 have HS := lhd hS
 clear hb hS
 cases b1 with
 | false =>
   go_wp2_with fail
   refine (alive14 w1).mono ?_
   rintro e wz ⟨rfl, hbz⟩
   have BZ := lhd (B1.out.trans (hbz.mono B1.out.size))
   clear hbz
   go_wp2
   go_ret
   exact ⟨rfl, BZ.out⟩
 | true =>
 have hn30 : n ≤ 30 := by rw [← HN.out]; exact HS.out rfl
 clear HS
 go_wp2_with fail
 refine (short14 l (.slice A2 n2 cp2) w1 ((HL.out.below B1.out).more B1.out.size)).mono ?_
 rintro e w2 ⟨b2, rfl, hS, hb⟩
 have B2 := lhd (B1.out.trans (hb.mono B1.out.size))
 have HS := lhd hS
 clear hb hS B1
 cases b2 with
 | false =>
   go_wp2_with fail
   refine (alive14 w2).mono ?_
   rintro e wz ⟨rfl, hbz⟩
   have BZ := lhd (B2.out.trans (hbz.mono B2.out.size))
   clear hbz
   go_wp2
   go_ret
   exact ⟨rfl, BZ.out⟩
 | true =>
 have hn230 : n2 ≤ 30 := by rw [← HN2.out]; exact HS.out rfl
 clear HS
 go_wp2_with fail
 refine (rmNew_any w2).mono ?_
 rintro e w3 ⟨vN, vS, vW, vL, rfl, hrm, hb⟩
 have B3 := lhd (B2.out.trans (hb.mono B2.out.size))
 have RM := lhd hrm
 clear hrm hb B2
 go_wp2_with fail
 refine (rmFold_any rm0 pa vN vS vW vL (.slice A n cp) w3 RM.out right_rm0 (fun x h => by cases h) ((HP.out.below B3.out).more B3.out.size) (by rw [HN.out]; omega) (fun o ho => (HFP.out o ho).2.1)).mono ?_
 rintro e w4 ⟨uN, uS, uW, uL, vR0, vE0, rfl, hom, hor, -, hb⟩
 have hRR := right_fold pa rm0 right_rm0
 have hRN := names_fold pa rm0 right_rm0 (fun x h => by cases h)
 obtain ⟨R, hR⟩ : ∃ R, (foldR rm0 pa).1 = R := ⟨_, rfl⟩
 rw [hR] at hom hRR hRN ⊢
 obtain ⟨ArN, crN, hv⟩ := hom.n.shape
 obtain ⟨nrN, hnrN⟩ : ∃ q, (mN R).length = q := ⟨_, rfl⟩
 rw [hnrN] at hv
 subst hv
 obtain ⟨ArS, crS, hv⟩ := hom.s.shape
 obtain ⟨nrS, hnrS⟩ : ∃ q, (mS R).length = q := ⟨_, rfl⟩
 rw [hnrS] at hv
 subst hv
 obtain ⟨ArW, crW, hv⟩ := hom.t.shape
 obtain ⟨nrW, hnrW⟩ : ∃ q, (mW R).length = q := ⟨_, rfl⟩
 rw [hnrW] at hv
 subst hv
 obtain ⟨ArL, crL, hv, -, -⟩ := hom.l.rd.shape
 obtain ⟨nrL, hnrL⟩ : ∃ q, (mL R).length = q := ⟨_, rfl⟩
 rw [hnrL] at hv
 subst hv
 have HRR := lhd hRR
 have HRN := lhd hRN
 have RM4 := lhd hom.rd
 have B4 := lhd (B3.out.trans (hb.mono B3.out.size))
 clear hom hor hb hR hRR hRN hnrN hnrS hnrW hnrL RM B3
 go_wp2_with (refine wpList_alloc_blk rfl 50 rfl (rmc 0 (.slice none 0 0) (.slice none 0 0) (.slice none 0 0) (.slice none 0 0)) zeroRmP ?_)
 intro wbx a1 a2 a3
 obtain ⟨gR, hg⟩ : ∃ g, w4.heap.size = g := ⟨_, rfl⟩
 have A1 := lhd a1
 have BA := lhd a3
 rw [hg] at A1 ⊢
 have HGR := lhd hg
 clear a1 a2 a3 hg
 go_wp2_with (refine wpList_store_to rfl 50 _ _ rfl gR (rmc (mT R) (.slice ArN nrN crN) (.slice ArS nrS crS) (.slice ArW nrW crW) (.slice ArL nrL crL)) (rmc 0 (.slice none 0 0) (.slice none 0 0) (.slice none 0 0) (.slice none 0 0)) 50 rfl rfl A1.out szRmP rfl (rmc_all _ _ _ _ _ _ _ _ _ _ _ _ _) ?_)
 intro w5 e1 e2 e3 e4
 have XR := lhd e1
 have YR : Hid (Below w4.heap.size w4 w5) := lhd (BA.out.trans (by rw [HGR.out]; exact e3))
 clear e1 e2 e3 e4 A1 BA HGR wbx
 have B5 := lhd (B4.out.trans (YR.out.mono B4.out.size))
 have RM5 := lhd (RM4.out.belowM YR.out)
 have RL5 := lhd ((HL.out.below B5.out).more B5.out.size)
 clear RM4 B4 YR
 go_wp2_with (first | refine wpList_load_part rfl 50 _ rfl gR 0 (rmc (mT R) (.slice ArN nrN crN) (.slice ArS nrS crS) (.slice ArW nrW crW) (.slice ArL nrL crL)) (rmc (mT R) (.slice ArN nrN crN) (.slice ArS nrS crS) (.slice ArW nrW crW) (.slice ArL nrL crL)) 50 rfl XR.out rfl huR hdR szRmP ?_ | fail)
 refine (btWaiting_any R l (.slice ArN nrN crN) (.slice ArS nrS crS) (.slice ArW nrW crW) (.slice ArL nrL crL) (.slice A2 n2 cp2) w5 RM5.out HRR.out HRN.out RL5.out).mono ?_
 rintro e w6 ⟨vm, rfl, hom, hb⟩
 have hwp := waitB_P R l
 obtain ⟨m, hm⟩ : ∃ m, waitB R l = m := ⟨_, rfl⟩
 rw [hm] at hom hwp
 obtain ⟨A3, c3, hv, hc3, hm3⟩ := hom.rd.shape
 unfold maxLen at hm3
 obtain ⟨q, hq⟩ : ∃ q, m.length = q := ⟨_, rfl⟩
 rw [hq] at hv hc3
 subst hv
 have hq10 : q ≤ 10 := by rw [← hq]; exact hwp.few
 have hq2 : q ≤ n2 := by rw [← hq, ← HN2.out]; exact hwp.less
 have HQ := lhd hq
 have HW := lhd hwp
 have OM := lhd hom
 have X6 := lhd (XR.out.below hb XR.out.lt)
 have RM6 := lhd (RM5.out.belowM hb)
 have RW6 := lhd hom.rd
 have B6 := lhd (B5.out.trans (hb.mono B5.out.size))
 have KB : Hid (∀ W, Below w6.heap.size w6 W → Below w.heap.size w W) := lhd (fun W hW => B6.out.trans (hW.mono B6.out.size))
 have hgl : gR < w6.heap.size := X6.out.lt
 have f1 : decide ((10 : Int) < (q : Int)) = false := decide_eq_false (by omega)
 have f2 : decide ((n2 : Int) < (q : Int)) = false := decide_eq_false (by omega)
 have f3 : decide (n2 < q) = false := decide_eq_false (by omega)
 have f4 : decide (10 < q) = false := decide_eq_false (by omega)
 clear hm hom hwp hq hb XR RM5 RL5 B5 OM
 have E6 := lhd (Below.refl w6.heap.size w6)
 go_wp2
 go_loopw [9] (fun x wr => ∃ i : Nat, i ≤ q ∧ x = .int .i64 (i : Int) ∧ Hid (Below w6.heap.size w6 wr)) (fun x _ => q - (intOf x).toNat)
 case atStart => exact ⟨0, Nat.zero_le _, rfl, E6⟩
 case round =>
  clear E6
  obtain ⟨i, hi, rfl, EO⟩ := hrel
  by_cases hi2 : i < q
  ·have zi : (i : Int) < (q : Int) := by omega
   have hil : i < m.length := by rw [HQ.out]; exact hi2
   go_wp2
   obtain ⟨wO, hwO⟩ : ∃ z, wr = z := ⟨_, rfl⟩
   rw [hwO] at EO ⊢
   clear hwO wr
   go_loopw [10] (fun x wr => ∃ k : Nat, k ≤ i ∧ x = .int .i64 (k : Int) ∧ Hid (Below w6.heap.size w6 wr)) (fun x _ => i - (intOf x).toNat)
   case atStart => exact ⟨0, Nat.zero_le _, rfl, EO⟩
   case round =>
    clear EO
    obtain ⟨k, hk, rfl, EI⟩ := hrel
    by_cases hk2 : k < i
    ·have zk : (k : Int) < (i : Int) := by omega
     have zkq : (k : Int) < (q : Int) := by omega
     obtain ⟨a, hA, c0, -⟩ := (RW6.out.below EI.out).atOr k (by omega)
     obtain ⟨a', hA', d0, -⟩ := (RW6.out.below EI.out).atOr i hil
     subst hA
     obtain rfl : a = a' := by injection hA'
     have hne : (oC (m.getD k or0) == oC (m.getD i or0)) = false := int_neE _ _ (unlike_at HW.out.unlike k i hk2 hil)
     obtain ⟨z1, hz1⟩ : ∃ z, oC (m.getD k or0) = z := ⟨_, rfl⟩
     obtain ⟨z2, hz2⟩ : ∃ z, oC (m.getD i or0) = z := ⟨_, rfl⟩
     rw [hz1] at c0 hne
     rw [hz2] at d0 hne
     clear hA' hz1 hz2
     go_wp2
     refine wp_region_quiet_lit (by kernel_rfl) (by kernel_rfl) ?_
     repeat (first | go_big_quiet_step (fail) | quiet_step (fail))
     refine wpQuiet_nil ?_
     intro _ hw'
     obtain ⟨nq, hw''⟩ := hw'
     subst hw''
     have EI2 : Hid (Below w6.heap.size w6 (wr.drewN nq)) := Below.drewN' EI.out
     clear c0 d0 hne EI
     go_wp2
     go_roundw
     case rel => exact ⟨k + 1, by omega, by go_num, EI2⟩
     case measure => simp [intOf]; omega
    obtain rfl : k = i := by omega
    go_wp2
    obtain ⟨a, hA, d0, d1, -⟩ := (RW6.out.below EI.out).atOr k hil
    subst hA
    obtain ⟨z, hz⟩ : ∃ z, oC (m.getD k or0) = z := ⟨_, rfl⟩
    obtain ⟨LR, hLR⟩ : ∃ y, lastR (mL R) z = y := ⟨_, rfl⟩
    have HZ := lhd hz
    have HLR := lhd hLR
    have XRr := lhd (X6.out.below EI.out hgl)
    have RMr := lhd (RM6.out.belowM EI.out)
    have KI : Hid (∀ W, Below wr.heap.size wr W → Below w6.heap.size w6 W) := lhd (fun W hW => EI.out.trans (hW.mono EI.out.size))
    have RWr := lhd (RW6.out.below EI.out)
    clear d0 d1 hz hLR
    refine wp_region_relyF [9] 11 2 (fun x => ⟨List.toArray (.slice A n cp :: .slice A2 n2 cp2 :: undef :: undef :: u4 :: .pointer (some { block := gR, off := 0 }) :: vR0 :: vE0 :: .slice (some a) q c3 :: .int IntKind.i64 ↑k :: .int IntKind.i64 ↑k :: x 10 :: u12 :: undef :: undef :: undef :: undef :: undef :: undef :: undef :: undef :: undef :: .slice A n cp :: .bool true :: .bool false :: .bool false :: .slice A2 n2 cp2 :: .bool true :: .bool false :: .bool false :: undef :: .tuple #[Value.agg (rmc (mT R) (Value.slice ArN nrN crN) (Value.slice ArS nrS crS) (Value.slice ArW nrW crW) (Value.slice ArL nrL crL)).toArray, vR0, vE0] :: .agg (rmc (mT rm0) vN vS vW vL).toArray :: .slice A n cp :: .tuple #[Value.agg (rmc (mT R) (Value.slice ArN nrN crN) (Value.slice ArS nrS crS) (Value.slice ArW nrW crW) (Value.slice ArL nrL crL)).toArray, vR0, vE0] :: .agg (rmc (mT R) (Value.slice ArN nrN crN) (Value.slice ArS nrS crS) (Value.slice ArW nrW crW) (Value.slice ArL nrL crL)).toArray :: vR0 :: vE0 :: .agg (rmc (mT R) (Value.slice ArN nrN crN) (Value.slice ArS nrS crS) (Value.slice ArW nrW crW) (Value.slice ArL nrL crL)).toArray :: .slice A2 n2 cp2 :: .slice (some a) q c3 :: .slice (some a) q c3 :: .int IntKind.i64 ↑q :: .bool false :: .bool false :: .slice (some a) q c3 :: .int IntKind.i64 ↑q :: .slice A2 n2 cp2 :: .int IntKind.i64 ↑n2 :: .bool false :: .bool false :: .int IntKind.i64 ↑k :: .slice (some a) q c3 :: .int IntKind.i64 ↑q :: .bool true :: u55 :: u56 :: .int IntKind.i64 ↑k :: .int IntKind.i64 ↑k :: .bool false :: u60 :: u61 :: u62 :: u63 :: u64 :: u65 :: u66 :: u67 :: u68 :: u69 :: u70 :: u71 :: u72 :: x 7 :: x 0 :: x 1 :: x 2 :: x 3 :: x 4 :: x 5 :: x 6 :: x 8 :: x 9 :: u83 :: u84 :: u85 :: u86 :: u87 :: u88 :: u89 :: u90 :: u91 :: u92 :: u93 :: u94 :: u95 :: u96 :: u97 :: u98 :: u99 :: u100 :: u101 :: undef :: undef :: undef :: undef :: undef :: undef :: undef :: undef :: undef :: undef :: undef :: undef :: undef :: undef :: undef :: undef :: undef :: undef :: undef :: undef :: undef :: undef :: undef :: undef :: undef :: undef :: undef :: undef :: undef :: undef :: undef :: undef :: undef :: undef :: undef :: undef :: undef :: undef :: undef :: undef :: undef :: undef :: undef :: undef :: undef :: undef :: undef :: undef :: undef :: undef :: undef :: undef :: undef :: undef :: undef :: undef :: undef :: undef :: undef :: undef :: undef :: undef :: undef :: undef :: undef :: undef :: undef :: undef :: undef :: undef :: undef :: undef :: undef :: undef :: undef :: undef :: undef :: undef :: undef :: undef :: undef :: undef :: undef :: undef :: undef :: undef :: []), []⟩) (fun jj => ([(eqV (.agg (rmc (mT R) (.slice ArN nrN crN) (.slice ArS nrS crS) (.slice ArW nrW crW) (.slice ArL nrL crL)).toArray)), (eqV (.slice (some a) q c3)), (eqV (.int .i64 (k : Int))), (eqV (.pointer (some (a.add (k * 8))))), (eqV (.pointer (some (a.add (k * 8))))), (eqV (.int .i64 z)), (LastV LR), (LastV LR), (RpS LR.1), (eqV (.bool LR.2)), (NewBx 79 (rpc rp0 (.slice none 0 0)) wr.heap.size)] : List (Value → World → Prop)).getD jj (fun _ _ => True)) rfl ⟨fun kk => [_, _, _, _, _, _, _, _, _, _, _].getD kk undef, rfl⟩ (by kernel_rfl) (lateF_of 2 (by decide) (by kernel_rfl)) (by kernel_rfl) ?pure ?steps ?fin
    case steps =>
     refine StepsAt.val 0 (.agg (rmc (mT R) (.slice ArN nrN crN) (.slice ArS nrS crS) (.slice ArW nrW crW) (.slice ArL nrL crL)).toArray) rfl (fun _ _ => rfl) rfl rfl (fun x w1 hb hd => ?_) ?_
     ·refine run_load_part 50 _ rfl gR 0 (rmc (mT R) (.slice ArN nrN crN) (.slice ArS nrS crS) (.slice ArW nrW crW) (.slice ArL nrL crL)) (rmc (mT R) (.slice ArN nrN crN) (.slice ArS nrS crS) (.slice ArW nrW crW) (.slice ArL nrL crL)) 50 rfl (XRr.out.below hb XRr.out.lt) rfl huR hdR szRmP
     refine StepsAt.val 1 (.slice (some a) q c3) rfl (fun _ _ => rfl) rfl rfl (fun x w1 hb hd => ?_) ?_
     ·(go_simp; try rfl)
     refine StepsAt.val 2 (.int .i64 (k : Int)) rfl (fun _ _ => rfl) rfl rfl (fun x w1 hb hd => ?_) ?_
     ·(go_simp; try rfl)
     refine StepsAt.val 3 (.pointer (some (a.add (k * 8)))) rfl (fun _ _ => rfl) rfl rfl (fun x w1 hb hd => ?_) ?_
     ·have h1 : x 1 = .slice (some a) q c3 := hd 1 (by kernel_rfl)
      have h2 : x 2 = .int .i64 (k : Int) := hd 2 (by kernel_rfl)
      rw [h1, h2]
      (go_simp; try rfl)
     refine StepsAt.val 4 (.pointer (some (a.add (k * 8)))) rfl (fun _ _ => rfl) rfl rfl (fun x w1 hb hd => ?_) ?_
     ·have h3 : x 3 = .pointer (some (a.add (k * 8))) := hd 3 (by kernel_rfl)
      rw [h3]
      (go_simp; try rfl)
     refine StepsAt.val 5 (.int .i64 z) rfl (fun _ _ => rfl) rfl rfl (fun x w1 hb hd => ?_) ?_
     ·have h4 : x 4 = .pointer (some (a.add (k * 8))) := hd 4 (by kernel_rfl)
      obtain ⟨a2, hA2, d0, -⟩ := (RWr.out.below (hb.mono EI.out.size)).atOr k hil
      obtain rfl : a = a2 := by injection hA2
      rw [HZ.out] at d0
      rw [h4]
      (go_simp; try rfl)
     refine StepsAt.cons 6 (fun _ _ _ h _ => h) (fun _ _ => rfl) rfl rfl (fun x w1 hb hd K hK => ?_) ?_
     ·have h0 : x 0 = .agg (rmc (mT R) (.slice ArN nrN crN) (.slice ArS nrS crS) (.slice ArW nrW crW) (.slice ArL nrL crL)).toArray := hd 0 (by kernel_rfl)
      have h5 : x 5 = .int .i64 z := hd 5 (by kernel_rfl)
      have H0 := lhd h0
      have H5 := lhd h5
      clear h0 h5
      go_simp
      refine calls_args (args2 := #[.agg (rmc (mT R) (.slice ArN nrN crN) (.slice ArS nrS crS) (.slice ArW nrW crW) (.slice ArL nrL crL)).toArray, .int .i64 z]) (by rw [H0.out, H5.out]) ?_
      refine (rmLast_any R z (.slice ArN nrN crN) (.slice ArS nrS crS) (.slice ArW nrW crW) (.slice ArL nrL crL) w1 (RMr.out.belowM hb) (by have := HRR.out.few; omega) HRN.out HRR.out.asc).mono ?_
      intro e w99 h99
      rw [HLR.out] at h99
      obtain ⟨v, rfl, hv, hb99⟩ : ∃ v, e = .returned v ∧ LastV LR v w99 ∧ Below w1.heap.size w1 w99 := by
       obtain ⟨nv, rfl, hrd, hb99⟩ := h99
       obtain ⟨An, cn, rfl, -, -⟩ := hrd.shape
       exact ⟨_, rfl, ⟨_, _, _, rfl⟩, hb99⟩
      exact hK.out _ _ hb99 hv
     refine StepsAt.rel 7 (fun _ _ _ h _ => h) (fun _ _ => rfl) rfl rfl (fun x w1 hb hd => ?_) ?_
     ·have h6 : LastV LR (x 6) w1 := hd 6 (by kernel_rfl)
      refine ⟨x 6, ?_, h6⟩
      (go_simp; try rfl)
     refine StepsAt.rel 8 (fun _ _ _ h _ => h) (fun _ _ => rfl) rfl rfl (fun x w1 hb hd => ?_) ?_
     ·obtain ⟨An, nn, cn, h7⟩ : LastV LR (x 7) w1 := hd 7 (by kernel_rfl)
      refine ⟨_, ?_, ⟨An, nn, cn, rfl⟩⟩
      rw [h7]
      (go_simp; try rfl)
     refine StepsAt.val 9 (.bool LR.2) rfl (fun _ _ => rfl) rfl rfl (fun x w1 hb hd => ?_) ?_
     ·obtain ⟨An, nn, cn, h7⟩ : LastV LR (x 7) w1 := hd 7 (by kernel_rfl)
      rw [h7]
      (go_simp; try rfl)
     refine StepsAt.cons 10 (fun _ _ _ h hb => NewBx.keep h hb) (fun _ _ => rfl) rfl rfl (fun x w1 hb hd K hK => ?_) ?_
     ·refine wp_of_list rfl (wpList_alloc_blk rfl 79 rfl (rpc rp0 (.slice none 0 0)) zeroRpT ?_)
      intro w8 a1 a2 a3
      exact hK.out _ _ a3 ⟨_, rfl, a1, hb.size⟩
     exact StepsAt.done
    case pure =>
     intro p hp op ho xx w1 hd
     obtain rfl := List.mem_singleton.1 hp
     injection ho with ho
     subst ho
     obtain ⟨An, nn, cn, h7⟩ : LastV LR (xx 7) w1 := hd 7 (by kernel_rfl)
     refine ⟨rfl, .bool LR.2, fun w' => ?_, rfl⟩
     dsimp only
     rw [h7]
     (go_simp; try rfl)
    case fin =>
     intro xx w1 hb hd
     obtain ⟨An, nn, cn, hx8⟩ : RpS LR.1 (xx 8) w1 := hd 8 (by omega)
     have hx9 : xx 9 = .bool LR.2 := hd 9 (by omega)
     obtain ⟨g11, hx10, hbP, hgP⟩ : NewBx 79 (rpc rp0 (.slice none 0 0)) wr.heap.size (xx 10) w1 := hd 10 (by omega)
     have BP := lhd hbP
     have EB := lhd hb
     refine AnyTill.any (S := fun _ => True) (m := 13) _ _ _ _ ?_
     rw [hx8, hx9, hx10]
     clear hd hb hx8 hx9 hx10 hbP
     refine AnyTill.one (i := 11) (by kernel_rfl) rfl (by rfl) (fun K hK => ?_)
     refine wp_of_list rfl (wpList_store_to rfl 79 _ _ rfl g11 (rpc LR.1 (.slice An nn cn)) (rpc rp0 (.slice none 0 0)) 79 rfl rfl BP.out szRpT rfl (rpc_allM _ _ _ _) ?_)
     intro w9 e1 e2 e3 e4
     refine hK.out _ _ (.inr trivial) ?_
     have P9 := lhd e1
     have E9 := lhd (EB.out.trans (e3.mono hgP))
     clear hK K e1 e2 e3 e4 BP EB
     refine AnyTill.one (i := 12) (by kernel_rfl) rfl (by rfl) (fun K hK => ?_)
     go_simp
     refine hK.out _ _ (.inr trivial) ?_
     clear hK K
     refine AnyTill.done (by kernel_rfl) ?_
     refine NoPanic.normal ?_
     try dsimp only
     obtain ⟨X, bI⟩ := LR
     change Hid (Blk w9 g11 (rpc X (.slice An nn cn)) 79) at P9
     have hmm := HW.out.fresh _ (or_mem m k hil)
     have hfr := hmm.1
     have hmay := fresh_may hfr
     unfold freshR at hfr
     rw [HZ.out, HLR.out, hmay, Bool.true_and] at hfr
     dsimp only at hfr
     have HMAY := lhd hmay
     have HFRS := lhd hfr
     have K9 := lhd (KI.out _ E9.out)
     have hs69 : w6.heap.size ≤ w9.heap.size := K9.out.size
     have RW9 := lhd (RW6.out.below K9.out)
     have hg11l : g11 < w9.heap.size := P9.out.lt
     have hno : ((w9 : World)).drew = w9.drew := rfl
     clear hmm hfr hmay XRr RMr KI RWr EI E9 hno
     cases bI
     case false =>
      dsimp only
      clear HFRS
      go_wp2
      obtain ⟨W0, hW0⟩ : ∃ z, w9 = z := ⟨_, rfl⟩
      have ES : Hid (Below W0.heap.size W0 w9.drew) := lhd (by rw [← hW0]; exact (Below.refl _ _).drew)
      rw [hW0] at P9 K9 hs69 RW9 hg11l
      obtain ⟨FF, hF⟩ : ∃ F : (Nat → Value) → Act, F = fun x => ⟨List.toArray (.slice A n cp :: .slice A2 n2 cp2 :: undef :: undef :: u4 :: .pointer (some { block := gR, off := 0 }) :: vR0 :: vE0 :: .slice (some a) q c3 :: .int IntKind.i64 ↑k :: .int IntKind.i64 ↑k :: .pointer (some { block := g11, off := 0 }) :: .bool false :: undef :: undef :: undef :: undef :: undef :: undef :: undef :: undef :: undef :: .slice A n cp :: .bool true :: .bool false :: .bool false :: .slice A2 n2 cp2 :: .bool true :: .bool false :: .bool false :: undef :: .tuple #[Value.agg (rmc (mT R) (Value.slice ArN nrN crN) (Value.slice ArS nrS crS) (Value.slice ArW nrW crW) (Value.slice ArL nrL crL)).toArray, vR0, vE0] :: .agg (rmc (mT rm0) vN vS vW vL).toArray :: .slice A n cp :: .tuple #[Value.agg (rmc (mT R) (Value.slice ArN nrN crN) (Value.slice ArS nrS crS) (Value.slice ArW nrW crW) (Value.slice ArL nrL crL)).toArray, vR0, vE0] :: .agg (rmc (mT R) (Value.slice ArN nrN crN) (Value.slice ArS nrS crS) (Value.slice ArW nrW crW) (Value.slice ArL nrL crL)).toArray :: vR0 :: vE0 :: .agg (rmc (mT R) (Value.slice ArN nrN crN) (Value.slice ArS nrS crS) (Value.slice ArW nrW crW) (Value.slice ArL nrL crL)).toArray :: .slice A2 n2 cp2 :: .slice (some a) q c3 :: .slice (some a) q c3 :: .int IntKind.i64 ↑q :: .bool false :: .bool false :: .slice (some a) q c3 :: .int IntKind.i64 ↑q :: .slice A2 n2 cp2 :: .int IntKind.i64 ↑n2 :: .bool false :: .bool false :: .int IntKind.i64 ↑k :: .slice (some a) q c3 :: .int IntKind.i64 ↑q :: .bool true :: u55 :: u56 :: .int IntKind.i64 ↑k :: .int IntKind.i64 ↑k :: .bool false :: u60 :: u61 :: u62 :: u63 :: u64 :: u65 :: u66 :: u67 :: u68 :: u69 :: u70 :: u71 :: u72 :: xx 7 :: xx 0 :: xx 1 :: xx 2 :: xx 3 :: xx 4 :: xx 5 :: xx 6 :: .agg (rpc X (Value.slice An nn cn)).toArray :: .bool false :: x 0 :: x 1 :: x 2 :: x 3 :: x 4 :: x 5 :: x 6 :: x 7 :: x 8 :: x 9 :: x 10 :: x 11 :: x 12 :: x 13 :: x 14 :: x 15 :: x 16 :: x 17 :: x 18 :: undef :: undef :: undef :: undef :: undef :: undef :: undef :: undef :: undef :: undef :: undef :: undef :: undef :: undef :: undef :: undef :: undef :: undef :: undef :: undef :: undef :: undef :: undef :: undef :: undef :: undef :: undef :: undef :: undef :: undef :: undef :: undef :: undef :: undef :: undef :: undef :: undef :: undef :: undef :: undef :: undef :: undef :: undef :: undef :: undef :: undef :: undef :: undef :: undef :: undef :: undef :: undef :: undef :: undef :: undef :: undef :: undef :: undef :: undef :: undef :: undef :: undef :: undef :: undef :: undef :: undef :: undef :: undef :: undef :: undef :: undef :: undef :: undef :: undef :: undef :: undef :: undef :: undef :: undef :: undef :: undef :: undef :: undef :: undef :: undef :: undef :: []), []⟩ := ⟨_, rfl⟩
      have HFF := lhd hF
      refine wp_region_tillK 19 FF (fun k => [u83, u84, u85, u86, u87, u88, u89, u90, u91, u92, u93, u94, u95, u96, u97, u98, u99, u100, u101].getD k undef) (fun w9 => Below W0.heap.size W0 w9) (by rw [hF]; rfl) rfl (by kernel_rfl) ?_
      intro x hL
      clear hF
      obtain ⟨wA, hwA⟩ : ∃ z, w9.drew = z := ⟨_, rfl⟩
      rw [hwA] at ES ⊢
      clear hwA hW0
      refine AnyTill.tk 0 (.bool false) (wanted_none rfl) HFF hL (fun w9 hS9 => ?_) ES.out ?_
      ·(go_simp; try rfl)
      clear hL x
      intro x hL
      refine AnyTill.tk 1 (.bool false) (wanted_none rfl) HFF hL (fun w9 hS9 => ?_) ES.out ?_
      ·have q0 := hL.at_ 0 rfl
       rw [q0]
       (go_simp; try rfl)
      clear hL x
      intro x hL
      refine AnyTill.skipK 2 rfl (by kernel_rfl) rfl rfl (by kernel_rfl) (by kernel_rfl) HFF (by have hG := hL.at_ 0 rfl; simp [Region.wanted, yielded, hG]) (fun _ _ => rfl) hL rfl (by exact ES.out) ?_
      clear hL x
      intro x hL
      refine AnyTill.skipK 3 rfl (by kernel_rfl) rfl rfl (by kernel_rfl) (by kernel_rfl) HFF (by have hG := hL.at_ 1 rfl; simp [Region.wanted, yielded, hG]) (fun _ _ => rfl) hL rfl (by exact ES.out) ?_
      clear hL x
      intro x hL
      refine AnyTill.skipK 4 rfl (by kernel_rfl) rfl rfl (by kernel_rfl) (by kernel_rfl) HFF (by have hG := hL.at_ 2 rfl; simp [Region.wanted, yielded, hG]) (fun _ _ => rfl) hL rfl (by exact ES.out) ?_
      clear hL x
      intro x hL
      refine AnyTill.skipK 5 rfl (by kernel_rfl) rfl rfl (by kernel_rfl) (by kernel_rfl) HFF (by have hG := hL.at_ 3 rfl; simp [Region.wanted, yielded, hG]) (fun _ _ => rfl) hL rfl (by exact ES.out) ?_
      clear hL x
      intro x hL
      refine AnyTill.skipK 6 rfl (by kernel_rfl) rfl rfl (by kernel_rfl) (by kernel_rfl) HFF (by have hG := hL.at_ 4 rfl; simp [Region.wanted, yielded, hG]) (fun _ _ => rfl) hL rfl (by exact ES.out) ?_
      clear hL x
      intro x hL
      refine AnyTill.skipK 7 rfl (by kernel_rfl) rfl rfl (by kernel_rfl) (by kernel_rfl) HFF (by have hG := hL.at_ 5 rfl; simp [Region.wanted, yielded, hG]) (fun _ _ => rfl) hL rfl (by exact ES.out) ?_
      clear hL x
      intro x hL
      refine AnyTill.skipK 8 rfl (by kernel_rfl) rfl rfl (by kernel_rfl) (by kernel_rfl) HFF (by have hG := hL.at_ 6 rfl; simp [Region.wanted, yielded, hG]) (fun _ _ => rfl) hL rfl (by exact ES.out) ?_
      clear hL x
      intro x hL
      refine AnyTill.skipK 9 rfl (by kernel_rfl) rfl rfl (by kernel_rfl) (by kernel_rfl) HFF (by have hG := hL.at_ 7 rfl; simp [Region.wanted, yielded, hG]) (fun _ _ => rfl) hL rfl (by exact ES.out) ?_
      clear hL x
      intro x hL
      refine AnyTill.tk 10 (.bool false) (wanted_none rfl) HFF hL (fun w9 hS9 => ?_) ES.out ?_
      ·have q1 := hL.at_ 8 rfl
       have q9 := hL.at_ 0 rfl
       rw [q1, q9]
       (go_simp; try rfl)
      clear hL x
      intro x hL
      refine AnyTill.tk 11 (.bool false) (wanted_none rfl) HFF hL (fun w9 hS9 => ?_) ES.out ?_
      ·have q10 := hL.at_ 0 rfl
       rw [q10]
       (go_simp; try rfl)
      clear hL x
      intro x hL
      refine AnyTill.takeK 12 (.slice (some a) q c3) rfl (by kernel_rfl) rfl rfl (by kernel_rfl) (by kernel_rfl) HFF (by have hG := hL.at_ 0 rfl; simp [Region.wanted, yielded, hG]) (fun _ _ => rfl) hL rfl (fun w9 hS9 => ?_) (by exact ES.out) ?_
      ·(go_simp; try rfl)
      clear hL x
      intro x hL
      refine AnyTill.takeK 13 (.int .i64 (k : Int)) rfl (by kernel_rfl) rfl rfl (by kernel_rfl) (by kernel_rfl) HFF (by have hG := hL.at_ 1 rfl; simp [Region.wanted, yielded, hG]) (fun _ _ => rfl) hL rfl (fun w9 hS9 => ?_) (by exact ES.out) ?_
      ·(go_simp; try rfl)
      clear hL x
      intro x hL
      refine AnyTill.takeK 14 (.pointer (some (a.add (k * 8)))) rfl (by kernel_rfl) rfl rfl (by kernel_rfl) (by kernel_rfl) HFF (by have hG := hL.at_ 2 rfl; simp [Region.wanted, yielded, hG]) (fun _ _ => rfl) hL rfl (fun w9 hS9 => ?_) (by exact ES.out) ?_
      ·have q12 := hL.at_ 1 rfl
       have q13 := hL.at_ 0 rfl
       rw [q12, q13]
       (go_simp; try rfl)
      clear hL x
      intro x hL
      refine AnyTill.takeK 15 (.agg (orc (m.getD k or0)).toArray) rfl (by kernel_rfl) rfl rfl (by kernel_rfl) (by kernel_rfl) HFF (by have hG := hL.at_ 3 rfl; simp [Region.wanted, yielded, hG]) (fun _ _ => rfl) hL rfl (fun w9 hS9 => ?_) (by exact ES.out) ?_
      ·have q14 := hL.at_ 0 rfl
       rw [q14]
       obtain ⟨a2, hA2, d0, d1, d2, d3, d4, d5, d6, d7⟩ := (RW9.out.below (hS9.mono hs69)).atOr k hil
       obtain rfl : a = a2 := by injection hA2
       (go_simp; try rfl)
      clear hL x
      intro x hL
      refine AnyTill.oneK 16 (by kernel_rfl) rfl HFF (by have hG := hL.at_ 4 rfl; simp [Region.wanted, yielded, hG]) (fun _ _ => rfl) hL rfl (fun K hK => ?_)
      have q15 := lhd (hL.at_ 0 rfl)
      go_simp
      refine calls_args (args2 := #[.agg (orc (m.getD k or0)).toArray]) (by rw [q15.out]) ?_
      refine (orMay_any (m.getD k or0) wA).mono ?_
      rintro e wB ⟨rfl, hb⟩
      rw [HMAY.out]
      have ES2 := lhd (ES.out.trans (hb.mono ES.out.size))
      refine hK.out _ wB ES2.out ?_
      clear hK K hb ES wA
      clear hL q15 x
      intro x hL
      obtain ⟨wA, rfl⟩ : ∃ q, q = wB := ⟨_, rfl⟩
      have ES := ES2
      clear ES2
      refine AnyTill.takeK 17 (.bool false) rfl (by kernel_rfl) rfl rfl (by kernel_rfl) (by kernel_rfl) HFF (by have hG := hL.at_ 5 rfl; simp [Region.wanted, yielded, hG]) (fun _ _ => rfl) hL rfl (fun w9 hS9 => ?_) (by exact ES.out) ?_
      ·have q16 := hL.at_ 0 rfl
       rw [q16]
       (go_simp; try rfl)
      clear hL x
      intro x hL
      refine AnyTill.tk 18 (.bool false) (wanted_none rfl) HFF hL (fun w9 hS9 => ?_) ES.out ?_
      ·have q11 := hL.at_ 6 rfl
       have q17 := hL.at_ 0 rfl
       rw [q11, q17]
       (go_simp; try rfl)
      clear hL x
      intro x hL
      have q18 := hL.at_ 0 rfl
      refine AnyTill.done (by kernel_rfl) ?_
      refine NoPanic.normal ?_
      rw [HFF.out]
      try dsimp only
      rw [q18]
      clear q18
      clear hL HFF
      have EZ : Hid (Below w6.heap.size w6 wA) := lhd (K9.out.trans (ES.out.mono hs69))
      clear ES K9 RW9 P9
      go_wp2
      go_roundw
      case rel => exact ⟨k + 1, by omega, by go_num, EZ⟩
      case measure => simp [intOf]; omega
     case true =>
      dsimp only
      have hlt : pQ X < oQ (m.getD k or0) := by
       have h := HFRS.out
       simpa using h
      have hge : decide (oQ (m.getD k or0) ≤ pQ X) = false := decide_eq_false (by omega)
      have HGE := lhd hge
      have HLT := lhd hlt
      clear hlt hge
      clear HFRS
      go_wp2
      obtain ⟨W0, hW0⟩ : ∃ z, w9 = z := ⟨_, rfl⟩
      have ES : Hid (Below W0.heap.size W0 w9.drew) := lhd (by rw [← hW0]; exact (Below.refl _ _).drew)
      rw [hW0] at P9 K9 hs69 RW9 hg11l
      obtain ⟨FF, hF⟩ : ∃ F : (Nat → Value) → Act, F = fun x => ⟨List.toArray (.slice A n cp :: .slice A2 n2 cp2 :: undef :: undef :: u4 :: .pointer (some { block := gR, off := 0 }) :: vR0 :: vE0 :: .slice (some a) q c3 :: .int IntKind.i64 ↑k :: .int IntKind.i64 ↑k :: .pointer (some { block := g11, off := 0 }) :: .bool true :: undef :: undef :: undef :: undef :: undef :: undef :: undef :: undef :: undef :: .slice A n cp :: .bool true :: .bool false :: .bool false :: .slice A2 n2 cp2 :: .bool true :: .bool false :: .bool false :: undef :: .tuple #[Value.agg (rmc (mT R) (Value.slice ArN nrN crN) (Value.slice ArS nrS crS) (Value.slice ArW nrW crW) (Value.slice ArL nrL crL)).toArray, vR0, vE0] :: .agg (rmc (mT rm0) vN vS vW vL).toArray :: .slice A n cp :: .tuple #[Value.agg (rmc (mT R) (Value.slice ArN nrN crN) (Value.slice ArS nrS crS) (Value.slice ArW nrW crW) (Value.slice ArL nrL crL)).toArray, vR0, vE0] :: .agg (rmc (mT R) (Value.slice ArN nrN crN) (Value.slice ArS nrS crS) (Value.slice ArW nrW crW) (Value.slice ArL nrL crL)).toArray :: vR0 :: vE0 :: .agg (rmc (mT R) (Value.slice ArN nrN crN) (Value.slice ArS nrS crS) (Value.slice ArW nrW crW) (Value.slice ArL nrL crL)).toArray :: .slice A2 n2 cp2 :: .slice (some a) q c3 :: .slice (some a) q c3 :: .int IntKind.i64 ↑q :: .bool false :: .bool false :: .slice (some a) q c3 :: .int IntKind.i64 ↑q :: .slice A2 n2 cp2 :: .int IntKind.i64 ↑n2 :: .bool false :: .bool false :: .int IntKind.i64 ↑k :: .slice (some a) q c3 :: .int IntKind.i64 ↑q :: .bool true :: u55 :: u56 :: .int IntKind.i64 ↑k :: .int IntKind.i64 ↑k :: .bool false :: u60 :: u61 :: u62 :: u63 :: u64 :: u65 :: u66 :: u67 :: u68 :: u69 :: u70 :: u71 :: u72 :: xx 7 :: xx 0 :: xx 1 :: xx 2 :: xx 3 :: xx 4 :: xx 5 :: xx 6 :: .agg (rpc X (Value.slice An nn cn)).toArray :: .bool true :: x 0 :: x 1 :: x 2 :: x 3 :: x 4 :: x 5 :: x 6 :: x 7 :: x 8 :: x 9 :: x 10 :: x 11 :: x 12 :: x 13 :: x 14 :: x 15 :: x 16 :: x 17 :: x 18 :: undef :: undef :: undef :: undef :: undef :: undef :: undef :: undef :: undef :: undef :: undef :: undef :: undef :: undef :: undef :: undef :: undef :: undef :: undef :: undef :: undef :: undef :: undef :: undef :: undef :: undef :: undef :: undef :: undef :: undef :: undef :: undef :: undef :: undef :: undef :: undef :: undef :: undef :: undef :: undef :: undef :: undef :: undef :: undef :: undef :: undef :: undef :: undef :: undef :: undef :: undef :: undef :: undef :: undef :: undef :: undef :: undef :: undef :: undef :: undef :: undef :: undef :: undef :: undef :: undef :: undef :: undef :: undef :: undef :: undef :: undef :: undef :: undef :: undef :: undef :: undef :: undef :: undef :: undef :: undef :: undef :: undef :: undef :: undef :: undef :: undef :: []), []⟩ := ⟨_, rfl⟩
      have HFF := lhd hF
      refine wp_region_tillK 19 FF (fun k => [u83, u84, u85, u86, u87, u88, u89, u90, u91, u92, u93, u94, u95, u96, u97, u98, u99, u100, u101].getD k undef) (fun w9 => Below W0.heap.size W0 w9) (by rw [hF]; rfl) rfl (by kernel_rfl) ?_
      intro x hL
      clear hF
      obtain ⟨wA, hwA⟩ : ∃ z, w9.drew = z := ⟨_, rfl⟩
      rw [hwA] at ES ⊢
      clear hwA hW0
      refine AnyTill.tk 0 (.bool true) (wanted_none rfl) HFF hL (fun w9 hS9 => ?_) ES.out ?_
      ·(go_simp; try rfl)
      clear hL x
      intro x hL
      refine AnyTill.tk 1 (.bool true) (wanted_none rfl) HFF hL (fun w9 hS9 => ?_) ES.out ?_
      ·have q0 := hL.at_ 0 rfl
       rw [q0]
       (go_simp; try rfl)
      clear hL x
      intro x hL
      refine AnyTill.takeK 2 (.pointer (some ⟨g11, 1, none⟩)) rfl (by kernel_rfl) rfl rfl (by kernel_rfl) (by kernel_rfl) HFF (by have hG := hL.at_ 0 rfl; simp [Region.wanted, yielded, hG]) (fun _ _ => rfl) hL rfl (fun w9 hS9 => ?_) (by exact ES.out) ?_
      ·(go_simp; try rfl)
      clear hL x
      intro x hL
      refine AnyTill.takeK 3 (.int .i64 (pQ X)) rfl (by kernel_rfl) rfl rfl (by kernel_rfl) (by kernel_rfl) HFF (by have hG := hL.at_ 1 rfl; simp [Region.wanted, yielded, hG]) (fun _ _ => rfl) hL rfl (fun w9 hS9 => ?_) (by exact ES.out) ?_
      ·have q2 := hL.at_ 0 rfl
       rw [q2]
       have cc := (P9.out.below hS9 hg11l).at_ 1 _ rfl
       (go_simp; try rfl)
      clear hL x
      intro x hL
      refine AnyTill.takeK 4 (.slice (some a) q c3) rfl (by kernel_rfl) rfl rfl (by kernel_rfl) (by kernel_rfl) HFF (by have hG := hL.at_ 2 rfl; simp [Region.wanted, yielded, hG]) (fun _ _ => rfl) hL rfl (fun w9 hS9 => ?_) (by exact ES.out) ?_
      ·(go_simp; try rfl)
      clear hL x
      intro x hL
      refine AnyTill.takeK 5 (.int .i64 (k : Int)) rfl (by kernel_rfl) rfl rfl (by kernel_rfl) (by kernel_rfl) HFF (by have hG := hL.at_ 3 rfl; simp [Region.wanted, yielded, hG]) (fun _ _ => rfl) hL rfl (fun w9 hS9 => ?_) (by exact ES.out) ?_
      ·(go_simp; try rfl)
      clear hL x
      intro x hL
      refine AnyTill.takeK 6 (.pointer (some (a.add (k * 8)))) rfl (by kernel_rfl) rfl rfl (by kernel_rfl) (by kernel_rfl) HFF (by have hG := hL.at_ 4 rfl; simp [Region.wanted, yielded, hG]) (fun _ _ => rfl) hL rfl (fun w9 hS9 => ?_) (by exact ES.out) ?_
      ·have q4 := hL.at_ 1 rfl
       have q5 := hL.at_ 0 rfl
       rw [q4, q5]
       (go_simp; try rfl)
      clear hL x
      intro x hL
      refine AnyTill.takeK 7 (.pointer (some ⟨(a.add (k * 8)).block, (a.add (k * 8)).off + 1, none⟩)) rfl (by kernel_rfl) rfl rfl (by kernel_rfl) (by kernel_rfl) HFF (by have hG := hL.at_ 5 rfl; simp [Region.wanted, yielded, hG]) (fun _ _ => rfl) hL rfl (fun w9 hS9 => ?_) (by exact ES.out) ?_
      ·have q6 := hL.at_ 0 rfl
       rw [q6]
       (go_simp; try rfl)
      clear hL x
      intro x hL
      refine AnyTill.takeK 8 (.int .i64 (oQ (m.getD k or0))) rfl (by kernel_rfl) rfl rfl (by kernel_rfl) (by kernel_rfl) HFF (by have hG := hL.at_ 6 rfl; simp [Region.wanted, yielded, hG]) (fun _ _ => rfl) hL rfl (fun w9 hS9 => ?_) (by exact ES.out) ?_
      ·have q7 := hL.at_ 0 rfl
       rw [q7]
       obtain ⟨a2, hA2, d0, d1, -⟩ := (RW9.out.below (hS9.mono hs69)).atOr k hil
       obtain rfl : a = a2 := by injection hA2
       (go_simp; try rfl)
      clear hL x
      intro x hL
      refine AnyTill.takeK 9 (.bool false) rfl (by kernel_rfl) rfl rfl (by kernel_rfl) (by kernel_rfl) HFF (by have hG := hL.at_ 7 rfl; simp [Region.wanted, yielded, hG]) (fun _ _ => rfl) hL rfl (fun w9 hS9 => ?_) (by exact ES.out) ?_
      ·have q3 := hL.at_ 5 rfl
       have q8 := hL.at_ 0 rfl
       rw [q3, q8]
       have hge := HGE.out
       first | (go_simp; done) | (go_simp; rfl) | (go_simp; have h := HLT.out; rw [List.getD_eq_getElem?_getD, List.getElem?_eq_getElem hil] at h; exact h)
      clear hL x
      intro x hL
      refine AnyTill.tk 10 (.bool false) (wanted_none rfl) HFF hL (fun w9 hS9 => ?_) ES.out ?_
      ·have q1 := hL.at_ 8 rfl
       have q9 := hL.at_ 0 rfl
       rw [q1, q9]
       (go_simp; try rfl)
      clear hL x
      intro x hL
      refine AnyTill.tk 11 (.bool false) (wanted_none rfl) HFF hL (fun w9 hS9 => ?_) ES.out ?_
      ·have q10 := hL.at_ 0 rfl
       rw [q10]
       (go_simp; try rfl)
      clear hL x
      intro x hL
      refine AnyTill.takeK 12 (.slice (some a) q c3) rfl (by kernel_rfl) rfl rfl (by kernel_rfl) (by kernel_rfl) HFF (by have hG := hL.at_ 0 rfl; simp [Region.wanted, yielded, hG]) (fun _ _ => rfl) hL rfl (fun w9 hS9 => ?_) (by exact ES.out) ?_
      ·(go_simp; try rfl)
      clear hL x
      intro x hL
      refine AnyTill.takeK 13 (.int .i64 (k : Int)) rfl (by kernel_rfl) rfl rfl (by kernel_rfl) (by kernel_rfl) HFF (by have hG := hL.at_ 1 rfl; simp [Region.wanted, yielded, hG]) (fun _ _ => rfl) hL rfl (fun w9 hS9 => ?_) (by exact ES.out) ?_
      ·(go_simp; try rfl)
      clear hL x
      intro x hL
      refine AnyTill.takeK 14 (.pointer (some (a.add (k * 8)))) rfl (by kernel_rfl) rfl rfl (by kernel_rfl) (by kernel_rfl) HFF (by have hG := hL.at_ 2 rfl; simp [Region.wanted, yielded, hG]) (fun _ _ => rfl) hL rfl (fun w9 hS9 => ?_) (by exact ES.out) ?_
      ·have q12 := hL.at_ 1 rfl
       have q13 := hL.at_ 0 rfl
       rw [q12, q13]
       (go_simp; try rfl)
      clear hL x
      intro x hL
      refine AnyTill.takeK 15 (.agg (orc (m.getD k or0)).toArray) rfl (by kernel_rfl) rfl rfl (by kernel_rfl) (by kernel_rfl) HFF (by have hG := hL.at_ 3 rfl; simp [Region.wanted, yielded, hG]) (fun _ _ => rfl) hL rfl (fun w9 hS9 => ?_) (by exact ES.out) ?_
      ·have q14 := hL.at_ 0 rfl
       rw [q14]
       obtain ⟨a2, hA2, d0, d1, d2, d3, d4, d5, d6, d7⟩ := (RW9.out.below (hS9.mono hs69)).atOr k hil
       obtain rfl : a = a2 := by injection hA2
       (go_simp; try rfl)
      clear hL x
      intro x hL
      refine AnyTill.oneK 16 (by kernel_rfl) rfl HFF (by have hG := hL.at_ 4 rfl; simp [Region.wanted, yielded, hG]) (fun _ _ => rfl) hL rfl (fun K hK => ?_)
      have q15 := lhd (hL.at_ 0 rfl)
      go_simp
      refine calls_args (args2 := #[.agg (orc (m.getD k or0)).toArray]) (by rw [q15.out]) ?_
      refine (orMay_any (m.getD k or0) wA).mono ?_
      rintro e wB ⟨rfl, hb⟩
      rw [HMAY.out]
      have ES2 := lhd (ES.out.trans (hb.mono ES.out.size))
      refine hK.out _ wB ES2.out ?_
      clear hK K hb ES wA
      clear hL q15 x
      intro x hL
      obtain ⟨wA, rfl⟩ : ∃ q, q = wB := ⟨_, rfl⟩
      have ES := ES2
      clear ES2
      refine AnyTill.takeK 17 (.bool false) rfl (by kernel_rfl) rfl rfl (by kernel_rfl) (by kernel_rfl) HFF (by have hG := hL.at_ 5 rfl; simp [Region.wanted, yielded, hG]) (fun _ _ => rfl) hL rfl (fun w9 hS9 => ?_) (by exact ES.out) ?_
      ·have q16 := hL.at_ 0 rfl
       rw [q16]
       (go_simp; try rfl)
      clear hL x
      intro x hL
      refine AnyTill.tk 18 (.bool false) (wanted_none rfl) HFF hL (fun w9 hS9 => ?_) ES.out ?_
      ·have q11 := hL.at_ 6 rfl
       have q17 := hL.at_ 0 rfl
       rw [q11, q17]
       (go_simp; try rfl)
      clear hL x
      intro x hL
      have q18 := hL.at_ 0 rfl
      refine AnyTill.done (by kernel_rfl) ?_
      refine NoPanic.normal ?_
      rw [HFF.out]
      try dsimp only
      rw [q18]
      clear q18
      clear hL HFF
      have EZ : Hid (Below w6.heap.size w6 wA) := lhd (K9.out.trans (ES.out.mono hs69))
      clear ES K9 RW9 P9
      go_wp2
      go_roundw
      case rel => exact ⟨k + 1, by omega, by go_num, EZ⟩
      case measure => simp [intOf]; omega
  ·obtain rfl : i = q := by omega
   have hms : ∀ o ∈ m, mayO o = true ∧ fitsO o := fun o ho => ⟨fresh_may (HW.out.fresh o ho).1, HFL.out o (HW.out.fresh o ho).2⟩
   have hgo := enc_good m (by rw [HQ.out]; omega) (fun j hj => (hms _ (or_mem m j hj)).1)
   have hdec := decB_enc m (by rw [HQ.out]; omega) hms
   have hfew := encV_few m
   rw [← hgo.1] at hdec
   obtain ⟨st, hst⟩ : ∃ z, encV m = z := ⟨_, rfl⟩
   have hE := hgo.2
   rw [hst] at hdec hfew
   have HMS := lhd hms
   have HDC := lhd hdec
   have HFW := lhd hfew
   have RWr := lhd ((RW6.out.below EO.out).more EO.out.size)
   have hmf := fun o ho => (hms o ho).2
   clear hgo hdec hfew hms
   go_wp2_with fail
   refine (btEncode_any m (.slice A3 i c3) wr RWr.out hmf).mono ?_
   rintro e wa ⟨rfl, hb⟩
   rw [hst, hE]
   have Ea := lhd (EO.out.trans (hb.mono EO.out.size))
   have Xa := lhd (X6.out.below Ea.out hgl)
   have RMa := lhd (RM6.out.belowM Ea.out)
   have hone := once_wait R m HRR.out (fun o ho => (HW.out.fresh o ho).1) HW.out.unlike
   have hwho := fold_who m R HRR.out (fun o ho => (HMS.out o ho).1)
   have hlen := foldR_len R m
   have hyr := right_fold m R HRR.out
   have hyn := names_fold m R HRR.out HRN.out
   obtain ⟨y, hy⟩ : ∃ z, foldR R m = z := ⟨_, rfl⟩
   have HYY := lhd hy
   rw [hy] at hone hwho hlen hyr hyn
   rw [HQ.out] at hlen
   have HON := lhd hone
   have HWH := lhd hwho
   have HLN := lhd hlen
   have HYR := lhd hyr
   have HYN := lhd hyn
   clear hb hst hE hmf RWr hone hwho hlen hyr hyn hy EO
   go_wp2_with (first | refine wpList_load_part rfl 50 _ rfl gR 0 (rmc (mT R) (.slice ArN nrN crN) (.slice ArS nrS crS) (.slice ArW nrW crW) (.slice ArL nrL crL)) (rmc (mT R) (.slice ArN nrN crN) (.slice ArS nrS crS) (.slice ArW nrW crW) (.slice ArL nrL crL)) 50 rfl Xa.out rfl huR hdR szRmP ?_ | fail)
   have hA := btApply_any R st (.slice ArN nrN crN) (.slice ArS nrS crS) (.slice ArW nrW crW) (.slice ArL nrL crL) wa RMa.out HRR.out HRN.out HFW.out
   have hE0 : decE st = 0 := by unfold decE; rw [HDC.out]; rfl
   rw [hE0, HDC.out] at hA
   have hgd : (some m).getD [] = m := rfl
   rw [hgd, HYY.out] at hA
   have HA := lhd hA
   clear hA hE0 hgd
   refine HA.out.mono ?_
   rintro e wb ⟨uN, uS, uW, uL, vRp, rfl, hom, hor, hb⟩
   obtain ⟨AyN, cyN, hv⟩ := hom.n.shape
   obtain ⟨nyN, hnyN⟩ : ∃ q, (mN y.1).length = q := ⟨_, rfl⟩
   rw [hnyN] at hv
   subst hv
   obtain ⟨AyS, cyS, hv⟩ := hom.s.shape
   obtain ⟨nyS, hnyS⟩ : ∃ q, (mS y.1).length = q := ⟨_, rfl⟩
   rw [hnyS] at hv
   subst hv
   obtain ⟨AyW, cyW, hv⟩ := hom.t.shape
   obtain ⟨nyW, hnyW⟩ : ∃ q, (mW y.1).length = q := ⟨_, rfl⟩
   rw [hnyW] at hv
   subst hv
   obtain ⟨AyL, cyL, hv, -, -⟩ := hom.l.rd.shape
   obtain ⟨nyL, hnyL⟩ : ∃ q, (mL y.1).length = q := ⟨_, rfl⟩
   rw [hnyL] at hv
   subst hv
   have Eb := lhd (Ea.out.trans (hb.mono Ea.out.size))
   have RYb := lhd hom.rd
   have ORb := lhd hor.rd
   clear hom hor hb HA Xa RMa Ea hnyN hnyS hnyW
   go_wp2_with (refine wpList_alloc_blk rfl 50 rfl (rmc 0 (.slice none 0 0) (.slice none 0 0) (.slice none 0 0) (.slice none 0 0)) zeroRmP ?_)
   intro wbx a1 a2 a3
   obtain ⟨g15, hg⟩ : ∃ g, wb.heap.size = g := ⟨_, rfl⟩
   have A1 := lhd a1
   have BA := lhd a3
   rw [hg] at A1 ⊢
   have HGY := lhd hg
   clear a1 a2 a3 hg
   go_wp2_with (refine wpList_store_to rfl 50 _ _ rfl g15 (rmc (mT y.1) (.slice AyN nyN cyN) (.slice AyS nyS cyS) (.slice AyW nyW cyW) (.slice AyL nyL cyL)) (rmc 0 (.slice none 0 0) (.slice none 0 0) (.slice none 0 0) (.slice none 0 0)) 50 rfl rfl A1.out szRmP rfl (rmc_all _ _ _ _ _ _ _ _ _ _ _ _ _) ?_)
   intro wc e1 e2 e3 e4
   have XY := lhd e1
   have YY : Hid (Below wb.heap.size wb wc) := lhd (BA.out.trans (by rw [HGY.out]; exact e3))
   clear e1 e2 e3 e4 A1 BA HGY wbx
   have Ec := lhd (Eb.out.trans (YY.out.mono Eb.out.size))
   have RYc := lhd (RYb.out.belowM YY.out)
   have ORc := lhd ((ORb.out.below YY.out).more YY.out.size)
   clear RYb ORb Eb YY
   go_wp2_with (first | refine wpList_load_part rfl 50 _ rfl g15 0 (rmc (mT y.1) (.slice AyN nyN cyN) (.slice AyS nyS cyS) (.slice AyW nyW cyW) (.slice AyL nyL cyL)) (rmc (mT y.1) (.slice AyN nyN cyN) (.slice AyS nyS cyS) (.slice AyW nyW cyW) (.slice AyL nyL cyL)) 50 rfl XY.out rfl huR hdR szRmP ?_ | fail)
   have hA := btApply_any y.1 st (.slice AyN nyN cyN) (.slice AyS nyS cyS) (.slice AyW nyW cyW) (.slice AyL nyL cyL) wc RYc.out HYR.out HYN.out HFW.out
   have hE0 : decE st = 0 := by unfold decE; rw [HDC.out]; rfl
   rw [hE0, HDC.out] at hA
   have hgd : (some m).getD [] = m := rfl
   rw [hgd] at hA
   have HA := lhd hA
   clear hA hE0 hgd
   refine HA.out.mono ?_
   rintro e wd ⟨uN2, uS2, uW2, uL2, vRp2, rfl, hom, -, hb⟩
   have hsame := HON.out.1
   obtain ⟨y2, hy2⟩ : ∃ z, (foldR y.1 m).1 = z := ⟨_, rfl⟩
   rw [hy2] at hom hsame ⊢
   subst hsame
   obtain ⟨AzN, czN, hv⟩ := hom.n.shape
   obtain ⟨nzN, hnzN⟩ : ∃ q, (mN y.1).length = q := ⟨_, rfl⟩
   rw [hnzN] at hv
   subst hv
   obtain ⟨AzS, czS, hv⟩ := hom.s.shape
   obtain ⟨nzS, hnzS⟩ : ∃ q, (mS y.1).length = q := ⟨_, rfl⟩
   rw [hnzS] at hv
   subst hv
   obtain ⟨AzW, czW, hv⟩ := hom.t.shape
   obtain ⟨nzW, hnzW⟩ : ∃ q, (mW y.1).length = q := ⟨_, rfl⟩
   rw [hnzW] at hv
   subst hv
   obtain ⟨AzL, czL, hv, -, -⟩ := hom.l.rd.shape
   obtain ⟨nzL, hnzL⟩ : ∃ q, (mL y.1).length = q := ⟨_, rfl⟩
   rw [hnzL] at hv
   subst hv
   have Ed := lhd (Ec.out.trans (hb.mono Ec.out.size))
   have RZd := lhd hom.rd
   have RYd := lhd (RYc.out.belowM hb)
   have ORd := lhd ((ORc.out.below hb).more hb.size)
   have XYd := lhd (XY.out.below hb XY.out.lt)
   clear hom hb HA XY RYc ORc Ec hnzN hnzS hnzW hnzL hy2
   go_wp2_with (refine wpList_alloc_blk rfl 50 rfl (rmc 0 (.slice none 0 0) (.slice none 0 0) (.slice none 0 0) (.slice none 0 0)) zeroRmP ?_)
   intro wbx a1 a2 a3
   obtain ⟨g18, hg⟩ : ∃ g, wd.heap.size = g := ⟨_, rfl⟩
   have A1 := lhd a1
   have BA := lhd a3
   rw [hg] at A1 ⊢
   have HGZ := lhd hg
   clear a1 a2 a3 hg
   go_wp2_with (refine wpList_store_to rfl 50 _ _ rfl g18 (rmc (mT y.1) (.slice AzN nzN czN) (.slice AzS nzS czS) (.slice AzW nzW czW) (.slice AzL nzL czL)) (rmc 0 (.slice none 0 0) (.slice none 0 0) (.slice none 0 0) (.slice none 0 0)) 50 rfl rfl A1.out szRmP rfl (rmc_all _ _ _ _ _ _ _ _ _ _ _ _ _) ?_)
   intro we e1 e2 e3 e4
   have XZ := lhd e1
   have YZ : Hid (Below wd.heap.size wd we) := lhd (BA.out.trans (by rw [HGZ.out]; exact e3))
   clear e1 e2 e3 e4 A1 BA HGZ wbx
   have Ee := lhd (Ed.out.trans (YZ.out.mono Ed.out.size))
   have RZe := lhd (RZd.out.belowM YZ.out)
   have RYe := lhd (RYd.out.belowM YZ.out)
   have ORe := lhd ((ORd.out.below YZ.out).more YZ.out.size)
   have XYe := lhd (XYd.out.below YZ.out XYd.out.lt)
   clear RZd RYd ORd XYd Ed YZ
   obtain ⟨Ap, np, cp3, rfl, hcp, hmp⟩ : ∃ A n c, vRp = .slice A n c ∧ n = i ∧ c ≤ 9223372036854775807 := by
    obtain ⟨A, c, hv, h1, h2⟩ := ORe.out.shape
    unfold maxLen at h2
    exact ⟨A, _, c, hv, HLN.out, by omega⟩
   subst hcp
   go_wp2_with (first | refine wpList_load_partG (by rfl) 50 _ rfl g15 0 (rmc (mT y.1) (.slice AyN nyN cyN) (.slice AyS nyS cyS) (.slice AyW nyW cyW) (.slice AyL nyL cyL)) (rmc (mT y.1) (.slice AyN nyN cyN) (.slice AyS nyS cyS) (.slice AyW nyW cyW) (.slice AyL nyL cyL)) 50 rfl XYe.out rfl huR hdR szRmP ?_ | refine wpList_load_partG (by rfl) 50 _ rfl g18 0 (rmc (mT y.1) (.slice AzN nzN czN) (.slice AzS nzS czS) (.slice AzW nzW czW) (.slice AzL nzL czL)) (rmc (mT y.1) (.slice AzN nzN czN) (.slice AzS nzS czS) (.slice AzW nzW czW) (.slice AzL nzL czL)) 50 rfl XZ.out rfl huR hdR szRmP ?_ | fail)
   refine (rmSame_yes y.1 (.slice AyN nyN cyN) (.slice AyS nyS cyS) (.slice AyW nyW cyW) (.slice AyL nyL cyL) (.slice AzN nzN czN) (.slice AzS nzS czS) (.slice AzW nzW czW) (.slice AzL nzL czL) we RYe.out RZe.out HYR.out HYN.out).mono ?_
   rintro e wf ⟨rfl, hb⟩
   have Ef := lhd (Ee.out.trans (hb.mono Ee.out.size))
   have RYf := lhd (RYe.out.belowM hb)
   have ORf := lhd ((ORe.out.below hb).more hb.size)
   have XYf := lhd (XYe.out.below hb XYe.out.lt)
   have KF : Hid (∀ W, Below wf.heap.size wf W → Below w6.heap.size w6 W) := lhd (fun W hW => Ef.out.trans (hW.mono Ef.out.size))
   have hg15 : g15 < wf.heap.size := XYf.out.lt
   clear hb RZe RYe ORe XYe XZ Ee
   go_wp2
   have EJ := lhd (Below.refl wf.heap.size wf)
   go_loopw [21] (fun x wr => ∃ j : Nat, j ≤ np ∧ x = .int .i64 (j : Int) ∧ Hid (Below wf.heap.size wf wr)) (fun x _ => np - (intOf x).toNat)
   case atStart => exact ⟨0, Nat.zero_le _, rfl, EJ⟩
   case round =>
    clear EJ
    obtain ⟨j, hj, rfl, EJ⟩ := hrel
    have K6 := lhd (KF.out _ EJ.out)
    by_cases hj2 : j < np
    ·have zj : (j : Int) < (np : Int) := by omega
     have hjm : j < m.length := by rw [HQ.out]; exact hj2
     obtain ⟨ss, hss, hsv, -⟩ := ORf.out
     have hjy : j < y.2.1.length := by rw [HLN.out]; exact hj2
     have hjr : j < (rvs y.2.1 ss).length := by rw [rvs_len hss]; exact hjy
     obtain ⟨ap, hAp, r0, r1, -⟩ := (hsv.below EJ.out).at6 j hjr
     obtain ⟨a, hA, d0, d1, -⟩ := (RW6.out.below K6.out).atOr j hjm
     subst hAp hA
     rw [rvs_at hss j hjy] at r0 r1
     have hw := who_at HWH.out j hjm hjy
     obtain ⟨z1, hz1⟩ : ∃ z, oC (m.getD j or0) = z := ⟨_, rfl⟩
     obtain ⟨z2, hz2⟩ : ∃ z, oQ (m.getD j or0) = z := ⟨_, rfl⟩
     rw [hz1] at d0
     rw [hz2] at d1
     rw [hz1, hz2] at hw
     have r0b : wr.cell? (ap.add (j * 6)) = some (.int .i64 z1) := by rw [← hw.1]; exact r0
     have r1b : wr.cell? ⟨(ap.add (j * 6)).block, (ap.add (j * 6)).off + 1, none⟩ = some (.int .i64 z2) := by rw [← hw.2]; exact r1
     clear hss hsv hjy hjr hw hz1 hz2 r0 r1
     go_wp2
     refine wp_region_quiet_lit (by kernel_rfl) (by kernel_rfl) ?_
     repeat (first | go_big_quiet_step (fail) | quiet_step (fail))
     refine wpQuiet_nil ?_
     intro _ hw'
     obtain ⟨nq, hw''⟩ := hw'
     subst hw''
     have EJ2 : Hid (Below wf.heap.size wf (wr.drewN nq)) := Below.drewN' EJ.out
     clear r0b r1b d0 d1 EJ K6
     go_wp2
     go_roundw
     case rel => exact ⟨j + 1, by omega, by go_num, EJ2⟩
     case measure => simp [intOf]; omega
    obtain rfl : j = np := by omega
    have XYr := lhd (XYf.out.below EJ.out hg15)
    have RYr := lhd (RYf.out.belowM EJ.out)
    have RWr := lhd ((RW6.out.below K6.out).more K6.out.size)
    clear XYf RYf EJ
    go_wp2_with fail
    refine (alive14 wr).mono ?_
    rintro e wg ⟨rfl, hb⟩
    have K7 := lhd (K6.out.trans (hb.mono K6.out.size))
    have XYg := lhd (XYr.out.below hb XYr.out.lt)
    have RYg := lhd (RYr.out.belowM hb)
    have RWg := lhd ((RWr.out.below hb).more hb.size)
    have c4 := XYg.out.at_ 4 _ rfl
    have HNY := lhd hnyL
    clear hb XYr RYr RWr K6 hnyL
    by_cases h50 : (50 : Int) ≤ (nyL : Int)
    ·go_wp2
     go_ret
     exact ⟨rfl, KB.out _ K7.out⟩
    have hnone := HON.out.2 (by rw [HNY.out]; omega)
    have HNO := lhd hnone
    have h50d : decide ((50 : Int) ≤ (nyL : Int)) = false := decide_eq_false h50
    have h50n : decide (50 ≤ nyL) = false := decide_eq_false (by omega)
    clear hnone
    go_wp2_with (first | refine wpList_load_partG (by rfl) 50 _ rfl g15 0 (rmc (mT y.1) (.slice AyN nyN cyN) (.slice AyS nyS cyS) (.slice AyW nyW cyW) (.slice AyL nyL cyL)) (rmc (mT y.1) (.slice AyN nyN cyN) (.slice AyS nyS cyS) (.slice AyW nyW cyW) (.slice AyL nyL cyL)) 50 rfl XYg.out rfl huR hdR szRmP ?_ | fail)
    refine (btWaiting_any y.1 m (.slice AyN nyN cyN) (.slice AyS nyS cyS) (.slice AyW nyW cyW) (.slice AyL nyL cyL) (.slice (A3) j c3) wg RYg.out HYR.out HYN.out RWg.out).mono ?_
    rintro e wh ⟨vw, rfl, hom, hb⟩
    rw [HNO.out] at hom
    obtain ⟨Aw, cw, rfl, -, -⟩ := hom.rd.shape
    have K8 := lhd (K7.out.trans (hb.mono K7.out.size))
    clear hom hb K7 c4
    go_wp2
    go_ret
    exact ⟨rfl, KB.out _ K8.out⟩
end Go.Proofs.YtgfobinklijkpaaGreatDoor
