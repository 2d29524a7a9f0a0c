/-
  Texts KC NU KD KE.
-/
import Derived.Test.YtgfobinklijkpaaGreatDoorW01
import Derived.Test.YtgfobinklijkpaaGreatDoorW18
import Derived.Test.YtgfobinklijkpaaGreatDoorW20
import Derived.Test.YtgfobinklijkpaaGreatDoorW22
import Derived.Test.YtgfobinklijkpaaGreatDoorW23
import Derived.Test.YtgfobinklijkpaaGreatDoorW29
import Derived.Test.YtgfobinklijkpaaGreatDoorW39
import Derived.Test.YtgfobinklijkpaaGreatDoorW40
namespace Go.Proofs.YtgfobinklijkpaaGreatDoor
set_option maxRecDepth 100000
set_option maxHeartbeats 16000000
open Go.RowKit
theorem lastR_no : ∀ (l : List Rp) (c : Int), (lastR l c).2 = false → (lastR l c).1 = rp0
 | [], _, _ => rfl
 | x :: r, c, h => by
   unfold lastR at h ⊢
   by_cases hx : pC x = c
   ·rw [if_pos hx] at h
    cases h
   ·rw [if_neg hx] at h ⊢
    exact lastR_no r c h
def LastO (x : Rp × Bool) (w : World) (e : Ending) (w' : World) : Prop := ∃ nv, e = .returned (.tuple #[.agg (rpc x.1 nv).toArray, .bool x.2]) ∧ RdE StK w'.heap.size w' nv (pN x.1) ∧ Below w.heap.size w w'
theorem rmLast_any (r : Rm) (c : Int) (vN vS vW vL : Value) (w : World) (hr : RdRm w.heap.size w vN vS vW vL r) (hl : (mL r).length ≤ 1000) (hn : ∀ x ∈ mL r, (pN x).length ≤ 1000) (ho : AscR (mL r)) : Calls Tryz.prog 28 #[.agg (rmc (mT r) vN vS vW vL).toArray, .int .i64 c] w (LastO (lastR (mL r) c) w) := by
 obtain ⟨ss, hss, hsv, hsn⟩ := hr.l
 obtain ⟨AL, cL, hvL, -, -⟩ := hsv.shape
 rw [rvs_len hss] at hvL
 obtain ⟨nL, hnL⟩ : ∃ q, (mL r).length = q := ⟨_, rfl⟩
 rw [hnL] at hvL
 have HNL := lhd hnL
 subst hvL
 have HSS := lhd hss
 have HSV := lhd hsv
 have HSN := lhd hsn
 have HL := lhd hl
 have HNM := lhd hn
 have HA := lhd ho
 clear hss hsv hsn hl hn ho hnL hr
 obtain ⟨dP, huP, hdP⟩ := rowRpT
 go_enter Tryz.func28, Tryz.ntmps28
 go_wp2_with (refine wpList_box_blk rfl 50 _ rfl (rmc (mT r) vN vS vW (.slice AL nL cL)) rfl ?_)
 intro w1 b1 b2 b3
 go_wp2_with (refine wpList_alloc_blk rfl 79 rfl (rpc rp0 (.slice none 0 0)) zeroRpT ?_)
 intro w2 e1 e2 e3
 obtain ⟨B, hB⟩ : ∃ g, w.heap.size = g := ⟨_, rfl⟩
 obtain ⟨g4, hg4⟩ : ∃ g, w.heap.size + 1 = g := ⟨_, rfl⟩
 have X := lhd (b1.below e3 (by omega))
 have X4 := lhd e1
 have HB := lhd (b3.trans (e3.mono (by omega)))
 have hs2 : B ≤ w2.heap.size := by omega
 have hB4 : B ≤ g4 := by omega
 rw [hg4] at X4 ⊢
 rw [hB] at X HB HSV HSN ⊢
 have HBB := lhd hB
 clear b1 b2 b3 e1 e2 e3 hB hg4
 have c4 := X.out.at_ 4 _ rfl
 go_wp2_with fail
 refine (rpFind_any (mL r) ss HSS.out c (.slice AL nL cL) w2 ((HSV.out.below HB.out).more hs2) HL.out HA.out).mono ?_
 rintro e w3 ⟨rfl, hb⟩
 have X3 := lhd (X.out.below hb X.out.lt)
 have X43 := lhd (X4.out.below hb X4.out.lt)
 have HB3 := lhd (HB.out.trans (hb.mono hs2))
 have hs3 : B ≤ w3.heap.size := Nat.le_trans hs2 hb.size
 have hat : Hid ((lastR (mL r) c).2 = true → posR (mL r) c < nL ∧ (mL r).getD (posR (mL r) c) rp0 = (lastR (mL r) c).1) := by
  show _ → _
  intro h
  have h1 := lastR_is (mL r) c HA.out
  have h2 := lastR_pos (mL r) c HA.out
  rw [h] at h1
  have h3 := h1.symm
  rw [Bool.and_eq_true, decide_eq_true_eq, decide_eq_true_eq] at h3
  refine ⟨by rw [← HNL.out]; exact h3.1, ?_⟩
  rw [h2, if_pos h3]
 have hno : Hid ((lastR (mL r) c).2 = false → (lastR (mL r) c).1 = rp0) := lhd (lastR_no _ _)
 obtain ⟨y, hy⟩ : ∃ q, lastR (mL r) c = q := ⟨_, rfl⟩
 obtain ⟨p, hp⟩ : ∃ q, posR (mL r) c = q := ⟨_, rfl⟩
 rw [hy] at hat hno ⊢
 rw [hp] at hat ⊢
 have hmem : Hid (y.2 = true → y.1 ∈ mL r) := by
  show _ → _
  intro h
  rw [← hy] at h ⊢
  exact (lastR_mem _ _ h).1
 have HY := lhd hy
 clear c4 X X4 HB hs2 hb hy hp
 obtain ⟨x, f⟩ := y
 cases f with
 | false =>
   obtain rfl : x = rp0 := hno.out rfl
   have hex : rpc rp0 (.slice none 0 0) = [.int .i64 0, .int .i64 0, .int .i64 0, txt [], .int .i64 0, .slice none 0 0] := rfl
   go_wp2_with (refine wpList_store_to rfl 79 _ _ rfl g4 (rpc rp0 (.slice none 0 0)) (rpc rp0 (.slice none 0 0)) 79 rfl rfl X43.out szRpT rfl (rpc_allM _ _ _ _) ?_)
   intro w4 e1 e2 e3 e4
   have V4 := lhd e1
   have HB4 := lhd (HB3.out.trans (e3.mono hB4))
   clear e1 e2 e3 e4
   go_wp2
   refine bodyPost_ret (v := .tuple #[.agg (rpc rp0 (.slice none 0 0)).toArray, .bool false]) ?_ rfl ?_
   ·exact ret_blk2U rfl _ _ g4 79 (rpc rp0 (.slice none 0 0)) _ rfl rfl V4.out dP huP hdP szRpT
   ·rw [HY.out]
    exact ⟨_, rfl, RdE.nil _ _, by rw [HBB.out]; exact HB4.out⟩
 | true =>
   obtain ⟨hpn, hpx⟩ := hat.out rfl
   have hpz : (p : Int) < (nL : Int) := by omega
   have hxm := hmem.out rfl
   have hxf := HNM.out _ hxm
   have hkl : p < (mL r).length := by rw [HNL.out]; exact hpn
   have hrd := (HSV.out.below HB3.out).more hs3
   obtain ⟨aQ, hA, -⟩ := hrd.cells p (by rw [rvs_len HSS.out]; exact hkl)
   subst hA
   obtain ⟨sx, hsx⟩ : ∃ q, ss.getD p sl0 = q := ⟨_, rfl⟩
   have hnd : ∀ j v, (rpc x (slv sx))[j]? = some v → w3.cell? ((aQ.add (p * 6)).add j) = some v := by
    intro j v hv
    refine hrd.node p (by rw [rvs_len HSS.out]; exact hkl) j v ?_
    show (rvc ((rvs (mL r) ss).getD p rv0))[j]? = some v
    rw [rvs_at HSS.out p hkl, hpx, hsx]
    exact hv
   have hxn : RdE StK w3.heap.size w3 (slv sx) (pN x) := by
    have h := (((HSN.out p hkl).toE).below HB3.out).more hs3
    rw [hsx, hpx] at h
    exact h
   have HXN := lhd hxn
   obtain ⟨An, nn, cn, hsv⟩ : ∃ A n c, slv sx = .slice A n c := ⟨_, _, _, rfl⟩
   rw [hsv] at hnd HXN
   clear hxn hrd hkl hsx hpx hsv hxm
   have c4 := X3.out.at_ 4 _ rfl
   go_wp2_with (first | refine wpList_load_rowE rfl 79 _ rfl (aQ.add (p * 6)) (by first | rfl | (simp [Act.eval, Act.put, Addr.add])) (rpc x (.slice An nn cn)) hnd dP huP hdP szRpT ?_ | fail)
   refine (detRp_any x (.slice An nn cn) w3 HXN.out (by show (pN x).length ≤ _; have h : (pN x).length ≤ 1000 := hxf; omega)).mono ?_
   rintro e w4 ⟨nv, rfl, hon, hb⟩
   obtain ⟨Am, cm, hnv⟩ := hon.shape
   obtain ⟨nm, hnm⟩ : ∃ q, (pN x).length = q := ⟨_, rfl⟩
   rw [hnm] at hnv
   subst hnv
   clear hnm
   have X44 := lhd (X43.out.below hb X43.out.lt)
   have HB4 := lhd (HB3.out.trans (hb.mono hs3))
   have HO := lhd hon
   clear hon hb X43 HB3 X3 c4
   go_wp2_with (refine wpList_store_to rfl 79 _ _ rfl g4 (rpc x (.slice Am nm cm)) (rpc rp0 (.slice none 0 0)) 79 rfl rfl X44.out szRpT rfl (rpc_allM _ _ _ _) ?_)
   intro w5 e1 e2 e3 e4
   have V4 := lhd e1
   have HB5 := lhd (HB4.out.trans (e3.mono hB4))
   have HO5 := lhd (HO.out.keep (Keep.store (T := fun e => e = 79) (b := B) X44.out rfl hB4 e2 e4) (by decide))
   clear e1 e2 e3 e4
   go_wp2
   refine bodyPost_ret (v := .tuple #[.agg (rpc x (.slice Am nm cm)).toArray, .bool true]) ?_ rfl ?_
   ·exact ret_blk2U rfl _ _ g4 79 (rpc x (.slice Am nm cm)) _ rfl rfl V4.out dP huP hdP szRpT
   ·rw [HY.out]
    exact ⟨_, rfl, HO5.out.rd, by rw [HBB.out]; exact HB5.out⟩
theorem equalS_same (l : List ByteArray) (v u : Value) (w : World) (hr : RdS w.heap.size w v l) (hr2 : RdS w.heap.size w u l) : Calls Tryz.prog 107 #[v, u] w (One (.bool true) w) := by
 obtain ⟨A, cp, rfl, hc, hm⟩ := hr.shape
 obtain ⟨A2, cp2, rfl, hc2, hm2⟩ := hr2.shape
 unfold maxLen at hm hm2
 obtain ⟨n, hn⟩ : ∃ n, l.length = n := ⟨_, rfl⟩
 have HN := lhd hn
 have HRa := lhd hr
 have HRb := lhd hr2
 rw [hn] at hc HRa hc2 HRb ⊢
 clear hr hn hr2
 go_enter Tryz.func107, Tryz.ntmps107
 go_wp2
 go_loopw [5, 13] (fun _ x wr => ∃ i : Nat, i ≤ n ∧ x = .int .i64 (i : Int) ∧ Hid (Below w.heap.size w wr)) (fun _ x _ => n - (intOf x).toNat)
 case atStart => exact ⟨0, by omega, rfl, Below.refl _ _⟩
 case round =>
  obtain ⟨i, hi, rfl, HD⟩ := hrel
  by_cases hi2 : i < n
  ·have zi : (i : Int) < (n : Int) := by omega
   have hlt : i < l.length := by rw [HN.out]; exact hi2
   obtain ⟨a, hA, c0⟩ := (HRa.out.below HD.out).at_ i hlt
   obtain ⟨b, hA2, d0⟩ := (HRb.out.below HD.out).at_ i hlt
   subst hA hA2
   obtain ⟨x, hx⟩ : ∃ x, l[i] = x := ⟨_, rfl⟩
   rw [hx] at c0 d0
   have hne : (x.toList != x.toList) = false := by simp
   have hne1 : (x.toList == x.toList) = true := beq_self_eq_true _
   clear hx
   go_wp2
   refine wp_region_quiet_lit (by kernel_rfl) (by kernel_rfl) ?_
   repeat (first | go_big_quiet_step (fail) | quiet_step (fail))
   refine wpQuiet_nil ?_
   intro _ hw'
   obtain ⟨nq, hw''⟩ := hw'
   subst hw''
   have HD2 : Hid (Below w.heap.size w (wr.drewN nq)) := Below.drewN' HD.out
   go_wp2
   go_roundw
   case rel => exact ⟨i + 1, by omega, by go_num, HD2⟩
   case measure => simp [intOf]; omega
  ·have hE : i = n := by omega
   subst hE
   go_wp2
   go_ret
   exact ⟨rfl, HD.out⟩
theorem orSame_any (r : Rp) (z : Int) (nv nu : Value) (w : World) (hr : RdS w.heap.size w nv (pN r)) (hr2 : RdS w.heap.size w nu (pN r)) (hn : (pN r).length ≤ 1000000) : Calls Tryz.prog 61 #[.agg (rpc r nv).toArray, .agg (rpc (pC r, pQ r, pE r, pV r, z, pN r) nu).toArray] w (One (.bool (decide (pR r = z))) w) := by
 have HR := lhd hr
 have HS := lhd hr2
 have HN := lhd hn
 clear hr hr2 hn HN
 have n1 : (pC r == pC r) = true := beq_self_eq_true _
 have n2 : (pQ r == pQ r) = true := beq_self_eq_true _
 have n3 : (pE r == pE r) = true := beq_self_eq_true _
 have n4 : ((⟨(pV r).toArray⟩ : ByteArray).toList == (⟨(pV r).toArray⟩ : ByteArray).toList) = true := beq_self_eq_true _
 go_enter Tryz.func61, Tryz.ntmps61
 go_wp2_with (refine wpList_box_blk rfl 79 _ rfl (rpc r nv) rfl ?_)
 intro y0 b1 b2 b3
 obtain ⟨gb0, hg⟩ : ∃ g, w.heap.size = g := ⟨_, rfl⟩
 have X0 := lhd b1
 have EB0 := lhd b3
 rw [hg] at X0 ⊢
 clear b1 b2 b3 hg
 go_wp2_with (refine wpList_box_blk rfl 79 _ rfl (rpc (pC r, pQ r, pE r, pV r, z, pN r) nu) rfl ?_)
 intro y1 b1 b2 b3
 obtain ⟨gb1, hg⟩ : ∃ g, y0.heap.size = g := ⟨_, rfl⟩
 have X1 := lhd b1
 have EB1 := lhd b3
 rw [hg] at X1 ⊢
 clear b1 b2 b3 hg
 have P0_w := lhd (EB0.out.trans (EB1.out.mono EB0.out.size))
 have c_X0 := (X0.out.below EB1.out X0.out.lt).at_ 0 _ rfl
 have c_X0_1 := (X0.out.below EB1.out X0.out.lt).at_ 1 _ rfl
 have c_X0_2 := (X0.out.below EB1.out X0.out.lt).at_ 2 _ rfl
 have c_X0_3 := (X0.out.below EB1.out X0.out.lt).at_ 3 _ rfl
 have c_X0_4 := (X0.out.below EB1.out X0.out.lt).at_ 4 _ rfl
 have c_X0_5 := (X0.out.below EB1.out X0.out.lt).at_ 5 _ rfl
 have c_X1 := X1.out.at_ 0 _ rfl
 have c_X1_1 := X1.out.at_ 1 _ rfl
 have c_X1_2 := X1.out.at_ 2 _ rfl
 have c_X1_3 := X1.out.at_ 3 _ rfl
 have c_X1_4 := X1.out.at_ 4 _ rfl
 have c_X1_5 := X1.out.at_ 5 _ rfl
 by_cases hz : pR r = z
 ·subst hz
  have n5 : (pR r == pR r) = true := beq_self_eq_true _
  have HD : Hid (decide (pR r = pR r) = true) := decide_eq_true rfl
  go_wp2_with fail
  refine (equalS_same (pN r) nv nu _ ((HR.out.below P0_w.out).more P0_w.out.size) ((HS.out.below P0_w.out).more P0_w.out.size)).mono ?_
  rintro e w9 ⟨rfl, hb⟩
  have E9 := lhd hb
  clear hb
  have P1_w := lhd (P0_w.out.trans (E9.out.mono P0_w.out.size))
  clear P0_w
  have P1_y0 := lhd (EB1.out.trans (E9.out.mono EB1.out.size))
  go_wp2
  go_ret
  exact ⟨by rw [HD.out]; rfl, P1_w.out⟩
 ·have n5 : (pR r == z) = false := by rw [beq_eq_false_iff_ne]; exact hz
  have HD : Hid (decide (pR r = z) = false) := decide_eq_false hz
  clear hz
  go_wp2
  go_ret
  exact ⟨by rw [HD.out]; rfl, P0_w.out⟩
theorem eqFn_yes (l : List Rp) (v u : Value) (w : World) (hr : RdRp w.heap.size w v l) (hr2 : RdRp w.heap.size w u l) (hnm : NamesR l) : Calls Tryz.prog 60 #[v, u, .func (.func 61) #[] #[]] w (One (.bool true) w) := by
 have ef : ∀ args w, (callFunc 61 args).run Tryz.prog w = .ok (.enter 61 args) w := fun args w => enters_of Tryz.func61 (by kernel_rfl) rfl args w
 obtain ⟨ss, hs, hv, hn⟩ := hr
 obtain ⟨st, ht, hu, hm⟩ := hr2
 obtain ⟨A, c, hq, hc, hm1⟩ := hv.shape
 obtain ⟨A2, c2, hq2, hc2, hm2⟩ := hu.shape
 unfold maxLen at hm1 hm2
 rw [rvs_len hs] at hq hc
 rw [rvs_len ht] at hq2 hc2
 obtain ⟨n, hnl⟩ : ∃ n, l.length = n := ⟨_, rfl⟩
 have HS := lhd hs
 have HT := lhd ht
 have HV := lhd hv
 have HU := lhd hu
 have HN := lhd hn
 have HM := lhd hm
 have HL := lhd hnl
 have HNM := lhd hnm
 rw [hnl] at hq hc hq2 hc2
 subst hq hq2
 obtain ⟨dP, huP, hdP⟩ := rowRpT
 have HE := lhd ef
 clear hs ht hv hu hn hm hnl hnm ef
 go_enter Tryz.func60, Tryz.ntmps60
 have HB0 := lhd (Below.refl w.heap.size w)
 go_wp2
 go_loopw [17] (fun x wr => ∃ k : Nat, k ≤ n ∧ x = .int .i64 (k : Int) ∧ Hid (Below w.heap.size w wr)) (fun x _ => n - (intOf x).toNat)
 case atStart => exact ⟨0, Nat.zero_le _, rfl, HB0⟩
 case round =>
  obtain ⟨k, hk, rfl, HB⟩ := hrel
  by_cases hk2 : k < n
  ·have zk : (k : Int) < (n : Int) := by omega
   have hkl : k < l.length := by rw [HL.out]; exact hk2
   have hws := HB.out.size
   have hrv := (HV.out.below HB.out).more hws
   have hru := (HU.out.below HB.out).more hws
   obtain ⟨a, hA, -⟩ := hrv.cells k (by rw [rvs_len HS.out]; exact hkl)
   obtain ⟨b, hA2, -⟩ := hru.cells k (by rw [rvs_len HT.out]; exact hkl)
   subst hA hA2
   obtain ⟨sx, hsx⟩ : ∃ q, ss.getD k sl0 = q := ⟨_, rfl⟩
   obtain ⟨tx, htx⟩ : ∃ q, st.getD k sl0 = q := ⟨_, rfl⟩
   have hmem : l.getD k rp0 ∈ l := by
    rw [List.getD_eq_getElem?_getD, List.getElem?_eq_getElem hkl]
    exact List.getElem_mem hkl
   have hxf := HNM.out _ hmem
   obtain ⟨x, hx⟩ : ∃ q, l.getD k rp0 = q := ⟨_, rfl⟩
   have hnd : ∀ j v, (rpc x (slv sx))[j]? = some v → wr.cell? ((a.add (k * 6)).add j) = some v := by
    intro j v hv
    refine hrv.node k (by rw [rvs_len HS.out]; exact hkl) j v ?_
    show (rvc ((rvs l ss).getD k rv0))[j]? = some v
    rw [rvs_at HS.out k hkl, hx, hsx]
    exact hv
   have hnf : ∀ W, RdE RvK wr.heap.size W (.slice (some b) n c2) (rvs l st) → ∀ j v, (rpc x (slv tx))[j]? = some v → W.cell? ((b.add (k * 6)).add j) = some v := by
    intro W hW j v hv
    refine hW.node k (by rw [rvs_len HT.out]; exact hkl) j v ?_
    show (rvc ((rvs l st).getD k rv0))[j]? = some v
    rw [rvs_at HT.out k hkl, hx, htx]
    exact hv
   have HNF := lhd hnf
   have HRU := lhd hru
   have hxn : RdS wr.heap.size wr (slv sx) (pN x) := by
    have h := ((HN.out k hkl).toE.below HB.out).more hws
    rw [hsx, hx] at h
    exact RdS.ofE h
   have hyn : RdS wr.heap.size wr (slv tx) (pN x) := by
    have h := ((HM.out k hkl).toE.below HB.out).more hws
    rw [htx, hx] at h
    exact RdS.ofE h
   rw [hx] at hxf
   have HXN := lhd hxn
   have HYN := lhd hyn
   have HXF := lhd hxf
   obtain ⟨An, nn, cn, hsv⟩ : ∃ A n c, slv sx = .slice A n c := ⟨_, _, _, rfl⟩
   obtain ⟨Am, nm, cm, hsu⟩ : ∃ A n c, slv tx = .slice A n c := ⟨_, _, _, rfl⟩
   rw [hsv] at hnd HXN
   rw [hsu] at HNF HYN
   clear hnf hxn hyn hrv hru hmem hxf hsx htx hsv hsu hkl hx
   go_wp2_with (first | refine wpList_load_rowE rfl 79 _ rfl (a.add (k * 6)) (by first | rfl | (simp [Act.eval, Act.put, Addr.add])) (rpc x (.slice An nn cn)) hnd dP huP hdP szRpT ?_ | refine wpList_alloc_blk rfl 79 rfl (rpc rp0 (.slice none 0 0)) zeroRpT ?_)
   intro wa a1 a2 a3
   obtain ⟨g1, hg1⟩ : ∃ g, wr.heap.size = g := ⟨_, rfl⟩
   have A1 := lhd a1
   have BA := lhd a3
   rw [hg1] at A1 BA ⊢
   have HG1 := lhd hg1
   clear a1 a2 a3 hg1
   go_wp2_with (refine wpList_store_to rfl 79 _ _ rfl g1 (rpc x (.slice An nn cn)) (rpc rp0 (.slice none 0 0)) 79 rfl rfl A1.out szRpT rfl (rpc_allM _ _ _ _) ?_)
   intro wb e1 e2 e3 e4
   have P1 := lhd e1
   have BB : Hid (Below wr.heap.size wr wb) := lhd (by rw [HG1.out]; exact BA.out.trans e3)
   have hnb := HNF.out wb (HRU.out.below BB.out)
   clear e1 e2 e3 e4 A1 BA hnd HG1
   go_wp2_with (first | refine wpList_load_rowE rfl 79 _ rfl (b.add (k * 6)) (by first | rfl | (simp [Act.eval, Act.put, Addr.add])) (rpc x (.slice Am nm cm)) hnb dP huP hdP szRpT ?_ | refine wpList_alloc_blk rfl 79 rfl (rpc rp0 (.slice none 0 0)) zeroRpT ?_)
   intro wc a1 a2 a3
   obtain ⟨g2, hg2⟩ : ∃ g, wb.heap.size = g := ⟨_, rfl⟩
   have A1 := lhd a1
   have P1c := lhd (P1.out.below a3 P1.out.lt)
   have hne : g1 ≠ g2 := by have := P1.out.lt; omega
   have BC := lhd a3
   rw [hg2] at A1 BC ⊢
   have HG2 := lhd hg2
   clear a1 a2 a3 hg2 hnb P1
   go_wp2_with (refine wpList_store_to rfl 79 _ _ rfl g2 (rpc x (.slice Am nm cm)) (rpc rp0 (.slice none 0 0)) 79 rfl rfl A1.out szRpT rfl (rpc_allM _ _ _ _) ?_)
   intro wd e1 e2 e3 e4
   have P2 := lhd e1
   have P1d := lhd (P1c.out.same (e4 g1 hne))
   have BD : Hid (Below wr.heap.size wr wd) := lhd (BB.out.trans ((show Below wb.heap.size wb wd by rw [HG2.out]; exact BC.out.trans e3).mono BB.out.size))
   clear e1 e2 e3 e4 A1 BC BB P1c HG2
   have HBd := lhd (HB.out.trans (BD.out.mono hws))
   have hsd := BD.out.size
   go_wp2_with (first | refine wpList_load_part rfl 79 _ rfl g1 0 (rpc x (.slice An nn cn)) (rpc x (.slice An nn cn)) 79 rfl P1d.out rfl huP hdP szRpT ?_ | refine wpList_load_part rfl 79 _ rfl g2 0 (rpc x (.slice Am nm cm)) (rpc x (.slice Am nm cm)) 79 rfl P2.out rfl huP hdP szRpT ?_ | fail)
   have hcl := orSame_any x (pR x) (.slice An nn cn) (.slice Am nm cm) wd (RdS.ofE ((HXN.out.toE.below BD.out).more hsd)) (RdS.ofE ((HYN.out.toE.below BD.out).more hsd)) (by have := HXF.out; omega)
   have HCL := lhd hcl
   clear hcl
   refine HCL.out.mono ?_
   rintro e we ⟨rfl, hb⟩
   rw [decide_eq_true rfl]
   have HBe := lhd (HBd.out.trans (hb.mono (by omega)))
   clear hb
   go_wp2
   go_roundw
   case rel => exact ⟨k + 1, by omega, by go_num, HBe⟩
   case measure => simp [intOf]; omega
  ·have zk : ¬ (k : Int) < (n : Int) := by omega
   go_wp2
   go_ret
   exact ⟨rfl, HB.out⟩
theorem rmSame_yes (r : Rm) (vN vS vW vL uN uS uW uL : Value) (w : World) (hr : RdRm w.heap.size w vN vS vW vL r) (hr2 : RdRm w.heap.size w uN uS uW uL r) (hR : RightR r) (hnm : NamesR (mL r)) : Calls Tryz.prog 30 #[.agg (rmc (mT r) vN vS vW vL).toArray, .agg (rmc (mT r) uN uS uW uL).toArray] w (One (.bool true) w) := by
 have HRD := lhd hr
 have HRD2 := lhd hr2
 have HR := lhd hR
 have HNM := lhd hnm
 clear hr hr2 hR hnm
 obtain ⟨dN, huN, hdN⟩ := rowShT
 obtain ⟨dB, huB, hdB⟩ := rowBkT
 obtain ⟨dW, huW, hdW⟩ := rowTaT
 go_enter Tryz.func30, Tryz.ntmps30
 go_wp2_with (refine wpList_box_blk rfl 50 _ rfl (rmc (mT r) vN vS vW vL) rfl ?_)
 intro w1 b1 b2 b3
 go_wp2_with (refine wpList_box_blk rfl 50 _ rfl (rmc (mT r) uN uS uW uL) rfl ?_)
 intro w2 d1 d2 d3
 obtain ⟨g, hg⟩ : ∃ g, w.heap.size = g := ⟨_, rfl⟩
 obtain ⟨h, hh⟩ : ∃ g, w.heap.size + 1 = g := ⟨_, rfl⟩
 have X := lhd (b1.below d3 (by omega))
 have Y := lhd d1
 have HB := lhd (b3.trans (d3.mono (by omega)))
 have hs : w.heap.size ≤ w2.heap.size := by omega
 rw [hh] at Y ⊢
 rw [hg] at X ⊢
 clear b1 b2 b3 d1 d2 d3 hg hh
 have c4 := X.out.at_ 4 _ rfl
 go_wp2_with (first | refine wpList_load_part rfl 41 _ rfl g 0 (rmc (mT r) vN vS vW vL) [vN] 50 rfl X.out rfl huN hdN szShT ?_ | refine wpList_load_part rfl 41 _ rfl h 0 (rmc (mT r) uN uS uW uL) [uN] 50 rfl Y.out rfl huN hdN szShT ?_ | fail)
 refine (shSame_any (mN r) (mN r) vN uN w2 (RdNd.ofE ((HRD.out.n.toE.below HB.out).more hs)) (RdNd.ofE ((HRD2.out.n.toE.below HB.out).more hs))).mono ?_
 rintro e w3 ⟨rfl, hb⟩
 rw [decide_eq_true rfl]
 have X3 := lhd (X.out.below hb X.out.lt)
 have Y3 := lhd (Y.out.below hb Y.out.lt)
 have HB3 := lhd (HB.out.trans (hb.mono hs))
 have hs3 : w.heap.size ≤ w3.heap.size := Nat.le_trans hs hb.size
 clear c4 X Y HB hs hb
 have c4 := X3.out.at_ 4 _ rfl
 go_wp2_with (first | refine wpList_load_partG (by rfl) 44 _ rfl g 1 (rmc (mT r) vN vS vW vL) [.int .i64 (mT r), vS] 50 rfl X3.out rfl huB hdB szBkT ?_ | refine wpList_load_partG (by rfl) 44 _ rfl h 1 (rmc (mT r) uN uS uW uL) [.int .i64 (mT r), uS] 50 rfl Y3.out rfl huB hdB szBkT ?_ | fail)
 refine (bkSame_anyL (mT r) (mT r) (mS r) (mS r) vS uS w3 ((HRD.out.s.below HB3.out).more hs3) ((HRD2.out.s.below HB3.out).more hs3) (Nat.le_trans HR.out.b.few (by decide)) (Nat.le_trans HR.out.b.few (by decide))).mono ?_
 rintro e w4 ⟨rfl, hb⟩
 rw [show sameB (mT r) (mT r) (mS r) (mS r) = true by simp [sameB]]
 have X4 := lhd (X3.out.below hb X3.out.lt)
 have Y4 := lhd (Y3.out.below hb Y3.out.lt)
 have HB4 := lhd (HB3.out.trans (hb.mono hs3))
 have hs4 : w.heap.size ≤ w4.heap.size := Nat.le_trans hs3 hb.size
 clear c4 X3 Y3 HB3 hs3 hb
 have c4 := X4.out.at_ 4 _ rfl
 go_wp2_with (first | refine wpList_load_partG (by rfl) 47 _ rfl g 3 (rmc (mT r) vN vS vW vL) [vW] 50 rfl X4.out rfl huW hdW szTaT ?_ | refine wpList_load_partG (by rfl) 47 _ rfl h 3 (rmc (mT r) uN uS uW uL) [uW] 50 rfl Y4.out rfl huW hdW szTaT ?_ | fail)
 refine (waSame_anyL (mW r) (mW r) vW uW w4 ((HRD.out.t.below HB4.out).more hs4) ((HRD2.out.t.below HB4.out).more hs4) (Nat.le_trans HR.out.w.few (by decide)) (Nat.le_trans HR.out.w.few (by decide))).mono ?_
 rintro e w5 ⟨rfl, hb⟩
 rw [decide_eq_true rfl]
 have X5 := lhd (X4.out.below hb X4.out.lt)
 have Y5 := lhd (Y4.out.below hb Y4.out.lt)
 have HB5 := lhd (HB4.out.trans (hb.mono hs4))
 have hs5 : w.heap.size ≤ w5.heap.size := Nat.le_trans hs4 hb.size
 clear c4 X4 Y4 HB4 hs4 hb
 have c4 := X5.out.at_ 4 _ rfl
 have c9 := Y5.out.at_ 4 _ rfl
 go_wp2_with fail
 refine (eqFn_yes (mL r) vL uL w5 ((HRD.out.l.below HB5.out).more hs5) ((HRD2.out.l.below HB5.out).more hs5) HNM.out).mono ?_
 rintro e w6 ⟨rfl, hb⟩
 have HB6 := lhd (HB5.out.trans (hb.mono hs5))
 clear c4 c9 X5 Y5 HB5 hb
 go_wp2
 go_ret
 exact ⟨rfl, HB6.out⟩
def lateFd (d : Nat) (l : List Oper) (m : Nat) (pu : List Nat) : Bool :=
 decide (m ≤ l.length) && (pu.all fun p => decide (p < m) && Region.free .any l.toArray (lstF l p) p) && (List.range l.length).all fun j =>
  if j < m then ((l[j]?).map fun o => o.after.all fun e => !Region.binds .any e || decide (e.on < j)).getD false
  else (List.range m).all fun k => (clos l d (depsOf l j)).contains k || (pu.contains k && (depsOf l k).all fun q => (clos l d (depsOf l j)).contains q)
theorem clos_sub (l : List Oper) : ∀ (n : Nat) (S T : List Nat), (∀ x ∈ S, x ∈ T) → ∀ x ∈ clos l n S, x ∈ clos l n T
 | 0, _, _, h => h
 | n + 1, S, T, h => clos_sub l n _ _ fun x hx => by
   rw [List.mem_append, List.mem_flatMap] at hx ⊢
   rcases hx with hx | ⟨a, ha, hx⟩
   ·exact .inl (h x hx)
   ·exact .inr ⟨a, h a ha, hx⟩
theorem clos_add (l : List Oper) (d : Nat) (S : List Nat) (x : Nat) (h : x ∈ clos l d S) : ∀ n : Nat, x ∈ clos l (d + n) S
 | 0 => h
 | n + 1 => clos_sub l (d + n) _ _ (fun _ hy => List.mem_append.2 (.inl hy)) x (clos_add l d S x h n)
theorem lateF_of (d : Nat) {l : List Oper} {m : Nat} {pu : List Nat} (hd : d ≤ l.length) (h : lateFd d l m pu = true) : lateF l m pu = true := by
 have key : ∀ (S : List Nat) (k : Nat), (clos l d S).contains k = true → (clos l l.length S).contains k = true := by
  intro S k hk
  rw [List.contains_iff_mem] at hk ⊢
  have := clos_add l d S k hk (l.length - d)
  rwa [Nat.add_sub_cancel' hd] at this
 unfold lateFd at h
 unfold lateF
 rw [Bool.and_eq_true] at h ⊢
 refine ⟨h.1, ?_⟩
 have h2 := h.2
 rw [List.all_eq_true] at h2 ⊢
 intro j hj
 have h3 := h2 j hj
 by_cases hm : j < m
 ·rw [if_pos hm] at h3 ⊢
  exact h3
 ·rw [if_neg hm] at h3 ⊢
  rw [List.all_eq_true] at h3 ⊢
  intro k hk
  have h4 := h3 k hk
  rw [Bool.or_eq_true, Bool.and_eq_true, List.all_eq_true] at h4 ⊢
  rcases h4 with h4 | ⟨h4, h5⟩
  ·exact .inl (key _ _ h4)
  ·exact .inr ⟨h4, fun q hq => key _ _ (h5 q hq)⟩
section
variable {P : Program} {l : List Oper} {Q : Exit → Act → World → Prop} {F : (Nat → Value) → Act} {Φ : Nat → Value → World → Prop} {w0 : World}
theorem StepsAt.rel (j : Nat) {n : Nat} {o : Oper} {r : List Oper} (hk : ∀ v w w', Φ j v w → Below w.heap.size w w' → Φ j v w') (hp : ∀ x v, (F x).put o.dst v = F (upd x j v)) (ho : l[j]? = some o) (hg : o.guard = none)
 (h : ∀ x w, Below w0.heap.size w0 w → (∀ k, waitsB .any l.toArray j k = true → Φ k (x k) w) → ∃ v, (execOp (F x).eval o).run P w = .ok (.value v) w ∧ Φ j v w)
 (hr : StepsAt P l Q F Φ w0 n r (j + 1)) : StepsAt P l Q F Φ w0 (n + 1) (o :: r) j := by
 refine StepsAt.cons j hk hp hg ho (fun x w hb hd K hK => ?_) hr
 obtain ⟨v, h1, h2⟩ := h x w hb hd
 unfold Oper.wp
 rw [h1]
 exact hK.out v w (Below.refl _ _) h2
end
theorem RdRm.belowM {w w' : World} {vN vS vW vL : Value} {r : Rm} (h : RdRm w.heap.size w vN vS vW vL r) (hb : Below w.heap.size w w') : RdRm w'.heap.size w' vN vS vW vL r :=
 ⟨RdNd.ofE ((h.n.toE.below hb).more hb.size), (h.s.below hb).more hb.size, (h.t.below hb).more hb.size, (h.l.below hb).more hb.size⟩
end Go.Proofs.YtgfobinklijkpaaGreatDoor
