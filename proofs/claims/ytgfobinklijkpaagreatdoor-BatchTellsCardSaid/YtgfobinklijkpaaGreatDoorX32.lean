/-
  Texts K7.
-/
import Derived.Test.YtgfobinklijkpaaGreatDoorX01
import Derived.Test.YtgfobinklijkpaaGreatDoorX14
import Derived.Test.YtgfobinklijkpaaGreatDoorX31
namespace Go.Proofs.YtgfobinklijkpaaGreatDoor
set_option maxRecDepth 100000
set_option maxHeartbeats 16000000
open Go.RowKit
theorem AnyTill.storeA {P : Program} {l : List Oper} {Q : Exit → Act → World → Prop} {md : Region.Mode} {S : World → Prop} {m : Nat} (i : Nat) {a : Act} {o : Oper} {n : Nat} {listed : Array Bool} {w : World} (hr : Region.ready md l.toArray listed = [i]) (ho : l[i]? = some o) {g j : Nat} {cs vs : List Value} {u : TypeId}
 (h1 : StoresTo P o a g j vs) (hb : Blk w g cs u) (l1 : j + vs.length ≤ cs.length) (hS : ∀ w', w'.heap.size = w.heap.size → (∀ k, k ≠ g → w'.heap[k]? = w.heap[k]?) → S w')
 (h : ∀ w', Blk w' g (putL cs j vs) u → w'.heap.size = w.heap.size → Below g w w' → (∀ k, k ≠ g → w'.heap[k]? = w.heap[k]?) → AnyTill P md l.toArray Q S m n (listed.setIfInBounds i true) a w') : AnyTill P md l.toArray Q S m (n + 1) listed a w :=
 AnyTill.store1 (F := fun _ => a) (x := fun _ => undef) i hr ho (G := fun _ => a) (lhd rfl) h1 hb l1 hS h
theorem step_any (b : Nat) (r : Rm) (o : Or) (vN vS vW vL : Value) (w : World) (hb : b ≤ w.heap.size) (hN : GoE NdK 157 b w vN (mN r)) (hS : GoE SeK 160 b w vS (mS r)) (hW : GoE WaK 163 b w vW (mW r)) (hL : GoRp 79 9 b w vL (mL r))
 (hR : RightR r) (hi : KindFn o) : Calls Tryz.prog 42 #[.agg (rmc (mT r) vN vS vW vL).toArray, .agg (orc o).toArray] w (StepO b (applyR r o) vL w) := by
 obtain ⟨AN, cN, hvN, -, -⟩ := hN.1.shape
 obtain ⟨nN, hnN⟩ : ∃ q, (mN r).length = q := ⟨_, rfl⟩
 rw [hnN] at hvN
 clear hnN
 subst hvN
 obtain ⟨AS, cS, hvS, -, -⟩ := hS.1.shape
 obtain ⟨nS, hnS⟩ : ∃ q, (mS r).length = q := ⟨_, rfl⟩
 rw [hnS] at hvS
 clear hnS
 subst hvS
 obtain ⟨AW, cW, hvW, -, -⟩ := hW.1.shape
 obtain ⟨nW, hnW⟩ : ∃ q, (mW r).length = q := ⟨_, rfl⟩
 rw [hnW] at hvW
 clear hnW
 subst hvW
 obtain ⟨AL, cL, hvL, hcL, hmL⟩ := hL.rd.shape
 obtain ⟨nL, hnL⟩ : ∃ q, (mL r).length = q := ⟨_, rfl⟩
 rw [hnL] at hvL hcL
 subst hvL
 unfold maxLen at hmL
 have hn50 : nL ≤ 50 := by have := hR.few; omega
 have HNL := lhd hnL
 have HR := lhd hR
 have HBW := lhd hb
 have GN := lhd hN
 have GS := lhd hS
 have GW := lhd hW
 have GL := lhd hL
 have HI := lhd hi
 clear hR hb hN hS hW hL hi hnL
 obtain ⟨dR, huR, hdR⟩ := rowRmP
 obtain ⟨dP, huP, hdP⟩ := rowRpT
 obtain ⟨dO, huO, hdO⟩ := rowOrT
 go_enter Tryz.func42, Tryz.ntmps42
 go_wp2_with (refine wpList_box_blk rfl 50 _ rfl (rmc (mT r) (.slice AN nN cN) (.slice AS nS cS) (.slice AW nW cW) (.slice AL nL cL)) rfl ?_)
 intro w1 b1 b2 b3
 go_wp2_with (refine wpList_box_blk rfl 86 _ rfl (orc o) rfl ?_)
 intro w2 d1 d2 d3
 go_wp2_with (refine wpList_alloc_blk rfl 50 rfl (rmc 0 (.slice none 0 0) (.slice none 0 0) (.slice none 0 0) (.slice none 0 0)) zeroRmP ?_)
 intro w3 e1 e2 e3
 go_wp2_with (refine wpList_alloc_blk rfl 79 rfl (rpc rp0 (.slice none 0 0)) zeroRpT ?_)
 intro w4 f1 f2 f3
 obtain ⟨g2, hg2⟩ : ∃ g, w.heap.size = g := ⟨_, rfl⟩
 obtain ⟨g3, hg3⟩ : ∃ g, w.heap.size + 1 = g := ⟨_, rfl⟩
 obtain ⟨g4, hg4⟩ : ∃ g, w.heap.size + 1 + 1 = g := ⟨_, rfl⟩
 obtain ⟨g5, hg5⟩ : ∃ g, w.heap.size + 1 + 1 + 1 = g := ⟨_, rfl⟩
 have hs4 : w4.heap.size = w.heap.size + 4 := by omega
 have b1' := ((b1.below d3 (by omega)).below e3 (by omega)).below f3 (by omega)
 have d1' := (d1.below e3 (by omega)).below f3 (by omega)
 have e1' := e1.below f3 (by omega)
 have HB := lhd (b3.trans ((d3.mono (by omega)).trans ((e3.mono (by omega)).trans (f3.mono (by omega)))))
 have X2 := lhd b1'
 have X3 : Hid (Blk w4 g3 (orc o) 86) := lhd (by rw [← hg3]; exact d1')
 have X4 : Hid (Blk w4 g4 (rmc 0 (.slice none 0 0) (.slice none 0 0) (.slice none 0 0) (.slice none 0 0)) 50) := lhd (by rw [← hg4]; exact e1')
 have X5 : Hid (Blk w4 g5 (rpc rp0 (.slice none 0 0)) 79) := lhd (by rw [← hg5]; exact f1)
 rw [hg2] at X2
 clear b1 d1 e1 b1' d1' e1' b2 d2 e2 b3 d3 e3 f1 f2 f3
 rw [hg5, hg4, hg3, hg2]
 obtain ⟨g7, hg7⟩ : ∃ g, w4.heap.size = g := ⟨_, rfl⟩
 have ne24 : g2 ≠ g4 := by omega
 have ne25 : g2 ≠ g5 := by omega
 have ne27 : g2 ≠ g7 := by omega
 have ne37 : g3 ≠ g7 := by omega
 have ne47 : g4 ≠ g7 := by omega
 have ne57 : g5 ≠ g7 := by omega
 have ne45 : g4 ≠ g5 := by omega
 have hw4 : w.heap.size ≤ g4 := by omega
 have hw5 : w.heap.size ≤ g5 := by omega
 have hw7 : w.heap.size ≤ g7 := by omega
 have h27 : g2 < g7 := by omega
 have h37 : g3 < g7 := by omega
 have h47 : g4 < g7 := by omega
 have h57 : g5 < g7 := by omega
 have HG7 := lhd hg7
 clear hg2 hg3 hg4 hg5 hg7 hs4
 have c0 := X3.out.at_ 0 _ rfl
 have c1 := X3.out.at_ 1 _ rfl
 go_wp2_with (refine wpList_alloc_blk rfl 79 rfl (rpc rp0 (.slice none 0 0)) zeroRpT ?_)
 intro w5 a1 a2 a3
 have X7 := lhd a1
 have X2 := lhd (X2.out.below a3 (by rw [HG7.out]; exact h27))
 have X3 := lhd (X3.out.below a3 (by rw [HG7.out]; exact h37))
 have X4 := lhd (X4.out.below a3 (by rw [HG7.out]; exact h47))
 have X5 := lhd (X5.out.below a3 (by rw [HG7.out]; exact h57))
 have HB := lhd (HB.out.trans (a3.mono (by rw [HG7.out]; exact hw7)))
 rw [HG7.out] at X7 ⊢
 clear a1 a2 a3 c0 c1
 go_wp2_with (refine wpList_store_to rfl 79 _ _ rfl g7 (rpc (noR o 0) (.slice none 0 0)) (rpc rp0 (.slice none 0 0)) 79 rfl rfl X7.out szRpT rfl (rpc_allM _ _ _ _) ?_)
 intro w6 e1 e2 e3 e4
 have X7 := lhd e1
 have X2 := lhd (X2.out.same (e4 g2 ne27))
 have X3 := lhd (X3.out.same (e4 g3 ne37))
 have X4 := lhd (X4.out.same (e4 g4 ne47))
 have X5 := lhd (X5.out.same (e4 g5 ne57))
 have HB := lhd (HB.out.trans (e3.mono hw7))
 clear e1 e2 e3 e4
 obtain ⟨ss, hs1, hs2, hs3⟩ := GL.out
 have HSS := lhd hs1
 have HSR := lhd hs2
 have HSN := lhd hs3
 clear hs1 hs2 hs3
 have d4 := X2.out.at_ 4 _ rfl
 have c0 := X3.out.at_ 0 _ rfl
 go_wp2_with fail
 refine (rpFind_any (mL r) ss HSS.out (oC o) (.slice AL nL cL) w6 (((HSR.out.1.below HB.out).more HB.out.size)) (by have := HR.out.few; omega) HR.out.asc).mono ?_
 rintro e w7 ⟨rfl, hb⟩
 have X2 := lhd (X2.out.below hb X2.out.lt)
 have X3 := lhd (X3.out.below hb X3.out.lt)
 have X4 := lhd (X4.out.below hb X4.out.lt)
 have X5 := lhd (X5.out.below hb X5.out.lt)
 have X7 := lhd (X7.out.below hb X7.out.lt)
 have HB := lhd (HB.out.trans (hb.mono HB.out.size))
 clear hb
 clear d4 c0
 obtain ⟨p, hp⟩ : ∃ p, posR (mL r) (oC o) = p := ⟨_, rfl⟩
 obtain ⟨fd, hfd⟩ : ∃ q, (lastR (mL r) (oC o)).2 = q := ⟨_, rfl⟩
 have HFD : Hid (fd = true → p < (mL r).length ∧ (lastR (mL r) (oC o)).1 = (mL r).getD p rp0) := by
  intro h
  have h1 := lastR_pos (mL r) (oC o) HR.out.asc
  have h2 := lastR_is (mL r) (oC o) HR.out.asc
  rw [hfd, h, hp] at h2
  have h3 := (Bool.and_eq_true _ _ ▸ h2.symm : decide (p < (mL r).length) = true ∧ decide (pC ((mL r).getD p rp0) = oC o) = true)
  rw [decide_eq_true_eq, decide_eq_true_eq] at h3
  rw [hp, if_pos h3] at h1
  exact ⟨h3.1, by rw [h1]⟩
 have HF := lhd hfd
 rw [hp, hfd]
 clear hp hfd
 go_wp2_with (first | refine wpList_load_part rfl 86 _ rfl g3 0 (orc o) (orc o) 86 rfl X3.out rfl huO hdO szOrT ?_ | fail)
 refine (orMay_any o w7).mono ?_
 rintro e w8 ⟨rfl, hb⟩
 have X2 := lhd (X2.out.below hb X2.out.lt)
 have X3 := lhd (X3.out.below hb X3.out.lt)
 have X4 := lhd (X4.out.below hb X4.out.lt)
 have X5 := lhd (X5.out.below hb X5.out.lt)
 have X7 := lhd (X7.out.below hb X7.out.lt)
 have HB := lhd (HB.out.trans (hb.mono HB.out.size))
 clear hb
 obtain ⟨M, hM⟩ : ∃ q, mayO o = q := ⟨_, rfl⟩
 rw [hM]
 have HM := lhd hM
 clear hM
 obtain ⟨R, hR9⟩ : ∃ q, applyR r o = q := ⟨_, rfl⟩
 have HRR := lhd hR9
 clear hR9
 have key : M = false ∨ (M = true ∧ fd = true ∧ pQ ((mL r).getD p rp0) = oQ o) ∨ (M = true ∧ fd = true ∧ ¬ pQ ((mL r).getD p rp0) = oQ o ∧ oQ o < pQ ((mL r).getD p rp0)) ∨ (M = true ∧ fd = false ∧ 50 ≤ nL) ∨ ((M = true ∧ fd = true ∧ ¬ pQ ((mL r).getD p rp0) = oQ o ∧ ¬ oQ o < pQ ((mL r).getD p rp0)) ∨ (M = true ∧ fd = false ∧ ¬ 50 ≤ nL)) := by
  cases M <;> cases fd <;> simp <;> omega
 rcases key with k | ⟨k, k2, k3⟩ | ⟨k, k2, k3, k4⟩ | ⟨k, k2, k3⟩ | hk
 case' inl =>
  subst k
  go_wp2_with (refine wpList_store_fld rfl 25 _ _ rfl g7 2 (rpc (noR o 0) (.slice none 0 0)) (.int .i64 1) 79 rfl rfl X7.out szErT (by show 2 < 6; decide) rfl ?_)
  intro wz e1 e2 e3 e4
  have HAP : Hid (applyR r o = (r, noR o 1, [])) := by
   show _ = _
   unfold applyR
   rw [if_pos HM.out]
  have X7 := lhd e1
  have X2 := lhd (X2.out.same (e4 g2 ne27))
  have X3 := lhd (X3.out.same (e4 g3 ne37))
  have X4 := lhd (X4.out.same (e4 g4 ne47))
  have X5 := lhd (X5.out.same (e4 g5 ne57))
  have HB := lhd (HB.out.trans (e3.mono hw7))
  clear e1 e2 e3 e4
  have X7 : Hid (Blk wz g7 (rpc (noR o 1) (.slice none 0 0)) 79) := X7.out
  have YN : Hid (GoE StK 9 b wz (.slice none 0 0) (pN (noR o 1))) := GoE.nil _ _ _ _
  obtain ⟨X, hX⟩ : ∃ q, noR o 1 = q := ⟨_, rfl⟩
  rw [hX] at X7 HAP YN
  clear hX
  obtain ⟨An, nn, cn, hnv⟩ : ∃ A n c, ((.slice none 0 0) : Value) = .slice A n c := ⟨_, _, _, rfl⟩
  rw [hnv] at X7 YN
  clear hnv
  go_wp2
 case' inr.inl =>
  subst k k2
  obtain ⟨hpl, hla⟩ := HFD.out rfl
  have HPL := lhd hpl
  have hpn : p < nL := by rw [HNL.out] at hpl; exact hpl
  have hpz : (p : Int) < (nL : Int) := by omega
  obtain ⟨sx, hsx⟩ : ∃ q, ss.getD p sl0 = q := ⟨_, rfl⟩
  obtain ⟨x, hx⟩ : ∃ q, (mL r).getD p rp0 = q := ⟨_, rfl⟩
  obtain ⟨ae, hA, -⟩ := (HSR.out.1).at6 p (by rw [rvs_len HSS.out]; exact hpl)
  subst hA
  have HND : Hid (∀ (W : World), Below w.heap.size w W → ∀ i v, (rpc x (slv sx))[i]? = some v → W.cell? ((ae.add (p * 6)).add i) = some v) := by
   intro W hW i v hv
   refine (HSR.out.1.below hW).node p (by rw [rvs_len HSS.out]; exact hpl) i v ?_
   show (rvc ((rvs (mL r) ss).getD p rv0))[i]? = some v
   rw [rvs_at HSS.out p hpl, hx, hsx]
   exact hv
  have HNM : Hid (GoE StK 9 b w (slv sx) (pN x)) := by
   have h := HSN.out p hpl
   rw [hsx, hx] at h
   exact h
  have HLA : Hid ((lastR (mL r) (oC o)).1 = x) := by
   show _ = _
   rw [hla, hx]
  rw [hx] at k3
  clear hpl hla hx hsx HFD
  have q1 : w8.cell? ⟨(ae.add (p * 6)).block, (ae.add (p * 6)).off + 1, none⟩ = some (.int .i64 (pQ x)) := HND.out _ HB.out 1 _ rfl
  have d4 := X2.out.at_ 4 _ rfl
  have s1 := X3.out.at_ 1 _ rfl
  have hq : (pQ x == oQ o) = true := by rw [k3]; exact beq_self_eq_true _
  have K3 := lhd k3
  clear k3
  go_wp2
  refine wp_region_quiet_lit (by kernel_rfl) (by kernel_rfl) ?_
  repeat (first | go_big_quiet_step (fail) | quiet_step (fail))
  refine wpQuiet_nil ?_
  intro _ hw'
  obtain ⟨nq, hw''⟩ := hw'
  subst hw''
  have hb := Below.drewN' (n := nq) (Below.refl w8.heap.size w8)
  obtain ⟨w9, hW⟩ : ∃ W, w8.drewN nq = W := ⟨_, rfl⟩
  rw [hW] at hb ⊢
  clear hW
  have X2 := lhd (X2.out.below hb X2.out.lt)
  have X3 := lhd (X3.out.below hb X3.out.lt)
  have X4 := lhd (X4.out.below hb X4.out.lt)
  have X5 := lhd (X5.out.below hb X5.out.lt)
  have X7 := lhd (X7.out.below hb X7.out.lt)
  have HB := lhd (HB.out.trans (hb.mono HB.out.size))
  clear hb
  clear q1 d4 s1
  have d4 := X2.out.at_ 4 _ rfl
  have hnd := HND.out _ HB.out
  obtain ⟨An, nn, cn, hsv⟩ : ∃ A n c, slv sx = .slice A n c := ⟨_, _, _, rfl⟩
  rw [hsv] at HNM
  have hnd : ∀ j v, (rpc x (.slice An nn cn))[j]? = some v → w9.cell? ((ae.add (p * 6)).add j) = some v := by rw [← hsv]; exact hnd
  go_wp2_with (first | refine wpList_load_rowE rfl 79 _ rfl (ae.add (p * 6)) rfl (rpc x (.slice An nn cn)) hnd dP huP hdP szRpT ?_ | refine wpList_store_to rfl 79 _ _ rfl g7 (rpc x (.slice An nn cn)) (rpc (noR o 0) (.slice none 0 0)) 79 rfl rfl X7.out szRpT rfl (rpc_allM _ _ _ _) ?_)
  intro wz e1 e2 e3 e4
  clear hnd hsv d4
  have X7 := lhd e1
  have X2 := lhd (X2.out.same (e4 g2 ne27))
  have X3 := lhd (X3.out.same (e4 g3 ne37))
  have X4 := lhd (X4.out.same (e4 g4 ne47))
  have X5 := lhd (X5.out.same (e4 g5 ne57))
  have HB := lhd (HB.out.trans (e3.mono hw7))
  clear e1 e2 e3 e4
  have HAP : Hid (applyR r o = (r, x, [])) := by
   show _ = _
   unfold applyR
   rw [if_neg (by rw [HM.out]; decide), if_pos ⟨HF.out, by rw [HLA.out]; exact K3.out⟩, HLA.out]
  have YN := lhd (HNM.out.below HB.out HBW.out)
  obtain ⟨X, hX⟩ : ∃ q, x = q := ⟨_, rfl⟩
  rw [hX] at X7 HAP YN
  clear HNM HLA HND hX
  go_wp2
  obtain ⟨AL, hAL⟩ : ∃ q, some ae = q := ⟨_, rfl⟩
  rw [hAL] at X2 GL ⊢
  have HAE := lhd hAL
  clear hAL
 case' inr.inr.inl =>
  subst k k2
  have k3 : ¬ pQ ((mL r).getD p rp0) = oQ o ∧ oQ o < pQ ((mL r).getD p rp0) := ⟨k3, k4⟩
  clear k4
  obtain ⟨hpl, hla⟩ := HFD.out rfl
  have HPL := lhd hpl
  have hpn : p < nL := by rw [HNL.out] at hpl; exact hpl
  have hpz : (p : Int) < (nL : Int) := by omega
  obtain ⟨sx, hsx⟩ : ∃ q, ss.getD p sl0 = q := ⟨_, rfl⟩
  obtain ⟨x, hx⟩ : ∃ q, (mL r).getD p rp0 = q := ⟨_, rfl⟩
  obtain ⟨ae, hA, -⟩ := (HSR.out.1).at6 p (by rw [rvs_len HSS.out]; exact hpl)
  subst hA
  have HND : Hid (∀ (W : World), Below w.heap.size w W → ∀ i v, (rpc x (slv sx))[i]? = some v → W.cell? ((ae.add (p * 6)).add i) = some v) := by
   intro W hW i v hv
   refine (HSR.out.1.below hW).node p (by rw [rvs_len HSS.out]; exact hpl) i v ?_
   show (rvc ((rvs (mL r) ss).getD p rv0))[i]? = some v
   rw [rvs_at HSS.out p hpl, hx, hsx]
   exact hv
  have HNM : Hid (GoE StK 9 b w (slv sx) (pN x)) := by
   have h := HSN.out p hpl
   rw [hsx, hx] at h
   exact h
  have HLA : Hid ((lastR (mL r) (oC o)).1 = x) := by
   show _ = _
   rw [hla, hx]
  rw [hx] at k3
  clear hpl hla hx hsx HFD
  have q1 : w8.cell? ⟨(ae.add (p * 6)).block, (ae.add (p * 6)).off + 1, none⟩ = some (.int .i64 (pQ x)) := HND.out _ HB.out 1 _ rfl
  have d4 := X2.out.at_ 4 _ rfl
  have s1 := X3.out.at_ 1 _ rfl
  have hq : (pQ x == oQ o) = false := by rw [beq_eq_false_iff_ne]; exact k3.1
  have hq2 : decide (oQ o < pQ x) = true := decide_eq_true k3.2
  have K3 := lhd k3
  clear k3
  go_wp2
  refine wp_region_quiet_lit (by kernel_rfl) (by kernel_rfl) ?_
  repeat (first | go_big_quiet_step (fail) | quiet_step (fail))
  refine wpQuiet_nil ?_
  intro _ hw'
  obtain ⟨nq, hw''⟩ := hw'
  subst hw''
  have hb := Below.drewN' (n := nq) (Below.refl w8.heap.size w8)
  obtain ⟨w9, hW⟩ : ∃ W, w8.drewN nq = W := ⟨_, rfl⟩
  rw [hW] at hb ⊢
  clear hW
  have X2 := lhd (X2.out.below hb X2.out.lt)
  have X3 := lhd (X3.out.below hb X3.out.lt)
  have X4 := lhd (X4.out.below hb X4.out.lt)
  have X5 := lhd (X5.out.below hb X5.out.lt)
  have X7 := lhd (X7.out.below hb X7.out.lt)
  have HB := lhd (HB.out.trans (hb.mono HB.out.size))
  clear hb
  clear q1 d4 s1
  have hq2 : oQ o < pQ x := K3.out.2
  have q1 : w9.cell? ⟨(ae.add (p * 6)).block, (ae.add (p * 6)).off + 1, none⟩ = some (.int .i64 (pQ x)) := HND.out _ HB.out 1 _ rfl
  have d4 := X2.out.at_ 4 _ rfl
  have s1 := X3.out.at_ 1 _ rfl
  go_wp2
  refine wp_region_quiet_lit (by kernel_rfl) (by kernel_rfl) ?_
  repeat (first | go_big_quiet_step (fail) | quiet_step (fail))
  refine wpQuiet_nil ?_
  intro _ hw'
  obtain ⟨nq, hw''⟩ := hw'
  subst hw''
  have hb := Below.drewN' (n := nq) (Below.refl w9.heap.size w9)
  obtain ⟨w10, hW⟩ : ∃ W, w9.drewN nq = W := ⟨_, rfl⟩
  rw [hW] at hb ⊢
  clear hW
  have X2 := lhd (X2.out.below hb X2.out.lt)
  have X3 := lhd (X3.out.below hb X3.out.lt)
  have X4 := lhd (X4.out.below hb X4.out.lt)
  have X5 := lhd (X5.out.below hb X5.out.lt)
  have X7 := lhd (X7.out.below hb X7.out.lt)
  have HB := lhd (HB.out.trans (hb.mono HB.out.size))
  clear hb
  clear q1 d4 s1
  go_wp2_with (refine wpList_store_fld rfl 25 _ _ rfl g7 2 (rpc (noR o 0) (.slice none 0 0)) (.int .i64 15) 79 rfl rfl X7.out szErT (by show 2 < 6; decide) rfl ?_)
  intro wz e1 e2 e3 e4
  have HAP : Hid (applyR r o = (r, noR o 15, [])) := by
   show _ = _
   unfold applyR
   rw [if_neg (by rw [HM.out]; decide), if_neg (by rintro ⟨_, h⟩; rw [HLA.out] at h; exact K3.out.1 h), if_pos ⟨HF.out, by rw [HLA.out]; exact K3.out.2⟩]
  have X7 := lhd e1
  have X2 := lhd (X2.out.same (e4 g2 ne27))
  have X3 := lhd (X3.out.same (e4 g3 ne37))
  have X4 := lhd (X4.out.same (e4 g4 ne47))
  have X5 := lhd (X5.out.same (e4 g5 ne57))
  have HB := lhd (HB.out.trans (e3.mono hw7))
  clear e1 e2 e3 e4
  have X7 : Hid (Blk wz g7 (rpc (noR o 15) (.slice none 0 0)) 79) := X7.out
  have YN : Hid (GoE StK 9 b wz (.slice none 0 0) (pN (noR o 15))) := GoE.nil _ _ _ _
  obtain ⟨X, hX⟩ : ∃ q, noR o 15 = q := ⟨_, rfl⟩
  rw [hX] at X7 HAP YN
  clear hX
  obtain ⟨An, nn, cn, hnv⟩ : ∃ A n c, ((.slice none 0 0) : Value) = .slice A n c := ⟨_, _, _, rfl⟩
  rw [hnv] at X7 YN
  clear hnv
  clear HNM HLA HND
  go_wp2
  obtain ⟨AL, hAL⟩ : ∃ q, some ae = q := ⟨_, rfl⟩
  rw [hAL] at X2 GL ⊢
  have HAE := lhd hAL
  clear hAL
 case' inr.inr.inr.inl =>
  subst k k2
  clear HFD
  have hge : (50 : Int) ≤ (nL : Int) := by omega
  have K3 := lhd k3
  clear k3
  have d4 := X2.out.at_ 4 _ rfl
  have s1 := X3.out.at_ 1 _ rfl
  have q1 := d4
  go_wp2
  refine wp_region_quiet_lit (by kernel_rfl) (by kernel_rfl) ?_
  repeat (first | go_big_quiet_step (fail) | quiet_step (fail))
  refine wpQuiet_nil ?_
  intro _ hw'
  obtain ⟨nq, hw''⟩ := hw'
  subst hw''
  have hb := Below.drewN' (n := nq) (Below.refl w8.heap.size w8)
  obtain ⟨w9, hW⟩ : ∃ W, w8.drewN nq = W := ⟨_, rfl⟩
  rw [hW] at hb ⊢
  clear hW
  have X2 := lhd (X2.out.below hb X2.out.lt)
  have X3 := lhd (X3.out.below hb X3.out.lt)
  have X4 := lhd (X4.out.below hb X4.out.lt)
  have X5 := lhd (X5.out.below hb X5.out.lt)
  have X7 := lhd (X7.out.below hb X7.out.lt)
  have HB := lhd (HB.out.trans (hb.mono HB.out.size))
  clear hb
  clear q1 d4 s1
  have d4 := X2.out.at_ 4 _ rfl
  have s1 := X3.out.at_ 1 _ rfl
  have q1 := d4
  go_wp2
  refine wp_region_quiet_lit (by kernel_rfl) (by kernel_rfl) ?_
  repeat (first | go_big_quiet_step (fail) | quiet_step (fail))
  refine wpQuiet_nil ?_
  intro _ hw'
  obtain ⟨nq, hw''⟩ := hw'
  subst hw''
  have hb := Below.drewN' (n := nq) (Below.refl w9.heap.size w9)
  obtain ⟨w10, hW⟩ : ∃ W, w9.drewN nq = W := ⟨_, rfl⟩
  rw [hW] at hb ⊢
  clear hW
  have X2 := lhd (X2.out.below hb X2.out.lt)
  have X3 := lhd (X3.out.below hb X3.out.lt)
  have X4 := lhd (X4.out.below hb X4.out.lt)
  have X5 := lhd (X5.out.below hb X5.out.lt)
  have X7 := lhd (X7.out.below hb X7.out.lt)
  have HB := lhd (HB.out.trans (hb.mono HB.out.size))
  clear hb
  clear q1 d4 s1
  have d4 := X2.out.at_ 4 _ rfl
  go_wp2_with (refine wpList_store_fld rfl 25 _ _ rfl g7 2 (rpc (noR o 0) (.slice none 0 0)) (.int .i64 9) 79 rfl rfl X7.out szErT (by show 2 < 6; decide) rfl ?_)
  intro wz e1 e2 e3 e4
  have HAP : Hid (applyR r o = (r, noR o 9, [])) := by
   show _ = _
   unfold applyR
   rw [if_neg (by rw [HM.out]; decide), if_neg (by rintro ⟨h, _⟩; rw [HF.out] at h; cases h), if_neg (by rintro ⟨h, _⟩; rw [HF.out] at h; cases h), if_pos ⟨HF.out, by rw [HNL.out]; exact K3.out⟩]
  have X7 := lhd e1
  have X2 := lhd (X2.out.same (e4 g2 ne27))
  have X3 := lhd (X3.out.same (e4 g3 ne37))
  have X4 := lhd (X4.out.same (e4 g4 ne47))
  have X5 := lhd (X5.out.same (e4 g5 ne57))
  have HB := lhd (HB.out.trans (e3.mono hw7))
  clear e1 e2 e3 e4
  have X7 : Hid (Blk wz g7 (rpc (noR o 9) (.slice none 0 0)) 79) := X7.out
  have YN : Hid (GoE StK 9 b wz (.slice none 0 0) (pN (noR o 9))) := GoE.nil _ _ _ _
  obtain ⟨X, hX⟩ : ∃ q, noR o 9 = q := ⟨_, rfl⟩
  rw [hX] at X7 HAP YN
  clear hX
  obtain ⟨An, nn, cn, hnv⟩ : ∃ A n c, ((.slice none 0 0) : Value) = .slice A n c := ⟨_, _, _, rfl⟩
  rw [hnv] at X7 YN
  clear hnv
  clear d4
  go_wp2
 case inr.inr.inr.inr =>
  rcases hk with ⟨k, k2, k3, k4⟩ | ⟨k, k2, k3⟩
  case' inl =>
   subst k k2
   have k3 : ¬ pQ ((mL r).getD p rp0) = oQ o ∧ ¬ oQ o < pQ ((mL r).getD p rp0) := ⟨k3, k4⟩
   clear k4
   obtain ⟨hpl, hla⟩ := HFD.out rfl
   have HPL := lhd hpl
   have hpn : p < nL := by rw [HNL.out] at hpl; exact hpl
   have hpz : (p : Int) < (nL : Int) := by omega
   obtain ⟨sx, hsx⟩ : ∃ q, ss.getD p sl0 = q := ⟨_, rfl⟩
   obtain ⟨x, hx⟩ : ∃ q, (mL r).getD p rp0 = q := ⟨_, rfl⟩
   obtain ⟨ae, hA, -⟩ := (HSR.out.1).at6 p (by rw [rvs_len HSS.out]; exact hpl)
   subst hA
   have HND : Hid (∀ (W : World), Below w.heap.size w W → ∀ i v, (rpc x (slv sx))[i]? = some v → W.cell? ((ae.add (p * 6)).add i) = some v) := by
    intro W hW i v hv
    refine (HSR.out.1.below hW).node p (by rw [rvs_len HSS.out]; exact hpl) i v ?_
    show (rvc ((rvs (mL r) ss).getD p rv0))[i]? = some v
    rw [rvs_at HSS.out p hpl, hx, hsx]
    exact hv
   have HNM : Hid (GoE StK 9 b w (slv sx) (pN x)) := by
    have h := HSN.out p hpl
    rw [hsx, hx] at h
    exact h
   have HLA : Hid ((lastR (mL r) (oC o)).1 = x) := by
    show _ = _
    rw [hla, hx]
   rw [hx] at k3
   clear hpl hla hx hsx HFD
   have q1 : w8.cell? ⟨(ae.add (p * 6)).block, (ae.add (p * 6)).off + 1, none⟩ = some (.int .i64 (pQ x)) := HND.out _ HB.out 1 _ rfl
   have d4 := X2.out.at_ 4 _ rfl
   have s1 := X3.out.at_ 1 _ rfl
   have hq : (pQ x == oQ o) = false := by rw [beq_eq_false_iff_ne]; exact k3.1
   have hq2 : decide (oQ o < pQ x) = false := decide_eq_false k3.2
   have K3 := lhd k3
   clear k3
   go_wp2
   refine wp_region_quiet_lit (by kernel_rfl) (by kernel_rfl) ?_
   repeat (first | go_big_quiet_step (fail) | quiet_step (fail))
   refine wpQuiet_nil ?_
   intro _ hw'
   obtain ⟨nq, hw''⟩ := hw'
   subst hw''
   have hb := Below.drewN' (n := nq) (Below.refl w8.heap.size w8)
   obtain ⟨w9, hW⟩ : ∃ W, w8.drewN nq = W := ⟨_, rfl⟩
   rw [hW] at hb ⊢
   clear hW
   have X2 := lhd (X2.out.below hb X2.out.lt)
   have X3 := lhd (X3.out.below hb X3.out.lt)
   have X4 := lhd (X4.out.below hb X4.out.lt)
   have X5 := lhd (X5.out.below hb X5.out.lt)
   have X7 := lhd (X7.out.below hb X7.out.lt)
   have HB := lhd (HB.out.trans (hb.mono HB.out.size))
   clear hb
   clear q1 d4 s1
   have hq2 : ¬ oQ o < pQ x := by have := K3.out.2; omega
   have q1 : w9.cell? ⟨(ae.add (p * 6)).block, (ae.add (p * 6)).off + 1, none⟩ = some (.int .i64 (pQ x)) := HND.out _ HB.out 1 _ rfl
   have d4 := X2.out.at_ 4 _ rfl
   have s1 := X3.out.at_ 1 _ rfl
   go_wp2
   refine wp_region_quiet_lit (by kernel_rfl) (by kernel_rfl) ?_
   repeat (first | go_big_quiet_step (fail) | quiet_step (fail))
   refine wpQuiet_nil ?_
   intro _ hw'
   obtain ⟨nq, hw''⟩ := hw'
   subst hw''
   have hb := Below.drewN' (n := nq) (Below.refl w9.heap.size w9)
   obtain ⟨w10, hW⟩ : ∃ W, w9.drewN nq = W := ⟨_, rfl⟩
   rw [hW] at hb ⊢
   clear hW
   have X2 := lhd (X2.out.below hb X2.out.lt)
   have X3 := lhd (X3.out.below hb X3.out.lt)
   have X4 := lhd (X4.out.below hb X4.out.lt)
   have X5 := lhd (X5.out.below hb X5.out.lt)
   have X7 := lhd (X7.out.below hb X7.out.lt)
   have HB := lhd (HB.out.trans (hb.mono HB.out.size))
   clear hb
   clear q1 d4 s1
   have HAP : Hid (applyR r o = takenR r o) := by
    show _ = _
    unfold applyR
    rw [if_neg (by rw [HM.out]; decide), if_neg (by rintro ⟨_, h⟩; rw [HLA.out] at h; exact K3.out.1 h), if_neg (by rintro ⟨_, h⟩; rw [HLA.out] at h; have := K3.out.2; omega), if_neg (by rintro ⟨h, _⟩; rw [HF.out] at h; cases h)]
   clear HNM HLA HND hpn hpz HPL K3 hq hq2
   obtain ⟨wz, hwz⟩ : ∃ q, w10 = q := ⟨_, rfl⟩
   rw [hwz] at X2 X3 X4 X5 X7 HB ⊢
   clear hwz
  case' inr =>
   subst k k2
   clear HFD
   have hge : ¬ (50 : Int) ≤ (nL : Int) := by omega
   have K3 := lhd k3
   clear k3
   have d4 := X2.out.at_ 4 _ rfl
   have s1 := X3.out.at_ 1 _ rfl
   have q1 := d4
   go_wp2
   refine wp_region_quiet_lit (by kernel_rfl) (by kernel_rfl) ?_
   repeat (first | go_big_quiet_step (fail) | quiet_step (fail))
   refine wpQuiet_nil ?_
   intro _ hw'
   obtain ⟨nq, hw''⟩ := hw'
   subst hw''
   have hb := Below.drewN' (n := nq) (Below.refl w8.heap.size w8)
   obtain ⟨w9, hW⟩ : ∃ W, w8.drewN nq = W := ⟨_, rfl⟩
   rw [hW] at hb ⊢
   clear hW
   have X2 := lhd (X2.out.below hb X2.out.lt)
   have X3 := lhd (X3.out.below hb X3.out.lt)
   have X4 := lhd (X4.out.below hb X4.out.lt)
   have X5 := lhd (X5.out.below hb X5.out.lt)
   have X7 := lhd (X7.out.below hb X7.out.lt)
   have HB := lhd (HB.out.trans (hb.mono HB.out.size))
   clear hb
   clear q1 d4 s1
   have d4 := X2.out.at_ 4 _ rfl
   have s1 := X3.out.at_ 1 _ rfl
   have q1 := d4
   go_wp2
   refine wp_region_quiet_lit (by kernel_rfl) (by kernel_rfl) ?_
   repeat (first | go_big_quiet_step (fail) | quiet_step (fail))
   refine wpQuiet_nil ?_
   intro _ hw'
   obtain ⟨nq, hw''⟩ := hw'
   subst hw''
   have hb := Below.drewN' (n := nq) (Below.refl w9.heap.size w9)
   obtain ⟨w10, hW⟩ : ∃ W, w9.drewN nq = W := ⟨_, rfl⟩
   rw [hW] at hb ⊢
   clear hW
   have X2 := lhd (X2.out.below hb X2.out.lt)
   have X3 := lhd (X3.out.below hb X3.out.lt)
   have X4 := lhd (X4.out.below hb X4.out.lt)
   have X5 := lhd (X5.out.below hb X5.out.lt)
   have X7 := lhd (X7.out.below hb X7.out.lt)
   have HB := lhd (HB.out.trans (hb.mono HB.out.size))
   clear hb
   clear q1 d4 s1
   have HAP : Hid (applyR r o = takenR r o) := by
    show _ = _
    unfold applyR
    rw [if_neg (by rw [HM.out]; decide), if_neg (by rintro ⟨h, _⟩; rw [HF.out] at h; cases h), if_neg (by rintro ⟨h, _⟩; rw [HF.out] at h; cases h), if_neg (by rintro ⟨_, h⟩; rw [HNL.out] at h; exact K3.out h)]
   clear K3
   obtain ⟨wz, hwz⟩ : ∃ q, w10 = q := ⟨_, rfl⟩
   rw [hwz] at X2 X3 X4 X5 X7 HB ⊢
   clear hwz
  all_goals
   have d4 := X2.out.at_ 4 _ rfl
   have hsz := may_sized (o := o) (by first | exact HM.out | (rw [HM.out]))
   have hz0 : 0 ≤ oK o ∧ oK o ≤ 11 := by omega
   have HZ0 := lhd hz0
   clear hsz hz0
   have GNz := lhd (GN.out.below HB.out HBW.out)
   have GSz := lhd (GS.out.below HB.out HBW.out)
   have GWz := lhd (GW.out.below HB.out HBW.out)
   have GLz := lhd (GL.out.below HB.out HBW.out)
   have hlt4 := X4.out.lt
   have hlt5 := X5.out.lt
   have hg5z := lhd (show g5 < wz.heap.size from hlt5)
   have hsz := HB.out.size
   go_wp2_with (first | refine wpList_load_part rfl 50 _ rfl g2 0 (rmc (mT r) _ _ _ _) (rmc (mT r) _ _ _ _) 50 rfl X2.out rfl huR hdR szRmP ?_ | refine wpList_load_part rfl 86 _ rfl g3 0 (orc o) (orc o) 86 rfl X3.out rfl huO hdO szOrT ?_)
   refine (takeEffect_any b r o _ _ _ _ wz (Nat.le_trans HBW.out HB.out.size) GNz.out GSz.out GWz.out GLz.out HR.out HZ0.out.1 HZ0.out.2 HI.out).mono ?_
   rintro e wy ⟨vN, vS, vW, vQ, nv, vE, rfl, y1, y2, y3, y4, y5, y6, y7, hb⟩
   have X4 := lhd (X4.out.below hb hlt4)
   have X5 := lhd (X5.out.below hb hlt5)
   have hsy := hb.size
   have HBy := lhd (HB.out.trans (hb.mono hsz))
   obtain ⟨AN, cN, hv1, -, -⟩ := y1.1.shape
   obtain ⟨AS, cS, hv2, -, -⟩ := y2.1.shape
   obtain ⟨AW, cW, hv3, -, -⟩ := y3.1.shape
   obtain ⟨AQ, cQ, hv4, -, -⟩ := y4.rd.shape
   obtain ⟨Ax, cx, hv5, -, -⟩ := y6.1.shape
   obtain ⟨T, hT⟩ : ∃ q, takenR r o = q := ⟨_, rfl⟩
   rw [hT] at y1 y2 y3 y4 y6 y7 hv1 hv2 hv3 hv4 hv5 ⊢
   have HTT := lhd hT
   obtain ⟨nN, hn1⟩ : ∃ q, (mN T.1).length = q := ⟨_, rfl⟩
   obtain ⟨nS, hn2⟩ : ∃ q, (mS T.1).length = q := ⟨_, rfl⟩
   obtain ⟨nW, hn3⟩ : ∃ q, (mW T.1).length = q := ⟨_, rfl⟩
   obtain ⟨nQ, hn4⟩ : ∃ q, (mL T.1).length = q := ⟨_, rfl⟩
   obtain ⟨nx, hn5⟩ : ∃ q, (pN T.2.1).length = q := ⟨_, rfl⟩
   rw [hn1] at hv1
   rw [hn2] at hv2
   rw [hn3] at hv3
   rw [hn4] at hv4
   rw [hn5] at hv5
   subst hv1 hv2 hv3 hv4 hv5
   clear hT hn1 hn2 hn3 hn4 hn5 d4 GNz GSz GWz GLz hb
   have Y1 := lhd y1
   have Y2 := lhd y2
   have Y3 := lhd y3
   have Y4 := lhd y4
   have Y5 := lhd y5
   have Y6 := lhd y6
   have Y7 := lhd y7
   clear y1 y2 y3 y4 y5 y6 y7
   obtain ⟨RC, hRC⟩ : ∃ q : List Value, rmc (mT T.1) (.slice AN nN cN) (.slice AS nS cS) (.slice AW nW cW) (.slice AQ nQ cQ) = q := ⟨_, rfl⟩
   have hRA : RC.toArray.all (·.oneCell') = true := by rw [← hRC]; exact rmc_all _ _ _ _ _ _ _ _ _ _ _ _ _
   have hRL : RC.length = 5 := by rw [← hRC]; rfl
   have HRC := lhd hRC
   have HRL := lhd hRL
   rw [hRC]
   clear hRC hRL
   go_wp2_with (refine wpList_store_to rfl 50 _ _ rfl g4 RC (rmc 0 (.slice none 0 0) (.slice none 0 0) (.slice none 0 0) (.slice none 0 0)) 50 rfl rfl X4.out (by rw [HRL.out]; exact szRmP) (by rw [HRL.out]; rfl) hRA ?_)
   intro wa e1 e2 e3 e4
   have Z4 := lhd e1
   have Z5 := lhd (X5.out.same (e4 g5 ne45.symm))
   have HBa := lhd (HBy.out.trans (e3.mono hw4))
   have KT := lhd (Keep.store (T := TE) (b := w.heap.size) X4.out (.inr (.inl rfl)) hw4 e2 e4)
   have KR := lhd (Keep.store (T := fun e => e = 50) (b := w.heap.size) X4.out rfl hw4 e2 e4)
   clear e1 e2 e3 e4 X4 X5
   go_wp2_with (refine wpList_store_to rfl 79 _ _ rfl g5 (rpc T.2.1 (.slice Ax nx cx)) (rpc rp0 (.slice none 0 0)) 79 rfl rfl Z5.out szRpT rfl (rpc_allM _ _ _ _) ?_)
   intro wc e1 e2 e3 e4
   have V5 := lhd e1
   have V4 := lhd (Z4.out.same (e4 g4 ne45))
   have HBc := lhd (HBa.out.trans (e3.mono hw5))
   have KV := lhd (Keep.store (T := TE) (b := w.heap.size) Z5.out (.inr (.inr rfl)) hw5 e2 e4)
   have KU := lhd (KT.out.trans KV.out)
   have E2 := lhd e2
   have E4 := lhd e4
   clear e1 e2 e3 Z4 Z5
   go_wp2
   refine bodyPost_ret (v := .tuple #[.agg RC.toArray, .agg (rpc T.2.1 (.slice Ax nx cx)).toArray, vE]) ?_ rfl ?_
   ·exact ret_blk3R rfl _ _ g4 g5 50 79 RC (rpc T.2.1 (.slice Ax nx cx)) vE rfl rfl rfl V4.out V5.out huR hdR (by rw [HRL.out]; exact szRmP) huP hdP szRpT
   ·rw [HAP.out, HTT.out]
    refine ⟨_, _, _, _, _, vE, by rw [HRC.out], Y1.out.keep KU.out TE_nd HBW.out, Y2.out.keep KU.out TE_se HBW.out, Y3.out.keep KU.out TE_wa HBW.out, ?_, ?_, Y6.out.keep KU.out TE_st HBW.out, ?_, HBc.out⟩
    ·obtain ⟨sq, q1, q2, q3⟩ := Y4.out.keep KR.out (by decide) (by decide) HBW.out
     refine ⟨sq, q1, q2.but (Nat.le_trans HBW.out hw5) E2.out (Nat.le_trans HBW.out KV.out.le) E4.out ?_, fun j hj => (q3 j hj).keep KV.out TE_st HBW.out⟩
     intro hpos he
     have he2 : ∃ a, AQ = some a ∧ a.block = g5 := by
      cases AQ with
      | none => cases he
      | some a => exact ⟨a, rfl, by injection he⟩
     obtain ⟨a, rfl, ha⟩ := he2
     rcases Y5.out with h | h
     ·have h1 := GL.out.rd
      rw [← h] at h1
      obtain ⟨_, z1, z2, _⟩ := h1
      obtain ⟨A', c', z3, _, _, _, _⟩ := q2.1
      injection z3 with _ z4 _
      have := z2.lo a nQ cQ rfl (by rw [z4]; exact hpos)
      omega
     ·have := h g5 he
      have := hg5z.out
      omega
    ·rcases Y5.out with h | h
     ·exact .inl h
     ·exact .inr fun k hk => Nat.le_trans hsz (h k hk)
    ·rcases Y7.out with h | h
     ·exact .inl h
     ·exact .inr ((h.base hsz).keep KU.out TE_ev)
 all_goals
  have hdw : Below wz.heap.size wz wz.drew := (Below.refl _ _).drew
  have X2 := lhd X2.out.drew
  have X4 := lhd X4.out.drew
  have X5 := lhd X5.out.drew
  have X7 := lhd X7.out.drew
  have HB := lhd HB.out.drew
  have YN := lhd (YN.out.below hdw (Nat.le_trans HBW.out HB.out.size))
  clear hdw
  refine wp_region_till 5 5 (fun w9 => Blk w9 g2 (rmc (mT r) (.slice AN nN cN) (.slice AS nS cS) (.slice AW nW cW) (.slice AL nL cL)) 50 ∧ Blk w9 g7 (rpc X (.slice An nn cn)) 79) (by kernel_rfl) rfl ?_
  obtain ⟨wA, hwA⟩ : ∃ q, wz.drew = q := ⟨_, rfl⟩
  rw [hwA] at X2 X4 X5 X7 HB YN ⊢
  clear hwA
  have HS := lhd (And.intro X2.out X7.out)
  refine AnyTill.take (i := 0) (v := .agg (rmc (mT r) (.slice AN nN cN) (.slice AS nS cS) (.slice AW nW cW) (.slice AL nL cL)).toArray) rfl (by kernel_rfl) (by kernel_rfl) (by kernel_rfl) (by kernel_rfl) (fun _ _ _ h => (h : False).elim) rfl (fun w9 hS9 => run_load_part 50 _ rfl g2 0 (rmc (mT r) (.slice AN nN cN) (.slice AS nS cS) (.slice AW nW cW) (.slice AL nL cL)) (rmc (mT r) (.slice AN nN cN) (.slice AS nS cS) (.slice AW nW cW) (.slice AL nL cL)) 50 rfl hS9.1 rfl huR hdR szRmP) HS.out ?_
  refine AnyTill.take (i := 1) (v := .agg (rpc X (.slice An nn cn)).toArray) rfl (by kernel_rfl) (by kernel_rfl) (by kernel_rfl) (by kernel_rfl) (fun _ _ _ h => (h : False).elim) rfl (fun w9 hS9 => run_load_part 79 _ rfl g7 0 (rpc X (.slice An nn cn)) (rpc X (.slice An nn cn)) 79 rfl hS9.2 rfl huP hdP szRpT) HS.out ?_
  refine AnyTill.storeA 2 (by kernel_rfl) rfl (g := g4) (j := 0) (cs := rmc 0 (.slice none 0 0) (.slice none 0 0) (.slice none 0 0) (.slice none 0 0)) (vs := rmc (mT r) (.slice AN nN cN) (.slice AS nS cS) (.slice AW nW cW) (.slice AL nL cL)) (u := 50) ⟨_, _, _, rfl, rfl, rfl, rfl, .inl rfl, szRmP, rmc_all _ _ _ _ _ _ _ _ _ _ _ _ _⟩ X4.out (by show 5 ≤ 5; decide) (fun w9 z1 z2 => ⟨X2.out.same (z2 g2 ne24), X7.out.same (z2 g7 ne47.symm)⟩) ?_
  intro wB e1 e2 e3 e4
  have V4 := lhd e1
  have X2 := lhd (X2.out.same (e4 g2 ne24))
  have X7 := lhd (X7.out.same (e4 g7 ne47.symm))
  have KT := lhd (Keep.store (T := TE) (b := w.heap.size) X4.out (.inr (.inl rfl)) hw4 e2 e4)
  have X5 := lhd (X5.out.same (e4 g5 ne45.symm))
  have HB := lhd (HB.out.trans (e3.mono hw4))
  clear e1 e2 e3 e4 X4 HS
  refine AnyTill.storeA 3 (by kernel_rfl) rfl (g := g5) (j := 0) (cs := rpc rp0 (.slice none 0 0)) (vs := rpc X (.slice An nn cn)) (u := 79) ⟨_, _, _, rfl, rfl, rfl, rfl, .inl rfl, szRpT, rpc_allM _ _ _ _⟩ X5.out (by show 6 ≤ 6; decide) (fun w9 z1 z2 => ⟨X2.out.same (z2 g2 ne25), X7.out.same (z2 g7 ne57.symm)⟩) ?_
  intro wC e1 e2 e3 e4
  have V5 := lhd e1
  have KT := lhd (KT.out.trans (Keep.store (T := TE) (b := w.heap.size) X5.out (.inr (.inr rfl)) hw5 e2 e4))
  have V4 := lhd (V4.out.same (e4 g4 ne45))
  have X2 := lhd (X2.out.same (e4 g2 ne25))
  have X7 := lhd (X7.out.same (e4 g7 ne57.symm))
  have HB := lhd (HB.out.trans (e3.mono hw5))
  clear e1 e2 e3 e4 X5
  have HS := lhd (And.intro X2.out X7.out)
  refine AnyTill.take (i := 4) (v := .slice none 0 0) rfl (by kernel_rfl) (by kernel_rfl) (by kernel_rfl) (by kernel_rfl) (fun _ _ _ h => (h : False).elim) rfl (fun w9 hS9 => rfl) HS.out ?_
  refine AnyTill.done (by kernel_rfl) ?_
  refine NoPanic.normal ?_
  simp only [Act.put]
  go_wp2
  refine bodyPost_ret (v := .tuple #[.agg (rmc (mT r) (.slice AN nN cN) (.slice AS nS cS) (.slice AW nW cW) (.slice AL nL cL)).toArray, .agg (rpc X (.slice An nn cn)).toArray, .slice none 0 0]) ?_ rfl ?_
  ·exact ret_blk3R rfl _ _ g4 g5 50 79 (rmc (mT r) (.slice AN nN cN) (.slice AS nS cS) (.slice AW nW cW) (.slice AL nL cL)) (rpc X (.slice An nn cn)) (.slice none 0 0) rfl rfl rfl V4.out V5.out huR hdR szRmP huP hdP szRpT
  ·rw [HAP.out]
   exact ⟨_, _, _, _, _, _, rfl, GN.out.below HB.out HBW.out, GS.out.below HB.out HBW.out, GW.out.below HB.out HBW.out, GL.out.below HB.out HBW.out, .inl (by first | rfl | rw [HAE.out]), YN.out.keep KT.out TE_st HBW.out, .inl ⟨rfl, rfl⟩, HB.out⟩
end Go.Proofs.YtgfobinklijkpaaGreatDoor
