/-
  Texts K9.
-/
import Derived.Test.YtdihngkdhanhkaaGreatDoorV01
import Derived.Test.YtdihngkdhanhkaaGreatDoorV38
namespace Go.Proofs.YtdihngkdhanhkaaGreatDoor
set_option maxRecDepth 100000
set_option maxHeartbeats 16000000
open Go.RowKit
theorem names_done (r : Rm) (o : Or) (h : RightR r) : (pN (doneR r o).2.1).length ≤ 200 := by
 have hN := h.n.few
 have hl : ((listS (mN r) (oP o)).map ba).length ≤ 200 := by
  rw [List.length_map]
  unfold listS kidsN
  split
  ·rw [List.length_map]
   have := List.length_filter_le (kidN (oP o)) (mN r)
   omega
  ·exact Nat.zero_le _
 have key : ∀ x, doneR r o = x → (pN x.2.1).length ≤ 200 := by
  intro x hx
  unfold doneR at hx
  by_cases k : oK o = 1
  ·rw [if_pos k] at hx
   by_cases k2 : noLease r o = true
   ·rw [if_pos k2] at hx
    subst hx
    exact Nat.zero_le _
   ·rw [if_neg k2] at hx
    subst hx
    exact Nat.zero_le _
  rw [if_neg k] at hx
  clear k
  by_cases k : oK o = 2
  ·rw [if_pos k] at hx
   subst hx
   first | exact Nat.zero_le _ | exact hl
  rw [if_neg k] at hx
  clear k
  by_cases k : oK o = 3
  ·rw [if_pos k] at hx
   subst hx
   first | exact Nat.zero_le _ | exact hl
  rw [if_neg k] at hx
  clear k
  by_cases k : oK o = 4
  ·rw [if_pos k] at hx
   subst hx
   first | exact Nat.zero_le _ | exact hl
  rw [if_neg k] at hx
  clear k
  by_cases k : oK o = 5
  ·rw [if_pos k] at hx
   subst hx
   first | exact Nat.zero_le _ | exact hl
  rw [if_neg k] at hx
  clear k
  by_cases k : oK o = 6
  ·rw [if_pos k] at hx
   subst hx
   first | exact Nat.zero_le _ | exact hl
  rw [if_neg k] at hx
  clear k
  by_cases k : oK o = 7
  ·rw [if_pos k] at hx
   subst hx
   first | exact Nat.zero_le _ | exact hl
  rw [if_neg k] at hx
  clear k
  by_cases k : oK o = 8
  ·rw [if_pos k] at hx
   by_cases k2 : leaseE (mS r) (oS o) = 0
   ·rw [if_pos k2] at hx
    subst hx
    exact Nat.zero_le _
   ·rw [if_neg k2] at hx
    subst hx
    exact Nat.zero_le _
  rw [if_neg k] at hx
  clear k
  by_cases k : oK o = 9
  ·rw [if_pos k] at hx
   by_cases k2 : tickE (mT r) (oT o) = 0
   ·rw [if_pos k2] at hx
    subst hx
    exact Nat.zero_le _
   ·rw [if_neg k2] at hx
    subst hx
    exact Nat.zero_le _
  rw [if_neg k] at hx
  clear k
  by_cases k : oK o = 10 ∨ oK o = 11
  ·rw [if_pos k] at hx
   subst hx
   first | exact Nat.zero_le _ | exact hl
  rw [if_neg k] at hx
  clear k
  subst hx
  exact Nat.zero_le _
 exact key _ rfl
def NamesR (l : List Rp) : Prop := ∀ x ∈ l, (pN x).length ≤ 1000
theorem fewR_of (r : Rm) (h : RightR r) (hn : NamesR (mL r)) : FewR r := by
 have h1 := h.n.few
 have h2 := h.b.few
 have h3 := h.w.few
 have h4 := h.few
 exact ⟨by omega, by omega, by omega, by omega, hn⟩
theorem names_apply (r : Rm) (o : Or) (h : RightR r) (hn : NamesR (mL r)) : NamesR (mL (applyR r o).1) ∧ (pN (applyR r o).2.1).length ≤ 1000 := by
 have hd := names_done r o h
 unfold applyR
 split
 ·exact ⟨hn, Nat.zero_le _⟩
 split
 ·rename_i h2
  exact ⟨hn, hn _ (lastR_mem _ _ h2.1).1⟩
 split
 ·exact ⟨hn, Nat.zero_le _⟩
 split
 ·exact ⟨hn, Nat.zero_le _⟩
 ·refine ⟨fun x hx => ?_, by show (pN (doneR r o).2.1).length ≤ 1000; omega⟩
  rcases seenR_mem _ _ _ x hx with rfl | ⟨hx, _⟩
  ·show (pN (doneR r o).2.1).length ≤ 1000
   omega
  ·exact hn x hx
theorem OwnE.same {α : Type} {E : RowK α} {e : TypeId} {w w' : World} {b : Nat} {v : Value} {l : List α} (h : OwnE E e w b v l) (ho : ∀ k : Nat, b ≤ k → w'.heap[k]? = w.heap[k]?) : OwnE E e w' b v l := ownsRow_same h ho
theorem OwnRm.same {b : Nat} {w w' : World} {vN vS vW vL : Value} {r : Rm} (h : OwnRm b w vN vS vW vL r) (ho : ∀ k : Nat, b ≤ k → w'.heap[k]? = w.heap[k]?) : OwnRm b w' vN vS vW vL r := by
 obtain ⟨h1, h2, h3, ss, h4, h5, h6⟩ := h
 exact ⟨h1.same ho, h2.same ho, h3.same ho, ss, h4, h5.same ho, fun j hj => (h6 j hj).same ho⟩
theorem OwnRm.below {b : Nat} {w w' : World} {vN vS vW vL : Value} {r : Rm} (h : OwnRm b w vN vS vW vL r) (hb : Below w.heap.size w w') : OwnRm b w' vN vS vW vL r := by
 obtain ⟨h1, h2, h3, ss, h4, h5, h6⟩ := h
 exact ⟨h1.below hb (Nat.le_refl _), h2.below hb (Nat.le_refl _), h3.below hb (Nat.le_refl _), ss, h4, h5.below hb (Nat.le_refl _), fun j hj => (h6 j hj).below hb (Nat.le_refl _)⟩
theorem OwnRm.base {b b' : Nat} {w : World} {vN vS vW vL : Value} {r : Rm} (h : OwnRm b w vN vS vW vL r) (hb : b' ≤ b) : OwnRm b' w vN vS vW vL r := by
 obtain ⟨h1, h2, h3, ss, h4, h5, h6⟩ := h
 exact ⟨h1.base hb, h2.base hb, h3.base hb, ss, h4, h5.base hb, fun j hj => (h6 j hj).base hb⟩
def EvO (b : Nat) (w : World) (v : Value) (l : List Ev) : Prop := (v = .slice none 0 0 ∧ l = []) ∨ OwnE EvK 98 w b v l
theorem EvO.rd {b : Nat} {w : World} {v : Value} {l : List Ev} (h : EvO b w v l) : RdE EvK w.heap.size w v l := by
 rcases h with ⟨rfl, rfl⟩ | h
 ·exact RdE.nil _ _
 ·exact h.rd
theorem EvO.below {b : Nat} {w w' : World} {v : Value} {l : List Ev} (h : EvO b w v l) (hb : Below w.heap.size w w') : EvO b w' v l := h.imp id fun h => h.below hb (Nat.le_refl _)
theorem EvO.keep {T : TypeId → Prop} {b d : Nat} {w w' : World} {v : Value} {l : List Ev} (h : EvO b w v l) (hk : Keep T d w w') (hT : ¬ T 98) : EvO b w' v l := h.imp id fun h => h.keep hk hT
def AppO (y : Rm × Rp × List Ev) (w : World) (e : Ending) (w' : World) : Prop :=
 ∃ vN vS vW vL nv vE, e = .returned (.tuple #[.agg (rmc (mT y.1) vN vS vW vL).toArray, .agg (rpc y.2.1 nv).toArray, vE]) ∧ OwnRm w.heap.size w' vN vS vW vL y.1 ∧ OwnE StK 9 w' w.heap.size nv (pN y.2.1) ∧ EvO w.heap.size w' vE y.2.2 ∧ Below w.heap.size w w'
theorem putL_at : ∀ (vs pre old : List Value), old.length = vs.length → putL (pre ++ old) pre.length vs = pre ++ vs
 | [], pre, old, h => by
   obtain rfl : old = [] := List.eq_nil_of_length_eq_zero (by simpa using h)
   rfl
 | v :: r, pre, x :: old, h => by
   show putL ((pre ++ x :: old).set pre.length v) (pre.length + 1) r = _
   rw [List.set_append_right _ _ (Nat.le_refl _), Nat.sub_self, List.set_cons_zero]
   have := putL_at r (pre ++ [v]) old (by simpa using h)
   rw [List.append_assoc, List.length_append] at this
   simpa using this
theorem putL_all (vs old : List Value) (h : old.length = vs.length) : putL old 0 vs = vs := putL_at vs [] old h
theorem rmApply_any (r : Rm) (o : Or) (vN vS vW vL : Value) (w : World) (hr : RdRm w.heap.size w vN vS vW vL r) (hR : RightR r) (hn : NamesR (mL r)) (hi : fitI (oS o)) : Calls Tryz.prog 14 #[.agg (rmc (mT r) vN vS vW vL).toArray, .agg (orc o).toArray] w (AppO (applyR r o) w) := by
 obtain ⟨AN, cN, hvN, -, -⟩ := hr.n.shape
 obtain ⟨nN, hnN⟩ : ∃ q, (mN r).length = q := ⟨_, rfl⟩
 rw [hnN] at hvN
 clear hnN
 subst hvN
 obtain ⟨AS, cS, hvS, -, -⟩ := hr.s.shape
 obtain ⟨nS, hnS⟩ : ∃ q, (mS r).length = q := ⟨_, rfl⟩
 rw [hnS] at hvS
 clear hnS
 subst hvS
 obtain ⟨AW, cW, hvW, -, -⟩ := hr.t.shape
 obtain ⟨nW, hnW⟩ : ∃ q, (mW r).length = q := ⟨_, rfl⟩
 rw [hnW] at hvW
 clear hnW
 subst hvW
 obtain ⟨AL, cL, hvL, -, -⟩ := hr.l.shape
 obtain ⟨nL, hnL⟩ : ∃ q, (mL r).length = q := ⟨_, rfl⟩
 rw [hnL] at hvL
 clear hnL
 subst hvL
 obtain ⟨Y, hY⟩ : ∃ q, applyR r o = q := ⟨_, rfl⟩
 have hra := right_apply r o hR
 have hna := names_apply r o hR hn
 rw [hY] at hra hna ⊢
 have HY := lhd hY
 have HRA := lhd hra
 have HNA := lhd hna
 have HFY := lhd (fewR_of _ hra hna.1)
 have HR := lhd hR
 have HRD := lhd hr
 have HI := lhd hi
 clear hY hra hna hR hr hn hi
 obtain ⟨dR, huR, hdR⟩ := rowRmP
 obtain ⟨dP, huP, hdP⟩ := rowRpT
 obtain ⟨dO, huO, hdO⟩ := rowOrT
 go_enter Tryz.func14, Tryz.ntmps14
 go_wp2_with (refine wpList_box_blk rfl 33 _ rfl (rmc (mT r) (.slice AN nN cN) (.slice AS nS cS) (.slice AW nW cW) (.slice AL nL cL)) rfl ?_)
 intro w1 b1 b2 b3
 go_wp2_with (refine wpList_box_blk rfl 35 _ rfl (orc o) rfl ?_)
 intro w2 d1 d2 d3
 go_wp2_with (refine wpList_alloc_blk rfl 33 rfl (rmc 0 (.slice none 0 0) (.slice none 0 0) (.slice none 0 0) (.slice none 0 0)) zeroRmP ?_)
 intro w3 e1 e2 e3
 go_wp2_with (refine wpList_alloc_blk rfl 57 rfl (rpc rp0 (.slice none 0 0)) zeroRpT ?_)
 intro w4 f1 f2 f3
 obtain ⟨g2, hg2⟩ : ∃ g, w.heap.size = g := ⟨_, rfl⟩
 obtain ⟨g3, hg3⟩ : ∃ g, w.heap.size + 1 = g := ⟨_, rfl⟩
 obtain ⟨g4, hg4⟩ : ∃ g, w.heap.size + 1 + 1 = g := ⟨_, rfl⟩
 obtain ⟨g5, hg5⟩ : ∃ g, w.heap.size + 1 + 1 + 1 = g := ⟨_, rfl⟩
 have b1' := ((b1.below d3 (by omega)).below e3 (by omega)).below f3 (by omega)
 have d1' := (d1.below e3 (by omega)).below f3 (by omega)
 have e1' := e1.below f3 (by omega)
 have HB := lhd (b3.trans ((d3.mono (by omega)).trans ((e3.mono (by omega)).trans (f3.mono (by omega)))))
 have X2 := lhd b1'
 have X3 : Hid (Blk w4 g3 (orc o) 35) := lhd (by rw [← hg3]; exact d1')
 have X4 : Hid (Blk w4 g4 (rmc 0 (.slice none 0 0) (.slice none 0 0) (.slice none 0 0) (.slice none 0 0)) 33) := lhd (by rw [← hg4]; exact e1')
 have X5 : Hid (Blk w4 g5 (rpc rp0 (.slice none 0 0)) 57) := lhd (by rw [← hg5]; exact f1)
 have ne24 : g2 ≠ g4 := by omega
 have ne25 : g2 ≠ g5 := by omega
 have ne45 : g4 ≠ g5 := by omega
 have hw2 : w.heap.size ≤ g2 := by omega
 have hw4 : w.heap.size ≤ g4 := by omega
 have hw5 : w.heap.size ≤ g5 := by omega
 have h25 : g5 < w4.heap.size := by omega
 have h45 : g4 < g5 := by omega
 have h24 : g2 < g5 := by omega
 rw [hg2] at X2
 clear b1 d1 e1 b1' d1' e1' b2 d2 e2 b3 d3 e3 f1 f2 f3
 rw [hg5, hg4, hg3, hg2]
 have HG2 := lhd hg2
 clear hg2 hg3 hg4 hg5
 have hsz := HB.out.size
 have M2 := X2.out.lt
 have M4 := X4.out.lt
 have M5 := X5.out.lt
 have GN := lhd (GoE.given (e := 91) (HRD.out.n.toE.below HB.out) hsz)
 have GS := lhd (GoE.given (e := 105) (HRD.out.s.below HB.out) hsz)
 have GW := lhd (GoE.given (e := 94) (HRD.out.t.below HB.out) hsz)
 have GL := lhd (GoRp.given (e := 57) (es := 9) (HRD.out.l.below HB.out) hsz)
 go_wp2_with (first | refine wpList_load_part rfl 33 _ rfl g2 0 (rmc (mT r) (.slice AN nN cN) (.slice AS nS cS) (.slice AW nW cW) (.slice AL nL cL)) (rmc (mT r) (.slice AN nN cN) (.slice AS nS cS) (.slice AW nW cW) (.slice AL nL cL)) 33 rfl X2.out rfl huR hdR szRmP ?_ | refine wpList_load_part rfl 35 _ rfl g3 0 (orc o) (orc o) 35 rfl X3.out rfl huO hdO szOrT ?_)
 refine (step_any w.heap.size r o _ _ _ _ w4 hsz GN.out GS.out GW.out GL.out HR.out HI.out).mono ?_
 rintro e w5 ⟨vN, vS, vW, vQ, nv, vE, rfl, y1, y2, y3, y4, -, y6, y7, hb⟩
 rw [HY.out] at y1 y2 y3 y4 y6 y7 ⊢
 have X2 := lhd (X2.out.below hb M2)
 have X4 := lhd (X4.out.below hb M4)
 have X5 := lhd (X5.out.below hb M5)
 have HB := lhd (HB.out.trans (hb.mono hsz))
 have hsy := hb.size
 have EV : Hid (EvO w.heap.size w5 vE Y.2.2) := lhd (y7.imp id fun h => h.base hsz)
 obtain ⟨AP, cP, hv1, -, -⟩ := y1.1.shape
 obtain ⟨AR, cR, hv2, -, -⟩ := y2.1.shape
 obtain ⟨AT, cT, hv3, -, -⟩ := y3.1.shape
 obtain ⟨AQ, cQ, hv4, -, -⟩ := y4.rd.shape
 obtain ⟨Ax, cx, hv5, -, -⟩ := y6.1.shape
 obtain ⟨nP, hn1⟩ : ∃ q, (mN Y.1).length = q := ⟨_, rfl⟩
 obtain ⟨nR, hn2⟩ : ∃ q, (mS Y.1).length = q := ⟨_, rfl⟩
 obtain ⟨nT, hn3⟩ : ∃ q, (mW Y.1).length = q := ⟨_, rfl⟩
 obtain ⟨nQ, hn4⟩ : ∃ q, (mL Y.1).length = q := ⟨_, rfl⟩
 obtain ⟨nx, hn5⟩ : ∃ q, (pN Y.2.1).length = q := ⟨_, rfl⟩
 rw [hn1] at hv1
 rw [hn2] at hv2
 rw [hn3] at hv3
 rw [hn4] at hv4
 rw [hn5] at hv5
 subst hv1 hv2 hv3 hv4 hv5
 have HLO : Hid (0 < (mL Y.1).length → (Value.slice AQ nQ cQ).ownBlock ≠ some w5.heap.size) := by
  intro hpos he
  obtain ⟨_, z1, z2, _⟩ := y4.rd
  have he2 : ∃ a, AQ = some a ∧ a.block = w5.heap.size := by
   cases AQ with
   | none => cases he
   | some a => exact ⟨a, rfl, by injection he⟩
  obtain ⟨a, rfl, ha⟩ := he2
  have := z2.lo a nQ cQ rfl (by omega)
  omega
 have G1 := lhd y1
 have G2 := lhd y2
 have G3 := lhd y3
 have G4 := lhd y4
 have G6 := lhd y6
 have M2 := X2.out.lt
 have M4 := X4.out.lt
 have M5 := X5.out.lt
 clear y1 y2 y3 y4 y6 y7 hb hn1 hn2 hn3 hn4 hn5 GN GS GW GL X3
 go_wp2_with (refine wpList_alloc_blk rfl 57 rfl (rpc rp0 (.slice none 0 0)) zeroRpT ?_)
 intro w6 a1 a2 a3
 obtain ⟨g7, hg7⟩ : ∃ g, w5.heap.size = g := ⟨_, rfl⟩
 have X7 := lhd a1
 have X2 := lhd (X2.out.below a3 M2)
 have X4 := lhd (X4.out.below a3 M4)
 have X5 := lhd (X5.out.below a3 M5)
 have hsw : w.heap.size ≤ w5.heap.size := Nat.le_trans hsz hsy
 have HB := lhd (HB.out.trans (a3.mono hsw))
 have EV := lhd (EV.out.below a3)
 have G1 := lhd (G1.out.below a3 hsw)
 have G2 := lhd (G2.out.below a3 hsw)
 have G3 := lhd (G3.out.below a3 hsw)
 have G4 := lhd (G4.out.below a3 hsw)
 have G6 := lhd (G6.out.below a3 hsw)
 have ne27 : g2 ≠ g7 := by omega
 have ne47 : g4 ≠ g7 := by omega
 have ne57 : g5 ≠ g7 := by omega
 have hw7 : w.heap.size ≤ g7 := by omega
 rw [hg7] at X7 HLO ⊢
 clear a1 a2 a3 hg7 M2 M4 M5 hsy hsz hsw
 obtain ⟨RC, hRC⟩ : ∃ q : List Value, rmc (mT Y.1) (.slice AP nP cP) (.slice AR nR cR) (.slice AT nT cT) (.slice AQ nQ cQ) = q := ⟨_, rfl⟩
 have hRA : RC.toArray.all (·.oneCell') = true := by rw [← hRC]; exact rmc_all _ _ _ _ _ _ _ _ _ _ _ _ _
 have hRL : RC.length = 5 := by rw [← hRC]; rfl
 have HRC := lhd hRC
 have HRL := lhd hRL
 rw [hRC]
 clear hRC hRL
 go_wp2_with (refine wpList_store_to rfl 33 _ _ rfl g2 RC (rmc (mT r) (.slice AN nN cN) (.slice AS nS cS) (.slice AW nW cW) (.slice AL nL cL)) 33 rfl rfl X2.out (by rw [HRL.out]; exact szRmP) (by rw [HRL.out]; rfl) hRA ?_)
 intro w7 e1 e2 e3 e4
 have X2a := lhd e1
 have X4 := lhd (X4.out.same (e4 g4 ne24.symm))
 have X5 := lhd (X5.out.same (e4 g5 ne25.symm))
 have X7 := lhd (X7.out.same (e4 g7 ne27.symm))
 have HB := lhd (HB.out.trans (e3.mono hw2))
 have KR := lhd (Keep.store (T := fun e => e = 33) (b := w.heap.size) X2.out rfl hw2 e2 e4)
 have G1 := lhd (G1.out.keep KR.out (by decide) (Nat.le_refl _))
 have G2 := lhd (G2.out.keep KR.out (by decide) (Nat.le_refl _))
 have G3 := lhd (G3.out.keep KR.out (by decide) (Nat.le_refl _))
 have G4 := lhd (G4.out.keep KR.out (by decide) (by decide) (Nat.le_refl _))
 have G6 := lhd (G6.out.keep KR.out (by decide) (Nat.le_refl _))
 have EV := lhd (EV.out.keep KR.out (by decide))
 clear e1 e2 e3 e4 KR X2
 go_wp2_with (refine wpList_store_to rfl 57 _ _ rfl g7 (rpc Y.2.1 (.slice Ax nx cx)) (rpc rp0 (.slice none 0 0)) 57 rfl rfl X7.out szRpT rfl (rpc_allM _ _ _ _) ?_)
 intro w8 e1 e2 e3 e4
 have X7a := lhd e1
 have X2 := lhd (X2a.out.same (e4 g2 ne27))
 have X4 := lhd (X4.out.same (e4 g4 ne47))
 have X5 := lhd (X5.out.same (e4 g5 ne57))
 have HB := lhd (HB.out.trans (e3.mono hw7))
 have KP := lhd (Keep.store (T := fun e => e = 57) (b := w.heap.size) X7.out rfl hw7 e2 e4)
 have G1 := lhd (G1.out.keep KP.out (by decide) (Nat.le_refl _))
 have G2 := lhd (G2.out.keep KP.out (by decide) (Nat.le_refl _))
 have G3 := lhd (G3.out.keep KP.out (by decide) (Nat.le_refl _))
 have G4 : Hid (GoRp 57 9 w.heap.size w8 (.slice AQ nQ cQ) (mL Y.1)) := by
  obtain ⟨sq, q1, q2, q3⟩ := G4.out
  exact ⟨sq, q1, q2.but hw7 e2 KP.out.le e4 (fun h => HLO.out (by rw [rvs_len q1] at h; exact h)), fun j hj => (q3 j hj).keep KP.out (by decide) (Nat.le_refl _)⟩
 have G6 := lhd (G6.out.keep KP.out (by decide) (Nat.le_refl _))
 have EV := lhd (EV.out.keep KP.out (by decide))
 have hw8 := lhd HB.out.size
 clear e1 e2 e3 e4 KP X7 X2a HLO
 go_wp2
 have hdw : Below w8.heap.size w8 w8.drew := (Below.refl _ _).drew
 have X2 := lhd X2.out.drew
 have X4 := lhd X4.out.drew
 have X5 := lhd X5.out.drew
 have X7 := lhd X7a.out.drew
 have HRM : Hid (RdRm w8.drew.heap.size w8.drew (.slice AP nP cP) (.slice AR nR cR) (.slice AT nT cT) (.slice AQ nQ cQ) Y.1) := lhd ⟨RdNd.ofE (G1.out.below hdw hw8.out).1, (G2.out.below hdw hw8.out).1, (G3.out.below hdw hw8.out).1, (G4.out.below hdw hw8.out).rd⟩
 have G6 := lhd (G6.out.below hdw hw8.out)
 have EV := lhd (EV.out.below hdw)
 have HB := lhd HB.out.drew
 clear hdw G1 G2 G3 G4 X7a hw8
 obtain ⟨FF, hF⟩ : ∃ F : (Nat → Value) → Act, F = fun x => ⟨#[.agg (rmc (mT r) (Value.slice AN nN cN) (Value.slice AS nS cS) (Value.slice AW nW cW) (Value.slice AL nL cL)).toArray, .agg (orc o).toArray, .pointer (some { block := g2, off := 0 }), .pointer (some { block := g3, off := 0 }), .pointer (some { block := g4, off := 0 }), .pointer (some { block := g5, off := 0 }), x 7, .pointer (some { block := g7, off := 0 }), vE, .tuple #[Value.agg RC.toArray, Value.agg (rpc Y.snd.fst (Value.slice Ax nx cx)).toArray, vE], .agg (rmc (mT r) (Value.slice AN nN cN) (Value.slice AS nS cS) (Value.slice AW nW cW) (Value.slice AL nL cL)).toArray, .agg (orc o).toArray, .tuple #[Value.agg RC.toArray, Value.agg (rpc Y.snd.fst (Value.slice Ax nx cx)).toArray, vE], .agg RC.toArray, .agg (rpc Y.snd.fst (Value.slice Ax nx cx)).toArray, vE, x 0, x 1, x 2, x 3, x 4], []⟩ := ⟨_, rfl⟩
 have HFF := lhd hF
 refine wp_region_tillK 8 FF (fun k => [undef, undef, undef, undef, undef, undef, undef, .slice none 0 0].getD k undef) (fun w9 => Blk w9 g2 RC 33 ∧ Blk w9 g7 (rpc Y.2.1 (.slice Ax nx cx)) 57) (by rw [hF]; rfl) rfl (by kernel_rfl) ?_
 intro x hL
 clear hF
 obtain ⟨wA, hwA⟩ : ∃ q, w8.drew = q := ⟨_, rfl⟩
 rw [hwA] at X2 X4 X5 X7 HRM G6 EV HB ⊢
 clear hwA
 refine AnyTill.takeK 0 (.agg RC.toArray) rfl (by kernel_rfl) rfl rfl (by kernel_rfl) (by kernel_rfl) HFF (wanted_none rfl) (fun _ _ => rfl) hL rfl (fun w9 hS9 => ?_) (by exact ⟨X2.out, X7.out⟩) ?_
 ·obtain ⟨d9, hu9, hd9⟩ := rowRmP
  exact run_load_part 33 _ rfl g2 0 RC RC 33 rfl hS9.1 (by simp) hu9 hd9 (by rw [HRL.out]; exact szRmP)
 clear hL x
 intro x hL
 refine AnyTill.takeK 2 (.agg (rpc Y.2.1 (.slice Ax nx cx)).toArray) rfl (by kernel_rfl) rfl rfl (by kernel_rfl) (by kernel_rfl) HFF (wanted_none rfl) (fun _ _ => rfl) hL rfl (fun w9 hS9 => ?_) (by exact ⟨X2.out, X7.out⟩) ?_
 ·obtain ⟨d9, hu9, hd9⟩ := rowRpT
  exact run_load_part 57 _ rfl g7 0 (rpc Y.2.1 (.slice Ax nx cx)) (rpc Y.2.1 (.slice Ax nx cx)) 57 rfl hS9.2 rfl hu9 hd9 szRpT
 clear hL x
 intro x hL
 refine AnyTill.takeK 4 (vE) rfl (by kernel_rfl) rfl rfl (by kernel_rfl) (by kernel_rfl) HFF (wanted_none rfl) (fun _ _ => rfl) hL rfl (fun w9 hS9 => ?_) (by exact ⟨X2.out, X7.out⟩) ?_
 ·(go_simp; try rfl)
 clear hL x
 intro x hL
 refine AnyTill.oneK 1 (by kernel_rfl) rfl HFF (wanted_none rfl) (fun _ _ => rfl) hL rfl (fun K hK => ?_)
 have q0 := lhd (hL.at_ 2 rfl)
 go_simp
 refine calls_args (args2 := #[.agg (rmc (mT Y.1) (.slice AP nP cP) (.slice AR nR cR) (.slice AT nT cT) (.slice AQ nQ cQ)).toArray]) (by rw [q0.out, HRC.out]) ?_
 refine (detached_any Y.1 _ _ _ _ wA HRM.out HFY.out).mono ?_
 rintro e wB ⟨uN, uS, uW, uL, rfl, hom, hb⟩
 obtain ⟨Ba, ca, hu1⟩ := hom.n.shape
 obtain ⟨Bb, cb, hu2⟩ := hom.s.shape
 obtain ⟨Bc, cc, hu3⟩ := hom.t.shape
 obtain ⟨Bd, cd, hu4, -, -⟩ := hom.l.rd.shape
 obtain ⟨ma, hm1⟩ : ∃ q, (mN Y.1).length = q := ⟨_, rfl⟩
 obtain ⟨mb, hm2⟩ : ∃ q, (mS Y.1).length = q := ⟨_, rfl⟩
 obtain ⟨mc, hm3⟩ : ∃ q, (mW Y.1).length = q := ⟨_, rfl⟩
 obtain ⟨md, hm4⟩ : ∃ q, (mL Y.1).length = q := ⟨_, rfl⟩
 rw [hm1] at hu1
 rw [hm2] at hu2
 rw [hm3] at hu3
 rw [hm4] at hu4
 subst hu1 hu2 hu3 hu4
 obtain ⟨RD, hRD⟩ : ∃ q : List Value, rmc (mT Y.1) (.slice Ba ma ca) (.slice Bb mb cb) (.slice Bc mc cc) (.slice Bd md cd) = q := ⟨_, rfl⟩
 have hDA : RD.toArray.all (·.oneCell') = true := by rw [← hRD]; exact rmc_all _ _ _ _ _ _ _ _ _ _ _ _ _
 have hDL : RD.length = 5 := by rw [← hRD]; rfl
 have HRD2 := lhd hRD
 have HDL := lhd hDL
 rw [hRD]
 clear hRD hDL hm1 hm2 hm3 hm4
 have hzA := HB.out.size
 have hg5A := X5.out.lt
 have OM := lhd hom
 have HWA := lhd (show w.heap.size ≤ wA.heap.size from hzA)
 have H5A := lhd (show g5 < wA.heap.size from hg5A)
 have Z2 := lhd (X2.out.below hb X2.out.lt)
 have Z4 := lhd (X4.out.below hb X4.out.lt)
 have Z5 := lhd (X5.out.below hb X5.out.lt)
 have Z7 := lhd (X7.out.below hb X7.out.lt)
 have G6 := lhd (G6.out.below hb hzA)
 have EV := lhd (EV.out.below hb)
 have HBb := lhd (HB.out.trans (hb.mono hzA))
 refine hK.out _ wB ⟨Z2.out, Z7.out⟩ ?_
 clear hK K hb hom HB X2 X4 X5 X7 hzA hg5A
 clear hL q0 x
 intro x hL
 refine AnyTill.oneK 3 (by kernel_rfl) rfl HFF (wanted_none rfl) (fun _ _ => rfl) hL rfl (fun K hK => ?_)
 have q2 := lhd (hL.at_ 2 rfl)
 go_simp
 refine calls_args (args2 := #[.agg (rpc Y.2.1 (.slice Ax nx cx)).toArray]) (by rw [q2.out]) ?_
 refine (detRp_any Y.2.1 (.slice Ax nx cx) wB G6.out.1 (by have := HNA.out.2; omega)).mono ?_
 rintro e wC ⟨nv, rfl, hon, hb⟩
 obtain ⟨Am, cm, hnv⟩ := hon.shape
 obtain ⟨nm, hnm⟩ : ∃ q, (pN Y.2.1).length = q := ⟨_, rfl⟩
 rw [hnm] at hnv
 subst hnv
 clear hnm
 have hwB := HBb.out.size
 have h5B := Z5.out.lt
 have ON := lhd hon
 have HWB := lhd (show w.heap.size ≤ wB.heap.size from hwB)
 have H5B := lhd (show g5 < wB.heap.size from h5B)
 have OM := lhd (OM.out.below hb)
 have X2 := lhd (Z2.out.below hb Z2.out.lt)
 have X4 := lhd (Z4.out.below hb Z4.out.lt)
 have X5 := lhd (Z5.out.below hb Z5.out.lt)
 have X7 := lhd (Z7.out.below hb Z7.out.lt)
 have EV := lhd (EV.out.below hb)
 have HB := lhd (HBb.out.trans (hb.mono hwB))
 refine hK.out _ wC ⟨X2.out, X7.out⟩ ?_
 clear hK K hb hon Z2 Z4 Z5 Z7 HBb hwB h5B G6
 clear hL q2 x
 intro x hL
 have q1 := hL.at_ 1 rfl
 refine AnyTill.store1 5 (by kernel_rfl) rfl HFF (g := g4) (a := 0) (cs := (rmc 0 (.slice none 0 0) (.slice none 0 0) (.slice none 0 0) (.slice none 0 0))) (vs := RD) (u := 33) ⟨_, _, _, rfl, rfl, rfl, rfl, .inl q1, (by rw [HDL.out]; exact szRmP), hDA⟩ X4.out (by rw [HDL.out]; show 5 ≤ 5; decide) (fun w9 z1 z2 => ⟨X2.out.same (z2 g2 ne24), X7.out.same (z2 g7 ne47.symm)⟩) ?_
 intro wD e1 e2 e3 e4
 clear q1
 have e1 : Blk wD g4 RD 33 := by
  have h := e1
  rw [putL_all RD _ (by rw [HDL.out]; rfl)] at h
  exact h
 have V4 := lhd e1
 have Z2 := lhd (X2.out.same (e4 g2 ne24))
 have Z5 := lhd (X5.out.same (e4 g5 ne45.symm))
 have Z7 := lhd (X7.out.same (e4 g7 ne47.symm))
 have EV := lhd (EV.out.keep (.store (T := fun e => e = 33) (b := w.heap.size) X4.out rfl hw4 e2 e4) (by decide))
 have OM := lhd (OM.out.same (fun k hk => e4 k (by have := H5A.out; omega)))
 have ON := lhd (ON.out.same (fun k hk => e4 k (by have := H5B.out; omega)))
 have HB := lhd (HB.out.trans (e3.mono hw4))
 clear e1 e2 e3 e4 X2 X4 X5 X7
 have q3 := hL.at_ 0 rfl
 refine AnyTill.store1 6 (by kernel_rfl) rfl HFF (g := g5) (a := 0) (cs := (rpc rp0 (.slice none 0 0))) (vs := (rpc Y.2.1 (.slice Am nm cm))) (u := 57) ⟨_, _, _, rfl, rfl, rfl, rfl, .inl q3, szRpT, (rpc_allM _ _ _ _)⟩ Z5.out (by show 6 ≤ 6; decide) (fun w9 z1 z2 => ⟨Z2.out.same (z2 g2 ne25), Z7.out.same (z2 g7 ne57.symm)⟩) ?_
 intro wE e1 e2 e3 e4
 clear q3
 have V5 : Hid (Blk wE g5 (rpc Y.2.1 (.slice Am nm cm)) 57) := e1
 have V4 := lhd (V4.out.same (e4 g4 ne45))
 have X2 := lhd (Z2.out.same (e4 g2 ne25))
 have X7 := lhd (Z7.out.same (e4 g7 ne57.symm))
 have EV := lhd (EV.out.keep (.store (T := fun e => e = 57) (b := w.heap.size) Z5.out rfl hw5 e2 e4) (by decide))
 have OM := lhd (OM.out.same (fun k hk => e4 k (by have := H5A.out; omega)))
 have ON := lhd (ON.out.same (fun k hk => e4 k (by have := H5B.out; omega)))
 have HB := lhd (HB.out.trans (e3.mono hw5))
 clear e1 e2 e3 e4 Z2 Z5 Z7
 refine AnyTill.takeK 7 (vE) rfl (by kernel_rfl) rfl rfl (by kernel_rfl) (by kernel_rfl) HFF (wanted_none rfl) (fun _ _ => rfl) hL rfl (fun w9 hS9 => ?_) (by exact ⟨X2.out, X7.out⟩) ?_
 ·have q4 := hL.at_ 2 rfl
  rw [q4]
  (go_simp; try rfl)
 clear hL x
 intro x hL
 have q7 := hL.at_ 0 rfl
 refine AnyTill.done (by kernel_rfl) ?_
 refine NoPanic.normal ?_
 rw [HFF.out]
 try dsimp only
 rw [q7]
 clear q7
 clear hL HFF
 go_wp2
 refine bodyPost_ret (v := .tuple #[.agg RD.toArray, .agg (rpc Y.2.1 (.slice Am nm cm)).toArray, vE]) ?_ rfl ?_
 ·exact ret_blk3R rfl _ _ g4 g5 33 57 RD (rpc Y.2.1 (.slice Am nm cm)) vE rfl rfl rfl V4.out V5.out huR hdR (by rw [HDL.out]; exact szRmP) huP hdP szRpT
 ·exact ⟨_, _, _, _, _, vE, by rw [HRD2.out], OM.out.base HWA.out, ON.out.base HWB.out, EV.out, HB.out⟩
end Go.Proofs.YtdihngkdhanhkaaGreatDoor
