/-
  The program's shelves: the faults of a change. Each theorem states its own conditions.
-/
import Derived.Test.YtlpakfaoaodaiaaDoorG3
namespace Go.Proofs.YtlpakfaoaodaiaaDoor
open Go.RowKit

/-- The faults, as the program asks for them. -/
def vacE (l : List Nd) (p : List UInt8) : Nat :=
  if getE l p = 0 then 7 else if getE l p ≠ 6 then getE l p else if parentE p ≠ 0 then parentE p else if getE l (parentS p) ≠ 0 then getE l (parentS p) else if nO (getS l (parentS p)) ≠ 0 then 10 else 0
def crF (l : List Nd) (p v : List UInt8) (o : Int) : Nat := if vacE l p ≠ 0 then vacE l p else if 1000 < v.length then 5 else if o < 0 then 1 else if 200 ≤ l.length then 9 else 0
def setF (l : List Nd) (p v : List UInt8) (ver : Int) : Nat := if getE l p ≠ 0 then getE l p else if verB ver (nR (getS l p)) = false then 8 else if 1000 < v.length then 5 else if 1000000000 ≤ nR (getS l p) then 9 else 0
def delF (l : List Nd) (p : List UInt8) (ver : Int) : Nat := if getE l p ≠ 0 then getE l p else if p = [47] then 13 else if verB ver (nR (getS l p)) = false then 8 else if l.any (kidN p) = true then 10 else 0
theorem verB_iff (z r : Int) : verB z r = false ↔ z ≠ -1 ∧ z ≠ r := by
  unfold verB
  simp
theorem any_kids (l : List Nd) (p : List UInt8) : l.any (kidN p) = true ↔ kidsN l p ≠ [] := by
  unfold kidsN
  rw [List.any_eq_true]
  simp
theorem root_in (l : List Nd) (h : rightN l = true) : hasN l [47] = true := by
  have h2 := (rightN_iff l).1 h
  rw [hasN_iff]
  cases l with
  | nil => exact absurd rfl h2.some
  | cons x r => exact ⟨x, by simp, by simpa using h2.root⟩
theorem parent_up (p : List UInt8) (h : rightB p = true) (h2 : p ≠ [47]) : parentE p = 0 ∧ rightB (parentS p) = true ∧ aheadB (parentS p) p = true := by
  have hc : cutL p ≠ [] := fun e => h2 ((cut_root p (right_slash p h)).1 e)
  obtain ⟨h100, hall, hs, h8⟩ := rightB_len p h
  have hj := joinL_cut p
  have R : ∀ k, rightB (madeL ((cutL p).take k)) = true ∧ cutL (madeL ((cutL p).take k)) = (cutL p).take k := fun k =>
    ⟨right_made _ (all_take _ _ hall) (by simp; omega) (Nat.le_trans (joinL_take _ _) (by omega)), cut_made _ (all_take _ _ hall)⟩
  obtain ⟨e1, e2⟩ := parent_yes p h hc
  refine ⟨e2, by rw [e1]; exact (R _).1, ?_⟩
  rw [e1]
  unfold aheadB
  rw [(R _).1, (R _).2, h]
  have key : ∀ (a : List (List UInt8)), a ≠ [] → aheadL (a.take (a.length - 1)) a = true := by
    intro a ha
    induction a with
    | nil => exact absurd rfl ha
    | cons x r ih =>
      cases r with
      | nil => rfl
      | cons y r =>
        have e : (x :: y :: r).take ((x :: y :: r).length - 1) = x :: (y :: r).take ((y :: r).length - 1) := by simp
        rw [e, aheadL, if_pos rfl]
        exact ih (by simp)
  rw [key _ hc]
  rfl
theorem crF_eq (l : List Nd) (p v : List UInt8) (o : Int) (h : rightN l = true) : crF l p v o = createE l p v o := by
  unfold crF createE vacE
  cases hR : rightB p
  · simp [getE, hR]
  · cases hH : hasN l p
    · have h47 : p ≠ [47] := by
        rintro rfl
        rw [root_in l h] at hH
        cases hH
      obtain ⟨hP, hPR, -⟩ := parent_up p hR h47
      have hG : getE l p = 6 := by simp [getE, hR, hH]
      rw [hG, hP]
      cases hU : hasN l (parentS p)
      · have : getE l (parentS p) = 6 := by simp [getE, hPR, hU]
        rw [this]; simp
      · have e1 : getE l (parentS p) = 0 := by simp [getE, hPR, hU]
        have e2 : getS l (parentS p) = nodeN l (parentS p) := by simp [getS, e1]
        rw [e1, e2]
        by_cases hO : nO (nodeN l (parentS p)) = 0
        · simp [hO]
        · simp [hO]
    · simp [getE, hR, hH]
theorem right_ver (l : List Nd) (p : List UInt8) (h : rightN l = true) (h2 : getE l p = 0) : nR (nodeN l p) ≤ 1000000000 := by
  have hH : hasN l p = true := by
    cases hH : hasN l p
    · unfold getE at h2
      rw [hH] at h2
      split at h2 <;> simp at h2
    · rfl
  have := ((rightN_iff l).1 h).fine _ (hasN_node l p hH).2
  unfold fineN at this
  simp only [Bool.and_eq_true, decide_eq_true_eq] at this
  omega
theorem setF_eq (l : List Nd) (p v : List UInt8) (z : Int) (h : rightN l = true) : setF l p v z = setE l p v z := by
  unfold setF setE
  by_cases h0 : getE l p = 0
  · have e2 : getS l p = nodeN l p := by simp [getS, h0]
    have hr := right_ver l p h h0
    rw [h0, e2]
    simp only [verB_iff]
    by_cases e3 : nR (nodeN l p) = 1000000000
    · simp [e3]
    · have e4 : ¬ 1000000000 ≤ nR (nodeN l p) := by omega
      simp [e3, e4]
  · simp [h0]
theorem delF_eq (l : List Nd) (p : List UInt8) (z : Int) : delF l p z = delE l p z := by
  unfold delF delE
  by_cases h0 : getE l p = 0
  · have e2 : getS l p = nodeN l p := by simp [getS, h0]
    rw [h0, e2]
    simp only [verB_iff, any_kids]
  · simp [h0]

set_option maxRecDepth 100000 in
set_option maxHeartbeats 4000000 in
theorem shVacant_any (l : List Nd) (p : List UInt8) (v : Value) (w : World) (hr : RdNd w.heap.size w v l) : Calls Tryd.prog 41 #[.agg #[v], txt p] w (One (.int .i64 (vacE l p)) w) := by
  have HR0 := Lib.hid hr
  clear hr
  go_enter Tryd.func41, Tryd.ntmps41
  go_wp2_with (refine wpList_box_blk rfl 24 _ rfl [v] rfl ?_)
  intro W0 b1 b2 b3
  obtain ⟨g0, hg0⟩ : ∃ g, w.heap.size = g := ⟨_, rfl⟩
  have HR := Lib.hid ((HR0.out.below b3).more (show w.heap.size ≤ W0.heap.size by omega))
  have HB0 := Lib.hid b3
  have hw0 : w.heap.size ≤ W0.heap.size := by omega
  have hg1 : g0 < W0.heap.size := by omega
  have C0 := Lib.hid (b1.cell 0)
  rw [hg0] at C0 ⊢
  have HB := Lib.hid (Below.refl W0.heap.size W0)
  have ca := C0.out
  clear b1 b2 b3 hg0 HR0
  go_wp2_with fail
  refine (shGet_any l p _ W0 ((HR.out.below HB.out).more HB.out.size)).mono ?_
  rintro e W0a ⟨rfl, hb⟩
  have HBa := Lib.hid (HB.out.trans (hb.mono HB.out.size))
  clear hb ca
  go_wp2_with (refine wpList_alloc_blk rfl 53 rfl (ndc nd0) zPN ?_)
  intro W0b a1 a2 a3
  obtain ⟨g2, hg⟩ : ∃ g, W0a.heap.size = g := ⟨_, rfl⟩
  have A2 := Lib.hid a1
  have hBg2 : W0.heap.size ≤ g2 := by have := HBa.out.size; omega
  have HBb := Lib.hid (HBa.out.trans (a3.mono HBa.out.size))
  rw [hg] at A2 ⊢
  clear a1 a2 a3 hg
  obtain ⟨f2, hf⟩ : ∃ f, getE l p = f := ⟨_, rfl⟩
  have HF2 := Lib.hid hf
  obtain ⟨x2, hx⟩ : ∃ x, getS l p = x := ⟨_, rfl⟩
  have HX2 := Lib.hid hx
  rw [hx, hf]
  clear hx hf
  go_wp2_with (refine wpList_store_to rfl 53 _ _ rfl g2 (ndc x2) (ndc nd0) 53 rfl rfl A2.out sPN rfl (ndc_one _) ?_)
  intro W0c c1 c2 c3 c4
  have Y2 := Lib.hid c1
  have HBc := Lib.hid (HBb.out.trans (c3.mono hBg2))
  clear c1 c2 c3 c4 A2
  by_cases h0 : f2 = 0
  · have HE : Hid (vacE l p = 7) := by
      show _ = _
      unfold vacE
      rw [HF2.out, if_pos h0]
    subst h0
    go_wp2
    go_ret
    exact ⟨by rw [HE.out]; rfl, HB0.out.trans (HBc.out.mono hw0)⟩
  by_cases h6 : f2 = 6
  rotate_left
  · have HE : Hid (vacE l p = f2) := by
      show _ = _
      unfold vacE
      rw [HF2.out, if_neg h0, if_pos h6]
    have z0 : ((f2 : Int) == 0) = false := by rw [beq_eq_false_iff_ne]; omega
    have z1 : ((f2 : Int) != 6) = true := by rw [bne_iff_ne]; omega
    clear h0 h6
    go_wp2
    go_ret
    exact ⟨by rw [HE.out]; rfl, HB0.out.trans (HBc.out.mono hw0)⟩
  subst h6
  clear h0
  have HV : Hid (vacE l p = if parentE p ≠ 0 then parentE p else if getE l (parentS p) ≠ 0 then getE l (parentS p) else if nO (getS l (parentS p)) ≠ 0 then 10 else 0) := by
    show _ = _
    unfold vacE
    rw [HF2.out]
    rfl
  go_wp2_with fail
  refine (pxParent_any p W0c).mono ?_
  rintro e W1 ⟨rfl, hb⟩
  have HD := Lib.hid (HBc.out.trans (hb.mono HBc.out.size))
  clear hb HBa HBb HBc Y2
  obtain ⟨pe, hpe⟩ : ∃ f, parentE p = f := ⟨_, rfl⟩
  obtain ⟨up, hup⟩ : ∃ f, parentS p = f := ⟨_, rfl⟩
  rw [hpe, hup] at HV
  rw [hpe, hup]
  clear hpe hup
  by_cases h0 : pe = 0
  rotate_left
  · have HE : Hid (vacE l p = pe) := by
      show _ = _
      rw [HV.out, if_pos h0]
    have z0 : ((pe : Int) != 0) = true := by rw [bne_iff_ne]; omega
    clear h0
    go_wp2
    go_ret
    exact ⟨by rw [HE.out]; rfl, HB0.out.trans (HD.out.mono hw0)⟩
  subst h0
  have ca := (HD.out.cell hg1).trans C0.out
  go_wp2_with fail
  refine (shGet_any l up _ W1 ((HR.out.below HD.out).more HD.out.size)).mono ?_
  rintro e W1a ⟨rfl, hb⟩
  have HDa := Lib.hid (HD.out.trans (hb.mono HD.out.size))
  clear hb ca
  go_wp2_with (refine wpList_alloc_blk rfl 53 rfl (ndc nd0) zPN ?_)
  intro W1b a1 a2 a3
  obtain ⟨g3, hg⟩ : ∃ g, W1a.heap.size = g := ⟨_, rfl⟩
  have A3 := Lib.hid a1
  have hBg3 : W0.heap.size ≤ g3 := by have := HDa.out.size; omega
  have HDb := Lib.hid (HDa.out.trans (a3.mono HDa.out.size))
  rw [hg] at A3 ⊢
  clear a1 a2 a3 hg
  obtain ⟨f3, hf⟩ : ∃ f, getE l up = f := ⟨_, rfl⟩
  have HF3 := Lib.hid hf
  obtain ⟨x3, hx⟩ : ∃ x, getS l up = x := ⟨_, rfl⟩
  have HX3 := Lib.hid hx
  rw [hx, hf]
  clear hx hf
  go_wp2_with (refine wpList_store_to rfl 53 _ _ rfl g3 (ndc x3) (ndc nd0) 53 rfl rfl A3.out sPN rfl (ndc_one _) ?_)
  intro W1c c1 c2 c3 c4
  have Y3 := Lib.hid c1
  have HDc := Lib.hid (HDb.out.trans (c3.mono hBg3))
  clear c1 c2 c3 c4 A3
  by_cases h0 : f3 = 0
  rotate_left
  · have HE : Hid (vacE l p = f3) := by
      show _ = _
      rw [HV.out, if_neg (by simp), HF3.out, if_pos h0]
    have z0 : ((f3 : Int) != 0) = true := by rw [bne_iff_ne]; omega
    clear h0
    go_wp2
    go_ret
    exact ⟨by rw [HE.out]; rfl, HB0.out.trans (HDc.out.mono hw0)⟩
  subst h0
  have d3 := Y3.out.at_ 3 _ rfl
  obtain ⟨o, ho⟩ : ∃ o, nO x3 = o := ⟨_, rfl⟩
  rw [ho] at d3
  by_cases hz : o = 0
  · have HE : Hid (vacE l p = 0) := by
      show _ = _
      rw [HV.out, if_neg (by simp), HF3.out, if_neg (by simp), HX3.out, ho, if_neg (by simp [hz])]
    have z0 : (o != 0) = false := by simpa using hz
    clear hz ho
    go_wp2
    go_ret
    exact ⟨by rw [HE.out]; rfl, HB0.out.trans (HDc.out.mono hw0)⟩
  · have HE : Hid (vacE l p = 10) := by
      show _ = _
      rw [HV.out, if_neg (by simp), HF3.out, if_neg (by simp), HX3.out, ho, if_pos hz]
    have z0 : (o != 0) = true := by simpa using hz
    clear hz ho
    go_wp2
    go_ret
    exact ⟨by rw [HE.out]; rfl, HB0.out.trans (HDc.out.mono hw0)⟩

set_option maxRecDepth 100000 in
set_option maxHeartbeats 4000000 in
/-- Create's function of faults; what it speaks of lies in four blocks. -/
theorem crFn_any (l : List Nd) (p vl : List UInt8) (z : Int) (v : Value) (gs gp gv go : Nat) (W0 : World) (hr : RdNd W0.heap.size W0 v l) (h1 : gs < W0.heap.size) (_h2 : gp < W0.heap.size) (h3 : gv < W0.heap.size) (h4 : go < W0.heap.size)
    (c1 : W0.cell? ⟨gs, 0, none⟩ = some v) (c2 : W0.cell? ⟨gp, 0, none⟩ = some (txt p)) (c3 : W0.cell? ⟨gv, 0, none⟩ = some (txt vl)) (c4 : W0.cell? ⟨go, 0, none⟩ = some (.int .i64 z)) :
    Calls Tryd.prog 40 #[.pointer (some ⟨gs, 0, none⟩), .pointer (some ⟨gp, 0, none⟩), .pointer (some ⟨gv, 0, none⟩), .pointer (some ⟨go, 0, none⟩)] W0 (One (.int .i64 (crF l p vl z)) W0) := by
  obtain ⟨A, cp, rfl, hc, hm⟩ := hr.shape
  unfold maxLen at hm
  obtain ⟨n, hn⟩ : ∃ n, l.length = n := ⟨_, rfl⟩
  have HN := Lib.hid hn
  have HR := Lib.hid hr
  rw [hn] at hc HR c1
  obtain ⟨m, hmm⟩ : ∃ m, vl.length = m := ⟨_, rfl⟩
  have hsz : (⟨vl.toArray⟩ : ByteArray).size = m := hmm
  have HM := Lib.hid hmm
  clear hr hn hmm
  have K1 := Lib.hid c1
  have K3 := Lib.hid c3
  have K4 := Lib.hid c4
  clear c3 c4
  go_enter Tryd.func40, Tryd.ntmps40
  go_wp2_with fail
  refine (shVacant_any l p _ W0 HR.out).mono ?_
  rintro e W1 ⟨rfl, hb⟩
  have HB := Lib.hid hb
  clear hb c1 c2
  have HV : Hid (crF l p vl z = if vacE l p ≠ 0 then vacE l p else if 1000 < m then 5 else if z < 0 then 1 else if 200 ≤ n then 9 else 0) := by
    show _ = _
    unfold crF
    rw [HM.out, HN.out]
  obtain ⟨f, hf⟩ : ∃ f, vacE l p = f := ⟨_, rfl⟩
  rw [hf] at HV
  rw [hf]
  clear hf
  have c1 := (HB.out.cell h1).trans K1.out
  have c3 := (HB.out.cell h3).trans K3.out
  have c4 := (HB.out.cell h4).trans K4.out
  by_cases h0 : f = 0
  rotate_left
  · have HE : Hid (crF l p vl z = f) := by
      show _ = _
      rw [HV.out, if_pos h0]
    have z0 : ((f : Int) != 0) = true := by rw [bne_iff_ne]; omega
    clear h0
    go_wp2
    go_ret
    exact ⟨by rw [HE.out]; rfl, HB.out⟩
  subst h0
  by_cases h5 : 1000 < m
  · have HE : Hid (crF l p vl z = 5) := by
      show _ = _
      rw [HV.out, if_neg (by simp), if_pos h5]
    have z5 : (1000 : Int) < (m : Int) := by omega
    clear h5
    go_wp2
    go_ret
    exact ⟨by rw [HE.out]; rfl, HB.out⟩
  have z5 : ¬ (1000 : Int) < (m : Int) := by omega
  by_cases h6 : z < 0
  · have HE : Hid (crF l p vl z = 1) := by
      show _ = _
      rw [HV.out, if_neg (by simp), if_neg h5, if_pos h6]
    clear h5
    go_wp2
    go_ret
    exact ⟨by rw [HE.out]; rfl, HB.out⟩
  by_cases h7 : 200 ≤ n
  · have HE : Hid (crF l p vl z = 9) := by
      show _ = _
      rw [HV.out, if_neg (by simp), if_neg h5, if_neg h6, if_pos h7]
    have z7 : (200 : Int) ≤ (n : Int) := by omega
    clear h5 h7
    go_wp2
    go_ret
    exact ⟨by rw [HE.out]; rfl, HB.out⟩
  · have HE : Hid (crF l p vl z = 0) := by
      show _ = _
      rw [HV.out, if_neg (by simp), if_neg h5, if_neg h6, if_neg h7]
    have z7 : ¬ (200 : Int) ≤ (n : Int) := by omega
    clear h5 h7
    go_wp2
    go_ret
    exact ⟨by rw [HE.out]; rfl, HB.out⟩

set_option maxRecDepth 100000 in
set_option maxHeartbeats 4000000 in
/-- Set's function of faults. -/
theorem setFn_any (l : List Nd) (p vl : List UInt8) (z : Int) (v : Value) (gs gp gz gv : Nat) (W0 : World) (hr : RdNd W0.heap.size W0 v l) (_h1 : gs < W0.heap.size) (_h2 : gp < W0.heap.size) (h3 : gz < W0.heap.size) (h4 : gv < W0.heap.size)
    (c1 : W0.cell? ⟨gs, 0, none⟩ = some v) (c2 : W0.cell? ⟨gp, 0, none⟩ = some (txt p)) (c3 : W0.cell? ⟨gz, 0, none⟩ = some (.int .i64 z)) (c4 : W0.cell? ⟨gv, 0, none⟩ = some (txt vl)) :
    Calls Tryd.prog 46 #[.pointer (some ⟨gs, 0, none⟩), .pointer (some ⟨gp, 0, none⟩), .pointer (some ⟨gz, 0, none⟩), .pointer (some ⟨gv, 0, none⟩)] W0 (One (.int .i64 (setF l p vl z)) W0) := by
  have HR := Lib.hid hr
  obtain ⟨m, hmm⟩ : ∃ m, vl.length = m := ⟨_, rfl⟩
  have hsz : (⟨vl.toArray⟩ : ByteArray).size = m := hmm
  have HM := Lib.hid hmm
  clear hr hmm
  have K3 := Lib.hid c3
  have K4 := Lib.hid c4
  have HB := Lib.hid (Below.refl W0.heap.size W0)
  clear c3 c4
  go_enter Tryd.func46, Tryd.ntmps46
  go_wp2_with fail
  refine (shGet_any l p _ W0 ((HR.out.below HB.out).more HB.out.size)).mono ?_
  rintro e W0a ⟨rfl, hb⟩
  have HBa := Lib.hid (HB.out.trans (hb.mono HB.out.size))
  clear hb c1 c2
  go_wp2_with (refine wpList_alloc_blk rfl 53 rfl (ndc nd0) zPN ?_)
  intro W0b a1 a2 a3
  obtain ⟨g2, hg⟩ : ∃ g, W0a.heap.size = g := ⟨_, rfl⟩
  have A2 := Lib.hid a1
  have hBg2 : W0.heap.size ≤ g2 := by have := HBa.out.size; omega
  have HBb := Lib.hid (HBa.out.trans (a3.mono HBa.out.size))
  rw [hg] at A2 ⊢
  clear a1 a2 a3 hg
  obtain ⟨f2, hf⟩ : ∃ f, getE l p = f := ⟨_, rfl⟩
  have HF2 := Lib.hid hf
  obtain ⟨x2, hx⟩ : ∃ x, getS l p = x := ⟨_, rfl⟩
  have HX2 := Lib.hid hx
  rw [hx, hf]
  clear hx hf
  go_wp2_with (refine wpList_store_to rfl 53 _ _ rfl g2 (ndc x2) (ndc nd0) 53 rfl rfl A2.out sPN rfl (ndc_one _) ?_)
  intro W0c c1 c2 c3 c4
  have Y2 := Lib.hid c1
  have HBc := Lib.hid (HBb.out.trans (c3.mono hBg2))
  clear c1 c2 c3 c4 A2
  have HV : Hid (setF l p vl z = if f2 ≠ 0 then f2 else if verB z (nR x2) = false then 8 else if 1000 < m then 5 else if 1000000000 ≤ nR x2 then 9 else 0) := by
    show _ = _
    unfold setF
    rw [HM.out, HF2.out, HX2.out]
  by_cases h0 : f2 = 0
  rotate_left
  · have HE : Hid (setF l p vl z = f2) := by
      show _ = _
      rw [HV.out, if_pos h0]
    have z0 : ((f2 : Int) != 0) = true := by rw [bne_iff_ne]; omega
    clear h0
    go_wp2
    go_ret
    exact ⟨by rw [HE.out]; rfl, HBc.out⟩
  subst h0
  have c3 := (HBc.out.cell h3).trans K3.out
  have d0 := Y2.out.at_ 0 _ rfl
  have d1 := Y2.out.at_ 1 _ rfl
  have d2 := Y2.out.at_ 2 _ rfl
  have d3 := Y2.out.at_ 3 _ rfl
  have hlt := Y2.out.lt
  go_wp2_with fail
  refine (shOf_any x2 z W0c).mono ?_
  rintro e W1 ⟨rfl, hb⟩
  have HD := Lib.hid (HBc.out.trans (hb.mono HBc.out.size))
  have e2 := (Y2.out.below hb hlt).at_ 2 _ rfl
  clear hb d0 d1 d2 d3 c3 HBa HBb HBc hlt
  have c4 := (HD.out.cell h4).trans K4.out
  obtain ⟨r, hr⟩ : ∃ r, nR x2 = r := ⟨_, rfl⟩
  rw [hr] at HV e2
  rw [hr]
  clear hr
  cases hv : verB z r
  · have HE : Hid (setF l p vl z = 8) := by
      show _ = _
      rw [HV.out, if_neg (by simp), if_pos hv]
    clear hv
    go_wp2
    go_ret
    exact ⟨by rw [HE.out]; rfl, HD.out⟩
  by_cases h5 : 1000 < m
  · have HE : Hid (setF l p vl z = 5) := by
      show _ = _
      rw [HV.out, if_neg (by simp), if_neg (by simp [hv]), if_pos h5]
    have z5 : (1000 : Int) < (m : Int) := by omega
    clear h5 hv
    go_wp2
    go_ret
    exact ⟨by rw [HE.out]; rfl, HD.out⟩
  have z5 : ¬ (1000 : Int) < (m : Int) := by omega
  by_cases h7 : 1000000000 ≤ r
  · have HE : Hid (setF l p vl z = 9) := by
      show _ = _
      rw [HV.out, if_neg (by simp), if_neg (by simp [hv]), if_neg h5, if_pos h7]
    clear h5 hv
    go_wp2
    go_ret
    exact ⟨by rw [HE.out]; rfl, HD.out⟩
  · have HE : Hid (setF l p vl z = 0) := by
      show _ = _
      rw [HV.out, if_neg (by simp), if_neg (by simp [hv]), if_neg h5, if_neg h7]
    clear h5 hv
    go_wp2
    go_ret
    exact ⟨by rw [HE.out]; rfl, HD.out⟩

end Go.Proofs.YtlpakfaoaodaiaaDoor
