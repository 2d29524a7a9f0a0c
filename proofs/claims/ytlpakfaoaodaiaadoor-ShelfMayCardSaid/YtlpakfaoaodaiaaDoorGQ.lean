/-
  The program's shelves: follows.
-/
import Derived.Test.YtlpakfaoaodaiaaDoorGB
import Derived.Test.YtlpakfaoaodaiaaDoorHG
namespace Go.Proofs.YtlpakfaoaodaiaaDoor
open Go.RowKit

/-- May a node with this path stand behind these nodes? -/
def folB (b : List Nd) (p : List UInt8) : Bool := aheadB (nP (b.getD (b.length - 1) nd0)) p && (hasN b (parentS p) && decide (nO (nodeN b (parentS p)) = 0))
/-- What the program asks of the node at place i. -/
def pokN (l : List Nd) (i : Nat) : Bool := limB (l.getD i nd0) && (decide (i = 0) || folB (l.take i) (nP (l.getD i nd0)))
theorem getD_take' (l : List Nd) (i j : Nat) (h : j < i) : (l.take i).getD j nd0 = l.getD j nd0 := by
  simp [List.getD_eq_getElem?_getD, h]
theorem len_take' (l : List Nd) (i : Nat) (h : i ≤ l.length) : (l.take i).length = i := by
  rw [List.length_take]; omega
theorem take_place (l : List Nd) (i : Nat) (hi : i ≤ l.length) (q : List UInt8) (h : hasN (l.take i) q = true) : hasN l q = true ∧ nodeN (l.take i) q = nodeN l q := by
  have h1 : placeN (l.take i) q < (l.take i).length := by simpa [hasN] using h
  have h2 := len_take' l i hi
  obtain ⟨k, hk⟩ : ∃ k, placeN (l.take i) q = k := ⟨_, rfl⟩
  have hki : k < i := by omega
  have e : placeN l q = k := by
    refine placeN_here l q k (by omega) ?_ fun j hj => ?_
    · rw [← getD_take' l i k hki]
      have := (placeN_at (l.take i) q h1).1
      unfold nodeN at this
      rw [hk] at this
      exact this
    · rw [← getD_take' l i j (by omega)]
      exact placeN_first (l.take i) q j (by omega)
  refine ⟨by unfold hasN; rw [e]; exact decide_eq_true (by omega), ?_⟩
  unfold nodeN
  rw [hk, e, getD_take' l i k hki]
theorem ahead_rights (p q : List UInt8) (h : aheadB p q = true) : rightB p = true ∧ rightB q = true := by
  unfold aheadB at h
  simp only [Bool.and_eq_true] at h
  exact h.1
theorem fine_lim (x : Nd) : fineN x = (rightB (nP x) && limB x) := by
  unfold fineN limB
  simp only [Bool.and_assoc]
theorem root_facts : rightB [47] = true ∧ parentE [47] = 6 := by decide +kernel
theorem up_root (l : List Nd) (x : Nd) (h : nP x = [47]) : upN l x = decide (nO x = 0) := by
  unfold upN
  rw [h, root_facts.2]
  rfl
theorem pok_right (l : List Nd) (h1 : 1 ≤ l.length) (h2 : l.length ≤ 200) (h3 : nP (l.getD 0 nd0) = [47]) (h4 : nO (l.getD 0 nd0) = 0) (h : ∀ i, i < l.length → pokN l i = true) : rightN l = true := by
  have hk : ∀ i, i < l.length → limB (l.getD i nd0) = true ∧ (i = 0 ∨ (aheadB (nP (l.getD (i - 1) nd0)) (nP (l.getD i nd0)) = true ∧ hasN l (parentS (nP (l.getD i nd0))) = true ∧ nO (nodeN l (parentS (nP (l.getD i nd0)))) = 0)) := by
    intro i hi
    have := h i hi
    unfold pokN folB at this
    simp only [Bool.and_eq_true, Bool.or_eq_true, decide_eq_true_eq] at this
    refine ⟨this.1, ?_⟩
    by_cases h0 : i = 0
    · exact .inl h0
    · rcases this.2 with e | ⟨e1, e2, e3⟩
      · exact absurd e h0
      · have t := take_place l i (by omega) _ e2
        rw [len_take' l i (by omega), getD_take' l i (i - 1) (by omega)] at e1
        rw [t.2] at e3
        exact .inr ⟨e1, t.1, e3⟩
  have hm : ∀ x ∈ l, ∃ i, i < l.length ∧ l.getD i nd0 = x := by
    intro x hx
    obtain ⟨i, hi, rfl⟩ := List.getElem_of_mem hx
    exact ⟨i, hi, by rw [List.getD_eq_getElem?_getD, List.getElem?_eq_getElem hi]; rfl⟩
  rw [rightN_iff]
  refine ⟨by rintro rfl; simp at h1, h2, ?_, ?_, ?_, h3⟩
  · intro x hx
    obtain ⟨i, hi, rfl⟩ := hm x hx
    rw [fine_lim, (hk i hi).1]
    rcases (hk i hi).2 with e | ⟨e, -⟩
    · subst e
      rw [h3, root_facts.1]; rfl
    · rw [(ahead_rights _ _ e).2]; rfl
  · refine inOrder_steps l fun i hi => ?_
    rcases (hk (i + 1) hi).2 with e | ⟨e, -⟩
    · omega
    · simpa using e
  · intro x hx
    obtain ⟨i, hi, rfl⟩ := hm x hx
    rcases (hk i hi).2 with e | ⟨e, e2, e3⟩
    · subst e
      rw [up_root l _ h3, h4]; rfl
    · unfold upN
      rw [e2, e3]
      have hr := (ahead_rights _ _ e).2
      have h47 : nP (l.getD i nd0) ≠ [47] := by
        intro h
        rw [h, ahead_root] at e
        cases e
      rw [(parent_up _ hr h47).1]
      rfl
theorem right_pok (l : List Nd) (hr : rightN l = true) : nP (l.getD 0 nd0) = [47] ∧ nO (l.getD 0 nd0) = 0 ∧ ∀ i, i < l.length → pokN l i = true := by
  have hR := (rightN_iff l).1 hr
  have hm : ∀ i, i < l.length → l.getD i nd0 ∈ l := by
    intro i hi
    rw [List.getD_eq_getElem?_getD, List.getElem?_eq_getElem hi]
    exact List.getElem_mem _
  have hl : 0 < l.length := List.length_pos_iff.2 hR.some
  refine ⟨hR.root, ?_, ?_⟩
  · have := hR.up _ (hm 0 hl)
    rw [up_root l _ hR.root] at this
    simpa using this
  · intro i hi
    have hf := hR.fine _ (hm i hi)
    rw [fine_lim, Bool.and_eq_true] at hf
    unfold pokN
    rw [hf.2, Bool.true_and]
    by_cases h0 : i = 0
    · rw [decide_eq_true h0]; rfl
    · have h47 : nP (l.getD i nd0) ≠ [47] := by
        intro h
        have := inOrder_at l hR.order 0 i (by omega) hi
        rw [h, ahead_root] at this
        cases this
      obtain ⟨p1, p2, p3⟩ := parent_up _ hf.1 h47
      obtain ⟨u1, u2⟩ := upN_parent _ (hR.up _ (hm i hi)) p1
      obtain ⟨q, hq⟩ : ∃ q, parentS (nP (l.getD i nd0)) = q := ⟨_, rfl⟩
      unfold folB
      rw [hq] at u1 u2 p3 ⊢
      have hpl : placeN l q < l.length := by simpa [hasN] using u1
      obtain ⟨k, hk⟩ : ∃ k, placeN l q = k := ⟨_, rfl⟩
      have hnk : nP (l.getD k nd0) = q := by
        have := (placeN_at l q hpl).1
        unfold nodeN at this
        rw [hk] at this
        exact this
      have hki : k < i := by
        refine Decidable.byContradiction fun hc => ?_
        by_cases e : k = i
        · rw [← e, hnk, ahead_irr] at p3
          cases p3
        · have := inOrder_at l hR.order i k (by omega) (by omega)
          rw [hnk] at this
          have := ahead_tr _ _ _ p3 this
          rw [ahead_irr] at this
          cases this
      have e : placeN (l.take i) q = k := by
        refine placeN_here (l.take i) q k (by rw [len_take' l i (by omega)]; exact hki) (by rw [getD_take' l i k hki]; exact hnk) fun j hj => ?_
        rw [getD_take' l i j (by omega)]
        exact placeN_first l q j (by omega)
      have e1 : hasN (l.take i) q = true := by
        unfold hasN
        rw [e, len_take' l i (by omega)]
        exact decide_eq_true hki
      rw [e1, (take_place l i (by omega) q e1).2, u2, len_take' l i (by omega), getD_take' l i (i - 1) (by omega), inOrder_at l hR.order (i - 1) i (by omega) hi]
      simp
theorem pok_not (l : List Nd) (i : Nat) (hi : i < l.length) (h : pokN l i = false) : rightN l = false := by
  cases hr : rightN l
  · rfl
  · have := (right_pok l hr).2.2 i hi
    rw [h] at this
    cases this
theorem root_not (l : List Nd) (h : nP (l.getD 0 nd0) ≠ [47] ∨ nO (l.getD 0 nd0) ≠ 0) : rightN l = false := by
  cases hr : rightN l
  · rfl
  · have := right_pok l hr
    rcases h with h | h
    · exact absurd this.1 h
    · exact absurd this.2.1 h

set_option maxRecDepth 100000 in
set_option maxHeartbeats 4000000 in
theorem shFollows_any (b : List Nd) (p : List UInt8) (v : Value) (w : World) (hr : RdNd w.heap.size w v b) (hb0 : 1 ≤ b.length) : Calls Tryd.prog 34 #[v, txt p] w (One (.bool (folB b p)) w) := by
  obtain ⟨A, cp, rfl, hc, hm⟩ := hr.shape
  unfold maxLen at hm
  obtain ⟨n, hn⟩ : ∃ n, b.length = n := ⟨_, rfl⟩
  have HN := Lib.hid hn
  have HR := Lib.hid hr
  rw [hn] at hc HR hb0 ⊢
  clear hr hn
  obtain ⟨k, hk⟩ : ∃ k, n = k + 1 := ⟨n - 1, by omega⟩
  have hi1 : (n : Int) - 1 = (k : Int) := by omega
  have hlt : (k : Int) < (n : Int) := by omega
  have HKN := Lib.hid hk
  obtain ⟨a, hA, c0, -, -, -⟩ := HR.out.at_ k (by rw [HN.out]; omega)
  subst hA
  obtain ⟨F, hF⟩ : ∃ F, folB b p = F := ⟨_, rfl⟩
  obtain ⟨q, hq⟩ : ∃ q, nP (b.getD k nd0) = q := ⟨_, rfl⟩
  have HF : Hid (F = (aheadB q p && (hasN b (parentS p) && decide (nO (nodeN b (parentS p)) = 0)))) := by
    show _ = _
    rw [← hF]
    unfold folB
    rw [HN.out, hk, Nat.add_sub_cancel, hq]
  rw [hq] at c0
  rw [hF]
  clear hF hq hk
  go_enter Tryd.func34, Tryd.ntmps34
  go_wp2_with fail
  refine (pxAhead_any q p w).mono ?_
  rintro e w1 ⟨rfl, hb⟩
  have HB := Lib.hid hb
  clear hb c0
  cases ha : aheadB q p
  · have HV : Hid (F = false) := by
      show _ = _
      rw [HF.out, ha]; rfl
    clear ha
    go_wp2
    go_ret
    exact ⟨by rw [HV.out]; rfl, HB.out⟩
  have HV : Hid (F = (hasN b (parentS p) && decide (nO (nodeN b (parentS p)) = 0))) := by
    show _ = _
    rw [HF.out, ha]; rfl
  clear ha HF
  go_wp2_with fail
  refine (pxParent_any p w1).mono ?_
  rintro e w2 ⟨rfl, hb⟩
  have HB2 := Lib.hid (HB.out.trans (hb.mono HB.out.size))
  clear hb HB
  obtain ⟨up, hup⟩ : ∃ up, parentS p = up := ⟨_, rfl⟩
  obtain ⟨pf, hpf⟩ : ∃ f, parentE p = f := ⟨_, rfl⟩
  rw [hup] at HV
  rw [hup, hpf]
  clear hup hpf
  go_wp2_with fail
  refine (shIndex_any b up _ w2 ((HR.out.below HB2.out).more HB2.out.size)).mono ?_
  rintro e w3 ⟨rfl, hb⟩
  have HB3 := Lib.hid (HB2.out.trans (hb.mono HB2.out.size))
  clear hb HB2
  rcases atI_or b up with ⟨h1, h2, h3⟩ | ⟨h1, h2⟩
  · rw [h2]
    rw [HN.out] at h3
    obtain ⟨i, hi⟩ : ∃ i, placeN b up = i := ⟨_, rfl⟩
    rw [hi] at h3 ⊢
    have zi : (i : Int) < (n : Int) := by omega
    have zi0 : (0 : Int) ≤ (i : Int) := by omega
    obtain ⟨a9, hA9, -, -, -, c3⟩ := (HR.out.below HB3.out).at_ i (by rw [HN.out]; exact h3)
    obtain rfl : a = a9 := Option.some.inj hA9
    have hnq : nodeN b up = b.getD i nd0 := by unfold nodeN; rw [hi]
    obtain ⟨y, hy⟩ : ∃ y, nO (b.getD i nd0) = y := ⟨_, rfl⟩
    rw [hy] at c3
    have HW : Hid (F = decide (y = 0)) := by
      show _ = _
      rw [HV.out, h1, hnq, hy]; rfl
    clear hA9 h1 h2 hi hnq hy HV
    go_wp2
    go_ret
    refine ⟨?_, HB3.out⟩
    rw [HW.out]
    first | rfl | (congr 1; done) | (by_cases hz : y = 0 <;> simp [hz])
  · rw [h2]
    have HW : Hid (F = false) := by
      show _ = _
      rw [HV.out, h1]; rfl
    clear h1 h2 HV
    go_wp2
    go_ret
    exact ⟨by rw [HW.out]; rfl, HB3.out⟩
end Go.Proofs.YtlpakfaoaodaiaaDoor
