/-
  Texts KA GQ.
-/
import Derived.Test.YtdihngkdhanhkaaGreatDoorZ10
import Derived.Test.YtdihngkdhanhkaaGreatDoorZ23
import Derived.Test.YtdihngkdhanhkaaGreatDoorZ25
import Derived.Test.YtdihngkdhanhkaaGreatDoorZ45
namespace Go.Proofs.YtdihngkdhanhkaaGreatDoor
open Go.RowKit

theorem names_fold (l : List Or) : ∀ r : Rm, RightR r → NamesR (mL r) → NamesR (mL (foldR r l).1) := by
  induction l with
  | nil => exact fun _ _ h => h
  | cons o l ih => exact fun r h hn => ih _ (right_apply r o h) (names_apply r o h hn).1
theorem take_or (l : List Or) (i : Nat) (hi : i < l.length) : l.take (i + 1) = l.take i ++ [l.getD i or0] := by
  rw [List.take_add_one, List.getElem?_eq_getElem hi, List.getD_eq_getElem?_getD, List.getElem?_eq_getElem hi]
  rfl
theorem fold_snoc (r : Rm) (l : List Or) (i : Nat) (hi : i < l.length) : foldR r (l.take (i + 1)) = ((applyR (foldR r (l.take i)).1 (l.getD i or0)).1, (foldR r (l.take i)).2.1 ++ [(applyR (foldR r (l.take i)).1 (l.getD i or0)).2.1], (foldR r (l.take i)).2.2 ++ (applyR (foldR r (l.take i)).1 (l.getD i or0)).2.2) := by
  rw [take_or l i hi, foldR_append, foldR_one]
/-- A row that is not of the other one's block. -/
def NeV (v u : Value) : Prop := ∀ a n c, v = .slice (some a) n c → 0 < n → u.ownBlock ≠ some a.block
/-- Beside a row of one's own that grew, or was written to. -/
theorem GoE.grew {α : Type} {E : RowK α} {e : TypeId} {b : Nat} {w w' : World} {u v : Value} {l : List α} (h : GoE E e b w v l) (hb : Below b w w') (hw : b ≤ w.heap.size) (hg : w.grownBy w' u.ownBlock) (hne : NeV v u) : GoE E e b w' v l := by
  have hz := hb.size
  rcases Nat.eq_zero_or_pos l.length with h0 | h0
  · have hl := List.eq_nil_of_length_eq_zero h0
    subst hl
    obtain ⟨A, c, rfl, hc, hm, hn, _⟩ := h.1
    refine ⟨⟨A, c, rfl, hc, hm, hn, fun a ha => ⟨fun h1 => absurd h1 (by simp), fun j u hu => by simp [rowsE] at hu⟩⟩, .inl fun a n c' e h1 => ?_⟩
    injection e with _ e2 _
    simp at e2
    omega
  · obtain ⟨A, c, hv, _, _, hn, _⟩ := h.1
    subst hv
    cases A with
    | none => have := hn rfl; omega
    | some a =>
      have hna : u.ownBlock ≠ some a.block := hne a _ _ rfl h0
      rcases h.2 with h2 | h2
      · exact ⟨h.1.lo_keep h2 (fun k hk => hb.block k hk) (by omega), .inl h2⟩
      · have h3 : OwnE E e w' b (.slice (some a) l.length c) l := ownsRow_at h2 (fun g hg2 => by
          have hlt := (World.ownsRow.lt h2 g hg2).2
          refine hg.block g hlt fun e2 => ?_
          have : g = a.block := by
            injection hg2 with hg2
            exact hg2.symm
          subst this
          exact hna e2.symm)
        exact ⟨h3.rd, .inr h3⟩
theorem OwnRps.below {e es : TypeId} {b : Nat} {w w' : World} {v : Value} {l : List Rp} (h : OwnRps e es b w v l) (hb : Below w.heap.size w w') : OwnRps e es b w' v l := by
  obtain ⟨ss, h1, h2, h3⟩ := h
  exact ⟨ss, h1, h2.below hb (Nat.le_refl _), fun j hj => (h3 j hj).below hb (Nat.le_refl _)⟩
theorem OwnRps.keep {T : TypeId → Prop} {e es : TypeId} {b d : Nat} {w w' : World} {v : Value} {l : List Rp} (h : OwnRps e es b w v l) (hk : Keep T d w w') (hT : ¬ T e) (hS : ¬ T es) : OwnRps e es b w' v l := by
  obtain ⟨ss, h1, h2, h3⟩ := h
  exact ⟨ss, h1, h2.keep hk hT, fun j hj => (h3 j hj).keep hk hS⟩
theorem GoRp.grew {e es : TypeId} {T : TypeId → Prop} {b : Nat} {w w' : World} {u v : Value} {l : List Rp} (h : GoRp e es b w v l) (hb : Below b w w') (hw : b ≤ w.heap.size) (hg : w.grownBy w' u.ownBlock) (hne : NeV v u) (hk : Keep T b w w') (hS : ¬ T es) : GoRp e es b w' v l := by
  obtain ⟨ss, h1, h2, h3⟩ := h
  exact ⟨ss, h1, h2.grew hb hw hg hne, fun j hj => (h3 j hj).keep hk hS (Nat.le_refl _)⟩
/-- What is carried from world to world. -/
structure FoldF (y : Rm × List Rp × List Ev) (B : Nat) (w : World) (vN vS vW vL vR vE : Value) : Prop where
  n : GoE NdK 91 B w vN (mN y.1)
  s : GoE SeK 105 B w vS (mS y.1)
  t : GoE WaK 94 B w vW (mW y.1)
  l : GoRp 57 9 B w vL (mL y.1)
  r : OwnRps 57 9 B w vR y.2.1
  e : OwnE EvK 98 w B vE y.2.2
  ne : NeV vL vR
theorem FoldF.below {y : Rm × List Rp × List Ev} {B : Nat} {w w' : World} {vN vS vW vL vR vE : Value} (h : FoldF y B w vN vS vW vL vR vE) (hb : Below w.heap.size w w') (hs : B ≤ w.heap.size) : FoldF y B w' vN vS vW vL vR vE :=
  ⟨h.n.below hb hs, h.s.below hb hs, h.t.below hb hs, h.l.below hb hs, h.r.below hb, h.e.below hb (Nat.le_refl _), h.ne⟩
theorem FoldF.keep {T : TypeId → Prop} {y : Rm × List Rp × List Ev} {B : Nat} {w w' : World} {vN vS vW vL vR vE : Value} (h : FoldF y B w vN vS vW vL vR vE) (hk : Keep T B w w') (h1 : ¬ T 91) (h2 : ¬ T 105) (h3 : ¬ T 94) (h4 : ¬ T 57) (h5 : ¬ T 9) (h6 : ¬ T 98) : FoldF y B w' vN vS vW vL vR vE :=
  ⟨h.n.keep hk h1 (Nat.le_refl _), h.s.keep hk h2 (Nat.le_refl _), h.t.keep hk h3 (Nat.le_refl _), h.l.keep hk h4 h5 (Nat.le_refl _), h.r.keep hk h4 h5, h.e.keep hk h6, h.ne⟩
/-- After a request: the realm, and what was there before. -/
theorem FoldF.step {y z : Rm × List Rp × List Ev} {B : Nat} {w w' : World} {vN vS vW vL vR vE uN uS uW uL : Value} (h : FoldF y B w vN vS vW vL vR vE) (hs : B ≤ w.heap.size) (hb : Below w.heap.size w w') (h1 : GoE NdK 91 B w' uN (mN z.1)) (h2 : GoE SeK 105 B w' uS (mS z.1)) (h3 : GoE WaK 94 B w' uW (mW z.1)) (h4 : GoRp 57 9 B w' uL (mL z.1)) (h5 : uL = vL ∨ ∀ k, uL.ownBlock = some k → w.heap.size ≤ k) (h6 : z.2 = y.2) : FoldF z B w' uN uS uW uL vR vE := by
  have h' := h.below hb hs
  refine ⟨h1, h2, h3, h4, by rw [h6]; exact h'.r, by rw [h6]; exact h'.e, ?_⟩
  rcases h5 with rfl | h5
  · exact h.ne
  · intro a n c hv hn he
    subst hv
    have h7 := h5 a.block (by rfl)
    obtain ⟨ss, _, h8, _⟩ := h.r
    have h9 := (World.ownsRow.lt h8 _ he).2
    omega
/-- One more reply. -/
theorem FoldF.more {y : Rm × List Rp × List Ev} {B : Nat} {w w' : World} {vN vS vW vL vR vE u : Value} {ss : List SlT} {x : Rp} {s : SlT} (h : FoldF y B w vN vS vW vL vR vE) (hs : B ≤ w.heap.size) (hss : ss.length = y.2.1.length) (hn : ∀ j, j < y.2.1.length → OwnE StK 9 w B (slv (ss.getD j sl0)) (pN (y.2.1.getD j rp0)))
    (hv : OwnE RvK 57 w B vR (rvs y.2.1 ss)) (hx : OwnE StK 9 w B (slv s) (pN x)) (ho : OwnE RvK 57 w' B u (rvs y.2.1 ss ++ [rpv x s])) (hb : Below B w w') (hg : w.grownBy w' vR.ownBlock) (hu : u.ownBlock = vR.ownBlock ∨ ∃ k, u.ownBlock = some k ∧ w.heap.size ≤ k) :
    FoldF (y.1, y.2.1 ++ [x], y.2.2) B w' vN vS vW vL u vE ∧ Keep (fun e => e = 57) B w w' := by
  have hk : Keep (fun e => e = 57) B w w' := Keep.grown hv rfl hs hb hg
  have hq : rvs y.2.1 ss ++ [rpv x s] = rvs (y.2.1 ++ [x]) (ss ++ [s]) := by
    rw [rvs_append hss]
    rfl
  refine ⟨⟨h.n.keep hk (by decide) (Nat.le_refl _), h.s.keep hk (by decide) (Nat.le_refl _), h.t.keep hk (by decide) (Nat.le_refl _), h.l.grew hb hs hg h.ne hk (by decide), ⟨ss ++ [s], by simp [hss], by rw [← hq]; exact ho, fun j hj => ?_⟩, h.e.keep hk (by decide), ?_⟩, hk⟩
  · simp only [List.getD_eq_getElem?_getD]
    by_cases hj2 : j < y.2.1.length
    · rw [List.getElem?_append_left (by omega), List.getElem?_append_left hj2, ← List.getD_eq_getElem?_getD, ← List.getD_eq_getElem?_getD]
      exact (hn j hj2).keep hk (by decide)
    · rw [List.length_append, List.length_singleton] at hj
      have e1 : j = y.2.1.length := by omega
      rw [List.getElem?_append_right (by omega), List.getElem?_append_right (by omega), show j - ss.length = 0 by omega, show j - y.2.1.length = 0 by omega]
      exact hx.keep hk (by decide)
  · intro a n c he hn0 hu2
    rcases hu with hu | ⟨k, hk1, hk2⟩
    · rw [hu] at hu2
      exact h.ne a n c he hn0 hu2
    · rw [hk1] at hu2
      injection hu2 with hu2
      obtain ⟨sq, _, h2, _⟩ := h.l
      obtain ⟨A, c', he2, _, _, _, h3⟩ := h2.1
      rw [he] at he2
      injection he2 with q1 q2 q3
      have := (h3 a q1.symm).1 (by omega)
      omega
end Go.Proofs.YtdihngkdhanhkaaGreatDoor
namespace Go.Proofs.YtdihngkdhanhkaaGreatDoor
open Go.RowKit

/-- May a node with this path stand behind these nodes? -/
def folB (b : List Nd) (p : List UInt8) : Bool := aheadB (nP (b.getD (b.length - 1) nd0)) p && (hasN b (parentS p) && decide (nO (nodeN b (parentS p)) = 0))
/-- What the program asks of the node at place i. -/
def pokN (l : List Nd) (i : Nat) : Bool := limB (l.getD i nd0) && (decide (i = 0) || folB (l.take i) (nP (l.getD i nd0)))
theorem getD_take' (l : List Nd) (i j : Nat) (h : j < i) : (l.take i).getD j nd0 = l.getD j nd0 := by
  simp [List.getD_eq_getElem?_getD, h]
theorem len_take' (l : List Nd) (i : Nat) (h : i ≤ l.length) : (l.take i).length = i := by
  rw [List.length_take]; omega
theorem take_place (l : List Nd) (i : Nat) (hi : i ≤ l.length) (q : List UInt8) (h : hasN (l.take i) q = true) : hasN l q = true ∧ nodeN (l.take i) q = nodeN l q := by
  have h1 : placeN (l.take i) q < (l.take i).length := by simpa [hasN] using h
  have h2 := len_take' l i hi
  obtain ⟨k, hk⟩ : ∃ k, placeN (l.take i) q = k := ⟨_, rfl⟩
  have hki : k < i := by omega
  have e : placeN l q = k := by
    refine placeN_here l q k (by omega) ?_ fun j hj => ?_
    · rw [← getD_take' l i k hki]
      have := (placeN_at (l.take i) q h1).1
      unfold nodeN at this
      rw [hk] at this
      exact this
    · rw [← getD_take' l i j (by omega)]
      exact placeN_first (l.take i) q j (by omega)
  refine ⟨by unfold hasN; rw [e]; exact decide_eq_true (by omega), ?_⟩
  unfold nodeN
  rw [hk, e, getD_take' l i k hki]
theorem ahead_rights (p q : List UInt8) (h : aheadB p q = true) : rightB p = true ∧ rightB q = true := by
  unfold aheadB at h
  simp only [Bool.and_eq_true] at h
  exact h.1
theorem fine_lim (x : Nd) : fineN x = (rightB (nP x) && limB x) := by
  unfold fineN limB
  simp only [Bool.and_assoc]
theorem root_facts : rightB [47] = true ∧ parentE [47] = 6 := by decide +kernel
theorem up_root (l : List Nd) (x : Nd) (h : nP x = [47]) : upN l x = decide (nO x = 0) := by
  unfold upN
  rw [h, root_facts.2]
  rfl
theorem pok_right (l : List Nd) (h1 : 1 ≤ l.length) (h2 : l.length ≤ 200) (h3 : nP (l.getD 0 nd0) = [47]) (h4 : nO (l.getD 0 nd0) = 0) (h : ∀ i, i < l.length → pokN l i = true) : rightN l = true := by
  have hk : ∀ i, i < l.length → limB (l.getD i nd0) = true ∧ (i = 0 ∨ (aheadB (nP (l.getD (i - 1) nd0)) (nP (l.getD i nd0)) = true ∧ hasN l (parentS (nP (l.getD i nd0))) = true ∧ nO (nodeN l (parentS (nP (l.getD i nd0)))) = 0)) := by
    intro i hi
    have := h i hi
    unfold pokN folB at this
    simp only [Bool.and_eq_true, Bool.or_eq_true, decide_eq_true_eq] at this
    refine ⟨this.1, ?_⟩
    by_cases h0 : i = 0
    · exact .inl h0
    · rcases this.2 with e | ⟨e1, e2, e3⟩
      · exact absurd e h0
      · have t := take_place l i (by omega) _ e2
        rw [len_take' l i (by omega), getD_take' l i (i - 1) (by omega)] at e1
        rw [t.2] at e3
        exact .inr ⟨e1, t.1, e3⟩
  have hm : ∀ x ∈ l, ∃ i, i < l.length ∧ l.getD i nd0 = x := by
    intro x hx
    obtain ⟨i, hi, rfl⟩ := List.getElem_of_mem hx
    exact ⟨i, hi, by rw [List.getD_eq_getElem?_getD, List.getElem?_eq_getElem hi]; rfl⟩
  rw [rightN_iff]
  refine ⟨by rintro rfl; simp at h1, h2, ?_, ?_, ?_, h3⟩
  · intro x hx
    obtain ⟨i, hi, rfl⟩ := hm x hx
    rw [fine_lim, (hk i hi).1]
    rcases (hk i hi).2 with e | ⟨e, -⟩
    · subst e
      rw [h3, root_facts.1]; rfl
    · rw [(ahead_rights _ _ e).2]; rfl
  · refine inOrder_steps l fun i hi => ?_
    rcases (hk (i + 1) hi).2 with e | ⟨e, -⟩
    · omega
    · simpa using e
  · intro x hx
    obtain ⟨i, hi, rfl⟩ := hm x hx
    rcases (hk i hi).2 with e | ⟨e, e2, e3⟩
    · subst e
      rw [up_root l _ h3, h4]; rfl
    · unfold upN
      rw [e2, e3]
      have hr := (ahead_rights _ _ e).2
      have h47 : nP (l.getD i nd0) ≠ [47] := by
        intro h
        rw [h, ahead_root] at e
        cases e
      rw [(parent_up _ hr h47).1]
      rfl
theorem right_pok (l : List Nd) (hr : rightN l = true) : nP (l.getD 0 nd0) = [47] ∧ nO (l.getD 0 nd0) = 0 ∧ ∀ i, i < l.length → pokN l i = true := by
  have hR := (rightN_iff l).1 hr
  have hm : ∀ i, i < l.length → l.getD i nd0 ∈ l := by
    intro i hi
    rw [List.getD_eq_getElem?_getD, List.getElem?_eq_getElem hi]
    exact List.getElem_mem _
  have hl : 0 < l.length := List.length_pos_iff.2 hR.some
  refine ⟨hR.root, ?_, ?_⟩
  · have := hR.up _ (hm 0 hl)
    rw [up_root l _ hR.root] at this
    simpa using this
  · intro i hi
    have hf := hR.fine _ (hm i hi)
    rw [fine_lim, Bool.and_eq_true] at hf
    unfold pokN
    rw [hf.2, Bool.true_and]
    by_cases h0 : i = 0
    · rw [decide_eq_true h0]; rfl
    · have h47 : nP (l.getD i nd0) ≠ [47] := by
        intro h
        have := inOrder_at l hR.order 0 i (by omega) hi
        rw [h, ahead_root] at this
        cases this
      obtain ⟨p1, p2, p3⟩ := parent_up _ hf.1 h47
      obtain ⟨u1, u2⟩ := upN_parent _ (hR.up _ (hm i hi)) p1
      obtain ⟨q, hq⟩ : ∃ q, parentS (nP (l.getD i nd0)) = q := ⟨_, rfl⟩
      unfold folB
      rw [hq] at u1 u2 p3 ⊢
      have hpl : placeN l q < l.length := by simpa [hasN] using u1
      obtain ⟨k, hk⟩ : ∃ k, placeN l q = k := ⟨_, rfl⟩
      have hnk : nP (l.getD k nd0) = q := by
        have := (placeN_at l q hpl).1
        unfold nodeN at this
        rw [hk] at this
        exact this
      have hki : k < i := by
        refine Decidable.byContradiction fun hc => ?_
        by_cases e : k = i
        · rw [← e, hnk, ahead_irr] at p3
          cases p3
        · have := inOrder_at l hR.order i k (by omega) (by omega)
          rw [hnk] at this
          have := ahead_tr _ _ _ p3 this
          rw [ahead_irr] at this
          cases this
      have e : placeN (l.take i) q = k := by
        refine placeN_here (l.take i) q k (by rw [len_take' l i (by omega)]; exact hki) (by rw [getD_take' l i k hki]; exact hnk) fun j hj => ?_
        rw [getD_take' l i j (by omega)]
        exact placeN_first l q j (by omega)
      have e1 : hasN (l.take i) q = true := by
        unfold hasN
        rw [e, len_take' l i (by omega)]
        exact decide_eq_true hki
      rw [e1, (take_place l i (by omega) q e1).2, u2, len_take' l i (by omega), getD_take' l i (i - 1) (by omega), inOrder_at l hR.order (i - 1) i (by omega) hi]
      simp
theorem pok_not (l : List Nd) (i : Nat) (hi : i < l.length) (h : pokN l i = false) : rightN l = false := by
  cases hr : rightN l
  · rfl
  · have := (right_pok l hr).2.2 i hi
    rw [h] at this
    cases this
theorem root_not (l : List Nd) (h : nP (l.getD 0 nd0) ≠ [47] ∨ nO (l.getD 0 nd0) ≠ 0) : rightN l = false := by
  cases hr : rightN l
  · rfl
  · have := right_pok l hr
    rcases h with h | h
    · exact absurd this.1 h
    · exact absurd this.2.1 h

set_option maxRecDepth 100000 in
set_option maxHeartbeats 4000000 in
theorem shFollows_any (b : List Nd) (p : List UInt8) (v : Value) (w : World) (hr : RdNd w.heap.size w v b) (hb0 : 1 ≤ b.length) : Calls Tryz.prog 98 #[v, txt p] w (One (.bool (folB b p)) w) := by
  obtain ⟨A, cp, rfl, hc, hm⟩ := hr.shape
  unfold maxLen at hm
  obtain ⟨n, hn⟩ : ∃ n, b.length = n := ⟨_, rfl⟩
  have HN := Lib.hid hn
  have HR := Lib.hid hr
  rw [hn] at hc HR hb0 ⊢
  clear hr hn
  obtain ⟨k, hk⟩ : ∃ k, n = k + 1 := ⟨n - 1, by omega⟩
  have hi1 : (n : Int) - 1 = (k : Int) := by omega
  have hlt : (k : Int) < (n : Int) := by omega
  have HKN := Lib.hid hk
  obtain ⟨a, hA, c0, -, -, -⟩ := HR.out.at_ k (by rw [HN.out]; omega)
  subst hA
  obtain ⟨F, hF⟩ : ∃ F, folB b p = F := ⟨_, rfl⟩
  obtain ⟨q, hq⟩ : ∃ q, nP (b.getD k nd0) = q := ⟨_, rfl⟩
  have HF : Hid (F = (aheadB q p && (hasN b (parentS p) && decide (nO (nodeN b (parentS p)) = 0)))) := by
    show _ = _
    rw [← hF]
    unfold folB
    rw [HN.out, hk, Nat.add_sub_cancel, hq]
  rw [hq] at c0
  rw [hF]
  clear hF hq hk
  go_enter Tryz.func98, Tryz.ntmps98
  go_wp2_with fail
  refine (pxAhead_any q p w).mono ?_
  rintro e w1 ⟨rfl, hb⟩
  have HB := Lib.hid hb
  clear hb c0
  cases ha : aheadB q p
  · have HV : Hid (F = false) := by
      show _ = _
      rw [HF.out, ha]; rfl
    clear ha
    go_wp2
    go_ret
    exact ⟨by rw [HV.out]; rfl, HB.out⟩
  have HV : Hid (F = (hasN b (parentS p) && decide (nO (nodeN b (parentS p)) = 0))) := by
    show _ = _
    rw [HF.out, ha]; rfl
  clear ha HF
  go_wp2_with fail
  refine (pxParent_any p w1).mono ?_
  rintro e w2 ⟨rfl, hb⟩
  have HB2 := Lib.hid (HB.out.trans (hb.mono HB.out.size))
  clear hb HB
  obtain ⟨up, hup⟩ : ∃ up, parentS p = up := ⟨_, rfl⟩
  obtain ⟨pf, hpf⟩ : ∃ f, parentE p = f := ⟨_, rfl⟩
  rw [hup] at HV
  rw [hup, hpf]
  clear hup hpf
  go_wp2_with fail
  refine (shIndex_any b up _ w2 ((HR.out.below HB2.out).more HB2.out.size)).mono ?_
  rintro e w3 ⟨rfl, hb⟩
  have HB3 := Lib.hid (HB2.out.trans (hb.mono HB2.out.size))
  clear hb HB2
  rcases atI_or b up with ⟨h1, h2, h3⟩ | ⟨h1, h2⟩
  · rw [h2]
    rw [HN.out] at h3
    obtain ⟨i, hi⟩ : ∃ i, placeN b up = i := ⟨_, rfl⟩
    rw [hi] at h3 ⊢
    have zi : (i : Int) < (n : Int) := by omega
    have zi0 : (0 : Int) ≤ (i : Int) := by omega
    obtain ⟨a9, hA9, -, -, -, c3⟩ := (HR.out.below HB3.out).at_ i (by rw [HN.out]; exact h3)
    obtain rfl : a = a9 := Option.some.inj hA9
    have hnq : nodeN b up = b.getD i nd0 := by unfold nodeN; rw [hi]
    obtain ⟨y, hy⟩ : ∃ y, nO (b.getD i nd0) = y := ⟨_, rfl⟩
    rw [hy] at c3
    have HW : Hid (F = decide (y = 0)) := by
      show _ = _
      rw [HV.out, h1, hnq, hy]; rfl
    clear hA9 h1 h2 hi hnq hy HV
    go_wp2
    go_ret
    refine ⟨?_, HB3.out⟩
    rw [HW.out]
    first | rfl | (congr 1; done) | (by_cases hz : y = 0 <;> simp [hz])
  · rw [h2]
    have HW : Hid (F = false) := by
      show _ = _
      rw [HV.out, h1]; rfl
    clear h1 h2 HV
    go_wp2
    go_ret
    exact ⟨by rw [HW.out]; rfl, HB3.out⟩
end Go.Proofs.YtdihngkdhanhkaaGreatDoor
