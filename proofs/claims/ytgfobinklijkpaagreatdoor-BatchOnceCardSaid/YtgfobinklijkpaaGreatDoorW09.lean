/-
  Texts H1 H2.
-/
import Derived.Test.YtgfobinklijkpaaGreatDoorW08
namespace Go.Proofs.YtgfobinklijkpaaGreatDoor
set_option maxRecDepth 100000
set_option maxHeartbeats 16000000
theorem fineN_path (x : Nd) (h : fineN x = true) : rightB (nP x) = true := by
 unfold fineN at h
 simp only [Bool.and_eq_true] at h
 exact h.1.1.1.1
theorem RightP.path {l : List Nd} (h : RightP l) (x : Nd) (hx : x ∈ l) : rightB (nP x) = true := fineN_path x (h.fine x hx)
theorem upN_keep {l l' : List Nd} (x : Nd) (ho' : inOrder l') (h : upN l x = true) (hs : parentE (nP x) = 0 → nodeN l (parentS (nP x)) ∈ l') : upN l' x = true := by
 unfold upN at *
 by_cases h0 : parentE (nP x) = 0
 ·rw [if_pos h0] at h ⊢
  simp only [Bool.and_eq_true, decide_eq_true_eq] at h ⊢
  have h1 := (hasN_node l _ h.1).1
  have h2 := nodeN_mem l' ho' _ (hs h0)
  rw [h1] at h2
  exact ⟨h2.1, by rw [h2.2]; exact h.2⟩
 ·rw [if_neg h0] at h ⊢
  exact h
theorem upN_parent {l : List Nd} (x : Nd) (h : upN l x = true) (h0 : parentE (nP x) = 0) : hasN l (parentS (nP x)) = true ∧ nO (nodeN l (parentS (nP x))) = 0 := by
 unfold upN at h
 rw [if_pos h0] at h
 simpa using h
theorem get_keep (l l' : List Nd) (ho' : inOrder l') (q : List UInt8) (h : ∀ x, nP x = q → (x ∈ l ↔ x ∈ l')) : getE l' q = getE l q ∧ getS l' q = getS l q := by
 have hb : hasN l' q = hasN l q := by
  rw [Bool.eq_iff_iff, hasN_iff, hasN_iff]
  constructor
  ·rintro ⟨x, hx, hp⟩; exact ⟨x, (h x hp).2 hx, hp⟩
  ·rintro ⟨x, hx, hp⟩; exact ⟨x, (h x hp).1 hx, hp⟩
 have hE : getE l' q = getE l q := by unfold getE; rw [hb]
 refine ⟨hE, ?_⟩
 unfold getS
 rw [hE]
 by_cases h0 : getE l q = 0
 ·rw [if_pos h0, if_pos h0]
  have hh : hasN l q = true := by
   unfold getE at h0
   cases hr : rightB q <;> cases hh : hasN l q <;> simp [hr, hh] at h0 ⊢
  obtain ⟨h1, h2⟩ := hasN_node l q hh
  have h3 := nodeN_mem l' ho' _ ((h _ h1).1 h2)
  rw [h1] at h3
  exact h3.2
 ·rw [if_neg h0, if_neg h0]
theorem getE_zero (l : List Nd) (q : List UInt8) (h : getE l q = 0) : rightB q = true ∧ hasN l q = true := by
 unfold getE at h
 cases hr : rightB q <;> cases hh : hasN l q <;> simp [hr, hh] at h ⊢
theorem getE_yes (l : List Nd) (q : List UInt8) (h : rightB q = true) (h2 : hasN l q = true) : getE l q = 0 := by simp [getE, h, h2]
theorem getE_none (l : List Nd) (q : List UInt8) (h : rightB q = true) (h2 : hasN l q = false) : getE l q = 6 := by simp [getE, h, h2]
theorem insN_mem (n : Nd) : ∀ (l : List Nd) (x : Nd), x ∈ insN n l ↔ x = n ∨ x ∈ l
 | [], x => by simp [insN]
 | y :: r, x => by
   unfold insN
   split
   ·simp
   ·rw [List.mem_cons, insN_mem n r x, List.mem_cons]
    constructor
    ·rintro (h | h | h)
     ·exact .inr (.inl h)
     ·exact .inl h
     ·exact .inr (.inr h)
    ·rintro (h | h | h)
     ·exact .inr (.inl h)
     ·exact .inl h
     ·exact .inr (.inr h)
theorem insN_len (n : Nd) : ∀ l : List Nd, (insN n l).length = l.length + 1
 | [] => rfl
 | y :: r => by
   unfold insN
   split
   ·rfl
   ·rw [List.length_cons, insN_len n r]; rfl
theorem insN_order (n : Nd) (hn : rightB (nP n) = true) : ∀ (l : List Nd), inOrder l → (∀ x ∈ l, rightB (nP x) = true) → (∀ x ∈ l, nP x ≠ nP n) → inOrder (insN n l)
 | [], _, _, _ => by unfold insN inOrder; simp
 | y :: r, ho, hr, hd => by
   unfold insN
   have ho2 := List.pairwise_cons.1 ho
   by_cases h : aheadB (nP n) (nP y) = true
   ·rw [if_pos h]
    refine List.Pairwise.cons ?_ ho
    intro z hz
    rcases List.mem_cons.1 hz with rfl | hz
    ·exact h
    ·exact ahead_tr _ _ _ h (ho2.1 z hz)
   ·rw [if_neg h]
    refine List.Pairwise.cons ?_ (insN_order n hn r ho2.2 (fun x hx => hr x (List.mem_cons_of_mem _ hx)) (fun x hx => hd x (List.mem_cons_of_mem _ hx)))
    intro z hz
    rcases (insN_mem n r z).1 hz with rfl | hz
    ·exact ahead_else _ _ hn (hr y (by simp)) (fun e => hd y (by simp) e.symm) (by simpa using h)
    ·exact ho2.1 z hz
theorem ahead_root (p : List UInt8) : aheadB p [47] = false := by
 unfold aheadB
 have : cutL [47] = [] := by decide
 rw [this]
 cases cutL p <;> simp [aheadL]
theorem createE_zero (l : List Nd) (p v : List UInt8) (o : Int) (h : createE l p v o = 0) :
 rightB p = true ∧ hasN l p = false ∧ hasN l (parentS p) = true ∧ nO (nodeN l (parentS p)) = 0 ∧ v.length ≤ 1000 ∧ 0 ≤ o ∧ l.length < 200 := by
 unfold createE at h
 split at h
 ·cases h
 split at h
 ·cases h
 split at h
 ·cases h
 split at h
 ·cases h
 split at h
 ·cases h
 split at h
 ·cases h
 split at h
 ·cases h
 rename_i h1 h2 h3 h4 h5 h6 h7
 refine ⟨by simpa using h1, by simpa using h2, by simpa using h3, by simpa using h4, by omega, by omega, by omega⟩
theorem right_create (l : List Nd) (p v : List UInt8) (o : Int) (hl : RightP l) : RightP (createS l p v o) ∧
 (∀ q, q ≠ p → getE (createS l p v o) q = getE l q ∧ getS (createS l p v o) q = getS l q) ∧
 (createE l p v o = 0 → getE (createS l p v o) p = 0 ∧ getS (createS l p v o) p = (p, v, 0, o) ∧ getE l p = 6) := by
 unfold createS
 by_cases h0 : createE l p v o = 0
 ·rw [if_pos h0]
  obtain ⟨h1, h2, h3, h4, h5, h6, h7⟩ := createE_zero l p v o h0
  have hd : ∀ x ∈ l, nP x ≠ p := hasN_not l p h2
  have ho := insN_order (p, v, 0, o) h1 l hl.order hl.path hd
  have hm := insN_mem (p, v, 0, o) l
  have hpe : parentE p = 0 := by
   by_cases hp : parentE p = 0
   ·exact hp
   ·exfalso
    have hs : parentS p = [] := by
     by_cases hc : cutL p = []
     ·exact (parent_root p h1 hc).1
     ·exact absurd (parent_yes p h1 hc).2 hp
    obtain ⟨h8, h9⟩ := hasN_node l _ h3
    have := hl.path _ h9
    rw [h8, hs] at this
    exact absurd this (by decide)
  refine ⟨⟨?_, ?_, ?_, ho, ?_, ?_⟩, ?_, fun _ => ?_⟩
  ·intro e
   have := insN_len (p, v, 0, o) l
   rw [e] at this; simp at this
  ·rw [insN_len]; omega
  ·intro x hx
   rcases (hm x).1 hx with rfl | hx
   ·unfold fineN
    simp only [Bool.and_eq_true, decide_eq_true_eq]
    exact ⟨⟨⟨⟨h1, h5⟩, (by decide : (0 : Int) ≤ 0)⟩, (by decide : (0 : Int) ≤ 1000000000)⟩, h6⟩
   ·exact hl.fine x hx
  ·intro x hx
   rcases (hm x).1 hx with rfl | hx
   ·refine upN_keep (l := l) _ ho ?_ (fun _ => (hm _).2 (.inr (hasN_node l _ h3).2))
    unfold upN
    rw [if_pos hpe]
    simp [h3, h4]
   ·exact upN_keep x ho (hl.up x hx) (fun hp => (hm _).2 (.inr (hasN_node l _ (upN_parent x (hl.up x hx) hp).1).2))
  ·have hr := hl.root
   cases l with
   | nil => exact absurd rfl hl.some
   | cons y r =>
     have hy : nP y = [47] := by simpa using hr
     unfold insN
     rw [if_neg (by rw [hy, ahead_root]; simp)]
     simpa using hy
  ·intro q hq
   refine get_keep l _ ho q fun x hx => ?_
   rw [hm]
   constructor
   ·exact .inr
   ·rintro (rfl | h)
    ·exact absurd hx.symm hq
    ·exact h
  ·have h8 := nodeN_mem _ ho (p, v, 0, o) ((hm _).2 (.inl rfl))
   refine ⟨getE_yes _ p h1 h8.1, ?_, getE_none l p h1 h2⟩
   unfold getS
   rw [if_pos (getE_yes _ p h1 h8.1)]
   exact h8.2
 ·rw [if_neg h0]
  exact ⟨hl, fun _ _ => ⟨rfl, rfl⟩, fun h => absurd h h0⟩
theorem right_filter (l : List Nd) (hl : RightP l) (f : Nd → Bool) (hr : f (l.getD 0 nd0) = true) (hp : ∀ x ∈ l, f x = true → parentE (nP x) = 0 → f (nodeN l (parentS (nP x))) = true) : RightP (l.filter f) := by
 have ho : inOrder (l.filter f) := List.Pairwise.sublist List.filter_sublist hl.order
 cases l with
 | nil => exact absurd rfl hl.some
 | cons y r =>
   have hy : f y = true := by simpa using hr
   refine ⟨?_, ?_, ?_, ho, ?_, ?_⟩
   ·rw [List.filter_cons_of_pos hy]; simp
   ·exact Nat.le_trans (List.length_filter_le _ _) hl.few
   ·intro x hx
    exact hl.fine x (List.mem_filter.1 hx).1
   ·intro x hx
    obtain ⟨h1, h2⟩ := List.mem_filter.1 hx
    refine upN_keep x ho (hl.up x h1) (fun h0 => List.mem_filter.2 ⟨(hasN_node _ _ (upN_parent x (hl.up x h1) h0).1).2, hp x h1 h2 h0⟩)
   ·rw [List.filter_cons_of_pos hy]
    simpa using hl.root
theorem erase_filter (p : List UInt8) : ∀ (l : List Nd), inOrder l → hasN l p = true → l.eraseIdx (placeN l p) = l.filter fun x => decide (nP x ≠ p)
 | [], _, h => by simp [hasN, placeN] at h
 | y :: r, ho, h => by
   have ho2 := List.pairwise_cons.1 ho
   unfold placeN
   by_cases hy : nP y = p
   ·rw [if_pos hy, List.eraseIdx_cons_zero, List.filter_cons_of_neg (by simp [hy])]
    refine (List.filter_eq_self.2 ?_).symm
    intro x hx
    have h1 := ho2.1 x hx
    rw [decide_eq_true_eq]
    intro e
    rw [hy, e, ahead_irr] at h1
    cases h1
   ·rw [if_neg hy, List.eraseIdx_cons_succ, List.filter_cons_of_pos (by simp [hy])]
    congr 1
    refine erase_filter p r ho2.2 ?_
    obtain ⟨x, hx, hp⟩ := (hasN_iff _ _).1 h
    rcases List.mem_cons.1 hx with rfl | hx
    ·exact absurd hp hy
    ·exact (hasN_iff _ _).2 ⟨x, hx, hp⟩
theorem kids_none (l : List Nd) (p : List UInt8) (h : kidsN l p = []) : ∀ x ∈ l, kidN p x = false := by
 intro x hx
 unfold kidsN at h
 rw [List.map_eq_nil_iff, List.filter_eq_nil_iff] at h
 simpa using h x hx
theorem delE_zero (l : List Nd) (p : List UInt8) (ver : Int) (h : delE l p ver = 0) : getE l p = 0 ∧ p ≠ [47] ∧ (ver = -1 ∨ ver = nR (nodeN l p)) ∧ kidsN l p = [] := by
 unfold delE at h
 by_cases h0 : getE l p = 0
 ·rw [if_neg (by simpa using h0)] at h
  split at h
  ·cases h
  split at h
  ·cases h
  split at h
  ·cases h
  rename_i h1 h2 h3
  refine ⟨h0, h1, ?_, by simpa using h3⟩
  by_cases h4 : ver = -1
  ·exact .inl h4
  ·by_cases h5 : ver = nR (nodeN l p)
   ·exact .inr h5
   ·exact absurd ⟨h4, h5⟩ h2
 ·rw [if_pos h0] at h
  exact absurd h h0
theorem right_del (l : List Nd) (p : List UInt8) (ver : Int) (hl : RightP l) : RightP (delS l p ver) ∧
 (∀ q, q ≠ p → getE (delS l p ver) q = getE l q ∧ getS (delS l p ver) q = getS l q) ∧
 (delE l p ver = 0 → getE (delS l p ver) p = 6) := by
 unfold delS
 by_cases h0 : delE l p ver = 0
 ·rw [if_pos h0]
  obtain ⟨h1, h2, _, h3⟩ := delE_zero l p ver h0
  obtain ⟨h4, h5⟩ := getE_zero l p h1
  rw [erase_filter p l hl.order h5]
  have ho : inOrder (l.filter fun x => decide (nP x ≠ p)) := List.Pairwise.sublist List.filter_sublist hl.order
  have hk := kids_none l p h3
  refine ⟨right_filter l hl _ (by rw [decide_eq_true_eq, hl.root]; exact fun e => h2 e.symm) ?_, ?_, fun _ => ?_⟩
  ·intro x hx _ hp
   have h6 := hk x hx
   unfold kidN at h6
   have h7 := (hasN_node l _ (upN_parent x (hl.up x hx) hp).1).1
   rw [decide_eq_true_eq, h7]
   intro e
   rw [hp, e] at h6
   simp at h6
  ·intro q hq
   refine get_keep l _ ho q fun x hx => ?_
   rw [List.mem_filter, decide_eq_true_eq, hx]
   exact ⟨fun h => ⟨h, hq⟩, fun h => h.1⟩
  ·refine getE_none _ p h4 ?_
   rw [Bool.eq_false_iff]
   intro h
   obtain ⟨x, hx, hp⟩ := (hasN_iff _ _).1 h
   have := (List.mem_filter.1 hx).2
   rw [decide_eq_true_eq] at this
   exact this hp
 ·rw [if_neg h0]
  exact ⟨hl, fun _ _ => ⟨rfl, rfl⟩, fun h => absurd h h0⟩
theorem filter_both (f : Nd → Bool) : ∀ l : List Nd, (l.filter fun x => !f x).length + (l.filter f).length = l.length
 | [] => rfl
 | x :: r => by
   have := filter_both f r
   cases h : f x <;> simp [h] <;> omega
theorem right_drop (l : List Nd) (o : Int) (hl : RightP l) : RightP (dropS l o) ∧ (dropS l o).length + (goneN l o).length = l.length ∧
 (∀ x ∈ l, ownB o x = false → getE (dropS l o) (nP x) = 0) ∧ (∀ x ∈ l, ownB o x = true → getE (dropS l o) (nP x) = 6 ∧ kidsN l (nP x) = []) := by
 unfold dropS goneN
 have ho : inOrder (l.filter fun x => !ownB o x) := List.Pairwise.sublist List.filter_sublist hl.order
 refine ⟨right_filter l hl _ ?_ ?_, ?_, ?_, ?_⟩
 ·have hm : l.getD 0 nd0 ∈ l := by
   cases l with
   | nil => exact absurd rfl hl.some
   | cons y r => simp
  have h1 := hl.up _ hm
  unfold upN at h1
  rw [hl.root, if_neg (by decide)] at h1
  have h2 : nO (l.getD 0 nd0) = 0 := by simpa using h1
  unfold ownB
  rw [h2]
  by_cases h3 : 0 < o
  ·have : ¬ (0 : Int) = o := by omega
   simp [this]
  ·simp [h3]
 ·intro x hx _ hp
  have h2 := (upN_parent x (hl.up x hx) hp).2
  unfold ownB
  rw [h2]
  by_cases h3 : 0 < o
  ·have : ¬ (0 : Int) = o := by omega
   simp [this]
  ·simp [h3]
 ·rw [List.length_map]
  exact filter_both (ownB o) l
 ·intro x hx h
  have h1 := nodeN_mem _ ho x (List.mem_filter.2 ⟨hx, by rw [h]; rfl⟩)
  exact getE_yes _ _ (hl.path x hx) h1.1
 ·intro x hx h
  refine ⟨getE_none _ _ (hl.path x hx) ?_, ?_⟩
  ·rw [Bool.eq_false_iff]
   intro hh
   obtain ⟨y, hy, hp⟩ := (hasN_iff _ _).1 hh
   obtain ⟨h1, h2⟩ := List.mem_filter.1 hy
   have := inOrder_same l hl.order y x h1 hx hp
   rw [this, h] at h2
   cases h2
  ·unfold kidsN
   rw [List.map_eq_nil_iff, List.filter_eq_nil_iff]
   intro y hy hk
   unfold kidN at hk
   simp only [Bool.and_eq_true, decide_eq_true_eq] at hk
   obtain ⟨h1, h2⟩ := upN_parent y (hl.up y hy) hk.1
   rw [hk.2] at h2
   rw [(nodeN_mem l hl.order x hx).2] at h2
   unfold ownB at h
   simp only [Bool.and_eq_true, decide_eq_true_eq] at h
   omega
theorem placeN_map (g : Nd → Nd) : ∀ (l : List Nd), (∀ x ∈ l, nP (g x) = nP x) → ∀ q, placeN (l.map g) q = placeN l q
 | [], _, _ => rfl
 | x :: r, h, q => by
   rw [List.map_cons]
   unfold placeN
   rw [h x (by simp), placeN_map g r (fun y hy => h y (List.mem_cons_of_mem _ hy)) q]
theorem nodeN_map (g : Nd → Nd) (l : List Nd) (h : ∀ x ∈ l, nP (g x) = nP x) (q : List UInt8) : hasN (l.map g) q = hasN l q ∧ (hasN l q = true → nodeN (l.map g) q = g (nodeN l q)) := by
 have e := placeN_map g l h q
 constructor
 ·unfold hasN
  rw [e, List.length_map]
 ·intro hh
  unfold hasN at hh
  rw [decide_eq_true_eq] at hh
  unfold nodeN
  rw [e, List.getD_eq_getElem?_getD, List.getD_eq_getElem?_getD, List.getElem?_map, List.getElem?_eq_getElem hh]
  rfl
theorem set_map (n : Nd) : ∀ (l : List Nd), inOrder l → hasN l (nP n) = true → l.set (placeN l (nP n)) n = l.map fun x => if nP x = nP n then n else x
 | [], _, h => by simp [hasN, placeN] at h
 | y :: r, ho, h => by
   have ho2 := List.pairwise_cons.1 ho
   unfold placeN
   rw [List.map_cons]
   by_cases hy : nP y = nP n
   ·rw [if_pos hy, if_pos hy, List.set_cons_zero]
    congr 1
    have e : r.map (fun x => if nP x = nP n then n else x) = r.map id := by
     refine List.map_congr_left ?_
     intro x hx
     have h1 := ho2.1 x hx
     rw [if_neg ?_]
     ·rfl
     ·intro e
      rw [hy, e, ahead_irr] at h1
      cases h1
    rw [e, List.map_id]
   ·rw [if_neg hy, if_neg hy, List.set_cons_succ]
    congr 1
    refine set_map n r ho2.2 ?_
    obtain ⟨x, hx, hp⟩ := (hasN_iff _ _).1 h
    rcases List.mem_cons.1 hx with rfl | hx
    ·exact absurd hp hy
    ·exact (hasN_iff _ _).2 ⟨x, hx, hp⟩
theorem setE_zero (l : List Nd) (p v : List UInt8) (ver : Int) (h : setE l p v ver = 0) : getE l p = 0 ∧ (ver = -1 ∨ ver = nR (nodeN l p)) ∧ v.length ≤ 1000 ∧ nR (nodeN l p) ≠ 1000000000 := by
 unfold setE at h
 by_cases h0 : getE l p = 0
 ·rw [if_neg (by simpa using h0)] at h
  split at h
  ·cases h
  split at h
  ·cases h
  split at h
  ·cases h
  rename_i h1 h2 h3
  refine ⟨h0, ?_, by omega, h3⟩
  by_cases h4 : ver = -1
  ·exact .inl h4
  ·by_cases h5 : ver = nR (nodeN l p)
   ·exact .inr h5
   ·exact absurd ⟨h4, h5⟩ h1
 ·rw [if_pos h0] at h
  exact absurd h h0
theorem wrap_up (n : Int) (h0 : 0 ≤ n) (h1 : n ≤ 1000000000) : Go.IntKind.i64.wrap (n + 1) = n + 1 := by
 unfold Go.IntKind.wrap
 simp [Go.IntKind.signed, Go.IntKind.bits]
 omega
theorem right_set (l : List Nd) (p v : List UInt8) (ver : Int) (hl : RightP l) : RightP (setS l p v ver) ∧
 (∀ q, q ≠ p → getE (setS l p v ver) q = getE l q ∧ getS (setS l p v ver) q = getS l q) ∧
 (setE l p v ver = 0 → getE (setS l p v ver) p = 0 ∧ getS (setS l p v ver) p = (p, v, nR (getS l p) + 1, nO (getS l p))) := by
 unfold setS
 by_cases h0 : setE l p v ver = 0
 ·rw [if_pos h0]
  obtain ⟨h1, _, h3, h4⟩ := setE_zero l p v ver h0
  obtain ⟨h5, h6⟩ := getE_zero l p h1
  obtain ⟨h7, h8⟩ := hasN_node l p h6
  have hs : getS l p = nodeN l p := by unfold getS; rw [if_pos h1]
  have hff := hl.fine _ h8
  unfold fineN at hff
  simp only [Bool.and_eq_true, decide_eq_true_eq] at hff
  rw [hs, wrap_up _ (by omega) (by omega)]
  clear hff
  obtain ⟨N, hN⟩ : ∃ N : Nd, N = (p, v, nR (nodeN l p) + 1, nO (nodeN l p)) := ⟨_, rfl⟩
  rw [← hN]
  have hNP : nP N = p := by rw [hN]
  have hmap := set_map N l hl.order (by rw [hNP]; exact h6)
  rw [hNP] at hmap
  rw [hmap]
  obtain ⟨g, hg⟩ : ∃ g : Nd → Nd, g = fun x => if nP x = p then N else x := ⟨_, rfl⟩
  rw [← hg]
  have hgP : ∀ x ∈ l, nP (g x) = nP x := by
   intro x _
   rw [hg]
   by_cases hx : nP x = p
   ·simp only [if_pos hx]; rw [hNP, hx]
   ·simp only [if_neg hx]
  have hgO : ∀ x ∈ l, nO (g x) = nO x := by
   intro x hx
   rw [hg]
   by_cases hxp : nP x = p
   ·simp only [if_pos hxp]
    have := inOrder_same l hl.order x (nodeN l p) hx h8 (by rw [h7, hxp])
    rw [this, hN]
   ·simp only [if_neg hxp]
  have hnm := nodeN_map g l hgP
  have ho : inOrder (l.map g) := by
   unfold inOrder
   rw [List.pairwise_map]
   refine List.Pairwise.imp_of_mem ?_ hl.order
   intro a b ha hb hab
   rw [hgP a ha, hgP b hb]
   exact hab
  have hgp : g (nodeN l p) = N := by rw [hg]; simp only [if_pos h7]
  refine ⟨⟨?_, ?_, ?_, ho, ?_, ?_⟩, ?_, fun _ => ?_⟩
  ·intro e
   exact hl.some (List.map_eq_nil_iff.1 e)
  ·rw [List.length_map]; exact hl.few
  ·intro x hx
   obtain ⟨y, hy, rfl⟩ := List.mem_map.1 hx
   rw [hg]
   by_cases hyp : nP y = p
   ·simp only [if_pos hyp]
    have hf := hl.fine _ h8
    unfold fineN at hf ⊢
    simp only [Bool.and_eq_true, decide_eq_true_eq] at hf ⊢
    rw [hN]
    have e1 : nR (p, v, nR (nodeN l p) + 1, nO (nodeN l p)) = nR (nodeN l p) + 1 := rfl
    have e2 : nO (p, v, nR (nodeN l p) + 1, nO (nodeN l p)) = nO (nodeN l p) := rfl
    rw [e1, e2]
    exact ⟨⟨⟨⟨h5, h3⟩, by omega⟩, by omega⟩, hf.2⟩
   ·simp only [if_neg hyp]
    exact hl.fine y hy
  ·intro x hx
   obtain ⟨y, hy, rfl⟩ := List.mem_map.1 hx
   have hu := hl.up y hy
   unfold upN at hu ⊢
   rw [hgP y hy, hgO y hy]
   by_cases h9 : parentE (nP y) = 0
   ·rw [if_pos h9] at hu ⊢
    simp only [Bool.and_eq_true, decide_eq_true_eq] at hu ⊢
    have h10 := hasN_node l _ hu.1
    exact ⟨by rw [(hnm _).1]; exact hu.1, by rw [(hnm _).2 hu.1, hgO _ h10.2]; exact hu.2⟩
   ·rw [if_neg h9] at hu ⊢
    exact hu
  ·have hr := hl.root
   cases hl2 : l with
   | nil => exact absurd hl2 hl.some
   | cons y r =>
     rw [hl2] at hr hgP
     have : nP (g y) = nP y := hgP y (by simp)
     simpa [this] using hr
  ·intro q hq
   refine get_keep l _ ho q fun x hx => ?_
   rw [List.mem_map]
   constructor
   ·intro h
    refine ⟨x, h, ?_⟩
    rw [hg]
    simp only [if_neg (show ¬ nP x = p from fun e => hq (by rw [← hx, e]))]
   ·rintro ⟨y, hy, rfl⟩
    rw [hgP y hy] at hx
    rw [hg]
    simp only [if_neg (show ¬ nP y = p from fun e => hq (by rw [← hx, e]))]
    exact hy
  ·have h9 : hasN (l.map g) p = true := by rw [(hnm p).1]; exact h6
   refine ⟨getE_yes _ p h5 h9, ?_⟩
   unfold getS
   rw [if_pos (getE_yes _ p h5 h9), (hnm p).2 h6, hgp]
 ·rw [if_neg h0]
  exact ⟨hl, fun _ _ => ⟨rfl, rfl⟩, fun h => absurd h h0⟩
end Go.Proofs.YtgfobinklijkpaaGreatDoor
