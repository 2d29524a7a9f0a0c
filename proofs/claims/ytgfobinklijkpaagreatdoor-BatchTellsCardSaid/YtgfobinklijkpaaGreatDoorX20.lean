/-
  Texts H2 U0 I0 UA.
-/
import Derived.Test.YtgfobinklijkpaaGreatDoorX07
import Derived.Test.YtgfobinklijkpaaGreatDoorX08
import Derived.Test.YtgfobinklijkpaaGreatDoorX10
import Derived.Test.YtgfobinklijkpaaGreatDoorX17
import Derived.Test.YtgfobinklijkpaaGreatDoorX19
namespace Go.Proofs.YtgfobinklijkpaaGreatDoor
set_option maxRecDepth 100000
set_option maxHeartbeats 16000000
theorem placeN_map (g : Nd → Nd) : ∀ (l : List Nd), (∀ x ∈ l, nP (g x) = nP x) → ∀ q, placeN (l.map g) q = placeN l q
 | [], _, _ => rfl
 | x :: r, h, q => by
   rw [List.map_cons]
   unfold placeN
   rw [h x (by simp), placeN_map g r (fun y hy => h y (List.mem_cons_of_mem _ hy)) q]
theorem nodeN_map (g : Nd → Nd) (l : List Nd) (h : ∀ x ∈ l, nP (g x) = nP x) (q : List UInt8) : hasN (l.map g) q = hasN l q ∧ (hasN l q = true → nodeN (l.map g) q = g (nodeN l q)) := by
 have e := placeN_map g l h q
 constructor
 ·unfold hasN
  rw [e, List.length_map]
 ·intro hh
  unfold hasN at hh
  rw [decide_eq_true_eq] at hh
  unfold nodeN
  rw [e, List.getD_eq_getElem?_getD, List.getD_eq_getElem?_getD, List.getElem?_map, List.getElem?_eq_getElem hh]
  rfl
theorem set_map (n : Nd) : ∀ (l : List Nd), inOrder l → hasN l (nP n) = true → l.set (placeN l (nP n)) n = l.map fun x => if nP x = nP n then n else x
 | [], _, h => by simp [hasN, placeN] at h
 | y :: r, ho, h => by
   have ho2 := List.pairwise_cons.1 ho
   unfold placeN
   rw [List.map_cons]
   by_cases hy : nP y = nP n
   ·rw [if_pos hy, if_pos hy, List.set_cons_zero]
    congr 1
    have e : r.map (fun x => if nP x = nP n then n else x) = r.map id := by
     refine List.map_congr_left ?_
     intro x hx
     have h1 := ho2.1 x hx
     rw [if_neg ?_]
     ·rfl
     ·intro e
      rw [hy, e, ahead_irr] at h1
      cases h1
    rw [e, List.map_id]
   ·rw [if_neg hy, if_neg hy, List.set_cons_succ]
    congr 1
    refine set_map n r ho2.2 ?_
    obtain ⟨x, hx, hp⟩ := (hasN_iff _ _).1 h
    rcases List.mem_cons.1 hx with rfl | hx
    ·exact absurd hp hy
    ·exact (hasN_iff _ _).2 ⟨x, hx, hp⟩
theorem setE_zero (l : List Nd) (p v : List UInt8) (ver : Int) (h : setE l p v ver = 0) : getE l p = 0 ∧ (ver = -1 ∨ ver = nR (nodeN l p)) ∧ v.length ≤ 1000 ∧ nR (nodeN l p) ≠ 1000000000 := by
 unfold setE at h
 by_cases h0 : getE l p = 0
 ·rw [if_neg (by simpa using h0)] at h
  split at h
  ·cases h
  split at h
  ·cases h
  split at h
  ·cases h
  rename_i h1 h2 h3
  refine ⟨h0, ?_, by omega, h3⟩
  by_cases h4 : ver = -1
  ·exact .inl h4
  ·by_cases h5 : ver = nR (nodeN l p)
   ·exact .inr h5
   ·exact absurd ⟨h4, h5⟩ h1
 ·rw [if_pos h0] at h
  exact absurd h h0
theorem wrap_up (n : Int) (h0 : 0 ≤ n) (h1 : n ≤ 1000000000) : Go.IntKind.i64.wrap (n + 1) = n + 1 := by
 unfold Go.IntKind.wrap
 simp [Go.IntKind.signed, Go.IntKind.bits]
 omega
theorem right_set (l : List Nd) (p v : List UInt8) (ver : Int) (hl : RightP l) : RightP (setS l p v ver) ∧
 (∀ q, q ≠ p → getE (setS l p v ver) q = getE l q ∧ getS (setS l p v ver) q = getS l q) ∧
 (setE l p v ver = 0 → getE (setS l p v ver) p = 0 ∧ getS (setS l p v ver) p = (p, v, nR (getS l p) + 1, nO (getS l p))) := by
 unfold setS
 by_cases h0 : setE l p v ver = 0
 ·rw [if_pos h0]
  obtain ⟨h1, _, h3, h4⟩ := setE_zero l p v ver h0
  obtain ⟨h5, h6⟩ := getE_zero l p h1
  obtain ⟨h7, h8⟩ := hasN_node l p h6
  have hs : getS l p = nodeN l p := by unfold getS; rw [if_pos h1]
  have hff := hl.fine _ h8
  unfold fineN at hff
  simp only [Bool.and_eq_true, decide_eq_true_eq] at hff
  rw [hs, wrap_up _ (by omega) (by omega)]
  clear hff
  obtain ⟨N, hN⟩ : ∃ N : Nd, N = (p, v, nR (nodeN l p) + 1, nO (nodeN l p)) := ⟨_, rfl⟩
  rw [← hN]
  have hNP : nP N = p := by rw [hN]
  have hmap := set_map N l hl.order (by rw [hNP]; exact h6)
  rw [hNP] at hmap
  rw [hmap]
  obtain ⟨g, hg⟩ : ∃ g : Nd → Nd, g = fun x => if nP x = p then N else x := ⟨_, rfl⟩
  rw [← hg]
  have hgP : ∀ x ∈ l, nP (g x) = nP x := by
   intro x _
   rw [hg]
   by_cases hx : nP x = p
   ·simp only [if_pos hx]; rw [hNP, hx]
   ·simp only [if_neg hx]
  have hgO : ∀ x ∈ l, nO (g x) = nO x := by
   intro x hx
   rw [hg]
   by_cases hxp : nP x = p
   ·simp only [if_pos hxp]
    have := inOrder_same l hl.order x (nodeN l p) hx h8 (by rw [h7, hxp])
    rw [this, hN]
   ·simp only [if_neg hxp]
  have hnm := nodeN_map g l hgP
  have ho : inOrder (l.map g) := by
   unfold inOrder
   rw [List.pairwise_map]
   refine List.Pairwise.imp_of_mem ?_ hl.order
   intro a b ha hb hab
   rw [hgP a ha, hgP b hb]
   exact hab
  have hgp : g (nodeN l p) = N := by rw [hg]; simp only [if_pos h7]
  refine ⟨⟨?_, ?_, ?_, ho, ?_, ?_⟩, ?_, fun _ => ?_⟩
  ·intro e
   exact hl.some (List.map_eq_nil_iff.1 e)
  ·rw [List.length_map]; exact hl.few
  ·intro x hx
   obtain ⟨y, hy, rfl⟩ := List.mem_map.1 hx
   rw [hg]
   by_cases hyp : nP y = p
   ·simp only [if_pos hyp]
    have hf := hl.fine _ h8
    unfold fineN at hf ⊢
    simp only [Bool.and_eq_true, decide_eq_true_eq] at hf ⊢
    rw [hN]
    have e1 : nR (p, v, nR (nodeN l p) + 1, nO (nodeN l p)) = nR (nodeN l p) + 1 := rfl
    have e2 : nO (p, v, nR (nodeN l p) + 1, nO (nodeN l p)) = nO (nodeN l p) := rfl
    rw [e1, e2]
    exact ⟨⟨⟨⟨h5, h3⟩, by omega⟩, by omega⟩, hf.2⟩
   ·simp only [if_neg hyp]
    exact hl.fine y hy
  ·intro x hx
   obtain ⟨y, hy, rfl⟩ := List.mem_map.1 hx
   have hu := hl.up y hy
   unfold upN at hu ⊢
   rw [hgP y hy, hgO y hy]
   by_cases h9 : parentE (nP y) = 0
   ·rw [if_pos h9] at hu ⊢
    simp only [Bool.and_eq_true, decide_eq_true_eq] at hu ⊢
    have h10 := hasN_node l _ hu.1
    exact ⟨by rw [(hnm _).1]; exact hu.1, by rw [(hnm _).2 hu.1, hgO _ h10.2]; exact hu.2⟩
   ·rw [if_neg h9] at hu ⊢
    exact hu
  ·have hr := hl.root
   cases hl2 : l with
   | nil => exact absurd hl2 hl.some
   | cons y r =>
     rw [hl2] at hr hgP
     have : nP (g y) = nP y := hgP y (by simp)
     simpa [this] using hr
  ·intro q hq
   refine get_keep l _ ho q fun x hx => ?_
   rw [List.mem_map]
   constructor
   ·intro h
    refine ⟨x, h, ?_⟩
    rw [hg]
    simp only [if_neg (show ¬ nP x = p from fun e => hq (by rw [← hx, e]))]
   ·rintro ⟨y, hy, rfl⟩
    rw [hgP y hy] at hx
    rw [hg]
    simp only [if_neg (show ¬ nP y = p from fun e => hq (by rw [← hx, e]))]
    exact hy
  ·have h9 : hasN (l.map g) p = true := by rw [(hnm p).1]; exact h6
   refine ⟨getE_yes _ p h5 h9, ?_⟩
   unfold getS
   rw [if_pos (getE_yes _ p h5 h9), (hnm p).2 h6, hgp]
 ·rw [if_neg h0]
  exact ⟨hl, fun _ _ => ⟨rfl, rfl⟩, fun h => absurd h h0⟩
open Go.RowKit
abbrev Wa := List UInt8 × Int × Bool
abbrev wP (x : Wa) : List UInt8 := x.1
abbrev wC (x : Wa) : Int := x.2.1
abbrev wK (x : Wa) : Bool := x.2.2
def wa0 : Wa := ([], 0, false)
abbrev Ch := Int × List UInt8
abbrev cK (x : Ch) : Int := x.1
abbrev cP (x : Ch) : List UInt8 := x.2
def ch0 : Ch := (0, [])
abbrev Ev := Wa × Ch
def ev0 : Ev := (wa0, ch0)
def kidsB (c : Ch) (w : Wa) : Bool := decide (cK c ≠ 2) && (decide (parentE (cP c) = 0) && decide (parentS (cP c) = wP w))
def touchB (c : Ch) (w : Wa) : Bool := (decide (1 ≤ cK c) && decide (cK c ≤ 3) && rightB (cP c)) && (if wK w = true then kidsB c w else decide (cP c = wP w))
def hasW (l : List Wa) (w : Wa) : Bool := l.any fun x => decide (x = w)
def fineW (w : Wa) : Bool := rightB (wP w) && decide (0 ≤ wC w)
def okW (l : List Wa) (i : Nat) : Bool := fineW (l.getD i wa0) && !hasW (l.take i) (l.getD i wa0)
def rightW (l : List Wa) : Bool := (List.range l.length).all (okW l) && decide (l.length ≤ 200)
def addE (l : List Wa) (w : Wa) : Nat := if rightB (wP w) = false then 13 else if wC w < 0 then 1 else if hasW l w = true then 0 else if 200 ≤ l.length then 9 else 0
def addW (l : List Wa) (w : Wa) : List Wa := if addE l w = 0 ∧ hasW l w = false then l ++ [w] else l
def stayW (c : Ch) (l : List Wa) : List Wa := l.filter fun w => !touchB c w
def toldW (c : Ch) (l : List Wa) : List Ev := (l.filter (touchB c)).map fun w => (w, c)
def leftW : List Wa → List Ch → List Wa
 | l, [] => l
 | l, c :: r => leftW (stayW c l) r
def fireW : List Wa → List Ch → List Ev
 | _, [] => []
 | l, c :: r => toldW c l ++ fireW (stayW c l) r
structure RightW (l : List Wa) : Prop where
 few : l.length ≤ 200
 fine : ∀ x ∈ l, fineW x = true
 once : l.Nodup
theorem hasW_iff (l : List Wa) (w : Wa) : hasW l w = true ↔ w ∈ l := by
 unfold hasW
 rw [List.any_eq_true]
 constructor
 ·rintro ⟨x, hx, h⟩
  rw [decide_eq_true_eq] at h
  rw [← h]; exact hx
 ·intro h
  exact ⟨w, h, by simp⟩
theorem hasW_not (l : List Wa) (w : Wa) : hasW l w = false ↔ w ∉ l := by
 rw [← Bool.not_eq_true, hasW_iff]
theorem getD_memW {α : Type} (l : List α) (d : α) (i : Nat) (hi : i < l.length) : l.getD i d ∈ l := by
 rw [List.getD_eq_getElem?_getD, List.getElem?_eq_getElem hi]
 exact List.getElem_mem _
theorem mem_getDW {α : Type} (l : List α) (d x : α) (hx : x ∈ l) : ∃ i, i < l.length ∧ l.getD i d = x := by
 obtain ⟨i, hi, rfl⟩ := List.getElem_of_mem hx
 exact ⟨i, hi, by rw [List.getD_eq_getElem?_getD, List.getElem?_eq_getElem hi]; rfl⟩
theorem take_snocW {α : Type} (l : List α) (d : α) (i : Nat) (hi : i < l.length) : l.take (i + 1) = l.take i ++ [l.getD i d] := by
 rw [List.take_add_one, List.getD_eq_getElem?_getD, List.getElem?_eq_getElem hi]
 rfl
theorem rightW_iff (l : List Wa) : rightW l = true ↔ RightW l := by
 unfold rightW
 rw [Bool.and_eq_true, decide_eq_true_eq, List.all_eq_true]
 have e : ∀ i (hi : i < l.length), l.getD i wa0 = l[i] := fun i hi => by rw [List.getD_eq_getElem?_getD, List.getElem?_eq_getElem hi]; rfl
 constructor
 ·rintro ⟨h, hf⟩
  have hk : ∀ i, i < l.length → fineW (l.getD i wa0) = true ∧ l.getD i wa0 ∉ l.take i := by
   intro i hi
   have := h i (List.mem_range.2 hi)
   unfold okW at this
   rw [Bool.and_eq_true, Bool.not_eq_true', hasW_not] at this
   exact this
  refine ⟨hf, ?_, ?_⟩
  ·intro x hx
   obtain ⟨i, hi, rfl⟩ := mem_getDW l wa0 x hx
   exact (hk i hi).1
  ·rw [List.nodup_iff_pairwise_ne, List.pairwise_iff_getElem]
   intro i j hi hj hij heq
   refine (hk j hj).2 ?_
   rw [e j hj, ← heq, List.mem_take_iff_getElem]
   exact ⟨i, by omega, rfl⟩
 ·rintro ⟨h1, h2, h3⟩
  refine ⟨fun i hi => ?_, h1⟩
  have hi := List.mem_range.1 hi
  unfold okW
  rw [Bool.and_eq_true, Bool.not_eq_true', hasW_not]
  refine ⟨h2 _ (getD_memW l wa0 i hi), fun hc => ?_⟩
  rw [e i hi, List.mem_take_iff_getElem] at hc
  obtain ⟨j, hj, heq⟩ := hc
  have := (List.pairwise_iff_getElem.1 (List.nodup_iff_pairwise_ne.1 h3)) j i (by omega) hi (by omega)
  exact this heq
theorem toldW_snoc (c : Ch) (l : List Wa) (i : Nat) (hi : i < l.length) : toldW c (l.take (i + 1)) = toldW c (l.take i) ++ (if touchB c (l.getD i wa0) = true then [(l.getD i wa0, c)] else []) := by
 rw [take_snocW l wa0 i hi]
 unfold toldW
 rw [List.filter_append, List.map_append]
 by_cases h : touchB c (l.getD i wa0) = true
 ·rw [if_pos h, List.filter_cons_of_pos h]
  rfl
 ·rw [if_neg h, List.filter_cons_of_neg h]
  rfl
theorem told_len (c : Ch) (l : List Wa) : (toldW c l).length + (stayW c l).length = l.length := by
 unfold toldW stayW
 induction l with
 | nil => rfl
 | cons x r ih =>
   by_cases h : touchB c x = true
   ·rw [List.filter_cons_of_pos h, List.filter_cons_of_neg (by simpa using h)]
    simp only [List.map_cons, List.length_cons] at ih ⊢
    omega
   ·rw [List.filter_cons_of_neg h, List.filter_cons_of_pos (by simpa using h)]
    simp only [List.length_cons] at ih ⊢
    omega
theorem leftW_append : ∀ (l : List Wa) (a b : List Ch), leftW l (a ++ b) = leftW (leftW l a) b
 | _, [], _ => rfl
 | l, c :: r, b => leftW_append (stayW c l) r b
theorem fireW_append : ∀ (l : List Wa) (a b : List Ch), fireW l (a ++ b) = fireW l a ++ fireW (leftW l a) b
 | _, [], _ => rfl
 | l, c :: r, b => by
   show toldW c l ++ fireW (stayW c l) (r ++ b) = (toldW c l ++ fireW (stayW c l) r) ++ fireW (leftW (stayW c l) r) b
   rw [fireW_append (stayW c l) r b, List.append_assoc]
theorem leftW_snoc (l : List Wa) (cs : List Ch) (i : Nat) (hi : i < cs.length) : leftW l (cs.take (i + 1)) = stayW (cs.getD i ch0) (leftW l (cs.take i)) := by
 rw [take_snocW cs ch0 i hi, leftW_append]
 rfl
theorem fireW_snoc (l : List Wa) (cs : List Ch) (i : Nat) (hi : i < cs.length) : fireW l (cs.take (i + 1)) = fireW l (cs.take i) ++ toldW (cs.getD i ch0) (leftW l (cs.take i)) := by
 rw [take_snocW cs ch0 i hi, fireW_append]
 show _ ++ (toldW _ _ ++ []) = _
 rw [List.append_nil]
theorem fire_len : ∀ (l : List Wa) (cs : List Ch), (leftW l cs).length + (fireW l cs).length = l.length
 | _, [] => rfl
 | l, c :: r => by
   have h1 := fire_len (stayW c l) r
   have h2 := told_len c l
   show (leftW (stayW c l) r).length + (toldW c l ++ fireW (stayW c l) r).length = l.length
   rw [List.length_append]
   omega
theorem leftW_len (l : List Wa) (cs : List Ch) : (leftW l cs).length ≤ l.length := by have := fire_len l cs; omega
theorem leftW_sub : ∀ (l : List Wa) (cs : List Ch), (leftW l cs).Sublist l
 | _, [] => List.Sublist.refl _
 | l, c :: r => (leftW_sub (stayW c l) r).trans List.filter_sublist
theorem right_sub (l m : List Wa) (h : RightW l) (hm : m.Sublist l) : RightW m := ⟨Nat.le_trans hm.length_le h.few, fun x hx => h.fine x (hm.subset hx), h.once.sublist hm⟩
theorem right_left (l : List Wa) (cs : List Ch) (h : RightW l) : RightW (leftW l cs) := right_sub l _ h (leftW_sub l cs)
theorem right_add (l : List Wa) (w : Wa) (h : RightW l) : RightW (addW l w) := by
 unfold addW
 split
 ·rename_i hh
  obtain ⟨h1, h2⟩ := hh
  unfold addE at h1
  split at h1
  ·cases h1
  ·rename_i hr
   split at h1
   ·cases h1
   ·rename_i hc
    rw [if_neg (by rw [h2]; simp)] at h1
    split at h1
    ·cases h1
    ·rename_i hl
     refine ⟨by simp; omega, fun x hx => ?_, ?_⟩
     ·rcases List.mem_append.1 hx with hx | hx
      ·exact h.fine x hx
      ·rw [List.mem_singleton] at hx
       subst hx
       unfold fineW
       rw [show rightB (wP x) = true by simpa using hr, decide_eq_true (by omega)]; rfl
     ·rw [List.nodup_append]
      refine ⟨h.once, by simp, fun a ha b hb e => ?_⟩
      rw [List.mem_singleton] at hb
      subst hb e
      exact (hasW_not _ _).1 h2 ha
 ·exact h
abbrev Rm := List Nd × Int × List Se × List Wa × List Rp
abbrev mN (r : Rm) : List Nd := r.1
abbrev mT (r : Rm) : Int := r.2.1
abbrev mS (r : Rm) : List Se := r.2.2.1
abbrev mW (r : Rm) : List Wa := r.2.2.2.1
abbrev mL (r : Rm) : List Rp := r.2.2.2.2
def rm0 : Rm := ([([47], [], 0, 0)], 0, [], [], [])
def lastR : List Rp → Int → Rp × Bool
 | [], _ => (rp0, false)
 | x :: r, c => if pC x = c then (x, true) else lastR r c
def seenR (x : Rp) : Bool → List Rp → List Rp
 | b, [] => if b then [] else [x]
 | b, y :: r => (if b = false ∧ pC x ≤ pC y then [x] else []) ++ ((if pC y ≠ pC x then [y] else []) ++ seenR x (b || decide (pC x ≤ pC y)) r)
def dropsR : List Nd → List Int → List Nd × List Ch
 | l, [] => (l, [])
 | l, i :: r => ((dropsR (dropS l i) r).1, (goneN l i).map (fun p => ((3 : Int), p)) ++ (dropsR (dropS l i) r).2)
def rep (e : Int) (v : List UInt8) (n : Int) (ns : List ByteArray) : Rp := (0, 0, e, v, n, ns)
def noLease (r : Rm) (o : Or) : Bool := decide (oS o ≠ 0) && (decide (oS o < 0) || !hasSe (mS r) (oS o))
def doneR (r : Rm) (o : Or) : Rm × Rp × List Ch :=
 if oK o = 1 then
  if noLease r o = true then (r, rep 14 [] 0 [], [])
  else ((createS (mN r) (oP o) (oV o) (oS o), mT r, mS r, mW r, mL r), rep (createE (mN r) (oP o) (oV o) (oS o)) [] 0 [], if createE (mN r) (oP o) (oV o) (oS o) = 0 then [(1, oP o)] else [])
 else if oK o = 2 then (r, rep (getE (mN r) (oP o)) (nV (getS (mN r) (oP o))) (nR (getS (mN r) (oP o))) [], [])
 else if oK o = 3 then ((setS (mN r) (oP o) (oV o) (oR o), mT r, mS r, mW r, mL r),
  rep (setE (mN r) (oP o) (oV o) (oR o)) [] (if setE (mN r) (oP o) (oV o) (oR o) = 0 then nR (getS (setS (mN r) (oP o) (oV o) (oR o)) (oP o)) else 0) [], if setE (mN r) (oP o) (oV o) (oR o) = 0 then [(2, oP o)] else [])
 else if oK o = 4 then ((delS (mN r) (oP o) (oR o), mT r, mS r, mW r, mL r), rep (delE (mN r) (oP o) (oR o)) [] 0 [], if delE (mN r) (oP o) (oR o) = 0 then [(3, oP o)] else [])
 else if oK o = 5 then (r, rep (getE (mN r) (oP o)) [] 0 ((listS (mN r) (oP o)).map ba), [])
 else if oK o = 6 then ((mN r, mT r, openS (mT r) (mS r) (oS o) (oT o), mW r, mL r), rep (openE (mS r) (oS o) (oT o)) [] 0 [], [])
 else if oK o = 7 then ((mN r, mT r, touchS (mT r) (mS r) (oS o), mW r, mL r), rep (leaseE (mS r) (oS o)) [] 0 [], [])
 else if oK o = 8 then
  if leaseE (mS r) (oS o) = 0 then (((dropsR (mN r) [oS o]).1, mT r, closeS (mS r) (oS o), mW r, mL r), rep 0 [] 0 [], (dropsR (mN r) [oS o]).2)
  else ((mN r, mT r, closeS (mS r) (oS o), mW r, mL r), rep (leaseE (mS r) (oS o)) [] 0 [], [])
 else if oK o = 9 then
  if tickE (mT r) (oT o) = 0 then (((dropsR (mN r) (goneS (mT r) (mS r) (oT o))).1, tickT (mT r) (oT o), tickS (mT r) (mS r) (oT o), mW r, mL r), rep 0 [] (tickT (mT r) (oT o)) [], (dropsR (mN r) (goneS (mT r) (mS r) (oT o))).2)
  else ((mN r, tickT (mT r) (oT o), tickS (mT r) (mS r) (oT o), mW r, mL r), rep (tickE (mT r) (oT o)) [] 0 [], [])
 else if oK o = 10 ∨ oK o = 11 then ((mN r, mT r, mS r, addW (mW r) (oP o, oC o, decide (oK o = 11)), mL r), rep (addE (mW r) (oP o, oC o, decide (oK o = 11))) [] 0 [], [])
 else (r, rep 0 [] 0 [], [])
def noR (o : Or) (e : Int) : Rp := (oC o, oQ o, e, [], 0, [])
def ofR (o : Or) (x : Rp) : Rp := (oC o, oQ o, pE x, pV x, pR x, pN x)
def takenR (r : Rm) (o : Or) : Rm × Rp × List Ev :=
 ((mN (doneR r o).1, mT (doneR r o).1, mS (doneR r o).1, leftW (mW (doneR r o).1) (doneR r o).2.2, seenR (ofR o (doneR r o).2.1) false (mL r)), ofR o (doneR r o).2.1, fireW (mW (doneR r o).1) (doneR r o).2.2)
def applyR (r : Rm) (o : Or) : Rm × Rp × List Ev :=
 if mayO o = false then (r, noR o 1, [])
 else if (lastR (mL r) (oC o)).2 = true ∧ pQ (lastR (mL r) (oC o)).1 = oQ o then (r, (lastR (mL r) (oC o)).1, [])
 else if (lastR (mL r) (oC o)).2 = true ∧ oQ o < pQ (lastR (mL r) (oC o)).1 then (r, noR o 15, [])
 else if (lastR (mL r) (oC o)).2 = false ∧ 50 ≤ (mL r).length then (r, noR o 9, [])
 else takenR r o
def foldR : Rm → List Or → Rm × List Rp × List Ev
 | r, [] => (r, [], [])
 | r, o :: l => ((foldR (applyR r o).1 l).1, (applyR r o).2.1 :: (foldR (applyR r o).1 l).2.1, (applyR r o).2.2 ++ (foldR (applyR r o).1 l).2.2)
theorem foldR_append (r : Rm) (a b : List Or) : foldR r (a ++ b) = ((foldR (foldR r a).1 b).1, (foldR r a).2.1 ++ (foldR (foldR r a).1 b).2.1, (foldR r a).2.2 ++ (foldR (foldR r a).1 b).2.2) := by
 induction a generalizing r with
 | nil => rfl
 | cons o l ih => simp only [List.cons_append, foldR, ih, List.append_assoc]
theorem foldR_len (r : Rm) (a : List Or) : (foldR r a).2.1.length = a.length := by
 induction a generalizing r with
 | nil => rfl
 | cons o l ih => simp [foldR, ih]
theorem foldR_one (r : Rm) (o : Or) : foldR r [o] = ((applyR r o).1, [(applyR r o).2.1], (applyR r o).2.2) := by
 simp [foldR]
structure RightR (r : Rm) : Prop where
 n : RightP (mN r)
 b : RightB (mT r) (mS r)
 w : RightW (mW r)
 few : (mL r).length ≤ 50
 fine : ∀ x ∈ mL r, 0 ≤ pC x ∧ pC x ≤ 1000 ∧ 1 ≤ pQ x
 asc : (mL r).Pairwise fun x y => pC x < pC y
theorem lastR_mem : ∀ (l : List Rp) (c : Int), (lastR l c).2 = true → (lastR l c).1 ∈ l ∧ pC (lastR l c).1 = c
 | [], _, h => by cases h
 | x :: r, c, h => by
   unfold lastR at h ⊢
   by_cases hx : pC x = c
   ·rw [if_pos hx]
    exact ⟨by simp, hx⟩
   ·rw [if_neg hx] at h ⊢
    obtain ⟨h1, h2⟩ := lastR_mem r c h
    exact ⟨List.mem_cons_of_mem _ h1, h2⟩
theorem lastR_none : ∀ (l : List Rp) (c : Int), (lastR l c).2 = false ↔ ∀ x ∈ l, pC x ≠ c
 | [], _ => by simp [lastR]
 | x :: r, c => by
   unfold lastR
   by_cases hx : pC x = c
   ·rw [if_pos hx]
    simp [hx]
   ·rw [if_neg hx, lastR_none r c]
    simp [hx]
theorem seenR_mem (x : Rp) : ∀ (b : Bool) (l : List Rp) (y : Rp), y ∈ seenR x b l → y = x ∨ (y ∈ l ∧ pC y ≠ pC x)
 | b, [], y, h => by
   unfold seenR at h
   split at h
   ·cases h
   ·exact .inl (by simpa using h)
 | b, z :: r, y, h => by
   unfold seenR at h
   rcases List.mem_append.1 h with h | h
   ·split at h
    ·exact .inl (by simpa using h)
    ·cases h
   rcases List.mem_append.1 h with h | h
   ·split at h
    ·rename_i hz
     have : y = z := by simpa using h
     subst this
     exact .inr ⟨by simp, hz⟩
    ·cases h
   ·rcases seenR_mem x _ r y h with h | ⟨h, h2⟩
    ·exact .inl h
    ·exact .inr ⟨List.mem_cons_of_mem _ h, h2⟩
theorem seenR_done (x : Rp) : ∀ l : List Rp, seenR x true l = l.filter fun y => decide (pC y ≠ pC x)
 | [] => rfl
 | y :: r => by
   have ih := seenR_done x r
   unfold seenR
   rw [Bool.true_or, ih]
   by_cases h : pC y = pC x
   ·simp [h]
   ·simp [h]
theorem seenR_far (x : Rp) (l : List Rp) (h : ∀ y ∈ l, pC x < pC y) : seenR x false l = x :: l := by
 cases l with
 | nil => rfl
 | cons y r =>
   have hy := h y (by simp)
   unfold seenR
   rw [if_pos ⟨rfl, by omega⟩, if_pos (by omega), show (false || decide (pC x ≤ pC y)) = true by simp; omega, seenR_done]
   have : r.filter (fun z => decide (pC z ≠ pC x)) = r := by
    rw [List.filter_eq_self]
    intro z hz
    have := h z (by simp [hz])
    simp
    omega
   rw [this]
   rfl
theorem seenR_asc (x : Rp) : ∀ (l : List Rp), l.Pairwise (fun a b => pC a < pC b) → (seenR x false l).Pairwise (fun a b => pC a < pC b)
 | [], _ => by
   show [x].Pairwise _
   simp
 | y :: r, hp => by
   obtain ⟨h1, h2⟩ := List.pairwise_cons.1 hp
   rcases Int.lt_trichotomy (pC x) (pC y) with h | h | h
   ·rw [seenR_far x (y :: r) (fun z hz => by rcases List.mem_cons.1 hz with rfl | hz; exact h; exact Int.lt_trans h (h1 z hz))]
    refine List.pairwise_cons.2 ⟨fun z hz => ?_, hp⟩
    rcases List.mem_cons.1 hz with rfl | hz
    ·exact h
    ·exact Int.lt_trans h (h1 z hz)
   ·have hf : r.filter (fun z => decide (pC z ≠ pC x)) = r := by
     rw [List.filter_eq_self]
     intro z hz
     have := h1 z hz
     simp
     omega
    have e : seenR x false (y :: r) = x :: r := by
     unfold seenR
     rw [if_pos ⟨rfl, by omega⟩, if_neg (by simp [h]), show (false || decide (pC x ≤ pC y)) = true by simp; omega, seenR_done, hf]
     rfl
    rw [e]
    exact List.pairwise_cons.2 ⟨fun z hz => by have := h1 z hz; omega, h2⟩
   ·have e : seenR x false (y :: r) = y :: seenR x false r := by
     rw [seenR, if_neg (by omega), if_pos (by omega), show (false || decide (pC x ≤ pC y)) = false by simp; omega]
     rfl
    rw [e]
    refine List.pairwise_cons.2 ⟨fun z hz => ?_, seenR_asc x r h2⟩
    rcases seenR_mem x false r z hz with rfl | ⟨hz, _⟩
    ·exact h
    ·exact h1 z hz
theorem seenR_len (x : Rp) : ∀ (l : List Rp), l.Pairwise (fun a b => pC a < pC b) → (seenR x false l).length = if (lastR l (pC x)).2 = true then l.length else l.length + 1
 | [], _ => rfl
 | y :: r, hp => by
   obtain ⟨h1, h2⟩ := List.pairwise_cons.1 hp
   rcases Int.lt_trichotomy (pC x) (pC y) with h | h | h
   ·have hn : (lastR (y :: r) (pC x)).2 = false := (lastR_none _ _).2 (fun z hz => by
     rcases List.mem_cons.1 hz with rfl | hz
     ·omega
     ·have := h1 z hz
      omega)
    rw [seenR_far x (y :: r) (fun z hz => by rcases List.mem_cons.1 hz with rfl | hz; exact h; exact Int.lt_trans h (h1 z hz)), hn]
    rfl
   ·have hf : r.filter (fun z => decide (pC z ≠ pC x)) = r := by
     rw [List.filter_eq_self]
     intro z hz
     have := h1 z hz
     simp
     omega
    have e : seenR x false (y :: r) = x :: r := by
     unfold seenR
     rw [if_pos ⟨rfl, by omega⟩, if_neg (by simp [h]), show (false || decide (pC x ≤ pC y)) = true by simp; omega, seenR_done, hf]
     rfl
    rw [e, lastR, if_pos h.symm]
    rfl
   ·have e : seenR x false (y :: r) = y :: seenR x false r := by
     rw [seenR, if_neg (by omega), if_pos (by omega), show (false || decide (pC x ≤ pC y)) = false by simp; omega]
     rfl
    rw [e, lastR, if_neg (show ¬ pC y = pC x by omega), List.length_cons, seenR_len x r h2, List.length_cons]
    split <;> rfl
theorem dropsR_right : ∀ (ids : List Int) (l : List Nd), RightP l → RightP (dropsR l ids).1
 | [], _, h => h
 | i :: r, l, h => dropsR_right r (dropS l i) (right_drop l i h).1
theorem right_done (r : Rm) (o : Or) (h : RightR r) : RightP (mN (doneR r o).1) ∧ RightB (mT (doneR r o).1) (mS (doneR r o).1) ∧ RightW (mW (doneR r o).1) ∧ mL (doneR r o).1 = mL r := by
 have key : ∀ x, doneR r o = x → RightP (mN x.1) ∧ RightB (mT x.1) (mS x.1) ∧ RightW (mW x.1) ∧ mL x.1 = mL r := by
  intro x hx
  unfold doneR at hx
  by_cases k : oK o = 1
  ·rw [if_pos k] at hx
   by_cases k2 : noLease r o = true
   ·rw [if_pos k2] at hx
    subst hx
    exact ⟨by first | exact h.n | exact (right_create _ _ _ _ h.n).1 | exact (right_set _ _ _ _ h.n).1 | exact (right_del _ _ _ h.n).1 | exact dropsR_right _ _ h.n, by first | exact h.b | exact right_open _ _ _ _ h.b | exact right_touch _ _ _ h.b | exact right_close _ _ _ h.b | exact right_tick _ _ _ h.b, by first | exact h.w | exact right_add _ _ h.w, rfl⟩
   ·rw [if_neg k2] at hx
    subst hx
    exact ⟨by first | exact h.n | exact (right_create _ _ _ _ h.n).1 | exact (right_set _ _ _ _ h.n).1 | exact (right_del _ _ _ h.n).1 | exact dropsR_right _ _ h.n, by first | exact h.b | exact right_open _ _ _ _ h.b | exact right_touch _ _ _ h.b | exact right_close _ _ _ h.b | exact right_tick _ _ _ h.b, by first | exact h.w | exact right_add _ _ h.w, rfl⟩
  rw [if_neg k] at hx
  clear k
  by_cases k : oK o = 2
  ·rw [if_pos k] at hx
   subst hx
   exact ⟨by first | exact h.n | exact (right_create _ _ _ _ h.n).1 | exact (right_set _ _ _ _ h.n).1 | exact (right_del _ _ _ h.n).1 | exact dropsR_right _ _ h.n, by first | exact h.b | exact right_open _ _ _ _ h.b | exact right_touch _ _ _ h.b | exact right_close _ _ _ h.b | exact right_tick _ _ _ h.b, by first | exact h.w | exact right_add _ _ h.w, rfl⟩
  rw [if_neg k] at hx
  clear k
  by_cases k : oK o = 3
  ·rw [if_pos k] at hx
   subst hx
   exact ⟨by first | exact h.n | exact (right_create _ _ _ _ h.n).1 | exact (right_set _ _ _ _ h.n).1 | exact (right_del _ _ _ h.n).1 | exact dropsR_right _ _ h.n, by first | exact h.b | exact right_open _ _ _ _ h.b | exact right_touch _ _ _ h.b | exact right_close _ _ _ h.b | exact right_tick _ _ _ h.b, by first | exact h.w | exact right_add _ _ h.w, rfl⟩
  rw [if_neg k] at hx
  clear k
  by_cases k : oK o = 4
  ·rw [if_pos k] at hx
   subst hx
   exact ⟨by first | exact h.n | exact (right_create _ _ _ _ h.n).1 | exact (right_set _ _ _ _ h.n).1 | exact (right_del _ _ _ h.n).1 | exact dropsR_right _ _ h.n, by first | exact h.b | exact right_open _ _ _ _ h.b | exact right_touch _ _ _ h.b | exact right_close _ _ _ h.b | exact right_tick _ _ _ h.b, by first | exact h.w | exact right_add _ _ h.w, rfl⟩
  rw [if_neg k] at hx
  clear k
  by_cases k : oK o = 5
  ·rw [if_pos k] at hx
   subst hx
   exact ⟨by first | exact h.n | exact (right_create _ _ _ _ h.n).1 | exact (right_set _ _ _ _ h.n).1 | exact (right_del _ _ _ h.n).1 | exact dropsR_right _ _ h.n, by first | exact h.b | exact right_open _ _ _ _ h.b | exact right_touch _ _ _ h.b | exact right_close _ _ _ h.b | exact right_tick _ _ _ h.b, by first | exact h.w | exact right_add _ _ h.w, rfl⟩
  rw [if_neg k] at hx
  clear k
  by_cases k : oK o = 6
  ·rw [if_pos k] at hx
   subst hx
   exact ⟨by first | exact h.n | exact (right_create _ _ _ _ h.n).1 | exact (right_set _ _ _ _ h.n).1 | exact (right_del _ _ _ h.n).1 | exact dropsR_right _ _ h.n, by first | exact h.b | exact right_open _ _ _ _ h.b | exact right_touch _ _ _ h.b | exact right_close _ _ _ h.b | exact right_tick _ _ _ h.b, by first | exact h.w | exact right_add _ _ h.w, rfl⟩
  rw [if_neg k] at hx
  clear k
  by_cases k : oK o = 7
  ·rw [if_pos k] at hx
   subst hx
   exact ⟨by first | exact h.n | exact (right_create _ _ _ _ h.n).1 | exact (right_set _ _ _ _ h.n).1 | exact (right_del _ _ _ h.n).1 | exact dropsR_right _ _ h.n, by first | exact h.b | exact right_open _ _ _ _ h.b | exact right_touch _ _ _ h.b | exact right_close _ _ _ h.b | exact right_tick _ _ _ h.b, by first | exact h.w | exact right_add _ _ h.w, rfl⟩
  rw [if_neg k] at hx
  clear k
  by_cases k : oK o = 8
  ·rw [if_pos k] at hx
   by_cases k2 : leaseE (mS r) (oS o) = 0
   ·rw [if_pos k2] at hx
    subst hx
    exact ⟨by first | exact h.n | exact (right_create _ _ _ _ h.n).1 | exact (right_set _ _ _ _ h.n).1 | exact (right_del _ _ _ h.n).1 | exact dropsR_right _ _ h.n, by first | exact h.b | exact right_open _ _ _ _ h.b | exact right_touch _ _ _ h.b | exact right_close _ _ _ h.b | exact right_tick _ _ _ h.b, by first | exact h.w | exact right_add _ _ h.w, rfl⟩
   ·rw [if_neg k2] at hx
    subst hx
    exact ⟨by first | exact h.n | exact (right_create _ _ _ _ h.n).1 | exact (right_set _ _ _ _ h.n).1 | exact (right_del _ _ _ h.n).1 | exact dropsR_right _ _ h.n, by first | exact h.b | exact right_open _ _ _ _ h.b | exact right_touch _ _ _ h.b | exact right_close _ _ _ h.b | exact right_tick _ _ _ h.b, by first | exact h.w | exact right_add _ _ h.w, rfl⟩
  rw [if_neg k] at hx
  clear k
  by_cases k : oK o = 9
  ·rw [if_pos k] at hx
   by_cases k2 : tickE (mT r) (oT o) = 0
   ·rw [if_pos k2] at hx
    subst hx
    exact ⟨by first | exact h.n | exact (right_create _ _ _ _ h.n).1 | exact (right_set _ _ _ _ h.n).1 | exact (right_del _ _ _ h.n).1 | exact dropsR_right _ _ h.n, by first | exact h.b | exact right_open _ _ _ _ h.b | exact right_touch _ _ _ h.b | exact right_close _ _ _ h.b | exact right_tick _ _ _ h.b, by first | exact h.w | exact right_add _ _ h.w, rfl⟩
   ·rw [if_neg k2] at hx
    subst hx
    exact ⟨by first | exact h.n | exact (right_create _ _ _ _ h.n).1 | exact (right_set _ _ _ _ h.n).1 | exact (right_del _ _ _ h.n).1 | exact dropsR_right _ _ h.n, by first | exact h.b | exact right_open _ _ _ _ h.b | exact right_touch _ _ _ h.b | exact right_close _ _ _ h.b | exact right_tick _ _ _ h.b, by first | exact h.w | exact right_add _ _ h.w, rfl⟩
  rw [if_neg k] at hx
  clear k
  by_cases k : oK o = 10 ∨ oK o = 11
  ·rw [if_pos k] at hx
   subst hx
   exact ⟨by first | exact h.n | exact (right_create _ _ _ _ h.n).1 | exact (right_set _ _ _ _ h.n).1 | exact (right_del _ _ _ h.n).1 | exact dropsR_right _ _ h.n, by first | exact h.b | exact right_open _ _ _ _ h.b | exact right_touch _ _ _ h.b | exact right_close _ _ _ h.b | exact right_tick _ _ _ h.b, by first | exact h.w | exact right_add _ _ h.w, rfl⟩
  rw [if_neg k] at hx
  clear k
  subst hx
  exact ⟨by first | exact h.n | exact (right_create _ _ _ _ h.n).1 | exact (right_set _ _ _ _ h.n).1 | exact (right_del _ _ _ h.n).1 | exact dropsR_right _ _ h.n, by first | exact h.b | exact right_open _ _ _ _ h.b | exact right_touch _ _ _ h.b | exact right_close _ _ _ h.b | exact right_tick _ _ _ h.b, by first | exact h.w | exact right_add _ _ h.w, rfl⟩
 exact key _ rfl
theorem right_apply (r : Rm) (o : Or) (h : RightR r) : RightR (applyR r o).1 := by
 unfold applyR
 split
 ·exact h
 rename_i h1
 split
 ·exact h
 split
 ·exact h
 split
 ·exact h
 rename_i h4
 obtain ⟨m1, m2, m3, _⟩ := may_sized (o := o) (by simpa using h1)
 obtain ⟨d1, d2, d3, d4⟩ := right_done r o h
 refine ⟨d1, d2, right_left _ _ d3, ?_, ?_, seenR_asc _ _ h.asc⟩
 ·show (seenR _ _ _).length ≤ 50
  rw [seenR_len _ _ h.asc]
  have e : pC (ofR o (doneR r o).2.1) = oC o := rfl
  rw [e]
  have hf := h.few
  split
  ·exact hf
  ·rename_i h5
   have : ¬ 50 ≤ (mL r).length := fun h6 => h4 ⟨by simpa using h5, h6⟩
   omega
 ·intro x hx
  rcases seenR_mem _ _ _ x hx with rfl | ⟨hx, _⟩
  ·exact ⟨m1, m2, m3⟩
  ·exact h.fine x hx
theorem right_fold (l : List Or) : ∀ r : Rm, RightR r → RightR (foldR r l).1 := by
 induction l with
 | nil => exact fun _ h => h
 | cons o l ih => exact fun r h => ih _ (right_apply r o h)
def wac (x : Wa) : List Value := [txt (wP x), .int .i64 (wC x), .bool (wK x)]
theorem wac_one (x : Wa) : ∀ u ∈ wac x, u.oneCell' = true := by
 intro u hu
 unfold wac at hu
 simp only [List.mem_cons, List.not_mem_nil, or_false] at hu
 rcases hu with rfl | rfl | rfl <;> rfl
def WaK : RowK Wa := { enc := wac, k := 3, d := wa0, len := fun _ => rfl, one := wac_one, pos := by decide }
theorem wac_all (x : Wa) : (wac x).toArray.all (·.oneCell') = true := enc_all WaK x
theorem RdE.atWa {B : Nat} {w : World} {A : Option Addr} {n c : Nat} {l : List Wa} (h : RdE WaK B w (.slice A n c) l) (j : Nat) (hj : j < l.length) :
 ∃ a, A = some a ∧ w.cell? (a.add (j * 3)) = some (txt (wP (l.getD j wa0))) ∧ w.cell? ⟨(a.add (j * 3)).block, (a.add (j * 3)).off + 1, none⟩ = some (.int .i64 (wC (l.getD j wa0))) ∧ w.cell? ⟨(a.add (j * 3)).block, (a.add (j * 3)).off + 2, none⟩ = some (.bool (wK (l.getD j wa0))) := by
 obtain ⟨a, ha, hc⟩ := h.cells j hj
 exact ⟨a, ha, hc 0 (by decide), hc 1 (by decide), hc 2 (by decide)⟩
theorem szWaP : (Tryz.prog.info? 163).map (·.size) = some 3 := by kernel_rfl
theorem zeroWaP : (Tryz.prog.info? 163).map (·.zero) = some (some (.agg (wac wa0).toArray)) := by kernel_rfl
def chc (x : Ch) : List Value := [.int .i64 (cK x), txt (cP x)]
theorem chc_one (x : Ch) : ∀ u ∈ chc x, u.oneCell' = true := by
 intro u hu
 unfold chc at hu
 simp only [List.mem_cons, List.not_mem_nil, or_false] at hu
 rcases hu with rfl | rfl <;> rfl
def ChK : RowK Ch := { enc := chc, k := 2, d := ch0, len := fun _ => rfl, one := chc_one, pos := by decide }
theorem chc_all (x : Ch) : (chc x).toArray.all (·.oneCell') = true := enc_all ChK x
theorem RdE.atCh {B : Nat} {w : World} {A : Option Addr} {n c : Nat} {l : List Ch} (h : RdE ChK B w (.slice A n c) l) (j : Nat) (hj : j < l.length) :
 ∃ a, A = some a ∧ w.cell? (a.add (j * 2)) = some (.int .i64 (cK (l.getD j ch0))) ∧ w.cell? ⟨(a.add (j * 2)).block, (a.add (j * 2)).off + 1, none⟩ = some (txt (cP (l.getD j ch0))) := by
 obtain ⟨a, ha, hc⟩ := h.cells j hj
 exact ⟨a, ha, hc 0 (by decide), hc 1 (by decide)⟩
theorem szChP : (Tryz.prog.info? 235).map (·.size) = some 2 := by kernel_rfl
theorem zeroChP : (Tryz.prog.info? 235).map (·.zero) = some (some (.agg (chc ch0).toArray)) := by kernel_rfl
theorem kindChP : KindOf Tryz.prog 235 ChK 24 := kind_of (z := .agg (chc ch0).toArray) (by kernel_rfl) rfl
def evc (x : Ev) : List Value := [txt (wP x.1), .int .i64 (wC x.1), .bool (wK x.1), .int .i64 (cK x.2), txt (cP x.2)]
theorem evc_one (x : Ev) : ∀ u ∈ evc x, u.oneCell' = true := by
 intro u hu
 unfold evc at hu
 simp only [List.mem_cons, List.not_mem_nil, or_false] at hu
 rcases hu with rfl | rfl | rfl | rfl | rfl <;> rfl
def EvK : RowK Ev := { enc := evc, k := 5, d := ev0, len := fun _ => rfl, one := evc_one, pos := by decide }
theorem kindEvP : KindOf Tryz.prog 239 EvK 56 := kind_of (z := .agg (evc ev0).toArray) (by kernel_rfl) rfl
end Go.Proofs.YtgfobinklijkpaaGreatDoor
