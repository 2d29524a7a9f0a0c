/-
  Texts Q6 YL YO YP H0 H1.
-/
import Derived.Test.YtgfobinklijkpaaGreatDoorX01
import Derived.Test.YtgfobinklijkpaaGreatDoorX18
namespace Go.Proofs.YtgfobinklijkpaaGreatDoor
set_option maxRecDepth 100000
set_option maxHeartbeats 16000000
open Go.RowKit
def cmpB (x y : List UInt8) : Int := if lessB x y = true then -1 else if lessB y x = true then 1 else 0
theorem cmpB_same (x : List UInt8) : cmpB x x = 0 := by
 unfold cmpB
 rw [lessB_irrefl]; rfl
theorem cmpB_ne (x y : List UInt8) (h : x ≠ y) : (lessB x y = true ∧ cmpB x y = -1) ∨ (lessB x y = false ∧ lessB y x = true ∧ cmpB x y = 1) := by
 have h1 := lessB_or x y h
 unfold cmpB
 cases h2 : lessB x y
 ·right
  rw [h2] at h1
  have h3 : lessB y x = true := by cases h4 : lessB y x <;> simp_all
  simp [h3]
 ·left; simp
theorem cmp_any (x y : List UInt8) (w : World) : Calls Tryz.prog 265 #[txt x, txt y] w fun e w' => e = .returned (.int .i64 (cmpB x y)) ∧ w' = w := by
 go_enter Tryz.func265, Tryz.ntmps265
 have HL := lhd (lessB_eq x y)
 go_wp2
 ·rename_i h
  rw [← HL.out] at h
  have HC : Hid (cmpB x y = -1) := by
   show _ = _
   unfold cmpB
   rw [h]; rfl
  go_ret
  exact ⟨by rw [HC.out]; rfl, rfl⟩
 ·rename_i h2 _ _ h
  rw [← HL.out] at h2
  have hne : x ≠ y := by simpa using h
  have HC : Hid (cmpB x y = 1) := by
   show _ = _
   rcases cmpB_ne x y hne with ⟨h3, _⟩ | ⟨_, _, h3⟩
   ·rw [h2] at h3; cases h3
   ·exact h3
  go_ret
  exact ⟨by rw [HC.out]; rfl, rfl⟩
 ·rename_i h
  have he : x = y := by simpa using h
  have HC : Hid (cmpB x y = 0) := by
   show _ = _
   rw [he, cmpB_same]
  go_ret
  exact ⟨by rw [HC.out]; rfl, rfl⟩
theorem compare_any (a b : List (List UInt8)) (v1 v2 : Value) (w : World) (hr1 : RdS w.heap.size w v1 (bas a)) (hr2 : RdS w.heap.size w v2 (bas b)) :
 Calls Tryz.prog 255 #[v1, v2] w fun e w' => ∃ r : Int, e = .returned (.int .i64 r) ∧ decide (r < 0) = aheadL a b ∧ w' = w := by
 obtain ⟨A, cp, rfl, hc, hm⟩ := hr1.shape
 obtain ⟨A2, cp2, rfl, hc2, hm3⟩ := hr2.shape
 unfold maxLen at hm hm3
 rw [bas_length] at hc hr1 hc2 hr2 ⊢
 rw [bas_length]
 obtain ⟨m, hm2⟩ : ∃ m, a.length = m := ⟨_, rfl⟩
 obtain ⟨n, hn2⟩ : ∃ n, b.length = n := ⟨_, rfl⟩
 have HM := lhd hm2
 have HNN := lhd hn2
 rw [hm2] at hc hr1 ⊢
 rw [hn2] at hc2 hr2 ⊢
 have HR1 := lhd hr1
 have HR2 := lhd hr2
 clear hm2 hn2 hr1 hr2
 go_enter Tryz.func255, Tryz.ntmps255
 go_wp2
 go_loop [11] (fun vi => ∃ i : Nat, i ≤ m ∧ i ≤ n ∧ vi = .int .i64 (i : Int) ∧ Hid (∀ j, j < i → a.getD j [] = b.getD j [])) (fun vi => m - (intOf vi).toNat)
 case atStart => exact ⟨0, by omega, by omega, rfl, fun j hj => by omega⟩
 case round =>
  obtain ⟨i, hi, hin, rfl, HA⟩ := hrel
  by_cases hi2 : i < m
  ·have zj : (i : Int) < (m : Int) := by omega
   obtain ⟨a1, hA1, ca⟩ := HR1.out.at_ i (by rw [bas_length, HM.out]; exact hi2)
   subst hA1
   obtain ⟨x, hx⟩ : ∃ x, a.getD i [] = x := ⟨_, rfl⟩
   rw [bas_at a i (by rw [HM.out]; exact hi2) x hx] at ca
   by_cases hi3 : i < n
   ·have zk : (i : Int) < (n : Int) := by omega
    obtain ⟨a2, hA2, cb⟩ := HR2.out.at_ i (by rw [bas_length, HNN.out]; exact hi3)
    subst hA2
    obtain ⟨y, hy⟩ : ∃ y, b.getD i [] = y := ⟨_, rfl⟩
    rw [bas_at b i (by rw [HNN.out]; exact hi3) y hy] at cb
    have HX := lhd hx
    have HY := lhd hy
    clear hx hy
    go_wp2_with fail
    refine (cmp_any x y w).mono ?_
    rintro e w' ⟨rfl, rfl⟩
    by_cases hxy : x = y
    ·have hc0 := cmpB_same y
     rw [hxy, hc0]
     have HA2 : Hid (∀ j, j < i + 1 → a.getD j [] = b.getD j []) := by
      intro j hj
      by_cases h : j < i
      ·exact HA.out j h
      ·have : j = i := by omega
       subst this
       rw [HX.out, HY.out, hxy]
     clear hxy hc0
     go_wp2
     go_round
     case rel => exact ⟨i + 1, by omega, by omega, by go_num, HA2⟩
     case measure => simp [intOf]; omega
    ·have HL := lhd (aheadL_diff a b i (by rw [HM.out]; exact hi2) (by rw [HNN.out]; exact hi3) HA.out (by rw [HX.out, HY.out]; exact hxy))
     rw [HX.out, HY.out] at HL
     rcases cmpB_ne x y hxy with ⟨h1, h2⟩ | ⟨h1, _, h2⟩
     ·rw [h2]
      have H1 := lhd h1
      clear hxy h1 h2
      go_wp2
      go_ret
      exact ⟨-1, rfl, by rw [HL.out, H1.out]; rfl, rfl⟩
     ·rw [h2]
      have H1 := lhd h1
      clear hxy h1 h2
      go_wp2
      go_ret
      exact ⟨1, rfl, by rw [HL.out, H1.out]; rfl, rfl⟩
   ·have hE : i = n := by omega
    subst hE
    have HL := lhd (aheadL_end a b (fun j h1 h2 => HA.out j (by rw [HNN.out] at h2; exact h2)))
    rw [HM.out, HNN.out] at HL
    have zk : ¬ ((i : Int) < (i : Int)) := by omega
    go_wp2
    go_ret
    refine ⟨1, rfl, ?_, rfl⟩
    rw [HL.out]
    simp
    omega
  ·have hE : i = m := by omega
   subst hE
   have HL := lhd (aheadL_end a b (fun j h1 h2 => HA.out j (by rw [HM.out] at h1; exact h1)))
   rw [HM.out, HNN.out] at HL
   by_cases hmn : i < n
   ·have zk : (i : Int) < (n : Int) := by omega
    go_wp2
    go_ret
    refine ⟨-1, rfl, ?_, rfl⟩
    rw [HL.out]
    simp
    omega
   ·have zk : ¬ ((i : Int) < (n : Int)) := by omega
    go_wp2
    go_ret
    refine ⟨0, rfl, ?_, rfl⟩
    rw [HL.out]
    simp
    omega
theorem pxAhead_any (p q : List UInt8) (w : World) : Calls Tryz.prog 237 #[txt p, txt q] w (One (.bool (aheadB p q)) w) := by
 go_enter Tryz.func237, Tryz.ntmps237
 go_wp2_with fail
 refine (pxNames_any p w).mono ?_
 rintro e w1 ⟨v, rfl, ho, hb⟩
 have hs1 := hb.size
 have HB := lhd hb
 have HO := lhd ho
 clear hb ho
 rcases namesE_or p with ⟨h1, h2, h3⟩ | ⟨h1, h2, h3⟩
 ·rw [h3] at HO
  rw [h2]
  have HR := lhd h1
  clear h1 h2 h3
  go_wp2_with fail
  refine (pxNames_any q w1).mono ?_
  rintro e w2 ⟨v2, rfl, ho, hb⟩
  have HB2 := lhd (HB.out.trans (hb.mono hs1))
  have HO1 := lhd (HO.out.below hb (Nat.le_refl _))
  have HO2 := lhd ho
  clear hb ho HO
  rcases namesE_or q with ⟨h4, h5, h6⟩ | ⟨h4, h5, h6⟩
  ·rw [h6] at HO2
   rw [h5]
   have HF := lhd (aheadB_yes p q HR.out h4)
   have HC := lhd (compare_any (cutL p) (cutL q) v v2 w2 HO1.out.rd HO2.out.rd)
   clear h4 h5 h6
   go_wp2_with fail
   refine HC.out.mono ?_
   rintro e w' ⟨r, rfl, hr, rfl⟩
   rw [← HF.out] at hr
   clear HC
   have HH := lhd hr
   clear hr
   go_wp2
   go_ret
   exact ⟨by rw [← HH.out]; rfl, HB2.out⟩
  ·rw [h5]
   have HF := lhd (aheadB_not p q (by rw [h4]; simp))
   clear h4 h5 h6
   go_wp2
   go_ret
   exact ⟨by rw [HF.out]; rfl, HB2.out⟩
 ·rw [h2]
  have HF := lhd (aheadB_not p q (by rw [h1]; rfl))
  clear h1 h2 h3
  go_wp2
  go_ret
  exact ⟨by rw [HF.out]; rfl, HB.out⟩
theorem ahead_or (p q : List UInt8) (hp : rightB p = true) (hq : rightB q = true) (h : p ≠ q) : aheadB q p = !aheadB p q := by
 rw [aheadB_yes p q hp hq, aheadB_yes q p hq hp]
 exact aheadL_or _ _ (fun e => h (cut_inj p q (right_slash p hp) (right_slash q hq) e.symm))
theorem nameB_parts (x : List UInt8) (h : nameB x = true) : x.all chrB = true ∧ x ≠ [] := by
 unfold nameB at h
 simp only [Bool.and_eq_true, decide_eq_true_eq] at h
 refine ⟨h.1.1, ?_⟩
 rintro rfl
 simp at h
theorem slash_made (l : List (List UInt8)) : slashB (madeL l) = true := by
 unfold madeL
 cases l with
 | nil => rfl
 | cons x l => rw [joinL_cons]; rfl
theorem made_len (l : List (List UInt8)) (h : (joinL l).length ≤ 100) : (madeL l).length ≤ 100 := by
 unfold madeL
 split
 ·decide
 ·exact h
theorem cut_made (l : List (List UInt8)) (h : l.all nameB = true) : cutL (madeL l) = l := by
 rw [List.all_eq_true] at h
 exact cutL_made l (fun y hy => (nameB_parts y (h y hy)).1) (fun y hy => (nameB_parts y (h y hy)).2)
theorem right_made (l : List (List UInt8)) (h : l.all nameB = true) (h8 : l.length ≤ 8) (h100 : (joinL l).length ≤ 100) : rightB (madeL l) = true := by
 unfold rightB
 rw [cut_made l h, h, slash_made]
 have h1 := made_len l h100
 simp [h1, h8]
theorem all_take (l : List (List UInt8)) (k : Nat) (h : l.all nameB = true) : (l.take k).all nameB = true := by
 rw [List.all_eq_true] at *
 exact fun x hx => h x (List.mem_of_mem_take hx)
abbrev Nd := List UInt8 × List UInt8 × Int × Int
abbrev nP (x : Nd) : List UInt8 := x.1
abbrev nV (x : Nd) : List UInt8 := x.2.1
abbrev nR (x : Nd) : Int := x.2.2.1
abbrev nO (x : Nd) : Int := x.2.2.2
def nd0 : Nd := ([], [], 0, 0)
def placeN : List Nd → List UInt8 → Nat
 | [], _ => 0
 | x :: r, p => if nP x = p then 0 else placeN r p + 1
def hasN (l : List Nd) (p : List UInt8) : Bool := decide (placeN l p < l.length)
def nodeN (l : List Nd) (p : List UInt8) : Nd := l.getD (placeN l p) nd0
def fineN (x : Nd) : Bool := rightB (nP x) && decide ((nV x).length ≤ 1000) && decide (0 ≤ nR x) && decide (nR x ≤ 1000000000) && decide (0 ≤ nO x)
def upN (l : List Nd) (x : Nd) : Bool := if parentE (nP x) = 0 then hasN l (parentS (nP x)) && decide (nO (nodeN l (parentS (nP x))) = 0) else decide (nO x = 0)
def okN (l : List Nd) (i : Nat) : Bool := fineN (l.getD i nd0) && (decide (i = 0) || aheadB (nP (l.getD (i - 1) nd0)) (nP (l.getD i nd0))) && upN l (l.getD i nd0)
def rightN (l : List Nd) : Bool := decide (1 ≤ l.length) && decide (l.length ≤ 200) && (List.range l.length).all (okN l) && decide (placeN l [47] = 0)
theorem placeN_at : ∀ (l : List Nd) (p : List UInt8), placeN l p < l.length → nP (nodeN l p) = p ∧ nodeN l p ∈ l
 | [], _, h => by simp [placeN] at h
 | x :: r, p, h => by
   unfold placeN at h
   unfold nodeN placeN
   by_cases hx : nP x = p
   ·rw [if_pos hx]
    exact ⟨hx, by simp⟩
   ·rw [if_neg hx] at h
    rw [if_neg hx]
    have := placeN_at r p (by simpa using h)
    exact ⟨this.1, List.mem_cons_of_mem _ this.2⟩
theorem hasN_iff (l : List Nd) (p : List UInt8) : hasN l p = true ↔ ∃ x ∈ l, nP x = p := by
 unfold hasN
 rw [decide_eq_true_eq]
 constructor
 ·intro h
  exact ⟨nodeN l p, (placeN_at l p h).2, (placeN_at l p h).1⟩
 ·rintro ⟨x, hx, hp⟩
  induction l with
  | nil => simp at hx
  | cons y r ih =>
    unfold placeN
    split
    ·simp
    ·rename_i h
     rcases List.mem_cons.1 hx with rfl | hx
     ·exact absurd hp h
     ·have := ih hx
      simpa using this
theorem hasN_not (l : List Nd) (p : List UInt8) (h : hasN l p = false) : ∀ x ∈ l, nP x ≠ p := by
 intro x hx hp
 have := (hasN_iff l p).2 ⟨x, hx, hp⟩
 rw [h] at this
 cases this
theorem hasN_node (l : List Nd) (p : List UInt8) (h : hasN l p = true) : nP (nodeN l p) = p ∧ nodeN l p ∈ l := by
 unfold hasN at h
 rw [decide_eq_true_eq] at h
 exact placeN_at l p h
theorem placeN_here (l : List Nd) (p : List UInt8) (i : Nat) (hi : i < l.length) (h : nP (l.getD i nd0) = p) (hf : ∀ j, j < i → nP (l.getD j nd0) ≠ p) : placeN l p = i := by
 induction l generalizing i with
 | nil => simp at hi
 | cons x r ih =>
   unfold placeN
   cases i with
   | zero =>
     have : nP x = p := by simpa using h
     rw [if_pos this]
   | succ i =>
     have h0 : nP x ≠ p := by simpa using hf 0 (by omega)
     rw [if_neg h0, ih i (by simpa using hi) (by simpa using h) (fun j hj => by simpa using hf (j + 1) (by omega))]
def inOrder (l : List Nd) : Prop := l.Pairwise fun x y => aheadB (nP x) (nP y) = true
theorem ahead_irr (p : List UInt8) : aheadB p p = false := by unfold aheadB; rw [aheadL_irrefl]; simp
theorem ahead_tr (p q r : List UInt8) (h : aheadB p q = true) (h2 : aheadB q r = true) : aheadB p r = true := by
 unfold aheadB at *
 simp only [Bool.and_eq_true] at *
 exact ⟨⟨h.1.1, h2.1.2⟩, aheadL_trans _ _ _ h.2 h2.2⟩
theorem ahead_else (p q : List UInt8) (hp : rightB p = true) (hq : rightB q = true) (h : p ≠ q) (h2 : aheadB p q = false) : aheadB q p = true := by
 rw [ahead_or p q hp hq h, h2]; rfl
theorem inOrder_steps : ∀ (l : List Nd), (∀ i, i + 1 < l.length → aheadB (nP (l.getD i nd0)) (nP (l.getD (i + 1) nd0)) = true) → inOrder l
 | [], _ => List.Pairwise.nil
 | [x], _ => by unfold inOrder; simp
 | x :: y :: r, h => by
   have ih := inOrder_steps (y :: r) (fun i hi => by simpa using h (i + 1) (by simpa using hi))
   unfold inOrder at *
   have hxy : aheadB (nP x) (nP y) = true := by simpa using h 0 (by simp)
   refine List.Pairwise.cons ?_ ih
   intro z hz
   rcases List.mem_cons.1 hz with rfl | hz
   ·exact hxy
   ·exact ahead_tr _ _ _ hxy ((List.pairwise_cons.1 ih).1 z hz)
theorem inOrder_at (l : List Nd) (h : inOrder l) (i j : Nat) (hij : i < j) (hj : j < l.length) : aheadB (nP (l.getD i nd0)) (nP (l.getD j nd0)) = true := by
 have := List.pairwise_iff_getElem.1 h i j (by omega) hj hij
 rw [List.getD_eq_getElem?_getD, List.getD_eq_getElem?_getD, List.getElem?_eq_getElem hj, List.getElem?_eq_getElem (by omega)]
 exact this
theorem inOrder_same (l : List Nd) (h : inOrder l) (x y : Nd) (hx : x ∈ l) (hy : y ∈ l) (hp : nP x = nP y) : x = y := by
 obtain ⟨i, hi, rfl⟩ := List.getElem_of_mem hx
 obtain ⟨j, hj, rfl⟩ := List.getElem_of_mem hy
 rcases Nat.lt_trichotomy i j with h1 | h1 | h1
 ·have := List.pairwise_iff_getElem.1 h i j hi hj h1
  rw [hp, ahead_irr] at this; cases this
 ·subst h1; rfl
 ·have := List.pairwise_iff_getElem.1 h j i hj hi h1
  rw [hp, ahead_irr] at this; cases this
theorem nodeN_mem (l : List Nd) (h : inOrder l) (x : Nd) (hx : x ∈ l) : hasN l (nP x) = true ∧ nodeN l (nP x) = x := by
 have h1 := (hasN_iff l (nP x)).2 ⟨x, hx, rfl⟩
 have h2 := hasN_node l (nP x) h1
 exact ⟨h1, inOrder_same l h _ _ h2.2 hx h2.1⟩
structure RightP (l : List Nd) : Prop where
 some : l ≠ []
 few : l.length ≤ 200
 fine : ∀ x ∈ l, fineN x = true
 order : inOrder l
 up : ∀ x ∈ l, upN l x = true
 root : nP (l.getD 0 nd0) = [47]
theorem rightN_iff (l : List Nd) : rightN l = true ↔ RightP l := by
 unfold rightN
 simp only [Bool.and_eq_true, decide_eq_true_eq, List.all_eq_true, List.mem_range]
 constructor
 ·rintro ⟨⟨⟨h1, h2⟩, h3⟩, h4⟩
  have hk : ∀ i, i < l.length → fineN (l.getD i nd0) = true ∧ (i = 0 ∨ aheadB (nP (l.getD (i - 1) nd0)) (nP (l.getD i nd0)) = true) ∧ upN l (l.getD i nd0) = true := by
   intro i hi
   have := h3 i hi
   unfold okN at this
   simp only [Bool.and_eq_true, Bool.or_eq_true, decide_eq_true_eq] at this
   exact ⟨this.1.1, this.1.2, this.2⟩
  have hm : ∀ x ∈ l, ∃ i, i < l.length ∧ l.getD i nd0 = x := by
   intro x hx
   obtain ⟨i, hi, rfl⟩ := List.getElem_of_mem hx
   exact ⟨i, hi, by rw [List.getD_eq_getElem?_getD, List.getElem?_eq_getElem hi]; rfl⟩
  refine ⟨by rintro rfl; simp at h1, h2, ?_, ?_, ?_, ?_⟩
  ·intro x hx
   obtain ⟨i, hi, rfl⟩ := hm x hx
   exact (hk i hi).1
  ·refine inOrder_steps l fun i hi => ?_
   rcases (hk (i + 1) hi).2.1 with h | h
   ·omega
   ·simpa using h
  ·intro x hx
   obtain ⟨i, hi, rfl⟩ := hm x hx
   exact (hk i hi).2.2
  ·have := (placeN_at l [47] (by omega)).1
   unfold nodeN at this
   rw [h4] at this
   exact this
 ·rintro ⟨h1, h2, h3, h4, h5, h6⟩
  have hl : 1 ≤ l.length := by
   have := List.length_pos_iff.2 h1
   omega
  have hm : ∀ i, i < l.length → l.getD i nd0 ∈ l := by
   intro i hi
   rw [List.getD_eq_getElem?_getD, List.getElem?_eq_getElem hi]
   exact List.getElem_mem _
  refine ⟨⟨⟨hl, h2⟩, ?_⟩, ?_⟩
  ·intro i hi
   unfold okN
   simp only [Bool.and_eq_true, Bool.or_eq_true, decide_eq_true_eq]
   refine ⟨⟨h3 _ (hm i hi), ?_⟩, h5 _ (hm i hi)⟩
   by_cases h0 : i = 0
   ·exact .inl h0
   ·exact .inr (inOrder_at l h4 (i - 1) i (by omega) hi)
  ·exact placeN_here l [47] 0 (by omega) h6 (fun j hj => by omega)
def insN (n : Nd) : List Nd → List Nd
 | [] => [n]
 | x :: r => if aheadB (nP n) (nP x) = true then n :: x :: r else x :: insN n r
def createE (l : List Nd) (p v : List UInt8) (o : Int) : Nat :=
 if rightB p = false then 13 else if hasN l p = true then 7 else if hasN l (parentS p) = false then 6 else if nO (nodeN l (parentS p)) ≠ 0 then 10 else if 1000 < v.length then 5 else if o < 0 then 1 else if 200 ≤ l.length then 9 else 0
def createS (l : List Nd) (p v : List UInt8) (o : Int) : List Nd := if createE l p v o = 0 then insN (p, v, 0, o) l else l
def getE (l : List Nd) (p : List UInt8) : Nat := if rightB p = false then 13 else if hasN l p = false then 6 else 0
def getS (l : List Nd) (p : List UInt8) : Nd := if getE l p = 0 then nodeN l p else nd0
def setE (l : List Nd) (p v : List UInt8) (ver : Int) : Nat :=
 if getE l p ≠ 0 then getE l p else if ver ≠ -1 ∧ ver ≠ nR (nodeN l p) then 8 else if 1000 < v.length then 5 else if nR (nodeN l p) = 1000000000 then 9 else 0
def setS (l : List Nd) (p v : List UInt8) (ver : Int) : List Nd := if setE l p v ver = 0 then l.set (placeN l p) (p, v, Go.IntKind.i64.wrap (nR (nodeN l p) + 1), nO (nodeN l p)) else l
def kidN (p : List UInt8) (x : Nd) : Bool := decide (parentE (nP x) = 0) && decide (parentS (nP x) = p)
def lastN (q : List UInt8) : List UInt8 := (cutL q).getD ((cutL q).length - 1) []
def kidsN (l : List Nd) (p : List UInt8) : List (List UInt8) := (l.filter (kidN p)).map fun x => lastN (nP x)
def delE (l : List Nd) (p : List UInt8) (ver : Int) : Nat :=
 if getE l p ≠ 0 then getE l p else if p = [47] then 13 else if ver ≠ -1 ∧ ver ≠ nR (nodeN l p) then 8 else if kidsN l p ≠ [] then 10 else 0
def delS (l : List Nd) (p : List UInt8) (ver : Int) : List Nd := if delE l p ver = 0 then l.eraseIdx (placeN l p) else l
def ownB (o : Int) (x : Nd) : Bool := decide (0 < o) && decide (nO x = o)
def dropS (l : List Nd) (o : Int) : List Nd := l.filter fun x => !ownB o x
def goneN (l : List Nd) (o : Int) : List (List UInt8) := (l.filter (ownB o)).map nP
def listS (l : List Nd) (p : List UInt8) : List (List UInt8) := if getE l p = 0 then kidsN l p else []
theorem fineN_path (x : Nd) (h : fineN x = true) : rightB (nP x) = true := by
 unfold fineN at h
 simp only [Bool.and_eq_true] at h
 exact h.1.1.1.1
theorem RightP.path {l : List Nd} (h : RightP l) (x : Nd) (hx : x ∈ l) : rightB (nP x) = true := fineN_path x (h.fine x hx)
theorem upN_keep {l l' : List Nd} (x : Nd) (ho' : inOrder l') (h : upN l x = true) (hs : parentE (nP x) = 0 → nodeN l (parentS (nP x)) ∈ l') : upN l' x = true := by
 unfold upN at *
 by_cases h0 : parentE (nP x) = 0
 ·rw [if_pos h0] at h ⊢
  simp only [Bool.and_eq_true, decide_eq_true_eq] at h ⊢
  have h1 := (hasN_node l _ h.1).1
  have h2 := nodeN_mem l' ho' _ (hs h0)
  rw [h1] at h2
  exact ⟨h2.1, by rw [h2.2]; exact h.2⟩
 ·rw [if_neg h0] at h ⊢
  exact h
theorem upN_parent {l : List Nd} (x : Nd) (h : upN l x = true) (h0 : parentE (nP x) = 0) : hasN l (parentS (nP x)) = true ∧ nO (nodeN l (parentS (nP x))) = 0 := by
 unfold upN at h
 rw [if_pos h0] at h
 simpa using h
theorem get_keep (l l' : List Nd) (ho' : inOrder l') (q : List UInt8) (h : ∀ x, nP x = q → (x ∈ l ↔ x ∈ l')) : getE l' q = getE l q ∧ getS l' q = getS l q := by
 have hb : hasN l' q = hasN l q := by
  rw [Bool.eq_iff_iff, hasN_iff, hasN_iff]
  constructor
  ·rintro ⟨x, hx, hp⟩; exact ⟨x, (h x hp).2 hx, hp⟩
  ·rintro ⟨x, hx, hp⟩; exact ⟨x, (h x hp).1 hx, hp⟩
 have hE : getE l' q = getE l q := by unfold getE; rw [hb]
 refine ⟨hE, ?_⟩
 unfold getS
 rw [hE]
 by_cases h0 : getE l q = 0
 ·rw [if_pos h0, if_pos h0]
  have hh : hasN l q = true := by
   unfold getE at h0
   cases hr : rightB q <;> cases hh : hasN l q <;> simp [hr, hh] at h0 ⊢
  obtain ⟨h1, h2⟩ := hasN_node l q hh
  have h3 := nodeN_mem l' ho' _ ((h _ h1).1 h2)
  rw [h1] at h3
  exact h3.2
 ·rw [if_neg h0, if_neg h0]
theorem getE_zero (l : List Nd) (q : List UInt8) (h : getE l q = 0) : rightB q = true ∧ hasN l q = true := by
 unfold getE at h
 cases hr : rightB q <;> cases hh : hasN l q <;> simp [hr, hh] at h ⊢
theorem getE_yes (l : List Nd) (q : List UInt8) (h : rightB q = true) (h2 : hasN l q = true) : getE l q = 0 := by simp [getE, h, h2]
theorem getE_none (l : List Nd) (q : List UInt8) (h : rightB q = true) (h2 : hasN l q = false) : getE l q = 6 := by simp [getE, h, h2]
theorem insN_mem (n : Nd) : ∀ (l : List Nd) (x : Nd), x ∈ insN n l ↔ x = n ∨ x ∈ l
 | [], x => by simp [insN]
 | y :: r, x => by
   unfold insN
   split
   ·simp
   ·rw [List.mem_cons, insN_mem n r x, List.mem_cons]
    constructor
    ·rintro (h | h | h)
     ·exact .inr (.inl h)
     ·exact .inl h
     ·exact .inr (.inr h)
    ·rintro (h | h | h)
     ·exact .inr (.inl h)
     ·exact .inl h
     ·exact .inr (.inr h)
theorem insN_len (n : Nd) : ∀ l : List Nd, (insN n l).length = l.length + 1
 | [] => rfl
 | y :: r => by
   unfold insN
   split
   ·rfl
   ·rw [List.length_cons, insN_len n r]; rfl
theorem insN_order (n : Nd) (hn : rightB (nP n) = true) : ∀ (l : List Nd), inOrder l → (∀ x ∈ l, rightB (nP x) = true) → (∀ x ∈ l, nP x ≠ nP n) → inOrder (insN n l)
 | [], _, _, _ => by unfold insN inOrder; simp
 | y :: r, ho, hr, hd => by
   unfold insN
   have ho2 := List.pairwise_cons.1 ho
   by_cases h : aheadB (nP n) (nP y) = true
   ·rw [if_pos h]
    refine List.Pairwise.cons ?_ ho
    intro z hz
    rcases List.mem_cons.1 hz with rfl | hz
    ·exact h
    ·exact ahead_tr _ _ _ h (ho2.1 z hz)
   ·rw [if_neg h]
    refine List.Pairwise.cons ?_ (insN_order n hn r ho2.2 (fun x hx => hr x (List.mem_cons_of_mem _ hx)) (fun x hx => hd x (List.mem_cons_of_mem _ hx)))
    intro z hz
    rcases (insN_mem n r z).1 hz with rfl | hz
    ·exact ahead_else _ _ hn (hr y (by simp)) (fun e => hd y (by simp) e.symm) (by simpa using h)
    ·exact ho2.1 z hz
theorem ahead_root (p : List UInt8) : aheadB p [47] = false := by
 unfold aheadB
 have : cutL [47] = [] := by decide
 rw [this]
 cases cutL p <;> simp [aheadL]
theorem createE_zero (l : List Nd) (p v : List UInt8) (o : Int) (h : createE l p v o = 0) :
 rightB p = true ∧ hasN l p = false ∧ hasN l (parentS p) = true ∧ nO (nodeN l (parentS p)) = 0 ∧ v.length ≤ 1000 ∧ 0 ≤ o ∧ l.length < 200 := by
 unfold createE at h
 split at h
 ·cases h
 split at h
 ·cases h
 split at h
 ·cases h
 split at h
 ·cases h
 split at h
 ·cases h
 split at h
 ·cases h
 split at h
 ·cases h
 rename_i h1 h2 h3 h4 h5 h6 h7
 refine ⟨by simpa using h1, by simpa using h2, by simpa using h3, by simpa using h4, by omega, by omega, by omega⟩
theorem right_create (l : List Nd) (p v : List UInt8) (o : Int) (hl : RightP l) : RightP (createS l p v o) ∧
 (∀ q, q ≠ p → getE (createS l p v o) q = getE l q ∧ getS (createS l p v o) q = getS l q) ∧
 (createE l p v o = 0 → getE (createS l p v o) p = 0 ∧ getS (createS l p v o) p = (p, v, 0, o) ∧ getE l p = 6) := by
 unfold createS
 by_cases h0 : createE l p v o = 0
 ·rw [if_pos h0]
  obtain ⟨h1, h2, h3, h4, h5, h6, h7⟩ := createE_zero l p v o h0
  have hd : ∀ x ∈ l, nP x ≠ p := hasN_not l p h2
  have ho := insN_order (p, v, 0, o) h1 l hl.order hl.path hd
  have hm := insN_mem (p, v, 0, o) l
  have hpe : parentE p = 0 := by
   by_cases hp : parentE p = 0
   ·exact hp
   ·exfalso
    have hs : parentS p = [] := by
     by_cases hc : cutL p = []
     ·exact (parent_root p h1 hc).1
     ·exact absurd (parent_yes p h1 hc).2 hp
    obtain ⟨h8, h9⟩ := hasN_node l _ h3
    have := hl.path _ h9
    rw [h8, hs] at this
    exact absurd this (by decide)
  refine ⟨⟨?_, ?_, ?_, ho, ?_, ?_⟩, ?_, fun _ => ?_⟩
  ·intro e
   have := insN_len (p, v, 0, o) l
   rw [e] at this; simp at this
  ·rw [insN_len]; omega
  ·intro x hx
   rcases (hm x).1 hx with rfl | hx
   ·unfold fineN
    simp only [Bool.and_eq_true, decide_eq_true_eq]
    exact ⟨⟨⟨⟨h1, h5⟩, (by decide : (0 : Int) ≤ 0)⟩, (by decide : (0 : Int) ≤ 1000000000)⟩, h6⟩
   ·exact hl.fine x hx
  ·intro x hx
   rcases (hm x).1 hx with rfl | hx
   ·refine upN_keep (l := l) _ ho ?_ (fun _ => (hm _).2 (.inr (hasN_node l _ h3).2))
    unfold upN
    rw [if_pos hpe]
    simp [h3, h4]
   ·exact upN_keep x ho (hl.up x hx) (fun hp => (hm _).2 (.inr (hasN_node l _ (upN_parent x (hl.up x hx) hp).1).2))
  ·have hr := hl.root
   cases l with
   | nil => exact absurd rfl hl.some
   | cons y r =>
     have hy : nP y = [47] := by simpa using hr
     unfold insN
     rw [if_neg (by rw [hy, ahead_root]; simp)]
     simpa using hy
  ·intro q hq
   refine get_keep l _ ho q fun x hx => ?_
   rw [hm]
   constructor
   ·exact .inr
   ·rintro (rfl | h)
    ·exact absurd hx.symm hq
    ·exact h
  ·have h8 := nodeN_mem _ ho (p, v, 0, o) ((hm _).2 (.inl rfl))
   refine ⟨getE_yes _ p h1 h8.1, ?_, getE_none l p h1 h2⟩
   unfold getS
   rw [if_pos (getE_yes _ p h1 h8.1)]
   exact h8.2
 ·rw [if_neg h0]
  exact ⟨hl, fun _ _ => ⟨rfl, rfl⟩, fun h => absurd h h0⟩
theorem right_filter (l : List Nd) (hl : RightP l) (f : Nd → Bool) (hr : f (l.getD 0 nd0) = true) (hp : ∀ x ∈ l, f x = true → parentE (nP x) = 0 → f (nodeN l (parentS (nP x))) = true) : RightP (l.filter f) := by
 have ho : inOrder (l.filter f) := List.Pairwise.sublist List.filter_sublist hl.order
 cases l with
 | nil => exact absurd rfl hl.some
 | cons y r =>
   have hy : f y = true := by simpa using hr
   refine ⟨?_, ?_, ?_, ho, ?_, ?_⟩
   ·rw [List.filter_cons_of_pos hy]; simp
   ·exact Nat.le_trans (List.length_filter_le _ _) hl.few
   ·intro x hx
    exact hl.fine x (List.mem_filter.1 hx).1
   ·intro x hx
    obtain ⟨h1, h2⟩ := List.mem_filter.1 hx
    refine upN_keep x ho (hl.up x h1) (fun h0 => List.mem_filter.2 ⟨(hasN_node _ _ (upN_parent x (hl.up x h1) h0).1).2, hp x h1 h2 h0⟩)
   ·rw [List.filter_cons_of_pos hy]
    simpa using hl.root
theorem erase_filter (p : List UInt8) : ∀ (l : List Nd), inOrder l → hasN l p = true → l.eraseIdx (placeN l p) = l.filter fun x => decide (nP x ≠ p)
 | [], _, h => by simp [hasN, placeN] at h
 | y :: r, ho, h => by
   have ho2 := List.pairwise_cons.1 ho
   unfold placeN
   by_cases hy : nP y = p
   ·rw [if_pos hy, List.eraseIdx_cons_zero, List.filter_cons_of_neg (by simp [hy])]
    refine (List.filter_eq_self.2 ?_).symm
    intro x hx
    have h1 := ho2.1 x hx
    rw [decide_eq_true_eq]
    intro e
    rw [hy, e, ahead_irr] at h1
    cases h1
   ·rw [if_neg hy, List.eraseIdx_cons_succ, List.filter_cons_of_pos (by simp [hy])]
    congr 1
    refine erase_filter p r ho2.2 ?_
    obtain ⟨x, hx, hp⟩ := (hasN_iff _ _).1 h
    rcases List.mem_cons.1 hx with rfl | hx
    ·exact absurd hp hy
    ·exact (hasN_iff _ _).2 ⟨x, hx, hp⟩
theorem kids_none (l : List Nd) (p : List UInt8) (h : kidsN l p = []) : ∀ x ∈ l, kidN p x = false := by
 intro x hx
 unfold kidsN at h
 rw [List.map_eq_nil_iff, List.filter_eq_nil_iff] at h
 simpa using h x hx
theorem delE_zero (l : List Nd) (p : List UInt8) (ver : Int) (h : delE l p ver = 0) : getE l p = 0 ∧ p ≠ [47] ∧ (ver = -1 ∨ ver = nR (nodeN l p)) ∧ kidsN l p = [] := by
 unfold delE at h
 by_cases h0 : getE l p = 0
 ·rw [if_neg (by simpa using h0)] at h
  split at h
  ·cases h
  split at h
  ·cases h
  split at h
  ·cases h
  rename_i h1 h2 h3
  refine ⟨h0, h1, ?_, by simpa using h3⟩
  by_cases h4 : ver = -1
  ·exact .inl h4
  ·by_cases h5 : ver = nR (nodeN l p)
   ·exact .inr h5
   ·exact absurd ⟨h4, h5⟩ h2
 ·rw [if_pos h0] at h
  exact absurd h h0
theorem right_del (l : List Nd) (p : List UInt8) (ver : Int) (hl : RightP l) : RightP (delS l p ver) ∧
 (∀ q, q ≠ p → getE (delS l p ver) q = getE l q ∧ getS (delS l p ver) q = getS l q) ∧
 (delE l p ver = 0 → getE (delS l p ver) p = 6) := by
 unfold delS
 by_cases h0 : delE l p ver = 0
 ·rw [if_pos h0]
  obtain ⟨h1, h2, _, h3⟩ := delE_zero l p ver h0
  obtain ⟨h4, h5⟩ := getE_zero l p h1
  rw [erase_filter p l hl.order h5]
  have ho : inOrder (l.filter fun x => decide (nP x ≠ p)) := List.Pairwise.sublist List.filter_sublist hl.order
  have hk := kids_none l p h3
  refine ⟨right_filter l hl _ (by rw [decide_eq_true_eq, hl.root]; exact fun e => h2 e.symm) ?_, ?_, fun _ => ?_⟩
  ·intro x hx _ hp
   have h6 := hk x hx
   unfold kidN at h6
   have h7 := (hasN_node l _ (upN_parent x (hl.up x hx) hp).1).1
   rw [decide_eq_true_eq, h7]
   intro e
   rw [hp, e] at h6
   simp at h6
  ·intro q hq
   refine get_keep l _ ho q fun x hx => ?_
   rw [List.mem_filter, decide_eq_true_eq, hx]
   exact ⟨fun h => ⟨h, hq⟩, fun h => h.1⟩
  ·refine getE_none _ p h4 ?_
   rw [Bool.eq_false_iff]
   intro h
   obtain ⟨x, hx, hp⟩ := (hasN_iff _ _).1 h
   have := (List.mem_filter.1 hx).2
   rw [decide_eq_true_eq] at this
   exact this hp
 ·rw [if_neg h0]
  exact ⟨hl, fun _ _ => ⟨rfl, rfl⟩, fun h => absurd h h0⟩
theorem filter_both (f : Nd → Bool) : ∀ l : List Nd, (l.filter fun x => !f x).length + (l.filter f).length = l.length
 | [] => rfl
 | x :: r => by
   have := filter_both f r
   cases h : f x <;> simp [h] <;> omega
theorem right_drop (l : List Nd) (o : Int) (hl : RightP l) : RightP (dropS l o) ∧ (dropS l o).length + (goneN l o).length = l.length ∧
 (∀ x ∈ l, ownB o x = false → getE (dropS l o) (nP x) = 0) ∧ (∀ x ∈ l, ownB o x = true → getE (dropS l o) (nP x) = 6 ∧ kidsN l (nP x) = []) := by
 unfold dropS goneN
 have ho : inOrder (l.filter fun x => !ownB o x) := List.Pairwise.sublist List.filter_sublist hl.order
 refine ⟨right_filter l hl _ ?_ ?_, ?_, ?_, ?_⟩
 ·have hm : l.getD 0 nd0 ∈ l := by
   cases l with
   | nil => exact absurd rfl hl.some
   | cons y r => simp
  have h1 := hl.up _ hm
  unfold upN at h1
  rw [hl.root, if_neg (by decide)] at h1
  have h2 : nO (l.getD 0 nd0) = 0 := by simpa using h1
  unfold ownB
  rw [h2]
  by_cases h3 : 0 < o
  ·have : ¬ (0 : Int) = o := by omega
   simp [this]
  ·simp [h3]
 ·intro x hx _ hp
  have h2 := (upN_parent x (hl.up x hx) hp).2
  unfold ownB
  rw [h2]
  by_cases h3 : 0 < o
  ·have : ¬ (0 : Int) = o := by omega
   simp [this]
  ·simp [h3]
 ·rw [List.length_map]
  exact filter_both (ownB o) l
 ·intro x hx h
  have h1 := nodeN_mem _ ho x (List.mem_filter.2 ⟨hx, by rw [h]; rfl⟩)
  exact getE_yes _ _ (hl.path x hx) h1.1
 ·intro x hx h
  refine ⟨getE_none _ _ (hl.path x hx) ?_, ?_⟩
  ·rw [Bool.eq_false_iff]
   intro hh
   obtain ⟨y, hy, hp⟩ := (hasN_iff _ _).1 hh
   obtain ⟨h1, h2⟩ := List.mem_filter.1 hy
   have := inOrder_same l hl.order y x h1 hx hp
   rw [this, h] at h2
   cases h2
  ·unfold kidsN
   rw [List.map_eq_nil_iff, List.filter_eq_nil_iff]
   intro y hy hk
   unfold kidN at hk
   simp only [Bool.and_eq_true, decide_eq_true_eq] at hk
   obtain ⟨h1, h2⟩ := upN_parent y (hl.up y hy) hk.1
   rw [hk.2] at h2
   rw [(nodeN_mem l hl.order x hx).2] at h2
   unfold ownB at h
   simp only [Bool.and_eq_true, decide_eq_true_eq] at h
   omega
end Go.Proofs.YtgfobinklijkpaaGreatDoor
