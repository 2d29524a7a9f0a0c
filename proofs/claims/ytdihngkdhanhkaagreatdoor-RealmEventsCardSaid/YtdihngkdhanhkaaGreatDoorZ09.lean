/-
  Texts I0 R1 RS JA JB JC JD JE.
-/
import Derived.WalkLawsBesides
import Derived.Deep.QuietTactic
import Derived.BigQuiet
import Derived.Test.YtdihngkdhanhkaaGreatDoorZ03
import Derived.Test.YtdihngkdhanhkaaGreatDoorZ06
import Derived.Test.YtdihngkdhanhkaaGreatDoorZ07
import Derived.Test.YtdihngkdhanhkaaGreatDoorZ08
namespace Go.Proofs.YtdihngkdhanhkaaGreatDoor

/-- A realm: nodes, time, sessions, watches, last replies. -/
abbrev Rm := List Nd × Int × List Se × List Wa × List Rp
abbrev mN (r : Rm) : List Nd := r.1
abbrev mT (r : Rm) : Int := r.2.1
abbrev mS (r : Rm) : List Se := r.2.2.1
abbrev mW (r : Rm) : List Wa := r.2.2.2.1
abbrev mL (r : Rm) : List Rp := r.2.2.2.2
def rm0 : Rm := ([([47], [], 0, 0)], 0, [], [], [])

def lastR : List Rp → Int → Rp × Bool
  | [], _ => (rp0, false)
  | x :: r, c => if pC x = c then (x, true) else lastR r c
/-- With a client's last reply. -/
def seenR (x : Rp) : Bool → List Rp → List Rp
  | b, [] => if b then [] else [x]
  | b, y :: r => (if b = false ∧ pC x ≤ pC y then [x] else []) ++ ((if pC y ≠ pC x then [y] else []) ++ seenR x (b || decide (pC x ≤ pC y)) r)
/-- Without the nodes of these sessions: what was deleted. -/
def dropsR : List Nd → List Int → List Nd × List Ch
  | l, [] => (l, [])
  | l, i :: r => ((dropsR (dropS l i) r).1, (goneN l i).map (fun p => ((3 : Int), p)) ++ (dropsR (dropS l i) r).2)
def rep (e : Int) (v : List UInt8) (n : Int) (ns : List ByteArray) : Rp := (0, 0, e, v, n, ns)
def noLease (r : Rm) (o : Or) : Bool := decide (oS o ≠ 0) && (decide (oS o < 0) || !hasSe (mS r) (oS o))
/-- What an order does to a realm: the realm, its reply but for whom, the changes. -/
def doneR (r : Rm) (o : Or) : Rm × Rp × List Ch :=
  if oK o = 1 then
    if noLease r o = true then (r, rep 14 [] 0 [], [])
    else ((createS (mN r) (oP o) (oV o) (oS o), mT r, mS r, mW r, mL r), rep (createE (mN r) (oP o) (oV o) (oS o)) [] 0 [], if createE (mN r) (oP o) (oV o) (oS o) = 0 then [(1, oP o)] else [])
  else if oK o = 2 then (r, rep (getE (mN r) (oP o)) (nV (getS (mN r) (oP o))) (nR (getS (mN r) (oP o))) [], [])
  else if oK o = 3 then ((setS (mN r) (oP o) (oV o) (oR o), mT r, mS r, mW r, mL r),
    rep (setE (mN r) (oP o) (oV o) (oR o)) [] (if setE (mN r) (oP o) (oV o) (oR o) = 0 then nR (getS (setS (mN r) (oP o) (oV o) (oR o)) (oP o)) else 0) [], if setE (mN r) (oP o) (oV o) (oR o) = 0 then [(2, oP o)] else [])
  else if oK o = 4 then ((delS (mN r) (oP o) (oR o), mT r, mS r, mW r, mL r), rep (delE (mN r) (oP o) (oR o)) [] 0 [], if delE (mN r) (oP o) (oR o) = 0 then [(3, oP o)] else [])
  else if oK o = 5 then (r, rep (getE (mN r) (oP o)) [] 0 ((listS (mN r) (oP o)).map ba), [])
  else if oK o = 6 then ((mN r, mT r, openS (mT r) (mS r) (oS o) (oT o), mW r, mL r), rep (openE (mS r) (oS o) (oT o)) [] 0 [], [])
  else if oK o = 7 then ((mN r, mT r, touchS (mT r) (mS r) (oS o), mW r, mL r), rep (leaseE (mS r) (oS o)) [] 0 [], [])
  else if oK o = 8 then
    if leaseE (mS r) (oS o) = 0 then (((dropsR (mN r) [oS o]).1, mT r, closeS (mS r) (oS o), mW r, mL r), rep 0 [] 0 [], (dropsR (mN r) [oS o]).2)
    else ((mN r, mT r, closeS (mS r) (oS o), mW r, mL r), rep (leaseE (mS r) (oS o)) [] 0 [], [])
  else if oK o = 9 then
    if tickE (mT r) (oT o) = 0 then (((dropsR (mN r) (goneS (mT r) (mS r) (oT o))).1, tickT (mT r) (oT o), tickS (mT r) (mS r) (oT o), mW r, mL r), rep 0 [] (tickT (mT r) (oT o)) [], (dropsR (mN r) (goneS (mT r) (mS r) (oT o))).2)
    else ((mN r, tickT (mT r) (oT o), tickS (mT r) (mS r) (oT o), mW r, mL r), rep (tickE (mT r) (oT o)) [] 0 [], [])
  else if oK o = 10 ∨ oK o = 11 then ((mN r, mT r, mS r, addW (mW r) (oP o, oC o, decide (oK o = 11)), mL r), rep (addE (mW r) (oP o, oC o, decide (oK o = 11))) [] 0 [], [])
  else (r, rep 0 [] 0 [], [])
def noR (o : Or) (e : Int) : Rp := (oC o, oQ o, e, [], 0, [])
def ofR (o : Or) (x : Rp) : Rp := (oC o, oQ o, pE x, pV x, pR x, pN x)
/-- What an order does. -/
def takenR (r : Rm) (o : Or) : Rm × Rp × List Ev :=
  ((mN (doneR r o).1, mT (doneR r o).1, mS (doneR r o).1, leftW (mW (doneR r o).1) (doneR r o).2.2, seenR (ofR o (doneR r o).2.1) false (mL r)), ofR o (doneR r o).2.1, fireW (mW (doneR r o).1) (doneR r o).2.2)
def applyR (r : Rm) (o : Or) : Rm × Rp × List Ev :=
  if mayO o = false then (r, noR o 1, [])
  else if (lastR (mL r) (oC o)).2 = true ∧ pQ (lastR (mL r) (oC o)).1 = oQ o then (r, (lastR (mL r) (oC o)).1, [])
  else if (lastR (mL r) (oC o)).2 = true ∧ oQ o < pQ (lastR (mL r) (oC o)).1 then (r, noR o 15, [])
  else if (lastR (mL r) (oC o)).2 = false ∧ 50 ≤ (mL r).length then (r, noR o 9, [])
  else takenR r o
def foldR : Rm → List Or → Rm × List Rp × List Ev
  | r, [] => (r, [], [])
  | r, o :: l => ((foldR (applyR r o).1 l).1, (applyR r o).2.1 :: (foldR (applyR r o).1 l).2.1, (applyR r o).2.2 ++ (foldR (applyR r o).1 l).2.2)
theorem foldR_append (r : Rm) (a b : List Or) : foldR r (a ++ b) = ((foldR (foldR r a).1 b).1, (foldR r a).2.1 ++ (foldR (foldR r a).1 b).2.1, (foldR r a).2.2 ++ (foldR (foldR r a).1 b).2.2) := by
  induction a generalizing r with
  | nil => rfl
  | cons o l ih => simp only [List.cons_append, foldR, ih, List.append_assoc]
theorem foldR_one (r : Rm) (o : Or) : foldR r [o] = ((applyR r o).1, [(applyR r o).2.1], (applyR r o).2.2) := by
  simp [foldR]

structure RightR (r : Rm) : Prop where
  n : RightP (mN r)
  b : RightB (mT r) (mS r)
  w : RightW (mW r)
  few : (mL r).length ≤ 50
  fine : ∀ x ∈ mL r, 0 ≤ pC x ∧ pC x ≤ 1000 ∧ 1 ≤ pQ x
  asc : (mL r).Pairwise fun x y => pC x < pC y

theorem lastR_mem : ∀ (l : List Rp) (c : Int), (lastR l c).2 = true → (lastR l c).1 ∈ l ∧ pC (lastR l c).1 = c
  | [], _, h => by cases h
  | x :: r, c, h => by
    unfold lastR at h ⊢
    by_cases hx : pC x = c
    · rw [if_pos hx]
      exact ⟨by simp, hx⟩
    · rw [if_neg hx] at h ⊢
      obtain ⟨h1, h2⟩ := lastR_mem r c h
      exact ⟨List.mem_cons_of_mem _ h1, h2⟩
theorem lastR_none : ∀ (l : List Rp) (c : Int), (lastR l c).2 = false ↔ ∀ x ∈ l, pC x ≠ c
  | [], _ => by simp [lastR]
  | x :: r, c => by
    unfold lastR
    by_cases hx : pC x = c
    · rw [if_pos hx]
      simp [hx]
    · rw [if_neg hx, lastR_none r c]
      simp [hx]
theorem seenR_mem (x : Rp) : ∀ (b : Bool) (l : List Rp) (y : Rp), y ∈ seenR x b l → y = x ∨ (y ∈ l ∧ pC y ≠ pC x)
  | b, [], y, h => by
    unfold seenR at h
    split at h
    · cases h
    · exact .inl (by simpa using h)
  | b, z :: r, y, h => by
    unfold seenR at h
    rcases List.mem_append.1 h with h | h
    · split at h
      · exact .inl (by simpa using h)
      · cases h
    rcases List.mem_append.1 h with h | h
    · split at h
      · rename_i hz
        have : y = z := by simpa using h
        subst this
        exact .inr ⟨by simp, hz⟩
      · cases h
    · rcases seenR_mem x _ r y h with h | ⟨h, h2⟩
      · exact .inl h
      · exact .inr ⟨List.mem_cons_of_mem _ h, h2⟩
/-- Where every client of a row is greater, the reply stands ahead; where it is done, the row is as it was but for the client. -/
theorem seenR_done (x : Rp) : ∀ l : List Rp, seenR x true l = l.filter fun y => decide (pC y ≠ pC x)
  | [] => rfl
  | y :: r => by
    have ih := seenR_done x r
    unfold seenR
    rw [Bool.true_or, ih]
    by_cases h : pC y = pC x
    · simp [h]
    · simp [h]
theorem seenR_far (x : Rp) (l : List Rp) (h : ∀ y ∈ l, pC x < pC y) : seenR x false l = x :: l := by
  cases l with
  | nil => rfl
  | cons y r =>
    have hy := h y (by simp)
    unfold seenR
    rw [if_pos ⟨rfl, by omega⟩, if_pos (by omega), show (false || decide (pC x ≤ pC y)) = true by simp; omega, seenR_done]
    have : r.filter (fun z => decide (pC z ≠ pC x)) = r := by
      rw [List.filter_eq_self]
      intro z hz
      have := h z (by simp [hz])
      simp
      omega
    rw [this]
    rfl
theorem seenR_asc (x : Rp) : ∀ (l : List Rp), l.Pairwise (fun a b => pC a < pC b) → (seenR x false l).Pairwise (fun a b => pC a < pC b)
  | [], _ => by
    show [x].Pairwise _
    simp
  | y :: r, hp => by
    obtain ⟨h1, h2⟩ := List.pairwise_cons.1 hp
    rcases Int.lt_trichotomy (pC x) (pC y) with h | h | h
    · rw [seenR_far x (y :: r) (fun z hz => by rcases List.mem_cons.1 hz with rfl | hz; exact h; exact Int.lt_trans h (h1 z hz))]
      refine List.pairwise_cons.2 ⟨fun z hz => ?_, hp⟩
      rcases List.mem_cons.1 hz with rfl | hz
      · exact h
      · exact Int.lt_trans h (h1 z hz)
    · have hf : r.filter (fun z => decide (pC z ≠ pC x)) = r := by
        rw [List.filter_eq_self]
        intro z hz
        have := h1 z hz
        simp
        omega
      have e : seenR x false (y :: r) = x :: r := by
        unfold seenR
        rw [if_pos ⟨rfl, by omega⟩, if_neg (by simp [h]), show (false || decide (pC x ≤ pC y)) = true by simp; omega, seenR_done, hf]
        rfl
      rw [e]
      exact List.pairwise_cons.2 ⟨fun z hz => by have := h1 z hz; omega, h2⟩
    · have e : seenR x false (y :: r) = y :: seenR x false r := by
        rw [seenR, if_neg (by omega), if_pos (by omega), show (false || decide (pC x ≤ pC y)) = false by simp; omega]
        rfl
      rw [e]
      refine List.pairwise_cons.2 ⟨fun z hz => ?_, seenR_asc x r h2⟩
      rcases seenR_mem x false r z hz with rfl | ⟨hz, _⟩
      · exact h
      · exact h1 z hz
theorem seenR_len (x : Rp) : ∀ (l : List Rp), l.Pairwise (fun a b => pC a < pC b) → (seenR x false l).length = if (lastR l (pC x)).2 = true then l.length else l.length + 1
  | [], _ => rfl
  | y :: r, hp => by
    obtain ⟨h1, h2⟩ := List.pairwise_cons.1 hp
    rcases Int.lt_trichotomy (pC x) (pC y) with h | h | h
    · have hn : (lastR (y :: r) (pC x)).2 = false := (lastR_none _ _).2 (fun z hz => by
        rcases List.mem_cons.1 hz with rfl | hz
        · omega
        · have := h1 z hz
          omega)
      rw [seenR_far x (y :: r) (fun z hz => by rcases List.mem_cons.1 hz with rfl | hz; exact h; exact Int.lt_trans h (h1 z hz)), hn]
      rfl
    · have hf : r.filter (fun z => decide (pC z ≠ pC x)) = r := by
        rw [List.filter_eq_self]
        intro z hz
        have := h1 z hz
        simp
        omega
      have e : seenR x false (y :: r) = x :: r := by
        unfold seenR
        rw [if_pos ⟨rfl, by omega⟩, if_neg (by simp [h]), show (false || decide (pC x ≤ pC y)) = true by simp; omega, seenR_done, hf]
        rfl
      rw [e, lastR, if_pos h.symm]
      rfl
    · have e : seenR x false (y :: r) = y :: seenR x false r := by
        rw [seenR, if_neg (by omega), if_pos (by omega), show (false || decide (pC x ≤ pC y)) = false by simp; omega]
        rfl
      rw [e, lastR, if_neg (show ¬ pC y = pC x by omega), List.length_cons, seenR_len x r h2, List.length_cons]
      split <;> rfl
theorem dropsR_right : ∀ (ids : List Int) (l : List Nd), RightP l → RightP (dropsR l ids).1
  | [], _, h => h
  | i :: r, l, h => dropsR_right r (dropS l i) (right_drop l i h).1
theorem right_done (r : Rm) (o : Or) (h : RightR r) : RightP (mN (doneR r o).1) ∧ RightB (mT (doneR r o).1) (mS (doneR r o).1) ∧ RightW (mW (doneR r o).1) ∧ mL (doneR r o).1 = mL r := by
  have key : ∀ x, doneR r o = x → RightP (mN x.1) ∧ RightB (mT x.1) (mS x.1) ∧ RightW (mW x.1) ∧ mL x.1 = mL r := by
    intro x hx
    unfold doneR at hx
    by_cases k : oK o = 1
    · rw [if_pos k] at hx
      by_cases k2 : noLease r o = true
      · rw [if_pos k2] at hx
        subst hx
        exact ⟨by first | exact h.n | exact (right_create _ _ _ _ h.n).1 | exact (right_set _ _ _ _ h.n).1 | exact (right_del _ _ _ h.n).1 | exact dropsR_right _ _ h.n, by first | exact h.b | exact right_open _ _ _ _ h.b | exact right_touch _ _ _ h.b | exact right_close _ _ _ h.b | exact right_tick _ _ _ h.b, by first | exact h.w | exact right_add _ _ h.w, rfl⟩
      · rw [if_neg k2] at hx
        subst hx
        exact ⟨by first | exact h.n | exact (right_create _ _ _ _ h.n).1 | exact (right_set _ _ _ _ h.n).1 | exact (right_del _ _ _ h.n).1 | exact dropsR_right _ _ h.n, by first | exact h.b | exact right_open _ _ _ _ h.b | exact right_touch _ _ _ h.b | exact right_close _ _ _ h.b | exact right_tick _ _ _ h.b, by first | exact h.w | exact right_add _ _ h.w, rfl⟩
    rw [if_neg k] at hx
    clear k
    by_cases k : oK o = 2
    · rw [if_pos k] at hx
      subst hx
      exact ⟨by first | exact h.n | exact (right_create _ _ _ _ h.n).1 | exact (right_set _ _ _ _ h.n).1 | exact (right_del _ _ _ h.n).1 | exact dropsR_right _ _ h.n, by first | exact h.b | exact right_open _ _ _ _ h.b | exact right_touch _ _ _ h.b | exact right_close _ _ _ h.b | exact right_tick _ _ _ h.b, by first | exact h.w | exact right_add _ _ h.w, rfl⟩
    rw [if_neg k] at hx
    clear k
    by_cases k : oK o = 3
    · rw [if_pos k] at hx
      subst hx
      exact ⟨by first | exact h.n | exact (right_create _ _ _ _ h.n).1 | exact (right_set _ _ _ _ h.n).1 | exact (right_del _ _ _ h.n).1 | exact dropsR_right _ _ h.n, by first | exact h.b | exact right_open _ _ _ _ h.b | exact right_touch _ _ _ h.b | exact right_close _ _ _ h.b | exact right_tick _ _ _ h.b, by first | exact h.w | exact right_add _ _ h.w, rfl⟩
    rw [if_neg k] at hx
    clear k
    by_cases k : oK o = 4
    · rw [if_pos k] at hx
      subst hx
      exact ⟨by first | exact h.n | exact (right_create _ _ _ _ h.n).1 | exact (right_set _ _ _ _ h.n).1 | exact (right_del _ _ _ h.n).1 | exact dropsR_right _ _ h.n, by first | exact h.b | exact right_open _ _ _ _ h.b | exact right_touch _ _ _ h.b | exact right_close _ _ _ h.b | exact right_tick _ _ _ h.b, by first | exact h.w | exact right_add _ _ h.w, rfl⟩
    rw [if_neg k] at hx
    clear k
    by_cases k : oK o = 5
    · rw [if_pos k] at hx
      subst hx
      exact ⟨by first | exact h.n | exact (right_create _ _ _ _ h.n).1 | exact (right_set _ _ _ _ h.n).1 | exact (right_del _ _ _ h.n).1 | exact dropsR_right _ _ h.n, by first | exact h.b | exact right_open _ _ _ _ h.b | exact right_touch _ _ _ h.b | exact right_close _ _ _ h.b | exact right_tick _ _ _ h.b, by first | exact h.w | exact right_add _ _ h.w, rfl⟩
    rw [if_neg k] at hx
    clear k
    by_cases k : oK o = 6
    · rw [if_pos k] at hx
      subst hx
      exact ⟨by first | exact h.n | exact (right_create _ _ _ _ h.n).1 | exact (right_set _ _ _ _ h.n).1 | exact (right_del _ _ _ h.n).1 | exact dropsR_right _ _ h.n, by first | exact h.b | exact right_open _ _ _ _ h.b | exact right_touch _ _ _ h.b | exact right_close _ _ _ h.b | exact right_tick _ _ _ h.b, by first | exact h.w | exact right_add _ _ h.w, rfl⟩
    rw [if_neg k] at hx
    clear k
    by_cases k : oK o = 7
    · rw [if_pos k] at hx
      subst hx
      exact ⟨by first | exact h.n | exact (right_create _ _ _ _ h.n).1 | exact (right_set _ _ _ _ h.n).1 | exact (right_del _ _ _ h.n).1 | exact dropsR_right _ _ h.n, by first | exact h.b | exact right_open _ _ _ _ h.b | exact right_touch _ _ _ h.b | exact right_close _ _ _ h.b | exact right_tick _ _ _ h.b, by first | exact h.w | exact right_add _ _ h.w, rfl⟩
    rw [if_neg k] at hx
    clear k
    by_cases k : oK o = 8
    · rw [if_pos k] at hx
      by_cases k2 : leaseE (mS r) (oS o) = 0
      · rw [if_pos k2] at hx
        subst hx
        exact ⟨by first | exact h.n | exact (right_create _ _ _ _ h.n).1 | exact (right_set _ _ _ _ h.n).1 | exact (right_del _ _ _ h.n).1 | exact dropsR_right _ _ h.n, by first | exact h.b | exact right_open _ _ _ _ h.b | exact right_touch _ _ _ h.b | exact right_close _ _ _ h.b | exact right_tick _ _ _ h.b, by first | exact h.w | exact right_add _ _ h.w, rfl⟩
      · rw [if_neg k2] at hx
        subst hx
        exact ⟨by first | exact h.n | exact (right_create _ _ _ _ h.n).1 | exact (right_set _ _ _ _ h.n).1 | exact (right_del _ _ _ h.n).1 | exact dropsR_right _ _ h.n, by first | exact h.b | exact right_open _ _ _ _ h.b | exact right_touch _ _ _ h.b | exact right_close _ _ _ h.b | exact right_tick _ _ _ h.b, by first | exact h.w | exact right_add _ _ h.w, rfl⟩
    rw [if_neg k] at hx
    clear k
    by_cases k : oK o = 9
    · rw [if_pos k] at hx
      by_cases k2 : tickE (mT r) (oT o) = 0
      · rw [if_pos k2] at hx
        subst hx
        exact ⟨by first | exact h.n | exact (right_create _ _ _ _ h.n).1 | exact (right_set _ _ _ _ h.n).1 | exact (right_del _ _ _ h.n).1 | exact dropsR_right _ _ h.n, by first | exact h.b | exact right_open _ _ _ _ h.b | exact right_touch _ _ _ h.b | exact right_close _ _ _ h.b | exact right_tick _ _ _ h.b, by first | exact h.w | exact right_add _ _ h.w, rfl⟩
      · rw [if_neg k2] at hx
        subst hx
        exact ⟨by first | exact h.n | exact (right_create _ _ _ _ h.n).1 | exact (right_set _ _ _ _ h.n).1 | exact (right_del _ _ _ h.n).1 | exact dropsR_right _ _ h.n, by first | exact h.b | exact right_open _ _ _ _ h.b | exact right_touch _ _ _ h.b | exact right_close _ _ _ h.b | exact right_tick _ _ _ h.b, by first | exact h.w | exact right_add _ _ h.w, rfl⟩
    rw [if_neg k] at hx
    clear k
    by_cases k : oK o = 10 ∨ oK o = 11
    · rw [if_pos k] at hx
      subst hx
      exact ⟨by first | exact h.n | exact (right_create _ _ _ _ h.n).1 | exact (right_set _ _ _ _ h.n).1 | exact (right_del _ _ _ h.n).1 | exact dropsR_right _ _ h.n, by first | exact h.b | exact right_open _ _ _ _ h.b | exact right_touch _ _ _ h.b | exact right_close _ _ _ h.b | exact right_tick _ _ _ h.b, by first | exact h.w | exact right_add _ _ h.w, rfl⟩
    rw [if_neg k] at hx
    clear k
    subst hx
    exact ⟨by first | exact h.n | exact (right_create _ _ _ _ h.n).1 | exact (right_set _ _ _ _ h.n).1 | exact (right_del _ _ _ h.n).1 | exact dropsR_right _ _ h.n, by first | exact h.b | exact right_open _ _ _ _ h.b | exact right_touch _ _ _ h.b | exact right_close _ _ _ h.b | exact right_tick _ _ _ h.b, by first | exact h.w | exact right_add _ _ h.w, rfl⟩
  exact key _ rfl
theorem right_apply (r : Rm) (o : Or) (h : RightR r) : RightR (applyR r o).1 := by
  unfold applyR
  split
  · exact h
  rename_i h1
  split
  · exact h
  split
  · exact h
  split
  · exact h
  rename_i h4
  obtain ⟨m1, m2, m3, _⟩ := may_sized (o := o) (by simpa using h1)
  obtain ⟨d1, d2, d3, d4⟩ := right_done r o h
  refine ⟨d1, d2, right_left _ _ d3, ?_, ?_, seenR_asc _ _ h.asc⟩
  · show (seenR _ _ _).length ≤ 50
    rw [seenR_len _ _ h.asc]
    have e : pC (ofR o (doneR r o).2.1) = oC o := rfl
    rw [e]
    have hf := h.few
    split
    · exact hf
    · rename_i h5
      have : ¬ 50 ≤ (mL r).length := fun h6 => h4 ⟨by simpa using h5, h6⟩
      omega
  · intro x hx
    rcases seenR_mem _ _ _ x hx with rfl | ⟨hx, _⟩
    · exact ⟨m1, m2, m3⟩
    · exact h.fine x hx
theorem right_fold (l : List Or) : ∀ r : Rm, RightR r → RightR (foldR r l).1 := by
  induction l with
  | nil => exact fun _ h => h
  | cons o l ih => exact fun r h => ih _ (right_apply r o h)
end Go.Proofs.YtdihngkdhanhkaaGreatDoor
namespace Go.Proofs.YtdihngkdhanhkaaGreatDoor
open Go.RowKit

theorem Blk.same {w w' : World} {g : Nat} {cs : List Value} {t : TypeId} (h : Blk w g cs t) (hO : w'.heap[g]? = w.heap[g]?) : Blk w' g cs t := by
  unfold Blk
  rw [hO]
  exact h
theorem ownsRow_same {w w' : World} {b : Nat} {e : TypeId} {s : Nat} {v : Value} {n : Nat} {xs : List Value} (h : w.ownsRow b e s v n xs) (hO : ∀ k, b ≤ k → w'.heap[k]? = w.heap[k]?) : w'.ownsRow b e s v n xs := by
  refine ⟨h.1, ?_⟩
  rcases h.2 with hn | ⟨g, cap, cur, rfl, hg0, hg1, r⟩
  · exact .inl hn
  · exact .inr ⟨g, cap, cur, rfl, hg0, by rw [hO g hg0]; exact hg1, r⟩
theorem ownsRow_other {w w' : World} {b b' : Nat} {e e' : TypeId} {s s' : Nat} {v v' : Value} {n n' : Nat} {xs xs' : List Value} (hne : e ≠ e') (h : w.ownsRow b e s v n xs) (h' : w.ownsRow b' e' s' v' n' xs') (hg : w.grownBy w' v'.ownBlock) : w'.ownsRow b e s v n xs := by
  refine ⟨h.1, ?_⟩
  rcases h.2 with hn | ⟨g, cap, cur, rfl, hg0, hg1, r⟩
  · exact .inl hn
  · have hlt : g < w.heap.size := (Array.getElem?_eq_some_iff.1 hg1).1
    refine .inr ⟨g, cap, cur, rfl, hg0, ?_, r⟩
    rw [hg.block g hlt ?_]
    · exact hg1
    · intro he
      rcases h'.2 with ⟨rfl, _⟩ | ⟨g', cap', cur', rfl, _, hg1', _⟩
      · cases he
      · injection he with he
        have he2 : g = g' := he
        subst he2
        rw [hg1] at hg1'
        injection hg1' with hg1'
        injection hg1' with _ h3
        exact hne h3
/-- The whole row is written: the world behind it. -/
theorem wpList_store_to {P : Program} {w : World} {ops : Array Oper} {rest : List Oper} {o : Oper} {a : Act} {Q : Exit → Act → World → Prop} (hg : o.guard = none) (t : TypeId) (x y : Operand) (ho : o.op = .store t x y) (g : Nat) (cs old : List Value) (u : TypeId)
    (hx : a.eval x = .pointer (some ⟨g, 0, none⟩)) (hy : a.eval y = .agg cs.toArray) (hb : Blk w g old u) (hi : (P.info? t).map (·.size) = some cs.length) (hl : old.length = cs.length) (h1 : cs.toArray.all (·.oneCell') = true)
    (h : ∀ w', Blk w' g cs u → w'.heap.size = w.heap.size → Below g w w' → (∀ k, k ≠ g → w'.heap[k]? = w.heap[k]?) → wpList P ops Q rest (a.put o.dst undef) w') : wpList P ops Q (o :: rest) a w := by
  refine wpList_store_blk hg t x y ho g cs old u hx hy hb hi hl h1 ?_
  exact h _ hb.setRow (by simp [World.setRow]) (below_setRow' (Below.refl _ _) (Nat.le_refl _) _) (fun k hne => setRow_other w g k _ hne)
theorem ownsRow_but {w w' : World} {b gN : Nat} {e : TypeId} {s : Nat} {v : Value} {n : Nat} {xs : List Value} (h : w.ownsRow b e s v n xs) (hne : v.ownBlock ≠ some gN) (hO : ∀ k, k ≠ gN → w'.heap[k]? = w.heap[k]?) : w'.ownsRow b e s v n xs := by
  refine ⟨h.1, ?_⟩
  rcases h.2 with hn | ⟨g, cap, cur, rfl, hg0, hg1, r⟩
  · exact .inl hn
  · exact .inr ⟨g, cap, cur, rfl, hg0, by rw [hO g (fun e => hne (by rw [← e]; rfl))]; exact hg1, r⟩
/-- The new row and the new node, in memory. -/
theorem slice_one (A : Option Addr) (n c : Nat) : [Value.slice A n c].toArray.all (·.oneCell') = true := by
  rw [Array.all_eq_true_iff_forall_mem]
  intro v hv
  simp at hv
  subst hv
  rfl
theorem wpList_box_one {P : Program} {w : World} {ops : Array Oper} {rest : List Oper} {o : Oper} {a : Act} {Q : Exit → Act → World → Prop} (hg : o.guard = none) (t : TypeId) (x : Operand) (ho : o.op = .box t x) (v : Value) (hx : a.eval x = v) (hv : v.cells = #[v])
    (h : ∀ w1, Blk w1 w.heap.size [v] t → w1.heap.size = w.heap.size + 1 → Below w.heap.size w w1 → wpList P ops Q rest (a.put o.dst (.pointer (some ⟨w.heap.size, 0, none⟩))) w1) : wpList P ops Q (o :: rest) a w := by
  refine wpList_plain hg fun K hK => ?_
  unfold Oper.wp execOp
  simp only [ho, hx, hv, Sem.run_bind, Instr.box, newVar, newRow, run_newObj_alloc, Sem.run_pure, Result.andThen_ok]
  exact hK _ _ (h _ (heap_alloc_new w _) (by simp) ((Below.refl _ _).alloc (Nat.le_refl _) _))

theorem run_part_cell {P : Program} (t : TypeId) (off : Nat) (cs : List Value) (v : Value) (ha : ∀ w, (isAgg t).run P w = .ok false w) (he : cs[off]? = some v) (w : World) : (part t cs.toArray off).run P w = .ok v w := by
  simp [part, ha, he]
end Go.Proofs.YtdihngkdhanhkaaGreatDoor
namespace Go.Proofs.YtdihngkdhanhkaaGreatDoor
open Go.RowKit

/-- A slice as a row's element. -/
abbrev SlT := Option Addr × Nat × Nat
def slv (s : SlT) : Value := .slice s.1 s.2.1 s.2.2
def sl0 : SlT := (none, 0, 0)
end Go.Proofs.YtdihngkdhanhkaaGreatDoor
namespace Go.Proofs.YtdihngkdhanhkaaGreatDoor
open Go.RowKit

/-- A session's cells. -/
def sec (x : Se) : List Value := [.int .i64 (sI x), .int .i64 (sP x), .int .i64 (sU x)]
theorem sec_one (x : Se) : ∀ u ∈ sec x, u.oneCell' = true := by
  intro u hu
  unfold sec at hu
  simp only [List.mem_cons, List.not_mem_nil, or_false] at hu
  rcases hu with rfl | rfl | rfl <;> rfl
def SeK : RowK Se := { enc := sec, k := 3, d := se0, len := fun _ => rfl, one := sec_one, pos := by decide }
/-- An int's cell. -/
def inc (x : Int) : List Value := [.int .i64 x]
def InK : RowK Int := { enc := inc, k := 1, d := 0, len := fun _ => rfl, one := fun x u hu => by unfold inc at hu; simp only [List.mem_cons, List.not_mem_nil, or_false] at hu; rw [hu]; rfl, pos := by decide }
theorem RdE.at3 {B : Nat} {w : World} {A : Option Addr} {n c : Nat} {l : List Se} (h : RdE SeK B w (.slice A n c) l) (j : Nat) (hj : j < l.length) :
    ∃ a, A = some a ∧ w.cell? (a.add (j * 3)) = some (.int .i64 (sI (l.getD j se0))) ∧ w.cell? ⟨(a.add (j * 3)).block, (a.add (j * 3)).off + 1, none⟩ = some (.int .i64 (sP (l.getD j se0))) ∧
      w.cell? ⟨(a.add (j * 3)).block, (a.add (j * 3)).off + 2, none⟩ = some (.int .i64 (sU (l.getD j se0))) := by
  obtain ⟨a, ha, hc⟩ := h.cells j hj
  exact ⟨a, ha, hc 0 (by decide), hc 1 (by decide), hc 2 (by decide)⟩
theorem RdE.at1 {B : Nat} {w : World} {A : Option Addr} {n c : Nat} {l : List Int} (h : RdE InK B w (.slice A n c) l) (j : Nat) (hj : j < l.length) :
    ∃ a, A = some a ∧ w.cell? (a.add j) = some (.int .i64 (l.getD j 0)) := by
  obtain ⟨a, ha, hc⟩ := h.cells j hj
  have h0 := hc 0 (by decide)
  rw [show j * InK.k = j from Nat.mul_one j] at h0
  exact ⟨a, ha, h0⟩
theorem take_se (l : List Se) (i : Nat) (hi : i < l.length) : l.take (i + 1) = l.take i ++ [l.getD i se0] := by
  rw [List.take_add_one, List.getD_eq_getElem?_getD, List.getElem?_eq_getElem hi]
  rfl
theorem book_one (t : Int) (A : Option Addr) (n c : Nat) : [Value.int .i64 t, .slice A n c].toArray.all (·.oneCell') = true := by
  rw [Array.all_eq_true_iff_forall_mem]
  intro v hv
  simp at hv
  rcases hv with rfl | rfl <;> rfl
theorem sec_all (x : Se) : (sec x).toArray.all (·.oneCell') = true := enc_all SeK x

/-- The call answers a book; a book and a fault; a book, numbers and a fault. -/
def Book1 (t : Int) (l : List Se) (w : World) (e : Ending) (w' : World) : Prop := ∃ v, e = .returned (.agg #[.int .i64 t, v]) ∧ RdE SeK w'.heap.size w' v l ∧ Below w.heap.size w w'
/-- The same, where the sessions are those that were given, or of the call's own. -/
def BooksO (en : TypeId) (v0 : Value) (t : Int) (l : List Se) (f : Nat) (w : World) (e : Ending) (w' : World) : Prop := ∃ v, e = .returned (.tuple #[.agg #[.int .i64 t, v], .int .i64 (f : Int)]) ∧ RdE SeK w'.heap.size w' v l ∧ (v = v0 ∨ OwnE SeK en w' w.heap.size v l) ∧ Below w.heap.size w w'
def TicksO (en ei : TypeId) (v0 : Value) (t : Int) (l : List Se) (g : List Int) (f : Nat) (w : World) (e : Ending) (w' : World) : Prop :=
  ∃ v u, e = .returned (.tuple #[.agg #[.int .i64 t, v], u, .int .i64 (f : Int)]) ∧ RdE SeK w'.heap.size w' v l ∧ RdE InK w'.heap.size w' u g ∧ (v = v0 ∨ OwnE SeK en w' w.heap.size v l) ∧ (u = .slice none 0 0 ∨ OwnE InK ei w' w.heap.size u g) ∧ Below w.heap.size w w'
end Go.Proofs.YtdihngkdhanhkaaGreatDoor
namespace Go.Proofs.YtdihngkdhanhkaaGreatDoor
open Go.RowKit

end Go.Proofs.YtdihngkdhanhkaaGreatDoor
namespace Go.Proofs.YtdihngkdhanhkaaGreatDoor
open Go.RowKit

theorem close_none (l : List Se) (id : Int) (h : hasSe l id = false) : leaseE l id = 14 ∧ closeS l id = l := by
  refine ⟨by unfold leaseE; rw [h]; rfl, ?_⟩
  unfold closeS
  rw [List.filter_eq_self]
  intro x hx
  simpa using (hasSe_not l id).1 h x hx
theorem lease_yes (l : List Se) (id : Int) (h : hasSe l id = true) : leaseE l id = 0 := by unfold leaseE; rw [h]; rfl
end Go.Proofs.YtdihngkdhanhkaaGreatDoor
namespace Go.Proofs.YtdihngkdhanhkaaGreatDoor
open Go.RowKit

theorem touch_none (t : Int) (l : List Se) (id : Int) (h : hasSe l id = false) : leaseE l id = 14 ∧ touchS t l id = l := by
  refine ⟨(close_none l id h).1, ?_⟩
  unfold touchS
  rw [List.map_congr_left (g := fun x => x) fun x hx => ?_, List.map_id']
  unfold touch1
  rw [if_neg ((hasSe_not l id).1 h x hx)]
theorem touch_fit (t : Int) (l : List Se) (h : RightB t l) (x : Se) (hx : x ∈ l) : wrap64 (t + sP x) = t + sP x ∧ IntKind.i64.wrap (t + sP x) = t + sP x := by
  have h1 := h.lo
  have h2 := h.hi
  have h3 := h.fine x hx
  simp only [fineS, Bool.and_eq_true, decide_eq_true_eq] at h3
  refine ⟨?_, ?_⟩
  · unfold wrap64
    omega
  · rw [IntKind.wrap_i64]
    omega

end Go.Proofs.YtdihngkdhanhkaaGreatDoor
namespace Go.Proofs.YtdihngkdhanhkaaGreatDoor
open Go.RowKit

theorem open_err (t : Int) (l : List Se) (id sp : Int) (f : Nat) (h : openE l id sp = f) (h0 : f ≠ 0) : openE l id sp = f ∧ openS t l id sp = l := by
  refine ⟨h, ?_⟩
  unfold openS
  rw [if_neg (by rw [h]; exact h0)]
theorem open_ok (t : Int) (l : List Se) (id sp : Int) (h : openE l id sp = 0) : openE l id sp = 0 ∧ openS t l id sp = insS (id, sp, t + sp) l := by
  refine ⟨h, ?_⟩
  unfold openS
  rw [if_pos h]
theorem openE_arg (l : List Se) (id sp : Int) (h : id < 1 ∨ sp < 1 ∨ 1000 < sp) : openE l id sp = 1 := by unfold openE; rw [if_pos h]
theorem openE_has (l : List Se) (id sp : Int) (h : ¬ (id < 1 ∨ sp < 1 ∨ 1000 < sp)) (h2 : hasSe l id = true) : openE l id sp = 7 := by unfold openE; rw [if_neg h, if_pos h2]
theorem openE_full (l : List Se) (id sp : Int) (h : ¬ (id < 1 ∨ sp < 1 ∨ 1000 < sp)) (h2 : hasSe l id = false) (h3 : 50 ≤ l.length) : openE l id sp = 9 := by unfold openE; rw [if_neg h, if_neg (by rw [h2]; simp), if_pos h3]
theorem openE_ok (l : List Se) (id sp : Int) (h : ¬ (id < 1 ∨ sp < 1 ∨ 1000 < sp)) (h2 : hasSe l id = false) (h3 : ¬ 50 ≤ l.length) : openE l id sp = 0 := by unfold openE; rw [if_neg h, if_neg (by rw [h2]; simp), if_neg h3]
end Go.Proofs.YtdihngkdhanhkaaGreatDoor
