/-
  Texts J0 U0 E0 EA EB EC ED O0.
-/
import Derived.Test.YtdihngkdhanhkaaGreatDoorProg
import Derived.Lib.Strings
import Derived.Lib.Slices
import Derived.Lib.Small
import Derived.Lib.Walk
import Derived.Lib.BitFns
import Derived.WalkKit
import Derived.WalkLawsBesides
import Derived.Outline
import Derived.Lib.Hide
import Derived.BigQuiet
import Derived.LoopN
import Derived.Deep.QuietTactic
import Derived.Laws.BitsAllLaws
import Derived.Test.YtdihngkdhanhkaaGreatDoorZ01
import Derived.Test.YtdihngkdhanhkaaGreatDoorZ02
import Derived.Test.YtdihngkdhanhkaaGreatDoorZ03
import Derived.Test.YtdihngkdhanhkaaGreatDoorZ04
import Derived.Test.YtdihngkdhanhkaaGreatDoorZ07
namespace Go.Proofs.YtdihngkdhanhkaaGreatDoor
open Go.RowKit

/-- A session: its number, its span, and until when. -/
abbrev Se := Int × Int × Int
abbrev sI (x : Se) : Int := x.1
abbrev sP (x : Se) : Int := x.2.1
abbrev sU (x : Se) : Int := x.2.2
def se0 : Se := (0, 0, 0)

def fineS (t : Int) (x : Se) : Bool := decide (1 ≤ sI x) && decide (1 ≤ sP x) && decide (sP x ≤ 1000) && decide (t < sU x) && decide (sU x ≤ t + sP x)
def okS (t : Int) (l : List Se) (i : Nat) : Bool := fineS t (l.getD i se0) && (decide (i = 0) || decide (sI (l.getD (i - 1) se0) < sI (l.getD i se0)))
def rightS (t : Int) (l : List Se) : Bool := decide (0 ≤ t) && decide (t ≤ 1000000000) && decide (l.length ≤ 50) && (List.range l.length).all (okS t l)
def hasSe (l : List Se) (id : Int) : Bool := l.any fun x => sI x == id
def insS (x : Se) : List Se → List Se
  | [] => [x]
  | y :: r => if sI x < sI y then x :: y :: r else y :: insS x r
def openE (l : List Se) (id sp : Int) : Nat := if id < 1 ∨ sp < 1 ∨ 1000 < sp then 1 else if hasSe l id = true then 7 else if 50 ≤ l.length then 9 else 0
def openS (t : Int) (l : List Se) (id sp : Int) : List Se := if openE l id sp = 0 then insS (id, sp, t + sp) l else l
def leaseE (l : List Se) (id : Int) : Nat := if hasSe l id = true then 0 else 14
def touch1 (t id : Int) (x : Se) : Se := if sI x = id then (sI x, sP x, t + sP x) else x
def touchS (t : Int) (l : List Se) (id : Int) : List Se := l.map (touch1 t id)
def closeS (l : List Se) (id : Int) : List Se := l.filter fun x => decide (sI x ≠ id)
def tickE (t z : Int) : Nat := if z < t then 15 else if 1000000000 < z then 5 else 0
def tickT (t z : Int) : Int := if tickE t z = 0 then z else t
def lateS (z : Int) (x : Se) : Bool := decide (sU x ≤ z)
def tickS (t : Int) (l : List Se) (z : Int) : List Se := if tickE t z = 0 then l.filter fun x => !lateS z x else l
def goneS (t : Int) (l : List Se) (z : Int) : List Int := if tickE t z = 0 then (l.filter (lateS z)).map sI else []

/-- In the order of their numbers. -/
def ordS (l : List Se) : Prop := l.Pairwise fun x y => sI x < sI y
structure RightB (t : Int) (l : List Se) : Prop where
  lo : 0 ≤ t
  hi : t ≤ 1000000000
  few : l.length ≤ 50
  fine : ∀ x ∈ l, fineS t x = true
  order : ordS l

theorem getD_memS (l : List Se) (i : Nat) (hi : i < l.length) : l.getD i se0 ∈ l := by
  rw [List.getD_eq_getElem?_getD, List.getElem?_eq_getElem hi]
  exact List.getElem_mem _
theorem mem_getDS (l : List Se) (x : Se) (hx : x ∈ l) : ∃ i, i < l.length ∧ l.getD i se0 = x := by
  obtain ⟨i, hi, rfl⟩ := List.getElem_of_mem hx
  exact ⟨i, hi, by rw [List.getD_eq_getElem?_getD, List.getElem?_eq_getElem hi]; rfl⟩
theorem ordS_steps : ∀ (l : List Se), (∀ i, i + 1 < l.length → sI (l.getD i se0) < sI (l.getD (i + 1) se0)) → ordS l
  | [], _ => List.Pairwise.nil
  | [x], _ => by simp [ordS]
  | x :: y :: r, h => by
    have ih := ordS_steps (y :: r) fun i hi => by
      have := h (i + 1) (by simpa using hi)
      simpa using this
    have h0 : sI x < sI y := by simpa using h 0 (by simp)
    refine List.Pairwise.cons ?_ ih
    intro z hz
    rcases List.mem_cons.1 hz with rfl | hz
    · exact h0
    · exact Int.lt_trans h0 (List.rel_of_pairwise_cons ih hz)
theorem ordS_at (l : List Se) (h : ordS l) (i j : Nat) (hij : i < j) (hj : j < l.length) : sI (l.getD i se0) < sI (l.getD j se0) := by
  have := (List.pairwise_iff_getElem.1 h) i j (by omega) hj hij
  simpa [List.getD_eq_getElem?_getD, List.getElem?_eq_getElem hj, List.getElem?_eq_getElem (show i < l.length by omega)] using this
theorem ordS_same (l : List Se) (h : ordS l) (x y : Se) (hx : x ∈ l) (hy : y ∈ l) (e : sI x = sI y) : x = y := by
  obtain ⟨i, hi, rfl⟩ := mem_getDS l x hx
  obtain ⟨j, hj, rfl⟩ := mem_getDS l y hy
  by_cases h1 : i < j
  · have := ordS_at l h i j h1 hj; omega
  · by_cases h2 : j < i
    · have := ordS_at l h j i h2 hi; omega
    · have : i = j := by omega
      rw [this]
theorem rightS_iff (t : Int) (l : List Se) : rightS t l = true ↔ RightB t l := by
  unfold rightS
  simp only [Bool.and_eq_true, decide_eq_true_eq, List.all_eq_true, List.mem_range]
  constructor
  · rintro ⟨⟨⟨h1, h2⟩, h3⟩, h4⟩
    have hk : ∀ i, i < l.length → fineS t (l.getD i se0) = true ∧ (i = 0 ∨ sI (l.getD (i - 1) se0) < sI (l.getD i se0)) := by
      intro i hi
      have := h4 i hi
      unfold okS at this
      simpa only [Bool.and_eq_true, Bool.or_eq_true, decide_eq_true_eq] using this
    refine ⟨h1, h2, h3, ?_, ?_⟩
    · intro x hx
      obtain ⟨i, hi, rfl⟩ := mem_getDS l x hx
      exact (hk i hi).1
    · refine ordS_steps l fun i hi => ?_
      rcases (hk (i + 1) hi).2 with e | e
      · omega
      · simpa using e
  · rintro ⟨h1, h2, h3, h4, h5⟩
    refine ⟨⟨⟨h1, h2⟩, h3⟩, fun i hi => ?_⟩
    unfold okS
    simp only [Bool.and_eq_true, Bool.or_eq_true, decide_eq_true_eq]
    refine ⟨h4 _ (getD_memS l i hi), ?_⟩
    by_cases h0 : i = 0
    · exact .inl h0
    · exact .inr (ordS_at l h5 (i - 1) i (by omega) hi)
theorem okS_not (t : Int) (l : List Se) (i : Nat) (hi : i < l.length) (h : okS t l i = false) : rightS t l = false := by
  unfold rightS
  have : (List.range l.length).all (okS t l) = false := by
    rw [List.all_eq_false]
    exact ⟨i, List.mem_range.2 hi, by rw [h]; simp⟩
  rw [this]
  simp
theorem rightS_end (t : Int) (l : List Se) (h1 : 0 ≤ t) (h2 : t ≤ 1000000000) (h3 : l.length ≤ 50) (h : ∀ i, i < l.length → okS t l i = true) : rightS t l = true := by
  unfold rightS
  have : (List.range l.length).all (okS t l) = true := by
    rw [List.all_eq_true]
    intro i hi
    exact h i (List.mem_range.1 hi)
  rw [this]
  simp [h1, h2, h3]
theorem rightS_head (t : Int) (l : List Se) (h : t < 0 ∨ 1000000000 < t ∨ 50 < l.length) : rightS t l = false := by
  unfold rightS
  rcases h with h | h | h
  · rw [decide_eq_false (show ¬ 0 ≤ t by omega)]; simp
  · rw [decide_eq_false (show ¬ t ≤ 1000000000 by omega)]; simp
  · rw [decide_eq_false (show ¬ l.length ≤ 50 by omega)]; simp

theorem hasS_iff (l : List Se) (id : Int) : hasSe l id = true ↔ ∃ x ∈ l, sI x = id := by
  unfold hasSe
  rw [List.any_eq_true]
  simp
theorem hasSe_not (l : List Se) (id : Int) : hasSe l id = false ↔ ∀ x ∈ l, sI x ≠ id := by
  rw [← Bool.not_eq_true, hasS_iff]
  simp
theorem insS_mem (x : Se) : ∀ (l : List Se) (y : Se), y ∈ insS x l ↔ y = x ∨ y ∈ l
  | [], y => by simp [insS]
  | z :: r, y => by
    unfold insS
    split
    · simp
    · rw [List.mem_cons, insS_mem x r y, List.mem_cons]
      constructor
      · rintro (h | h | h)
        · exact .inr (.inl h)
        · exact .inl h
        · exact .inr (.inr h)
      · rintro (h | h | h)
        · exact .inr (.inl h)
        · exact .inl h
        · exact .inr (.inr h)
theorem insS_len (x : Se) : ∀ l : List Se, (insS x l).length = l.length + 1
  | [] => rfl
  | z :: r => by
    unfold insS
    split
    · simp
    · simp [insS_len x r]
theorem insS_ord (x : Se) : ∀ l : List Se, ordS l → (∀ y ∈ l, sI y ≠ sI x) → ordS (insS x l)
  | [], _, _ => by simp [insS, ordS]
  | z :: r, h, hn => by
    unfold insS
    split
    · rename_i hlt
      refine List.Pairwise.cons ?_ h
      intro y hy
      rcases List.mem_cons.1 hy with rfl | hy
      · exact hlt
      · exact Int.lt_trans hlt (List.rel_of_pairwise_cons h hy)
    · rename_i hlt
      refine List.Pairwise.cons ?_ (insS_ord x r h.of_cons fun y hy => hn y (List.mem_cons_of_mem _ hy))
      intro y hy
      rcases (insS_mem x r y).1 hy with rfl | hy
      · have := hn z (List.mem_cons_self ..)
        omega
      · exact List.rel_of_pairwise_cons h hy
theorem open_yes (l : List Se) (id sp : Int) (h : openE l id sp = 0) : 1 ≤ id ∧ 1 ≤ sp ∧ sp ≤ 1000 ∧ hasSe l id = false ∧ l.length < 50 := by
  unfold openE at h
  split at h
  · cases h
  · rename_i h1
    split at h
    · cases h
    · rename_i h2
      split at h
      · cases h
      · rename_i h3
        exact ⟨by omega, by omega, by omega, by simpa using h2, by omega⟩
theorem right_open (t : Int) (l : List Se) (id sp : Int) (h : RightB t l) : RightB t (openS t l id sp) := by
  unfold openS
  split
  · rename_i he
    obtain ⟨h1, h2, h3, h4, h5⟩ := open_yes l id sp he
    refine ⟨h.lo, h.hi, by rw [insS_len]; omega, ?_, insS_ord _ _ h.order fun y hy e => (hasSe_not l id).1 h4 y hy e⟩
    intro x hx
    rcases (insS_mem _ l x).1 hx with rfl | hx
    · simp only [fineS, sI, sP, sU, Bool.and_eq_true, decide_eq_true_eq]; omega
    · exact h.fine x hx
  · exact h
theorem fine_touch (t id : Int) (x : Se) (h : fineS t x = true) : fineS t (touch1 t id x) = true := by
  unfold touch1
  split
  · simp only [fineS, sI, sP, sU, Bool.and_eq_true, decide_eq_true_eq] at h ⊢
    omega
  · exact h
theorem touch_id (t id : Int) (x : Se) : sI (touch1 t id x) = sI x := by
  unfold touch1
  split <;> rfl
theorem right_touch (t : Int) (l : List Se) (id : Int) (h : RightB t l) : RightB t (touchS t l id) := by
  refine ⟨h.lo, h.hi, by unfold touchS; rw [List.length_map]; exact h.few, ?_, ?_⟩
  · intro x hx
    obtain ⟨y, hy, rfl⟩ := List.mem_map.1 hx
    exact fine_touch t id y (h.fine y hy)
  · unfold touchS ordS
    rw [List.pairwise_map]
    exact h.order.imp fun {a b} hab => by rw [touch_id, touch_id]; exact hab
theorem right_close (t : Int) (l : List Se) (id : Int) (h : RightB t l) : RightB t (closeS l id) :=
  ⟨h.lo, h.hi, Nat.le_trans (List.length_filter_le _ _) h.few, fun x hx => h.fine x (List.mem_filter.1 hx).1, h.order.filter _⟩
theorem tick_yes (t z : Int) (h : tickE t z = 0) : t ≤ z ∧ z ≤ 1000000000 := by
  unfold tickE at h
  split at h
  · cases h
  · split at h
    · cases h
    · omega
theorem tick_of (t z : Int) (h1 : t ≤ z) (h2 : z ≤ 1000000000) : tickE t z = 0 := by
  unfold tickE
  rw [if_neg (by omega), if_neg (by omega)]
theorem right_tick (t : Int) (l : List Se) (z : Int) (h : RightB t l) : RightB (tickT t z) (tickS t l z) := by
  unfold tickT tickS
  split
  · rename_i he
    obtain ⟨h1, h2⟩ := tick_yes t z he
    refine ⟨by have := h.lo; omega, h2, Nat.le_trans (List.length_filter_le _ _) h.few, ?_, h.order.filter _⟩
    intro x hx
    have hm := List.mem_filter.1 hx
    have hf := h.fine x hm.1
    have hl := hm.2
    simp only [lateS, Bool.not_eq_true', decide_eq_false_iff_not] at hl
    simp only [fineS, Bool.and_eq_true, decide_eq_true_eq] at hf ⊢
    omega
  · exact h

end Go.Proofs.YtdihngkdhanhkaaGreatDoor
namespace Go.Proofs.YtdihngkdhanhkaaGreatDoor
open Go.RowKit

/-- A watch: its path, its client, whether it watches the children. A change: its kind, its path. An event: a watch, a change. -/
abbrev Wa := List UInt8 × Int × Bool
abbrev wP (x : Wa) : List UInt8 := x.1
abbrev wC (x : Wa) : Int := x.2.1
abbrev wK (x : Wa) : Bool := x.2.2
def wa0 : Wa := ([], 0, false)
abbrev Ch := Int × List UInt8
abbrev cK (x : Ch) : Int := x.1
abbrev cP (x : Ch) : List UInt8 := x.2
def ch0 : Ch := (0, [])
abbrev Ev := Wa × Ch
def ev0 : Ev := (wa0, ch0)

def kidsB (c : Ch) (w : Wa) : Bool := decide (cK c ≠ 2) && (decide (parentE (cP c) = 0) && decide (parentS (cP c) = wP w))
def touchB (c : Ch) (w : Wa) : Bool := (decide (1 ≤ cK c) && decide (cK c ≤ 3) && rightB (cP c)) && (if wK w = true then kidsB c w else decide (cP c = wP w))
def hasW (l : List Wa) (w : Wa) : Bool := l.any fun x => decide (x = w)
def fineW (w : Wa) : Bool := rightB (wP w) && decide (0 ≤ wC w)
def okW (l : List Wa) (i : Nat) : Bool := fineW (l.getD i wa0) && !hasW (l.take i) (l.getD i wa0)
def rightW (l : List Wa) : Bool := (List.range l.length).all (okW l) && decide (l.length ≤ 200)
def addE (l : List Wa) (w : Wa) : Nat := if rightB (wP w) = false then 13 else if wC w < 0 then 1 else if hasW l w = true then 0 else if 200 ≤ l.length then 9 else 0
def addW (l : List Wa) (w : Wa) : List Wa := if addE l w = 0 ∧ hasW l w = false then l ++ [w] else l
def stayW (c : Ch) (l : List Wa) : List Wa := l.filter fun w => !touchB c w
def toldW (c : Ch) (l : List Wa) : List Ev := (l.filter (touchB c)).map fun w => (w, c)
def leftW : List Wa → List Ch → List Wa
  | l, [] => l
  | l, c :: r => leftW (stayW c l) r
def fireW : List Wa → List Ch → List Ev
  | _, [] => []
  | l, c :: r => toldW c l ++ fireW (stayW c l) r
structure RightW (l : List Wa) : Prop where
  few : l.length ≤ 200
  fine : ∀ x ∈ l, fineW x = true
  once : l.Nodup

theorem hasW_iff (l : List Wa) (w : Wa) : hasW l w = true ↔ w ∈ l := by
  unfold hasW
  rw [List.any_eq_true]
  constructor
  · rintro ⟨x, hx, h⟩
    rw [decide_eq_true_eq] at h
    rw [← h]; exact hx
  · intro h
    exact ⟨w, h, by simp⟩
theorem hasW_not (l : List Wa) (w : Wa) : hasW l w = false ↔ w ∉ l := by
  rw [← Bool.not_eq_true, hasW_iff]
theorem getD_memW {α : Type} (l : List α) (d : α) (i : Nat) (hi : i < l.length) : l.getD i d ∈ l := by
  rw [List.getD_eq_getElem?_getD, List.getElem?_eq_getElem hi]
  exact List.getElem_mem _
theorem mem_getDW {α : Type} (l : List α) (d x : α) (hx : x ∈ l) : ∃ i, i < l.length ∧ l.getD i d = x := by
  obtain ⟨i, hi, rfl⟩ := List.getElem_of_mem hx
  exact ⟨i, hi, by rw [List.getD_eq_getElem?_getD, List.getElem?_eq_getElem hi]; rfl⟩
theorem take_snocW {α : Type} (l : List α) (d : α) (i : Nat) (hi : i < l.length) : l.take (i + 1) = l.take i ++ [l.getD i d] := by
  rw [List.take_add_one, List.getD_eq_getElem?_getD, List.getElem?_eq_getElem hi]
  rfl
theorem rightW_iff (l : List Wa) : rightW l = true ↔ RightW l := by
  unfold rightW
  rw [Bool.and_eq_true, decide_eq_true_eq, List.all_eq_true]
  have e : ∀ i (hi : i < l.length), l.getD i wa0 = l[i] := fun i hi => by rw [List.getD_eq_getElem?_getD, List.getElem?_eq_getElem hi]; rfl
  constructor
  · rintro ⟨h, hf⟩
    have hk : ∀ i, i < l.length → fineW (l.getD i wa0) = true ∧ l.getD i wa0 ∉ l.take i := by
      intro i hi
      have := h i (List.mem_range.2 hi)
      unfold okW at this
      rw [Bool.and_eq_true, Bool.not_eq_true', hasW_not] at this
      exact this
    refine ⟨hf, ?_, ?_⟩
    · intro x hx
      obtain ⟨i, hi, rfl⟩ := mem_getDW l wa0 x hx
      exact (hk i hi).1
    · rw [List.nodup_iff_pairwise_ne, List.pairwise_iff_getElem]
      intro i j hi hj hij heq
      refine (hk j hj).2 ?_
      rw [e j hj, ← heq, List.mem_take_iff_getElem]
      exact ⟨i, by omega, rfl⟩
  · rintro ⟨h1, h2, h3⟩
    refine ⟨fun i hi => ?_, h1⟩
    have hi := List.mem_range.1 hi
    unfold okW
    rw [Bool.and_eq_true, Bool.not_eq_true', hasW_not]
    refine ⟨h2 _ (getD_memW l wa0 i hi), fun hc => ?_⟩
    rw [e i hi, List.mem_take_iff_getElem] at hc
    obtain ⟨j, hj, heq⟩ := hc
    have := (List.pairwise_iff_getElem.1 (List.nodup_iff_pairwise_ne.1 h3)) j i (by omega) hi (by omega)
    exact this heq
theorem okW_not (l : List Wa) (i : Nat) (hi : i < l.length) (h : okW l i = false) : rightW l = false := by
  unfold rightW
  have : (List.range l.length).all (okW l) = false := by
    rw [List.all_eq_false]
    exact ⟨i, List.mem_range.2 hi, by rw [h]; simp⟩
  rw [this]
  rfl
theorem rightW_end (l : List Wa) (h : ∀ i, i < l.length → okW l i = true) : rightW l = decide (l.length ≤ 200) := by
  unfold rightW
  have : (List.range l.length).all (okW l) = true := by
    rw [List.all_eq_true]
    intro i hi
    exact h i (List.mem_range.1 hi)
  rw [this]
  rfl
theorem toldW_snoc (c : Ch) (l : List Wa) (i : Nat) (hi : i < l.length) : toldW c (l.take (i + 1)) = toldW c (l.take i) ++ (if touchB c (l.getD i wa0) = true then [(l.getD i wa0, c)] else []) := by
  rw [take_snocW l wa0 i hi]
  unfold toldW
  rw [List.filter_append, List.map_append]
  by_cases h : touchB c (l.getD i wa0) = true
  · rw [if_pos h, List.filter_cons_of_pos h]
    rfl
  · rw [if_neg h, List.filter_cons_of_neg h]
    rfl
theorem told_len (c : Ch) (l : List Wa) : (toldW c l).length + (stayW c l).length = l.length := by
  unfold toldW stayW
  induction l with
  | nil => rfl
  | cons x r ih =>
    by_cases h : touchB c x = true
    · rw [List.filter_cons_of_pos h, List.filter_cons_of_neg (by simpa using h)]
      simp only [List.map_cons, List.length_cons] at ih ⊢
      omega
    · rw [List.filter_cons_of_neg h, List.filter_cons_of_pos (by simpa using h)]
      simp only [List.length_cons] at ih ⊢
      omega
theorem leftW_append : ∀ (l : List Wa) (a b : List Ch), leftW l (a ++ b) = leftW (leftW l a) b
  | _, [], _ => rfl
  | l, c :: r, b => leftW_append (stayW c l) r b
theorem fireW_append : ∀ (l : List Wa) (a b : List Ch), fireW l (a ++ b) = fireW l a ++ fireW (leftW l a) b
  | _, [], _ => rfl
  | l, c :: r, b => by
    show toldW c l ++ fireW (stayW c l) (r ++ b) = (toldW c l ++ fireW (stayW c l) r) ++ fireW (leftW (stayW c l) r) b
    rw [fireW_append (stayW c l) r b, List.append_assoc]
theorem leftW_snoc (l : List Wa) (cs : List Ch) (i : Nat) (hi : i < cs.length) : leftW l (cs.take (i + 1)) = stayW (cs.getD i ch0) (leftW l (cs.take i)) := by
  rw [take_snocW cs ch0 i hi, leftW_append]
  rfl
theorem fireW_snoc (l : List Wa) (cs : List Ch) (i : Nat) (hi : i < cs.length) : fireW l (cs.take (i + 1)) = fireW l (cs.take i) ++ toldW (cs.getD i ch0) (leftW l (cs.take i)) := by
  rw [take_snocW cs ch0 i hi, fireW_append]
  show _ ++ (toldW _ _ ++ []) = _
  rw [List.append_nil]
theorem fire_len : ∀ (l : List Wa) (cs : List Ch), (leftW l cs).length + (fireW l cs).length = l.length
  | _, [] => rfl
  | l, c :: r => by
    have h1 := fire_len (stayW c l) r
    have h2 := told_len c l
    show (leftW (stayW c l) r).length + (toldW c l ++ fireW (stayW c l) r).length = l.length
    rw [List.length_append]
    omega
theorem leftW_len (l : List Wa) (cs : List Ch) : (leftW l cs).length ≤ l.length := by have := fire_len l cs; omega
theorem leftW_sub : ∀ (l : List Wa) (cs : List Ch), (leftW l cs).Sublist l
  | _, [] => List.Sublist.refl _
  | l, c :: r => (leftW_sub (stayW c l) r).trans List.filter_sublist
theorem right_sub (l m : List Wa) (h : RightW l) (hm : m.Sublist l) : RightW m := ⟨Nat.le_trans hm.length_le h.few, fun x hx => h.fine x (hm.subset hx), h.once.sublist hm⟩
theorem right_left (l : List Wa) (cs : List Ch) (h : RightW l) : RightW (leftW l cs) := right_sub l _ h (leftW_sub l cs)
theorem right_add (l : List Wa) (w : Wa) (h : RightW l) : RightW (addW l w) := by
  unfold addW
  split
  · rename_i hh
    obtain ⟨h1, h2⟩ := hh
    unfold addE at h1
    split at h1
    · cases h1
    · rename_i hr
      split at h1
      · cases h1
      · rename_i hc
        rw [if_neg (by rw [h2]; simp)] at h1
        split at h1
        · cases h1
        · rename_i hl
          refine ⟨by simp; omega, fun x hx => ?_, ?_⟩
          · rcases List.mem_append.1 hx with hx | hx
            · exact h.fine x hx
            · rw [List.mem_singleton] at hx
              subst hx
              unfold fineW
              rw [show rightB (wP x) = true by simpa using hr, decide_eq_true (by omega)]; rfl
          · rw [List.nodup_append]
            refine ⟨h.once, by simp, fun a ha b hb e => ?_⟩
            rw [List.mem_singleton] at hb
            subst hb e
            exact (hasW_not _ _).1 h2 ha
  · exact h
theorem addE_path (l : List Wa) (w : Wa) (h : rightB (wP w) = false) : addE l w = 13 ∧ addW l w = l := by
  have e : addE l w = 13 := by unfold addE; rw [if_pos h]
  refine ⟨e, ?_⟩
  unfold addW
  rw [if_neg]
  rw [e]
  simp
theorem addE_arg (l : List Wa) (w : Wa) (h : rightB (wP w) = true) (h2 : wC w < 0) : addE l w = 1 ∧ addW l w = l := by
  have e : addE l w = 1 := by unfold addE; rw [if_neg (by rw [h]; simp), if_pos h2]
  refine ⟨e, ?_⟩
  unfold addW
  rw [if_neg]
  rw [e]
  simp
theorem addE_has (l : List Wa) (w : Wa) (h : rightB (wP w) = true) (h2 : ¬ wC w < 0) (h3 : hasW l w = true) : addE l w = 0 ∧ addW l w = l := by
  refine ⟨by unfold addE; rw [if_neg (by rw [h]; simp), if_neg h2, if_pos h3], ?_⟩
  unfold addW
  rw [if_neg]
  rw [h3]
  simp
theorem addE_full (l : List Wa) (w : Wa) (h : rightB (wP w) = true) (h2 : ¬ wC w < 0) (h3 : hasW l w = false) (h4 : 200 ≤ l.length) : addE l w = 9 ∧ addW l w = l := by
  have e : addE l w = 9 := by unfold addE; rw [if_neg (by rw [h]; simp), if_neg h2, if_neg (by rw [h3]; simp), if_pos h4]
  refine ⟨e, ?_⟩
  unfold addW
  rw [if_neg]
  rw [e]
  simp
theorem addE_ok (l : List Wa) (w : Wa) (h : rightB (wP w) = true) (h2 : ¬ wC w < 0) (h3 : hasW l w = false) (h4 : ¬ 200 ≤ l.length) : addE l w = 0 ∧ addW l w = l ++ [w] := by
  have e : addE l w = 0 := by unfold addE; rw [if_neg (by rw [h]; simp), if_neg h2, if_neg (by rw [h3]; simp), if_neg h4]
  refine ⟨e, ?_⟩
  unfold addW
  rw [if_pos ⟨e, h3⟩]
end Go.Proofs.YtdihngkdhanhkaaGreatDoor
namespace Go.Proofs.YtdihngkdhanhkaaGreatDoor

end Go.Proofs.YtdihngkdhanhkaaGreatDoor
namespace Go.Proofs.YtdihngkdhanhkaaGreatDoor
open Go.RowKit

end Go.Proofs.YtdihngkdhanhkaaGreatDoor

namespace Go.Proofs.YtdihngkdhanhkaaGreatDoor
open Go.RowKit

end Go.Proofs.YtdihngkdhanhkaaGreatDoor

namespace Go.Proofs.YtdihngkdhanhkaaGreatDoor
open Go.RowKit

end Go.Proofs.YtdihngkdhanhkaaGreatDoor
namespace Go.Proofs.YtdihngkdhanhkaaGreatDoor
open Go.RowKit
set_option linter.unusedVariables false

end Go.Proofs.YtdihngkdhanhkaaGreatDoor

namespace Go.Proofs.YtdihngkdhanhkaaGreatDoor
open Go.RowKit
set_option linter.unusedVariables false

end Go.Proofs.YtdihngkdhanhkaaGreatDoor
namespace Go.Proofs.YtdihngkdhanhkaaGreatDoor
open Go.RowKit
set_option linter.unusedVariables false

end Go.Proofs.YtdihngkdhanhkaaGreatDoor

namespace Go.Proofs.YtdihngkdhanhkaaGreatDoor
open Go.RowKit
set_option linter.unusedVariables false

/-- What a string is taken of: its bytes, what is left, and the error: 5 large. -/
def takeS (l : List UInt8) (most : Int) : List UInt8 × List UInt8 × Nat :=
  if (takeN l).2.2 ≠ 0 then ([], [], (takeN l).2.2)
  else if max most 0 < ((takeN l).1 : Int) then ([], [], 5)
  else if (takeN l).2.1.length < (takeN l).1 then ([], [], 2)
  else ((takeN l).2.1.take (takeN l).1, (takeN l).2.1.drop (takeN l).1, 0)

end Go.Proofs.YtdihngkdhanhkaaGreatDoor

namespace Go.Proofs.YtdihngkdhanhkaaGreatDoor
open Go.RowKit
set_option linter.unusedVariables false

/-- k strings, one behind the other: the strings, what is left, and the first error. -/
def takeK : Nat → List UInt8 → Int → List ByteArray × List UInt8 × Nat
  | 0, l, _ => ([], l, 0)
  | k + 1, l, m =>
    if (takeS l m).2.2 ≠ 0 then ([], [], (takeS l m).2.2)
    else if (takeK k (takeS l m).2.1 m).2.2 ≠ 0 then ([], [], (takeK k (takeS l m).2.1 m).2.2)
    else (⟨(takeS l m).1.toArray⟩ :: (takeK k (takeS l m).2.1 m).1, (takeK k (takeS l m).2.1 m).2.1, 0)

/-- What was taken so far, ahead of what is still taken. -/
def pre (acc : List ByteArray) (r : List ByteArray × List UInt8 × Nat) : List ByteArray × List UInt8 × Nat :=
  if r.2.2 ≠ 0 then ([], [], r.2.2) else (acc ++ r.1, r.2.1, 0)

end Go.Proofs.YtdihngkdhanhkaaGreatDoor
namespace Go.Proofs.YtdihngkdhanhkaaGreatDoor
open Go.RowKit
set_option linter.unusedVariables false

end Go.Proofs.YtdihngkdhanhkaaGreatDoor
namespace Go.Proofs.YtdihngkdhanhkaaGreatDoor

/-- An order: client, seq, kind, path, value, version, session, span. -/
abbrev Or := Int × Int × Int × List UInt8 × List UInt8 × Int × Int × Int
instance dec5O : DecidableEq (List UInt8 × List UInt8 × Int × Int × Int) := fun _ _ => inferInstance
instance decO : DecidableEq Or := fun a b => inferInstanceAs (Decidable ((a : Int × Int × Int × (List UInt8 × List UInt8 × Int × Int × Int)) = b))
abbrev oC (o : Or) : Int := o.1
abbrev oQ (o : Or) : Int := o.2.1
abbrev oK (o : Or) : Int := o.2.2.1
abbrev oP (o : Or) : List UInt8 := o.2.2.2.1
abbrev oV (o : Or) : List UInt8 := o.2.2.2.2.1
abbrev oR (o : Or) : Int := o.2.2.2.2.2.1
abbrev oS (o : Or) : Int := o.2.2.2.2.2.2.1
abbrev oT (o : Or) : Int := o.2.2.2.2.2.2.2
def or0 : Or := (0, 0, 0, [], [], 0, 0, 0)
/-- A reply: client, seq, fault, value, version, names. -/
abbrev Rp := Int × Int × Int × List UInt8 × Int × List ByteArray
abbrev pC (r : Rp) : Int := r.1
abbrev pQ (r : Rp) : Int := r.2.1
abbrev pE (r : Rp) : Int := r.2.2.1
abbrev pV (r : Rp) : List UInt8 := r.2.2.2.1
abbrev pR (r : Rp) : Int := r.2.2.2.2.1
abbrev pN (r : Rp) : List ByteArray := r.2.2.2.2.2
def rp0 : Rp := (0, 0, 0, [], 0, [])

def ba (l : List UInt8) : ByteArray := ⟨l.toArray⟩
/-- Which of path, value, version, session, span a kind uses: p v n s t. -/
def usesT (k : Int) : List UInt8 :=
  if k = 1 then [112, 118, 115] else if k = 2 ∨ k = 5 ∨ k = 10 ∨ k = 11 then [112] else if k = 3 then [112, 118, 110] else if k = 4 then [112, 110] else if k = 6 then [115, 116] else if k = 7 ∨ k = 8 then [115] else if k = 9 then [116] else []
def sizedO (o : Or) : Bool := decide (0 ≤ oC o) && decide (oC o ≤ 1000) && decide (1 ≤ oQ o) && decide (oQ o ≤ 1000000000) && decide (0 ≤ oK o) && decide (oK o ≤ 11) && decide ((oP o).length ≤ 100) && decide ((oV o).length ≤ 1000)
def usedO (o : Or) : Bool :=
  ((usesT (oK o)).contains 112 || decide (oP o = [])) && ((usesT (oK o)).contains 118 || decide (oV o = [])) && ((usesT (oK o)).contains 110 || decide (oR o = 0)) && ((usesT (oK o)).contains 115 || decide (oS o = 0)) && ((usesT (oK o)).contains 116 || decide (oT o = 0))
def mayO (o : Or) : Bool := sizedO o && usedO o
theorem may_sized {o : Or} (h : mayO o = true) : 0 ≤ oC o ∧ oC o ≤ 1000 ∧ 1 ≤ oQ o ∧ oQ o ≤ 1000000000 ∧ 0 ≤ oK o ∧ oK o ≤ 11 ∧ (oP o).length ≤ 100 ∧ (oV o).length ≤ 1000 := by
  unfold mayO sizedO at h
  simp only [Bool.and_eq_true, decide_eq_true_eq] at h
  omega
end Go.Proofs.YtdihngkdhanhkaaGreatDoor
