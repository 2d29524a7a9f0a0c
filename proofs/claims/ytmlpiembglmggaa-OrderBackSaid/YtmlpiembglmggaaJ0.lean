/-
  Books of sessions, in plain terms: sessions, what each change comes to, what is right.
-/
import Derived.Test.YtmlpiembglmggaaRZ
namespace Go.Proofs.Ytmlpiembglmggaa
open Go.RowKit

/-- A session: its number, its span, and until when. -/
abbrev Se := Int × Int × Int
abbrev sI (x : Se) : Int := x.1
abbrev sP (x : Se) : Int := x.2.1
abbrev sU (x : Se) : Int := x.2.2
def se0 : Se := (0, 0, 0)

def fineS (t : Int) (x : Se) : Bool := decide (1 ≤ sI x) && decide (1 ≤ sP x) && decide (sP x ≤ 1000) && decide (t < sU x) && decide (sU x ≤ t + sP x)
def okS (t : Int) (l : List Se) (i : Nat) : Bool := fineS t (l.getD i se0) && (decide (i = 0) || decide (sI (l.getD (i - 1) se0) < sI (l.getD i se0)))
def rightS (t : Int) (l : List Se) : Bool := decide (0 ≤ t) && decide (t ≤ 1000000000) && decide (l.length ≤ 50) && (List.range l.length).all (okS t l)
def hasS (l : List Se) (id : Int) : Bool := l.any fun x => sI x == id
def insS (x : Se) : List Se → List Se
  | [] => [x]
  | y :: r => if sI x < sI y then x :: y :: r else y :: insS x r
def openE (l : List Se) (id sp : Int) : Nat := if id < 1 ∨ sp < 1 ∨ 1000 < sp then 1 else if hasS l id = true then 7 else if 50 ≤ l.length then 9 else 0
def openS (t : Int) (l : List Se) (id sp : Int) : List Se := if openE l id sp = 0 then insS (id, sp, t + sp) l else l
def leaseE (l : List Se) (id : Int) : Nat := if hasS l id = true then 0 else 14
def touch1 (t id : Int) (x : Se) : Se := if sI x = id then (sI x, sP x, t + sP x) else x
def touchS (t : Int) (l : List Se) (id : Int) : List Se := l.map (touch1 t id)
def closeS (l : List Se) (id : Int) : List Se := l.filter fun x => decide (sI x ≠ id)
def tickE (t z : Int) : Nat := if z < t then 15 else if 1000000000 < z then 5 else 0
def tickT (t z : Int) : Int := if tickE t z = 0 then z else t
def lateS (z : Int) (x : Se) : Bool := decide (sU x ≤ z)
def tickS (t : Int) (l : List Se) (z : Int) : List Se := if tickE t z = 0 then l.filter fun x => !lateS z x else l
def goneS (t : Int) (l : List Se) (z : Int) : List Int := if tickE t z = 0 then (l.filter (lateS z)).map sI else []

/-- In the order of their numbers. -/
def ordS (l : List Se) : Prop := l.Pairwise fun x y => sI x < sI y
structure RightB (t : Int) (l : List Se) : Prop where
  lo : 0 ≤ t
  hi : t ≤ 1000000000
  few : l.length ≤ 50
  fine : ∀ x ∈ l, fineS t x = true
  order : ordS l

theorem getD_memS (l : List Se) (i : Nat) (hi : i < l.length) : l.getD i se0 ∈ l := by
  rw [List.getD_eq_getElem?_getD, List.getElem?_eq_getElem hi]
  exact List.getElem_mem _
theorem mem_getDS (l : List Se) (x : Se) (hx : x ∈ l) : ∃ i, i < l.length ∧ l.getD i se0 = x := by
  obtain ⟨i, hi, rfl⟩ := List.getElem_of_mem hx
  exact ⟨i, hi, by rw [List.getD_eq_getElem?_getD, List.getElem?_eq_getElem hi]; rfl⟩
theorem ordS_steps : ∀ (l : List Se), (∀ i, i + 1 < l.length → sI (l.getD i se0) < sI (l.getD (i + 1) se0)) → ordS l
  | [], _ => List.Pairwise.nil
  | [x], _ => by simp [ordS]
  | x :: y :: r, h => by
    have ih := ordS_steps (y :: r) fun i hi => by
      have := h (i + 1) (by simpa using hi)
      simpa using this
    have h0 : sI x < sI y := by simpa using h 0 (by simp)
    refine List.Pairwise.cons ?_ ih
    intro z hz
    rcases List.mem_cons.1 hz with rfl | hz
    · exact h0
    · exact Int.lt_trans h0 (List.rel_of_pairwise_cons ih hz)
theorem ordS_at (l : List Se) (h : ordS l) (i j : Nat) (hij : i < j) (hj : j < l.length) : sI (l.getD i se0) < sI (l.getD j se0) := by
  have := (List.pairwise_iff_getElem.1 h) i j (by omega) hj hij
  simpa [List.getD_eq_getElem?_getD, List.getElem?_eq_getElem hj, List.getElem?_eq_getElem (show i < l.length by omega)] using this
theorem ordS_same (l : List Se) (h : ordS l) (x y : Se) (hx : x ∈ l) (hy : y ∈ l) (e : sI x = sI y) : x = y := by
  obtain ⟨i, hi, rfl⟩ := mem_getDS l x hx
  obtain ⟨j, hj, rfl⟩ := mem_getDS l y hy
  by_cases h1 : i < j
  · have := ordS_at l h i j h1 hj; omega
  · by_cases h2 : j < i
    · have := ordS_at l h j i h2 hi; omega
    · have : i = j := by omega
      rw [this]
theorem rightS_iff (t : Int) (l : List Se) : rightS t l = true ↔ RightB t l := by
  unfold rightS
  simp only [Bool.and_eq_true, decide_eq_true_eq, List.all_eq_true, List.mem_range]
  constructor
  · rintro ⟨⟨⟨h1, h2⟩, h3⟩, h4⟩
    have hk : ∀ i, i < l.length → fineS t (l.getD i se0) = true ∧ (i = 0 ∨ sI (l.getD (i - 1) se0) < sI (l.getD i se0)) := by
      intro i hi
      have := h4 i hi
      unfold okS at this
      simpa only [Bool.and_eq_true, Bool.or_eq_true, decide_eq_true_eq] using this
    refine ⟨h1, h2, h3, ?_, ?_⟩
    · intro x hx
      obtain ⟨i, hi, rfl⟩ := mem_getDS l x hx
      exact (hk i hi).1
    · refine ordS_steps l fun i hi => ?_
      rcases (hk (i + 1) hi).2 with e | e
      · omega
      · simpa using e
  · rintro ⟨h1, h2, h3, h4, h5⟩
    refine ⟨⟨⟨h1, h2⟩, h3⟩, fun i hi => ?_⟩
    unfold okS
    simp only [Bool.and_eq_true, Bool.or_eq_true, decide_eq_true_eq]
    refine ⟨h4 _ (getD_memS l i hi), ?_⟩
    by_cases h0 : i = 0
    · exact .inl h0
    · exact .inr (ordS_at l h5 (i - 1) i (by omega) hi)
theorem okS_not (t : Int) (l : List Se) (i : Nat) (hi : i < l.length) (h : okS t l i = false) : rightS t l = false := by
  unfold rightS
  have : (List.range l.length).all (okS t l) = false := by
    rw [List.all_eq_false]
    exact ⟨i, List.mem_range.2 hi, by rw [h]; simp⟩
  rw [this]
  simp
theorem rightS_end (t : Int) (l : List Se) (h1 : 0 ≤ t) (h2 : t ≤ 1000000000) (h3 : l.length ≤ 50) (h : ∀ i, i < l.length → okS t l i = true) : rightS t l = true := by
  unfold rightS
  have : (List.range l.length).all (okS t l) = true := by
    rw [List.all_eq_true]
    intro i hi
    exact h i (List.mem_range.1 hi)
  rw [this]
  simp [h1, h2, h3]
theorem rightS_head (t : Int) (l : List Se) (h : t < 0 ∨ 1000000000 < t ∨ 50 < l.length) : rightS t l = false := by
  unfold rightS
  rcases h with h | h | h
  · rw [decide_eq_false (show ¬ 0 ≤ t by omega)]; simp
  · rw [decide_eq_false (show ¬ t ≤ 1000000000 by omega)]; simp
  · rw [decide_eq_false (show ¬ l.length ≤ 50 by omega)]; simp

theorem hasS_iff (l : List Se) (id : Int) : hasS l id = true ↔ ∃ x ∈ l, sI x = id := by
  unfold hasS
  rw [List.any_eq_true]
  simp
theorem hasS_not (l : List Se) (id : Int) : hasS l id = false ↔ ∀ x ∈ l, sI x ≠ id := by
  rw [← Bool.not_eq_true, hasS_iff]
  simp
theorem insS_mem (x : Se) : ∀ (l : List Se) (y : Se), y ∈ insS x l ↔ y = x ∨ y ∈ l
  | [], y => by simp [insS]
  | z :: r, y => by
    unfold insS
    split
    · simp
    · rw [List.mem_cons, insS_mem x r y, List.mem_cons]
      constructor
      · rintro (h | h | h)
        · exact .inr (.inl h)
        · exact .inl h
        · exact .inr (.inr h)
      · rintro (h | h | h)
        · exact .inr (.inl h)
        · exact .inl h
        · exact .inr (.inr h)
theorem insS_len (x : Se) : ∀ l : List Se, (insS x l).length = l.length + 1
  | [] => rfl
  | z :: r => by
    unfold insS
    split
    · simp
    · simp [insS_len x r]
theorem insS_ord (x : Se) : ∀ l : List Se, ordS l → (∀ y ∈ l, sI y ≠ sI x) → ordS (insS x l)
  | [], _, _ => by simp [insS, ordS]
  | z :: r, h, hn => by
    unfold insS
    split
    · rename_i hlt
      refine List.Pairwise.cons ?_ h
      intro y hy
      rcases List.mem_cons.1 hy with rfl | hy
      · exact hlt
      · exact Int.lt_trans hlt (List.rel_of_pairwise_cons h hy)
    · rename_i hlt
      refine List.Pairwise.cons ?_ (insS_ord x r h.of_cons fun y hy => hn y (List.mem_cons_of_mem _ hy))
      intro y hy
      rcases (insS_mem x r y).1 hy with rfl | hy
      · have := hn z (List.mem_cons_self ..)
        omega
      · exact List.rel_of_pairwise_cons h hy
/-- Two sessions in order with the same members are the same. -/
theorem ordS_ext : ∀ (l m : List Se), ordS l → ordS m → (∀ x, x ∈ l ↔ x ∈ m) → l = m
  | [], [], _, _, _ => rfl
  | [], y :: m, _, _, h => absurd ((h y).2 (List.mem_cons_self ..)) (by simp)
  | x :: l, [], _, _, h => absurd ((h x).1 (List.mem_cons_self ..)) (by simp)
  | x :: l, y :: m, hl, hm, h => by
    have hxy : x = y := by
      rcases List.mem_cons.1 ((h x).1 (List.mem_cons_self ..)) with e | e
      · exact e
      · rcases List.mem_cons.1 ((h y).2 (List.mem_cons_self ..)) with e2 | e2
        · exact e2.symm
        · have h1 := List.rel_of_pairwise_cons hm e
          have h2 := List.rel_of_pairwise_cons hl e2
          omega
    subst hxy
    have hne : ∀ z ∈ l, z ≠ x := fun z hz e => by
      have := List.rel_of_pairwise_cons hl hz
      rw [e] at this; omega
    have hne2 : ∀ z ∈ m, z ≠ x := fun z hz e => by
      have := List.rel_of_pairwise_cons hm hz
      rw [e] at this; omega
    rw [ordS_ext l m hl.of_cons hm.of_cons fun z => ⟨fun hz => by
        rcases List.mem_cons.1 ((h z).1 (List.mem_cons_of_mem _ hz)) with e | e
        · exact absurd e (hne z hz)
        · exact e, fun hz => by
        rcases List.mem_cons.1 ((h z).2 (List.mem_cons_of_mem _ hz)) with e | e
        · exact absurd e (hne2 z hz)
        · exact e⟩]

theorem open_yes (l : List Se) (id sp : Int) (h : openE l id sp = 0) : 1 ≤ id ∧ 1 ≤ sp ∧ sp ≤ 1000 ∧ hasS l id = false ∧ l.length < 50 := by
  unfold openE at h
  split at h
  · cases h
  · rename_i h1
    split at h
    · cases h
    · rename_i h2
      split at h
      · cases h
      · rename_i h3
        exact ⟨by omega, by omega, by omega, by simpa using h2, by omega⟩
theorem right_open (t : Int) (l : List Se) (id sp : Int) (h : RightB t l) : RightB t (openS t l id sp) := by
  unfold openS
  split
  · rename_i he
    obtain ⟨h1, h2, h3, h4, h5⟩ := open_yes l id sp he
    refine ⟨h.lo, h.hi, by rw [insS_len]; omega, ?_, insS_ord _ _ h.order fun y hy e => (hasS_not l id).1 h4 y hy e⟩
    intro x hx
    rcases (insS_mem _ l x).1 hx with rfl | hx
    · simp only [fineS, sI, sP, sU, Bool.and_eq_true, decide_eq_true_eq]; omega
    · exact h.fine x hx
  · exact h
theorem fine_touch (t id : Int) (x : Se) (h : fineS t x = true) : fineS t (touch1 t id x) = true := by
  unfold touch1
  split
  · simp only [fineS, sI, sP, sU, Bool.and_eq_true, decide_eq_true_eq] at h ⊢
    omega
  · exact h
theorem touch_id (t id : Int) (x : Se) : sI (touch1 t id x) = sI x := by
  unfold touch1
  split <;> rfl
theorem right_touch (t : Int) (l : List Se) (id : Int) (h : RightB t l) : RightB t (touchS t l id) := by
  refine ⟨h.lo, h.hi, by unfold touchS; rw [List.length_map]; exact h.few, ?_, ?_⟩
  · intro x hx
    obtain ⟨y, hy, rfl⟩ := List.mem_map.1 hx
    exact fine_touch t id y (h.fine y hy)
  · unfold touchS ordS
    rw [List.pairwise_map]
    exact h.order.imp fun {a b} hab => by rw [touch_id, touch_id]; exact hab
theorem right_close (t : Int) (l : List Se) (id : Int) (h : RightB t l) : RightB t (closeS l id) :=
  ⟨h.lo, h.hi, Nat.le_trans (List.length_filter_le _ _) h.few, fun x hx => h.fine x (List.mem_filter.1 hx).1, h.order.filter _⟩
theorem tick_yes (t z : Int) (h : tickE t z = 0) : t ≤ z ∧ z ≤ 1000000000 := by
  unfold tickE at h
  split at h
  · cases h
  · split at h
    · cases h
    · omega
theorem tick_of (t z : Int) (h1 : t ≤ z) (h2 : z ≤ 1000000000) : tickE t z = 0 := by
  unfold tickE
  rw [if_neg (by omega), if_neg (by omega)]
theorem right_tick (t : Int) (l : List Se) (z : Int) (h : RightB t l) : RightB (tickT t z) (tickS t l z) := by
  unfold tickT tickS
  split
  · rename_i he
    obtain ⟨h1, h2⟩ := tick_yes t z he
    refine ⟨by have := h.lo; omega, h2, Nat.le_trans (List.length_filter_le _ _) h.few, ?_, h.order.filter _⟩
    intro x hx
    have hm := List.mem_filter.1 hx
    have hf := h.fine x hm.1
    have hl := hm.2
    simp only [lateS, Bool.not_eq_true', decide_eq_false_iff_not] at hl
    simp only [fineS, Bool.and_eq_true, decide_eq_true_eq] at hf ⊢
    omega
  · exact h

/-- LeaseEnds. -/
theorem has_open (t : Int) (l : List Se) (id sp : Int) (h : openE l id sp = 0) : ∀ x ∈ openS t l id sp, sI x = id → x = (id, sp, t + sp) := by
  obtain ⟨h1, h2, h3, h4, h5⟩ := open_yes l id sp h
  intro x hx e
  unfold openS at hx
  rw [if_pos h] at hx
  rcases (insS_mem _ l x).1 hx with rfl | hx
  · rfl
  · exact absurd e ((hasS_not l id).1 h4 x hx)
theorem mem_open (t : Int) (l : List Se) (id sp : Int) (h : openE l id sp = 0) : (id, sp, t + sp) ∈ openS t l id sp := by
  unfold openS
  rw [if_pos h]
  exact (insS_mem _ l _).2 (.inl rfl)
theorem ends_late (t : Int) (l : List Se) (id sp z : Int) (h : openE l id sp = 0) (hz : tickE t z = 0) (hs : t + sp ≤ z) : id ∈ goneS t (openS t l id sp) z ∧ hasS (tickS t (openS t l id sp) z) id = false := by
  constructor
  · unfold goneS
    rw [if_pos hz]
    refine List.mem_map.2 ⟨(id, sp, t + sp), List.mem_filter.2 ⟨mem_open t l id sp h, ?_⟩, rfl⟩
    simp [lateS, hs]
  · rw [hasS_not]
    intro x hx e
    unfold tickS at hx
    rw [if_pos hz] at hx
    have hm := List.mem_filter.1 hx
    rw [has_open t l id sp h x hm.1 e] at hm
    simp only [lateS, sU, Bool.not_eq_true', decide_eq_false_iff_not] at hm
    omega
theorem ends_soon (t : Int) (l : List Se) (id sp z : Int) (h : openE l id sp = 0) (hz : tickE t z = 0) (hs : z < t + sp) : hasS (tickS t (openS t l id sp) z) id = true := by
  rw [hasS_iff]
  refine ⟨(id, sp, t + sp), ?_, rfl⟩
  unfold tickS
  rw [if_pos hz]
  refine List.mem_filter.2 ⟨mem_open t l id sp h, ?_⟩
  simp only [lateS, sU, Bool.not_eq_true', decide_eq_false_iff_not]; omega
theorem ends_touch (t : Int) (l : List Se) (id sp z y : Int) (h : openE l id sp = 0) (hz : tickE t z = 0) (hs : z < t + sp) (hy : tickE z y = 0) :
    hasS (tickS z (touchS z (tickS t (openS t l id sp) z) id) y) id = decide (y < z + sp) := by
  have key : ∀ x ∈ touchS z (tickS t (openS t l id sp) z) id, sI x = id → x = (id, sp, z + sp) := by
    intro x hx e
    unfold touchS at hx
    obtain ⟨v, hv, rfl⟩ := List.mem_map.1 hx
    rw [touch_id] at e
    unfold tickS at hv
    rw [if_pos hz] at hv
    rw [has_open t l id sp h v (List.mem_filter.1 hv).1 e]
    simp [touch1]
  have hm : (id, sp, z + sp) ∈ touchS z (tickS t (openS t l id sp) z) id := by
    obtain ⟨x, hx, e⟩ := (hasS_iff _ _).1 (ends_soon t l id sp z h hz hs)
    have : touch1 z id x ∈ touchS z (tickS t (openS t l id sp) z) id := List.mem_map.2 ⟨x, hx, rfl⟩
    rw [key _ this (by rw [touch_id]; exact e)] at this
    exact this
  by_cases hc : y < z + sp
  · rw [decide_eq_true hc, hasS_iff]
    refine ⟨(id, sp, z + sp), ?_, rfl⟩
    unfold tickS
    rw [if_pos hy]
    refine List.mem_filter.2 ⟨hm, ?_⟩
    simp only [lateS, sU, Bool.not_eq_true', decide_eq_false_iff_not]; omega
  · rw [decide_eq_false hc, hasS_not]
    intro x hx e
    unfold tickS at hx
    rw [if_pos hy] at hx
    have hq := List.mem_filter.1 hx
    have := key x (by unfold tickS; rw [if_pos hz]; have := hq.1; unfold tickS at this; rw [if_pos hz] at this; exact this) e
    rw [this] at hq
    simp only [lateS, sU, Bool.not_eq_true', decide_eq_false_iff_not] at hq
    omega

/-- LeaseRight. -/
theorem close_has (l : List Se) (id : Int) : hasS (closeS l id) id = false := by
  rw [hasS_not]
  intro x hx
  have := (List.mem_filter.1 hx).2
  simpa using this
theorem tick_twice (t : Int) (l : List Se) (z y : Int) (hz : tickE t z = 0) (hy : tickE z y = 0) (hw : tickE t y = 0) :
    tickS z (tickS t l z) y = tickS t l y ∧ (goneS t l z).length + (goneS z (tickS t l z) y).length = (goneS t l y).length := by
  have hzy := (tick_yes z y hy).1
  unfold goneS tickS
  simp only [hz, hy, hw, if_true]
  constructor
  · rw [List.filter_filter]
    congr 1
    funext x
    simp only [lateS]
    by_cases h1 : sU x ≤ z
    · have h2 : sU x ≤ y := by omega
      simp [h1, h2]
    · simp [h1]
  · simp only [List.length_map]
    induction l with
    | nil => rfl
    | cons x r ih =>
      by_cases h1 : sU x ≤ z
      · have h2 : sU x ≤ y := by omega
        simp only [List.filter_cons, lateS, h1, h2, decide_true, if_true, Bool.not_true, Bool.false_eq_true, if_false, List.length_cons]
        simp only [lateS] at ih
        omega
      · by_cases h2 : sU x ≤ y
        · simp only [List.filter_cons, lateS, h1, h2, decide_true, decide_false, if_true, Bool.not_false, Bool.false_eq_true, if_false, List.length_cons]
          simp only [lateS] at ih
          omega
        · simp only [List.filter_cons, lateS, h1, h2, decide_false, if_true, Bool.not_false, Bool.false_eq_true, if_false]
          simp only [lateS] at ih
          exact ih

/-- LeaseTwo. -/
theorem has_ins (x : Se) (l : List Se) (id : Int) : hasS (insS x l) id = (sI x == id || hasS l id) := by
  rw [Bool.eq_iff_iff, Bool.or_eq_true, hasS_iff, hasS_iff, beq_iff_eq]
  constructor
  · rintro ⟨y, hy, e⟩
    rcases (insS_mem x l y).1 hy with rfl | hy
    · exact .inl e
    · exact .inr ⟨y, hy, e⟩
  · rintro (e | ⟨y, hy, e⟩)
    · exact ⟨x, (insS_mem x l x).2 (.inl rfl), e⟩
    · exact ⟨y, (insS_mem x l y).2 (.inr hy), e⟩
theorem open_other (t : Int) (l : List Se) (i k x y : Int) (hik : i ≠ k) (hl : l.length ≤ 48) : openE (openS t l k y) i x = openE l i x := by
  unfold openS
  split
  · unfold openE
    rw [has_ins, insS_len, show ((k : Int) == i) = false from by rw [beq_eq_false_iff_ne]; exact fun e => hik e.symm, Bool.false_or]
    rw [if_neg (show ¬ 50 ≤ l.length + 1 by omega), if_neg (show ¬ 50 ≤ l.length by omega)]
  · rfl
theorem open_two (t : Int) (l : List Se) (i k x y : Int) (h : RightB t l) (hik : i ≠ k) (hl : l.length ≤ 48) : openS t (openS t l i x) k y = openS t (openS t l k y) i x := by
  refine ordS_ext _ _ (right_open t _ k y (right_open t l i x h)).order (right_open t _ i x (right_open t l k y h)).order fun z => ?_
  have e1 := open_other t l i k x y hik hl
  have e2 := open_other t l k i y x (fun e => hik e.symm) hl
  have m : ∀ (q : List Se) (a b : Int), z ∈ openS t q a b ↔ (openE q a b = 0 ∧ z = (a, b, t + b)) ∨ z ∈ q := by
    intro q a b
    unfold openS
    split
    · rename_i h
      rw [insS_mem]; simp [h]
    · rename_i h
      simp [h]
  rw [m, m, m, m, e1, e2]
  constructor
  · rintro (h | h | h)
    · exact .inr (.inl h)
    · exact .inl h
    · exact .inr (.inr h)
  · rintro (h | h | h)
    · exact .inr (.inl h)
    · exact .inl h
    · exact .inr (.inr h)
theorem touch_close (t : Int) (l : List Se) (i k : Int) : closeS (touchS t l i) k = touchS t (closeS l k) i := by
  unfold closeS touchS
  rw [List.filter_map]
  congr 1
  refine List.filter_congr fun x _ => ?_
  show decide (sI (touch1 t i x) ≠ k) = decide (sI x ≠ k)
  rw [touch_id]
theorem open_has (t : Int) (l : List Se) (i k x y : Int) (h : openE l i x = 0) : hasS (openS t (openS t l i x) k y) i = true := by
  rw [hasS_iff]
  refine ⟨(i, x, t + x), ?_, rfl⟩
  have := mem_open t l i x h
  generalize openS t l i x = q at *
  unfold openS
  split
  · exact (insS_mem _ _ _).2 (.inr this)
  · exact this
end Go.Proofs.Ytmlpiembglmggaa
