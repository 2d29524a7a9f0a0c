/-
  Tables of watches, in plain terms: what each change comes to, what is right; plain facts of the laws.
-/
import Derived.Test.YtmiomfonglmfjaaR0
import Derived.Test.YtmiomfonglmfjaaYA
namespace Go.Proofs.Ytmiomfonglmfjaa
open Go.RowKit

/-- A watch: its path, its client, whether it watches the children. A change: its kind, its path. An event: a watch, a change. -/
abbrev Wa := List UInt8 × Int × Bool
abbrev wP (x : Wa) : List UInt8 := x.1
abbrev wC (x : Wa) : Int := x.2.1
abbrev wK (x : Wa) : Bool := x.2.2
def wa0 : Wa := ([], 0, false)
abbrev Ch := Int × List UInt8
abbrev cK (x : Ch) : Int := x.1
abbrev cP (x : Ch) : List UInt8 := x.2
def ch0 : Ch := (0, [])
abbrev Ev := Wa × Ch
def ev0 : Ev := (wa0, ch0)

def kidsB (c : Ch) (w : Wa) : Bool := decide (cK c ≠ 2) && (decide (parentE (cP c) = 0) && decide (parentS (cP c) = wP w))
def touchB (c : Ch) (w : Wa) : Bool := (decide (1 ≤ cK c) && decide (cK c ≤ 3) && rightB (cP c)) && (if wK w = true then kidsB c w else decide (cP c = wP w))
def hasW (l : List Wa) (w : Wa) : Bool := l.any fun x => decide (x = w)
def fineW (w : Wa) : Bool := rightB (wP w) && decide (0 ≤ wC w)
def okW (l : List Wa) (i : Nat) : Bool := fineW (l.getD i wa0) && !hasW (l.take i) (l.getD i wa0)
def rightW (l : List Wa) : Bool := (List.range l.length).all (okW l) && decide (l.length ≤ 200)
def addE (l : List Wa) (w : Wa) : Nat := if rightB (wP w) = false then 13 else if wC w < 0 then 1 else if hasW l w = true then 0 else if 200 ≤ l.length then 9 else 0
def addW (l : List Wa) (w : Wa) : List Wa := if addE l w = 0 ∧ hasW l w = false then l ++ [w] else l
def stayW (c : Ch) (l : List Wa) : List Wa := l.filter fun w => !touchB c w
def toldW (c : Ch) (l : List Wa) : List Ev := (l.filter (touchB c)).map fun w => (w, c)
def leftW : List Wa → List Ch → List Wa
  | l, [] => l
  | l, c :: r => leftW (stayW c l) r
def fireW : List Wa → List Ch → List Ev
  | _, [] => []
  | l, c :: r => toldW c l ++ fireW (stayW c l) r
def cancelW (l : List Wa) (z : Int) : List Wa := l.filter fun w => decide (wC w ≠ z)

structure RightW (l : List Wa) : Prop where
  few : l.length ≤ 200
  fine : ∀ x ∈ l, fineW x = true
  once : l.Nodup

theorem hasW_iff (l : List Wa) (w : Wa) : hasW l w = true ↔ w ∈ l := by
  unfold hasW
  rw [List.any_eq_true]
  constructor
  · rintro ⟨x, hx, h⟩
    rw [decide_eq_true_eq] at h
    rw [← h]; exact hx
  · intro h
    exact ⟨w, h, by simp⟩
theorem hasW_not (l : List Wa) (w : Wa) : hasW l w = false ↔ w ∉ l := by
  rw [← Bool.not_eq_true, hasW_iff]
theorem getD_memW {α : Type} (l : List α) (d : α) (i : Nat) (hi : i < l.length) : l.getD i d ∈ l := by
  rw [List.getD_eq_getElem?_getD, List.getElem?_eq_getElem hi]
  exact List.getElem_mem _
theorem mem_getDW {α : Type} (l : List α) (d x : α) (hx : x ∈ l) : ∃ i, i < l.length ∧ l.getD i d = x := by
  obtain ⟨i, hi, rfl⟩ := List.getElem_of_mem hx
  exact ⟨i, hi, by rw [List.getD_eq_getElem?_getD, List.getElem?_eq_getElem hi]; rfl⟩
theorem take_snocW {α : Type} (l : List α) (d : α) (i : Nat) (hi : i < l.length) : l.take (i + 1) = l.take i ++ [l.getD i d] := by
  rw [List.take_add_one, List.getD_eq_getElem?_getD, List.getElem?_eq_getElem hi]
  rfl
theorem rightW_iff (l : List Wa) : rightW l = true ↔ RightW l := by
  unfold rightW
  rw [Bool.and_eq_true, decide_eq_true_eq, List.all_eq_true]
  have e : ∀ i (hi : i < l.length), l.getD i wa0 = l[i] := fun i hi => by rw [List.getD_eq_getElem?_getD, List.getElem?_eq_getElem hi]; rfl
  constructor
  · rintro ⟨h, hf⟩
    have hk : ∀ i, i < l.length → fineW (l.getD i wa0) = true ∧ l.getD i wa0 ∉ l.take i := by
      intro i hi
      have := h i (List.mem_range.2 hi)
      unfold okW at this
      rw [Bool.and_eq_true, Bool.not_eq_true', hasW_not] at this
      exact this
    refine ⟨hf, ?_, ?_⟩
    · intro x hx
      obtain ⟨i, hi, rfl⟩ := mem_getDW l wa0 x hx
      exact (hk i hi).1
    · rw [List.nodup_iff_pairwise_ne, List.pairwise_iff_getElem]
      intro i j hi hj hij heq
      refine (hk j hj).2 ?_
      rw [e j hj, ← heq, List.mem_take_iff_getElem]
      exact ⟨i, by omega, rfl⟩
  · rintro ⟨h1, h2, h3⟩
    refine ⟨fun i hi => ?_, h1⟩
    have hi := List.mem_range.1 hi
    unfold okW
    rw [Bool.and_eq_true, Bool.not_eq_true', hasW_not]
    refine ⟨h2 _ (getD_memW l wa0 i hi), fun hc => ?_⟩
    rw [e i hi, List.mem_take_iff_getElem] at hc
    obtain ⟨j, hj, heq⟩ := hc
    have := (List.pairwise_iff_getElem.1 (List.nodup_iff_pairwise_ne.1 h3)) j i (by omega) hi (by omega)
    exact this heq
theorem okW_not (l : List Wa) (i : Nat) (hi : i < l.length) (h : okW l i = false) : rightW l = false := by
  unfold rightW
  have : (List.range l.length).all (okW l) = false := by
    rw [List.all_eq_false]
    exact ⟨i, List.mem_range.2 hi, by rw [h]; simp⟩
  rw [this]
  rfl
theorem rightW_end (l : List Wa) (h : ∀ i, i < l.length → okW l i = true) : rightW l = decide (l.length ≤ 200) := by
  unfold rightW
  have : (List.range l.length).all (okW l) = true := by
    rw [List.all_eq_true]
    intro i hi
    exact h i (List.mem_range.1 hi)
  rw [this]
  rfl
theorem stayW_snoc (c : Ch) (l : List Wa) (i : Nat) (hi : i < l.length) : stayW c (l.take (i + 1)) = stayW c (l.take i) ++ (if touchB c (l.getD i wa0) = true then [] else [l.getD i wa0]) := by
  rw [take_snocW l wa0 i hi]
  unfold stayW
  rw [List.filter_append]
  by_cases h : touchB c (l.getD i wa0) = true
  · rw [if_pos h, List.filter_cons_of_neg (by rw [h]; simp)]
    rfl
  · rw [if_neg h, List.filter_cons_of_pos (by simpa using h)]
    rfl
theorem toldW_snoc (c : Ch) (l : List Wa) (i : Nat) (hi : i < l.length) : toldW c (l.take (i + 1)) = toldW c (l.take i) ++ (if touchB c (l.getD i wa0) = true then [(l.getD i wa0, c)] else []) := by
  rw [take_snocW l wa0 i hi]
  unfold toldW
  rw [List.filter_append, List.map_append]
  by_cases h : touchB c (l.getD i wa0) = true
  · rw [if_pos h, List.filter_cons_of_pos h]
    rfl
  · rw [if_neg h, List.filter_cons_of_neg h]
    rfl
theorem stayW_len (c : Ch) (l : List Wa) : (stayW c l).length ≤ l.length := List.length_filter_le _ _
theorem told_len (c : Ch) (l : List Wa) : (toldW c l).length + (stayW c l).length = l.length := by
  unfold toldW stayW
  induction l with
  | nil => rfl
  | cons x r ih =>
    by_cases h : touchB c x = true
    · rw [List.filter_cons_of_pos h, List.filter_cons_of_neg (by simpa using h)]
      simp only [List.map_cons, List.length_cons] at ih ⊢
      omega
    · rw [List.filter_cons_of_neg h, List.filter_cons_of_pos (by simpa using h)]
      simp only [List.length_cons] at ih ⊢
      omega
theorem leftW_append : ∀ (l : List Wa) (a b : List Ch), leftW l (a ++ b) = leftW (leftW l a) b
  | _, [], _ => rfl
  | l, c :: r, b => leftW_append (stayW c l) r b
theorem fireW_append : ∀ (l : List Wa) (a b : List Ch), fireW l (a ++ b) = fireW l a ++ fireW (leftW l a) b
  | _, [], _ => rfl
  | l, c :: r, b => by
    show toldW c l ++ fireW (stayW c l) (r ++ b) = (toldW c l ++ fireW (stayW c l) r) ++ fireW (leftW (stayW c l) r) b
    rw [fireW_append (stayW c l) r b, List.append_assoc]
theorem leftW_snoc (l : List Wa) (cs : List Ch) (i : Nat) (hi : i < cs.length) : leftW l (cs.take (i + 1)) = stayW (cs.getD i ch0) (leftW l (cs.take i)) := by
  rw [take_snocW cs ch0 i hi, leftW_append]
  rfl
theorem fireW_snoc (l : List Wa) (cs : List Ch) (i : Nat) (hi : i < cs.length) : fireW l (cs.take (i + 1)) = fireW l (cs.take i) ++ toldW (cs.getD i ch0) (leftW l (cs.take i)) := by
  rw [take_snocW cs ch0 i hi, fireW_append]
  show _ ++ (toldW _ _ ++ []) = _
  rw [List.append_nil]
theorem fire_len : ∀ (l : List Wa) (cs : List Ch), (leftW l cs).length + (fireW l cs).length = l.length
  | _, [] => rfl
  | l, c :: r => by
    have h1 := fire_len (stayW c l) r
    have h2 := told_len c l
    show (leftW (stayW c l) r).length + (toldW c l ++ fireW (stayW c l) r).length = l.length
    rw [List.length_append]
    omega
theorem leftW_len (l : List Wa) (cs : List Ch) : (leftW l cs).length ≤ l.length := by have := fire_len l cs; omega
theorem fireW_len (l : List Wa) (cs : List Ch) : (fireW l cs).length ≤ l.length := by have := fire_len l cs; omega
theorem stayW_mem (c : Ch) (l : List Wa) (w : Wa) : w ∈ stayW c l ↔ w ∈ l ∧ touchB c w = false := by
  unfold stayW
  rw [List.mem_filter, Bool.not_eq_true']
theorem toldW_mem (c : Ch) (l : List Wa) (e : Ev) : e ∈ toldW c l ↔ e.1 ∈ l ∧ touchB c e.1 = true ∧ e.2 = c := by
  unfold toldW
  rw [List.mem_map]
  constructor
  · rintro ⟨w, hw, rfl⟩
    rw [List.mem_filter] at hw
    exact ⟨hw.1, hw.2, rfl⟩
  · rintro ⟨h1, h2, h3⟩
    refine ⟨e.1, List.mem_filter.2 ⟨h1, h2⟩, ?_⟩
    rw [← h3]
theorem stayW_nodup (c : Ch) (l : List Wa) (h : l.Nodup) : (stayW c l).Nodup := h.filter _
/-- Who stays is touched by none. -/
theorem leftW_mem : ∀ (l : List Wa) (cs : List Ch) (w : Wa), w ∈ leftW l cs ↔ w ∈ l ∧ ∀ c ∈ cs, touchB c w = false
  | l, [], w => by simp [leftW]
  | l, c :: r, w => by
    show w ∈ leftW (stayW c l) r ↔ _
    rw [leftW_mem (stayW c l) r w, stayW_mem]
    simp only [List.mem_cons, forall_eq_or_imp, and_assoc]
theorem fireW_memW : ∀ (l : List Wa) (cs : List Ch) (e : Ev), e ∈ fireW l cs → e.1 ∈ l
  | _, [], _, h => by simp [fireW] at h
  | l, c :: r, e, h => by
    rcases List.mem_append.1 (show e ∈ toldW c l ++ fireW (stayW c l) r from h) with h | h
    · exact ((toldW_mem c l e).1 h).1
    · exact ((stayW_mem c l _).1 (fireW_memW _ _ _ h)).1
/-- The place of the first change that touches a watch; as many as there are, if none does. -/
def firstW (cs : List Ch) (w : Wa) : Nat := cs.findIdx fun c => touchB c w
theorem firstW_cons (c : Ch) (r : List Ch) (w : Wa) : firstW (c :: r) w = if touchB c w = true then 0 else firstW r w + 1 := by
  unfold firstW
  rw [List.findIdx_cons]
  cases touchB c w <;> rfl
theorem firstW_le (cs : List Ch) (w : Wa) : firstW cs w ≤ cs.length := List.findIdx_le_length
/-- Who is told is told by the first one. -/
theorem fireW_first : ∀ (l : List Wa) (cs : List Ch) (e : Ev), e ∈ fireW l cs → firstW cs e.1 < cs.length ∧ e.2 = cs.getD (firstW cs e.1) ch0
  | _, [], _, h => by simp [fireW] at h
  | l, c :: r, e, h => by
    rw [firstW_cons]
    rcases List.mem_append.1 (show e ∈ toldW c l ++ fireW (stayW c l) r from h) with h | h
    · have h2 := (toldW_mem c l e).1 h
      rw [if_pos h2.2.1]
      exact ⟨by simp, by rw [h2.2.2]; rfl⟩
    · have h1 := (stayW_mem c l _).1 (fireW_memW _ _ _ h)
      have h2 := fireW_first _ r e h
      rw [if_neg (by rw [h1.2]; simp)]
      refine ⟨by simp; omega, ?_⟩
      rw [h2.2]
      rfl
/-- How often a watch is told. -/
def manyW (l : List Ev) (w : Wa) : Nat := l.countP fun e => decide (e.1 = w)
theorem manyW_append (a b : List Ev) (w : Wa) : manyW (a ++ b) w = manyW a w + manyW b w := List.countP_append
theorem manyW_none (l : List Ev) (w : Wa) (h : ∀ e ∈ l, e.1 ≠ w) : manyW l w = 0 := by
  unfold manyW
  rw [List.countP_eq_zero]
  intro e he
  simpa using h e he
theorem manyW_told (c : Ch) : ∀ (l : List Wa) (w : Wa), l.Nodup → manyW (toldW c l) w = if w ∈ l ∧ touchB c w = true then 1 else 0
  | [], w, _ => by simp [toldW, manyW]
  | x :: r, w, h => by
    obtain ⟨h1, h2⟩ := List.nodup_cons.1 h
    have ih := manyW_told c r w h2
    by_cases hx : touchB c x = true
    · have e : toldW c (x :: r) = [(x, c)] ++ toldW c r := by unfold toldW; rw [List.filter_cons_of_pos hx]; rfl
      rw [e, manyW_append, ih]
      by_cases hw : x = w
      · subst hw
        rw [if_neg (fun h => h1 h.1), if_pos ⟨List.mem_cons_self .., hx⟩]
        simp [manyW]
      · have : manyW [(x, c)] w = 0 := by simp [manyW, hw]
        rw [this]
        by_cases hm : w ∈ r ∧ touchB c w = true
        · rw [if_pos hm, if_pos ⟨List.mem_cons_of_mem _ hm.1, hm.2⟩]
        · rw [if_neg hm, if_neg]
          rintro ⟨h3, h4⟩
          rcases List.mem_cons.1 h3 with h3 | h3
          · exact hw h3.symm
          · exact hm ⟨h3, h4⟩
    · have e : toldW c (x :: r) = toldW c r := by unfold toldW; rw [List.filter_cons_of_neg hx]
      rw [e, ih]
      by_cases hm : w ∈ r ∧ touchB c w = true
      · rw [if_pos hm, if_pos ⟨List.mem_cons_of_mem _ hm.1, hm.2⟩]
      · rw [if_neg hm, if_neg]
        rintro ⟨h3, h4⟩
        rcases List.mem_cons.1 h3 with h3 | h3
        · subst h3; exact hx h4
        · exact hm ⟨h3, h4⟩
/-- Once, if one touches it; else never. -/
theorem manyW_fire : ∀ (l : List Wa) (cs : List Ch) (w : Wa), l.Nodup → w ∈ l → manyW (fireW l cs) w = if firstW cs w < cs.length then 1 else 0
  | _, [], _, _, _ => by simp [fireW, manyW]
  | l, c :: r, w, h, hw => by
    rw [firstW_cons]
    show manyW (toldW c l ++ fireW (stayW c l) r) w = _
    rw [manyW_append, manyW_told c l w h]
    by_cases hx : touchB c w = true
    · rw [if_pos ⟨hw, hx⟩, if_pos hx, if_pos (by simp), manyW_none]
      intro e he heq
      have := (stayW_mem c l _).1 (fireW_memW _ _ _ he)
      rw [heq, hx] at this
      exact absurd this.2 (by simp)
    · rw [if_neg (fun h => hx h.2), if_neg hx, manyW_fire (stayW c l) r w (stayW_nodup c l h) ((stayW_mem c l w).2 ⟨hw, by simpa using hx⟩), Nat.zero_add]
      by_cases hf : firstW r w < r.length
      · rw [if_pos hf, if_pos (by simpa using hf)]
      · rw [if_neg hf, if_neg (by simpa using hf)]
theorem stay_cancel (c : Ch) (l : List Wa) (z : Int) : stayW c (cancelW l z) = cancelW (stayW c l) z := by
  unfold stayW cancelW
  rw [List.filter_filter, List.filter_filter]
  congr 1
  funext w
  rw [Bool.and_comm]
theorem told_cancel (c : Ch) (l : List Wa) (z : Int) : toldW c (cancelW l z) = (toldW c l).filter fun e => decide (wC e.1 ≠ z) := by
  unfold toldW cancelW
  rw [List.filter_map, List.filter_filter, List.filter_filter]
  congr 2
  funext w
  simp only [Function.comp]
  rw [Bool.and_comm]
/-- Without a client's watches all others are told as before. -/
theorem fire_cancel : ∀ (l : List Wa) (cs : List Ch) (z : Int), fireW (cancelW l z) cs = (fireW l cs).filter fun e => decide (wC e.1 ≠ z)
  | _, [], _ => rfl
  | l, c :: r, z => by
    show toldW c (cancelW l z) ++ fireW (stayW c (cancelW l z)) r = (toldW c l ++ fireW (stayW c l) r).filter _
    rw [List.filter_append, stay_cancel, fire_cancel (stayW c l) r z, told_cancel]
theorem firstW_any (cs : List Ch) (w : Wa) : decide (firstW cs w < cs.length) = cs.any fun c => touchB c w := by
  unfold firstW
  rw [Bool.eq_iff_iff, decide_eq_true_eq, List.findIdx_lt_length, List.any_eq_true]
/-- Who is in the table is told just if a change touches it. -/
theorem fire_found (l : List Wa) (cs : List Ch) (w : Wa) (h : w ∈ l) : ((fireW l cs).any fun e => decide (e.1 = w)) = cs.any fun c => touchB c w := by
  rw [Bool.eq_iff_iff, List.any_eq_true, List.any_eq_true]
  constructor
  · rintro ⟨e, he, h1⟩
    rw [decide_eq_true_eq] at h1
    subst h1
    obtain ⟨h2, -⟩ := fireW_first l cs e he
    have := firstW_any cs e.1
    rw [decide_eq_true h2] at this
    exact List.any_eq_true.1 this.symm
  · rintro ⟨c, hc, h1⟩
    by_cases hn : w ∈ leftW l cs
    · have := ((leftW_mem l cs w).1 hn).2 c hc
      rw [h1] at this
      exact absurd this (by simp)
    · induction cs generalizing l with
      | nil => simp at hc
      | cons d r ih =>
        by_cases hd : touchB d w = true
        · exact ⟨(w, d), List.mem_append.2 (.inl ((toldW_mem d l _).2 ⟨h, hd, rfl⟩)), by simp⟩
        · have hcr : c ∈ r := by
            rcases List.mem_cons.1 hc with rfl | hc
            · exact absurd h1 hd
            · exact hc
          obtain ⟨e, he, h2⟩ := ih (stayW d l) ((stayW_mem d l w).2 ⟨h, by simpa using hd⟩) hcr hn
          exact ⟨e, List.mem_append.2 (.inr he), h2⟩
theorem addW_mem (l : List Wa) (w : Wa) (h : addE l w = 0) : w ∈ addW l w := by
  unfold addW
  by_cases hh : hasW l w = false
  · rw [if_pos ⟨h, hh⟩]; simp
  · rw [if_neg (fun x => hh x.2)]
    exact (hasW_iff l w).1 (by simpa using hh)
theorem addW_len (l : List Wa) (w : Wa) : (addW l w).length ≤ l.length + 1 := by
  unfold addW
  split
  · simp
  · omega
theorem leftW_sub : ∀ (l : List Wa) (cs : List Ch), (leftW l cs).Sublist l
  | _, [] => List.Sublist.refl _
  | l, c :: r => (leftW_sub (stayW c l) r).trans List.filter_sublist
theorem right_sub (l m : List Wa) (h : RightW l) (hm : m.Sublist l) : RightW m := ⟨Nat.le_trans hm.length_le h.few, fun x hx => h.fine x (hm.subset hx), h.once.sublist hm⟩
theorem right_left (l : List Wa) (cs : List Ch) (h : RightW l) : RightW (leftW l cs) := right_sub l _ h (leftW_sub l cs)
theorem right_cancel (l : List Wa) (z : Int) (h : RightW l) : RightW (cancelW l z) := right_sub l _ h List.filter_sublist
theorem right_add (l : List Wa) (w : Wa) (h : RightW l) : RightW (addW l w) := by
  unfold addW
  split
  · rename_i hh
    obtain ⟨h1, h2⟩ := hh
    unfold addE at h1
    split at h1
    · cases h1
    · rename_i hr
      split at h1
      · cases h1
      · rename_i hc
        rw [if_neg (by rw [h2]; simp)] at h1
        split at h1
        · cases h1
        · rename_i hl
          refine ⟨by simp; omega, fun x hx => ?_, ?_⟩
          · rcases List.mem_append.1 hx with hx | hx
            · exact h.fine x hx
            · rw [List.mem_singleton] at hx
              subst hx
              unfold fineW
              rw [show rightB (wP x) = true by simpa using hr, decide_eq_true (by omega)]; rfl
          · rw [List.nodup_append]
            refine ⟨h.once, by simp, fun a ha b hb e => ?_⟩
            rw [List.mem_singleton] at hb
            subst hb e
            exact (hasW_not _ _).1 h2 ha
  · exact h
/-- Few watches, of short paths; few changes, of short paths. -/
def fewB (l : List Wa) : Bool := decide (l.length ≤ 60) && l.all fun w => decide ((wP w).length ≤ 300)
def shortB (l : List Ch) : Bool := decide (l.length ≤ 40) && l.all fun c => decide ((cP c).length ≤ 300)
theorem cancelW_snoc (l : List Wa) (z : Int) (i : Nat) (hi : i < l.length) : cancelW (l.take (i + 1)) z = cancelW (l.take i) z ++ (if wC (l.getD i wa0) = z then [] else [l.getD i wa0]) := by
  rw [take_snocW l wa0 i hi]
  obtain ⟨y, hy⟩ : ∃ y, l.getD i wa0 = y := ⟨_, rfl⟩
  rw [hy]
  unfold cancelW
  rw [List.filter_append]
  by_cases h : wC y = z <;> simp [h]
theorem addE_path (l : List Wa) (w : Wa) (h : rightB (wP w) = false) : addE l w = 13 ∧ addW l w = l := by
  have e : addE l w = 13 := by unfold addE; rw [if_pos h]
  refine ⟨e, ?_⟩
  unfold addW
  rw [if_neg]
  rw [e]
  simp
theorem addE_arg (l : List Wa) (w : Wa) (h : rightB (wP w) = true) (h2 : wC w < 0) : addE l w = 1 ∧ addW l w = l := by
  have e : addE l w = 1 := by unfold addE; rw [if_neg (by rw [h]; simp), if_pos h2]
  refine ⟨e, ?_⟩
  unfold addW
  rw [if_neg]
  rw [e]
  simp
theorem addE_has (l : List Wa) (w : Wa) (h : rightB (wP w) = true) (h2 : ¬ wC w < 0) (h3 : hasW l w = true) : addE l w = 0 ∧ addW l w = l := by
  refine ⟨by unfold addE; rw [if_neg (by rw [h]; simp), if_neg h2, if_pos h3], ?_⟩
  unfold addW
  rw [if_neg]
  rw [h3]
  simp
theorem addE_full (l : List Wa) (w : Wa) (h : rightB (wP w) = true) (h2 : ¬ wC w < 0) (h3 : hasW l w = false) (h4 : 200 ≤ l.length) : addE l w = 9 ∧ addW l w = l := by
  have e : addE l w = 9 := by unfold addE; rw [if_neg (by rw [h]; simp), if_neg h2, if_neg (by rw [h3]; simp), if_pos h4]
  refine ⟨e, ?_⟩
  unfold addW
  rw [if_neg]
  rw [e]
  simp
theorem addE_ok (l : List Wa) (w : Wa) (h : rightB (wP w) = true) (h2 : ¬ wC w < 0) (h3 : hasW l w = false) (h4 : ¬ 200 ≤ l.length) : addE l w = 0 ∧ addW l w = l ++ [w] := by
  have e : addE l w = 0 := by unfold addE; rw [if_neg (by rw [h]; simp), if_neg h2, if_neg (by rw [h3]; simp), if_neg h4]
  refine ⟨e, ?_⟩
  unfold addW
  rw [if_pos ⟨e, h3⟩]
end Go.Proofs.Ytmiomfonglmfjaa
