/-
  Texts U0 E0 EA EB EC ED O0.
-/
import Derived.Test.YtdihngkdhanhkaaGreatDoorProg
import Derived.Lib.Strings
import Derived.Lib.Slices
import Derived.Lib.Small
import Derived.Lib.Walk
import Derived.Lib.BitFns
import Derived.WalkKit
import Derived.WalkLawsBesides
import Derived.Outline
import Derived.Lib.Hide
import Derived.BigQuiet
import Derived.LoopN
import Derived.Deep.QuietTactic
import Derived.Laws.BitsAllLaws
import Derived.Test.YtdihngkdhanhkaaGreatDoorZ01
import Derived.Test.YtdihngkdhanhkaaGreatDoorZ02
import Derived.Test.YtdihngkdhanhkaaGreatDoorZ03
import Derived.Test.YtdihngkdhanhkaaGreatDoorZ04
import Derived.Test.YtdihngkdhanhkaaGreatDoorZ07
namespace Go.Proofs.YtdihngkdhanhkaaGreatDoor
open Go.RowKit

/-- A watch: its path, its client, whether it watches the children. A change: its kind, its path. An event: a watch, a change. -/
abbrev Wa := List UInt8 × Int × Bool
abbrev wP (x : Wa) : List UInt8 := x.1
abbrev wC (x : Wa) : Int := x.2.1
abbrev wK (x : Wa) : Bool := x.2.2
def wa0 : Wa := ([], 0, false)
abbrev Ch := Int × List UInt8
abbrev cK (x : Ch) : Int := x.1
abbrev cP (x : Ch) : List UInt8 := x.2
def ch0 : Ch := (0, [])
abbrev Ev := Wa × Ch
def ev0 : Ev := (wa0, ch0)

def kidsB (c : Ch) (w : Wa) : Bool := decide (cK c ≠ 2) && (decide (parentE (cP c) = 0) && decide (parentS (cP c) = wP w))
def touchB (c : Ch) (w : Wa) : Bool := (decide (1 ≤ cK c) && decide (cK c ≤ 3) && rightB (cP c)) && (if wK w = true then kidsB c w else decide (cP c = wP w))
def hasW (l : List Wa) (w : Wa) : Bool := l.any fun x => decide (x = w)
def fineW (w : Wa) : Bool := rightB (wP w) && decide (0 ≤ wC w)
def okW (l : List Wa) (i : Nat) : Bool := fineW (l.getD i wa0) && !hasW (l.take i) (l.getD i wa0)
def rightW (l : List Wa) : Bool := (List.range l.length).all (okW l) && decide (l.length ≤ 200)
def addE (l : List Wa) (w : Wa) : Nat := if rightB (wP w) = false then 13 else if wC w < 0 then 1 else if hasW l w = true then 0 else if 200 ≤ l.length then 9 else 0
def addW (l : List Wa) (w : Wa) : List Wa := if addE l w = 0 ∧ hasW l w = false then l ++ [w] else l
def stayW (c : Ch) (l : List Wa) : List Wa := l.filter fun w => !touchB c w
def toldW (c : Ch) (l : List Wa) : List Ev := (l.filter (touchB c)).map fun w => (w, c)
def leftW : List Wa → List Ch → List Wa
  | l, [] => l
  | l, c :: r => leftW (stayW c l) r
def fireW : List Wa → List Ch → List Ev
  | _, [] => []
  | l, c :: r => toldW c l ++ fireW (stayW c l) r
structure RightW (l : List Wa) : Prop where
  few : l.length ≤ 200
  fine : ∀ x ∈ l, fineW x = true
  once : l.Nodup

theorem hasW_iff (l : List Wa) (w : Wa) : hasW l w = true ↔ w ∈ l := by
  unfold hasW
  rw [List.any_eq_true]
  constructor
  · rintro ⟨x, hx, h⟩
    rw [decide_eq_true_eq] at h
    rw [← h]; exact hx
  · intro h
    exact ⟨w, h, by simp⟩
theorem hasW_not (l : List Wa) (w : Wa) : hasW l w = false ↔ w ∉ l := by
  rw [← Bool.not_eq_true, hasW_iff]
theorem getD_memW {α : Type} (l : List α) (d : α) (i : Nat) (hi : i < l.length) : l.getD i d ∈ l := by
  rw [List.getD_eq_getElem?_getD, List.getElem?_eq_getElem hi]
  exact List.getElem_mem _
theorem mem_getDW {α : Type} (l : List α) (d x : α) (hx : x ∈ l) : ∃ i, i < l.length ∧ l.getD i d = x := by
  obtain ⟨i, hi, rfl⟩ := List.getElem_of_mem hx
  exact ⟨i, hi, by rw [List.getD_eq_getElem?_getD, List.getElem?_eq_getElem hi]; rfl⟩
theorem take_snocW {α : Type} (l : List α) (d : α) (i : Nat) (hi : i < l.length) : l.take (i + 1) = l.take i ++ [l.getD i d] := by
  rw [List.take_add_one, List.getD_eq_getElem?_getD, List.getElem?_eq_getElem hi]
  rfl
theorem rightW_iff (l : List Wa) : rightW l = true ↔ RightW l := by
  unfold rightW
  rw [Bool.and_eq_true, decide_eq_true_eq, List.all_eq_true]
  have e : ∀ i (hi : i < l.length), l.getD i wa0 = l[i] := fun i hi => by rw [List.getD_eq_getElem?_getD, List.getElem?_eq_getElem hi]; rfl
  constructor
  · rintro ⟨h, hf⟩
    have hk : ∀ i, i < l.length → fineW (l.getD i wa0) = true ∧ l.getD i wa0 ∉ l.take i := by
      intro i hi
      have := h i (List.mem_range.2 hi)
      unfold okW at this
      rw [Bool.and_eq_true, Bool.not_eq_true', hasW_not] at this
      exact this
    refine ⟨hf, ?_, ?_⟩
    · intro x hx
      obtain ⟨i, hi, rfl⟩ := mem_getDW l wa0 x hx
      exact (hk i hi).1
    · rw [List.nodup_iff_pairwise_ne, List.pairwise_iff_getElem]
      intro i j hi hj hij heq
      refine (hk j hj).2 ?_
      rw [e j hj, ← heq, List.mem_take_iff_getElem]
      exact ⟨i, by omega, rfl⟩
  · rintro ⟨h1, h2, h3⟩
    refine ⟨fun i hi => ?_, h1⟩
    have hi := List.mem_range.1 hi
    unfold okW
    rw [Bool.and_eq_true, Bool.not_eq_true', hasW_not]
    refine ⟨h2 _ (getD_memW l wa0 i hi), fun hc => ?_⟩
    rw [e i hi, List.mem_take_iff_getElem] at hc
    obtain ⟨j, hj, heq⟩ := hc
    have := (List.pairwise_iff_getElem.1 (List.nodup_iff_pairwise_ne.1 h3)) j i (by omega) hi (by omega)
    exact this heq
theorem toldW_snoc (c : Ch) (l : List Wa) (i : Nat) (hi : i < l.length) : toldW c (l.take (i + 1)) = toldW c (l.take i) ++ (if touchB c (l.getD i wa0) = true then [(l.getD i wa0, c)] else []) := by
  rw [take_snocW l wa0 i hi]
  unfold toldW
  rw [List.filter_append, List.map_append]
  by_cases h : touchB c (l.getD i wa0) = true
  · rw [if_pos h, List.filter_cons_of_pos h]
    rfl
  · rw [if_neg h, List.filter_cons_of_neg h]
    rfl
theorem told_len (c : Ch) (l : List Wa) : (toldW c l).length + (stayW c l).length = l.length := by
  unfold toldW stayW
  induction l with
  | nil => rfl
  | cons x r ih =>
    by_cases h : touchB c x = true
    · rw [List.filter_cons_of_pos h, List.filter_cons_of_neg (by simpa using h)]
      simp only [List.map_cons, List.length_cons] at ih ⊢
      omega
    · rw [List.filter_cons_of_neg h, List.filter_cons_of_pos (by simpa using h)]
      simp only [List.length_cons] at ih ⊢
      omega
theorem leftW_append : ∀ (l : List Wa) (a b : List Ch), leftW l (a ++ b) = leftW (leftW l a) b
  | _, [], _ => rfl
  | l, c :: r, b => leftW_append (stayW c l) r b
theorem fireW_append : ∀ (l : List Wa) (a b : List Ch), fireW l (a ++ b) = fireW l a ++ fireW (leftW l a) b
  | _, [], _ => rfl
  | l, c :: r, b => by
    show toldW c l ++ fireW (stayW c l) (r ++ b) = (toldW c l ++ fireW (stayW c l) r) ++ fireW (leftW (stayW c l) r) b
    rw [fireW_append (stayW c l) r b, List.append_assoc]
theorem leftW_snoc (l : List Wa) (cs : List Ch) (i : Nat) (hi : i < cs.length) : leftW l (cs.take (i + 1)) = stayW (cs.getD i ch0) (leftW l (cs.take i)) := by
  rw [take_snocW cs ch0 i hi, leftW_append]
  rfl
theorem fireW_snoc (l : List Wa) (cs : List Ch) (i : Nat) (hi : i < cs.length) : fireW l (cs.take (i + 1)) = fireW l (cs.take i) ++ toldW (cs.getD i ch0) (leftW l (cs.take i)) := by
  rw [take_snocW cs ch0 i hi, fireW_append]
  show _ ++ (toldW _ _ ++ []) = _
  rw [List.append_nil]
theorem fire_len : ∀ (l : List Wa) (cs : List Ch), (leftW l cs).length + (fireW l cs).length = l.length
  | _, [] => rfl
  | l, c :: r => by
    have h1 := fire_len (stayW c l) r
    have h2 := told_len c l
    show (leftW (stayW c l) r).length + (toldW c l ++ fireW (stayW c l) r).length = l.length
    rw [List.length_append]
    omega
theorem leftW_len (l : List Wa) (cs : List Ch) : (leftW l cs).length ≤ l.length := by have := fire_len l cs; omega
theorem stayW_mem (c : Ch) (l : List Wa) (w : Wa) : w ∈ stayW c l ↔ w ∈ l ∧ touchB c w = false := by
  unfold stayW
  rw [List.mem_filter, Bool.not_eq_true']
theorem toldW_mem (c : Ch) (l : List Wa) (e : Ev) : e ∈ toldW c l ↔ e.1 ∈ l ∧ touchB c e.1 = true ∧ e.2 = c := by
  unfold toldW
  rw [List.mem_map]
  constructor
  · rintro ⟨w, hw, rfl⟩
    rw [List.mem_filter] at hw
    exact ⟨hw.1, hw.2, rfl⟩
  · rintro ⟨h1, h2, h3⟩
    refine ⟨e.1, List.mem_filter.2 ⟨h1, h2⟩, ?_⟩
    rw [← h3]
/-- Who stays is touched by none. -/
theorem leftW_mem : ∀ (l : List Wa) (cs : List Ch) (w : Wa), w ∈ leftW l cs ↔ w ∈ l ∧ ∀ c ∈ cs, touchB c w = false
  | l, [], w => by simp [leftW]
  | l, c :: r, w => by
    show w ∈ leftW (stayW c l) r ↔ _
    rw [leftW_mem (stayW c l) r w, stayW_mem]
    simp only [List.mem_cons, forall_eq_or_imp, and_assoc]
theorem fireW_memW : ∀ (l : List Wa) (cs : List Ch) (e : Ev), e ∈ fireW l cs → e.1 ∈ l
  | _, [], _, h => by simp [fireW] at h
  | l, c :: r, e, h => by
    rcases List.mem_append.1 (show e ∈ toldW c l ++ fireW (stayW c l) r from h) with h | h
    · exact ((toldW_mem c l e).1 h).1
    · exact ((stayW_mem c l _).1 (fireW_memW _ _ _ h)).1
theorem leftW_sub : ∀ (l : List Wa) (cs : List Ch), (leftW l cs).Sublist l
  | _, [] => List.Sublist.refl _
  | l, c :: r => (leftW_sub (stayW c l) r).trans List.filter_sublist
theorem right_sub (l m : List Wa) (h : RightW l) (hm : m.Sublist l) : RightW m := ⟨Nat.le_trans hm.length_le h.few, fun x hx => h.fine x (hm.subset hx), h.once.sublist hm⟩
theorem right_left (l : List Wa) (cs : List Ch) (h : RightW l) : RightW (leftW l cs) := right_sub l _ h (leftW_sub l cs)
theorem right_add (l : List Wa) (w : Wa) (h : RightW l) : RightW (addW l w) := by
  unfold addW
  split
  · rename_i hh
    obtain ⟨h1, h2⟩ := hh
    unfold addE at h1
    split at h1
    · cases h1
    · rename_i hr
      split at h1
      · cases h1
      · rename_i hc
        rw [if_neg (by rw [h2]; simp)] at h1
        split at h1
        · cases h1
        · rename_i hl
          refine ⟨by simp; omega, fun x hx => ?_, ?_⟩
          · rcases List.mem_append.1 hx with hx | hx
            · exact h.fine x hx
            · rw [List.mem_singleton] at hx
              subst hx
              unfold fineW
              rw [show rightB (wP x) = true by simpa using hr, decide_eq_true (by omega)]; rfl
          · rw [List.nodup_append]
            refine ⟨h.once, by simp, fun a ha b hb e => ?_⟩
            rw [List.mem_singleton] at hb
            subst hb e
            exact (hasW_not _ _).1 h2 ha
  · exact h
theorem addE_path (l : List Wa) (w : Wa) (h : rightB (wP w) = false) : addE l w = 13 ∧ addW l w = l := by
  have e : addE l w = 13 := by unfold addE; rw [if_pos h]
  refine ⟨e, ?_⟩
  unfold addW
  rw [if_neg]
  rw [e]
  simp
theorem addE_arg (l : List Wa) (w : Wa) (h : rightB (wP w) = true) (h2 : wC w < 0) : addE l w = 1 ∧ addW l w = l := by
  have e : addE l w = 1 := by unfold addE; rw [if_neg (by rw [h]; simp), if_pos h2]
  refine ⟨e, ?_⟩
  unfold addW
  rw [if_neg]
  rw [e]
  simp
theorem addE_has (l : List Wa) (w : Wa) (h : rightB (wP w) = true) (h2 : ¬ wC w < 0) (h3 : hasW l w = true) : addE l w = 0 ∧ addW l w = l := by
  refine ⟨by unfold addE; rw [if_neg (by rw [h]; simp), if_neg h2, if_pos h3], ?_⟩
  unfold addW
  rw [if_neg]
  rw [h3]
  simp
theorem addE_full (l : List Wa) (w : Wa) (h : rightB (wP w) = true) (h2 : ¬ wC w < 0) (h3 : hasW l w = false) (h4 : 200 ≤ l.length) : addE l w = 9 ∧ addW l w = l := by
  have e : addE l w = 9 := by unfold addE; rw [if_neg (by rw [h]; simp), if_neg h2, if_neg (by rw [h3]; simp), if_pos h4]
  refine ⟨e, ?_⟩
  unfold addW
  rw [if_neg]
  rw [e]
  simp
theorem addE_ok (l : List Wa) (w : Wa) (h : rightB (wP w) = true) (h2 : ¬ wC w < 0) (h3 : hasW l w = false) (h4 : ¬ 200 ≤ l.length) : addE l w = 0 ∧ addW l w = l ++ [w] := by
  have e : addE l w = 0 := by unfold addE; rw [if_neg (by rw [h]; simp), if_neg h2, if_neg (by rw [h3]; simp), if_neg h4]
  refine ⟨e, ?_⟩
  unfold addW
  rw [if_pos ⟨e, h3⟩]
end Go.Proofs.YtdihngkdhanhkaaGreatDoor
namespace Go.Proofs.YtdihngkdhanhkaaGreatDoor

end Go.Proofs.YtdihngkdhanhkaaGreatDoor
namespace Go.Proofs.YtdihngkdhanhkaaGreatDoor
open Go.RowKit

end Go.Proofs.YtdihngkdhanhkaaGreatDoor

namespace Go.Proofs.YtdihngkdhanhkaaGreatDoor
open Go.RowKit

end Go.Proofs.YtdihngkdhanhkaaGreatDoor

namespace Go.Proofs.YtdihngkdhanhkaaGreatDoor
open Go.RowKit

end Go.Proofs.YtdihngkdhanhkaaGreatDoor
namespace Go.Proofs.YtdihngkdhanhkaaGreatDoor
open Go.RowKit
set_option linter.unusedVariables false

end Go.Proofs.YtdihngkdhanhkaaGreatDoor

namespace Go.Proofs.YtdihngkdhanhkaaGreatDoor
open Go.RowKit
set_option linter.unusedVariables false

end Go.Proofs.YtdihngkdhanhkaaGreatDoor
namespace Go.Proofs.YtdihngkdhanhkaaGreatDoor
open Go.RowKit
set_option linter.unusedVariables false

end Go.Proofs.YtdihngkdhanhkaaGreatDoor

namespace Go.Proofs.YtdihngkdhanhkaaGreatDoor
open Go.RowKit
set_option linter.unusedVariables false

/-- What a string is taken of: its bytes, what is left, and the error: 5 large. -/
def takeS (l : List UInt8) (most : Int) : List UInt8 × List UInt8 × Nat :=
  if (takeN l).2.2 ≠ 0 then ([], [], (takeN l).2.2)
  else if max most 0 < ((takeN l).1 : Int) then ([], [], 5)
  else if (takeN l).2.1.length < (takeN l).1 then ([], [], 2)
  else ((takeN l).2.1.take (takeN l).1, (takeN l).2.1.drop (takeN l).1, 0)

end Go.Proofs.YtdihngkdhanhkaaGreatDoor

namespace Go.Proofs.YtdihngkdhanhkaaGreatDoor
open Go.RowKit
set_option linter.unusedVariables false

/-- k strings, one behind the other: the strings, what is left, and the first error. -/
def takeK : Nat → List UInt8 → Int → List ByteArray × List UInt8 × Nat
  | 0, l, _ => ([], l, 0)
  | k + 1, l, m =>
    if (takeS l m).2.2 ≠ 0 then ([], [], (takeS l m).2.2)
    else if (takeK k (takeS l m).2.1 m).2.2 ≠ 0 then ([], [], (takeK k (takeS l m).2.1 m).2.2)
    else (⟨(takeS l m).1.toArray⟩ :: (takeK k (takeS l m).2.1 m).1, (takeK k (takeS l m).2.1 m).2.1, 0)

/-- What was taken so far, ahead of what is still taken. -/
def pre (acc : List ByteArray) (r : List ByteArray × List UInt8 × Nat) : List ByteArray × List UInt8 × Nat :=
  if r.2.2 ≠ 0 then ([], [], r.2.2) else (acc ++ r.1, r.2.1, 0)

end Go.Proofs.YtdihngkdhanhkaaGreatDoor
namespace Go.Proofs.YtdihngkdhanhkaaGreatDoor
open Go.RowKit
set_option linter.unusedVariables false

end Go.Proofs.YtdihngkdhanhkaaGreatDoor
namespace Go.Proofs.YtdihngkdhanhkaaGreatDoor

/-- An order: client, seq, kind, path, value, version, session, span. -/
abbrev Or := Int × Int × Int × List UInt8 × List UInt8 × Int × Int × Int
instance dec5O : DecidableEq (List UInt8 × List UInt8 × Int × Int × Int) := fun _ _ => inferInstance
instance decO : DecidableEq Or := fun a b => inferInstanceAs (Decidable ((a : Int × Int × Int × (List UInt8 × List UInt8 × Int × Int × Int)) = b))
abbrev oC (o : Or) : Int := o.1
abbrev oQ (o : Or) : Int := o.2.1
abbrev oK (o : Or) : Int := o.2.2.1
abbrev oP (o : Or) : List UInt8 := o.2.2.2.1
abbrev oV (o : Or) : List UInt8 := o.2.2.2.2.1
abbrev oR (o : Or) : Int := o.2.2.2.2.2.1
abbrev oS (o : Or) : Int := o.2.2.2.2.2.2.1
abbrev oT (o : Or) : Int := o.2.2.2.2.2.2.2
def or0 : Or := (0, 0, 0, [], [], 0, 0, 0)
/-- A reply: client, seq, fault, value, version, names. -/
abbrev Rp := Int × Int × Int × List UInt8 × Int × List ByteArray
abbrev pC (r : Rp) : Int := r.1
abbrev pQ (r : Rp) : Int := r.2.1
abbrev pE (r : Rp) : Int := r.2.2.1
abbrev pV (r : Rp) : List UInt8 := r.2.2.2.1
abbrev pR (r : Rp) : Int := r.2.2.2.2.1
abbrev pN (r : Rp) : List ByteArray := r.2.2.2.2.2
def rp0 : Rp := (0, 0, 0, [], 0, [])

def ba (l : List UInt8) : ByteArray := ⟨l.toArray⟩
/-- Which of path, value, version, session, span a kind uses: p v n s t. -/
def usesT (k : Int) : List UInt8 :=
  if k = 1 then [112, 118, 115] else if k = 2 ∨ k = 5 ∨ k = 10 ∨ k = 11 then [112] else if k = 3 then [112, 118, 110] else if k = 4 then [112, 110] else if k = 6 then [115, 116] else if k = 7 ∨ k = 8 then [115] else if k = 9 then [116] else []
def sizedO (o : Or) : Bool := decide (0 ≤ oC o) && decide (oC o ≤ 1000) && decide (1 ≤ oQ o) && decide (oQ o ≤ 1000000000) && decide (0 ≤ oK o) && decide (oK o ≤ 11) && decide ((oP o).length ≤ 100) && decide ((oV o).length ≤ 1000)
def usedO (o : Or) : Bool :=
  ((usesT (oK o)).contains 112 || decide (oP o = [])) && ((usesT (oK o)).contains 118 || decide (oV o = [])) && ((usesT (oK o)).contains 110 || decide (oR o = 0)) && ((usesT (oK o)).contains 115 || decide (oS o = 0)) && ((usesT (oK o)).contains 116 || decide (oT o = 0))
def mayO (o : Or) : Bool := sizedO o && usedO o
theorem may_sized {o : Or} (h : mayO o = true) : 0 ≤ oC o ∧ oC o ≤ 1000 ∧ 1 ≤ oQ o ∧ oQ o ≤ 1000000000 ∧ 0 ≤ oK o ∧ oK o ≤ 11 ∧ (oP o).length ≤ 100 ∧ (oV o).length ≤ 1000 := by
  unfold mayO sizedO at h
  simp only [Bool.and_eq_true, decide_eq_true_eq] at h
  omega
end Go.Proofs.YtdihngkdhanhkaaGreatDoor
