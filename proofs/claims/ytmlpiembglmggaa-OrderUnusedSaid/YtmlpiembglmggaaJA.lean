/-
  Books of sessions in memory; the document's Has.
-/
import Derived.Test.YtmlpiembglmggaaJ0
import Derived.Test.YtmlpiembglmggaaRZ
import Derived.WalkLawsBesides
namespace Go.Proofs.Ytmlpiembglmggaa
open Go.RowKit

/-- A session's cells. -/
def sec (x : Se) : List Value := [.int .i64 (sI x), .int .i64 (sP x), .int .i64 (sU x)]
theorem sec_one (x : Se) : ∀ u ∈ sec x, u.oneCell' = true := by
  intro u hu
  unfold sec at hu
  simp only [List.mem_cons, List.not_mem_nil, or_false] at hu
  rcases hu with rfl | rfl | rfl <;> rfl
def SeK : RowK Se := { enc := sec, k := 3, d := se0, len := fun _ => rfl, one := sec_one, pos := by decide }
/-- An int's cell. -/
def inc (x : Int) : List Value := [.int .i64 x]
def InK : RowK Int := { enc := inc, k := 1, d := 0, len := fun _ => rfl, one := fun x u hu => by unfold inc at hu; simp only [List.mem_cons, List.not_mem_nil, or_false] at hu; rw [hu]; rfl, pos := by decide }
theorem RdE.at3 {B : Nat} {w : World} {A : Option Addr} {n c : Nat} {l : List Se} (h : RdE SeK B w (.slice A n c) l) (j : Nat) (hj : j < l.length) :
    ∃ a, A = some a ∧ w.cell? (a.add (j * 3)) = some (.int .i64 (sI (l.getD j se0))) ∧ w.cell? ⟨(a.add (j * 3)).block, (a.add (j * 3)).off + 1, none⟩ = some (.int .i64 (sP (l.getD j se0))) ∧
      w.cell? ⟨(a.add (j * 3)).block, (a.add (j * 3)).off + 2, none⟩ = some (.int .i64 (sU (l.getD j se0))) := by
  obtain ⟨a, ha, hc⟩ := h.cells j hj
  exact ⟨a, ha, hc 0 (by decide), hc 1 (by decide), hc 2 (by decide)⟩
theorem RdE.at1 {B : Nat} {w : World} {A : Option Addr} {n c : Nat} {l : List Int} (h : RdE InK B w (.slice A n c) l) (j : Nat) (hj : j < l.length) :
    ∃ a, A = some a ∧ w.cell? (a.add j) = some (.int .i64 (l.getD j 0)) := by
  obtain ⟨a, ha, hc⟩ := h.cells j hj
  have h0 := hc 0 (by decide)
  rw [show j * InK.k = j from Nat.mul_one j] at h0
  exact ⟨a, ha, h0⟩
theorem int_ne (x y : Int) (h : x ≠ y) : (x == y) = false := by rw [beq_eq_false_iff_ne]; exact h
theorem int_eq (x y : Int) (h : x = y) : (x == y) = true := by rw [h]; exact beq_self_eq_true y
theorem take_se (l : List Se) (i : Nat) (hi : i < l.length) : l.take (i + 1) = l.take i ++ [l.getD i se0] := by
  rw [List.take_add_one, List.getD_eq_getElem?_getD, List.getElem?_eq_getElem hi]
  rfl
theorem book_one (t : Int) (A : Option Addr) (n c : Nat) : [Value.int .i64 t, .slice A n c].toArray.all (·.oneCell') = true := by
  rw [Array.all_eq_true_iff_forall_mem]
  intro v hv
  simp at hv
  rcases hv with rfl | rfl <;> rfl
theorem sec_all (x : Se) : (sec x).toArray.all (·.oneCell') = true := enc_all SeK x

/-- The call answers a book; a book and a fault; a book, numbers and a fault. -/
def Book1 (t : Int) (l : List Se) (w : World) (e : Ending) (w' : World) : Prop := ∃ v, e = .returned (.agg #[.int .i64 t, v]) ∧ RdE SeK w'.heap.size w' v l ∧ Below w.heap.size w w'
def Books (t : Int) (l : List Se) (f : Nat) (w : World) (e : Ending) (w' : World) : Prop := ∃ v, e = .returned (.tuple #[.agg #[.int .i64 t, v], .int .i64 (f : Int)]) ∧ RdE SeK w'.heap.size w' v l ∧ Below w.heap.size w w'
def Ticks (t : Int) (l : List Se) (g : List Int) (f : Nat) (w : World) (e : Ending) (w' : World) : Prop :=
  ∃ v u, e = .returned (.tuple #[.agg #[.int .i64 t, v], u, .int .i64 (f : Int)]) ∧ RdE SeK w'.heap.size w' v l ∧ RdE InK w'.heap.size w' u g ∧ Below w.heap.size w w'

theorem hasS_here (l : List Se) (id : Int) (i : Nat) (hi : i < l.length) (h : sI (l.getD i se0) = id) : hasS l id = true := (hasS_iff l id).2 ⟨_, getD_memS l i hi, h⟩
theorem hasS_none (l : List Se) (id : Int) (h : ∀ i, i < l.length → sI (l.getD i se0) ≠ id) : hasS l id = false := by
  rw [hasS_not]
  intro x hx
  obtain ⟨i, hi, rfl⟩ := mem_getDS l x hx
  exact h i hi

end Go.Proofs.Ytmlpiembglmggaa
