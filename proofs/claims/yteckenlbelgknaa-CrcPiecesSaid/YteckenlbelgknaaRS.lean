/-
  Rows of slices: a slice as a row's element. Words of no program.
-/
import Derived.Test.YteckenlbelgknaaR1
namespace Go.Proofs.Yteckenlbelgknaa
open Go.RowKit

/-- A slice as a row's element. -/
abbrev SlT := Option Addr × Nat × Nat
def slv (s : SlT) : Value := .slice s.1 s.2.1 s.2.2
def sl0 : SlT := (none, 0, 0)
def SlK : RowK SlT := { enc := fun s => [slv s], k := 1, d := sl0, len := fun _ => rfl, one := fun _ u hu => by simp only [List.mem_cons, List.not_mem_nil, or_false] at hu; subst hu; rfl, pos := by decide }
theorem RdE.atSl {B : Nat} {w : World} {A : Option Addr} {n c : Nat} {l : List SlT} (h : RdE SlK B w (.slice A n c) l) (j : Nat) (hj : j < l.length) :
    ∃ a, A = some a ∧ w.cell? (a.add j) = some (slv (l.getD j sl0)) := by
  obtain ⟨a, ha, hc⟩ := h.cells j hj
  have h0 := hc 0 (by decide)
  rw [show j * SlK.k = j from Nat.mul_one j] at h0
  exact ⟨a, ha, h0⟩
end Go.Proofs.Yteckenlbelgknaa
