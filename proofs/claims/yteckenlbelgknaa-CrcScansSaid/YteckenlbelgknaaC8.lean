/-
  Words of the laws on frames. Each theorem states its own conditions.
-/
import Derived.Test.YteckenlbelgknaaC7
namespace Go.Proofs.Yteckenlbelgknaa
open Go.RowKit

/-- The call answers this value and leaves what was there. -/
def OneC (v : Value) (w : World) (e : Ending) (w' : World) : Prop := e = .returned v ∧ Below w.heap.size w w'
/-- What a frame holds, what is behind it, the fault. -/
def TookC (r : List UInt8 × List UInt8 × Nat) (w : World) (e : Ending) (w' : World) : Prop :=
  ∃ v1 v2, e = .returned (.tuple #[v1, v2, .int .i64 (r.2.2 : Int)]) ∧ Rd w'.heap.size w' v1 r.1 ∧ Rd w'.heap.size w' v2 r.2.1 ∧ Below w.heap.size w w'
/-- The frames found and how long they are. -/
def ScannedC (y : List (List UInt8) × Nat) (w : World) (e : Ending) (w' : World) : Prop :=
  ∃ v, e = .returned (.tuple #[v, .int .i64 (y.2 : Int)]) ∧ RdM w'.heap.size w' v y.1 ∧ Below w.heap.size w w'
theorem CutC.took {B : Nat} {r : List UInt8 × List UInt8 × Nat} {w w' : World} {e : Ending} (h : CutC B r w e w') (hB : B ≤ w.heap.size) : TookC r w e w' := by
  obtain ⟨v1, v2, h1, h2, h3, h4⟩ := h
  exact ⟨v1, v2, h1, h2.more (Nat.le_trans hB h4.size), h3.more (Nat.le_trans hB h4.size), h4⟩
theorem ScanO.scanned {B : Nat} {y : List (List UInt8) × Nat} {w w' : World} {e : Ending} (h : ScanO B y w e w') (hB : B ≤ w.heap.size) : ScannedC y w e w' := by
  obtain ⟨v, h1, h2, h3⟩ := h
  exact ⟨v, h1, h2.rd (Nat.le_trans hB h3.size), h3⟩
/-- A new row of bytes. -/
theorem Rd.rowF (e : TypeId) (fr : Nat × Nat) (w : World) (l : List UInt8) (hl : l.length ≤ maxLen) : Rd (w.heap.size + 1) (w.alloc (.cells (bys l).toArray e fr)) (.slice (some ⟨w.heap.size, 0, none⟩) l.length l.length) l := by
  refine ⟨some ⟨w.heap.size, 0, none⟩, l.length, rfl, Nat.le_refl _, hl, fun h => (by cases h), fun a ha => ?_⟩
  cases ha
  refine ⟨fun _ => Nat.lt_succ_self _, fun j hj => ?_⟩
  rw [Addr.add_mid, cell_of_row _ _ _ _ e fr (heap_alloc_new w _)]
  simp [bys, hj]
def txtC : List UInt8 := [49, 50, 51, 52, 53, 54, 55, 56, 57]
theorem alive_C : sumC txtC = 3808858755 := by decide +kernel
theorem alive_T : takeC (frameC [97, 98]) = ([97, 98], [], 0) := by
  have h := takeC_frame [97, 98] [] (by decide)
  rwa [List.append_nil] at h
end Go.Proofs.Yteckenlbelgknaa
