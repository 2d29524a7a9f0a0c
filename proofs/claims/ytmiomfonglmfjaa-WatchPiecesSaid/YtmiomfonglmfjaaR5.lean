/-
  Parts of structs, texts compared: words of no program. Each theorem states its own conditions.
-/
import Derived.Test.YtmiomfonglmfjaaR1
import Derived.Laws.StructEq
import Derived.Lib.Strings
namespace Go.Proofs.Ytmiomfonglmfjaa
open Go.RowKit

theorem run_sizeOf_ofE {P : Program} (t : TypeId) (n : Nat) (h : (P.info? t).map (·.size) = some n) (w : World) : (sizeOf t).run P w = .ok n w := by
  cases hq : P.info? t with
  | none => rw [hq] at h; cases h
  | some i =>
    rw [hq] at h
    simp only [Option.map_some, Option.some.injEq] at h
    simp [sizeOf, typeInfo, hq, h]
theorem run_part_aggE {P : Program} (t : TypeId) (d : TypeDesc) (n off : Nat) (cs cs' : List Value) (hu : P.underlying t = some d) (hd : d.isRow = true) (hn : (P.info? t).map (·.size) = some n) (he : (cs.drop off).take n = cs') (w : World) : (part t cs.toArray off).run P w = .ok (.agg cs'.toArray) w := by
  have ha : (isAgg t).run P w = .ok true w := by
    unfold isAgg
    simp only [Sem.run_bind, run_underlying hu, Result.andThen_ok]
    cases d <;> first | rfl | cases hd
  unfold part
  simp only [Sem.run_bind, ha, Result.andThen_ok, if_true, run_sizeOf_ofE t n hn, Sem.run_pure]
  congr 2
  rw [← he]
  simp
theorem toList_txtE (l : List UInt8) : (⟨l.toArray⟩ : ByteArray).toList = l := by rw [Lib.toList_data]
theorem txt_eqE (x y : List UInt8) (h : x = y) : (x == y) = true := by simpa using h
theorem txt_neE (x y : List UInt8) (h : x ≠ y) : (x == y) = false := by simpa using h
theorem int_neE (x y : Int) (h : x ≠ y) : (x == y) = false := by rw [beq_eq_false_iff_ne]; exact h
theorem int_eqE (x y : Int) (h : x = y) : (x == y) = true := by rw [h]; exact beq_self_eq_true y
/-- A new slice of one thing. -/
def NewE {α : Type} (E : RowK α) (e : TypeId) (x : α) (B : Nat) (u : Value) (w : World) : Prop := ∃ g, u = .slice (some ⟨g, 0, none⟩) 1 1 ∧ Blk w g (E.enc x) e ∧ B ≤ g
theorem NewE.keep {α : Type} {E : RowK α} {e : TypeId} {x : α} {B : Nat} {u : Value} {w w' : World} (h : NewE E e x B u w) (hb : Below w.heap.size w w') : NewE E e x B u w' := by
  obtain ⟨g, h1, h2, h3⟩ := h
  exact ⟨g, h1, h2.below hb h2.lt, h3⟩
theorem NewE.rd {α : Type} {E : RowK α} {e : TypeId} {x : α} {B : Nat} {u : Value} {w : World} (h : NewE E e x B u w) : RdE E w.heap.size w u [x] := by
  obtain ⟨g, rfl, h2, h3⟩ := h
  exact (RdE.ofBlk h2).more h2.lt
/-- A slice of things, built. -/
theorem RdE.ofBlks {α : Type} {E : RowK α} {w : World} {g : Nat} {l : List α} {e : TypeId} (h : Blk w g (rowsE E l) e) (hl : l.length ≤ maxLen) : RdE E (g + 1) w (.slice (some ⟨g, 0, none⟩) l.length l.length) l := by
  refine ⟨some ⟨g, 0, none⟩, l.length, rfl, Nat.le_refl _, hl, fun h => (by cases h), fun a ha => ?_⟩
  cases ha
  refine ⟨fun _ => Nat.lt_succ_self _, fun j u hu => ?_⟩
  have hadd : (⟨g, 0, none⟩ : Addr).add j = ⟨g, j, none⟩ := by unfold Addr.add; split <;> simp_all
  rw [hadd]
  exact (h.cell j).trans hu
theorem add_zeroA (a : Addr) : a.add 0 = a := by
  obtain ⟨b, o, s⟩ := a
  unfold Addr.add
  cases s <;> simp
theorem one_of {v : Value} (h : v.oneCell' = true) : [v].toArray.all (·.oneCell') = true := by simp [h]
end Go.Proofs.Ytmiomfonglmfjaa
