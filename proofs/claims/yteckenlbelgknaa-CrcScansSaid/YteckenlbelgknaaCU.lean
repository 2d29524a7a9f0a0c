/-
  One byte stored into an own row of bytes. Words of no program. Each theorem states its own conditions.
-/
import Derived.Test.YteckenlbelgknaaR4
import Derived.Test.YteckenlbelgknaaES
namespace Go.Proofs.Yteckenlbelgknaa
open Go.RowKit

/-- Bytes as rows. -/
def BK : RowK UInt8 := { enc := fun b => [.int .u8 (b.toNat : Int)], k := 1, d := 0, len := fun _ => rfl, one := fun _ u hu => by simp only [List.mem_cons, List.not_mem_nil, or_false] at hu; subst hu; rfl, pos := by decide }
theorem rowsBK (l : List UInt8) : rowsE BK l = bys l := by
  unfold rowsE bys
  induction l with
  | nil => rfl
  | cons b r ih =>
    rw [List.flatMap_cons, ih]
    rfl
theorem Own.toK {e : TypeId} {w : World} {B : Nat} {v : Value} {l : List UInt8} (h : Own e w B v l) : OwnE BK e w B v l := by
  unfold OwnE
  rw [rowsBK]
  exact h
theorem OwnE.fromK {e : TypeId} {w : World} {B : Nat} {v : Value} {l : List UInt8} (h : OwnE BK e w B v l) : Own e w B v l := by
  unfold OwnE at h
  rw [rowsBK] at h
  exact h
theorem Own.inBlock8 {e : TypeId} {w : World} {base : Nat} {v : Value} {l : List UInt8} (h : Own e w base v l) (hn : 0 < l.length) : ∃ g cap, v = .slice (some ⟨g, 0, none⟩) l.length cap ∧ l.length ≤ cap ∧ cap ≤ 9223372036854775807 ∧ base ≤ g ∧ g < w.heap.size := by
  obtain ⟨g, cap, rfl, h1, h2, h3⟩ := h.toK.inBlock hn
  obtain ⟨_, _, _, _, h5, _⟩ := h.toK.block
  unfold maxLen at h5
  exact ⟨g, cap, rfl, h1, by omega, h2, h3⟩
theorem Own.cell8 {e : TypeId} {w : World} {base n cap g : Nat} {l : List UInt8} (h : Own e w base (.slice (some ⟨g, 0, none⟩) n cap) l) (i : Nat) (hi : i < l.length) :
    w.cell? ⟨g, i, none⟩ = some (.int .u8 ((l.getD i 0).toNat : Int)) ∧ w.frozen? ⟨g, i, none⟩ = false := by
  have := h.toK.cellK i 0 hi (by decide)
  rw [show i * BK.k + 0 = i from by show i * 1 + 0 = i; omega] at this
  exact this
theorem Own.stored8 {e : TypeId} {w : World} {base n cap g : Nat} {l : List UInt8} (h : Own e w base (.slice (some ⟨g, 0, none⟩) n cap) l) (i : Nat) (hi : i < l.length) (z : Int) (y : UInt8) (hz : z = (y.toNat : Int)) :
    Own e (w.setCell ⟨g, i, none⟩ (.int .u8 z)) base (.slice (some ⟨g, 0, none⟩) n cap) (l.set i y) ∧ Below base w (w.setCell ⟨g, i, none⟩ (.int .u8 z)) := by
  subst hz
  have := h.toK.storedK i 0 hi (by decide) (.int .u8 (y.toNat : Int)) y rfl
  rw [show i * BK.k + 0 = i from by show i * 1 + 0 = i; omega] at this
  exact ⟨this.1.fromK, this.2⟩
theorem xor8 (x y : UInt8) : (x ^^^ y).toNat = x.toNat ^^^ y.toNat := UInt8.toNat_xor x y
theorem xor8_ne (x y : UInt8) (h : y ≠ 0) : x ≠ x ^^^ y := by
  intro he
  apply h
  have := congrArg (x ^^^ ·) he
  simp only [UInt8.xor_self, ← UInt8.xor_assoc, UInt8.zero_xor] at this
  exact this.symm
theorem set_mid (l : List UInt8) (k : Nat) (hk : k < l.length) (y : UInt8) : ∃ a c, l = a ++ l.getD k 0 :: c ∧ l.set k y = a ++ y :: c := by
  refine ⟨l.take k, l.drop (k + 1), ?_, ?_⟩
  · have : l.getD k 0 = l[k] := by rw [List.getD_eq_getElem?_getD, List.getElem?_eq_getElem hk]; rfl
    rw [this, List.getElem_cons_drop, List.take_append_drop]
  · rw [List.set_eq_take_append_cons_drop, if_pos hk]
end Go.Proofs.Yteckenlbelgknaa
