/-
  Package lms: Sign, for every input.
  Package lms: shapeWith, for every two types; the way up a tree, climb, for every input that it is called with.
  Package lms: the way up a tree, climb, for every input that it is called with.
  Package lms: keyIn, what a public key states, for every bytes.
  Package lms: partsIn, the parts of a signature, for every bytes.
  Package lms: Verify, for every input.
-/
import Derived.Test.YteckenlbelgknaaLA
import Derived.Test.YteckenlbelgknaaRel4
import Derived.Test.YteckenlbelgknaaDD
namespace Go.Proofs.Yteckenlbelgknaa
open Go.RowKit

end Go.Proofs.Yteckenlbelgknaa

namespace Go.Proofs.Yteckenlbelgknaa
open Go.RowKit

/-- A width and a height of these types. -/
def LFit (D Y k h : Nat) : Prop := Wd k ∧ Ht h ∧ knd h = D ∧ typ k = Y
/-- What shapeWith answers. -/
def LShape (D Y : Nat) (w : World) (e : Ending) (w' : World) : Prop :=
  (∃ k h, LFit D Y k h ∧ TwoD (.agg (shl k h).toArray) (.int .i64 0) w e w') ∨ ((∀ k h, ¬ LFit D Y k h) ∧ TwoD (.agg shl0.toArray) (.int .i64 3) w e w')
end Go.Proofs.Yteckenlbelgknaa

namespace Go.Proofs.Yteckenlbelgknaa
open Go.RowKit

theorem run_sliceFromE (a : Addr) (n c m : Nat) (w : World) (h1 : m ≤ n) (_ : n ≤ c) : (Instr.sliceAt 22 (.slice (some a) n c) (some (.int .i64 (m : Int))) none none).run Try.prog w = .ok (.slice (some (if c = m then a else a.add m)) (n - m) (c - m)) w := by
  by_cases hc : c = m
  · simp [Instr.sliceAt, Instr.slice, run_underlying Try.underlying22, Instr.sliceBounds, Instr.sliceBound, asIntOf, h1, hc, Sem.run_bind, Result.andThen]
  · simp [Instr.sliceAt, Instr.slice, run_underlying Try.underlying22, Instr.sliceBounds, Instr.sliceBound, asIntOf, h1, hc, Sem.run_bind, Result.andThen]
theorem Rd.dropE {B : Nat} {w : World} {a : Addr} {n c : Nat} {l : List UInt8} (h : Rd B w (.slice (some a) n c) l) (m : Nat) (hm : m ≤ n) : Rd B w (.slice (some (if c = m then a else a.add m)) (n - m) (c - m)) (l.drop m) := by
  have := h.drop m hm
  by_cases hc : c = m
  · rw [if_pos hc] at this ⊢; exact this
  · rw [if_neg hc] at this ⊢; exact this

end Go.Proofs.Yteckenlbelgknaa

namespace Go.Proofs.Yteckenlbelgknaa
open Go.RowKit

theorem LFit.uniq {D Y k h k' h' : Nat} (a : LFit D Y k h) (b : LFit D Y k' h') : k = k' ∧ h = h' := by
  obtain ⟨a1, a2, a3, a4⟩ := a
  obtain ⟨b1, b2, b3, b4⟩ := b
  refine ⟨?_, ?_⟩
  · rw [← b4] at a4
    rcases a1 with rfl | rfl | rfl | rfl <;> rcases b1 with rfl | rfl | rfl | rfl <;> first | rfl | (simp [typ] at a4)
  · rw [← b3] at a3
    rcases a2 with rfl | rfl | rfl | rfl | rfl <;> rcases b2 with rfl | rfl | rfl | rfl | rfl <;> first | rfl | (simp [knd] at a3)
/-- The cells of a key. -/
def kyl (S : List Value) (I R : List UInt8) : List Value := S ++ (bys I ++ bys R)
theorem kyl_length (S : List Value) (I R : List UInt8) (hS : S.length = 4) (hI : I.length = 16) (hR : R.length = 32) : (kyl S I R).length = 52 := by simp [kyl, bys_length, hS, hI, hR]
def K16 : List UInt8 := List.replicate 16 0
def K32 : List UInt8 := List.replicate 32 0
def kyl0 : List Value := kyl shl0 K16 K32
theorem kyl_one (S : List Value) (I R : List UInt8) (hS : S.toArray.all (·.oneCell') = true) : (kyl S I R).toArray.all (·.oneCell') = true := by
  rw [Array.all_eq_true_iff_forall_mem] at hS ⊢
  intro v hv
  simp only [kyl, List.mem_toArray, List.mem_append] at hv
  rcases hv with h | h | h
  · exact hS v (by simpa using h)
  · exact bys_one _ _ h
  · exact bys_one _ _ h
theorem kyl0_one : kyl0.toArray.all (·.oneCell') = true := kyl_one _ _ _ shl0_one
theorem kyl0_len : kyl0.length = 52 := kyl_length _ _ _ rfl rfl rfl
theorem kyl_shape (S S' : List Value) (I R : List UInt8) (hS : S.length = 4) (hS' : S'.length = 4) : (kyl S I R).take 0 ++ (S' ++ (kyl S I R).drop (0 + S'.length)) = kyl S' I R := by
  unfold kyl
  rw [List.take_zero, List.nil_append, hS', Nat.zero_add, List.drop_append, List.drop_of_length_le (by omega), hS, List.nil_append]
  rfl
theorem kyl_name (S : List Value) (I I' R : List UInt8) (hS : S.length = 4) (hI : I.length = 16) (hI' : I'.length = 16) : (kyl S I R).take 4 ++ (bys I' ++ (kyl S I R).drop (4 + I'.length)) = kyl S I' R := by
  unfold kyl
  rw [List.take_append_of_le_length (by omega), List.take_of_length_le (by omega), hI', List.drop_append, List.drop_of_length_le (by omega), hS, List.nil_append, show 4 + 16 - 4 = 16 from rfl, List.drop_append, List.drop_of_length_le (by rw [bys_length]; omega), bys_length, hI, List.nil_append]
  rfl
theorem kyl_root (S : List Value) (I R R' : List UInt8) (hS : S.length = 4) (hI : I.length = 16) (hR : R.length = 32) (hR' : R'.length = 32) : (kyl S I R).take 20 ++ (bys R' ++ (kyl S I R).drop (20 + R'.length)) = kyl S I R' := by
  unfold kyl
  rw [List.take_append, List.take_of_length_le (by omega), hS, show 20 - 4 = 16 from rfl, List.take_append_of_le_length (by rw [bys_length]; omega), List.take_of_length_le (by rw [bys_length]; omega), List.drop_of_length_le (by simp [bys_length]; omega), List.append_nil, List.append_assoc]

end Go.Proofs.Yteckenlbelgknaa

namespace Go.Proofs.Yteckenlbelgknaa
open Go.RowKit

def pts0 : List Value := [.int .u32 0, .slice none 0 0, .slice none 0 0]
theorem pts0_one : pts0.toArray.all (·.oneCell') = true := by simp [pts0, Value.oneCell']

/-- The cells of a signature's parts. -/
def ptl (q : Nat) (o b : Value) : List Value := [.int .u32 (q : Int), o, b]
theorem ptl_one (q n m c d : Nat) (A B : Option Addr) : (ptl q (.slice A n c) (.slice B m d)).toArray.all (·.oneCell') = true := by simp [ptl, Value.oneCell']

end Go.Proofs.Yteckenlbelgknaa

namespace Go.Proofs.Yteckenlbelgknaa
open Go.RowKit

theorem run_load_midU {P : Program} {o : Oper} {a : Act} {w : World} (t : TypeId) (x : Operand) (ho : o.op = .load t x) (g off : Nat) (hx : a.eval x = .pointer (some ⟨g, off, none⟩)) (cs : List Value) (d : TypeDesc) (hc : w.rangeAt g off cs)
    (hu : P.underlying t = some d) (hd : d.isRow = true) (hi : (P.info? t).map (·.size) = some cs.length) : (execOp a.eval o).run P w = .ok (.value (.agg cs.toArray)) w := by
  unfold execOp
  simp only [ho, hx, Instr.loadAt, Instr.sureAddr, Sem.run_bind, Sem.run_pure, Result.andThen_ok, run_loadVar_mid w g off t cs d hc hu hd hi]
theorem kyl_rangeS {w : World} {g : Nat} {S : List Value} {I R : List UInt8} {t : TypeId} (h : Blk w g (kyl S I R) t) : w.rangeAt g 0 S := fun j v hv => by
  have hj : j < S.length := (List.getElem?_eq_some_iff.1 hv).1
  rw [h.cell, Nat.zero_add]
  unfold kyl
  rw [List.getElem?_append_left hj]
  exact hv
theorem kyl_rangeI {w : World} {g : Nat} {S : List Value} {I R : List UInt8} {t : TypeId} (h : Blk w g (kyl S I R) t) (hS : S.length = 4) : w.rangeAt g 4 (bys I) := fun j v hv => by
  have hj : j < (bys I).length := (List.getElem?_eq_some_iff.1 hv).1
  rw [h.cell]
  unfold kyl
  rw [List.getElem?_append_right (by omega), hS, show 4 + j - 4 = j by omega, List.getElem?_append_left hj]
  exact hv
theorem kyl_rangeR {w : World} {g : Nat} {S : List Value} {I R : List UInt8} {t : TypeId} (h : Blk w g (kyl S I R) t) (hS : S.length = 4) (hI : I.length = 16) : w.rangeAt g 20 (bys R) := fun j v hv => by
  rw [h.cell]
  unfold kyl
  rw [List.getElem?_append_right (by omega), hS, List.getElem?_append_right (by rw [bys_length]; omega), bys_length, hI, show 20 + j - 4 - 16 = j by omega]
  exact hv

end Go.Proofs.Yteckenlbelgknaa
