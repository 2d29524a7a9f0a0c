/-
  Package lms: fourBytes, number, sibling, kindOf, the leaves and the length of a shape, the key of a leaf, for every input that they are called with.
  Package lms: the key of a leaf, and the hashes of nodes: nodeHash, leafHash, upperHash, for every input that they are called with.
  Package lms: leafHash and upperHash, for every input that they are called with.
  Package lms: shapeOf, for every width and height; hashes, what it lays.
  Package lms: the hash of a node, for every node of a tree.
  Package lms: Long and Leaf, for every input; the siblings of a leaf's way.
  Package lms: Public and Knot, for every input.
-/
import Derived.Test.YteckenlbelgknaaCC
import Derived.Test.YteckenlbelgknaaLp
import Derived.Laws.EntriesVeiled
namespace Go.Proofs.Yteckenlbelgknaa
open Go.RowKit

/-- A height. -/
def Ht (h : Nat) : Prop := h = 1 ∨ h = 2 ∨ h = 3 ∨ h = 4 ∨ h = 5
theorem Ht.le {h : Nat} (H : Ht h) : 1 ≤ h ∧ h ≤ 5 := by rcases H with rfl | rfl | rfl | rfl | rfl <;> decide
theorem Ht.of {h : Nat} (h1 : 1 ≤ h) (h5 : h ≤ 5) : Ht h := by unfold Ht; omega

/-- The cells of a shape. -/
def shl (k h : Nat) : List Value := [.int .u32 (knd h : Nat), .int .u32 (typ k : Nat), .int .i64 (lng k : Nat), .int .i64 (h : Nat)]
def shl0 : List Value := [.int .u32 0, .int .u32 0, .int .i64 0, .int .i64 0]
theorem shl0_one : shl0.toArray.all (·.oneCell') = true := by simp [shl0, Value.oneCell']
theorem shl_one (k h : Nat) : (shl k h).toArray.all (·.oneCell') = true := by simp [shl, Value.oneCell']

theorem Blk.at_ {w : World} {g : Nat} {cs : List Value} {t : TypeId} (h : Blk w g cs t) (j : Nat) (v : Value) (hj : cs[j]? = some v) : w.cell? ⟨g, j, none⟩ = some v := (h.cell j).trans hj

end Go.Proofs.Yteckenlbelgknaa

namespace Go.Proofs.Yteckenlbelgknaa
open Go.RowKit

/-- The cells of a tree. -/
def tcs (I seed : List UInt8) (z y : Int) : List Value := bys I ++ (bys seed ++ [.int .i64 z, .int .i64 y])
theorem tcs_length (I seed : List UInt8) (z y : Int) (hI : I.length = 16) (hs : seed.length = 32) : (tcs I seed z y).length = 50 := by simp [tcs, bys_length, hI, hs]
theorem tcs_z (I seed : List UInt8) (z y : Int) (hI : I.length = 16) (hs : seed.length = 32) : (tcs I seed z y)[48]? = some (.int .i64 z) := by
  unfold tcs
  rw [List.getElem?_append_right (by rw [bys_length, hI]; omega), List.getElem?_append_right (by rw [bys_length, bys_length, hI, hs]; omega), bys_length, bys_length, hI, hs]
  rfl
theorem tcs_y (I seed : List UInt8) (z y : Int) (hI : I.length = 16) (hs : seed.length = 32) : (tcs I seed z y)[49]? = some (.int .i64 y) := by
  unfold tcs
  rw [List.getElem?_append_right (by rw [bys_length, hI]; omega), List.getElem?_append_right (by rw [bys_length, bys_length, hI, hs]; omega), bys_length, bys_length, hI, hs]
  rfl
theorem tcs_rangeI {w : World} {g : Nat} {I seed : List UInt8} {z y : Int} {t : TypeId} (h : Blk w g (tcs I seed z y) t) : w.rangeAt g 0 (bys I) := fun j v hv => by
  have hj : j < (bys I).length := (List.getElem?_eq_some_iff.1 hv).1
  rw [h.cell, Nat.zero_add]
  unfold tcs
  rw [List.getElem?_append_left hj]
  exact hv
theorem tcs_rangeS {w : World} {g : Nat} {I seed : List UInt8} {z y : Int} {t : TypeId} (h : Blk w g (tcs I seed z y) t) (hI : I.length = 16) : w.rangeAt g 16 (bys seed) := fun j v hv => by
  have hj : j < (bys seed).length := (List.getElem?_eq_some_iff.1 hv).1
  rw [h.cell]
  unfold tcs
  rw [List.getElem?_append_right (by rw [bys_length, hI]; omega), bys_length, hI, List.getElem?_append_left (by omega), show 16 + j - 16 = j by omega]
  exact hv
/-- The name of a tree, read where it lies. -/
theorem tcs_I {w : World} {g B : Nat} {I seed : List UInt8} {z y : Int} {t : TypeId} (h : Blk w g (tcs I seed z y) t) (hI : I.length = 16) (hg : g < B) : Rd B w (.slice (some ⟨g, 0, none⟩) 16 16) I := by
  refine ⟨some ⟨g, 0, none⟩, 16, by rw [hI], by omega, by unfold maxLen; omega, fun h => (by cases h), fun a ha => ?_⟩
  cases ha
  refine ⟨fun _ => hg, fun j hj => ?_⟩
  have := tcs_rangeI h j _ (bys_get I j hj)
  rw [Addr.add_mid]
  exact this
theorem tcs_one (I seed : List UInt8) (z y : Int) : (tcs I seed z y).toArray.all (·.oneCell') = true := by
  rw [Array.all_eq_true_iff_forall_mem]
  intro v hv
  simp only [tcs, List.mem_toArray, List.mem_append, List.mem_cons, List.not_mem_nil, or_false] at hv
  rcases hv with h | h | h | h
  · exact bys_one _ _ h
  · exact bys_one _ _ h
  · subst h; rfl
  · subst h; rfl
theorem list_asL (l : List UInt8) (n : Nat) (h : l.length = n) : l = (List.range n).map fun i => l.getD i 0 := by
  subst h
  refine List.ext_getElem (by simp) (fun i h1 h2 => ?_)
  simp [h1]
theorem kcs_oneL (I seed : List UInt8) (q : Nat) (z : Int) : (kcs I q seed z).toArray.all (·.oneCell') = true := by
  rw [Array.all_eq_true_iff_forall_mem]
  intro v hv
  simp only [kcs, List.mem_toArray, List.mem_append, List.mem_cons, List.not_mem_nil, or_false] at hv
  rcases hv with h | h | h | h
  · exact bys_one _ _ h
  · subst h; rfl
  · exact bys_one _ _ h
  · subst h; rfl
theorem ret_blkUL {P : Program} {fn : Func} {p : Tmp} {ty : TypeId} (h : fn.results = #[.cell p ty]) (tmps : Array Value) (w : World) (g : Nat) (t : TypeId) (cs : List Value)
    (hp : tmps.getD p undef = .pointer (some ⟨g, 0, none⟩)) (hb : Blk w g cs t) (d : TypeDesc) (hu : P.underlying ty = some d) (hd : d.isRow = true) (hi : (P.info? ty).map (·.size) = some cs.length) :
    (results fn tmps).run P w = .ok (.agg cs.toArray) w :=
  results_cell_row h tmps w g t cs.toArray (0, 0) d hp hb hu (by cases d <;> first | rfl | cases hd) (by simpa using hi)

theorem Own.apart {e : TypeId} {w : World} {base g : Nat} {v : Value} {l : List UInt8} (h : Own e w base v l) (hg : g < base) : Apart g v := fun a n c hv hn => by
  obtain ⟨_, ⟨hv2, _⟩ | ⟨g2, cap, cur, hv2, hb, _⟩⟩ := h
  · rw [hv] at hv2; cases hv2
  · rw [hv] at hv2
    injection hv2 with e1 e2 e3
    injection e1 with e1
    subst e1
    show g2 ≠ g
    omega

end Go.Proofs.Yteckenlbelgknaa

namespace Go.Proofs.Yteckenlbelgknaa
open Go.RowKit

end Go.Proofs.Yteckenlbelgknaa

namespace Go.Proofs.Yteckenlbelgknaa
open Go.RowKit

/-- No height. -/
def NoH (y : Int) : Prop := y < 1 ∨ 5 < y

end Go.Proofs.Yteckenlbelgknaa

namespace Go.Proofs.Yteckenlbelgknaa
open Go.RowKit

end Go.Proofs.Yteckenlbelgknaa

namespace Go.Proofs.Yteckenlbelgknaa
open Go.RowKit

/-- No tree. -/
def NoT (z y : Int) : Prop := NoW z ∨ NoH y
theorem tree_or (z y : Int) : (∃ k h : Nat, Wd k ∧ Ht h ∧ z = (k : Int) ∧ y = (h : Int)) ∨ NoT z y := by
  rcases width_or z with ⟨k, hk, rfl⟩ | hz
  · by_cases h1 : 1 ≤ y ∧ y ≤ 5
    · exact .inl ⟨k, y.toNat, hk, Ht.of (by omega) (by omega), rfl, by omega⟩
    · exact .inr (.inr (by unfold NoH; omega))
  · exact .inr (.inl hz)

theorem sbl_take (I seed : List UInt8) (k L n : Nat) : ∀ j r i, i < n → (sbl I seed k L j n r).take (32 * (i + 1)) = (sbl I seed k L j n r).take (32 * i) ++ knt I seed k L (j + i) (sbr (r / 2 ^ i)) := by
  induction n with
  | zero => intro j r i hi; omega
  | succ n ih =>
    intro j r i hi
    rw [sbl]
    have hl := knt_length I seed k L j (sbr r)
    cases i with
    | zero =>
      rw [List.take_append_of_le_length (by omega), List.take_of_length_le (by omega)]
      simp
    | succ i =>
      rw [List.take_append, List.take_append, List.take_of_length_le (by omega), hl, show 32 * (i + 1 + 1) - 32 = 32 * (i + 1) by omega, show 32 * (i + 1) - 32 = 32 * i by omega, List.take_of_length_le (l := knt I seed k L j (sbr r)) (by omega), ih (j + 1) (r / 2) i (by omega), List.append_assoc, show j + 1 + i = j + (i + 1) by omega, Nat.div_div_eq_div_mul, Nat.pow_succ, Nat.mul_comm 2]

end Go.Proofs.Yteckenlbelgknaa

namespace Go.Proofs.Yteckenlbelgknaa
open Go.RowKit

theorem shl_at0 (k h : Nat) : ((shl k h)[0]? : Option Value) = some (.int .u32 (knd h : Nat)) := rfl
theorem shl_at1 (k h : Nat) : ((shl k h)[1]? : Option Value) = some (.int .u32 (typ k : Nat)) := rfl
theorem knd_lt {h : Nat} (H : Ht h) : knd h < 4294967296 := by rcases H with rfl | rfl | rfl | rfl | rfl <;> decide
theorem typ_lt {k : Nat} (H : Wd k) : typ k < 4294967296 := by rcases H with rfl | rfl | rfl | rfl <;> decide

end Go.Proofs.Yteckenlbelgknaa
