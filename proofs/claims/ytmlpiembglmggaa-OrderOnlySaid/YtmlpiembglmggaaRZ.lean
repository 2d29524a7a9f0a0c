/-
  Rows of structs in memory, of any kind: rows that a slice reads as, rows of a call's own; append, load, cut, write. Each theorem states its own conditions.
  Blocks and rows beside one another: what a store into one leaves of the others. Each theorem states its own conditions.
  Rows of structs that came in as arguments: what they read as, and how long they are. Each theorem states its own conditions.
  A box is written over: rows that can't lie in it stay.
  Rows of structs of any kind: copy, clear, append of a whole row; how a row of one's own is written. Each theorem states its own conditions.
  Parts of structs, texts compared: words of no program. Each theorem states its own conditions.
  The rule for a region whose order is open, where one of the last operations waits for nothing and reads nothing: it is taken first. Words of no program.
  The rule for a region whose order is open, where a store waits for some, not all, of the others: those that it doesn't wait for read no memory, and are taken as soon as they can be. Words of no program.
  The rule for a region whose order is open, where some operations (numbers sp) change memory of the call's own, each in a way S of its own: predicates may speak of what has not been done yet. Words of no program.
  append of a row where another operation guards it, and it is wanted. Words of no program.
  The rule of R8, where an operation may ask what each other one has done, if it has been done. Words of no program.
  The rule of RX with any invariant of the memory in the place of growth: for regions that store into blocks that were there before. Words of no program.
-/
import Derived.Test.YtmlpiembglmggaaMs
import Derived.Test.YtmlpiembglmggaaOJ
import Derived.Deep.MidRow
import Derived.Test.YtmlpiembglmggaaLB
import Derived.Test.YtmlpiembglmggaaOP
import Derived.Lib.SmallJoins
import Derived.SizedLaws
import Derived.Lib.Overlaps
import Derived.Lib.AppendZerosOnto
import Derived.Deep.RegionLaw
import Derived.Laws.StructEq
import Derived.Lib.Strings
import Derived.BigFrame
namespace Go.Proofs.Ytmlpiembglmggaa
open Go.RowKit

/-- How things of a kind lie in memory: so many cells each. -/
structure RowK (α : Type) where
  enc : α → List Value
  k : Nat
  d : α
  len : ∀ x, (enc x).length = k
  one : ∀ x, ∀ u ∈ enc x, u.oneCell' = true
  pos : 0 < k

section
variable {α : Type} (E : RowK α)

def rowsE (l : List α) : List Value := l.flatMap E.enc
theorem rowsE_nil : rowsE E [] = [] := rfl
theorem rowsE_length : ∀ l : List α, (rowsE E l).length = l.length * E.k
  | [] => by simp [rowsE]
  | x :: r => by
    have := rowsE_length r
    unfold rowsE at *
    rw [List.flatMap_cons, List.length_append, this, List.length_cons, E.len, Nat.succ_mul, Nat.add_comm]
theorem rowsE_append (a b : List α) : rowsE E (a ++ b) = rowsE E a ++ rowsE E b := by simp [rowsE]
theorem rowsE_one (x : α) : rowsE E [x] = E.enc x := by simp [rowsE]
theorem rowsE_cell (l : List α) : ∀ u ∈ rowsE E l, u.oneCell' = true := by
  intro u hu
  obtain ⟨x, _, h⟩ := List.mem_flatMap.1 hu
  exact E.one x u h
theorem rowsE_get : ∀ (l : List α) (j i : Nat), j < l.length → i < E.k → (rowsE E l)[j * E.k + i]? = (E.enc (l.getD j E.d))[i]?
  | [], j, _, h, _ => by simp at h
  | x :: r, j, i, h, hi => by
    have e : rowsE E (x :: r) = E.enc x ++ rowsE E r := by simp [rowsE]
    rw [e]
    cases j with
    | zero =>
      rw [List.getElem?_append_left (by rw [E.len]; omega)]
      simp
    | succ j =>
      rw [List.getElem?_append_right (by rw [E.len, Nat.succ_mul]; omega)]
      have := rowsE_get r j i (by simpa using h) hi
      rw [show (j + 1) * E.k + i - (E.enc x).length = j * E.k + i from by rw [E.len, Nat.succ_mul]; omega, this]
      simp
theorem enc_get (x : α) (i : Nat) (hi : i < E.k) : (E.enc x)[i]? = some ((E.enc x).getD i undef) := by
  rw [List.getD_eq_getElem?_getD, List.getElem?_eq_getElem (by rw [E.len]; exact hi)]
  rfl
theorem enc_all (x : α) : (E.enc x).toArray.all (·.oneCell') = true := by
  rw [Array.all_eq_true_iff_forall_mem]
  intro v hv
  exact E.one x v (by simpa using hv)

/-- The slice value v reads as the things l; it lies below block B. Nil reads as none. -/
def RdE (B : Nat) (w : World) (v : Value) (l : List α) : Prop :=
  ∃ A c, v = .slice A l.length c ∧ l.length ≤ c ∧ c ≤ maxLen ∧ (A = none → c = 0) ∧
    ∀ a, A = some a → (0 < l.length → a.block < B) ∧ ∀ j u, (rowsE E l)[j]? = some u → w.cell? (a.add j) = some u
/-- The call owns the slice value v of things, from block 'base' on. -/
def OwnE (e : TypeId) (w : World) (base : Nat) (v : Value) (l : List α) : Prop := w.ownsRow base e E.k v l.length (rowsE E l)
end

section
variable {α : Type} {E : RowK α}
theorem RdE.keep {B : Nat} {w w' : World} {v : Value} {l : List α} (h : RdE E B w v l) (hk : ∀ p : Addr, p.block < B → w'.cell? p = w.cell? p) : RdE E B w' v l := by
  obtain ⟨A, c, hv, hc, hm, hn, hr⟩ := h
  refine ⟨A, c, hv, hc, hm, hn, fun a ha => ⟨(hr a ha).1, fun j u hu => ?_⟩⟩
  have hj : j < (rowsE E l).length := (List.getElem?_eq_some_iff.1 hu).1
  rw [rowsE_length] at hj
  have h0 : 0 < l.length := by
    cases hl : l.length with
    | zero => rw [hl, Nat.zero_mul] at hj; omega
    | succ n => omega
  rw [hk _ (by rw [addr_block]; exact (hr a ha).1 h0)]
  exact (hr a ha).2 j u hu
theorem RdE.below {B : Nat} {w w' : World} {v : Value} {l : List α} (h : RdE E B w v l) (hb : Below B w w') : RdE E B w' v l := h.keep fun _ hp => hb.cell hp
theorem RdE.more {B B' : Nat} {w : World} {v : Value} {l : List α} (h : RdE E B w v l) (hB : B ≤ B') : RdE E B' w v l := by
  obtain ⟨A, c, hv, hc, hm, hn, hr⟩ := h
  exact ⟨A, c, hv, hc, hm, hn, fun a ha => ⟨fun h0 => Nat.lt_of_lt_of_le ((hr a ha).1 h0) hB, (hr a ha).2⟩⟩
/-- Both: carried over a growth, to its end. -/
theorem RdE.on {B : Nat} {w w' : World} {v : Value} {l : List α} (h : RdE E B w v l) (hb : Below B w w') : RdE E w'.heap.size w' v l ∨ w'.heap.size < B := by
  by_cases hs : B ≤ w'.heap.size
  · exact .inl ((h.below hb).more hs)
  · exact .inr (by omega)
theorem RdE.nil (B : Nat) (w : World) : RdE E B w (.slice none 0 0) [] := ⟨none, 0, rfl, Nat.le_refl _, Nat.zero_le _, fun _ => rfl, fun _ h => by cases h⟩
theorem RdE.shape {B : Nat} {w : World} {v : Value} {l : List α} (h : RdE E B w v l) : ∃ A c, v = .slice A l.length c ∧ l.length ≤ c ∧ c ≤ maxLen := by
  obtain ⟨A, c, hv, h1, h2, _⟩ := h
  exact ⟨A, c, hv, h1, h2⟩
/-- Where there is one, the address is there, and its cells are. -/
theorem RdE.cells {B : Nat} {w : World} {A : Option Addr} {n c : Nat} {l : List α} (h : RdE E B w (.slice A n c) l) (j : Nat) (hj : j < l.length) :
    ∃ a, A = some a ∧ ∀ i, i < E.k → w.cell? ((a.add (j * E.k)).add i) = some ((E.enc (l.getD j E.d)).getD i undef) := by
  obtain ⟨A', c', hv, hc, hm, hn, hr⟩ := h
  injection hv with h1 h2 h3
  subst h1 h2 h3
  cases A with
  | none => have := hn rfl; omega
  | some a =>
    refine ⟨a, rfl, fun i hi => ?_⟩
    rw [Addr.add_add]
    exact (hr a rfl).2 (j * E.k + i) _ ((rowsE_get E l j i hj hi).trans (enc_get E _ i hi))
theorem RdE.node {B : Nat} {w : World} {a : Addr} {n c : Nat} {l : List α} (h : RdE E B w (.slice (some a) n c) l) (j : Nat) (hj : j < l.length) : ∀ i v, (E.enc (l.getD j E.d))[i]? = some v → w.cell? ((a.add (j * E.k)).add i) = some v := by
  intro i v hv
  have hi : i < E.k := by
    have := (List.getElem?_eq_some_iff.1 hv).1
    rwa [E.len] at this
  obtain ⟨a', e, hc⟩ := h.cells j hj
  injection e with e
  subst e
  rw [hc i hi, ← enc_get E _ i hi]
  exact hv
theorem RdE.take {B : Nat} {w : World} {A : Option Addr} {n c : Nat} {l : List α} (h : RdE E B w (.slice A n c) l) (k : Nat) (hk : k ≤ n) : RdE E B w (.slice A k c) (l.take k) := by
  obtain ⟨A', c', hv, hc, hm, hn, hr⟩ := h
  injection hv with h1 h2 h3
  subst h1 h2 h3
  have hl : (l.take k).length = k := by simp; omega
  refine ⟨A, c, by rw [hl], by rw [hl]; omega, hm, hn, fun a ha => ⟨fun h0 => (hr a ha).1 (by omega), fun j u hu => (hr a ha).2 j u ?_⟩⟩
  have e : rowsE E l = rowsE E (l.take k) ++ rowsE E (l.drop k) := by rw [← rowsE_append, List.take_append_drop]
  have hj := (List.getElem?_eq_some_iff.1 hu).1
  rw [e, List.getElem?_append_left hj]
  exact hu
theorem RdE.drop {B : Nat} {w : World} {a : Addr} {n c : Nat} {l : List α} (h : RdE E B w (.slice (some a) n c) l) (k : Nat) (hk : k ≤ n) : RdE E B w (.slice (if c = k then some a else some (a.add (k * E.k))) (n - k) (c - k)) (l.drop k) := by
  obtain ⟨A', c', hv, hc, hm, hn, hr⟩ := h
  injection hv with h1 h2 h3
  subst h1 h2 h3
  have hl : (l.drop k).length = l.length - k := List.length_drop
  refine ⟨_, c - k, by rw [hl], by omega, by omega, fun hnone => ?_, fun x hx => ⟨fun h0 => ?_, fun j u hu => ?_⟩⟩
  · split at hnone <;> cases hnone
  · have h1 := (hr a rfl).1 (by rw [hl] at h0; omega)
    split at hx
    · injection hx with hx; rw [← hx]; exact h1
    · injection hx with hx; rw [← hx, addr_block]; exact h1
  · have hj := (List.getElem?_eq_some_iff.1 hu).1
    rw [rowsE_length, hl] at hj
    split at hx
    · rename_i hck
      have : l.length - k = 0 := by omega
      rw [this, Nat.zero_mul] at hj; omega
    · injection hx with hx
      rw [← hx, Addr.add_add]
      refine (hr a rfl).2 (k * E.k + j) u ?_
      have e : rowsE E l = rowsE E (l.take k) ++ rowsE E (l.drop k) := by rw [← rowsE_append, List.take_append_drop]
      have e2 : (rowsE E (l.take k)).length = k * E.k := by rw [rowsE_length, List.length_take, Nat.min_eq_left hk]
      rw [e, List.getElem?_append_right (by omega), e2, Nat.add_sub_cancel_left]
      exact hu
theorem RdE.ofBlk {w : World} {g : Nat} {x : α} {e : TypeId} (h : Blk w g (E.enc x) e) : RdE E (g + 1) w (.slice (some ⟨g, 0, none⟩) 1 1) [x] := by
  refine ⟨some ⟨g, 0, none⟩, 1, rfl, Nat.le_refl _, by decide, fun h => (by cases h), fun a ha => ?_⟩
  cases ha
  refine ⟨fun _ => Nat.lt_succ_self _, fun j u hu => ?_⟩
  rw [rowsE_one] at hu
  have hadd : (⟨g, 0, none⟩ : Addr).add j = ⟨g, j, none⟩ := by unfold Addr.add; split <;> simp_all
  rw [hadd]
  exact (h.cell j).trans hu
/-- A slice of one thing, built. -/
theorem RdE.one (w : World) (e : TypeId) (x : α) : RdE E (w.heap.size + 1) (w.alloc (.cells (E.enc x).toArray e)) (.slice (some ⟨w.heap.size, 0, none⟩) 1 1) [x] :=
  RdE.ofBlk (heap_alloc_new w _)

theorem OwnE.rd {e : TypeId} {w : World} {base : Nat} {v : Value} {l : List α} (h : OwnE E e w base v l) : RdE E w.heap.size w v l := by
  rcases h.2 with ⟨rfl, hn⟩ | ⟨g, cap, cur, rfl, hb, hg, hnc, hm, _, _⟩
  · have : l = [] := List.eq_nil_of_length_eq_zero hn
    subst this
    exact RdE.nil _ _
  · have hlt : g < w.heap.size := (Array.getElem?_eq_some_iff.1 hg).1
    refine ⟨some ⟨g, 0, none⟩, cap, rfl, hnc, hm, fun h => (by cases h), fun a ha => ?_⟩
    cases ha
    exact ⟨fun _ => hlt, fun j u hu => World.ownsRow.cells (g := g) h rfl j _ hu⟩
theorem OwnE.below {e : TypeId} {w w' : World} {base B : Nat} {v : Value} {l : List α} (h : OwnE E e w base v l) (hb : Below B w w') (hB : w.heap.size ≤ B) : OwnE E e w' base v l := by
  refine ⟨h.1, ?_⟩
  rcases h.2 with hn | ⟨g, cap, cur, rfl, hg0, hg, r⟩
  · exact .inl hn
  · have hlt : g < w.heap.size := (Array.getElem?_eq_some_iff.1 hg).1
    exact .inr ⟨g, cap, cur, rfl, hg0, by rw [hb.block g (by omega)]; exact hg, r⟩
theorem OwnE.base {e : TypeId} {w : World} {base base' : Nat} {v : Value} {l : List α} (h : OwnE E e w base v l) (hb : base' ≤ base) : OwnE E e w base' v l := by
  refine ⟨h.1, ?_⟩
  rcases h.2 with hn | ⟨g, cap, cur, rfl, hg0, r⟩
  · exact .inl hn
  · exact .inr ⟨g, cap, cur, rfl, by omega, r⟩
theorem OwnE.nil (e : TypeId) (w : World) (base : Nat) : OwnE E e w base (.slice none 0 0) [] := World.ownsRow_nil w base e E.k
theorem OwnE.alloc {e : TypeId} {w : World} {base : Nat} {v : Value} {l : List α} (h : OwnE E e w base v l) (o : Obj) : OwnE E e (w.alloc o) base v l := World.ownsRow.alloc h o
theorem OwnE.grown {e : TypeId} {w w' : World} {base : Nat} {v : Value} {l : List α} (h : OwnE E e w base v l) (hg : w.grownBy w' v.ownBlock) (hb : base ≤ w.heap.size) : Below base w w' :=
  (Below.refl base w).grown hg hb fun k hk => (World.ownsRow.lt h k hk).1
theorem OwnE.empty (e : TypeId) (w : World) (base : Nat) (hb : base ≤ w.heap.size) : OwnE E e (w.alloc (.cells #[] e)) base (.slice (some ⟨w.heap.size, 0, none⟩) 0 0) [] :=
  World.ownsRow_made w #[] 0 hb (by decide) (by simp)
theorem OwnE.inBlock {e : TypeId} {w : World} {base : Nat} {v : Value} {l : List α} (h : OwnE E e w base v l) (hn : 0 < l.length) : ∃ g cap, v = .slice (some ⟨g, 0, none⟩) l.length cap ∧ l.length ≤ cap ∧ base ≤ g ∧ g < w.heap.size := by
  rcases h.2 with ⟨_, h1⟩ | ⟨g, cap, cur, h1, h2, h3, h4, _⟩
  · omega
  · exact ⟨g, cap, h1, h4, h2, (Array.getElem?_eq_some_iff.1 h3).1⟩
theorem OwnE.block {e : TypeId} {w : World} {base n cap g : Nat} {l : List α} (h : OwnE E e w base (.slice (some ⟨g, 0, none⟩) n cap) l) : ∃ cur : Array Value, Blk w g cur.toList e ∧ base ≤ g ∧ l.length ≤ cap ∧ cap ≤ maxLen ∧ cur.size = cap * E.k ∧ cur.toList.take (l.length * E.k) = rowsE E l ∧ n = l.length := by
  rcases h.2 with ⟨h1, _⟩ | ⟨g', cap', cur, h1, h2, h3, h4, h5, h6, h7⟩
  · simp at h1
  · injection h1 with h1 hn hc
    injection h1 with h1
    injection h1 with h1
    subst h1 hc
    refine ⟨cur, ?_, h2, h4, h5, h6, h7, hn⟩
    unfold Blk
    simpa using h3
theorem rowsE_cut (l : List α) (i : Nat) (hi : i < l.length) : (rowsE E l).take (i * E.k) = rowsE E (l.take i) ∧ (rowsE E l).drop (i * E.k + E.k) = rowsE E (l.drop (i + 1)) := by
  have e : l = l.take i ++ (l[i] :: l.drop (i + 1)) := by
    rw [← List.drop_eq_getElem_cons hi, List.take_append_drop]
  have e1 : rowsE E l = rowsE E (l.take i) ++ (E.enc l[i] ++ rowsE E (l.drop (i + 1))) := by
    have h := congrArg (rowsE E) e
    rw [rowsE_append, show l[i] :: l.drop (i + 1) = [l[i]] ++ l.drop (i + 1) from rfl, rowsE_append, rowsE_one] at h
    exact h
  have hl : (rowsE E (l.take i)).length = i * E.k := by
    rw [rowsE_length, List.length_take, Nat.min_eq_left (by omega)]
  rw [e1]
  refine ⟨List.take_left' hl, ?_⟩
  rw [← List.drop_drop, List.drop_left' hl]
  exact List.drop_left' (E.len _)
theorem rowsE_set (l : List α) (i : Nat) (x : α) (hi : i < l.length) : rowsE E (l.set i x) = (rowsE E l).take (i * E.k) ++ (E.enc x ++ (rowsE E l).drop (i * E.k + E.k)) := by
  rw [(rowsE_cut l i hi).1, (rowsE_cut l i hi).2, List.set_eq_take_append_cons_drop, if_pos hi, rowsE_append, show x :: l.drop (i + 1) = [x] ++ l.drop (i + 1) from rfl, rowsE_append, rowsE_one]
theorem setCells_otherE (g : Nat) : ∀ (vs : List Value) (o : Nat) (w : World) (k : Nat), k ≠ g → (w.setCells g o vs).heap[k]? = w.heap[k]?
  | [], _, _, _, _ => rfl
  | v :: r, o, w, k, h => by
    show ((w.setCell ⟨g, o, none⟩ v).setCells g (o + 1) r).heap[k]? = _
    rw [setCells_otherE g r (o + 1) _ k h, heap_setCell_other w ⟨g, o, none⟩ k v h]
theorem setCells_sizeE (g : Nat) : ∀ (vs : List Value) (o : Nat) (w : World), (w.setCells g o vs).heap.size = w.heap.size
  | [], _, _ => rfl
  | v :: r, o, w => by
    show ((w.setCell ⟨g, o, none⟩ v).setCells g (o + 1) r).heap.size = _
    rw [setCells_sizeE g r (o + 1) _]
    simp [World.setCell]
theorem below_setCellsE {B g : Nat} (hBg : B ≤ g) {w0 : World} : ∀ (vs : List Value) (o : Nat) (w : World), Below B w0 w → Below B w0 (w.setCells g o vs)
  | [], _, _, h => h
  | v :: r, o, w, h => below_setCellsE hBg r (o + 1) (w.setCell ⟨g, o, none⟩ v) (h.setCell hBg v)
theorem take_midE (A X B C : List Value) (m n : Nat) (hA : A = C.take m) (hB : B = C.drop (m + X.length)) (hm : m + X.length ≤ n) (hC : n ≤ C.length) : (A ++ (X ++ B)).take n = (C.take n).take m ++ (X ++ (C.take n).drop (m + X.length)) := by
  have hAl : A.length = m := by rw [hA, List.length_take]; omega
  rw [List.take_append, List.take_append, hAl, List.take_of_length_le (by omega), List.take_of_length_le (by omega), hA, List.take_take, Nat.min_eq_left (by omega), hB, List.drop_take, Nat.sub_sub]
/-- A thing is written over another one. -/
theorem OwnE.stored {e : TypeId} {w : World} {base n cap g : Nat} {l : List α} (h : OwnE E e w base (.slice (some ⟨g, 0, none⟩) n cap) l) (i : Nat) (hi : i < l.length) (x : α) :
    OwnE E e (w.setCells g (i * E.k) (E.enc x)) base (.slice (some ⟨g, 0, none⟩) n cap) (l.set i x) ∧ w.there g (i * E.k) E.k ∧ Below base w (w.setCells g (i * E.k) (E.enc x)) := by
  obtain ⟨cur, hb, h2, h4, h5, h6, h7, hn⟩ := h.block
  have hcl : cur.toList.length = cap * E.k := by rw [Array.length_toList, h6]
  have hx : (E.enc x).length = E.k := E.len x
  have hmul : i * E.k + E.k ≤ l.length * E.k := by rw [← Nat.succ_mul]; exact Nat.mul_le_mul_right _ hi
  have hmul2 : l.length * E.k ≤ cap * E.k := Nat.mul_le_mul_right _ h4
  have hs := hb.setCells (E.enc x) (i * E.k) (by rw [hcl, hx]; omega)
  refine ⟨⟨?_, .inr ⟨g, cap, (cur.toList.take (i * E.k) ++ (E.enc x ++ cur.toList.drop (i * E.k + (E.enc x).length))).toArray, ?_, h2, hs, ?_, h5, ?_, ?_⟩⟩, ?_, ?_⟩
  · rw [rowsE_length]
  · rw [List.length_set, hn]
  · rw [List.length_set]; exact h4
  · simp only [List.size_toArray, List.length_append, List.length_take, List.length_drop, hcl, hx]
    omega
  · rw [List.length_set, rowsE_set l i x hi, ← h7]
    have := take_midE _ (E.enc x) _ cur.toList (i * E.k) (l.length * E.k) rfl rfl (by rw [hx]; omega) (by rw [hcl]; omega)
    rw [hx] at this ⊢
    exact this
  · intro j hj
    have hlt : i * E.k + j < cur.toList.length := by rw [hcl]; omega
    exact ⟨by rw [hb.cell, List.getElem?_eq_getElem hlt]; rfl, hb.frozen _⟩
  · exact below_setCellsE h2 _ _ _ (Below.refl _ _)
end

/-- A struct is read, wherever it lies. -/
theorem run_load_rowE {P : Program} {w : World} (ty : TypeId) (ad : Addr) (cs : List Value) (hc : ∀ j v, cs[j]? = some v → w.cell? (ad.add j) = some v) (d : TypeDesc) (hu : P.underlying ty = some d) (hd : d.isRow = true) (hi : (P.info? ty).map (·.size) = some cs.length) :
    (loadVar ty ad).run P w = .ok (.agg cs.toArray) w := by
  have hl : (loadCells ad cs.length).run P w = .ok cs.toArray w := run_loadCells_list (P := P) w ad cs hc
  cases hq : P.info? ty with
  | none => simp [hq] at hi
  | some i =>
    have hs : i.size = cs.length := by simpa [hq] using hi
    have hagg : (isAgg ty).run P w = .ok true w := by
      unfold isAgg
      rw [Sem.run_bind, run_underlying hu w]
      cases d <;> first | rfl | cases hd
    simp [loadVar, Sem.run_bind, hagg, sizeOf, typeInfo, hq, hs, hl]
theorem wpList_load_rowE {P : Program} {w : World} {ops : Array Oper} {rest : List Oper} {o : Oper} {a : Act} {Q : Exit → Act → World → Prop} (hgd : o.guard = none) (ty : TypeId) (x : Operand) (ho : o.op = .load ty x)
    (ad : Addr) (hx : a.eval x = .pointer (some ad)) (cs : List Value) (hc : ∀ j v, cs[j]? = some v → w.cell? (ad.add j) = some v) (d : TypeDesc) (hu : P.underlying ty = some d) (hd : d.isRow = true) (hi : (P.info? ty).map (·.size) = some cs.length)
    (h : wpList P ops Q rest (a.put o.dst (.agg cs.toArray)) w) : wpList P ops Q (o :: rest) a w := by
  refine wpList_plain hgd fun _ hK => ?_
  unfold Oper.wp execOp
  simp only [ho, hx, Instr.loadAt, Instr.sureAddr, Sem.run_bind, Sem.run_pure, Result.andThen_ok, run_load_rowE ty ad cs hc d hu hd hi]
  exact hK _ _ h

section
variable {P : Program} (w : World)
/-- append onto a row that is owned: the row's block is the old one or a new one. -/
theorem run_append_orE (base : Nat) (t ty e : TypeId) (i : TypeInfo) (z : Value) (size bytes : Nat) (ht : P.underlying t = some (.slice e)) (hi : P.info? e = some i) (hz : i.zero = some z)
    (hsize : i.size = size) (hby : i.bytes = bytes) (hzs : z.cells.size = size) (hsz : 0 < size)
    (v : Value) (n : Nat) (xs : List Value) (hown : w.ownsRow base e size v n xs)
    (a : Addr) (m c : Nat) (news : List Value) (hl : news.length = m * size) (hnews : ∀ j u, news[j]? = some u → w.cell? (a.add j) = some u) (h1 : ∀ u ∈ news, u.oneCell' = true)
    (h63 : n + m ≤ maxLen) (hbytes : (n + m) * bytes ≤ 140737488355328) (hbase : base ≤ w.heap.size) (hm : 0 < m) :
    ∃ v' w', (Builtin.append_ #[t, t] ty #[v, .slice (some a) m c]).run P w = .ok v' w' ∧ w'.ownsRow base e size v' (n + m) (xs ++ news) ∧ w.grownBy w' v.ownBlock ∧
      (v'.ownBlock = v.ownBlock ∨ ∃ k, v'.ownBlock = some k ∧ w.heap.size ≤ k) := by
  obtain ⟨v', w', hr, g1, g2, _⟩ := run_append_own (P := P) w base t ty e i z size bytes ht hi hz hsize hby hzs hsz v n xs hown a m c news hl hnews h1 h63 hbytes hbase
  refine ⟨v', w', hr, g1, g2, ?_⟩
  subst hsize
  subst hby
  have hsmall : n + m ≤ 9223372036854775807 := by simp only [maxLen] at h63; omega
  rcases hown.2 with ⟨rfl, rfl⟩ | ⟨g, cap, cur, rfl, hbg, hg, hnc, hcm, hcs, htake⟩
  · have hr2 := run_append_nil (P := P) w t ty e i z ht hi hz a m c news hl hnews (by omega) (by omega) (by have hb := hbytes; simp only [Nat.zero_add] at hb; omega)
    rw [hr] at hr2
    injection hr2 with e1 _
    right
    exact ⟨w.heap.size, by rw [e1]; rfl, Nat.le_refl _⟩
  · by_cases hroom : n + m ≤ cap
    · have hfit : n * i.size + news.length ≤ cur.size := by rw [hl, hcs, ← Nat.add_mul]; exact Nat.mul_le_mul_right _ hroom
      have hr2 := run_append_room (P := P) w t ty e i ht hi g n cap cur hg a m c news hl hnews h1 hroom hfit
      rw [hr] at hr2
      injection hr2 with e1 _
      left
      rw [e1]; rfl
    · have holds : ∀ j u, xs[j]? = some u → w.cell? ((⟨g, 0, none⟩ : Addr).add j) = some u := hown.cells (g := g) rfl
      have hr2 := run_append_grow (P := P) w t ty e i z ht hi hz ⟨g, 0, none⟩ n cap xs hown.1 holds a m c news hl hnews (by omega) (by omega) (growslice_fits (by omega) hbytes)
      rw [hr] at hr2
      injection hr2 with e1 _
      right
      exact ⟨w.heap.size, by rw [e1]; rfl, Nat.le_refl _⟩
end
/-- A kind's type: its zero value, its cells, its bytes. -/
def KindOf {α : Type} (P : Program) (e : TypeId) (E : RowK α) (bytes : Nat) : Prop := ∃ i z, P.info? e = some i ∧ i.zero = some z ∧ i.size = E.k ∧ i.bytes = bytes ∧ z.cells.size = E.k
theorem kind_of {α : Type} {P : Program} {e : TypeId} {E : RowK α} {bytes : Nat} {z : Value} (h : (P.info? e).map (fun i => (i.zero, i.size, i.bytes)) = some (some z, E.k, bytes)) (hz : z.cells.size = E.k) : KindOf P e E bytes := by
  cases hi : P.info? e with
  | none => rw [hi] at h; simp at h
  | some i =>
    rw [hi] at h
    simp at h
    exact ⟨i, z, hi, h.1, h.2.1, h.2.2, hz⟩
/-- append of things onto things that are owned: what stays, and where the row lies. -/
theorem wpList_appE {α : Type} {E : RowK α} {P : Program} {w : World} {ops : Array Oper} {rest : List Oper} {o : Oper} {a : Act} {Q : Exit → Act → World → Prop}
    (hgd : o.guard = none) (s x : Operand) (t : TypeId) (ho : o.op = .call { callee := .builtin .append, args := #[s, x], argTypes := #[t, t] })
    (e : TypeId) (bytes : Nat) (ht : P.underlying t = some (.slice e)) (hk : KindOf P e E bytes)
    (base B : Nat) (v vx : Value) (l m : List α) (hs : a.eval s = v) (hown : OwnE E e w base v l) (hx : a.eval x = vx) (hr : RdE E B w vx m) (hm0 : 0 < m.length)
    (hlen : (l.length + m.length) * bytes ≤ 140737488355328) (h63 : l.length + m.length ≤ 9223372036854775807) (hbase : base ≤ w.heap.size)
    (h : ∀ v' w', OwnE E e w' base v' (l ++ m) → Below base w w' → w.grownBy w' v.ownBlock → (v'.ownBlock = v.ownBlock ∨ ∃ k, v'.ownBlock = some k ∧ w.heap.size ≤ k) → wpList P ops Q rest (a.put o.dst v') w') : wpList P ops Q (o :: rest) a w := by
  obtain ⟨i, z, hi, hz, hsize, hby, hzs⟩ := hk
  obtain ⟨A, c, hv, hc, hm, hn, hrr⟩ := hr
  cases A with
  | none => have h0 : c = 0 := hn rfl; omega
  | some ad =>
    refine wpList_plain hgd fun K hK => ?_
    obtain ⟨v', w', hrun, h1, h2, h3⟩ := run_append_orE (P := P) w base t o.type e i z E.k bytes ht hi hz hsize hby hzs E.pos v l.length (rowsE E l) hown ad m.length c (rowsE E m) (rowsE_length E m) (hrr ad rfl).2 (rowsE_cell E m) (by unfold maxLen; omega) hlen hbase hm0
    unfold Oper.wp execOp
    simp only [ho, resolve, invoke, builtin, Sem.run_bind, Sem.run_pure, Result.andThen_ok, List.map_toArray, List.map_cons, List.map_nil, hs, hx, hv, hrun]
    refine hK _ _ (h v' w' ?_ (OwnE.grown hown h2 hbase) h2 h3)
    unfold OwnE
    rw [List.length_append, rowsE_append]
    exact h1
/-- A row of one's own beside another one that grew. -/
theorem OwnE.beside {α β : Type} {E : RowK α} {F : RowK β} {e f : TypeId} {w w' : World} {base : Nat} {v u v' : Value} {l : List α} {m : List β} (h : OwnE E e w base v l) (_hm : OwnE F f w base u m) (hg : w.grownBy w' u.ownBlock) (hne : v.ownBlock = none ∨ v.ownBlock ≠ u.ownBlock) : OwnE E e w' base v l := by
  have _ := v'
  exact World.ownsRow.kept h hg hne
end Go.Proofs.Ytmlpiembglmggaa

namespace Go.Proofs.Ytmlpiembglmggaa
open Go.RowKit

theorem Blk.same {w w' : World} {g : Nat} {cs : List Value} {t : TypeId} (h : Blk w g cs t) (hO : w'.heap[g]? = w.heap[g]?) : Blk w' g cs t := by
  unfold Blk
  rw [hO]
  exact h
theorem ownsRow_same {w w' : World} {b : Nat} {e : TypeId} {s : Nat} {v : Value} {n : Nat} {xs : List Value} (h : w.ownsRow b e s v n xs) (hO : ∀ k, b ≤ k → w'.heap[k]? = w.heap[k]?) : w'.ownsRow b e s v n xs := by
  refine ⟨h.1, ?_⟩
  rcases h.2 with hn | ⟨g, cap, cur, rfl, hg0, hg1, r⟩
  · exact .inl hn
  · exact .inr ⟨g, cap, cur, rfl, hg0, by rw [hO g hg0]; exact hg1, r⟩
theorem ownsRow_other {w w' : World} {b b' : Nat} {e e' : TypeId} {s s' : Nat} {v v' : Value} {n n' : Nat} {xs xs' : List Value} (hne : e ≠ e') (h : w.ownsRow b e s v n xs) (h' : w.ownsRow b' e' s' v' n' xs') (hg : w.grownBy w' v'.ownBlock) : w'.ownsRow b e s v n xs := by
  refine ⟨h.1, ?_⟩
  rcases h.2 with hn | ⟨g, cap, cur, rfl, hg0, hg1, r⟩
  · exact .inl hn
  · have hlt : g < w.heap.size := (Array.getElem?_eq_some_iff.1 hg1).1
    refine .inr ⟨g, cap, cur, rfl, hg0, ?_, r⟩
    rw [hg.block g hlt ?_]
    · exact hg1
    · intro he
      rcases h'.2 with ⟨rfl, _⟩ | ⟨g', cap', cur', rfl, _, hg1', _⟩
      · cases he
      · injection he with he
        have he2 : g = g' := he
        subst he2
        rw [hg1] at hg1'
        injection hg1' with hg1'
        injection hg1' with _ h3
        exact hne h3
/-- The whole row is written: the world behind it. -/
theorem wpList_store_to {P : Program} {w : World} {ops : Array Oper} {rest : List Oper} {o : Oper} {a : Act} {Q : Exit → Act → World → Prop} (hg : o.guard = none) (t : TypeId) (x y : Operand) (ho : o.op = .store t x y) (g : Nat) (cs old : List Value) (u : TypeId)
    (hx : a.eval x = .pointer (some ⟨g, 0, none⟩)) (hy : a.eval y = .agg cs.toArray) (hb : Blk w g old u) (hi : (P.info? t).map (·.size) = some cs.length) (hl : old.length = cs.length) (h1 : cs.toArray.all (·.oneCell') = true)
    (h : ∀ w', Blk w' g cs u → w'.heap.size = w.heap.size → Below g w w' → (∀ k, k ≠ g → w'.heap[k]? = w.heap[k]?) → wpList P ops Q rest (a.put o.dst undef) w') : wpList P ops Q (o :: rest) a w := by
  refine wpList_store_blk hg t x y ho g cs old u hx hy hb hi hl h1 ?_
  exact h _ hb.setRow (by simp [World.setRow]) (below_setRow' (Below.refl _ _) (Nat.le_refl _) _) (fun k hne => setRow_other w g k _ hne)
theorem ownsRow_but {w w' : World} {b gN : Nat} {e : TypeId} {s : Nat} {v : Value} {n : Nat} {xs : List Value} (h : w.ownsRow b e s v n xs) (hne : v.ownBlock ≠ some gN) (hO : ∀ k, k ≠ gN → w'.heap[k]? = w.heap[k]?) : w'.ownsRow b e s v n xs := by
  refine ⟨h.1, ?_⟩
  rcases h.2 with hn | ⟨g, cap, cur, rfl, hg0, hg1, r⟩
  · exact .inl hn
  · exact .inr ⟨g, cap, cur, rfl, hg0, by rw [hO g (fun e => hne (by rw [← e]; rfl))]; exact hg1, r⟩
/-- The new row and the new node, in memory. -/
theorem slice_one (A : Option Addr) (n c : Nat) : [Value.slice A n c].toArray.all (·.oneCell') = true := by
  rw [Array.all_eq_true_iff_forall_mem]
  intro v hv
  simp at hv
  subst hv
  rfl
theorem wpList_box_one {P : Program} {w : World} {ops : Array Oper} {rest : List Oper} {o : Oper} {a : Act} {Q : Exit → Act → World → Prop} (hg : o.guard = none) (t : TypeId) (x : Operand) (ho : o.op = .box t x) (v : Value) (hx : a.eval x = v) (hv : v.cells = #[v])
    (h : ∀ w1, Blk w1 w.heap.size [v] t → w1.heap.size = w.heap.size + 1 → Below w.heap.size w w1 → wpList P ops Q rest (a.put o.dst (.pointer (some ⟨w.heap.size, 0, none⟩))) w1) : wpList P ops Q (o :: rest) a w := by
  refine wpList_plain hg fun K hK => ?_
  unfold Oper.wp execOp
  simp only [ho, hx, hv, Sem.run_bind, Instr.box, newVar, newRow, run_newObj_alloc, Sem.run_pure, Result.andThen_ok]
  exact hK _ _ (h _ (heap_alloc_new w _) (by simp) ((Below.refl _ _).alloc (Nat.le_refl _) _))

theorem run_part_cell {P : Program} (t : TypeId) (off : Nat) (cs : List Value) (v : Value) (ha : ∀ w, (isAgg t).run P w = .ok false w) (he : cs[off]? = some v) (w : World) : (part t cs.toArray off).run P w = .ok v w := by
  simp [part, ha, he]
end Go.Proofs.Ytmlpiembglmggaa

namespace Go.Proofs.Ytmlpiembglmggaa
open Go.RowKit Go.ChangeShapes Go.WideShapes

/-- An int's range. -/
def fitI (z : Int) : Prop := -9223372036854775808 ≤ z ∧ z ≤ 9223372036854775807
theorem fit_wf {z : Int} (h : (Lit.int .i64 z).wf = true) : fitI z := by
  unfold fitI
  simpa [Lit.wf, IntKind.min, IntKind.max, IntKind.signed, IntKind.bits] using h
theorem agg_of {P : Program} {W : World} {r : Reach} {base : Nat} {t : TypeId} {v : Value} {fs : Array Field} (ht : P.underlying t = some (.struct fs)) (hv : Value.okWide P W r base t v) : ∃ cs, v = .agg cs ∧ cs.size = P.cellsOf t := by
  obtain ⟨cs, rfl, hsz, _⟩ : ∃ cs, v = .agg cs ∧ cs.size = P.cellsOf t ∧ Row.okWide P W r base t cs := by simpa [Value.okWide, ht] using hv
  exact ⟨cs, rfl, hsz⟩
section
variable {H : Type} {enc : TypeId × Value → H} {P : Program} {W : World} {spare : TypeId → Bool} {held : Bool}
theorem open_rowsE {α : Type} {E : RowK α} {F : α → Prop} {ts te : TypeId} (ht : P.underlying ts = some (.slice te)) (ck : P.cellsOf te = E.k)
    (elem : ∀ fuel cs x, DataW.trod enc P W 0 spare held fuel te cs = some x → ∃ a, cs = E.enc a ∧ F a) {fuel : Nat} {cs : List Value} {x : DataW H × List MemPlace} (h : DataW.trod enc P W 0 spare held fuel ts cs = some x) :
    ∃ v l, cs = [v] ∧ RdE E W.heap.size W v l ∧ (∀ n ∈ l, F n) ∧ (l.length = 0 ∨ ∃ m ∈ x.1.weights P ts, l.length * P.bytesOf te ≤ m) := by
  rcases DataW.trod_slice ht h with ⟨rfl, _⟩ | ⟨a, len, cap, elems, rest, n, _, rfl, hx, _, hl, hm, hlen, hel, _, _⟩
  · exact ⟨_, [], rfl, RdE.nil _ _, fun _ h => (by cases h), .inl rfl⟩
  · rw [ck] at hel
    have each : ∀ i : Fin len, ∃ nd : α, W.cells? 0 (a.add (i.1 * E.k)) E.k = some (E.enc nd) ∧ F nd := by
      intro i
      have h1 := hel i.1 i.2
      rw [List.getElem?_eq_getElem (by omega)] at h1
      obtain ⟨cs', hcs, ht⟩ := Option.bind_eq_some_iff.1 h1
      obtain ⟨nd, rfl, hf⟩ := elem _ _ _ ht
      exact ⟨nd, hcs, hf⟩
    obtain ⟨f, hf⟩ := Classical.axiomOfChoice each
    obtain ⟨l, hL⟩ : ∃ l : List α, l = List.ofFn f := ⟨_, rfl⟩
    have hll : l.length = len := by rw [hL, List.length_ofFn]
    have hlc : ∀ i, i < len → W.cells? 0 (a.add (i * E.k)) E.k = some (E.enc (l.getD i E.d)) := by
      intro i hi
      have h1 := (hf ⟨i, hi⟩).1
      rw [h1, hL, List.getD_eq_getElem?_getD, List.getElem?_ofFn, dif_pos hi]
      rfl
    refine ⟨_, l, rfl, ⟨some a, cap, by rw [hll], by omega, hm, (fun h => (by cases h)), fun b hb => ?_⟩, fun m hm' => ?_, .inr ⟨(elems.length + rest.length) * P.bytesOf te, ?_, ?_⟩⟩
    · cases hb
      refine ⟨fun h0 => ?_, fun j u hj => ?_⟩
      · have := World.cells?_block (hlc 0 (by omega)) E.pos
        rwa [addr_block] at this
      · have hj4 : j < l.length * E.k := by
          have := (List.getElem?_eq_some_iff.1 hj).1
          rwa [rowsE_length] at this
        have hpos := E.pos
        have hjd : j / E.k < len := by
          rw [hll] at hj4
          exact Nat.div_lt_of_lt_mul (by rw [Nat.mul_comm]; exact hj4)
        have hmod := Nat.mod_lt j hpos
        have hsum : j / E.k * E.k + j % E.k = j := by
          rw [Nat.mul_comm]
          exact Nat.div_add_mod j E.k
        have h1 := (World.cells?_some (hlc (j / E.k) hjd)).2.2 (j % E.k) hmod
        rw [Addr.add_add, hsum] at h1
        rw [h1, ← rowsE_get E l (j / E.k) (j % E.k) (by omega) hmod, hsum]
        exact hj
    · rw [hL, List.mem_ofFn] at hm'
      obtain ⟨i, rfl⟩ := hm'
      exact (hf i).2
    · rw [hx]
      simp [DataW.weights, ht]
    · rw [hll, hlen, Nat.add_mul]
      omega
end
theorem agg_ofA {P : Program} {W : World} {r : Reach} {base n : Nat} {t e : TypeId} {v : Value} (ht : P.underlying t = some (.array n e)) (hv : Value.okWide P W r base t v) : ∃ cs, v = .agg cs ∧ cs.size = P.cellsOf t := by
  obtain ⟨cs, rfl, hsz, _⟩ : ∃ cs, v = .agg cs ∧ cs.size = P.cellsOf t ∧ Row.okWide P W r base t cs := by simpa [Value.okWide, ht] using hv
  exact ⟨cs, rfl, hsz⟩
section
variable {H : Type} {enc : TypeId × Value → H} {P : Program} {W : World} {spare : TypeId → Bool} {held : Bool}
/-- An array of ints that came in. -/
theorem open_intsA {n : Nat} {ta ti : TypeId} {r : Reach} {base : Nat} {v : Value} {d : DataW H} {p : List MemPlace} (ht : P.underlying ta = some (.array n ti)) (hi : P.underlying ti = some (.int .i64)) (ci : P.cellsOf ti = 1) (ca : P.cellsOf ta = n)
    (hv : Value.okWide P W r base ta v) (h : DataW.Trod enc P W 0 spare held ta v d p) : ∃ l : List Int, v = .agg (l.map fun z => Value.int .i64 z).toArray ∧ l.length = n ∧ ∀ z ∈ l, fitI z := by
  obtain ⟨cs, rfl, hsz⟩ := agg_ofA ht hv
  obtain ⟨fuel, hf⟩ := h
  obtain ⟨xs, m, _, _, hl, hx, hel⟩ := DataW.trod_array ht hf
  rw [ci] at hel
  rw [ca] at hsz
  have each : ∀ i : Fin n, ∃ z : Int, cs[i.1]? = some (.int .i64 z) ∧ fitI z := by
    intro i
    have h1 := hel i.1 i.2
    rw [List.getElem?_eq_getElem (by omega), Nat.mul_one] at h1
    obtain ⟨z, hz, _, wz⟩ := DataW.trod_int hi h1
    refine ⟨z, ?_, fit_wf wz⟩
    have h2 := congrArg (fun q : List Value => q[0]?) hz
    simpa [Value.cells] using h2
  obtain ⟨f, hf2⟩ := Classical.axiomOfChoice each
  refine ⟨List.ofFn f, ?_, by rw [List.length_ofFn], fun z hz => ?_⟩
  · congr 1
    refine Array.ext (by simp [hsz]) fun i h1 h2 => ?_
    have h3 := (hf2 ⟨i, by omega⟩).1
    rw [Array.getElem?_eq_getElem h1] at h3
    have h4 := Option.some.inj h3
    simpa using h4
  · rw [List.mem_ofFn] at hz
    obtain ⟨i, rfl⟩ := hz
    exact (hf2 i).2
end
/-- The bound of what came in. -/
theorem reach_rows {n b m : Nat} (h : n * b ≤ m) (hm : m ≤ reachBytes) : n * b ≤ 140737488351232 := by
  have : reachBytes = 140737488351232 := rfl
  omega
end Go.Proofs.Ytmlpiembglmggaa

namespace Go.Proofs.Ytmlpiembglmggaa
open Go.RowKit

theorem cell_spot {w : World} {a : Addr} {v : Value} (h : w.cell? a = some v) : a.spot = none := by
  unfold World.cell? at h
  split at h
  · cases hs : a.spot with
    | none => rfl
    | some k => rw [hs] at h; simp at h
  · cases h
theorem cell_heap {w w' : World} (p : Addr) (h : w'.heap[p.block]? = w.heap[p.block]?) : w'.cell? p = w.cell? p := by
  unfold World.cell?
  rw [h]
/-- A row lies apart from a block one of whose cells holds what no cell of the row holds, and which is too short ahead of it and behind it. -/
theorem RdE.apart {α : Type} {E : RowK α} {B : Nat} {w : World} {a : Addr} {n c : Nat} {l : List α} (h : RdE E B w (.slice (some a) n c) l) (hl : 0 < l.length) {g : Nat} {cs : List Value} {t : TypeId} (hx : Blk w g cs t)
    (hk : ∀ off, off + E.k ≤ cs.length → ∃ i, i < E.k ∧ ∀ x : α, (E.enc x)[i]? ≠ cs[off + i]?) : a.block ≠ g := by
  intro e
  have hn := h.node 0 hl
  rw [Nat.zero_mul] at hn
  have ha0 : a.add 0 = a := by cases a; rfl
  rw [ha0] at hn
  obtain ⟨x, hxx⟩ : ∃ x, l.getD 0 E.d = x := ⟨_, rfl⟩
  rw [hxx] at hn
  have hs : a.spot = none := by
    have h0 := hn 0 _ (enc_get E x 0 E.pos)
    rw [ha0] at h0
    exact cell_spot h0
  have hc : ∀ i, i < E.k → w.cell? (a.add i) = cs[a.off + i]? := by
    intro i _
    rw [show a.add i = ⟨g, a.off + i, none⟩ from by
      cases a
      simp only at e hs
      subst e hs
      unfold Addr.add
      split
      · rename_i h0; subst h0; rfl
      · rfl]
    exact hx.cell _
  have hlen : a.off + E.k ≤ cs.length := by
    have hp := E.pos
    have h1 := hn (E.k - 1) _ (enc_get E x (E.k - 1) (by omega))
    rw [hc (E.k - 1) (by omega)] at h1
    have := (List.getElem?_eq_some_iff.1 h1).1
    omega
  obtain ⟨i, hi, hne⟩ := hk a.off hlen
  refine hne x ?_
  rw [enc_get E x i hi, ← hc i hi]
  exact (hn i _ (enc_get E x i hi)).symm
/-- The row stays where a block apart from it is written. -/
theorem RdE.but {α : Type} {E : RowK α} {B : Nat} {w w' : World} {v : Value} {l : List α} (h : RdE E B w v l) {g : Nat} {cs : List Value} {t : TypeId} (hx : Blk w g cs t)
    (hk : ∀ off, off + E.k ≤ cs.length → ∃ i, i < E.k ∧ ∀ x : α, (E.enc x)[i]? ≠ cs[off + i]?) (ho : ∀ k, k ≠ g → w'.heap[k]? = w.heap[k]?) : RdE E B w' v l := by
  have h' := h
  obtain ⟨A, c, rfl, hc, hm, hn, hr⟩ := h
  refine ⟨A, c, rfl, hc, hm, hn, fun a ha => ⟨(hr a ha).1, fun j u hu => ?_⟩⟩
  subst ha
  have hl : 0 < l.length := by
    cases l with
    | nil => simp [rowsE] at hu
    | cons x r => simp
  have hne := h'.apart hl hx hk
  have e : w'.cell? (a.add j) = w.cell? (a.add j) := cell_heap _ (by rw [addr_block]; exact ho _ hne)
  rw [e]
  exact (hr a rfl).2 j u hu
end Go.Proofs.Ytmlpiembglmggaa

namespace Go.Proofs.Ytmlpiembglmggaa
open Go.RowKit

theorem writtenE_take (C z : List Value) (k : Nat) (hk : k ≤ C.length) : (C.take k ++ (z ++ C.drop (k + z.length))).take k = C.take k := by
  rw [List.take_left']
  rw [List.length_take]
  omega
theorem writtenE_len (C z : List Value) (k : Nat) (hk : k + z.length ≤ C.length) : (C.take k ++ (z ++ C.drop (k + z.length))).length = C.length := by
  simp only [List.length_append, List.length_take, List.length_drop]
  omega
theorem writtenE_more (C z : List Value) (k : Nat) (hk : k + z.length ≤ C.length) : (C.take k ++ (z ++ C.drop (k + z.length))).take (k + z.length) = C.take k ++ z := by
  rw [← List.append_assoc, List.take_left']
  rw [List.length_append, List.length_take]
  omega
theorem takeE3 (A B D : List Value) (k : Nat) : (A ++ (B ++ D)).take (A.length + B.length + k) = A ++ (B ++ D.take k) := by
  rw [← List.append_assoc, show A.length + B.length = (A ++ B).length by simp, List.take_length_add_append, List.append_assoc]
theorem shapeE_blk {w : World} {g : Nat} {cs : List Value} {t : TypeId} (h : Blk w g cs t) : w.shape? g = some (t, cs.length) := by
  unfold Blk at h
  unfold World.shape?
  rw [h]
  simp
theorem drewE_cells (b : Nat) : ∀ (vs : List Value) (o : Nat) (w : World), (w.setCells b o vs).drew = w.drew.setCells b o vs
  | [], _, _ => rfl
  | v :: r, o, w => by
    rw [World.setCells, World.setCells, drewE_cells b r]
    rfl
section
variable {α : Type} {E : RowK α}
theorem OwnE.of {e : TypeId} {w : World} {base g cap : Nat} {l : List α} (cur : List Value) (hb : Blk w g cur e) (h2 : base ≤ g) (h4 : l.length ≤ cap) (h5 : cap ≤ maxLen) (h6 : cur.length = cap * E.k) (h7 : cur.take (l.length * E.k) = rowsE E l) :
    OwnE E e w base (.slice (some ⟨g, 0, none⟩) l.length cap) l := by
  refine ⟨?_, .inr ⟨g, cap, cur.toArray, rfl, h2, hb, h4, h5, ?_, ?_⟩⟩
  · rw [rowsE_length]
  · simpa using h6
  · simpa using h7
/-- What an edit of a row of one's own comes to; the call answers a row of its own. -/
def EditsE (E : RowK α) (e : TypeId) (v : Value) (base : Nat) (l' : List α) (W : World) (r : Ending) (w' : World) : Prop := ∃ u, r = .returned u ∧ OwnE E e w' base u l' ∧ Below base W w' ∧ ∀ k, k < W.heap.size → v.ownBlock ≠ some k → w'.heap[k]? = W.heap[k]?
def OwnsE (E : RowK α) (e : TypeId) (l : List α) (w : World) (r : Ending) (w' : World) : Prop := ∃ u, r = .returned u ∧ OwnE E e w' w.heap.size u l ∧ Below w.heap.size w w'
theorem eraseE_rows (l : List α) (i : Nat) : rowsE E (l.eraseIdx i) = rowsE E (l.take i) ++ rowsE E (l.drop (i + 1)) := by
  rw [List.eraseIdx_eq_take_drop_succ, rowsE_append]
/-- What is inserted. -/
def insE (l : List α) (x : α) (m : Nat) : List α := l.take m ++ x :: l.drop m
theorem insE_rows (l : List α) (x : α) (m : Nat) : rowsE E (insE l x m) = rowsE E (l.take m) ++ (E.enc x ++ rowsE E (l.drop m)) := by
  unfold insE
  rw [rowsE_append, show x :: l.drop m = [x] ++ l.drop m from rfl, rowsE_append, rowsE_one]
theorem insE_len (l : List α) (x : α) (m : Nat) (hm : m ≤ l.length) : (insE l x m).length = l.length + 1 := by
  unfold insE
  simp only [List.length_append, List.length_take, List.length_cons, List.length_drop]
  omega
/-- A block of another kind is not the row's. -/
theorem OwnE.not_blk {e : TypeId} {w : World} {base : Nat} {v : Value} {l : List α} (h : OwnE E e w base v l) {g : Nat} {cs : List Value} {t : TypeId} (hb : Blk w g cs t) (ht : t ≠ e) : v.ownBlock ≠ some g := by
  rintro he
  rcases h.2 with ⟨rfl, _⟩ | ⟨g', cap, cur, rfl, h2, h3, _⟩
  · cases he
  · injection he with he
    subst he
    unfold Blk at hb
    rw [hb] at h3
    injection h3 with h3
    injection h3 with h4 h5
    exact ht h5
/-- append of a whole row, which may be none. -/
theorem wpList_appF {P : Program} {w : World} {ops : Array Oper} {rest : List Oper} {o : Oper} {a : Act} {Q : Exit → Act → World → Prop}
    (hgd : o.guard = none) (s x : Operand) (t : TypeId) (ho : o.op = .call { callee := .builtin .append, args := #[s, x], argTypes := #[t, t] })
    (e : TypeId) (bytes : Nat) (ht : P.underlying t = some (.slice e)) (hk : KindOf P e E bytes)
    (base B : Nat) (v vx : Value) (l m : List α) (hs : a.eval s = v) (hown : OwnE E e w base v l) (hx : a.eval x = vx) (hr : RdE E B w vx m)
    (hlen : (l.length + m.length) * bytes ≤ 140737488355328) (h63 : l.length + m.length ≤ 9223372036854775807) (hbase : base ≤ w.heap.size)
    (h : ∀ v' w', OwnE E e w' base v' (l ++ m) → Below base w w' → w.grownBy w' v.ownBlock → wpList P ops Q rest (a.put o.dst v') w') : wpList P ops Q (o :: rest) a w := by
  obtain ⟨i, z, hi, hz, hsize, hby, hzs⟩ := hk
  obtain ⟨A, c, hv, hc, hm, hn, hrr⟩ := hr
  cases A with
  | none =>
    have h0 : c = 0 := hn rfl
    have h1 : m.length = 0 := by omega
    have h2 : m = [] := List.eq_nil_of_length_eq_zero h1
    subst h0 h2
    refine wpList_append_own_none hgd s x t ho base e i E.k ht hi v l.length (rowsE E l) hs hown (by rw [hx, hv]; rfl) ?_
    exact h v w (by rw [List.append_nil]; exact hown) (Below.refl _ _) ⟨rfl, rfl, rfl, Nat.le_refl _, fun _ _ _ => rfl⟩
  | some ad =>
    refine wpList_append_own w hgd s x t ho base e i z E.k bytes ht hi hz hsize hby hzs E.pos v l.length (rowsE E l) hs hown ad m.length c (rowsE E m) (by rw [hx, hv]) (rowsE_length E m) (hrr ad rfl).2 (rowsE_cell E m) (by unfold maxLen; omega) hlen hbase ?_
    intro v' w' h1 h2 _
    refine h v' w' ?_ (OwnE.grown hown h2 hbase) h2
    unfold OwnE
    rw [List.length_append, rowsE_append]
    exact h1
end

section
variable {α : Type} {E : RowK α}
/-- One cell of a thing is written. -/
theorem rowsE_setk (l : List α) (i k : Nat) (v : Value) (y : α) (hi : i < l.length) (hk : k < E.k) (hy : E.enc y = (E.enc (l.getD i E.d)).set k v) : (rowsE E l).set (i * E.k + k) v = rowsE E (l.set i y) := by
  rw [rowsE_set l i y hi, hy]
  have e1 : rowsE E l = (rowsE E l).take (i * E.k) ++ (E.enc (l.getD i E.d) ++ (rowsE E l).drop (i * E.k + E.k)) := by
    have h := rowsE_set (E := E) l i (l.getD i E.d) hi
    rw [← h]
    congr 1
    refine List.ext_getElem (by simp) fun j h1 h2 => ?_
    rw [List.getElem_set]
    split
    · rename_i hij
      subst hij
      rw [List.getD_eq_getElem?_getD, List.getElem?_eq_getElem hi]
      rfl
    · rfl
  have hmul : i * E.k ≤ l.length * E.k := Nat.mul_le_mul_right _ (by omega)
  have hl : ((rowsE E l).take (i * E.k)).length = i * E.k := by
    rw [List.length_take, rowsE_length]
    omega
  have hx : (E.enc (l.getD i E.d)).length = E.k := E.len _
  conv => lhs; rw [e1]
  rw [List.set_append, if_neg (by omega), List.set_append, if_pos (by rw [hl, hx]; omega), hl, Nat.add_sub_cancel_left]
theorem takeE_set (A : List Value) (j n : Nat) (v : Value) : (A.set j v).take n = (A.take n).set j v := by
  refine List.ext_getElem (by simp) fun i h1 h2 => ?_
  simp [List.getElem_set]
theorem getD_setE (l : List α) (i : Nat) (y d : α) (hi : i < l.length) : (l.set i y).getD i d = y := by
  rw [List.getD_eq_getElem?_getD, List.getElem?_set_self hi]
  rfl
theorem OwnE.cellK {e : TypeId} {w : World} {base n cap g : Nat} {l : List α} (h : OwnE E e w base (.slice (some ⟨g, 0, none⟩) n cap) l) (i k : Nat) (hi : i < l.length) (hk : k < E.k) :
    w.cell? ⟨g, i * E.k + k, none⟩ = some ((E.enc (l.getD i E.d)).getD k undef) ∧ w.frozen? ⟨g, i * E.k + k, none⟩ = false := by
  obtain ⟨cur, hb, h2, h4, h5, h6, h7, hn⟩ := h.block
  refine ⟨?_, hb.frozen _⟩
  have hr := h.rd
  subst hn
  have := hr.node i hi k _ (enc_get E _ k hk)
  rw [Addr.add_add] at this
  have hadd : (⟨g, 0, none⟩ : Addr).add (i * E.k + k) = ⟨g, i * E.k + k, none⟩ := by unfold Addr.add; split <;> simp_all
  rw [hadd] at this
  exact this
theorem OwnE.storedK {e : TypeId} {w : World} {base n cap g : Nat} {l : List α} (h : OwnE E e w base (.slice (some ⟨g, 0, none⟩) n cap) l) (i k : Nat) (hi : i < l.length) (hk : k < E.k) (v : Value) (y : α) (hy : E.enc y = (E.enc (l.getD i E.d)).set k v) :
    OwnE E e (w.setCell ⟨g, i * E.k + k, none⟩ v) base (.slice (some ⟨g, 0, none⟩) n cap) (l.set i y) ∧ Below base w (w.setCell ⟨g, i * E.k + k, none⟩ v) := by
  obtain ⟨cur, hb, h2, h4, h5, h6, h7, hn⟩ := h.block
  have hcl : cur.toList.length = cap * E.k := by rw [Array.length_toList, h6]
  refine ⟨?_, (Below.refl _ _).setCell h2 _⟩
  · have := OwnE.of (E := E) (e := e) (base := base) (cap := cap) (l := l.set i y) (cur.toList.set (i * E.k + k) v) (hb.set (i * E.k + k) v) h2 (by rw [List.length_set]; exact h4) h5 (by rw [List.length_set]; exact hcl)
      (by rw [List.length_set, takeE_set _ _ _ _, h7]; exact rowsE_setk l i k v y hi hk hy)
    rw [List.length_set, ← hn] at this
    exact this
end
theorem run_copy_rowE {P : Program} (w : World) (dT sT ty elem : TypeId) (k : Nat) (b o dLen dCap : Nat) (a : Addr) (sLen sCap : Nat) (cs : List Value)
    (hu : P.underlying dT = some (.slice elem)) (hs : (P.info? elem).map (·.size) = some k) (hn : cs.length = Nat.min sLen dLen * k)
    (hsrc : ∀ j v, cs[j]? = some v → w.cell? (a.add j) = some v) (hc : ∀ j, j < cs.length → (w.cell? ⟨b, o + j, none⟩).isSome = true ∧ w.frozen? ⟨b, o + j, none⟩ = false) (h1 : ∀ v ∈ cs, v.oneCell' = true) :
    (Builtin.copy_ #[dT, sT] ty #[.slice (some ⟨b, o, none⟩) dLen dCap, .slice (some a) sLen sCap]).run P w = .ok (goInt (Nat.min sLen dLen)) (w.setCells b o cs) := by
  have hl := run_loadCells_list (P := P) w a cs hsrc
  have hst := run_storeCells_cells (P := P) b o cs 0 w (fun j hj => (hc j hj).1) (fun j hj => (hc j hj).2) h1
  rw [Nat.add_zero] at hst
  cases hq : P.info? elem with
  | none => simp [hq] at hs
  | some i =>
    have hi : i.size = k := by simpa [hq] using hs
    rw [hn] at hl
    simp [Builtin.copy_, run_underlying hu, Builtin.lenOf, Builtin.firstCells, sizeOf, typeInfo, hq, hi, hl, hst]
theorem wpList_copyE_run {P : Program} {w : World} {ops : Array Oper} {rest : List Oper} {o : Oper} {a : Act} {Q : Exit → Act → World → Prop} (hgd : o.guard = none) (d s : Operand) (t t' : TypeId)
    (ho : o.op = .call { callee := .builtin .copy, args := #[d, s], argTypes := #[t, t'] }) (v u : Value) (hd : a.eval d = v) (hs : a.eval s = u) {v' : Value} {w' : World} (hr : (Builtin.copy_ #[t, t'] o.type #[v, u]).run P w = .ok v' w')
    (h : wpList P ops Q rest (a.put o.dst v') w') : wpList P ops Q (o :: rest) a w := by
  refine wpList_plain hgd fun K hK => ?_
  unfold Oper.wp execOp
  simp only [ho, resolve, invoke, builtin, Sem.run_bind, Sem.run_pure, Result.andThen_ok, List.map_toArray, List.map_cons, List.map_nil, hd, hs, hr]
  exact hK _ _ h
theorem step_copyE_run {P : Program} {ops : Array Oper} {o : Oper} {a : Act} {w : World} {K : Act → World → Prop} {Q : Exit → Act → World → Prop} {E : Prop}
    (hg : o.guard = none) (d x : Operand) (dT sT : TypeId) (hop : o.op = Op.call { callee := Callee.builtin Builtin.copy, args := #[d, x], argTypes := #[dT, sT] })
    (v u : Value) (hd : a.eval d = v) (hx : a.eval x = u) {v' : Value} {w' : World} (hr : (Builtin.copy_ #[dT, sT] o.type #[v, u]).run P w = .ok v' w') (hK : K (a.put o.dst v') w') :
    if Region.wanted o (yielded ops a.tmps) = true then Oper.wp P o a w K Q else E := by
  have hw : Region.wanted o (yielded ops a.tmps) = true := by simp [Region.wanted, hg]
  rw [if_pos hw]
  unfold Oper.wp
  simp [execOp, hop, resolve, invoke, builtin, hd, hx, hr, Result.andThen]
  exact hK
/-- clear of one thing. -/
theorem run_clear_rowE {P : Program} (w : World) (t e ty : TypeId) (i : TypeInfo) (z : Value) (cs : List Value) (k : Nat) (ht : P.underlying t = some (.slice e)) (hi : P.info? e = some i) (hz : i.zero = some z) (g o c : Nat)
    (hzc : (Builtin.zeroCells z.cells 1).toList = cs) (hk : cs.length = k) (h1 : ∀ v ∈ cs, v.oneCell' = true)
    (hc : ∀ j, j < k → (w.cell? ⟨g, o + j, none⟩).isSome = true ∧ w.frozen? ⟨g, o + j, none⟩ = false) :
    (Builtin.clear_ #[t] ty #[.slice (some ⟨g, o, none⟩) 1 c]).run P w = .ok (.tuple #[]) (w.setCells g o cs) := by
  have hzv : (zeroValue e).run P w = .ok z w := by simp [zeroValue, typeInfo, hi, hz]
  have hst := run_storeCells_cells (P := P) g o cs 0 w (fun j hj => (hc j (by omega)).1) (fun j hj => (hc j (by omega)).2) h1
  simp only [Nat.add_zero] at hst
  simp [Builtin.clear_, run_underlying ht, hzv, hzc, hst]
theorem wpList_clearE_run {P : Program} {w : World} {ops : Array Oper} {rest : List Oper} {o : Oper} {a : Act} {Q : Exit → Act → World → Prop} (hgd : o.guard = none) (s : Operand) (t : TypeId)
    (ho : o.op = .call { callee := .builtin .clear, args := #[s], argTypes := #[t] }) (v : Value) (hs : a.eval s = v) {v' : Value} {w' : World} (hr : (Builtin.clear_ #[t] o.type #[v]).run P w = .ok v' w')
    (h : wpList P ops Q rest (a.put o.dst v') w') : wpList P ops Q (o :: rest) a w := by
  refine wpList_plain hgd fun K hK => ?_
  unfold Oper.wp execOp
  simp only [ho, resolve, invoke, builtin, Sem.run_bind, Sem.run_pure, Result.andThen_ok, List.map_toArray, List.map_cons, List.map_nil, hs, hr]
  exact hK _ _ h
end Go.Proofs.Ytmlpiembglmggaa

namespace Go.Proofs.Ytmlpiembglmggaa
open Go.RowKit

theorem run_sizeOf_ofE {P : Program} (t : TypeId) (n : Nat) (h : (P.info? t).map (·.size) = some n) (w : World) : (sizeOf t).run P w = .ok n w := by
  cases hq : P.info? t with
  | none => rw [hq] at h; cases h
  | some i =>
    rw [hq] at h
    simp only [Option.map_some, Option.some.injEq] at h
    simp [sizeOf, typeInfo, hq, h]
theorem run_part_aggE {P : Program} (t : TypeId) (d : TypeDesc) (n off : Nat) (cs cs' : List Value) (hu : P.underlying t = some d) (hd : d.isRow = true) (hn : (P.info? t).map (·.size) = some n) (he : (cs.drop off).take n = cs') (w : World) : (part t cs.toArray off).run P w = .ok (.agg cs'.toArray) w := by
  have ha : (isAgg t).run P w = .ok true w := by
    unfold isAgg
    simp only [Sem.run_bind, run_underlying hu, Result.andThen_ok]
    cases d <;> first | rfl | cases hd
  unfold part
  simp only [Sem.run_bind, ha, Result.andThen_ok, if_true, run_sizeOf_ofE t n hn, Sem.run_pure]
  congr 2
  rw [← he]
  simp
theorem toList_txtE (l : List UInt8) : (⟨l.toArray⟩ : ByteArray).toList = l := by rw [Lib.toList_data]
theorem txt_eqE (x y : List UInt8) (h : x = y) : (x == y) = true := by simpa using h
theorem txt_neE (x y : List UInt8) (h : x ≠ y) : (x == y) = false := by simpa using h
theorem int_neE (x y : Int) (h : x ≠ y) : (x == y) = false := by rw [beq_eq_false_iff_ne]; exact h
theorem int_eqE (x y : Int) (h : x = y) : (x == y) = true := by rw [h]; exact beq_self_eq_true y
/-- A new slice of one thing. -/
def NewE {α : Type} (E : RowK α) (e : TypeId) (x : α) (B : Nat) (u : Value) (w : World) : Prop := ∃ g, u = .slice (some ⟨g, 0, none⟩) 1 1 ∧ Blk w g (E.enc x) e ∧ B ≤ g
theorem NewE.keep {α : Type} {E : RowK α} {e : TypeId} {x : α} {B : Nat} {u : Value} {w w' : World} (h : NewE E e x B u w) (hb : Below w.heap.size w w') : NewE E e x B u w' := by
  obtain ⟨g, h1, h2, h3⟩ := h
  exact ⟨g, h1, h2.below hb h2.lt, h3⟩
theorem NewE.rd {α : Type} {E : RowK α} {e : TypeId} {x : α} {B : Nat} {u : Value} {w : World} (h : NewE E e x B u w) : RdE E w.heap.size w u [x] := by
  obtain ⟨g, rfl, h2, h3⟩ := h
  exact (RdE.ofBlk h2).more h2.lt
/-- A slice of things, built. -/
theorem RdE.ofBlks {α : Type} {E : RowK α} {w : World} {g : Nat} {l : List α} {e : TypeId} (h : Blk w g (rowsE E l) e) (hl : l.length ≤ maxLen) : RdE E (g + 1) w (.slice (some ⟨g, 0, none⟩) l.length l.length) l := by
  refine ⟨some ⟨g, 0, none⟩, l.length, rfl, Nat.le_refl _, hl, fun h => (by cases h), fun a ha => ?_⟩
  cases ha
  refine ⟨fun _ => Nat.lt_succ_self _, fun j u hu => ?_⟩
  have hadd : (⟨g, 0, none⟩ : Addr).add j = ⟨g, j, none⟩ := by unfold Addr.add; split <;> simp_all
  rw [hadd]
  exact (h.cell j).trans hu
theorem add_zeroA (a : Addr) : a.add 0 = a := by
  obtain ⟨b, o, s⟩ := a
  unfold Addr.add
  cases s <;> simp
theorem one_of {v : Value} (h : v.oneCell' = true) : [v].toArray.all (·.oneCell') = true := by simp [h]
end Go.Proofs.Ytmlpiembglmggaa

namespace Go.Proofs.Ytmlpiembglmggaa
open Go.RowKit

theorem AnyTill.of_any {P : Program} {md : Region.Mode} {ops : Array Oper} {Q : Exit → Act → World → Prop} {m : Nat} : ∀ (n : Nat) (listed : Array Bool) (a : Act) (w : World), wpAny P md ops Q n listed a w → AnyTill P md ops Q (fun _ => True) m n listed a w
  | 0, _, _, _, h => h
  | n + 1, _, _, _, h => ⟨h.1, fun i hi => wpOp_mono (fun a' w' h' => ⟨.inr trivial, AnyTill.of_any n _ a' w' h'⟩) (h.2 i hi)⟩
def lateP (l : List Oper) (m p : Nat) : Bool :=
  decide (m ≤ p) && decide (p < l.length) && (depsOf l p).isEmpty && (List.range l.length).all fun j =>
    if j < m then ((l[j]?).map fun o => o.after.all fun e => !Region.binds .any e || decide (e.on < j) || decide (e.on = p)).getD false else decide (j = p) || (List.range m).all fun k => (clos l l.length (depsOf l j)).contains k

section
variable {P : Program} {l : List Oper} {Q : Exit → Act → World → Prop} {F : (Nat → Value) → Act} {Φ : Nat → Value → World → Prop} {w0 : World}
theorem rely_anyP (m p : Nat) (hlate : lateP l m p = true) (hs : StepsAt P l Q F Φ w0 m l 0) (hwait : ∀ j, j < m → waitsB .any l.toArray j p = false)
    (hend : ∀ x w, Below w0.heap.size w0 w → (∀ j, j < m → Φ j (x j) w) → wpAny P .any l.toArray (NoPanic Q) (l.length - m - 1) ((listedAt l.length m).setIfInBounds p true) (F x) w) :
    ∀ (n : Nat) (listed : Array Bool) (u : List Nat) (x : Nat → Value) (w : World), listed.size = l.length → (∀ k, m ≤ k → k < l.length → k ≠ p → listed.getD k true = false) → listed.getD p false = true → (∀ j, j < m → listed.getD j false = false → j ∈ u) →
      l.length - m - 1 + u.length ≤ n → Below w0.heap.size w0 w → (∀ j, j < m → listed.getD j false = true → Φ j (x j) w) → (∀ j, j < m → listed.getD j false = true → ∀ k, k ∈ depsOf l j → listed.getD k false = true) → wpAny P .any l.toArray (NoPanic Q) n listed (F x) w := by
  simp only [lateP, Bool.and_eq_true, decide_eq_true_eq, List.all_eq_true, List.mem_range] at hlate
  obtain ⟨⟨⟨hmp, hpl⟩, hdp⟩, hla⟩ := hlate
  have hdp0 : depsOf l p = [] := by simpa using hdp
  have hfin : ∀ listed : Array Bool, listed.size = l.length → (∀ k, m ≤ k → k < l.length → k ≠ p → listed.getD k true = false) → listed.getD p false = true → (∀ j, j < m → listed.getD j false = true) → listed = (listedAt l.length m).setIfInBounds p true := by
    intro listed hsz hlo hlp hall
    refine Array.ext (by simp [listedAt, hsz]; omega) (fun i h1 h2 => ?_)
    rcases Nat.decEq p i with hne | rfl
    · have hz : i < (listedAt l.length m).size := by simpa using h2
      rw [Array.getElem_setIfInBounds hz]
      rw [if_neg hne]
      rcases Nat.lt_or_ge i m with h | h
      · have := hall i h
        simp [h1] at this
        simp [listedAt, h, this]
      · have := hlo i h (by omega) (Ne.symm hne)
        simp [h1] at this
        simp [listedAt, List.getElem_append, Nat.not_lt.2 h, this]
    · simp [h1] at hlp
      have hz : p < (listedAt l.length m).size := by simpa using h2
      rw [Array.getElem_setIfInBounds hz]
      simp [hlp]
  intro n
  induction n with
  | zero =>
    intro listed u x w hsz hlo hlp hu hn hb hp hcl
    have hall : ∀ j, j < m → listed.getD j false = true := fun j hj => by
      cases hq : listed.getD j false
      · have := List.length_pos_of_mem (hu j hj hq); omega
      · rfl
    have hl := hfin listed hsz hlo hlp hall
    subst hl
    exact wpAny_le (by omega) (hend x w hb (fun j hj => hp j hj (hall j hj)))
  | succ n ih =>
    intro listed u x w hsz hlo hlp hu hn hb hp hcl
    by_cases hex : ∃ j, j < m ∧ listed.getD j false = false
    · obtain ⟨j0, hj0, hf0, hlt0⟩ := least_false _ m hex
      have hun : ∀ j, j < m → listed.getD j false = false → listed.getD j true = false := fun j hj h => by
        have : j < listed.size := by omega
        simp [this] at h ⊢
        exact h
      obtain ⟨o0, ho0⟩ : ∃ o, l[j0]? = some o := ⟨l[j0]'(by omega), by simp⟩
      have hr0 : j0 ∈ Region.ready .any l.toArray listed := by
        refine mem_ready.2 ⟨hun j0 hj0 hf0, o0, by simpa using ho0, fun e he hbd => ?_⟩
        have h1 := hla j0 (by omega)
        rw [if_pos hj0, ho0] at h1
        simp only [Option.map_some, Option.getD_some, Array.all_eq_true_iff_forall_mem] at h1
        have h2 := h1 e he
        simp [hbd] at h2
        rcases h2 with h2 | h2
        · exact hlt0 e.on h2
        · rw [h2]; exact hlp
      refine ⟨fun h => absurd hr0 (by rw [h]; exact List.not_mem_nil), fun i hi => ?_⟩
      obtain ⟨hiu, oi, hoi, hia⟩ := mem_ready.1 hi
      have hoi' : l[i]? = some oi := by simpa using hoi
      have hil : i < l.length := (List.getElem?_eq_some_iff.1 hoi').1
      have hip : i ≠ p := fun e => by
        subst e
        have : i < listed.size := by omega
        simp [this] at hiu hlp
        rw [hlp] at hiu; cases hiu
      have him : i < m := by
        rcases Nat.lt_or_ge i m with h | h
        · exact h
        · have h1 := hla i hil
          rw [if_neg (Nat.not_lt.2 h)] at h1
          simp only [Bool.or_eq_true, decide_eq_true_eq, List.all_eq_true, List.mem_range, List.contains_iff_mem] at h1
          have h1 := h1.resolve_left hip
          have hdi : ∀ k, k ∈ depsOf l i → listed.getD k false = true := fun k hk => by
            obtain ⟨e, he, hbd, hon⟩ := deps_mem hoi' hk
            rw [← hon]; exact hia e he hbd
          have hlt : ∀ k, listed.getD k false = true → k < m ∨ k = p := fun k hk => by
            rcases Nat.lt_or_ge k m with h2 | h2
            · exact .inl h2
            · rcases Nat.decEq k p with hkp | hkp
              · rcases Nat.lt_or_ge k l.length with h3 | h3
                · have h4 := hlo k h2 h3 hkp
                  have h5 : k < listed.size := by omega
                  simp [h5] at hk h4
                  rw [h4] at hk; cases hk
                · have h5 : ¬ k < listed.size := by omega
                  simp [h5] at hk
              · exact .inr hkp
          have h2 := clos_listed l (fun k => listed.getD k false = true) (fun j hj k hk => by
            rcases hlt j hj with h6 | h6
            · exact hcl j h6 hj k hk
            · subst h6; rw [hdp0] at hk; cases hk) l.length (depsOf l i) hdi j0 (h1 j0 hj0)
          rw [hf0] at h2
          cases h2
      have hsi := StepsAt.get m l 0 hs i oi him hoi'
      rw [Nat.zero_add] at hsi
      have hif : listed.getD i false = false := by
        have : i < listed.size := by omega
        simp [this] at hiu ⊢
        exact hiu
      refine wpOp_mono (fun a' w' hk => ?_) (hsi.step x w hb (fun k hk => ?_))
      · obtain ⟨v, rfl, hb', hv⟩ := hk
        rw [hsi.put]
        refine ih (listed.setIfInBounds i true) (u.erase i) (upd x i v) w' (by simp [hsz]) (fun k h1 h2 h3 => ?_) ?_ (fun j hj hjf => ?_) ?_ (hb.trans (hb'.mono hb.size)) (fun j hj hjl => ?_) (fun j hj hjl k hk => ?_)
        · rw [getD_set_ne true (by omega)]; exact hlo k h1 h2 h3
        · rw [getD_set_ne false hip]; exact hlp
        · have hne : i ≠ j := fun e => by
            subst e
            simp [show i < listed.size by omega] at hjf
          rw [getD_set_ne false hne] at hjf
          exact (List.mem_erase_of_ne (Ne.symm hne)).2 (hu j hj hjf)
        · have := hu i him hif
          rw [List.length_erase_of_mem this]
          have := List.length_pos_of_mem this
          omega
        · rcases Nat.decEq i j with hne | rfl
          · rw [getD_set_ne false hne] at hjl
            rw [upd_ne _ _ _ _ (Ne.symm hne)]
            obtain ⟨oj, hoj⟩ : ∃ o, l[j]? = some o := ⟨l[j]'(by omega), by simp⟩
            have hsj := StepsAt.get m l 0 hs j oj hj hoj
            rw [Nat.zero_add] at hsj
            exact hsj.keep _ _ _ (hp j hj hjl) hb'
          · rw [upd_same]; exact hv
        · refine getD_set_true ?_
          rcases Nat.decEq i j with hne | rfl
          · rw [getD_set_ne false hne] at hjl
            exact hcl j hj hjl k hk
          · obtain ⟨e, he, hbd, hon⟩ := deps_mem hoi' hk
            rw [← hon]; exact hia e he hbd
      · obtain ⟨e, he, hbd, hon⟩ := waits_of hoi' hk
        have h2 := hia e he hbd
        rw [hon] at h2
        have hki : k < i := by
          have h1 := hla i hil
          rw [if_pos him, hoi'] at h1
          simp only [Option.map_some, Option.getD_some, Array.all_eq_true_iff_forall_mem] at h1
          have h3 := h1 e he
          simp [hbd] at h3
          rcases h3 with h3 | h3
          · omega
          · have h4 := hwait i him
            rw [← h3, hon] at h4
            rw [h4] at hk; cases hk
        exact hp k (by omega) h2
    · have hall : ∀ j, j < m → listed.getD j false = true := fun j hj => by
        cases hq : listed.getD j false
        · exact absurd ⟨j, hj, hq⟩ hex
        · rfl
      have hl := hfin listed hsz hlo hlp hall
      subst hl
      exact wpAny_le (by omega) (hend x w hb (fun j hj => hp j hj (hall j hj)))

/-- The rule: operation p is taken first, then those below m in any order. -/
theorem wp_region_relyP (m d p : Nat) (F : (Nat → Value) → Act) (Φ : Nat → Value → World → Prop) {id : Nat} {a : Act} {op : Oper} {vp : Value} (hN : l.length = m + d) (hp : l[p]? = some op) (ha : ∃ x0, a.put op.dst vp = F x0) (hm : P.follows .mixedOrders = true) (hlate : lateP l m p = true)
    (hsel : Region.noSelect l.toArray = true) (hf : Region.free .any l.toArray (Array.replicate l.length false) p = true) (hr : (Region.ready .any l.toArray (Array.replicate l.length false)).contains p = true)
    (hwt : Region.wanted op (yielded l.toArray a.tmps) = true) (hy : ∀ w, (execOp a.eval op).run P w = .ok (.value vp) w) (hwait : (List.range m).all (fun j => !waitsB .any l.toArray j p) = true)
    (hs : StepsAt P l Q F Φ w0 m l 0)
    (hend : ∀ x w, Below w0.heap.size w0 w → (∀ j, j < m → Φ j (x j) w) → wpAny P .any l.toArray (NoPanic Q) (d - 1) ((listedAt (m + d) m).setIfInBounds p true) (F x) w) : (Code.region id l.toArray true).wp P Q a w0 := by
  obtain ⟨x0, ha⟩ := ha
  refine wp_region_noPanic (wp_region_any hm ?_)
  have hl0 : 0 < l.length := by
    have := (List.getElem?_eq_some_iff.1 hp).1
    omega
  have hmp : m ≤ p := by
    simp only [lateP, Bool.and_eq_true, decide_eq_true_eq] at hlate
    exact hlate.1.1.1
  obtain ⟨n, hn⟩ : ∃ n, l.length = n + 1 := ⟨l.length - 1, by omega⟩
  have hsz : l.toArray.size = n + 1 := by simpa using hn
  rw [hsz]
  rw [hn] at hf hr
  refine AnyTill.any (m := l.length) (S := fun _ => True) _ _ _ _ ?_
  refine AnyTill.free (i := p) (v := vp) hp hsel ?_ hf hr (fun _ _ _ h => h) hwt hy trivial ?_
  · have := (List.getElem?_eq_some_iff.1 hp).1
    simp; omega
  rw [ha]
  have hps := (List.getElem?_eq_some_iff.1 hp).1
  refine AnyTill.of_any _ _ _ _ (rely_anyP m p hlate hs (fun j hj => ?_) (fun x w h1 h2 => ?_) n _ (List.range m) x0 _ (by simp [hn]) (fun k h1 h2 h3 => ?_) ?_ (fun j hj _ => List.mem_range.2 hj) (by simp; omega) (Below.refl _ _).drew (fun j hj h => ?_) (fun j hj h => ?_))
  · have := List.all_eq_true.1 hwait j (List.mem_range.2 hj)
    simpa using this
  · rw [hN, show m + d - m - 1 = d - 1 by omega]
    exact hend x w h1 h2
  · rw [getD_set_ne true (Ne.symm h3)]
    simp [show k < n + 1 by omega]
  · simp [show p < n + 1 by omega]
  · rw [getD_set_ne false (show p ≠ j by omega)] at h
    simp [show j < n + 1 by omega] at h
  · rw [getD_set_ne false (show p ≠ j by omega)] at h
    simp [show j < n + 1 by omega] at h
end
end Go.Proofs.Ytmlpiembglmggaa

namespace Go.Proofs.Ytmlpiembglmggaa
open Go.RowKit

/-- What is done by the time that number p can be: what it waits for. -/
def lstF (l : List Oper) (p : Nat) : Array Bool := ((List.range l.length).map fun j => (depsOf l p).contains j).toArray
theorem lstF_at (l : List Oper) (p j : Nat) (hj : j < l.length) (h : j ∉ depsOf l p) : (lstF l p).getD j true = false := by
  unfold lstF
  simp [hj, h]
def lateF (l : List Oper) (m : Nat) (pu : List Nat) : Bool :=
  decide (m ≤ l.length) && (pu.all fun p => decide (p < m) && Region.free .any l.toArray (lstF l p) p) && (List.range l.length).all fun j =>
    if j < m then ((l[j]?).map fun o => o.after.all fun e => !Region.binds .any e || decide (e.on < j)).getD false
    else (List.range m).all fun k => (clos l l.length (depsOf l j)).contains k || (pu.contains k && (depsOf l k).all fun q => (clos l l.length (depsOf l j)).contains q)

section
variable {P : Program} {l : List Oper} {Q : Exit → Act → World → Prop} {F : (Nat → Value) → Act} {Φ : Nat → Value → World → Prop} {w0 : World}
/-- An operation that reads no memory: its value hangs on what it waits for alone. -/
def PureAt (P : Program) (l : List Oper) (F : (Nat → Value) → Act) (Φ : Nat → Value → World → Prop) (p : Nat) : Prop :=
  ∀ op, l[p]? = some op → ∀ x w, (∀ k, waitsB .any l.toArray p k = true → Φ k (x k) w) → Region.wanted op (yielded l.toArray (F x).tmps) = true ∧ ∃ v, (∀ w', (execOp (F x).eval op).run P w' = .ok (.value v) w') ∧ Φ p v w
theorem rely_anyF (m : Nat) (pu : List Nat) (hlate : lateF l m pu = true) (hsel : Region.noSelect l.toArray = true) (hs : StepsAt P l Q F Φ w0 m l 0) (hpu : ∀ p ∈ pu, PureAt P l F Φ p)
    (hend : ∀ x w, Below w0.heap.size w0 w → (∀ j, j < m → Φ j (x j) w) → wpAny P .any l.toArray (NoPanic Q) (l.length - m) (listedAt l.length m) (F x) w) :
    ∀ (n : Nat) (listed : Array Bool) (u : List Nat) (x : Nat → Value) (w : World), listed.size = l.length → (∀ k, m ≤ k → k < l.length → listed.getD k true = false) → (∀ j, j < m → listed.getD j false = false → j ∈ u) →
      l.length - m + u.length ≤ n → Below w0.heap.size w0 w → (∀ j, j < m → listed.getD j false = true → Φ j (x j) w) → (∀ j, j < m → listed.getD j false = true → ∀ k, k ∈ depsOf l j → listed.getD k false = true) → wpAny P .any l.toArray (NoPanic Q) n listed (F x) w := by
  simp only [lateF, Bool.and_eq_true, decide_eq_true_eq, List.all_eq_true, List.mem_range] at hlate
  obtain ⟨⟨hml, hpf⟩, hla⟩ := hlate
  intro n
  induction n with
  | zero =>
    intro listed u x w hsz hlo hu hn hb hp hcl
    have hall : ∀ j, j < m → listed.getD j false = true := fun j hj => by
      cases hq : listed.getD j false
      · have := List.length_pos_of_mem (hu j hj hq); omega
      · rfl
    have hl : listed = listedAt l.length m := by
      refine Array.ext (by simp [listedAt, hsz]; omega) (fun i h1 h2 => ?_)
      rcases Nat.lt_or_ge i m with h | h
      · have := hall i h
        simp [h1] at this
        simp [listedAt, h, this]
      · have := hlo i h (by omega)
        simp [h1] at this
        simp [listedAt, List.getElem_append, Nat.not_lt.2 h, this]
    subst hl
    exact wpAny_le (by omega) (hend x w hb (fun j hj => hp j hj (hall j hj)))
  | succ n ih =>
    intro listed u x w hsz hlo hu hn hb hp hcl
    have hun : ∀ j, j < m → listed.getD j false = false → listed.getD j true = false := fun j hj h => by
      have : j < listed.size := by omega
      simp [this] at h ⊢
      exact h
    -- what is known behind one of them
    have hnext : ∀ i oi v w', i < m → l[i]? = some oi → listed.getD i false = false → (∀ k, k ∈ depsOf l i → listed.getD k false = true) → Below w.heap.size w w' → Φ i v w' → wpAny P .any l.toArray (NoPanic Q) n (listed.setIfInBounds i true) ((F x).put oi.dst v) w' := by
      intro i oi v w' him hoi' hif hia hb' hv
      have hsi := StepsAt.get m l 0 hs i oi him hoi'
      rw [Nat.zero_add] at hsi
      rw [hsi.put]
      refine ih (listed.setIfInBounds i true) (u.erase i) (upd x i v) w' (by simp [hsz]) (fun k h1 h2 => ?_) (fun j hj hjf => ?_) ?_ (hb.trans (hb'.mono hb.size)) (fun j hj hjl => ?_) (fun j hj hjl k hk => ?_)
      · rw [getD_set_ne true (by omega)]; exact hlo k h1 h2
      · have hne : i ≠ j := fun e => by
          subst e
          simp [show i < listed.size by omega] at hjf
        rw [getD_set_ne false hne] at hjf
        exact (List.mem_erase_of_ne (Ne.symm hne)).2 (hu j hj hjf)
      · have := hu i him hif
        rw [List.length_erase_of_mem this]
        have := List.length_pos_of_mem this
        omega
      · rcases Nat.decEq i j with hne | rfl
        · rw [getD_set_ne false hne] at hjl
          rw [upd_ne _ _ _ _ (Ne.symm hne)]
          obtain ⟨oj, hoj⟩ : ∃ o, l[j]? = some o := ⟨l[j]'(by omega), by simp⟩
          have hsj := StepsAt.get m l 0 hs j oj hj hoj
          rw [Nat.zero_add] at hsj
          exact hsj.keep _ _ _ (hp j hj hjl) hb'
        · rw [upd_same]; exact hv
      · refine getD_set_true ?_
        rcases Nat.decEq i j with hne | rfl
        · rw [getD_set_ne false hne] at hjl
          exact hcl j hj hjl k hk
        · exact hia k hk
    have hwb : ∀ i oi, i < m → l[i]? = some oi → (∀ e ∈ oi.after, Region.binds .any e = true → listed.getD e.on false = true) → ∀ k, waitsB .any l.toArray i k = true → Φ k (x k) w := by
      intro i oi him hoi' hia k hk
      obtain ⟨e, he, hbd, hon⟩ := waits_of hoi' hk
      have h2 := hia e he hbd
      rw [hon] at h2
      have hki : k < i := by
        have h1 := hla i (by omega)
        rw [if_pos him, hoi'] at h1
        simp only [Option.map_some, Option.getD_some, Array.all_eq_true_iff_forall_mem] at h1
        have h3 := h1 e he
        simp [hbd] at h3
        omega
      exact hp k (by omega) h2
    by_cases hpx : ∃ p, p ∈ pu ∧ listed.getD p false = false ∧ p ∈ Region.ready .any l.toArray listed
    · obtain ⟨p, hp1, hp2, hp3⟩ := hpx
      have hpm : p < m := (hpf p hp1).1
      obtain ⟨hiu, oi, hoi, hia⟩ := mem_ready.1 hp3
      have hoi' : l[p]? = some oi := by simpa using hoi
      obtain ⟨hwt, v, hv, hΦ⟩ := hpu p hp1 oi hoi' x w (hwb p oi hpm hoi' hia)
      refine AnyTill.any (m := l.length) (S := fun _ => True) _ _ _ _ ?_
      refine AnyTill.firstFree hoi hsel (by omega) (fun _ _ _ h => h) n listed (F x) w (fun j oj hj hne hjl hw => ?_) hp3 (.inl ⟨hwt, fun w' _ => hv w'⟩) (.inr trivial) (AnyTill.of_any _ _ _ _ (hnext p oi v w hpm hoi' hp2 (fun k hk => ?_) (Below.refl _ _) hΦ))
      · refine Region.free_spec hoi (hpf p hp1).2 j oj hj hne ?_ hw
        have hjl2 : j < l.length := by
          have := (Array.getElem?_eq_some_iff.1 hj).1
          simpa using this
        refine lstF_at l p j hjl2 (fun hjd => ?_)
        obtain ⟨e, he, hbd, hon⟩ := deps_mem hoi' hjd
        have h9 := hia e he hbd
        rw [hon] at h9
        have h8 : j < listed.size := by omega
        simp [h8] at hjl h9
        rw [h9] at hjl; cases hjl
      · obtain ⟨e, he, hbd, hon⟩ := deps_mem hoi' hk
        rw [← hon]; exact hia e he hbd
    by_cases hex : ∃ j, j < m ∧ listed.getD j false = false
    · obtain ⟨j0, hj0, hf0, hlt0⟩ := least_false _ m hex
      obtain ⟨o0, ho0⟩ : ∃ o, l[j0]? = some o := ⟨l[j0]'(by omega), by simp⟩
      have hr0 : j0 ∈ Region.ready .any l.toArray listed := by
        refine mem_ready.2 ⟨hun j0 hj0 hf0, o0, by simpa using ho0, fun e he hbd => hlt0 e.on ?_⟩
        have h1 := hla j0 (by omega)
        rw [if_pos hj0, ho0] at h1
        simp only [Option.map_some, Option.getD_some, Array.all_eq_true_iff_forall_mem] at h1
        have h2 := h1 e he
        simp [hbd] at h2
        exact h2
      refine ⟨fun h => absurd hr0 (by rw [h]; exact List.not_mem_nil), fun i hi => ?_⟩
      obtain ⟨hiu, oi, hoi, hia⟩ := mem_ready.1 hi
      have hoi' : l[i]? = some oi := by simpa using hoi
      have hil : i < l.length := (List.getElem?_eq_some_iff.1 hoi').1
      have him : i < m := by
        rcases Nat.lt_or_ge i m with h | h
        · exact h
        · have h1 := hla i hil
          rw [if_neg (Nat.not_lt.2 h)] at h1
          simp only [List.all_eq_true, List.mem_range, Bool.or_eq_true, Bool.and_eq_true, List.contains_iff_mem] at h1
          have hdi : ∀ k, k ∈ depsOf l i → listed.getD k false = true := fun k hk => by
            obtain ⟨e, he, hbd, hon⟩ := deps_mem hoi' hk
            rw [← hon]; exact hia e he hbd
          have hlt : ∀ k, listed.getD k false = true → k < m := fun k hk => by
            rcases Nat.lt_or_ge k m with h2 | h2
            · exact h2
            · rcases Nat.lt_or_ge k l.length with h3 | h3
              · have h4 := hlo k h2 h3
                have h5 : k < listed.size := by omega
                simp [h5] at hk h4
                rw [h4] at hk; cases hk
              · have h5 : ¬ k < listed.size := by omega
                simp [h5] at hk
          have hcs := clos_listed l (fun k => listed.getD k false = true) (fun j hj k hk => hcl j (hlt j hj) hj k hk) l.length (depsOf l i) hdi
          rcases h1 j0 hj0 with h2 | ⟨h2, h3⟩
          · have h4 := hcs j0 h2
            rw [hf0] at h4
            cases h4
          · exact absurd ⟨j0, h2, hf0, hr0⟩ hpx
      have hsi := StepsAt.get m l 0 hs i oi him hoi'
      rw [Nat.zero_add] at hsi
      have hif : listed.getD i false = false := by
        have : i < listed.size := by omega
        simp [this] at hiu ⊢
        exact hiu
      refine wpOp_mono (fun a' w' hk => ?_) (hsi.step x w hb (hwb i oi him hoi' hia))
      obtain ⟨v, rfl, hb', hv⟩ := hk
      refine hnext i oi v w' him hoi' hif (fun k hk => ?_) hb' hv
      obtain ⟨e, he, hbd, hon⟩ := deps_mem hoi' hk
      rw [← hon]; exact hia e he hbd
    · have hall : ∀ j, j < m → listed.getD j false = true := fun j hj => by
        cases hq : listed.getD j false
        · exact absurd ⟨j, hj, hq⟩ hex
        · rfl
      have hl : listed = listedAt l.length m := by
        refine Array.ext (by simp [listedAt, hsz]; omega) (fun i h1 h2 => ?_)
        rcases Nat.lt_or_ge i m with h | h
        · have := hall i h
          simp [h1] at this
          simp [listedAt, h, this]
        · have := hlo i h (by omega)
          simp [h1] at this
          simp [listedAt, List.getElem_append, Nat.not_lt.2 h, this]
      subst hl
      exact wpAny_le (by omega) (hend x w hb (fun j hj => hp j hj (hall j hj)))

/-- The rule. -/
theorem wp_region_relyF (pu : List Nat) (m d : Nat) (F : (Nat → Value) → Act) (Φ : Nat → Value → World → Prop) {id : Nat} {a : Act} (hN : l.length = m + d) (ha : ∃ x0, a = F x0) (hm : P.follows .mixedOrders = true) (hlate : lateF l m pu = true) (hsel : Region.noSelect l.toArray = true) (hpu : ∀ p ∈ pu, PureAt P l F Φ p) (hs : StepsAt P l Q F Φ w0 m l 0)
    (hend : ∀ x w, Below w0.heap.size w0 w → (∀ j, j < m → Φ j (x j) w) → wpAny P .any l.toArray (NoPanic Q) d (listedAt (m + d) m) (F x) w) : (Code.region id l.toArray true).wp P Q a w0 := by
  obtain ⟨x0, rfl⟩ := ha
  refine wp_region_noPanic (wp_region_any hm ?_)
  refine rely_anyF m pu hlate hsel hs hpu (fun x w h1 h2 => ?_) _ _ (List.range m) x0 _ (by simp) (fun k _ h => by simp [h]) (fun j hj _ => List.mem_range.2 hj) (by simp; omega) (Below.refl _ _).drew (fun j hj h => ?_) (fun j hj h => ?_)
  · rw [hN, Nat.add_sub_cancel_left]
    exact hend x w h1 h2
  · have : j < l.length := by omega
    simp [this] at h
  · have : j < l.length := by omega
    simp [this] at h
end
end Go.Proofs.Ytmlpiembglmggaa

namespace Go.Proofs.Ytmlpiembglmggaa
open Go.RowKit

section
variable {P : Program} {l : List Oper} {Q : Exit → Act → World → Prop} {F : (Nat → Value) → Act} {Φ : Nat → (Nat → Value) → World → Prop} {S : Nat → (Nat → Value) → World → World → Prop} {sp : List Nat} {x0 : Nat → Value} {w0 : World}
/-- What operation i does to memory. -/
def effX (sp : List Nat) (S : Nat → (Nat → Value) → World → World → Prop) (i : Nat) (x : Nat → Value) (w w' : World) : Prop := if sp.contains i = true then S i x w w' else Below w.heap.size w w'
structure StepX (P : Program) (l : List Oper) (Q : Exit → Act → World → Prop) (F : (Nat → Value) → Act) (Φ : Nat → (Nat → Value) → World → Prop) (S : Nat → (Nat → Value) → World → World → Prop) (sp : List Nat) (x0 : Nat → Value) (w0 : World) (j : Nat) (o : Oper) : Prop where
  keep : ∀ x i v w w', i ≠ j → i ∉ clos l l.length (depsOf l j) → Φ j x w → effX sp S i x w w' → Φ i (upd x i v) w' → Φ j (upd x i v) w'
  put : ∀ x v, (F x).put o.dst v = F (upd x j v)
  step : ∀ x w, Below w0.heap.size w0 w → x j = x0 j → (∀ k, waitsB .any l.toArray j k = true → Φ k x w) →
    wpOp P l.toArray (NoPanic Q) j (fun a' w' => ∃ v, a' = (F x).put o.dst v ∧ Below w0.heap.size w w' ∧ effX sp S j x w w' ∧ Φ j (upd x j v) w') (F x) w
def StepsX (P : Program) (l : List Oper) (Q : Exit → Act → World → Prop) (F : (Nat → Value) → Act) (Φ : Nat → (Nat → Value) → World → Prop) (S : Nat → (Nat → Value) → World → World → Prop) (sp : List Nat) (x0 : Nat → Value) (w0 : World) : Nat → List Oper → Nat → Prop
  | 0, _, _ => True
  | _ + 1, [], _ => True
  | n + 1, o :: r, j => StepX P l Q F Φ S sp x0 w0 j o ∧ StepsX P l Q F Φ S sp x0 w0 n r (j + 1)
theorem StepsX.done {r : List Oper} {j : Nat} : StepsX P l Q F Φ S sp x0 w0 0 r j := trivial
theorem StepsX.get : ∀ (n : Nat) (r : List Oper) (j : Nat), StepsX P l Q F Φ S sp x0 w0 n r j → ∀ i o, i < n → r[i]? = some o → StepX P l Q F Φ S sp x0 w0 (j + i) o
  | 0, _, _, _, i, _, hi, _ => by omega
  | n + 1, [], _, _, i, _, _, ho => by simp at ho
  | n + 1, o :: r, j, h, 0, o', _, ho => by simp at ho; subst ho; exact h.1
  | n + 1, o :: r, j, h, i + 1, o', hi, ho => by
    have := StepsX.get n r (j + 1) h.2 i o' (by omega) (by simpa using ho)
    rwa [show j + 1 + i = j + (i + 1) by omega] at this
/-- An operation whose predicate is any. -/
theorem StepsX.cons (j : Nat) {n : Nat} {o : Oper} {r : List Oper} (hk : ∀ x i v w w', i ≠ j → i ∉ clos l l.length (depsOf l j) → Φ j x w → effX sp S i x w w' → Φ i (upd x i v) w' → Φ j (upd x i v) w') (hp : ∀ x v, (F x).put o.dst v = F (upd x j v)) (ho : l[j]? = some o) (hw : o.guard = none)
    (h : ∀ x w, Below w0.heap.size w0 w → x j = x0 j → (∀ k, waitsB .any l.toArray j k = true → Φ k x w) → ∀ K : Act → World → Prop, Shut (∀ v w', Below w0.heap.size w w' → effX sp S j x w w' → Φ j (upd x j v) w' → K ((F x).put o.dst v) w') → Oper.wp P o (F x) w K (NoPanic Q))
    (hr : StepsX P l Q F Φ S sp x0 w0 n r (j + 1)) : StepsX P l Q F Φ S sp x0 w0 (n + 1) (o :: r) j := by
  refine ⟨⟨hk, hp, fun x w hb hx hd => ?_⟩, hr⟩
  unfold wpOp
  rw [show l.toArray[j]? = some o by simpa using ho]
  have hwt : Region.wanted o (yielded l.toArray (F x).tmps) = true := by simp [Region.wanted, hw]
  simp only [hwt, if_true]
  exact .inl (h x w hb hx hd _ fun v w' h1 h2 h3 => ⟨v, rfl, h1, h2, h3⟩)
/-- An operation whose value, and its memory, are kept under growth and under S. -/
theorem StepsX.row (j : Nat) (φ : Value → World → Prop) {n : Nat} {o : Oper} {r : List Oper} (hφ : Φ j = fun x w => φ (x j) w) (hjp : sp.contains j = false) (hk1 : ∀ v w w', φ v w → Below w.heap.size w w' → φ v w') (hk2 : ∀ i v x w w', sp.contains i = true → φ v w → S i x w w' → φ v w')
    (hp : ∀ x v, (F x).put o.dst v = F (upd x j v)) (ho : l[j]? = some o) (hw : o.guard = none)
    (h : ∀ x w, Below w0.heap.size w0 w → (∀ k, waitsB .any l.toArray j k = true → Φ k x w) → ∀ K : Act → World → Prop, Shut (∀ v w', Below w.heap.size w w' → φ v w' → K ((F x).put o.dst v) w') → Oper.wp P o (F x) w K (NoPanic Q))
    (hr : StepsX P l Q F Φ S sp x0 w0 n r (j + 1)) : StepsX P l Q F Φ S sp x0 w0 (n + 1) (o :: r) j := by
  refine StepsX.cons j (fun x i v w w' hij _ h1 h2 _ => ?_) hp ho hw (fun x w hb _ hd K hK => h x w hb hd K fun v w' h1 h2 => hK.out v w' (h1.mono hb.size) ?_ ?_) hr
  · rw [hφ] at h1 ⊢
    show φ (upd x i v j) w'
    rw [upd_ne _ _ _ _ (Ne.symm hij)]
    unfold effX at h2
    split at h2
    · rename_i hsp
      exact hk2 _ _ _ _ _ hsp h1 h2
    · exact hk1 _ _ _ h1 h2
  · unfold effX
    rw [if_neg (by rw [hjp]; simp)]
    exact h1
  · rw [hφ]
    show φ (upd x j v j) w'
    rw [upd_same]
    exact h2
/-- The same, where number p waits no more: it was before. -/
theorem StepsX.aft (j : Nat) (φ : Value → World → Prop) {n : Nat} {o : Oper} {r : List Oper} (hφ : Φ j = fun x w => φ (x j) w) (hjp : sp.contains j = false) (hin : (sp.all fun p => (clos l l.length (depsOf l j)).contains p) = true) (hk1 : ∀ v w w', φ v w → Below w.heap.size w w' → φ v w')
    (hp : ∀ x v, (F x).put o.dst v = F (upd x j v)) (ho : l[j]? = some o) (hw : o.guard = none)
    (h : ∀ x w, Below w0.heap.size w0 w → (∀ k, waitsB .any l.toArray j k = true → Φ k x w) → ∀ K : Act → World → Prop, Shut (∀ v w', Below w.heap.size w w' → φ v w' → K ((F x).put o.dst v) w') → Oper.wp P o (F x) w K (NoPanic Q))
    (hr : StepsX P l Q F Φ S sp x0 w0 n r (j + 1)) : StepsX P l Q F Φ S sp x0 w0 (n + 1) (o :: r) j := by
  refine StepsX.cons j (fun x i v w w' hij hni h1 h2 _ => ?_) hp ho hw (fun x w hb _ hd K hK => h x w hb hd K fun v w' h1 h2 => hK.out v w' (h1.mono hb.size) ?_ ?_) hr
  · rw [hφ] at h1 ⊢
    show φ (upd x i v j) w'
    rw [upd_ne _ _ _ _ (Ne.symm hij)]
    unfold effX at h2
    split at h2
    · rename_i hsp
      have := List.all_eq_true.1 hin i (by simpa using hsp)
      exact absurd (by simpa using this) hni
    · exact hk1 _ _ _ h1 h2
  · unfold effX
    rw [if_neg (by rw [hjp]; simp)]
    exact h1
  · rw [hφ]
    show φ (upd x j v j) w'
    rw [upd_same]
    exact h2
/-- An operation whose value is known. -/
theorem StepsX.val (j : Nat) (v : Value) {n : Nat} {o : Oper} {r : List Oper} (hφ : Φ j = fun x w => eqV v (x j) w) (hjp : sp.contains j = false) (hp : ∀ x v, (F x).put o.dst v = F (upd x j v)) (ho : l[j]? = some o) (hw : o.guard = none)
    (h : ∀ x w, Below w0.heap.size w0 w → (∀ k, waitsB .any l.toArray j k = true → Φ k x w) → (execOp (F x).eval o).run P w = .ok (.value v) w)
    (hr : StepsX P l Q F Φ S sp x0 w0 n r (j + 1)) : StepsX P l Q F Φ S sp x0 w0 (n + 1) (o :: r) j := by
  refine StepsX.row j (eqV v) hφ hjp (fun _ _ _ h _ => h) (fun _ _ _ _ _ _ h _ => h) hp ho hw (fun x w hb hd K hK => ?_) hr
  unfold Oper.wp
  rw [h x w hb hd]
  exact hK.out v w (Below.refl _ _) rfl
/-- An operation that reads no memory: its value hangs on what it waits for alone. -/
def PureX (P : Program) (l : List Oper) (F : (Nat → Value) → Act) (Φ : Nat → (Nat → Value) → World → Prop) (p : Nat) : Prop :=
  ∀ op, l[p]? = some op → ∀ x w, (∀ k, waitsB .any l.toArray p k = true → Φ k x w) → Region.wanted op (yielded l.toArray (F x).tmps) = true ∧ ∃ v, (∀ w', (execOp (F x).eval op).run P w' = .ok (.value v) w') ∧ Φ p (upd x p v) w
theorem rely_anyX (m : Nat) (pu : List Nat) (hlate : lateF l m pu = true) (hsel : Region.noSelect l.toArray = true) (hs : StepsX P l Q F Φ S sp x0 w0 m l 0) (hpu : ∀ p ∈ pu, PureX P l F Φ p ∧ sp.contains p = false)
    (hend : ∀ x w, Below w0.heap.size w0 w → (∀ j, j < m → Φ j x w) → wpAny P .any l.toArray (NoPanic Q) (l.length - m) (listedAt l.length m) (F x) w) :
    ∀ (n : Nat) (listed : Array Bool) (u : List Nat) (x : Nat → Value) (w : World), listed.size = l.length → (∀ k, m ≤ k → k < l.length → listed.getD k true = false) → (∀ j, j < m → listed.getD j false = false → j ∈ u) →
      l.length - m + u.length ≤ n → Below w0.heap.size w0 w → (∀ j, j < m → listed.getD j false = true → Φ j x w) → (∀ j, j < m → listed.getD j false = true → ∀ k, k ∈ depsOf l j → listed.getD k false = true) → (∀ j, j < m → listed.getD j false = false → x j = x0 j) → wpAny P .any l.toArray (NoPanic Q) n listed (F x) w := by
  simp only [lateF, Bool.and_eq_true, decide_eq_true_eq, List.all_eq_true, List.mem_range] at hlate
  obtain ⟨⟨hml, hpf⟩, hla⟩ := hlate
  intro n
  induction n with
  | zero =>
    intro listed u x w hsz hlo hu hn hb hp hcl hx0
    have hall : ∀ j, j < m → listed.getD j false = true := fun j hj => by
      cases hq : listed.getD j false
      · have := List.length_pos_of_mem (hu j hj hq); omega
      · rfl
    have hl : listed = listedAt l.length m := by
      refine Array.ext (by simp [listedAt, hsz]; omega) (fun i h1 h2 => ?_)
      rcases Nat.lt_or_ge i m with h | h
      · have := hall i h
        simp [h1] at this
        simp [listedAt, h, this]
      · have := hlo i h (by omega)
        simp [h1] at this
        simp [listedAt, List.getElem_append, Nat.not_lt.2 h, this]
    subst hl
    exact wpAny_le (by omega) (hend x w hb (fun j hj => hp j hj (hall j hj)))
  | succ n ih =>
    intro listed u x w hsz hlo hu hn hb hp hcl hx0
    have hun : ∀ j, j < m → listed.getD j false = false → listed.getD j true = false := fun j hj h => by
      have : j < listed.size := by omega
      simp [this] at h ⊢
      exact h
    -- what is known behind one of them
    have hnext : ∀ i oi v w', i < m → l[i]? = some oi → listed.getD i false = false → (∀ k, k ∈ depsOf l i → listed.getD k false = true) → Below w0.heap.size w w' → effX sp S i x w w' → Φ i (upd x i v) w' → wpAny P .any l.toArray (NoPanic Q) n (listed.setIfInBounds i true) ((F x).put oi.dst v) w' := by
      intro i oi v w' him hoi' hif hia hb' heff hv
      have hsi := StepsX.get m l 0 hs i oi him hoi'
      rw [Nat.zero_add] at hsi
      rw [hsi.put]
      refine ih (listed.setIfInBounds i true) (u.erase i) (upd x i v) w' (by simp [hsz]) (fun k h1 h2 => ?_) (fun j hj hjf => ?_) ?_ (hb.trans hb') (fun j hj hjl => ?_) (fun j hj hjl k hk => ?_) (fun j hj hjf => ?_)
      · rw [getD_set_ne true (by omega)]; exact hlo k h1 h2
      · have hne : i ≠ j := fun e => by
          subst e
          simp [show i < listed.size by omega] at hjf
        rw [getD_set_ne false hne] at hjf
        exact (List.mem_erase_of_ne (Ne.symm hne)).2 (hu j hj hjf)
      · have := hu i him hif
        rw [List.length_erase_of_mem this]
        have := List.length_pos_of_mem this
        omega
      · rcases Nat.decEq i j with hne | rfl
        · rw [getD_set_ne false hne] at hjl
          obtain ⟨oj, hoj⟩ : ∃ o, l[j]? = some o := ⟨l[j]'(by omega), by simp⟩
          have hsj := StepsX.get m l 0 hs j oj hj hoj
          rw [Nat.zero_add] at hsj
          refine hsj.keep _ _ _ _ _ hne (fun hdi => ?_) (hp j hj hjl) heff hv
          have hlt : ∀ k, listed.getD k false = true → k < m := fun k hk => by
            rcases Nat.lt_or_ge k m with h2 | h2
            · exact h2
            · rcases Nat.lt_or_ge k l.length with h3 | h3
              · have h4 := hlo k h2 h3
                have h5 : k < listed.size := by omega
                simp [h5] at hk h4
                rw [h4] at hk; cases hk
              · have h5 : ¬ k < listed.size := by omega
                simp [h5] at hk
          have h7 := clos_listed l (fun k => listed.getD k false = true) (fun q hq k hk => hcl q (hlt q hq) hq k hk) l.length (depsOf l j) (fun k hk => hcl j hj hjl k hk) i hdi
          rw [hif] at h7
          cases h7
        · exact hv
      · refine getD_set_true ?_
        rcases Nat.decEq i j with hne | rfl
        · rw [getD_set_ne false hne] at hjl
          exact hcl j hj hjl k hk
        · exact hia k hk
      · have hne : i ≠ j := fun e => by
          subst e
          simp [show i < listed.size by omega] at hjf
        rw [getD_set_ne false hne] at hjf
        rw [upd_ne _ _ _ _ (Ne.symm hne)]
        exact hx0 j hj hjf
    have hwb : ∀ i oi, i < m → l[i]? = some oi → (∀ e ∈ oi.after, Region.binds .any e = true → listed.getD e.on false = true) → ∀ k, waitsB .any l.toArray i k = true → Φ k x w := by
      intro i oi him hoi' hia k hk
      obtain ⟨e, he, hbd, hon⟩ := waits_of hoi' hk
      have h2 := hia e he hbd
      rw [hon] at h2
      have hki : k < i := by
        have h1 := hla i (by omega)
        rw [if_pos him, hoi'] at h1
        simp only [Option.map_some, Option.getD_some, Array.all_eq_true_iff_forall_mem] at h1
        have h3 := h1 e he
        simp [hbd] at h3
        omega
      exact hp k (by omega) h2
    by_cases hpx : ∃ p, p ∈ pu ∧ listed.getD p false = false ∧ p ∈ Region.ready .any l.toArray listed
    · obtain ⟨p, hp1, hp2, hp3⟩ := hpx
      have hpm : p < m := (hpf p hp1).1
      obtain ⟨hiu, oi, hoi, hia⟩ := mem_ready.1 hp3
      have hoi' : l[p]? = some oi := by simpa using hoi
      obtain ⟨hpx, hpn⟩ := hpu p hp1
      obtain ⟨hwt, v, hv, hΦ⟩ := hpx oi hoi' x w (hwb p oi hpm hoi' hia)
      refine AnyTill.any (m := l.length) (S := fun _ => True) _ _ _ _ ?_
      refine AnyTill.firstFree hoi hsel (by omega) (fun _ _ _ h => h) n listed (F x) w (fun j oj hj hne hjl hw => ?_) hp3 (.inl ⟨hwt, fun w' _ => hv w'⟩) (.inr trivial) (AnyTill.of_any _ _ _ _ (hnext p oi v w hpm hoi' hp2 (fun k hk => ?_) (Below.refl _ _) (by unfold effX; rw [if_neg (by rw [hpn]; simp)]; exact Below.refl _ _) hΦ))
      · refine Region.free_spec hoi (hpf p hp1).2 j oj hj hne ?_ hw
        have hjl2 : j < l.length := by
          have := (Array.getElem?_eq_some_iff.1 hj).1
          simpa using this
        refine lstF_at l p j hjl2 (fun hjd => ?_)
        obtain ⟨e, he, hbd, hon⟩ := deps_mem hoi' hjd
        have h9 := hia e he hbd
        rw [hon] at h9
        have h8 : j < listed.size := by omega
        simp [h8] at hjl h9
        rw [h9] at hjl; cases hjl
      · obtain ⟨e, he, hbd, hon⟩ := deps_mem hoi' hk
        rw [← hon]; exact hia e he hbd
    by_cases hex : ∃ j, j < m ∧ listed.getD j false = false
    · obtain ⟨j0, hj0, hf0, hlt0⟩ := least_false _ m hex
      obtain ⟨o0, ho0⟩ : ∃ o, l[j0]? = some o := ⟨l[j0]'(by omega), by simp⟩
      have hr0 : j0 ∈ Region.ready .any l.toArray listed := by
        refine mem_ready.2 ⟨hun j0 hj0 hf0, o0, by simpa using ho0, fun e he hbd => hlt0 e.on ?_⟩
        have h1 := hla j0 (by omega)
        rw [if_pos hj0, ho0] at h1
        simp only [Option.map_some, Option.getD_some, Array.all_eq_true_iff_forall_mem] at h1
        have h2 := h1 e he
        simp [hbd] at h2
        exact h2
      refine ⟨fun h => absurd hr0 (by rw [h]; exact List.not_mem_nil), fun i hi => ?_⟩
      obtain ⟨hiu, oi, hoi, hia⟩ := mem_ready.1 hi
      have hoi' : l[i]? = some oi := by simpa using hoi
      have hil : i < l.length := (List.getElem?_eq_some_iff.1 hoi').1
      have him : i < m := by
        rcases Nat.lt_or_ge i m with h | h
        · exact h
        · have h1 := hla i hil
          rw [if_neg (Nat.not_lt.2 h)] at h1
          simp only [List.all_eq_true, List.mem_range, Bool.or_eq_true, Bool.and_eq_true, List.contains_iff_mem] at h1
          have hdi : ∀ k, k ∈ depsOf l i → listed.getD k false = true := fun k hk => by
            obtain ⟨e, he, hbd, hon⟩ := deps_mem hoi' hk
            rw [← hon]; exact hia e he hbd
          have hlt : ∀ k, listed.getD k false = true → k < m := fun k hk => by
            rcases Nat.lt_or_ge k m with h2 | h2
            · exact h2
            · rcases Nat.lt_or_ge k l.length with h3 | h3
              · have h4 := hlo k h2 h3
                have h5 : k < listed.size := by omega
                simp [h5] at hk h4
                rw [h4] at hk; cases hk
              · have h5 : ¬ k < listed.size := by omega
                simp [h5] at hk
          have hcs := clos_listed l (fun k => listed.getD k false = true) (fun j hj k hk => hcl j (hlt j hj) hj k hk) l.length (depsOf l i) hdi
          rcases h1 j0 hj0 with h2 | ⟨h2, h3⟩
          · have h4 := hcs j0 h2
            rw [hf0] at h4
            cases h4
          · exact absurd ⟨j0, h2, hf0, hr0⟩ hpx
      have hsi := StepsX.get m l 0 hs i oi him hoi'
      rw [Nat.zero_add] at hsi
      have hif : listed.getD i false = false := by
        have : i < listed.size := by omega
        simp [this] at hiu ⊢
        exact hiu
      refine wpOp_mono (fun a' w' hk => ?_) (hsi.step x w hb (hx0 i him hif) (hwb i oi him hoi' hia))
      obtain ⟨v, rfl, hb', heff, hv⟩ := hk
      refine hnext i oi v w' him hoi' hif (fun k hk => ?_) hb' heff hv
      obtain ⟨e, he, hbd, hon⟩ := deps_mem hoi' hk
      rw [← hon]; exact hia e he hbd
    · have hall : ∀ j, j < m → listed.getD j false = true := fun j hj => by
        cases hq : listed.getD j false
        · exact absurd ⟨j, hj, hq⟩ hex
        · rfl
      have hl : listed = listedAt l.length m := by
        refine Array.ext (by simp [listedAt, hsz]; omega) (fun i h1 h2 => ?_)
        rcases Nat.lt_or_ge i m with h | h
        · have := hall i h
          simp [h1] at this
          simp [listedAt, h, this]
        · have := hlo i h (by omega)
          simp [h1] at this
          simp [listedAt, List.getElem_append, Nat.not_lt.2 h, this]
      subst hl
      exact wpAny_le (by omega) (hend x w hb (fun j hj => hp j hj (hall j hj)))

/-- The rule. -/
theorem wp_region_relyX (pu sp : List Nat) (S : Nat → (Nat → Value) → World → World → Prop) (x0 : Nat → Value) (m d : Nat) (F : (Nat → Value) → Act) (Φ : Nat → (Nat → Value) → World → Prop) {id : Nat} {a : Act} (hN : l.length = m + d) (ha : a = F x0) (hm : P.follows .mixedOrders = true) (hlate : lateF l m pu = true) (hsel : Region.noSelect l.toArray = true) (hpu : ∀ p ∈ pu, PureX P l F Φ p ∧ sp.contains p = false) (hs : StepsX P l Q F Φ S sp x0 w0 m l 0)
    (hend : ∀ x w, Below w0.heap.size w0 w → (∀ j, j < m → Φ j x w) → wpAny P .any l.toArray (NoPanic Q) d (listedAt (m + d) m) (F x) w) : (Code.region id l.toArray true).wp P Q a w0 := by
  subst ha
  refine wp_region_noPanic (wp_region_any hm ?_)
  refine rely_anyX m pu hlate hsel hs hpu (fun x w h1 h2 => ?_) _ _ (List.range m) x0 _ (by simp) (fun k _ h => by simp [h]) (fun j hj _ => List.mem_range.2 hj) (by simp; omega) (Below.refl _ _).drew (fun j hj h => ?_) (fun j hj h => ?_) (fun _ _ _ => rfl)
  · rw [hN, Nat.add_sub_cancel_left]
    exact hend x w h1 h2
  · have : j < l.length := by omega
    simp [this] at h
  · have : j < l.length := by omega
    simp [this] at h
end
end Go.Proofs.Ytmlpiembglmggaa

namespace Go.Proofs.Ytmlpiembglmggaa
open Go.RowKit

theorem wpList_appFG {α : Type} {E : RowK α} {P : Program} {w : World} {ops : Array Oper} {rest : List Oper} {o : Oper} {a : Act} {Q : Exit → Act → World → Prop}
    (hgd : Region.wanted o (yielded ops a.tmps) = true) (s x : Operand) (t : TypeId) (ho : o.op = .call { callee := .builtin .append, args := #[s, x], argTypes := #[t, t] })
    (e : TypeId) (bytes : Nat) (ht : P.underlying t = some (.slice e)) (hk : KindOf P e E bytes)
    (base B : Nat) (v vx : Value) (l m : List α) (hs : a.eval s = v) (hown : OwnE E e w base v l) (hx : a.eval x = vx) (hr : RdE E B w vx m)
    (hlen : (l.length + m.length) * bytes ≤ 140737488355328) (h63 : l.length + m.length ≤ 9223372036854775807) (hbase : base ≤ w.heap.size)
    (h : ∀ v' w', OwnE E e w' base v' (l ++ m) → Below base w w' → w.grownBy w' v.ownBlock → wpList P ops Q rest (a.put o.dst v') w') : wpList P ops Q (o :: rest) a w := by
  obtain ⟨i, z, hi, hz, hsize, hby, hzs⟩ := hk
  obtain ⟨A, c, hv, hc, hm, hn, hrr⟩ := hr
  refine BigFrame.wpList_want hgd fun K hK => ?_
  cases A with
  | none =>
    have h0 : c = 0 := hn rfl
    have h1 : m.length = 0 := by omega
    have h2 : m = [] := List.eq_nil_of_length_eq_zero h1
    subst h0 h2
    have hrun := run_append_owned_none (P := P) (w := w) base t o.type e i E.k ht hi v l.length (rowsE E l) hown
    unfold Oper.wp execOp
    simp only [ho, resolve, invoke, builtin, Sem.run_bind, Sem.run_pure, Result.andThen_ok, List.map_toArray, List.map_cons, List.map_nil, hs, hx, hv, List.length_nil, hrun]
    exact hK _ _ (h v w (by rw [List.append_nil]; exact hown) (Below.refl _ _) ⟨rfl, rfl, rfl, Nat.le_refl _, fun _ _ _ => rfl⟩)
  | some ad =>
    obtain ⟨v', w', hrun, g1, g2, _⟩ := run_append_own (P := P) w base t o.type e i z E.k bytes ht hi hz hsize hby hzs E.pos v l.length (rowsE E l) hown ad m.length c (rowsE E m) (rowsE_length E m) (hrr ad rfl).2 (rowsE_cell E m) (by unfold maxLen; omega) hlen hbase
    unfold Oper.wp execOp
    simp only [ho, resolve, invoke, builtin, Sem.run_bind, Sem.run_pure, Result.andThen_ok, List.map_toArray, List.map_cons, List.map_nil, hs, hx, hv, hrun]
    refine hK _ _ (h v' w' ?_ (OwnE.grown hown g2 hbase) g2)
    unfold OwnE
    rw [List.length_append, rowsE_append]
    exact g1
end Go.Proofs.Ytmlpiembglmggaa

namespace Go.Proofs.Ytmlpiembglmggaa
open Go.RowKit

section
variable {P : Program} {l : List Oper} {Q : Exit → Act → World → Prop} {F : (Nat → Value) → Act} {Φ : Nat → (Nat → Value) → World → Prop} {S : Nat → (Nat → Value) → World → World → Prop} {sp : List Nat} {x0 : Nat → Value} {w0 : World}
structure StepZ (m : Nat) (P : Program) (l : List Oper) (Q : Exit → Act → World → Prop) (F : (Nat → Value) → Act) (Φ : Nat → (Nat → Value) → World → Prop) (S : Nat → (Nat → Value) → World → World → Prop) (sp : List Nat) (x0 : Nat → Value) (w0 : World) (j : Nat) (o : Oper) : Prop where
  keep : ∀ x i v w w', i ≠ j → i ∉ clos l l.length (depsOf l j) → Φ j x w → effX sp S i x w w' → Φ i (upd x i v) w' → Φ j (upd x i v) w'
  put : ∀ x v, (F x).put o.dst v = F (upd x j v)
  step : ∀ x w, Below w0.heap.size w0 w → x j = x0 j → (∀ k, waitsB .any l.toArray j k = true → Φ k x w) → (∀ k, k < m → x k = x0 k ∨ Φ k x w) →
    wpOp P l.toArray (NoPanic Q) j (fun a' w' => ∃ v, a' = (F x).put o.dst v ∧ Below w0.heap.size w w' ∧ effX sp S j x w w' ∧ Φ j (upd x j v) w') (F x) w
def StepsZ (m : Nat) (P : Program) (l : List Oper) (Q : Exit → Act → World → Prop) (F : (Nat → Value) → Act) (Φ : Nat → (Nat → Value) → World → Prop) (S : Nat → (Nat → Value) → World → World → Prop) (sp : List Nat) (x0 : Nat → Value) (w0 : World) : Nat → List Oper → Nat → Prop
  | 0, _, _ => True
  | _ + 1, [], _ => True
  | n + 1, o :: r, j => StepZ m P l Q F Φ S sp x0 w0 j o ∧ StepsZ m P l Q F Φ S sp x0 w0 n r (j + 1)
theorem StepsZ.done {m : Nat} {r : List Oper} {j : Nat} : StepsZ m P l Q F Φ S sp x0 w0 0 r j := trivial
theorem StepsZ.get {m : Nat} : ∀ (n : Nat) (r : List Oper) (j : Nat), StepsZ m P l Q F Φ S sp x0 w0 n r j → ∀ i o, i < n → r[i]? = some o → StepZ m P l Q F Φ S sp x0 w0 (j + i) o
  | 0, _, _, _, i, _, hi, _ => by omega
  | n + 1, [], _, _, i, _, _, ho => by simp at ho
  | n + 1, o :: r, j, h, 0, o', _, ho => by simp at ho; subst ho; exact h.1
  | n + 1, o :: r, j, h, i + 1, o', hi, ho => by
    have := StepsZ.get n r (j + 1) h.2 i o' (by omega) (by simpa using ho)
    rwa [show j + 1 + i = j + (i + 1) by omega] at this
/-- An operation whose predicate is any. -/
theorem StepsZ.cons {m : Nat} (j : Nat) {n : Nat} {o : Oper} {r : List Oper} (hk : ∀ x i v w w', i ≠ j → i ∉ clos l l.length (depsOf l j) → Φ j x w → effX sp S i x w w' → Φ i (upd x i v) w' → Φ j (upd x i v) w') (hp : ∀ x v, (F x).put o.dst v = F (upd x j v)) (ho : l[j]? = some o) (hw : o.guard = none)
    (h : ∀ x w, Below w0.heap.size w0 w → x j = x0 j → (∀ k, waitsB .any l.toArray j k = true → Φ k x w) → (∀ k, k < m → x k = x0 k ∨ Φ k x w) → ∀ K : Act → World → Prop, Shut (∀ v w', Below w0.heap.size w w' → effX sp S j x w w' → Φ j (upd x j v) w' → K ((F x).put o.dst v) w') → Oper.wp P o (F x) w K (NoPanic Q))
    (hr : StepsZ m P l Q F Φ S sp x0 w0 n r (j + 1)) : StepsZ m P l Q F Φ S sp x0 w0 (n + 1) (o :: r) j := by
  refine ⟨⟨hk, hp, fun x w hb hx hd hs9 => ?_⟩, hr⟩
  unfold wpOp
  rw [show l.toArray[j]? = some o by simpa using ho]
  have hwt : Region.wanted o (yielded l.toArray (F x).tmps) = true := by simp [Region.wanted, hw]
  simp only [hwt, if_true]
  exact .inl (h x w hb hx hd hs9 _ fun v w' h1 h2 h3 => ⟨v, rfl, h1, h2, h3⟩)
/-- An operation whose value is known. -/
theorem StepsZ.val {m : Nat} (j : Nat) (v : Value) {n : Nat} {o : Oper} {r : List Oper} (hφ : Φ j = fun x w => eqV v (x j) w) (hjp : sp.contains j = false) (hp : ∀ x v, (F x).put o.dst v = F (upd x j v)) (ho : l[j]? = some o) (hw : o.guard = none)
    (h : ∀ x w, Below w0.heap.size w0 w → (∀ k, waitsB .any l.toArray j k = true → Φ k x w) → (execOp (F x).eval o).run P w = .ok (.value v) w)
    (hr : StepsZ m P l Q F Φ S sp x0 w0 n r (j + 1)) : StepsZ m P l Q F Φ S sp x0 w0 (n + 1) (o :: r) j := by
  refine StepsZ.cons j (fun x i v' w w' hij _ h1 _ _ => ?_) hp ho hw (fun x w hb _ hd _ K hK => ?_) hr
  · rw [hφ] at h1 ⊢
    show eqV v (upd x i v' j) w'
    rw [upd_ne _ _ _ _ (Ne.symm hij)]
    exact h1
  · unfold Oper.wp
    rw [h x w hb hd]
    refine hK.out v w (Below.refl _ _) ?_ ?_
    · unfold effX
      rw [if_neg (by rw [hjp]; simp)]
      exact Below.refl _ _
    · rw [hφ]
      show eqV v (upd x j v j) w
      rw [upd_same]
      rfl
theorem StepsZ.consW {m : Nat} (j : Nat) {n : Nat} {o : Oper} {r : List Oper} (hk : ∀ x i v w w', i ≠ j → i ∉ clos l l.length (depsOf l j) → Φ j x w → effX sp S i x w w' → Φ i (upd x i v) w' → Φ j (upd x i v) w') (hp : ∀ x v, (F x).put o.dst v = F (upd x j v)) (ho : l[j]? = some o)
    (hw : ∀ x w, (∀ k, waitsB .any l.toArray j k = true → Φ k x w) → Region.wanted o (yielded l.toArray (F x).tmps) = true)
    (h : ∀ x w, Below w0.heap.size w0 w → x j = x0 j → (∀ k, waitsB .any l.toArray j k = true → Φ k x w) → (∀ k, k < m → x k = x0 k ∨ Φ k x w) → ∀ K : Act → World → Prop, Shut (∀ v w', Below w0.heap.size w w' → effX sp S j x w w' → Φ j (upd x j v) w' → K ((F x).put o.dst v) w') → Oper.wp P o (F x) w K (NoPanic Q))
    (hr : StepsZ m P l Q F Φ S sp x0 w0 n r (j + 1)) : StepsZ m P l Q F Φ S sp x0 w0 (n + 1) (o :: r) j := by
  refine ⟨⟨hk, hp, fun x w hb hx hd hs9 => ?_⟩, hr⟩
  unfold wpOp
  rw [show l.toArray[j]? = some o by simpa using ho]
  simp only [hw x w hd, if_true]
  exact .inl (h x w hb hx hd hs9 _ fun v w' h1 h2 h3 => ⟨v, rfl, h1, h2, h3⟩)
/-- An operation whose value, and its memory, are kept under growth and under S. -/
theorem StepsZ.rowW {m : Nat} (j : Nat) (φ : Value → World → Prop) {n : Nat} {o : Oper} {r : List Oper} (hφ : Φ j = fun x w => φ (x j) w) (hjp : sp.contains j = false) (hk1 : ∀ v w w', φ v w → Below w.heap.size w w' → φ v w') (hk2 : ∀ i v x w w', sp.contains i = true → φ v w → S i x w w' → φ v w')
    (hp : ∀ x v, (F x).put o.dst v = F (upd x j v)) (ho : l[j]? = some o)
    (hw : ∀ x w, (∀ k, waitsB .any l.toArray j k = true → Φ k x w) → Region.wanted o (yielded l.toArray (F x).tmps) = true)
    (h : ∀ x w, Below w0.heap.size w0 w → (∀ k, waitsB .any l.toArray j k = true → Φ k x w) → ∀ K : Act → World → Prop, Shut (∀ v w', Below w.heap.size w w' → φ v w' → K ((F x).put o.dst v) w') → Oper.wp P o (F x) w K (NoPanic Q))
    (hr : StepsZ m P l Q F Φ S sp x0 w0 n r (j + 1)) : StepsZ m P l Q F Φ S sp x0 w0 (n + 1) (o :: r) j := by
  refine StepsZ.consW j (fun x i v w w' hij _ h1 h2 _ => ?_) hp ho hw (fun x w hb _ hd _ K hK => h x w hb hd K fun v w' h1 h2 => hK.out v w' (h1.mono hb.size) ?_ ?_) hr
  · rw [hφ] at h1 ⊢
    show φ (upd x i v j) w'
    rw [upd_ne _ _ _ _ (Ne.symm hij)]
    unfold effX at h2
    split at h2
    · rename_i hsp
      exact hk2 _ _ _ _ _ hsp h1 h2
    · exact hk1 _ _ _ h1 h2
  · unfold effX
    rw [if_neg (by rw [hjp]; simp)]
    exact h1
  · rw [hφ]
    show φ (upd x j v j) w'
    rw [upd_same]
    exact h2
theorem StepsZ.valW {m : Nat} (j : Nat) (v : Value) {n : Nat} {o : Oper} {r : List Oper} (hφ : Φ j = fun x w => eqV v (x j) w) (hjp : sp.contains j = false) (hp : ∀ x v, (F x).put o.dst v = F (upd x j v)) (ho : l[j]? = some o)
    (hw : ∀ x w, (∀ k, waitsB .any l.toArray j k = true → Φ k x w) → Region.wanted o (yielded l.toArray (F x).tmps) = true)
    (h : ∀ x w, Below w0.heap.size w0 w → (∀ k, waitsB .any l.toArray j k = true → Φ k x w) → (execOp (F x).eval o).run P w = .ok (.value v) w)
    (hr : StepsZ m P l Q F Φ S sp x0 w0 n r (j + 1)) : StepsZ m P l Q F Φ S sp x0 w0 (n + 1) (o :: r) j := by
  refine StepsZ.rowW j (eqV v) hφ hjp (fun _ _ _ h _ => h) (fun _ _ _ _ _ _ h _ => h) hp ho hw (fun x w hb hd K hK => ?_) hr
  unfold Oper.wp
  rw [h x w hb hd]
  exact hK.out v w (Below.refl _ _) rfl
theorem StepsZ.skip {m : Nat} (j : Nat) {n : Nat} {o : Oper} {r : List Oper} (hφ : Φ j = fun x w => eqV undef (x j) w) (hjp : sp.contains j = false) (hp : ∀ x v, (F x).put o.dst v = F (upd x j v)) (ho : l[j]? = some o)
    (hw : ∀ x w, (∀ k, waitsB .any l.toArray j k = true → Φ k x w) → Region.wanted o (yielded l.toArray (F x).tmps) = false)
    (hr : StepsZ m P l Q F Φ S sp x0 w0 n r (j + 1)) : StepsZ m P l Q F Φ S sp x0 w0 (n + 1) (o :: r) j := by
  refine ⟨⟨fun x i v w w' hij _ h1 _ _ => ?_, hp, fun x w hb hx hd hs9 => ?_⟩, hr⟩
  · rw [hφ] at h1 ⊢
    show eqV undef (upd x i v j) w'
    rw [upd_ne _ _ _ _ (Ne.symm hij)]
    exact h1
  · unfold wpOp
    rw [show l.toArray[j]? = some o by simpa using ho]
    simp only [hw x w hd, Bool.false_eq_true, if_false]
    refine ⟨undef, rfl, Below.refl _ _, ?_, ?_⟩
    · unfold effX
      rw [if_neg (by rw [hjp]; simp)]
      exact Below.refl _ _
    · rw [hφ]
      show eqV undef (upd x j undef j) w
      rw [upd_same]
      rfl
theorem rely_anyZ (m : Nat) (pu : List Nat) (hlate : lateF l m pu = true) (hsel : Region.noSelect l.toArray = true) (hs : StepsZ m P l Q F Φ S sp x0 w0 m l 0) (hpu : ∀ p ∈ pu, PureX P l F Φ p ∧ sp.contains p = false)
    (hend : ∀ x w, Below w0.heap.size w0 w → (∀ j, j < m → Φ j x w) → wpAny P .any l.toArray (NoPanic Q) (l.length - m) (listedAt l.length m) (F x) w) :
    ∀ (n : Nat) (listed : Array Bool) (u : List Nat) (x : Nat → Value) (w : World), listed.size = l.length → (∀ k, m ≤ k → k < l.length → listed.getD k true = false) → (∀ j, j < m → listed.getD j false = false → j ∈ u) →
      l.length - m + u.length ≤ n → Below w0.heap.size w0 w → (∀ j, j < m → listed.getD j false = true → Φ j x w) → (∀ j, j < m → listed.getD j false = true → ∀ k, k ∈ depsOf l j → listed.getD k false = true) → (∀ j, j < m → listed.getD j false = false → x j = x0 j) → wpAny P .any l.toArray (NoPanic Q) n listed (F x) w := by
  simp only [lateF, Bool.and_eq_true, decide_eq_true_eq, List.all_eq_true, List.mem_range] at hlate
  obtain ⟨⟨hml, hpf⟩, hla⟩ := hlate
  intro n
  induction n with
  | zero =>
    intro listed u x w hsz hlo hu hn hb hp hcl hx0
    have hall : ∀ j, j < m → listed.getD j false = true := fun j hj => by
      cases hq : listed.getD j false
      · have := List.length_pos_of_mem (hu j hj hq); omega
      · rfl
    have hl : listed = listedAt l.length m := by
      refine Array.ext (by simp [listedAt, hsz]; omega) (fun i h1 h2 => ?_)
      rcases Nat.lt_or_ge i m with h | h
      · have := hall i h
        simp [h1] at this
        simp [listedAt, h, this]
      · have := hlo i h (by omega)
        simp [h1] at this
        simp [listedAt, List.getElem_append, Nat.not_lt.2 h, this]
    subst hl
    exact wpAny_le (by omega) (hend x w hb (fun j hj => hp j hj (hall j hj)))
  | succ n ih =>
    intro listed u x w hsz hlo hu hn hb hp hcl hx0
    have hun : ∀ j, j < m → listed.getD j false = false → listed.getD j true = false := fun j hj h => by
      have : j < listed.size := by omega
      simp [this] at h ⊢
      exact h
    -- what is known behind one of them
    have hnext : ∀ i oi v w', i < m → l[i]? = some oi → listed.getD i false = false → (∀ k, k ∈ depsOf l i → listed.getD k false = true) → Below w0.heap.size w w' → effX sp S i x w w' → Φ i (upd x i v) w' → wpAny P .any l.toArray (NoPanic Q) n (listed.setIfInBounds i true) ((F x).put oi.dst v) w' := by
      intro i oi v w' him hoi' hif hia hb' heff hv
      have hsi := StepsZ.get m l 0 hs i oi him hoi'
      rw [Nat.zero_add] at hsi
      rw [hsi.put]
      refine ih (listed.setIfInBounds i true) (u.erase i) (upd x i v) w' (by simp [hsz]) (fun k h1 h2 => ?_) (fun j hj hjf => ?_) ?_ (hb.trans hb') (fun j hj hjl => ?_) (fun j hj hjl k hk => ?_) (fun j hj hjf => ?_)
      · rw [getD_set_ne true (by omega)]; exact hlo k h1 h2
      · have hne : i ≠ j := fun e => by
          subst e
          simp [show i < listed.size by omega] at hjf
        rw [getD_set_ne false hne] at hjf
        exact (List.mem_erase_of_ne (Ne.symm hne)).2 (hu j hj hjf)
      · have := hu i him hif
        rw [List.length_erase_of_mem this]
        have := List.length_pos_of_mem this
        omega
      · rcases Nat.decEq i j with hne | rfl
        · rw [getD_set_ne false hne] at hjl
          obtain ⟨oj, hoj⟩ : ∃ o, l[j]? = some o := ⟨l[j]'(by omega), by simp⟩
          have hsj := StepsZ.get m l 0 hs j oj hj hoj
          rw [Nat.zero_add] at hsj
          refine hsj.keep _ _ _ _ _ hne (fun hdi => ?_) (hp j hj hjl) heff hv
          have hlt : ∀ k, listed.getD k false = true → k < m := fun k hk => by
            rcases Nat.lt_or_ge k m with h2 | h2
            · exact h2
            · rcases Nat.lt_or_ge k l.length with h3 | h3
              · have h4 := hlo k h2 h3
                have h5 : k < listed.size := by omega
                simp [h5] at hk h4
                rw [h4] at hk; cases hk
              · have h5 : ¬ k < listed.size := by omega
                simp [h5] at hk
          have h7 := clos_listed l (fun k => listed.getD k false = true) (fun q hq k hk => hcl q (hlt q hq) hq k hk) l.length (depsOf l j) (fun k hk => hcl j hj hjl k hk) i hdi
          rw [hif] at h7
          cases h7
        · exact hv
      · refine getD_set_true ?_
        rcases Nat.decEq i j with hne | rfl
        · rw [getD_set_ne false hne] at hjl
          exact hcl j hj hjl k hk
        · exact hia k hk
      · have hne : i ≠ j := fun e => by
          subst e
          simp [show i < listed.size by omega] at hjf
        rw [getD_set_ne false hne] at hjf
        rw [upd_ne _ _ _ _ (Ne.symm hne)]
        exact hx0 j hj hjf
    have hwb : ∀ i oi, i < m → l[i]? = some oi → (∀ e ∈ oi.after, Region.binds .any e = true → listed.getD e.on false = true) → ∀ k, waitsB .any l.toArray i k = true → Φ k x w := by
      intro i oi him hoi' hia k hk
      obtain ⟨e, he, hbd, hon⟩ := waits_of hoi' hk
      have h2 := hia e he hbd
      rw [hon] at h2
      have hki : k < i := by
        have h1 := hla i (by omega)
        rw [if_pos him, hoi'] at h1
        simp only [Option.map_some, Option.getD_some, Array.all_eq_true_iff_forall_mem] at h1
        have h3 := h1 e he
        simp [hbd] at h3
        omega
      exact hp k (by omega) h2
    by_cases hpx : ∃ p, p ∈ pu ∧ listed.getD p false = false ∧ p ∈ Region.ready .any l.toArray listed
    · obtain ⟨p, hp1, hp2, hp3⟩ := hpx
      have hpm : p < m := (hpf p hp1).1
      obtain ⟨hiu, oi, hoi, hia⟩ := mem_ready.1 hp3
      have hoi' : l[p]? = some oi := by simpa using hoi
      obtain ⟨hpx, hpn⟩ := hpu p hp1
      obtain ⟨hwt, v, hv, hΦ⟩ := hpx oi hoi' x w (hwb p oi hpm hoi' hia)
      refine AnyTill.any (m := l.length) (S := fun _ => True) _ _ _ _ ?_
      refine AnyTill.firstFree hoi hsel (by omega) (fun _ _ _ h => h) n listed (F x) w (fun j oj hj hne hjl hw => ?_) hp3 (.inl ⟨hwt, fun w' _ => hv w'⟩) (.inr trivial) (AnyTill.of_any _ _ _ _ (hnext p oi v w hpm hoi' hp2 (fun k hk => ?_) (Below.refl _ _) (by unfold effX; rw [if_neg (by rw [hpn]; simp)]; exact Below.refl _ _) hΦ))
      · refine Region.free_spec hoi (hpf p hp1).2 j oj hj hne ?_ hw
        have hjl2 : j < l.length := by
          have := (Array.getElem?_eq_some_iff.1 hj).1
          simpa using this
        refine lstF_at l p j hjl2 (fun hjd => ?_)
        obtain ⟨e, he, hbd, hon⟩ := deps_mem hoi' hjd
        have h9 := hia e he hbd
        rw [hon] at h9
        have h8 : j < listed.size := by omega
        simp [h8] at hjl h9
        rw [h9] at hjl; cases hjl
      · obtain ⟨e, he, hbd, hon⟩ := deps_mem hoi' hk
        rw [← hon]; exact hia e he hbd
    by_cases hex : ∃ j, j < m ∧ listed.getD j false = false
    · obtain ⟨j0, hj0, hf0, hlt0⟩ := least_false _ m hex
      obtain ⟨o0, ho0⟩ : ∃ o, l[j0]? = some o := ⟨l[j0]'(by omega), by simp⟩
      have hr0 : j0 ∈ Region.ready .any l.toArray listed := by
        refine mem_ready.2 ⟨hun j0 hj0 hf0, o0, by simpa using ho0, fun e he hbd => hlt0 e.on ?_⟩
        have h1 := hla j0 (by omega)
        rw [if_pos hj0, ho0] at h1
        simp only [Option.map_some, Option.getD_some, Array.all_eq_true_iff_forall_mem] at h1
        have h2 := h1 e he
        simp [hbd] at h2
        exact h2
      refine ⟨fun h => absurd hr0 (by rw [h]; exact List.not_mem_nil), fun i hi => ?_⟩
      obtain ⟨hiu, oi, hoi, hia⟩ := mem_ready.1 hi
      have hoi' : l[i]? = some oi := by simpa using hoi
      have hil : i < l.length := (List.getElem?_eq_some_iff.1 hoi').1
      have him : i < m := by
        rcases Nat.lt_or_ge i m with h | h
        · exact h
        · have h1 := hla i hil
          rw [if_neg (Nat.not_lt.2 h)] at h1
          simp only [List.all_eq_true, List.mem_range, Bool.or_eq_true, Bool.and_eq_true, List.contains_iff_mem] at h1
          have hdi : ∀ k, k ∈ depsOf l i → listed.getD k false = true := fun k hk => by
            obtain ⟨e, he, hbd, hon⟩ := deps_mem hoi' hk
            rw [← hon]; exact hia e he hbd
          have hlt : ∀ k, listed.getD k false = true → k < m := fun k hk => by
            rcases Nat.lt_or_ge k m with h2 | h2
            · exact h2
            · rcases Nat.lt_or_ge k l.length with h3 | h3
              · have h4 := hlo k h2 h3
                have h5 : k < listed.size := by omega
                simp [h5] at hk h4
                rw [h4] at hk; cases hk
              · have h5 : ¬ k < listed.size := by omega
                simp [h5] at hk
          have hcs := clos_listed l (fun k => listed.getD k false = true) (fun j hj k hk => hcl j (hlt j hj) hj k hk) l.length (depsOf l i) hdi
          rcases h1 j0 hj0 with h2 | ⟨h2, h3⟩
          · have h4 := hcs j0 h2
            rw [hf0] at h4
            cases h4
          · exact absurd ⟨j0, h2, hf0, hr0⟩ hpx
      have hsi := StepsZ.get m l 0 hs i oi him hoi'
      rw [Nat.zero_add] at hsi
      have hif : listed.getD i false = false := by
        have : i < listed.size := by omega
        simp [this] at hiu ⊢
        exact hiu
      refine wpOp_mono (fun a' w' hk => ?_) (hsi.step x w hb (hx0 i him hif) (hwb i oi him hoi' hia) (fun k hk => by
        cases hq : listed.getD k false
        · exact .inl (hx0 k hk hq)
        · exact .inr (hp k hk hq)))
      obtain ⟨v, rfl, hb', heff, hv⟩ := hk
      refine hnext i oi v w' him hoi' hif (fun k hk => ?_) hb' heff hv
      obtain ⟨e, he, hbd, hon⟩ := deps_mem hoi' hk
      rw [← hon]; exact hia e he hbd
    · have hall : ∀ j, j < m → listed.getD j false = true := fun j hj => by
        cases hq : listed.getD j false
        · exact absurd ⟨j, hj, hq⟩ hex
        · rfl
      have hl : listed = listedAt l.length m := by
        refine Array.ext (by simp [listedAt, hsz]; omega) (fun i h1 h2 => ?_)
        rcases Nat.lt_or_ge i m with h | h
        · have := hall i h
          simp [h1] at this
          simp [listedAt, h, this]
        · have := hlo i h (by omega)
          simp [h1] at this
          simp [listedAt, List.getElem_append, Nat.not_lt.2 h, this]
      subst hl
      exact wpAny_le (by omega) (hend x w hb (fun j hj => hp j hj (hall j hj)))

/-- The rule. -/
theorem wp_region_relyZ (pu sp : List Nat) (S : Nat → (Nat → Value) → World → World → Prop) (x0 : Nat → Value) (m d : Nat) (F : (Nat → Value) → Act) (Φ : Nat → (Nat → Value) → World → Prop) {id : Nat} {a : Act} (hN : l.length = m + d) (ha : a = F x0) (hm : P.follows .mixedOrders = true) (hlate : lateF l m pu = true) (hsel : Region.noSelect l.toArray = true) (hpu : ∀ p ∈ pu, PureX P l F Φ p ∧ sp.contains p = false) (hs : StepsZ m P l Q F Φ S sp x0 w0 m l 0)
    (hend : ∀ x w, Below w0.heap.size w0 w → (∀ j, j < m → Φ j x w) → wpAny P .any l.toArray (NoPanic Q) d (listedAt (m + d) m) (F x) w) : (Code.region id l.toArray true).wp P Q a w0 := by
  subst ha
  refine wp_region_noPanic (wp_region_any hm ?_)
  refine rely_anyZ m pu hlate hsel hs hpu (fun x w h1 h2 => ?_) _ _ (List.range m) x0 _ (by simp) (fun k _ h => by simp [h]) (fun j hj _ => List.mem_range.2 hj) (by simp; omega) (Below.refl _ _).drew (fun j hj h => ?_) (fun j hj h => ?_) (fun _ _ _ => rfl)
  · rw [hN, Nat.add_sub_cancel_left]
    exact hend x w h1 h2
  · have : j < l.length := by omega
    simp [this] at h
  · have : j < l.length := by omega
    simp [this] at h
end
/-- Bytes as rows. -/
def U8K : RowK UInt8 := { enc := fun b => [.int .u8 (b.toNat : Int)], k := 1, d := 0, len := fun _ => rfl, one := fun _ u hu => by simp only [List.mem_cons, List.not_mem_nil, or_false] at hu; subst hu; rfl, pos := by decide }
theorem rowsU8 (l : List UInt8) : rowsE U8K l = bys l := by
  unfold rowsE bys
  induction l with
  | nil => rfl
  | cons b r ih =>
    rw [List.flatMap_cons, ih]
    rfl
theorem Own.toE {e : TypeId} {w : World} {B : Nat} {v : Value} {l : List UInt8} (h : Own e w B v l) : OwnE U8K e w B v l := by
  unfold OwnE
  rw [rowsU8]
  exact h
theorem OwnE.toB {e : TypeId} {w : World} {B : Nat} {v : Value} {l : List UInt8} (h : OwnE U8K e w B v l) : Own e w B v l := by
  unfold OwnE at h
  rw [rowsU8] at h
  exact h
theorem Rd.toE {B : Nat} {w : World} {v : Value} {l : List UInt8} (h : Rd B w v l) : RdE U8K B w v l := by
  obtain ⟨A, c, hv, hc, hm, hn, hr⟩ := h
  refine ⟨A, c, hv, hc, hm, hn, fun a ha => ⟨(hr a ha).1, fun j u hu => ?_⟩⟩
  rw [rowsU8] at hu
  have hj : j < l.length := by
    have := (List.getElem?_eq_some_iff.1 hu).1
    simpa [bys] using this
  rw [(hr a ha).2 j hj]
  simp [bys, hj] at hu
  rw [← hu]
theorem Own.isSlice {e : TypeId} {w : World} {B : Nat} {v : Value} {l : List UInt8} (h : Own e w B v l) : ∃ A n c, v = .slice A n c := by
  obtain ⟨A, c, hv, -, -⟩ := h.rd.shape
  exact ⟨A, _, c, hv⟩
theorem Own.belowB {e : TypeId} {w w' : World} {base B : Nat} {v : Value} {l : List UInt8} (h : Own e w base v l) (hb : Below B w w') (hB : w.heap.size ≤ B) : Own e w' base v l := by
  refine ⟨h.1, ?_⟩
  rcases h.2 with hn | ⟨g, cap, cur, rfl, hg0, hg, r⟩
  · exact .inl hn
  · have hlt : g < w.heap.size := (Array.getElem?_eq_some_iff.1 hg).1
    exact .inr ⟨g, cap, cur, rfl, hg0, by rw [hb.block g (by omega)]; exact hg, r⟩
/-- Bytes of one's own, as long as they are not appended to; what an append does. -/
def RowB (e : TypeId) (B : Nat) (l : List UInt8) (a b : Value) (w : World) : Prop := (∃ A n c, a = .slice A n c) ∧ (b = undef → Own e w B a l)
def GrowB (e : TypeId) (B : Nat) (l : List UInt8) (a : Value) (w w' : World) : Prop := (∃ A n c, a = .slice A n c) ∧ Own e w B a l ∧ w.grownBy w' a.ownBlock
/-- The bytes that an append gave. -/
def BackB (e : TypeId) (B : Nat) (l : List UInt8) (a : Value) (w : World) : Prop := (∃ A n c, a = .slice A n c) ∧ Own e w B a l
theorem BackB.keep {e : TypeId} {B : Nat} {l : List UInt8} {a : Value} {w w' : World} (h : BackB e B l a w) (hb : Below w.heap.size w w') : BackB e B l a w' := ⟨h.1, h.2.belowB hb (Nat.le_refl _)⟩
/-- append of a row, an operation of an open region (whoever guards it). -/
theorem wp_appG {α : Type} {E : RowK α} {P : Program} {w : World} {o : Oper} {a : Act} {K : Act → World → Prop} {Q : Exit → Act → World → Prop}
    (s x : Operand) (t : TypeId) (ho : o.op = .call { callee := .builtin .append, args := #[s, x], argTypes := #[t, t] })
    (e : TypeId) (bytes : Nat) (ht : P.underlying t = some (.slice e)) (hk : KindOf P e E bytes)
    (base B : Nat) (v vx : Value) (l m : List α) (hs : a.eval s = v) (hown : OwnE E e w base v l) (hx : a.eval x = vx) (hr : RdE E B w vx m)
    (hlen : (l.length + m.length) * bytes ≤ 140737488355328) (h63 : l.length + m.length ≤ 9223372036854775807) (hbase : base ≤ w.heap.size)
    (h : ∀ v' w', OwnE E e w' base v' (l ++ m) → Below base w w' → w.grownBy w' v.ownBlock → K (a.put o.dst v') w') : Oper.wp P o a w K Q := by
  obtain ⟨i, z, hi, hz, hsize, hby, hzs⟩ := hk
  obtain ⟨A, c, hv, hc, hm, hn, hrr⟩ := hr
  cases A with
  | none =>
    have h0 : c = 0 := hn rfl
    have h1 : m.length = 0 := by omega
    have h2 : m = [] := List.eq_nil_of_length_eq_zero h1
    subst h0 h2
    have hrun := run_append_owned_none (P := P) (w := w) base t o.type e i E.k ht hi v l.length (rowsE E l) hown
    unfold Oper.wp execOp
    simp only [ho, resolve, invoke, builtin, Sem.run_bind, Sem.run_pure, Result.andThen_ok, List.map_toArray, List.map_cons, List.map_nil, hs, hx, hv, List.length_nil, hrun]
    exact h v w (by rw [List.append_nil]; exact hown) (Below.refl _ _) ⟨rfl, rfl, rfl, Nat.le_refl _, fun _ _ _ => rfl⟩
  | some ad =>
    obtain ⟨v', w', hrun, g1, g2, _⟩ := run_append_own (P := P) w base t o.type e i z E.k bytes ht hi hz hsize hby hzs E.pos v l.length (rowsE E l) hown ad m.length c (rowsE E m) (rowsE_length E m) (hrr ad rfl).2 (rowsE_cell E m) (by unfold maxLen; omega) hlen hbase
    unfold Oper.wp execOp
    simp only [ho, resolve, invoke, builtin, Sem.run_bind, Sem.run_pure, Result.andThen_ok, List.map_toArray, List.map_cons, List.map_nil, hs, hx, hv, hrun]
    refine h v' w' ?_ (OwnE.grown hown g2 hbase) g2
    unfold OwnE
    rw [List.length_append, rowsE_append]
    exact g1
end Go.Proofs.Ytmlpiembglmggaa

namespace Go.Proofs.Ytmlpiembglmggaa
open Go.RowKit

section
variable {P : Program} {l : List Oper} {Q : Exit → Act → World → Prop} {F : (Nat → Value) → Act} {Φ : Nat → (Nat → Value) → World → Prop} {S : Nat → (Nat → Value) → World → World → Prop} {sp : List Nat} {x0 : Nat → Value} {I : World → Prop}
structure StepY (m : Nat) (P : Program) (l : List Oper) (Q : Exit → Act → World → Prop) (F : (Nat → Value) → Act) (Φ : Nat → (Nat → Value) → World → Prop) (S : Nat → (Nat → Value) → World → World → Prop) (sp : List Nat) (x0 : Nat → Value) (I : World → Prop) (j : Nat) (o : Oper) : Prop where
  keep : ∀ x i v w w', i ≠ j → i ∉ clos l l.length (depsOf l j) → Φ j x w → effX sp S i x w w' → Φ i (upd x i v) w' → Φ j (upd x i v) w'
  put : ∀ x v, (F x).put o.dst v = F (upd x j v)
  step : ∀ x w, I w → x j = x0 j → (∀ k, waitsB .any l.toArray j k = true → Φ k x w) → (∀ k, k < m → x k = x0 k ∨ Φ k x w) →
    wpOp P l.toArray (NoPanic Q) j (fun a' w' => ∃ v, a' = (F x).put o.dst v ∧ I w' ∧ effX sp S j x w w' ∧ Φ j (upd x j v) w') (F x) w
def StepsY (m : Nat) (P : Program) (l : List Oper) (Q : Exit → Act → World → Prop) (F : (Nat → Value) → Act) (Φ : Nat → (Nat → Value) → World → Prop) (S : Nat → (Nat → Value) → World → World → Prop) (sp : List Nat) (x0 : Nat → Value) (I : World → Prop) : Nat → List Oper → Nat → Prop
  | 0, _, _ => True
  | _ + 1, [], _ => True
  | n + 1, o :: r, j => StepY m P l Q F Φ S sp x0 I j o ∧ StepsY m P l Q F Φ S sp x0 I n r (j + 1)
theorem StepsY.done {m : Nat} {r : List Oper} {j : Nat} : StepsY m P l Q F Φ S sp x0 I 0 r j := trivial
theorem StepsY.get {m : Nat} : ∀ (n : Nat) (r : List Oper) (j : Nat), StepsY m P l Q F Φ S sp x0 I n r j → ∀ i o, i < n → r[i]? = some o → StepY m P l Q F Φ S sp x0 I (j + i) o
  | 0, _, _, _, i, _, hi, _ => by omega
  | n + 1, [], _, _, i, _, _, ho => by simp at ho
  | n + 1, o :: r, j, h, 0, o', _, ho => by simp at ho; subst ho; exact h.1
  | n + 1, o :: r, j, h, i + 1, o', hi, ho => by
    have := StepsY.get n r (j + 1) h.2 i o' (by omega) (by simpa using ho)
    rwa [show j + 1 + i = j + (i + 1) by omega] at this
/-- An operation whose predicate is any. -/
theorem StepsY.cons {m : Nat} (j : Nat) {n : Nat} {o : Oper} {r : List Oper} (hk : ∀ x i v w w', i ≠ j → i ∉ clos l l.length (depsOf l j) → Φ j x w → effX sp S i x w w' → Φ i (upd x i v) w' → Φ j (upd x i v) w') (hp : ∀ x v, (F x).put o.dst v = F (upd x j v)) (ho : l[j]? = some o) (hw : o.guard = none)
    (h : ∀ x w, I w → x j = x0 j → (∀ k, waitsB .any l.toArray j k = true → Φ k x w) → (∀ k, k < m → x k = x0 k ∨ Φ k x w) → ∀ K : Act → World → Prop, Shut (∀ v w', I w' → effX sp S j x w w' → Φ j (upd x j v) w' → K ((F x).put o.dst v) w') → Oper.wp P o (F x) w K (NoPanic Q))
    (hr : StepsY m P l Q F Φ S sp x0 I n r (j + 1)) : StepsY m P l Q F Φ S sp x0 I (n + 1) (o :: r) j := by
  refine ⟨⟨hk, hp, fun x w hb hx hd hs9 => ?_⟩, hr⟩
  unfold wpOp
  rw [show l.toArray[j]? = some o by simpa using ho]
  have hwt : Region.wanted o (yielded l.toArray (F x).tmps) = true := by simp [Region.wanted, hw]
  simp only [hwt, if_true]
  exact .inl (h x w hb hx hd hs9 _ fun v w' h1 h2 h3 => ⟨v, rfl, h1, h2, h3⟩)
/-- An operation whose value is known. -/
theorem StepsY.val {m : Nat} (j : Nat) (v : Value) {n : Nat} {o : Oper} {r : List Oper} (hφ : Φ j = fun x w => eqV v (x j) w) (hjp : sp.contains j = false) (hp : ∀ x v, (F x).put o.dst v = F (upd x j v)) (ho : l[j]? = some o) (hw : o.guard = none)
    (h : ∀ x w, I w → (∀ k, waitsB .any l.toArray j k = true → Φ k x w) → (execOp (F x).eval o).run P w = .ok (.value v) w)
    (hr : StepsY m P l Q F Φ S sp x0 I n r (j + 1)) : StepsY m P l Q F Φ S sp x0 I (n + 1) (o :: r) j := by
  refine StepsY.cons j (fun x i v' w w' hij _ h1 _ _ => ?_) hp ho hw (fun x w hb _ hd _ K hK => ?_) hr
  · rw [hφ] at h1 ⊢
    show eqV v (upd x i v' j) w'
    rw [upd_ne _ _ _ _ (Ne.symm hij)]
    exact h1
  · unfold Oper.wp
    rw [h x w hb hd]
    refine hK.out v w hb ?_ ?_
    · unfold effX
      rw [if_neg (by rw [hjp]; simp)]
      exact Below.refl _ _
    · rw [hφ]
      show eqV v (upd x j v j) w
      rw [upd_same]
      rfl
theorem StepsY.consW {m : Nat} (j : Nat) {n : Nat} {o : Oper} {r : List Oper} (hk : ∀ x i v w w', i ≠ j → i ∉ clos l l.length (depsOf l j) → Φ j x w → effX sp S i x w w' → Φ i (upd x i v) w' → Φ j (upd x i v) w') (hp : ∀ x v, (F x).put o.dst v = F (upd x j v)) (ho : l[j]? = some o)
    (hw : ∀ x w, (∀ k, waitsB .any l.toArray j k = true → Φ k x w) → Region.wanted o (yielded l.toArray (F x).tmps) = true)
    (h : ∀ x w, I w → x j = x0 j → (∀ k, waitsB .any l.toArray j k = true → Φ k x w) → (∀ k, k < m → x k = x0 k ∨ Φ k x w) → ∀ K : Act → World → Prop, Shut (∀ v w', I w' → effX sp S j x w w' → Φ j (upd x j v) w' → K ((F x).put o.dst v) w') → Oper.wp P o (F x) w K (NoPanic Q))
    (hr : StepsY m P l Q F Φ S sp x0 I n r (j + 1)) : StepsY m P l Q F Φ S sp x0 I (n + 1) (o :: r) j := by
  refine ⟨⟨hk, hp, fun x w hb hx hd hs9 => ?_⟩, hr⟩
  unfold wpOp
  rw [show l.toArray[j]? = some o by simpa using ho]
  simp only [hw x w hd, if_true]
  exact .inl (h x w hb hx hd hs9 _ fun v w' h1 h2 h3 => ⟨v, rfl, h1, h2, h3⟩)
/-- An operation whose value, and its memory, are kept under growth and under S. -/
theorem StepsY.rowW {m : Nat} (hI : ∀ w w', I w → Below w.heap.size w w' → I w') (j : Nat) (φ : Value → World → Prop) {n : Nat} {o : Oper} {r : List Oper} (hφ : Φ j = fun x w => φ (x j) w) (hjp : sp.contains j = false) (hk1 : ∀ v w w', φ v w → Below w.heap.size w w' → φ v w') (hk2 : ∀ i v x w w', sp.contains i = true → φ v w → S i x w w' → φ v w')
    (hp : ∀ x v, (F x).put o.dst v = F (upd x j v)) (ho : l[j]? = some o)
    (hw : ∀ x w, (∀ k, waitsB .any l.toArray j k = true → Φ k x w) → Region.wanted o (yielded l.toArray (F x).tmps) = true)
    (h : ∀ x w, I w → (∀ k, waitsB .any l.toArray j k = true → Φ k x w) → ∀ K : Act → World → Prop, Shut (∀ v w', Below w.heap.size w w' → φ v w' → K ((F x).put o.dst v) w') → Oper.wp P o (F x) w K (NoPanic Q))
    (hr : StepsY m P l Q F Φ S sp x0 I n r (j + 1)) : StepsY m P l Q F Φ S sp x0 I (n + 1) (o :: r) j := by
  refine StepsY.consW j (fun x i v w w' hij _ h1 h2 _ => ?_) hp ho hw (fun x w hb _ hd _ K hK => h x w hb hd K fun v w' h1 h2 => hK.out v w' (hI w w' hb h1) ?_ ?_) hr
  · rw [hφ] at h1 ⊢
    show φ (upd x i v j) w'
    rw [upd_ne _ _ _ _ (Ne.symm hij)]
    unfold effX at h2
    split at h2
    · rename_i hsp
      exact hk2 _ _ _ _ _ hsp h1 h2
    · exact hk1 _ _ _ h1 h2
  · unfold effX
    rw [if_neg (by rw [hjp]; simp)]
    exact h1
  · rw [hφ]
    show φ (upd x j v j) w'
    rw [upd_same]
    exact h2
theorem StepsY.valW {m : Nat} (hI : ∀ w w', I w → Below w.heap.size w w' → I w') (j : Nat) (v : Value) {n : Nat} {o : Oper} {r : List Oper} (hφ : Φ j = fun x w => eqV v (x j) w) (hjp : sp.contains j = false) (hp : ∀ x v, (F x).put o.dst v = F (upd x j v)) (ho : l[j]? = some o)
    (hw : ∀ x w, (∀ k, waitsB .any l.toArray j k = true → Φ k x w) → Region.wanted o (yielded l.toArray (F x).tmps) = true)
    (h : ∀ x w, I w → (∀ k, waitsB .any l.toArray j k = true → Φ k x w) → (execOp (F x).eval o).run P w = .ok (.value v) w)
    (hr : StepsY m P l Q F Φ S sp x0 I n r (j + 1)) : StepsY m P l Q F Φ S sp x0 I (n + 1) (o :: r) j := by
  refine StepsY.rowW hI j (eqV v) hφ hjp (fun _ _ _ h _ => h) (fun _ _ _ _ _ _ h _ => h) hp ho hw (fun x w hb hd K hK => ?_) hr
  unfold Oper.wp
  rw [h x w hb hd]
  exact hK.out v w (Below.refl _ _) rfl
theorem StepsY.skip {m : Nat} (j : Nat) {n : Nat} {o : Oper} {r : List Oper} (hφ : Φ j = fun x w => eqV undef (x j) w) (hjp : sp.contains j = false) (hp : ∀ x v, (F x).put o.dst v = F (upd x j v)) (ho : l[j]? = some o)
    (hw : ∀ x w, (∀ k, waitsB .any l.toArray j k = true → Φ k x w) → Region.wanted o (yielded l.toArray (F x).tmps) = false)
    (hr : StepsY m P l Q F Φ S sp x0 I n r (j + 1)) : StepsY m P l Q F Φ S sp x0 I (n + 1) (o :: r) j := by
  refine ⟨⟨fun x i v w w' hij _ h1 _ _ => ?_, hp, fun x w hb hx hd hs9 => ?_⟩, hr⟩
  · rw [hφ] at h1 ⊢
    show eqV undef (upd x i v j) w'
    rw [upd_ne _ _ _ _ (Ne.symm hij)]
    exact h1
  · unfold wpOp
    rw [show l.toArray[j]? = some o by simpa using ho]
    simp only [hw x w hd, Bool.false_eq_true, if_false]
    refine ⟨undef, rfl, hb, ?_, ?_⟩
    · unfold effX
      rw [if_neg (by rw [hjp]; simp)]
      exact Below.refl _ _
    · rw [hφ]
      show eqV undef (upd x j undef j) w
      rw [upd_same]
      rfl
theorem rely_anyY (m : Nat) (pu : List Nat) (hlate : lateF l m pu = true) (hsel : Region.noSelect l.toArray = true) (hs : StepsY m P l Q F Φ S sp x0 I m l 0) (hpu : ∀ p ∈ pu, PureX P l F Φ p ∧ sp.contains p = false)
    (hend : ∀ x w, I w → (∀ j, j < m → Φ j x w) → wpAny P .any l.toArray (NoPanic Q) (l.length - m) (listedAt l.length m) (F x) w) :
    ∀ (n : Nat) (listed : Array Bool) (u : List Nat) (x : Nat → Value) (w : World), listed.size = l.length → (∀ k, m ≤ k → k < l.length → listed.getD k true = false) → (∀ j, j < m → listed.getD j false = false → j ∈ u) →
      l.length - m + u.length ≤ n → I w → (∀ j, j < m → listed.getD j false = true → Φ j x w) → (∀ j, j < m → listed.getD j false = true → ∀ k, k ∈ depsOf l j → listed.getD k false = true) → (∀ j, j < m → listed.getD j false = false → x j = x0 j) → wpAny P .any l.toArray (NoPanic Q) n listed (F x) w := by
  simp only [lateF, Bool.and_eq_true, decide_eq_true_eq, List.all_eq_true, List.mem_range] at hlate
  obtain ⟨⟨hml, hpf⟩, hla⟩ := hlate
  intro n
  induction n with
  | zero =>
    intro listed u x w hsz hlo hu hn hb hp hcl hx0
    have hall : ∀ j, j < m → listed.getD j false = true := fun j hj => by
      cases hq : listed.getD j false
      · have := List.length_pos_of_mem (hu j hj hq); omega
      · rfl
    have hl : listed = listedAt l.length m := by
      refine Array.ext (by simp [listedAt, hsz]; omega) (fun i h1 h2 => ?_)
      rcases Nat.lt_or_ge i m with h | h
      · have := hall i h
        simp [h1] at this
        simp [listedAt, h, this]
      · have := hlo i h (by omega)
        simp [h1] at this
        simp [listedAt, List.getElem_append, Nat.not_lt.2 h, this]
    subst hl
    exact wpAny_le (by omega) (hend x w hb (fun j hj => hp j hj (hall j hj)))
  | succ n ih =>
    intro listed u x w hsz hlo hu hn hb hp hcl hx0
    have hun : ∀ j, j < m → listed.getD j false = false → listed.getD j true = false := fun j hj h => by
      have : j < listed.size := by omega
      simp [this] at h ⊢
      exact h
    -- what is known behind one of them
    have hnext : ∀ i oi v w', i < m → l[i]? = some oi → listed.getD i false = false → (∀ k, k ∈ depsOf l i → listed.getD k false = true) → I w' → effX sp S i x w w' → Φ i (upd x i v) w' → wpAny P .any l.toArray (NoPanic Q) n (listed.setIfInBounds i true) ((F x).put oi.dst v) w' := by
      intro i oi v w' him hoi' hif hia hb' heff hv
      have hsi := StepsY.get m l 0 hs i oi him hoi'
      rw [Nat.zero_add] at hsi
      rw [hsi.put]
      refine ih (listed.setIfInBounds i true) (u.erase i) (upd x i v) w' (by simp [hsz]) (fun k h1 h2 => ?_) (fun j hj hjf => ?_) ?_ hb' (fun j hj hjl => ?_) (fun j hj hjl k hk => ?_) (fun j hj hjf => ?_)
      · rw [getD_set_ne true (by omega)]; exact hlo k h1 h2
      · have hne : i ≠ j := fun e => by
          subst e
          simp [show i < listed.size by omega] at hjf
        rw [getD_set_ne false hne] at hjf
        exact (List.mem_erase_of_ne (Ne.symm hne)).2 (hu j hj hjf)
      · have := hu i him hif
        rw [List.length_erase_of_mem this]
        have := List.length_pos_of_mem this
        omega
      · rcases Nat.decEq i j with hne | rfl
        · rw [getD_set_ne false hne] at hjl
          obtain ⟨oj, hoj⟩ : ∃ o, l[j]? = some o := ⟨l[j]'(by omega), by simp⟩
          have hsj := StepsY.get m l 0 hs j oj hj hoj
          rw [Nat.zero_add] at hsj
          refine hsj.keep _ _ _ _ _ hne (fun hdi => ?_) (hp j hj hjl) heff hv
          have hlt : ∀ k, listed.getD k false = true → k < m := fun k hk => by
            rcases Nat.lt_or_ge k m with h2 | h2
            · exact h2
            · rcases Nat.lt_or_ge k l.length with h3 | h3
              · have h4 := hlo k h2 h3
                have h5 : k < listed.size := by omega
                simp [h5] at hk h4
                rw [h4] at hk; cases hk
              · have h5 : ¬ k < listed.size := by omega
                simp [h5] at hk
          have h7 := clos_listed l (fun k => listed.getD k false = true) (fun q hq k hk => hcl q (hlt q hq) hq k hk) l.length (depsOf l j) (fun k hk => hcl j hj hjl k hk) i hdi
          rw [hif] at h7
          cases h7
        · exact hv
      · refine getD_set_true ?_
        rcases Nat.decEq i j with hne | rfl
        · rw [getD_set_ne false hne] at hjl
          exact hcl j hj hjl k hk
        · exact hia k hk
      · have hne : i ≠ j := fun e => by
          subst e
          simp [show i < listed.size by omega] at hjf
        rw [getD_set_ne false hne] at hjf
        rw [upd_ne _ _ _ _ (Ne.symm hne)]
        exact hx0 j hj hjf
    have hwb : ∀ i oi, i < m → l[i]? = some oi → (∀ e ∈ oi.after, Region.binds .any e = true → listed.getD e.on false = true) → ∀ k, waitsB .any l.toArray i k = true → Φ k x w := by
      intro i oi him hoi' hia k hk
      obtain ⟨e, he, hbd, hon⟩ := waits_of hoi' hk
      have h2 := hia e he hbd
      rw [hon] at h2
      have hki : k < i := by
        have h1 := hla i (by omega)
        rw [if_pos him, hoi'] at h1
        simp only [Option.map_some, Option.getD_some, Array.all_eq_true_iff_forall_mem] at h1
        have h3 := h1 e he
        simp [hbd] at h3
        omega
      exact hp k (by omega) h2
    by_cases hpx : ∃ p, p ∈ pu ∧ listed.getD p false = false ∧ p ∈ Region.ready .any l.toArray listed
    · obtain ⟨p, hp1, hp2, hp3⟩ := hpx
      have hpm : p < m := (hpf p hp1).1
      obtain ⟨hiu, oi, hoi, hia⟩ := mem_ready.1 hp3
      have hoi' : l[p]? = some oi := by simpa using hoi
      obtain ⟨hpx, hpn⟩ := hpu p hp1
      obtain ⟨hwt, v, hv, hΦ⟩ := hpx oi hoi' x w (hwb p oi hpm hoi' hia)
      refine AnyTill.any (m := l.length) (S := fun _ => True) _ _ _ _ ?_
      refine AnyTill.firstFree hoi hsel (by omega) (fun _ _ _ h => h) n listed (F x) w (fun j oj hj hne hjl hw => ?_) hp3 (.inl ⟨hwt, fun w' _ => hv w'⟩) (.inr trivial) (AnyTill.of_any _ _ _ _ (hnext p oi v w hpm hoi' hp2 (fun k hk => ?_) hb (by unfold effX; rw [if_neg (by rw [hpn]; simp)]; exact Below.refl _ _) hΦ))
      · refine Region.free_spec hoi (hpf p hp1).2 j oj hj hne ?_ hw
        have hjl2 : j < l.length := by
          have := (Array.getElem?_eq_some_iff.1 hj).1
          simpa using this
        refine lstF_at l p j hjl2 (fun hjd => ?_)
        obtain ⟨e, he, hbd, hon⟩ := deps_mem hoi' hjd
        have h9 := hia e he hbd
        rw [hon] at h9
        have h8 : j < listed.size := by omega
        simp [h8] at hjl h9
        rw [h9] at hjl; cases hjl
      · obtain ⟨e, he, hbd, hon⟩ := deps_mem hoi' hk
        rw [← hon]; exact hia e he hbd
    by_cases hex : ∃ j, j < m ∧ listed.getD j false = false
    · obtain ⟨j0, hj0, hf0, hlt0⟩ := least_false _ m hex
      obtain ⟨o0, ho0⟩ : ∃ o, l[j0]? = some o := ⟨l[j0]'(by omega), by simp⟩
      have hr0 : j0 ∈ Region.ready .any l.toArray listed := by
        refine mem_ready.2 ⟨hun j0 hj0 hf0, o0, by simpa using ho0, fun e he hbd => hlt0 e.on ?_⟩
        have h1 := hla j0 (by omega)
        rw [if_pos hj0, ho0] at h1
        simp only [Option.map_some, Option.getD_some, Array.all_eq_true_iff_forall_mem] at h1
        have h2 := h1 e he
        simp [hbd] at h2
        exact h2
      refine ⟨fun h => absurd hr0 (by rw [h]; exact List.not_mem_nil), fun i hi => ?_⟩
      obtain ⟨hiu, oi, hoi, hia⟩ := mem_ready.1 hi
      have hoi' : l[i]? = some oi := by simpa using hoi
      have hil : i < l.length := (List.getElem?_eq_some_iff.1 hoi').1
      have him : i < m := by
        rcases Nat.lt_or_ge i m with h | h
        · exact h
        · have h1 := hla i hil
          rw [if_neg (Nat.not_lt.2 h)] at h1
          simp only [List.all_eq_true, List.mem_range, Bool.or_eq_true, Bool.and_eq_true, List.contains_iff_mem] at h1
          have hdi : ∀ k, k ∈ depsOf l i → listed.getD k false = true := fun k hk => by
            obtain ⟨e, he, hbd, hon⟩ := deps_mem hoi' hk
            rw [← hon]; exact hia e he hbd
          have hlt : ∀ k, listed.getD k false = true → k < m := fun k hk => by
            rcases Nat.lt_or_ge k m with h2 | h2
            · exact h2
            · rcases Nat.lt_or_ge k l.length with h3 | h3
              · have h4 := hlo k h2 h3
                have h5 : k < listed.size := by omega
                simp [h5] at hk h4
                rw [h4] at hk; cases hk
              · have h5 : ¬ k < listed.size := by omega
                simp [h5] at hk
          have hcs := clos_listed l (fun k => listed.getD k false = true) (fun j hj k hk => hcl j (hlt j hj) hj k hk) l.length (depsOf l i) hdi
          rcases h1 j0 hj0 with h2 | ⟨h2, h3⟩
          · have h4 := hcs j0 h2
            rw [hf0] at h4
            cases h4
          · exact absurd ⟨j0, h2, hf0, hr0⟩ hpx
      have hsi := StepsY.get m l 0 hs i oi him hoi'
      rw [Nat.zero_add] at hsi
      have hif : listed.getD i false = false := by
        have : i < listed.size := by omega
        simp [this] at hiu ⊢
        exact hiu
      refine wpOp_mono (fun a' w' hk => ?_) (hsi.step x w hb (hx0 i him hif) (hwb i oi him hoi' hia) (fun k hk => by
        cases hq : listed.getD k false
        · exact .inl (hx0 k hk hq)
        · exact .inr (hp k hk hq)))
      obtain ⟨v, rfl, hb', heff, hv⟩ := hk
      refine hnext i oi v w' him hoi' hif (fun k hk => ?_) hb' heff hv
      obtain ⟨e, he, hbd, hon⟩ := deps_mem hoi' hk
      rw [← hon]; exact hia e he hbd
    · have hall : ∀ j, j < m → listed.getD j false = true := fun j hj => by
        cases hq : listed.getD j false
        · exact absurd ⟨j, hj, hq⟩ hex
        · rfl
      have hl : listed = listedAt l.length m := by
        refine Array.ext (by simp [listedAt, hsz]; omega) (fun i h1 h2 => ?_)
        rcases Nat.lt_or_ge i m with h | h
        · have := hall i h
          simp [h1] at this
          simp [listedAt, h, this]
        · have := hlo i h (by omega)
          simp [h1] at this
          simp [listedAt, List.getElem_append, Nat.not_lt.2 h, this]
      subst hl
      exact wpAny_le (by omega) (hend x w hb (fun j hj => hp j hj (hall j hj)))

/-- The rule. -/
theorem wp_region_relyY {w0 : World} (I : World → Prop) (hI0 : I w0.drew) (pu sp : List Nat) (S : Nat → (Nat → Value) → World → World → Prop) (x0 : Nat → Value) (m d : Nat) (F : (Nat → Value) → Act) (Φ : Nat → (Nat → Value) → World → Prop) {id : Nat} {a : Act} (hN : l.length = m + d) (ha : a = F x0) (hm : P.follows .mixedOrders = true) (hlate : lateF l m pu = true) (hsel : Region.noSelect l.toArray = true) (hpu : ∀ p ∈ pu, PureX P l F Φ p ∧ sp.contains p = false) (hs : StepsY m P l Q F Φ S sp x0 I m l 0)
    (hend : ∀ x w, I w → (∀ j, j < m → Φ j x w) → wpAny P .any l.toArray (NoPanic Q) d (listedAt (m + d) m) (F x) w) : (Code.region id l.toArray true).wp P Q a w0 := by
  subst ha
  refine wp_region_noPanic (wp_region_any hm ?_)
  refine rely_anyY m pu hlate hsel hs hpu (fun x w h1 h2 => ?_) _ _ (List.range m) x0 _ (by simp) (fun k _ h => by simp [h]) (fun j hj _ => List.mem_range.2 hj) (by simp; omega) hI0 (fun j hj h => ?_) (fun j hj h => ?_) (fun _ _ _ => rfl)
  · rw [hN, Nat.add_sub_cancel_left]
    exact hend x w h1 h2
  · have : j < l.length := by omega
    simp [this] at h
  · have : j < l.length := by omega
    simp [this] at h
end
end Go.Proofs.Ytmlpiembglmggaa
