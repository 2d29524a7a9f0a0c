/-
  Rows of structs in memory, of any kind: rows that a slice reads as, rows of a call's own; append, load, cut, write. Each theorem states its own conditions.
-/
import Derived.Test.YteckenlbelgknaaMs
import Derived.Test.YteckenlbelgknaaOJ
import Derived.Deep.MidRow
namespace Go.Proofs.Yteckenlbelgknaa
open Go.RowKit

/-- How things of a kind lie in memory: so many cells each. -/
structure RowK (α : Type) where
  enc : α → List Value
  k : Nat
  d : α
  len : ∀ x, (enc x).length = k
  one : ∀ x, ∀ u ∈ enc x, u.oneCell' = true
  pos : 0 < k

section
variable {α : Type} (E : RowK α)

def rowsE (l : List α) : List Value := l.flatMap E.enc
theorem rowsE_nil : rowsE E [] = [] := rfl
theorem rowsE_length : ∀ l : List α, (rowsE E l).length = l.length * E.k
  | [] => by simp [rowsE]
  | x :: r => by
    have := rowsE_length r
    unfold rowsE at *
    rw [List.flatMap_cons, List.length_append, this, List.length_cons, E.len, Nat.succ_mul, Nat.add_comm]
theorem rowsE_append (a b : List α) : rowsE E (a ++ b) = rowsE E a ++ rowsE E b := by simp [rowsE]
theorem rowsE_one (x : α) : rowsE E [x] = E.enc x := by simp [rowsE]
theorem rowsE_cell (l : List α) : ∀ u ∈ rowsE E l, u.oneCell' = true := by
  intro u hu
  obtain ⟨x, _, h⟩ := List.mem_flatMap.1 hu
  exact E.one x u h
theorem rowsE_get : ∀ (l : List α) (j i : Nat), j < l.length → i < E.k → (rowsE E l)[j * E.k + i]? = (E.enc (l.getD j E.d))[i]?
  | [], j, _, h, _ => by simp at h
  | x :: r, j, i, h, hi => by
    have e : rowsE E (x :: r) = E.enc x ++ rowsE E r := by simp [rowsE]
    rw [e]
    cases j with
    | zero =>
      rw [List.getElem?_append_left (by rw [E.len]; omega)]
      simp
    | succ j =>
      rw [List.getElem?_append_right (by rw [E.len, Nat.succ_mul]; omega)]
      have := rowsE_get r j i (by simpa using h) hi
      rw [show (j + 1) * E.k + i - (E.enc x).length = j * E.k + i from by rw [E.len, Nat.succ_mul]; omega, this]
      simp
theorem enc_get (x : α) (i : Nat) (hi : i < E.k) : (E.enc x)[i]? = some ((E.enc x).getD i undef) := by
  rw [List.getD_eq_getElem?_getD, List.getElem?_eq_getElem (by rw [E.len]; exact hi)]
  rfl
theorem enc_all (x : α) : (E.enc x).toArray.all (·.oneCell') = true := by
  rw [Array.all_eq_true_iff_forall_mem]
  intro v hv
  exact E.one x v (by simpa using hv)

/-- The slice value v reads as the things l; it lies below block B. Nil reads as none. -/
def RdE (B : Nat) (w : World) (v : Value) (l : List α) : Prop :=
  ∃ A c, v = .slice A l.length c ∧ l.length ≤ c ∧ c ≤ maxLen ∧ (A = none → c = 0) ∧
    ∀ a, A = some a → (0 < l.length → a.block < B) ∧ ∀ j u, (rowsE E l)[j]? = some u → w.cell? (a.add j) = some u
/-- The call owns the slice value v of things, from block 'base' on. -/
def OwnE (e : TypeId) (w : World) (base : Nat) (v : Value) (l : List α) : Prop := w.ownsRow base e E.k v l.length (rowsE E l)
end

section
variable {α : Type} {E : RowK α}
theorem RdE.keep {B : Nat} {w w' : World} {v : Value} {l : List α} (h : RdE E B w v l) (hk : ∀ p : Addr, p.block < B → w'.cell? p = w.cell? p) : RdE E B w' v l := by
  obtain ⟨A, c, hv, hc, hm, hn, hr⟩ := h
  refine ⟨A, c, hv, hc, hm, hn, fun a ha => ⟨(hr a ha).1, fun j u hu => ?_⟩⟩
  have hj : j < (rowsE E l).length := (List.getElem?_eq_some_iff.1 hu).1
  rw [rowsE_length] at hj
  have h0 : 0 < l.length := by
    cases hl : l.length with
    | zero => rw [hl, Nat.zero_mul] at hj; omega
    | succ n => omega
  rw [hk _ (by rw [addr_block]; exact (hr a ha).1 h0)]
  exact (hr a ha).2 j u hu
theorem RdE.below {B : Nat} {w w' : World} {v : Value} {l : List α} (h : RdE E B w v l) (hb : Below B w w') : RdE E B w' v l := h.keep fun _ hp => hb.cell hp
theorem RdE.more {B B' : Nat} {w : World} {v : Value} {l : List α} (h : RdE E B w v l) (hB : B ≤ B') : RdE E B' w v l := by
  obtain ⟨A, c, hv, hc, hm, hn, hr⟩ := h
  exact ⟨A, c, hv, hc, hm, hn, fun a ha => ⟨fun h0 => Nat.lt_of_lt_of_le ((hr a ha).1 h0) hB, (hr a ha).2⟩⟩
/-- Both: carried over a growth, to its end. -/
theorem RdE.on {B : Nat} {w w' : World} {v : Value} {l : List α} (h : RdE E B w v l) (hb : Below B w w') : RdE E w'.heap.size w' v l ∨ w'.heap.size < B := by
  by_cases hs : B ≤ w'.heap.size
  · exact .inl ((h.below hb).more hs)
  · exact .inr (by omega)
theorem RdE.nil (B : Nat) (w : World) : RdE E B w (.slice none 0 0) [] := ⟨none, 0, rfl, Nat.le_refl _, Nat.zero_le _, fun _ => rfl, fun _ h => by cases h⟩
theorem RdE.shape {B : Nat} {w : World} {v : Value} {l : List α} (h : RdE E B w v l) : ∃ A c, v = .slice A l.length c ∧ l.length ≤ c ∧ c ≤ maxLen := by
  obtain ⟨A, c, hv, h1, h2, _⟩ := h
  exact ⟨A, c, hv, h1, h2⟩
/-- Where there is one, the address is there, and its cells are. -/
theorem RdE.cells {B : Nat} {w : World} {A : Option Addr} {n c : Nat} {l : List α} (h : RdE E B w (.slice A n c) l) (j : Nat) (hj : j < l.length) :
    ∃ a, A = some a ∧ ∀ i, i < E.k → w.cell? ((a.add (j * E.k)).add i) = some ((E.enc (l.getD j E.d)).getD i undef) := by
  obtain ⟨A', c', hv, hc, hm, hn, hr⟩ := h
  injection hv with h1 h2 h3
  subst h1 h2 h3
  cases A with
  | none => have := hn rfl; omega
  | some a =>
    refine ⟨a, rfl, fun i hi => ?_⟩
    rw [Addr.add_add]
    exact (hr a rfl).2 (j * E.k + i) _ ((rowsE_get E l j i hj hi).trans (enc_get E _ i hi))
theorem RdE.node {B : Nat} {w : World} {a : Addr} {n c : Nat} {l : List α} (h : RdE E B w (.slice (some a) n c) l) (j : Nat) (hj : j < l.length) : ∀ i v, (E.enc (l.getD j E.d))[i]? = some v → w.cell? ((a.add (j * E.k)).add i) = some v := by
  intro i v hv
  have hi : i < E.k := by
    have := (List.getElem?_eq_some_iff.1 hv).1
    rwa [E.len] at this
  obtain ⟨a', e, hc⟩ := h.cells j hj
  injection e with e
  subst e
  rw [hc i hi, ← enc_get E _ i hi]
  exact hv
theorem RdE.take {B : Nat} {w : World} {A : Option Addr} {n c : Nat} {l : List α} (h : RdE E B w (.slice A n c) l) (k : Nat) (hk : k ≤ n) : RdE E B w (.slice A k c) (l.take k) := by
  obtain ⟨A', c', hv, hc, hm, hn, hr⟩ := h
  injection hv with h1 h2 h3
  subst h1 h2 h3
  have hl : (l.take k).length = k := by simp; omega
  refine ⟨A, c, by rw [hl], by rw [hl]; omega, hm, hn, fun a ha => ⟨fun h0 => (hr a ha).1 (by omega), fun j u hu => (hr a ha).2 j u ?_⟩⟩
  have e : rowsE E l = rowsE E (l.take k) ++ rowsE E (l.drop k) := by rw [← rowsE_append, List.take_append_drop]
  have hj := (List.getElem?_eq_some_iff.1 hu).1
  rw [e, List.getElem?_append_left hj]
  exact hu
theorem RdE.drop {B : Nat} {w : World} {a : Addr} {n c : Nat} {l : List α} (h : RdE E B w (.slice (some a) n c) l) (k : Nat) (hk : k ≤ n) : RdE E B w (.slice (if c = k then some a else some (a.add (k * E.k))) (n - k) (c - k)) (l.drop k) := by
  obtain ⟨A', c', hv, hc, hm, hn, hr⟩ := h
  injection hv with h1 h2 h3
  subst h1 h2 h3
  have hl : (l.drop k).length = l.length - k := List.length_drop
  refine ⟨_, c - k, by rw [hl], by omega, by omega, fun hnone => ?_, fun x hx => ⟨fun h0 => ?_, fun j u hu => ?_⟩⟩
  · split at hnone <;> cases hnone
  · have h1 := (hr a rfl).1 (by rw [hl] at h0; omega)
    split at hx
    · injection hx with hx; rw [← hx]; exact h1
    · injection hx with hx; rw [← hx, addr_block]; exact h1
  · have hj := (List.getElem?_eq_some_iff.1 hu).1
    rw [rowsE_length, hl] at hj
    split at hx
    · rename_i hck
      have : l.length - k = 0 := by omega
      rw [this, Nat.zero_mul] at hj; omega
    · injection hx with hx
      rw [← hx, Addr.add_add]
      refine (hr a rfl).2 (k * E.k + j) u ?_
      have e : rowsE E l = rowsE E (l.take k) ++ rowsE E (l.drop k) := by rw [← rowsE_append, List.take_append_drop]
      have e2 : (rowsE E (l.take k)).length = k * E.k := by rw [rowsE_length, List.length_take, Nat.min_eq_left hk]
      rw [e, List.getElem?_append_right (by omega), e2, Nat.add_sub_cancel_left]
      exact hu
theorem RdE.ofBlk {w : World} {g : Nat} {x : α} {e : TypeId} (h : Blk w g (E.enc x) e) : RdE E (g + 1) w (.slice (some ⟨g, 0, none⟩) 1 1) [x] := by
  refine ⟨some ⟨g, 0, none⟩, 1, rfl, Nat.le_refl _, by decide, fun h => (by cases h), fun a ha => ?_⟩
  cases ha
  refine ⟨fun _ => Nat.lt_succ_self _, fun j u hu => ?_⟩
  rw [rowsE_one] at hu
  have hadd : (⟨g, 0, none⟩ : Addr).add j = ⟨g, j, none⟩ := by unfold Addr.add; split <;> simp_all
  rw [hadd]
  exact (h.cell j).trans hu
/-- A slice of one thing, built. -/
theorem RdE.one (w : World) (e : TypeId) (x : α) : RdE E (w.heap.size + 1) (w.alloc (.cells (E.enc x).toArray e)) (.slice (some ⟨w.heap.size, 0, none⟩) 1 1) [x] :=
  RdE.ofBlk (heap_alloc_new w _)

theorem OwnE.rd {e : TypeId} {w : World} {base : Nat} {v : Value} {l : List α} (h : OwnE E e w base v l) : RdE E w.heap.size w v l := by
  rcases h.2 with ⟨rfl, hn⟩ | ⟨g, cap, cur, rfl, hb, hg, hnc, hm, _, _⟩
  · have : l = [] := List.eq_nil_of_length_eq_zero hn
    subst this
    exact RdE.nil _ _
  · have hlt : g < w.heap.size := (Array.getElem?_eq_some_iff.1 hg).1
    refine ⟨some ⟨g, 0, none⟩, cap, rfl, hnc, hm, fun h => (by cases h), fun a ha => ?_⟩
    cases ha
    exact ⟨fun _ => hlt, fun j u hu => World.ownsRow.cells (g := g) h rfl j _ hu⟩
theorem OwnE.below {e : TypeId} {w w' : World} {base B : Nat} {v : Value} {l : List α} (h : OwnE E e w base v l) (hb : Below B w w') (hB : w.heap.size ≤ B) : OwnE E e w' base v l := by
  refine ⟨h.1, ?_⟩
  rcases h.2 with hn | ⟨g, cap, cur, rfl, hg0, hg, r⟩
  · exact .inl hn
  · have hlt : g < w.heap.size := (Array.getElem?_eq_some_iff.1 hg).1
    exact .inr ⟨g, cap, cur, rfl, hg0, by rw [hb.block g (by omega)]; exact hg, r⟩
theorem OwnE.base {e : TypeId} {w : World} {base base' : Nat} {v : Value} {l : List α} (h : OwnE E e w base v l) (hb : base' ≤ base) : OwnE E e w base' v l := by
  refine ⟨h.1, ?_⟩
  rcases h.2 with hn | ⟨g, cap, cur, rfl, hg0, r⟩
  · exact .inl hn
  · exact .inr ⟨g, cap, cur, rfl, by omega, r⟩
theorem OwnE.nil (e : TypeId) (w : World) (base : Nat) : OwnE E e w base (.slice none 0 0) [] := World.ownsRow_nil w base e E.k
theorem OwnE.alloc {e : TypeId} {w : World} {base : Nat} {v : Value} {l : List α} (h : OwnE E e w base v l) (o : Obj) : OwnE E e (w.alloc o) base v l := World.ownsRow.alloc h o
theorem OwnE.grown {e : TypeId} {w w' : World} {base : Nat} {v : Value} {l : List α} (h : OwnE E e w base v l) (hg : w.grownBy w' v.ownBlock) (hb : base ≤ w.heap.size) : Below base w w' :=
  (Below.refl base w).grown hg hb fun k hk => (World.ownsRow.lt h k hk).1
theorem OwnE.empty (e : TypeId) (w : World) (base : Nat) (hb : base ≤ w.heap.size) : OwnE E e (w.alloc (.cells #[] e)) base (.slice (some ⟨w.heap.size, 0, none⟩) 0 0) [] :=
  World.ownsRow_made w #[] 0 hb (by decide) (by simp)
theorem OwnE.inBlock {e : TypeId} {w : World} {base : Nat} {v : Value} {l : List α} (h : OwnE E e w base v l) (hn : 0 < l.length) : ∃ g cap, v = .slice (some ⟨g, 0, none⟩) l.length cap ∧ l.length ≤ cap ∧ base ≤ g ∧ g < w.heap.size := by
  rcases h.2 with ⟨_, h1⟩ | ⟨g, cap, cur, h1, h2, h3, h4, _⟩
  · omega
  · exact ⟨g, cap, h1, h4, h2, (Array.getElem?_eq_some_iff.1 h3).1⟩
theorem OwnE.block {e : TypeId} {w : World} {base n cap g : Nat} {l : List α} (h : OwnE E e w base (.slice (some ⟨g, 0, none⟩) n cap) l) : ∃ cur : Array Value, Blk w g cur.toList e ∧ base ≤ g ∧ l.length ≤ cap ∧ cap ≤ maxLen ∧ cur.size = cap * E.k ∧ cur.toList.take (l.length * E.k) = rowsE E l ∧ n = l.length := by
  rcases h.2 with ⟨h1, _⟩ | ⟨g', cap', cur, h1, h2, h3, h4, h5, h6, h7⟩
  · simp at h1
  · injection h1 with h1 hn hc
    injection h1 with h1
    injection h1 with h1
    subst h1 hc
    refine ⟨cur, ?_, h2, h4, h5, h6, h7, hn⟩
    unfold Blk
    simpa using h3
theorem rowsE_cut (l : List α) (i : Nat) (hi : i < l.length) : (rowsE E l).take (i * E.k) = rowsE E (l.take i) ∧ (rowsE E l).drop (i * E.k + E.k) = rowsE E (l.drop (i + 1)) := by
  have e : l = l.take i ++ (l[i] :: l.drop (i + 1)) := by
    rw [← List.drop_eq_getElem_cons hi, List.take_append_drop]
  have e1 : rowsE E l = rowsE E (l.take i) ++ (E.enc l[i] ++ rowsE E (l.drop (i + 1))) := by
    have h := congrArg (rowsE E) e
    rw [rowsE_append, show l[i] :: l.drop (i + 1) = [l[i]] ++ l.drop (i + 1) from rfl, rowsE_append, rowsE_one] at h
    exact h
  have hl : (rowsE E (l.take i)).length = i * E.k := by
    rw [rowsE_length, List.length_take, Nat.min_eq_left (by omega)]
  rw [e1]
  refine ⟨List.take_left' hl, ?_⟩
  rw [← List.drop_drop, List.drop_left' hl]
  exact List.drop_left' (E.len _)
theorem rowsE_set (l : List α) (i : Nat) (x : α) (hi : i < l.length) : rowsE E (l.set i x) = (rowsE E l).take (i * E.k) ++ (E.enc x ++ (rowsE E l).drop (i * E.k + E.k)) := by
  rw [(rowsE_cut l i hi).1, (rowsE_cut l i hi).2, List.set_eq_take_append_cons_drop, if_pos hi, rowsE_append, show x :: l.drop (i + 1) = [x] ++ l.drop (i + 1) from rfl, rowsE_append, rowsE_one]
theorem setCells_otherE (g : Nat) : ∀ (vs : List Value) (o : Nat) (w : World) (k : Nat), k ≠ g → (w.setCells g o vs).heap[k]? = w.heap[k]?
  | [], _, _, _, _ => rfl
  | v :: r, o, w, k, h => by
    show ((w.setCell ⟨g, o, none⟩ v).setCells g (o + 1) r).heap[k]? = _
    rw [setCells_otherE g r (o + 1) _ k h, heap_setCell_other w ⟨g, o, none⟩ k v h]
theorem setCells_sizeE (g : Nat) : ∀ (vs : List Value) (o : Nat) (w : World), (w.setCells g o vs).heap.size = w.heap.size
  | [], _, _ => rfl
  | v :: r, o, w => by
    show ((w.setCell ⟨g, o, none⟩ v).setCells g (o + 1) r).heap.size = _
    rw [setCells_sizeE g r (o + 1) _]
    simp [World.setCell]
theorem below_setCellsE {B g : Nat} (hBg : B ≤ g) {w0 : World} : ∀ (vs : List Value) (o : Nat) (w : World), Below B w0 w → Below B w0 (w.setCells g o vs)
  | [], _, _, h => h
  | v :: r, o, w, h => below_setCellsE hBg r (o + 1) (w.setCell ⟨g, o, none⟩ v) (h.setCell hBg v)
theorem take_midE (A X B C : List Value) (m n : Nat) (hA : A = C.take m) (hB : B = C.drop (m + X.length)) (hm : m + X.length ≤ n) (hC : n ≤ C.length) : (A ++ (X ++ B)).take n = (C.take n).take m ++ (X ++ (C.take n).drop (m + X.length)) := by
  have hAl : A.length = m := by rw [hA, List.length_take]; omega
  rw [List.take_append, List.take_append, hAl, List.take_of_length_le (by omega), List.take_of_length_le (by omega), hA, List.take_take, Nat.min_eq_left (by omega), hB, List.drop_take, Nat.sub_sub]
/-- A thing is written over another one. -/
theorem OwnE.stored {e : TypeId} {w : World} {base n cap g : Nat} {l : List α} (h : OwnE E e w base (.slice (some ⟨g, 0, none⟩) n cap) l) (i : Nat) (hi : i < l.length) (x : α) :
    OwnE E e (w.setCells g (i * E.k) (E.enc x)) base (.slice (some ⟨g, 0, none⟩) n cap) (l.set i x) ∧ w.there g (i * E.k) E.k ∧ Below base w (w.setCells g (i * E.k) (E.enc x)) := by
  obtain ⟨cur, hb, h2, h4, h5, h6, h7, hn⟩ := h.block
  have hcl : cur.toList.length = cap * E.k := by rw [Array.length_toList, h6]
  have hx : (E.enc x).length = E.k := E.len x
  have hmul : i * E.k + E.k ≤ l.length * E.k := by rw [← Nat.succ_mul]; exact Nat.mul_le_mul_right _ hi
  have hmul2 : l.length * E.k ≤ cap * E.k := Nat.mul_le_mul_right _ h4
  have hs := hb.setCells (E.enc x) (i * E.k) (by rw [hcl, hx]; omega)
  refine ⟨⟨?_, .inr ⟨g, cap, (cur.toList.take (i * E.k) ++ (E.enc x ++ cur.toList.drop (i * E.k + (E.enc x).length))).toArray, ?_, h2, hs, ?_, h5, ?_, ?_⟩⟩, ?_, ?_⟩
  · rw [rowsE_length]
  · rw [List.length_set, hn]
  · rw [List.length_set]; exact h4
  · simp only [List.size_toArray, List.length_append, List.length_take, List.length_drop, hcl, hx]
    omega
  · rw [List.length_set, rowsE_set l i x hi, ← h7]
    have := take_midE _ (E.enc x) _ cur.toList (i * E.k) (l.length * E.k) rfl rfl (by rw [hx]; omega) (by rw [hcl]; omega)
    rw [hx] at this ⊢
    exact this
  · intro j hj
    have hlt : i * E.k + j < cur.toList.length := by rw [hcl]; omega
    exact ⟨by rw [hb.cell, List.getElem?_eq_getElem hlt]; rfl, hb.frozen _⟩
  · exact below_setCellsE h2 _ _ _ (Below.refl _ _)
end

/-- A struct is read, wherever it lies. -/
theorem run_load_rowE {P : Program} {w : World} (ty : TypeId) (ad : Addr) (cs : List Value) (hc : ∀ j v, cs[j]? = some v → w.cell? (ad.add j) = some v) (d : TypeDesc) (hu : P.underlying ty = some d) (hd : d.isRow = true) (hi : (P.info? ty).map (·.size) = some cs.length) :
    (loadVar ty ad).run P w = .ok (.agg cs.toArray) w := by
  have hl : (loadCells ad cs.length).run P w = .ok cs.toArray w := run_loadCells_list (P := P) w ad cs hc
  cases hq : P.info? ty with
  | none => simp [hq] at hi
  | some i =>
    have hs : i.size = cs.length := by simpa [hq] using hi
    have hagg : (isAgg ty).run P w = .ok true w := by
      unfold isAgg
      rw [Sem.run_bind, run_underlying hu w]
      cases d <;> first | rfl | cases hd
    simp [loadVar, Sem.run_bind, hagg, sizeOf, typeInfo, hq, hs, hl]
theorem wpList_load_rowE {P : Program} {w : World} {ops : Array Oper} {rest : List Oper} {o : Oper} {a : Act} {Q : Exit → Act → World → Prop} (hgd : o.guard = none) (ty : TypeId) (x : Operand) (ho : o.op = .load ty x)
    (ad : Addr) (hx : a.eval x = .pointer (some ad)) (cs : List Value) (hc : ∀ j v, cs[j]? = some v → w.cell? (ad.add j) = some v) (d : TypeDesc) (hu : P.underlying ty = some d) (hd : d.isRow = true) (hi : (P.info? ty).map (·.size) = some cs.length)
    (h : wpList P ops Q rest (a.put o.dst (.agg cs.toArray)) w) : wpList P ops Q (o :: rest) a w := by
  refine wpList_plain hgd fun _ hK => ?_
  unfold Oper.wp execOp
  simp only [ho, hx, Instr.loadAt, Instr.sureAddr, Sem.run_bind, Sem.run_pure, Result.andThen_ok, run_load_rowE ty ad cs hc d hu hd hi]
  exact hK _ _ h

section
variable {P : Program} (w : World)
/-- append onto a row that is owned: the row's block is the old one or a new one. -/
theorem run_append_orE (base : Nat) (t ty e : TypeId) (i : TypeInfo) (z : Value) (size bytes : Nat) (ht : P.underlying t = some (.slice e)) (hi : P.info? e = some i) (hz : i.zero = some z)
    (hsize : i.size = size) (hby : i.bytes = bytes) (hzs : z.cells.size = size) (hsz : 0 < size)
    (v : Value) (n : Nat) (xs : List Value) (hown : w.ownsRow base e size v n xs)
    (a : Addr) (m c : Nat) (news : List Value) (hl : news.length = m * size) (hnews : ∀ j u, news[j]? = some u → w.cell? (a.add j) = some u) (h1 : ∀ u ∈ news, u.oneCell' = true)
    (h63 : n + m ≤ maxLen) (hbytes : (n + m) * bytes ≤ 140737488355328) (hbase : base ≤ w.heap.size) (hm : 0 < m) :
    ∃ v' w', (Builtin.append_ #[t, t] ty #[v, .slice (some a) m c]).run P w = .ok v' w' ∧ w'.ownsRow base e size v' (n + m) (xs ++ news) ∧ w.grownBy w' v.ownBlock ∧
      (v'.ownBlock = v.ownBlock ∨ ∃ k, v'.ownBlock = some k ∧ w.heap.size ≤ k) := by
  obtain ⟨v', w', hr, g1, g2, _⟩ := run_append_own (P := P) w base t ty e i z size bytes ht hi hz hsize hby hzs hsz v n xs hown a m c news hl hnews h1 h63 hbytes hbase
  refine ⟨v', w', hr, g1, g2, ?_⟩
  subst hsize
  subst hby
  have hsmall : n + m ≤ 9223372036854775807 := by simp only [maxLen] at h63; omega
  rcases hown.2 with ⟨rfl, rfl⟩ | ⟨g, cap, cur, rfl, hbg, hg, hnc, hcm, hcs, htake⟩
  · have hr2 := run_append_nil (P := P) w t ty e i z ht hi hz a m c news hl hnews (by omega) (by omega) (by have hb := hbytes; simp only [Nat.zero_add] at hb; omega)
    rw [hr] at hr2
    injection hr2 with e1 _
    right
    exact ⟨w.heap.size, by rw [e1]; rfl, Nat.le_refl _⟩
  · by_cases hroom : n + m ≤ cap
    · have hfit : n * i.size + news.length ≤ cur.size := by rw [hl, hcs, ← Nat.add_mul]; exact Nat.mul_le_mul_right _ hroom
      have hr2 := run_append_room (P := P) w t ty e i ht hi g n cap cur hg a m c news hl hnews h1 hroom hfit
      rw [hr] at hr2
      injection hr2 with e1 _
      left
      rw [e1]; rfl
    · have holds : ∀ j u, xs[j]? = some u → w.cell? ((⟨g, 0, none⟩ : Addr).add j) = some u := hown.cells (g := g) rfl
      have hr2 := run_append_grow (P := P) w t ty e i z ht hi hz ⟨g, 0, none⟩ n cap xs hown.1 holds a m c news hl hnews (by omega) (by omega) (growslice_fits (by omega) hbytes)
      rw [hr] at hr2
      injection hr2 with e1 _
      right
      exact ⟨w.heap.size, by rw [e1]; rfl, Nat.le_refl _⟩
end
/-- A kind's type: its zero value, its cells, its bytes. -/
def KindOf {α : Type} (P : Program) (e : TypeId) (E : RowK α) (bytes : Nat) : Prop := ∃ i z, P.info? e = some i ∧ i.zero = some z ∧ i.size = E.k ∧ i.bytes = bytes ∧ z.cells.size = E.k
theorem kind_of {α : Type} {P : Program} {e : TypeId} {E : RowK α} {bytes : Nat} {z : Value} (h : (P.info? e).map (fun i => (i.zero, i.size, i.bytes)) = some (some z, E.k, bytes)) (hz : z.cells.size = E.k) : KindOf P e E bytes := by
  cases hi : P.info? e with
  | none => rw [hi] at h; simp at h
  | some i =>
    rw [hi] at h
    simp at h
    exact ⟨i, z, hi, h.1, h.2.1, h.2.2, hz⟩
/-- append of things onto things that are owned: what stays, and where the row lies. -/
theorem wpList_appE {α : Type} {E : RowK α} {P : Program} {w : World} {ops : Array Oper} {rest : List Oper} {o : Oper} {a : Act} {Q : Exit → Act → World → Prop}
    (hgd : o.guard = none) (s x : Operand) (t : TypeId) (ho : o.op = .call { callee := .builtin .append, args := #[s, x], argTypes := #[t, t] })
    (e : TypeId) (bytes : Nat) (ht : P.underlying t = some (.slice e)) (hk : KindOf P e E bytes)
    (base B : Nat) (v vx : Value) (l m : List α) (hs : a.eval s = v) (hown : OwnE E e w base v l) (hx : a.eval x = vx) (hr : RdE E B w vx m) (hm0 : 0 < m.length)
    (hlen : (l.length + m.length) * bytes ≤ 140737488355328) (h63 : l.length + m.length ≤ 9223372036854775807) (hbase : base ≤ w.heap.size)
    (h : ∀ v' w', OwnE E e w' base v' (l ++ m) → Below base w w' → w.grownBy w' v.ownBlock → (v'.ownBlock = v.ownBlock ∨ ∃ k, v'.ownBlock = some k ∧ w.heap.size ≤ k) → wpList P ops Q rest (a.put o.dst v') w') : wpList P ops Q (o :: rest) a w := by
  obtain ⟨i, z, hi, hz, hsize, hby, hzs⟩ := hk
  obtain ⟨A, c, hv, hc, hm, hn, hrr⟩ := hr
  cases A with
  | none => have h0 : c = 0 := hn rfl; omega
  | some ad =>
    refine wpList_plain hgd fun K hK => ?_
    obtain ⟨v', w', hrun, h1, h2, h3⟩ := run_append_orE (P := P) w base t o.type e i z E.k bytes ht hi hz hsize hby hzs E.pos v l.length (rowsE E l) hown ad m.length c (rowsE E m) (rowsE_length E m) (hrr ad rfl).2 (rowsE_cell E m) (by unfold maxLen; omega) hlen hbase hm0
    unfold Oper.wp execOp
    simp only [ho, resolve, invoke, builtin, Sem.run_bind, Sem.run_pure, Result.andThen_ok, List.map_toArray, List.map_cons, List.map_nil, hs, hx, hv, hrun]
    refine hK _ _ (h v' w' ?_ (OwnE.grown hown h2 hbase) h2 h3)
    unfold OwnE
    rw [List.length_append, rowsE_append]
    exact h1
/-- A row of one's own beside another one that grew. -/
theorem OwnE.beside {α β : Type} {E : RowK α} {F : RowK β} {e f : TypeId} {w w' : World} {base : Nat} {v u v' : Value} {l : List α} {m : List β} (h : OwnE E e w base v l) (_hm : OwnE F f w base u m) (hg : w.grownBy w' u.ownBlock) (hne : v.ownBlock = none ∨ v.ownBlock ≠ u.ownBlock) : OwnE E e w' base v l := by
  have _ := v'
  exact World.ownsRow.kept h hg hne
end Go.Proofs.Yteckenlbelgknaa
