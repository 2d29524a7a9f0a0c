/-
  Texts H3 R4 IA R3.
-/
import Derived.Lib.Overlaps
import Derived.Lib.AppendZerosOnto
import Derived.Deep.RegionLaw
import Derived.Test.YtdihngkdhanhkaaGreatDoorZ05
import Derived.Test.YtdihngkdhanhkaaGreatDoorZ06
import Derived.Test.YtdihngkdhanhkaaGreatDoorZ09
import Derived.Test.YtdihngkdhanhkaaGreatDoorZ10
namespace Go.Proofs.YtdihngkdhanhkaaGreatDoor
open Go.RowKit

/-- A node's cells. -/
def ndc (x : Nd) : List Value := [txt (nP x), txt (nV x), .int .i64 (nR x), .int .i64 (nO x)]
def nds (l : List Nd) : List Value := l.flatMap ndc
theorem nds_length : ∀ l : List Nd, (nds l).length = 4 * l.length
  | [] => rfl
  | x :: r => by
    have := nds_length r
    unfold nds at *
    rw [List.flatMap_cons, List.length_append, this, List.length_cons]
    show 4 + _ = _
    omega
theorem nds_append (a b : List Nd) : nds (a ++ b) = nds a ++ nds b := by simp [nds]
theorem nds_one (x : Nd) : nds [x] = ndc x := by simp [nds]
theorem nds_get : ∀ (l : List Nd) (j k : Nat), j < l.length → k < 4 → (nds l)[4 * j + k]? = (ndc (l.getD j nd0))[k]?
  | [], j, _, h, _ => by simp at h
  | x :: r, j, k, h, hk => by
    have e : nds (x :: r) = ndc x ++ nds r := by simp [nds]
    rw [e]
    cases j with
    | zero =>
      rw [List.getElem?_append_left (by show _ < 4; omega)]
      simp
    | succ j =>
      rw [List.getElem?_append_right (by show 4 ≤ _; omega)]
      have := nds_get r j k (by simpa using h) hk
      rw [show 4 * (j + 1) + k - (ndc x).length = 4 * j + k from by show _ - 4 = _; omega, this]
      simp
theorem ndc_get (x : Nd) (k : Nat) (hk : k < 4) : (ndc x)[k]? = some ((ndc x).getD k undef) := by
  match k, hk with
  | 0, _ => rfl
  | 1, _ => rfl
  | 2, _ => rfl
  | 3, _ => rfl
theorem nds_cell (l : List Nd) : ∀ u ∈ nds l, u.oneCell' = true := by
  intro u hu
  unfold nds at hu
  obtain ⟨x, _, h⟩ := List.mem_flatMap.1 hu
  unfold ndc at h
  simp only [List.mem_cons, List.not_mem_nil, or_false] at h
  rcases h with rfl | rfl | rfl | rfl <;> rfl

/-- The slice value v reads as the nodes l; it lies below block B. Nil reads as none. -/
def RdNd (B : Nat) (w : World) (v : Value) (l : List Nd) : Prop :=
  ∃ A c, v = .slice A l.length c ∧ l.length ≤ c ∧ c ≤ maxLen ∧ (A = none → c = 0) ∧
    ∀ a, A = some a → (0 < l.length → a.block < B) ∧ ∀ j u, (nds l)[j]? = some u → w.cell? (a.add j) = some u
/-- The call owns the slice value v of nodes, from block 'base' on. -/
def OwnNd (e : TypeId) (w : World) (base : Nat) (v : Value) (l : List Nd) : Prop := w.ownsRow base e 4 v l.length (nds l)

theorem RdNd.keep {B : Nat} {w w' : World} {v : Value} {l : List Nd} (h : RdNd B w v l) (hk : ∀ p : Addr, p.block < B → w'.cell? p = w.cell? p) : RdNd B w' v l := by
  obtain ⟨A, c, hv, hc, hm, hn, hr⟩ := h
  refine ⟨A, c, hv, hc, hm, hn, fun a ha => ⟨(hr a ha).1, fun j u hu => ?_⟩⟩
  have hj : j < (nds l).length := (List.getElem?_eq_some_iff.1 hu).1
  rw [nds_length] at hj
  rw [hk _ (by rw [addr_block]; exact (hr a ha).1 (by omega))]
  exact (hr a ha).2 j u hu
theorem RdNd.below {B : Nat} {w w' : World} {v : Value} {l : List Nd} (h : RdNd B w v l) (hb : Below B w w') : RdNd B w' v l := h.keep fun _ hp => hb.cell hp
theorem RdNd.more {B B' : Nat} {w : World} {v : Value} {l : List Nd} (h : RdNd B w v l) (hB : B ≤ B') : RdNd B' w v l := by
  obtain ⟨A, c, hv, hc, hm, hn, hr⟩ := h
  exact ⟨A, c, hv, hc, hm, hn, fun a ha => ⟨fun h0 => Nat.lt_of_lt_of_le ((hr a ha).1 h0) hB, (hr a ha).2⟩⟩
theorem RdNd.nil (B : Nat) (w : World) : RdNd B w (.slice none 0 0) [] := ⟨none, 0, rfl, Nat.le_refl _, Nat.zero_le _, fun _ => rfl, fun _ h => by cases h⟩
theorem RdNd.shape {B : Nat} {w : World} {v : Value} {l : List Nd} (h : RdNd B w v l) : ∃ A c, v = .slice A l.length c ∧ l.length ≤ c ∧ c ≤ maxLen := by
  obtain ⟨A, c, hv, h1, h2, _⟩ := h
  exact ⟨A, c, hv, h1, h2⟩
/-- The cells of a node: where there is one, the address is there. -/
theorem RdNd.at_ {B : Nat} {w : World} {A : Option Addr} {n c : Nat} {l : List Nd} (h : RdNd B w (.slice A n c) l) (j : Nat) (hj : j < l.length) :
    ∃ a, A = some a ∧ w.cell? (a.add (j * 4)) = some (txt (nP (l.getD j nd0))) ∧ w.cell? ⟨(a.add (j * 4)).block, (a.add (j * 4)).off + 1, none⟩ = some (txt (nV (l.getD j nd0))) ∧
      w.cell? ⟨(a.add (j * 4)).block, (a.add (j * 4)).off + 2, none⟩ = some (.int .i64 (nR (l.getD j nd0))) ∧ w.cell? ⟨(a.add (j * 4)).block, (a.add (j * 4)).off + 3, none⟩ = some (.int .i64 (nO (l.getD j nd0))) := by
  obtain ⟨A', c', hv, hc, hm, hn, hr⟩ := h
  injection hv with h1 h2 h3
  subst h1 h2 h3
  cases A with
  | none => have := hn rfl; omega
  | some a =>
    have hg : ∀ k, k < 4 → w.cell? ((a.add (j * 4)).add k) = some ((ndc (l.getD j nd0)).getD k undef) := by
      intro k hk
      rw [Addr.add_add, show j * 4 = 4 * j from Nat.mul_comm _ _]
      exact (hr a rfl).2 (4 * j + k) _ ((nds_get l j k hj hk).trans (ndc_get (l.getD j nd0) k hk))
    exact ⟨a, rfl, hg 0 (by decide), hg 1 (by decide), hg 2 (by decide), hg 3 (by decide)⟩

theorem OwnNd.rd {e : TypeId} {w : World} {base : Nat} {v : Value} {l : List Nd} (h : OwnNd e w base v l) : RdNd w.heap.size w v l := by
  rcases h.2 with ⟨rfl, hn⟩ | ⟨g, cap, cur, rfl, hb, hg, hnc, hm, _, _⟩
  · have : l = [] := List.eq_nil_of_length_eq_zero hn
    subst this
    exact RdNd.nil _ _
  · have hlt : g < w.heap.size := (Array.getElem?_eq_some_iff.1 hg).1
    refine ⟨some ⟨g, 0, none⟩, cap, rfl, hnc, hm, fun h => (by cases h), fun a ha => ?_⟩
    cases ha
    exact ⟨fun _ => hlt, fun j u hu => World.ownsRow.cells (g := g) h rfl j _ hu⟩
theorem OwnNd.below {e : TypeId} {w w' : World} {base B : Nat} {v : Value} {l : List Nd} (h : OwnNd e w base v l) (hb : Below B w w') (hB : w.heap.size ≤ B) : OwnNd e w' base v l := by
  refine ⟨h.1, ?_⟩
  rcases h.2 with hn | ⟨g, cap, cur, rfl, hg0, hg, r⟩
  · exact .inl hn
  · have hlt : g < w.heap.size := (Array.getElem?_eq_some_iff.1 hg).1
    exact .inr ⟨g, cap, cur, rfl, hg0, by rw [hb.block g (by omega)]; exact hg, r⟩
theorem OwnNd.base {e : TypeId} {w : World} {base base' : Nat} {v : Value} {l : List Nd} (h : OwnNd e w base v l) (hb : base' ≤ base) : OwnNd e w base' v l := by
  refine ⟨h.1, ?_⟩
  rcases h.2 with hn | ⟨g, cap, cur, rfl, hg0, r⟩
  · exact .inl hn
  · exact .inr ⟨g, cap, cur, rfl, by omega, r⟩
theorem OwnNd.nil (e : TypeId) (w : World) (base : Nat) : OwnNd e w base (.slice none 0 0) [] := World.ownsRow_nil w base e 4
theorem OwnNd.alloc {e : TypeId} {w : World} {base : Nat} {v : Value} {l : List Nd} (h : OwnNd e w base v l) (o : Obj) : OwnNd e (w.alloc o) base v l := World.ownsRow.alloc h o
theorem OwnNd.grown {e : TypeId} {w w' : World} {base : Nat} {v : Value} {l : List Nd} (h : OwnNd e w base v l) (hg : w.grownBy w' v.ownBlock) (hb : base ≤ w.heap.size) : Below base w w' :=
  (Below.refl base w).grown hg hb fun k hk => (World.ownsRow.lt h k hk).1
theorem OwnNd.empty (e : TypeId) (w : World) (base : Nat) (hb : base ≤ w.heap.size) : OwnNd e (w.alloc (.cells #[] e)) base (.slice (some ⟨w.heap.size, 0, none⟩) 0 0) [] :=
  World.ownsRow_made w #[] 0 hb (by decide) rfl

def ndz : Value := .agg #[.string ⟨#[]⟩, .string ⟨#[]⟩, .int .i64 0, .int .i64 0]
/-- append of nodes onto nodes that are owned. -/
theorem wpList_appNd {P : Program} {w : World} {ops : Array Oper} {rest : List Oper} {o : Oper} {a : Act} {Q : Exit → Act → World → Prop}
    (hgd : o.guard = none) (s x : Operand) (t : TypeId) (ho : o.op = .call { callee := .builtin .append, args := #[s, x], argTypes := #[t, t] })
    (e : TypeId) (i : TypeInfo) (ht : P.underlying t = some (.slice e)) (hi : P.info? e = some i) (hz : i.zero = some ndz) (hsize : i.size = 4) (hby : i.bytes = 48)
    (base B : Nat) (v vx : Value) (l m : List Nd) (hs : a.eval s = v) (hown : OwnNd e w base v l) (hx : a.eval x = vx) (hr : RdNd B w vx m)
    (hlen : l.length + m.length ≤ 1000000) (hbase : base ≤ w.heap.size)
    (h : ∀ v' w', OwnNd e w' base v' (l ++ m) → Below base w w' → w.grownBy w' v.ownBlock → wpList P ops Q rest (a.put o.dst v') w') : wpList P ops Q (o :: rest) a w := by
  obtain ⟨A, c, hv, hc, hm, hn, hrr⟩ := hr
  cases A with
  | none =>
    have h0 : c = 0 := hn rfl
    have h1 : m.length = 0 := by omega
    have h2 : m = [] := List.eq_nil_of_length_eq_zero h1
    subst h0 h2
    refine wpList_append_own_none hgd s x t ho base e i 4 ht hi v l.length (nds l) hs hown (by rw [hx, hv]; rfl) ?_
    exact h v w (by rw [List.append_nil]; exact hown) (Below.refl _ _) ⟨rfl, rfl, rfl, Nat.le_refl _, fun _ _ _ => rfl⟩
  | some ad =>
    refine wpList_append_own w hgd s x t ho base e i ndz 4 48 ht hi hz hsize hby rfl (by decide) v l.length (nds l) hs hown ad m.length c (nds m) (by rw [hx, hv]) (by rw [nds_length]; omega) (hrr ad rfl).2 (nds_cell m) (by unfold maxLen; omega) (by omega) hbase ?_
    intro v' w' h1 h2 _
    refine h v' w' ?_ (OwnNd.grown hown h2 hbase) h2
    unfold OwnNd
    rw [List.length_append, nds_append]
    exact h1

theorem RdNd.node {B : Nat} {w : World} {a : Addr} {n c : Nat} {l : List Nd} (h : RdNd B w (.slice (some a) n c) l) (j : Nat) (hj : j < l.length) : ∀ k v, (ndc (l.getD j nd0))[k]? = some v → w.cell? ((a.add (j * 4)).add k) = some v := by
  intro k v hv
  have hk : k < 4 := (List.getElem?_eq_some_iff.1 hv).1
  obtain ⟨A', c', e, hc, hm, hn, hr⟩ := h
  injection e with h1 h2 h3
  subst h1 h2 h3
  rw [Addr.add_add, show j * 4 = 4 * j from Nat.mul_comm _ _]
  exact (hr a rfl).2 (4 * j + k) v ((nds_get l j k hj hk).trans hv)
end Go.Proofs.YtdihngkdhanhkaaGreatDoor
namespace Go.Proofs.YtdihngkdhanhkaaGreatDoor
open Go.RowKit

theorem writtenE_take (C z : List Value) (k : Nat) (hk : k ≤ C.length) : (C.take k ++ (z ++ C.drop (k + z.length))).take k = C.take k := by
  rw [List.take_left']
  rw [List.length_take]
  omega
theorem writtenE_len (C z : List Value) (k : Nat) (hk : k + z.length ≤ C.length) : (C.take k ++ (z ++ C.drop (k + z.length))).length = C.length := by
  simp only [List.length_append, List.length_take, List.length_drop]
  omega
theorem writtenE_more (C z : List Value) (k : Nat) (hk : k + z.length ≤ C.length) : (C.take k ++ (z ++ C.drop (k + z.length))).take (k + z.length) = C.take k ++ z := by
  rw [← List.append_assoc, List.take_left']
  rw [List.length_append, List.length_take]
  omega
theorem takeE3 (A B D : List Value) (k : Nat) : (A ++ (B ++ D)).take (A.length + B.length + k) = A ++ (B ++ D.take k) := by
  rw [← List.append_assoc, show A.length + B.length = (A ++ B).length by simp, List.take_length_add_append, List.append_assoc]
theorem shapeE_blk {w : World} {g : Nat} {cs : List Value} {t : TypeId} (h : Blk w g cs t) : w.shape? g = some (t, cs.length) := by
  unfold Blk at h
  unfold World.shape?
  rw [h]
  simp
theorem drewE_cells (b : Nat) : ∀ (vs : List Value) (o : Nat) (w : World), (w.setCells b o vs).drew = w.drew.setCells b o vs
  | [], _, _ => rfl
  | v :: r, o, w => by
    rw [World.setCells, World.setCells, drewE_cells b r]
    rfl
section
variable {α : Type} {E : RowK α}
theorem OwnE.of {e : TypeId} {w : World} {base g cap : Nat} {l : List α} (cur : List Value) (hb : Blk w g cur e) (h2 : base ≤ g) (h4 : l.length ≤ cap) (h5 : cap ≤ maxLen) (h6 : cur.length = cap * E.k) (h7 : cur.take (l.length * E.k) = rowsE E l) :
    OwnE E e w base (.slice (some ⟨g, 0, none⟩) l.length cap) l := by
  refine ⟨?_, .inr ⟨g, cap, cur.toArray, rfl, h2, hb, h4, h5, ?_, ?_⟩⟩
  · rw [rowsE_length]
  · simpa using h6
  · simpa using h7
/-- What an edit of a row of one's own comes to; the call answers a row of its own. -/
def EditsE (E : RowK α) (e : TypeId) (v : Value) (base : Nat) (l' : List α) (W : World) (r : Ending) (w' : World) : Prop := ∃ u, r = .returned u ∧ OwnE E e w' base u l' ∧ Below base W w' ∧ ∀ k, k < W.heap.size → v.ownBlock ≠ some k → w'.heap[k]? = W.heap[k]?
def OwnsE (E : RowK α) (e : TypeId) (l : List α) (w : World) (r : Ending) (w' : World) : Prop := ∃ u, r = .returned u ∧ OwnE E e w' w.heap.size u l ∧ Below w.heap.size w w'
theorem eraseE_rows (l : List α) (i : Nat) : rowsE E (l.eraseIdx i) = rowsE E (l.take i) ++ rowsE E (l.drop (i + 1)) := by
  rw [List.eraseIdx_eq_take_drop_succ, rowsE_append]
/-- What is inserted. -/
def insE (l : List α) (x : α) (m : Nat) : List α := l.take m ++ x :: l.drop m
theorem insE_rows (l : List α) (x : α) (m : Nat) : rowsE E (insE l x m) = rowsE E (l.take m) ++ (E.enc x ++ rowsE E (l.drop m)) := by
  unfold insE
  rw [rowsE_append, show x :: l.drop m = [x] ++ l.drop m from rfl, rowsE_append, rowsE_one]
theorem insE_len (l : List α) (x : α) (m : Nat) (hm : m ≤ l.length) : (insE l x m).length = l.length + 1 := by
  unfold insE
  simp only [List.length_append, List.length_take, List.length_cons, List.length_drop]
  omega
/-- A block of another kind is not the row's. -/
theorem OwnE.not_blk {e : TypeId} {w : World} {base : Nat} {v : Value} {l : List α} (h : OwnE E e w base v l) {g : Nat} {cs : List Value} {t : TypeId} (hb : Blk w g cs t) (ht : t ≠ e) : v.ownBlock ≠ some g := by
  rintro he
  rcases h.2 with ⟨rfl, _⟩ | ⟨g', cap, cur, rfl, h2, h3, _⟩
  · cases he
  · injection he with he
    subst he
    unfold Blk at hb
    rw [hb] at h3
    injection h3 with h3
    injection h3 with h4 h5
    exact ht h5
/-- append of a whole row, which may be none. -/
theorem wpList_appF {P : Program} {w : World} {ops : Array Oper} {rest : List Oper} {o : Oper} {a : Act} {Q : Exit → Act → World → Prop}
    (hgd : o.guard = none) (s x : Operand) (t : TypeId) (ho : o.op = .call { callee := .builtin .append, args := #[s, x], argTypes := #[t, t] })
    (e : TypeId) (bytes : Nat) (ht : P.underlying t = some (.slice e)) (hk : KindOf P e E bytes)
    (base B : Nat) (v vx : Value) (l m : List α) (hs : a.eval s = v) (hown : OwnE E e w base v l) (hx : a.eval x = vx) (hr : RdE E B w vx m)
    (hlen : (l.length + m.length) * bytes ≤ 140737488355328) (h63 : l.length + m.length ≤ 9223372036854775807) (hbase : base ≤ w.heap.size)
    (h : ∀ v' w', OwnE E e w' base v' (l ++ m) → Below base w w' → w.grownBy w' v.ownBlock → wpList P ops Q rest (a.put o.dst v') w') : wpList P ops Q (o :: rest) a w := by
  obtain ⟨i, z, hi, hz, hsize, hby, hzs⟩ := hk
  obtain ⟨A, c, hv, hc, hm, hn, hrr⟩ := hr
  cases A with
  | none =>
    have h0 : c = 0 := hn rfl
    have h1 : m.length = 0 := by omega
    have h2 : m = [] := List.eq_nil_of_length_eq_zero h1
    subst h0 h2
    refine wpList_append_own_none hgd s x t ho base e i E.k ht hi v l.length (rowsE E l) hs hown (by rw [hx, hv]; rfl) ?_
    exact h v w (by rw [List.append_nil]; exact hown) (Below.refl _ _) ⟨rfl, rfl, rfl, Nat.le_refl _, fun _ _ _ => rfl⟩
  | some ad =>
    refine wpList_append_own w hgd s x t ho base e i z E.k bytes ht hi hz hsize hby hzs E.pos v l.length (rowsE E l) hs hown ad m.length c (rowsE E m) (by rw [hx, hv]) (rowsE_length E m) (hrr ad rfl).2 (rowsE_cell E m) (by unfold maxLen; omega) hlen hbase ?_
    intro v' w' h1 h2 _
    refine h v' w' ?_ (OwnE.grown hown h2 hbase) h2
    unfold OwnE
    rw [List.length_append, rowsE_append]
    exact h1
end

section
variable {α : Type} {E : RowK α}
/-- One cell of a thing is written. -/
theorem rowsE_setk (l : List α) (i k : Nat) (v : Value) (y : α) (hi : i < l.length) (hk : k < E.k) (hy : E.enc y = (E.enc (l.getD i E.d)).set k v) : (rowsE E l).set (i * E.k + k) v = rowsE E (l.set i y) := by
  rw [rowsE_set l i y hi, hy]
  have e1 : rowsE E l = (rowsE E l).take (i * E.k) ++ (E.enc (l.getD i E.d) ++ (rowsE E l).drop (i * E.k + E.k)) := by
    have h := rowsE_set (E := E) l i (l.getD i E.d) hi
    rw [← h]
    congr 1
    refine List.ext_getElem (by simp) fun j h1 h2 => ?_
    rw [List.getElem_set]
    split
    · rename_i hij
      subst hij
      rw [List.getD_eq_getElem?_getD, List.getElem?_eq_getElem hi]
      rfl
    · rfl
  have hmul : i * E.k ≤ l.length * E.k := Nat.mul_le_mul_right _ (by omega)
  have hl : ((rowsE E l).take (i * E.k)).length = i * E.k := by
    rw [List.length_take, rowsE_length]
    omega
  have hx : (E.enc (l.getD i E.d)).length = E.k := E.len _
  conv => lhs; rw [e1]
  rw [List.set_append, if_neg (by omega), List.set_append, if_pos (by rw [hl, hx]; omega), hl, Nat.add_sub_cancel_left]
theorem takeE_set (A : List Value) (j n : Nat) (v : Value) : (A.set j v).take n = (A.take n).set j v := by
  refine List.ext_getElem (by simp) fun i h1 h2 => ?_
  simp [List.getElem_set]
theorem getD_setE (l : List α) (i : Nat) (y d : α) (hi : i < l.length) : (l.set i y).getD i d = y := by
  rw [List.getD_eq_getElem?_getD, List.getElem?_set_self hi]
  rfl
theorem OwnE.cellK {e : TypeId} {w : World} {base n cap g : Nat} {l : List α} (h : OwnE E e w base (.slice (some ⟨g, 0, none⟩) n cap) l) (i k : Nat) (hi : i < l.length) (hk : k < E.k) :
    w.cell? ⟨g, i * E.k + k, none⟩ = some ((E.enc (l.getD i E.d)).getD k undef) ∧ w.frozen? ⟨g, i * E.k + k, none⟩ = false := by
  obtain ⟨cur, hb, h2, h4, h5, h6, h7, hn⟩ := h.block
  refine ⟨?_, hb.frozen _⟩
  have hr := h.rd
  subst hn
  have := hr.node i hi k _ (enc_get E _ k hk)
  rw [Addr.add_add] at this
  have hadd : (⟨g, 0, none⟩ : Addr).add (i * E.k + k) = ⟨g, i * E.k + k, none⟩ := by unfold Addr.add; split <;> simp_all
  rw [hadd] at this
  exact this
theorem OwnE.storedK {e : TypeId} {w : World} {base n cap g : Nat} {l : List α} (h : OwnE E e w base (.slice (some ⟨g, 0, none⟩) n cap) l) (i k : Nat) (hi : i < l.length) (hk : k < E.k) (v : Value) (y : α) (hy : E.enc y = (E.enc (l.getD i E.d)).set k v) :
    OwnE E e (w.setCell ⟨g, i * E.k + k, none⟩ v) base (.slice (some ⟨g, 0, none⟩) n cap) (l.set i y) ∧ Below base w (w.setCell ⟨g, i * E.k + k, none⟩ v) := by
  obtain ⟨cur, hb, h2, h4, h5, h6, h7, hn⟩ := h.block
  have hcl : cur.toList.length = cap * E.k := by rw [Array.length_toList, h6]
  refine ⟨?_, (Below.refl _ _).setCell h2 _⟩
  · have := OwnE.of (E := E) (e := e) (base := base) (cap := cap) (l := l.set i y) (cur.toList.set (i * E.k + k) v) (hb.set (i * E.k + k) v) h2 (by rw [List.length_set]; exact h4) h5 (by rw [List.length_set]; exact hcl)
      (by rw [List.length_set, takeE_set _ _ _ _, h7]; exact rowsE_setk l i k v y hi hk hy)
    rw [List.length_set, ← hn] at this
    exact this
end
theorem run_copy_rowE {P : Program} (w : World) (dT sT ty elem : TypeId) (k : Nat) (b o dLen dCap : Nat) (a : Addr) (sLen sCap : Nat) (cs : List Value)
    (hu : P.underlying dT = some (.slice elem)) (hs : (P.info? elem).map (·.size) = some k) (hn : cs.length = Nat.min sLen dLen * k)
    (hsrc : ∀ j v, cs[j]? = some v → w.cell? (a.add j) = some v) (hc : ∀ j, j < cs.length → (w.cell? ⟨b, o + j, none⟩).isSome = true ∧ w.frozen? ⟨b, o + j, none⟩ = false) (h1 : ∀ v ∈ cs, v.oneCell' = true) :
    (Builtin.copy_ #[dT, sT] ty #[.slice (some ⟨b, o, none⟩) dLen dCap, .slice (some a) sLen sCap]).run P w = .ok (goInt (Nat.min sLen dLen)) (w.setCells b o cs) := by
  have hl := run_loadCells_list (P := P) w a cs hsrc
  have hst := run_storeCells_cells (P := P) b o cs 0 w (fun j hj => (hc j hj).1) (fun j hj => (hc j hj).2) h1
  rw [Nat.add_zero] at hst
  cases hq : P.info? elem with
  | none => simp [hq] at hs
  | some i =>
    have hi : i.size = k := by simpa [hq] using hs
    rw [hn] at hl
    simp [Builtin.copy_, run_underlying hu, Builtin.lenOf, Builtin.firstCells, sizeOf, typeInfo, hq, hi, hl, hst]
theorem wpList_copyE_run {P : Program} {w : World} {ops : Array Oper} {rest : List Oper} {o : Oper} {a : Act} {Q : Exit → Act → World → Prop} (hgd : o.guard = none) (d s : Operand) (t t' : TypeId)
    (ho : o.op = .call { callee := .builtin .copy, args := #[d, s], argTypes := #[t, t'] }) (v u : Value) (hd : a.eval d = v) (hs : a.eval s = u) {v' : Value} {w' : World} (hr : (Builtin.copy_ #[t, t'] o.type #[v, u]).run P w = .ok v' w')
    (h : wpList P ops Q rest (a.put o.dst v') w') : wpList P ops Q (o :: rest) a w := by
  refine wpList_plain hgd fun K hK => ?_
  unfold Oper.wp execOp
  simp only [ho, resolve, invoke, builtin, Sem.run_bind, Sem.run_pure, Result.andThen_ok, List.map_toArray, List.map_cons, List.map_nil, hd, hs, hr]
  exact hK _ _ h
theorem step_copyE_run {P : Program} {ops : Array Oper} {o : Oper} {a : Act} {w : World} {K : Act → World → Prop} {Q : Exit → Act → World → Prop} {E : Prop}
    (hg : o.guard = none) (d x : Operand) (dT sT : TypeId) (hop : o.op = Op.call { callee := Callee.builtin Builtin.copy, args := #[d, x], argTypes := #[dT, sT] })
    (v u : Value) (hd : a.eval d = v) (hx : a.eval x = u) {v' : Value} {w' : World} (hr : (Builtin.copy_ #[dT, sT] o.type #[v, u]).run P w = .ok v' w') (hK : K (a.put o.dst v') w') :
    if Region.wanted o (yielded ops a.tmps) = true then Oper.wp P o a w K Q else E := by
  have hw : Region.wanted o (yielded ops a.tmps) = true := by simp [Region.wanted, hg]
  rw [if_pos hw]
  unfold Oper.wp
  simp [execOp, hop, resolve, invoke, builtin, hd, hx, hr, Result.andThen]
  exact hK
/-- clear of one thing. -/
theorem run_clear_rowE {P : Program} (w : World) (t e ty : TypeId) (i : TypeInfo) (z : Value) (cs : List Value) (k : Nat) (ht : P.underlying t = some (.slice e)) (hi : P.info? e = some i) (hz : i.zero = some z) (g o c : Nat)
    (hzc : (Builtin.zeroCells z.cells 1).toList = cs) (hk : cs.length = k) (h1 : ∀ v ∈ cs, v.oneCell' = true)
    (hc : ∀ j, j < k → (w.cell? ⟨g, o + j, none⟩).isSome = true ∧ w.frozen? ⟨g, o + j, none⟩ = false) :
    (Builtin.clear_ #[t] ty #[.slice (some ⟨g, o, none⟩) 1 c]).run P w = .ok (.tuple #[]) (w.setCells g o cs) := by
  have hzv : (zeroValue e).run P w = .ok z w := by simp [zeroValue, typeInfo, hi, hz]
  have hst := run_storeCells_cells (P := P) g o cs 0 w (fun j hj => (hc j (by omega)).1) (fun j hj => (hc j (by omega)).2) h1
  simp only [Nat.add_zero] at hst
  simp [Builtin.clear_, run_underlying ht, hzv, hzc, hst]
theorem wpList_clearE_run {P : Program} {w : World} {ops : Array Oper} {rest : List Oper} {o : Oper} {a : Act} {Q : Exit → Act → World → Prop} (hgd : o.guard = none) (s : Operand) (t : TypeId)
    (ho : o.op = .call { callee := .builtin .clear, args := #[s], argTypes := #[t] }) (v : Value) (hs : a.eval s = v) {v' : Value} {w' : World} (hr : (Builtin.clear_ #[t] o.type #[v]).run P w = .ok v' w')
    (h : wpList P ops Q rest (a.put o.dst v') w') : wpList P ops Q (o :: rest) a w := by
  refine wpList_plain hgd fun K hK => ?_
  unfold Oper.wp execOp
  simp only [ho, resolve, invoke, builtin, Sem.run_bind, Sem.run_pure, Result.andThen_ok, List.map_toArray, List.map_cons, List.map_nil, hs, hr]
  exact hK _ _ h
end Go.Proofs.YtdihngkdhanhkaaGreatDoor
namespace Go.Proofs.YtdihngkdhanhkaaGreatDoor
open Go.RowKit

/-- A reply with the slice of its names, as a row's element. -/
abbrev RpV := Int × Int × Int × List UInt8 × Int × SlT
def rpv (x : Rp) (s : SlT) : RpV := (pC x, pQ x, pE x, pV x, pR x, s)
def rv0 : RpV := rpv rp0 sl0
def rvc (x : RpV) : List Value := [.int .i64 x.1, .int .i64 x.2.1, .int .i64 x.2.2.1, txt x.2.2.2.1, .int .i64 x.2.2.2.2.1, slv x.2.2.2.2.2]
theorem rvc_one (x : RpV) : ∀ u ∈ rvc x, u.oneCell' = true := by
  intro u hu
  unfold rvc at hu
  simp only [List.mem_cons, List.not_mem_nil, or_false] at hu
  rcases hu with rfl | rfl | rfl | rfl | rfl | rfl <;> rfl
def RvK : RowK RpV := { enc := rvc, k := 6, d := rv0, len := fun _ => rfl, one := rvc_one, pos := by decide }
/-- Replies with the slices of their names. -/
def rvs (l : List Rp) (ss : List SlT) : List RpV := List.zipWith rpv l ss
theorem rvs_len {l : List Rp} {ss : List SlT} (h : ss.length = l.length) : (rvs l ss).length = l.length := by simp [rvs, h]
theorem rvs_at {l : List Rp} {ss : List SlT} (h : ss.length = l.length) (j : Nat) (hj : j < l.length) : (rvs l ss).getD j rv0 = rpv (l.getD j rp0) (ss.getD j sl0) := by
  unfold rvs
  simp [List.getD_eq_getElem?_getD, List.getElem?_zipWith, List.getElem?_eq_getElem hj, List.getElem?_eq_getElem (show j < ss.length by omega)]
theorem rvs_append {l m : List Rp} {ss tt : List SlT} (h : ss.length = l.length) : rvs (l ++ m) (ss ++ tt) = rvs l ss ++ rvs m tt := by
  unfold rvs
  rw [List.zipWith_append h.symm]
/-- A row of replies, and their names, read. -/
def RdRp (B : Nat) (w : World) (v : Value) (l : List Rp) : Prop :=
  ∃ ss : List SlT, ss.length = l.length ∧ RdE RvK B w v (rvs l ss) ∧ ∀ j, j < l.length → RdS B w (slv (ss.getD j sl0)) (pN (l.getD j rp0))
theorem RdRp.below {B : Nat} {w w' : World} {v : Value} {l : List Rp} (h : RdRp B w v l) (hb : Below B w w') : RdRp B w' v l := by
  obtain ⟨ss, h1, h2, h3⟩ := h
  exact ⟨ss, h1, h2.below hb, fun j hj => (h3 j hj).below hb⟩
theorem RdRp.more {B B' : Nat} {w : World} {v : Value} {l : List Rp} (h : RdRp B w v l) (hB : B ≤ B') : RdRp B' w v l := by
  obtain ⟨ss, h1, h2, h3⟩ := h
  exact ⟨ss, h1, h2.more hB, fun j hj => (h3 j hj).more hB⟩
theorem RdRp.nil (B : Nat) (w : World) : RdRp B w (.slice none 0 0) [] := ⟨[], rfl, RdE.nil _ _, fun _ h => by cases h⟩
theorem RdRp.shape {B : Nat} {w : World} {v : Value} {l : List Rp} (h : RdRp B w v l) : ∃ A c, v = .slice A l.length c ∧ l.length ≤ c ∧ c ≤ maxLen := by
  obtain ⟨ss, h1, h2, _⟩ := h
  have h3 := h2.shape
  rw [rvs_len h1] at h3
  exact h3
/-- The cells of one reply of a row. -/
theorem RdRp.at_ {B : Nat} {w : World} {A : Option Addr} {n c : Nat} {l : List Rp} (h : RdRp B w (.slice A n c) l) (j : Nat) (hj : j < l.length) :
    ∃ a s, A = some a ∧ RdS B w (slv s) (pN (l.getD j rp0)) ∧ w.cell? (a.add (j * 6)) = some (.int .i64 (pC (l.getD j rp0))) ∧ w.cell? ⟨(a.add (j * 6)).block, (a.add (j * 6)).off + 1, none⟩ = some (.int .i64 (pQ (l.getD j rp0))) ∧
      w.cell? ⟨(a.add (j * 6)).block, (a.add (j * 6)).off + 2, none⟩ = some (.int .i64 (pE (l.getD j rp0))) ∧ w.cell? ⟨(a.add (j * 6)).block, (a.add (j * 6)).off + 3, none⟩ = some (txt (pV (l.getD j rp0))) ∧
      w.cell? ⟨(a.add (j * 6)).block, (a.add (j * 6)).off + 4, none⟩ = some (.int .i64 (pR (l.getD j rp0))) ∧ w.cell? ⟨(a.add (j * 6)).block, (a.add (j * 6)).off + 5, none⟩ = some (slv s) := by
  obtain ⟨ss, h1, h2, h3⟩ := h
  obtain ⟨a, ha, hc⟩ := h2.cells j (by rw [rvs_len h1]; exact hj)
  refine ⟨a, ss.getD j sl0, ha, h3 j hj, ?_⟩
  have e : (rvs l ss).getD j RvK.d = rpv (l.getD j rp0) (ss.getD j sl0) := rvs_at h1 j hj
  rw [e] at hc
  exact ⟨hc 0 (by decide), hc 1 (by decide), hc 2 (by decide), hc 3 (by decide), hc 4 (by decide), hc 5 (by decide)⟩
/-- A row of replies of the call's own; their names lie below. -/
def OwnRp (e : TypeId) (w : World) (base B : Nat) (v : Value) (l : List Rp) : Prop :=
  ∃ ss : List SlT, ss.length = l.length ∧ OwnE RvK e w base v (rvs l ss) ∧ ∀ j, j < l.length → RdS B w (slv (ss.getD j sl0)) (pN (l.getD j rp0))
theorem OwnRp.rd {e : TypeId} {w : World} {base B : Nat} {v : Value} {l : List Rp} (h : OwnRp e w base B v l) (hb : B ≤ w.heap.size) : RdRp w.heap.size w v l := by
  obtain ⟨ss, h1, h2, h3⟩ := h
  exact ⟨ss, h1, h2.rd, fun j hj => (h3 j hj).more hb⟩
theorem OwnRp.below {e : TypeId} {w w' : World} {base B0 B : Nat} {v : Value} {l : List Rp} (h : OwnRp e w base B0 v l) (hb : Below B w w') (hB : w.heap.size ≤ B) (h0 : B0 ≤ w.heap.size) : OwnRp e w' base B0 v l := by
  obtain ⟨ss, h1, h2, h3⟩ := h
  exact ⟨ss, h1, h2.below hb hB, fun j hj => (h3 j hj).below (hb.mono (Nat.le_trans h0 hB))⟩
theorem OwnRp.empty (e : TypeId) (w : World) (base B : Nat) (hb : base ≤ w.heap.size) : OwnRp e (w.alloc (.cells #[] e)) base B (.slice (some ⟨w.heap.size, 0, none⟩) 0 0) [] :=
  ⟨[], rfl, OwnE.empty (E := RvK) e w base hb, fun _ h => by cases h⟩
/-- A realm's cells. -/
def rmc (t : Int) (vN vS vW vL : Value) : List Value := [vN, .int .i64 t, vS, vW, vL]
/-- A realm in memory. -/
structure RdRm (B : Nat) (w : World) (vN vS vW vL : Value) (r : Rm) : Prop where
  n : RdNd B w vN (mN r)
  s : RdE SeK B w vS (mS r)
  t : RdE WaK B w vW (mW r)
  l : RdRp B w vL (mL r)
theorem RdRm.below {B : Nat} {w w' : World} {vN vS vW vL : Value} {r : Rm} (h : RdRm B w vN vS vW vL r) (hb : Below B w w') : RdRm B w' vN vS vW vL r := ⟨h.n.below hb, h.s.below hb, h.t.below hb, h.l.below hb⟩
theorem RdRm.more {B B' : Nat} {w : World} {vN vS vW vL : Value} {r : Rm} (h : RdRm B w vN vS vW vL r) (hB : B ≤ B') : RdRm B' w vN vS vW vL r := ⟨h.n.more hB, h.s.more hB, h.t.more hB, h.l.more hB⟩
theorem rmc_all (t : Int) (A0 A1 A2 A3 : Option Addr) (n0 n1 n2 n3 c0 c1 c2 c3 : Nat) : (rmc t (.slice A0 n0 c0) (.slice A1 n1 c1) (.slice A2 n2 c2) (.slice A3 n3 c3)).toArray.all (·.oneCell') = true := by
  rw [Array.all_eq_true_iff_forall_mem]
  intro v hv
  simp only [rmc, List.mem_toArray, List.mem_cons, List.not_mem_nil, or_false] at hv
  rcases hv with rfl | rfl | rfl | rfl | rfl <;> rfl
theorem rowRmP : ∃ d, Tryz.prog.underlying 33 = some d ∧ d.isRow = true := ⟨_, Tryz.underlying33, rfl⟩
theorem szRmP : (Tryz.prog.info? 33).map (·.size) = some 5 := by kernel_rfl
theorem zeroRmP : (Tryz.prog.info? 33).map (·.zero) = some (some (.agg (rmc 0 (.slice none 0 0) (.slice none 0 0) (.slice none 0 0) (.slice none 0 0)).toArray)) := by kernel_rfl
end Go.Proofs.YtdihngkdhanhkaaGreatDoor
namespace Go.Proofs.YtdihngkdhanhkaaGreatDoor
open Go.RowKit

theorem cell_spot {w : World} {a : Addr} {v : Value} (h : w.cell? a = some v) : a.spot = none := by
  unfold World.cell? at h
  split at h
  · cases hs : a.spot with
    | none => rfl
    | some k => rw [hs] at h; simp at h
  · cases h
theorem cell_heap {w w' : World} (p : Addr) (h : w'.heap[p.block]? = w.heap[p.block]?) : w'.cell? p = w.cell? p := by
  unfold World.cell?
  rw [h]
/-- A row lies apart from a block one of whose cells holds what no cell of the row holds, and which is too short ahead of it and behind it. -/
theorem RdE.apart {α : Type} {E : RowK α} {B : Nat} {w : World} {a : Addr} {n c : Nat} {l : List α} (h : RdE E B w (.slice (some a) n c) l) (hl : 0 < l.length) {g : Nat} {cs : List Value} {t : TypeId} (hx : Blk w g cs t)
    (hk : ∀ off, off + E.k ≤ cs.length → ∃ i, i < E.k ∧ ∀ x : α, (E.enc x)[i]? ≠ cs[off + i]?) : a.block ≠ g := by
  intro e
  have hn := h.node 0 hl
  rw [Nat.zero_mul] at hn
  have ha0 : a.add 0 = a := by cases a; rfl
  rw [ha0] at hn
  obtain ⟨x, hxx⟩ : ∃ x, l.getD 0 E.d = x := ⟨_, rfl⟩
  rw [hxx] at hn
  have hs : a.spot = none := by
    have h0 := hn 0 _ (enc_get E x 0 E.pos)
    rw [ha0] at h0
    exact cell_spot h0
  have hc : ∀ i, i < E.k → w.cell? (a.add i) = cs[a.off + i]? := by
    intro i _
    rw [show a.add i = ⟨g, a.off + i, none⟩ from by
      cases a
      simp only at e hs
      subst e hs
      unfold Addr.add
      split
      · rename_i h0; subst h0; rfl
      · rfl]
    exact hx.cell _
  have hlen : a.off + E.k ≤ cs.length := by
    have hp := E.pos
    have h1 := hn (E.k - 1) _ (enc_get E x (E.k - 1) (by omega))
    rw [hc (E.k - 1) (by omega)] at h1
    have := (List.getElem?_eq_some_iff.1 h1).1
    omega
  obtain ⟨i, hi, hne⟩ := hk a.off hlen
  refine hne x ?_
  rw [enc_get E x i hi, ← hc i hi]
  exact (hn i _ (enc_get E x i hi)).symm
/-- The row stays where a block apart from it is written. -/
theorem RdE.but {α : Type} {E : RowK α} {B : Nat} {w w' : World} {v : Value} {l : List α} (h : RdE E B w v l) {g : Nat} {cs : List Value} {t : TypeId} (hx : Blk w g cs t)
    (hk : ∀ off, off + E.k ≤ cs.length → ∃ i, i < E.k ∧ ∀ x : α, (E.enc x)[i]? ≠ cs[off + i]?) (ho : ∀ k, k ≠ g → w'.heap[k]? = w.heap[k]?) : RdE E B w' v l := by
  have h' := h
  obtain ⟨A, c, rfl, hc, hm, hn, hr⟩ := h
  refine ⟨A, c, rfl, hc, hm, hn, fun a ha => ⟨(hr a ha).1, fun j u hu => ?_⟩⟩
  subst ha
  have hl : 0 < l.length := by
    cases l with
    | nil => simp [rowsE] at hu
    | cons x r => simp
  have hne := h'.apart hl hx hk
  have e : w'.cell? (a.add j) = w.cell? (a.add j) := cell_heap _ (by rw [addr_block]; exact ho _ hne)
  rw [e]
  exact (hr a rfl).2 j u hu
end Go.Proofs.YtdihngkdhanhkaaGreatDoor
