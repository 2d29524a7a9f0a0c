/-
  Rows of structs of any kind: copy, clear, append of a whole row; how a row of one's own is written. Each theorem states its own conditions.
-/
import Derived.Test.YteckenlbelgknaaR1
import Derived.Lib.Overlaps
import Derived.Lib.AppendZerosOnto
import Derived.Deep.RegionLaw
namespace Go.Proofs.Yteckenlbelgknaa
open Go.RowKit

theorem writtenE_take (C z : List Value) (k : Nat) (hk : k ≤ C.length) : (C.take k ++ (z ++ C.drop (k + z.length))).take k = C.take k := by
  rw [List.take_left']
  rw [List.length_take]
  omega
theorem writtenE_len (C z : List Value) (k : Nat) (hk : k + z.length ≤ C.length) : (C.take k ++ (z ++ C.drop (k + z.length))).length = C.length := by
  simp only [List.length_append, List.length_take, List.length_drop]
  omega
theorem writtenE_more (C z : List Value) (k : Nat) (hk : k + z.length ≤ C.length) : (C.take k ++ (z ++ C.drop (k + z.length))).take (k + z.length) = C.take k ++ z := by
  rw [← List.append_assoc, List.take_left']
  rw [List.length_append, List.length_take]
  omega
theorem takeE3 (A B D : List Value) (k : Nat) : (A ++ (B ++ D)).take (A.length + B.length + k) = A ++ (B ++ D.take k) := by
  rw [← List.append_assoc, show A.length + B.length = (A ++ B).length by simp, List.take_length_add_append, List.append_assoc]
theorem shapeE_blk {w : World} {g : Nat} {cs : List Value} {t : TypeId} (h : Blk w g cs t) : w.shape? g = some (t, cs.length) := by
  unfold Blk at h
  unfold World.shape?
  rw [h]
  simp
theorem drewE_cells (b : Nat) : ∀ (vs : List Value) (o : Nat) (w : World), (w.setCells b o vs).drew = w.drew.setCells b o vs
  | [], _, _ => rfl
  | v :: r, o, w => by
    rw [World.setCells, World.setCells, drewE_cells b r]
    rfl
section
variable {α : Type} {E : RowK α}
theorem OwnE.of {e : TypeId} {w : World} {base g cap : Nat} {l : List α} (cur : List Value) (hb : Blk w g cur e) (h2 : base ≤ g) (h4 : l.length ≤ cap) (h5 : cap ≤ maxLen) (h6 : cur.length = cap * E.k) (h7 : cur.take (l.length * E.k) = rowsE E l) :
    OwnE E e w base (.slice (some ⟨g, 0, none⟩) l.length cap) l := by
  refine ⟨?_, .inr ⟨g, cap, cur.toArray, rfl, h2, hb, h4, h5, ?_, ?_⟩⟩
  · rw [rowsE_length]
  · simpa using h6
  · simpa using h7
/-- What an edit of a row of one's own comes to; the call answers a row of its own. -/
def EditsE (E : RowK α) (e : TypeId) (v : Value) (base : Nat) (l' : List α) (W : World) (r : Ending) (w' : World) : Prop := ∃ u, r = .returned u ∧ OwnE E e w' base u l' ∧ Below base W w' ∧ ∀ k, k < W.heap.size → v.ownBlock ≠ some k → w'.heap[k]? = W.heap[k]?
def OwnsE (E : RowK α) (e : TypeId) (l : List α) (w : World) (r : Ending) (w' : World) : Prop := ∃ u, r = .returned u ∧ OwnE E e w' w.heap.size u l ∧ Below w.heap.size w w'
theorem eraseE_rows (l : List α) (i : Nat) : rowsE E (l.eraseIdx i) = rowsE E (l.take i) ++ rowsE E (l.drop (i + 1)) := by
  rw [List.eraseIdx_eq_take_drop_succ, rowsE_append]
/-- What is inserted. -/
def insE (l : List α) (x : α) (m : Nat) : List α := l.take m ++ x :: l.drop m
theorem insE_rows (l : List α) (x : α) (m : Nat) : rowsE E (insE l x m) = rowsE E (l.take m) ++ (E.enc x ++ rowsE E (l.drop m)) := by
  unfold insE
  rw [rowsE_append, show x :: l.drop m = [x] ++ l.drop m from rfl, rowsE_append, rowsE_one]
theorem insE_len (l : List α) (x : α) (m : Nat) (hm : m ≤ l.length) : (insE l x m).length = l.length + 1 := by
  unfold insE
  simp only [List.length_append, List.length_take, List.length_cons, List.length_drop]
  omega
/-- A block of another kind is not the row's. -/
theorem OwnE.not_blk {e : TypeId} {w : World} {base : Nat} {v : Value} {l : List α} (h : OwnE E e w base v l) {g : Nat} {cs : List Value} {t : TypeId} (hb : Blk w g cs t) (ht : t ≠ e) : v.ownBlock ≠ some g := by
  rintro he
  rcases h.2 with ⟨rfl, _⟩ | ⟨g', cap, cur, rfl, h2, h3, _⟩
  · cases he
  · injection he with he
    subst he
    unfold Blk at hb
    rw [hb] at h3
    injection h3 with h3
    injection h3 with h4 h5
    exact ht h5
/-- append of a whole row, which may be none. -/
theorem wpList_appF {P : Program} {w : World} {ops : Array Oper} {rest : List Oper} {o : Oper} {a : Act} {Q : Exit → Act → World → Prop}
    (hgd : o.guard = none) (s x : Operand) (t : TypeId) (ho : o.op = .call { callee := .builtin .append, args := #[s, x], argTypes := #[t, t] })
    (e : TypeId) (bytes : Nat) (ht : P.underlying t = some (.slice e)) (hk : KindOf P e E bytes)
    (base B : Nat) (v vx : Value) (l m : List α) (hs : a.eval s = v) (hown : OwnE E e w base v l) (hx : a.eval x = vx) (hr : RdE E B w vx m)
    (hlen : (l.length + m.length) * bytes ≤ 140737488355328) (h63 : l.length + m.length ≤ 9223372036854775807) (hbase : base ≤ w.heap.size)
    (h : ∀ v' w', OwnE E e w' base v' (l ++ m) → Below base w w' → w.grownBy w' v.ownBlock → wpList P ops Q rest (a.put o.dst v') w') : wpList P ops Q (o :: rest) a w := by
  obtain ⟨i, z, hi, hz, hsize, hby, hzs⟩ := hk
  obtain ⟨A, c, hv, hc, hm, hn, hrr⟩ := hr
  cases A with
  | none =>
    have h0 : c = 0 := hn rfl
    have h1 : m.length = 0 := by omega
    have h2 : m = [] := List.eq_nil_of_length_eq_zero h1
    subst h0 h2
    refine wpList_append_own_none hgd s x t ho base e i E.k ht hi v l.length (rowsE E l) hs hown (by rw [hx, hv]; rfl) ?_
    exact h v w (by rw [List.append_nil]; exact hown) (Below.refl _ _) ⟨rfl, rfl, rfl, Nat.le_refl _, fun _ _ _ => rfl⟩
  | some ad =>
    refine wpList_append_own w hgd s x t ho base e i z E.k bytes ht hi hz hsize hby hzs E.pos v l.length (rowsE E l) hs hown ad m.length c (rowsE E m) (by rw [hx, hv]) (rowsE_length E m) (hrr ad rfl).2 (rowsE_cell E m) (by unfold maxLen; omega) hlen hbase ?_
    intro v' w' h1 h2 _
    refine h v' w' ?_ (OwnE.grown hown h2 hbase) h2
    unfold OwnE
    rw [List.length_append, rowsE_append]
    exact h1
end

section
variable {α : Type} {E : RowK α}
/-- One cell of a thing is written. -/
theorem rowsE_setk (l : List α) (i k : Nat) (v : Value) (y : α) (hi : i < l.length) (hk : k < E.k) (hy : E.enc y = (E.enc (l.getD i E.d)).set k v) : (rowsE E l).set (i * E.k + k) v = rowsE E (l.set i y) := by
  rw [rowsE_set l i y hi, hy]
  have e1 : rowsE E l = (rowsE E l).take (i * E.k) ++ (E.enc (l.getD i E.d) ++ (rowsE E l).drop (i * E.k + E.k)) := by
    have h := rowsE_set (E := E) l i (l.getD i E.d) hi
    rw [← h]
    congr 1
    refine List.ext_getElem (by simp) fun j h1 h2 => ?_
    rw [List.getElem_set]
    split
    · rename_i hij
      subst hij
      rw [List.getD_eq_getElem?_getD, List.getElem?_eq_getElem hi]
      rfl
    · rfl
  have hmul : i * E.k ≤ l.length * E.k := Nat.mul_le_mul_right _ (by omega)
  have hl : ((rowsE E l).take (i * E.k)).length = i * E.k := by
    rw [List.length_take, rowsE_length]
    omega
  have hx : (E.enc (l.getD i E.d)).length = E.k := E.len _
  conv => lhs; rw [e1]
  rw [List.set_append, if_neg (by omega), List.set_append, if_pos (by rw [hl, hx]; omega), hl, Nat.add_sub_cancel_left]
theorem takeE_set (A : List Value) (j n : Nat) (v : Value) : (A.set j v).take n = (A.take n).set j v := by
  refine List.ext_getElem (by simp) fun i h1 h2 => ?_
  simp [List.getElem_set]
theorem getD_setE (l : List α) (i : Nat) (y d : α) (hi : i < l.length) : (l.set i y).getD i d = y := by
  rw [List.getD_eq_getElem?_getD, List.getElem?_set_self hi]
  rfl
theorem OwnE.cellK {e : TypeId} {w : World} {base n cap g : Nat} {l : List α} (h : OwnE E e w base (.slice (some ⟨g, 0, none⟩) n cap) l) (i k : Nat) (hi : i < l.length) (hk : k < E.k) :
    w.cell? ⟨g, i * E.k + k, none⟩ = some ((E.enc (l.getD i E.d)).getD k undef) ∧ w.frozen? ⟨g, i * E.k + k, none⟩ = false := by
  obtain ⟨cur, hb, h2, h4, h5, h6, h7, hn⟩ := h.block
  refine ⟨?_, hb.frozen _⟩
  have hr := h.rd
  subst hn
  have := hr.node i hi k _ (enc_get E _ k hk)
  rw [Addr.add_add] at this
  have hadd : (⟨g, 0, none⟩ : Addr).add (i * E.k + k) = ⟨g, i * E.k + k, none⟩ := by unfold Addr.add; split <;> simp_all
  rw [hadd] at this
  exact this
theorem OwnE.storedK {e : TypeId} {w : World} {base n cap g : Nat} {l : List α} (h : OwnE E e w base (.slice (some ⟨g, 0, none⟩) n cap) l) (i k : Nat) (hi : i < l.length) (hk : k < E.k) (v : Value) (y : α) (hy : E.enc y = (E.enc (l.getD i E.d)).set k v) :
    OwnE E e (w.setCell ⟨g, i * E.k + k, none⟩ v) base (.slice (some ⟨g, 0, none⟩) n cap) (l.set i y) ∧ Below base w (w.setCell ⟨g, i * E.k + k, none⟩ v) := by
  obtain ⟨cur, hb, h2, h4, h5, h6, h7, hn⟩ := h.block
  have hcl : cur.toList.length = cap * E.k := by rw [Array.length_toList, h6]
  refine ⟨?_, (Below.refl _ _).setCell h2 _⟩
  · have := OwnE.of (E := E) (e := e) (base := base) (cap := cap) (l := l.set i y) (cur.toList.set (i * E.k + k) v) (hb.set (i * E.k + k) v) h2 (by rw [List.length_set]; exact h4) h5 (by rw [List.length_set]; exact hcl)
      (by rw [List.length_set, takeE_set _ _ _ _, h7]; exact rowsE_setk l i k v y hi hk hy)
    rw [List.length_set, ← hn] at this
    exact this
end
theorem run_copy_rowE {P : Program} (w : World) (dT sT ty elem : TypeId) (k : Nat) (b o dLen dCap : Nat) (a : Addr) (sLen sCap : Nat) (cs : List Value)
    (hu : P.underlying dT = some (.slice elem)) (hs : (P.info? elem).map (·.size) = some k) (hn : cs.length = Nat.min sLen dLen * k)
    (hsrc : ∀ j v, cs[j]? = some v → w.cell? (a.add j) = some v) (hc : ∀ j, j < cs.length → (w.cell? ⟨b, o + j, none⟩).isSome = true ∧ w.frozen? ⟨b, o + j, none⟩ = false) (h1 : ∀ v ∈ cs, v.oneCell' = true) :
    (Builtin.copy_ #[dT, sT] ty #[.slice (some ⟨b, o, none⟩) dLen dCap, .slice (some a) sLen sCap]).run P w = .ok (goInt (Nat.min sLen dLen)) (w.setCells b o cs) := by
  have hl := run_loadCells_list (P := P) w a cs hsrc
  have hst := run_storeCells_cells (P := P) b o cs 0 w (fun j hj => (hc j hj).1) (fun j hj => (hc j hj).2) h1
  rw [Nat.add_zero] at hst
  cases hq : P.info? elem with
  | none => simp [hq] at hs
  | some i =>
    have hi : i.size = k := by simpa [hq] using hs
    rw [hn] at hl
    simp [Builtin.copy_, run_underlying hu, Builtin.lenOf, Builtin.firstCells, sizeOf, typeInfo, hq, hi, hl, hst]
theorem wpList_copyE_run {P : Program} {w : World} {ops : Array Oper} {rest : List Oper} {o : Oper} {a : Act} {Q : Exit → Act → World → Prop} (hgd : o.guard = none) (d s : Operand) (t t' : TypeId)
    (ho : o.op = .call { callee := .builtin .copy, args := #[d, s], argTypes := #[t, t'] }) (v u : Value) (hd : a.eval d = v) (hs : a.eval s = u) {v' : Value} {w' : World} (hr : (Builtin.copy_ #[t, t'] o.type #[v, u]).run P w = .ok v' w')
    (h : wpList P ops Q rest (a.put o.dst v') w') : wpList P ops Q (o :: rest) a w := by
  refine wpList_plain hgd fun K hK => ?_
  unfold Oper.wp execOp
  simp only [ho, resolve, invoke, builtin, Sem.run_bind, Sem.run_pure, Result.andThen_ok, List.map_toArray, List.map_cons, List.map_nil, hd, hs, hr]
  exact hK _ _ h
theorem step_copyE_run {P : Program} {ops : Array Oper} {o : Oper} {a : Act} {w : World} {K : Act → World → Prop} {Q : Exit → Act → World → Prop} {E : Prop}
    (hg : o.guard = none) (d x : Operand) (dT sT : TypeId) (hop : o.op = Op.call { callee := Callee.builtin Builtin.copy, args := #[d, x], argTypes := #[dT, sT] })
    (v u : Value) (hd : a.eval d = v) (hx : a.eval x = u) {v' : Value} {w' : World} (hr : (Builtin.copy_ #[dT, sT] o.type #[v, u]).run P w = .ok v' w') (hK : K (a.put o.dst v') w') :
    if Region.wanted o (yielded ops a.tmps) = true then Oper.wp P o a w K Q else E := by
  have hw : Region.wanted o (yielded ops a.tmps) = true := by simp [Region.wanted, hg]
  rw [if_pos hw]
  unfold Oper.wp
  simp [execOp, hop, resolve, invoke, builtin, hd, hx, hr, Result.andThen]
  exact hK
/-- clear of one thing. -/
theorem run_clear_rowE {P : Program} (w : World) (t e ty : TypeId) (i : TypeInfo) (z : Value) (cs : List Value) (k : Nat) (ht : P.underlying t = some (.slice e)) (hi : P.info? e = some i) (hz : i.zero = some z) (g o c : Nat)
    (hzc : (Builtin.zeroCells z.cells 1).toList = cs) (hk : cs.length = k) (h1 : ∀ v ∈ cs, v.oneCell' = true)
    (hc : ∀ j, j < k → (w.cell? ⟨g, o + j, none⟩).isSome = true ∧ w.frozen? ⟨g, o + j, none⟩ = false) :
    (Builtin.clear_ #[t] ty #[.slice (some ⟨g, o, none⟩) 1 c]).run P w = .ok (.tuple #[]) (w.setCells g o cs) := by
  have hzv : (zeroValue e).run P w = .ok z w := by simp [zeroValue, typeInfo, hi, hz]
  have hst := run_storeCells_cells (P := P) g o cs 0 w (fun j hj => (hc j (by omega)).1) (fun j hj => (hc j (by omega)).2) h1
  simp only [Nat.add_zero] at hst
  simp [Builtin.clear_, run_underlying ht, hzv, hzc, hst]
theorem wpList_clearE_run {P : Program} {w : World} {ops : Array Oper} {rest : List Oper} {o : Oper} {a : Act} {Q : Exit → Act → World → Prop} (hgd : o.guard = none) (s : Operand) (t : TypeId)
    (ho : o.op = .call { callee := .builtin .clear, args := #[s], argTypes := #[t] }) (v : Value) (hs : a.eval s = v) {v' : Value} {w' : World} (hr : (Builtin.clear_ #[t] o.type #[v]).run P w = .ok v' w')
    (h : wpList P ops Q rest (a.put o.dst v') w') : wpList P ops Q (o :: rest) a w := by
  refine wpList_plain hgd fun K hK => ?_
  unfold Oper.wp execOp
  simp only [ho, resolve, invoke, builtin, Sem.run_bind, Sem.run_pure, Result.andThen_ok, List.map_toArray, List.map_cons, List.map_nil, hs, hr]
  exact hK _ _ h
end Go.Proofs.Yteckenlbelgknaa
