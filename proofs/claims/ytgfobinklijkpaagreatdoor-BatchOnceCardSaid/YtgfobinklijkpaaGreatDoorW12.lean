/-
  Texts R4 IP KT BB R5.
-/
import Derived.Lib.Overlaps
import Derived.Lib.AppendZerosOnto
import Derived.Deep.RegionLaw
import Derived.Laws.StructEq
import Derived.Lib.Strings
import Derived.Test.YtgfobinklijkpaaGreatDoorW06
import Derived.Test.YtgfobinklijkpaaGreatDoorW11
namespace Go.Proofs.YtgfobinklijkpaaGreatDoor
set_option maxRecDepth 100000
set_option maxHeartbeats 16000000
open Go.RowKit
theorem writtenE_take (C z : List Value) (k : Nat) (hk : k ≤ C.length) : (C.take k ++ (z ++ C.drop (k + z.length))).take k = C.take k := by
 rw [List.take_left']
 rw [List.length_take]
 omega
theorem writtenE_len (C z : List Value) (k : Nat) (hk : k + z.length ≤ C.length) : (C.take k ++ (z ++ C.drop (k + z.length))).length = C.length := by
 simp only [List.length_append, List.length_take, List.length_drop]
 omega
theorem writtenE_more (C z : List Value) (k : Nat) (hk : k + z.length ≤ C.length) : (C.take k ++ (z ++ C.drop (k + z.length))).take (k + z.length) = C.take k ++ z := by
 rw [← List.append_assoc, List.take_left']
 rw [List.length_append, List.length_take]
 omega
theorem takeE3 (A B D : List Value) (k : Nat) : (A ++ (B ++ D)).take (A.length + B.length + k) = A ++ (B ++ D.take k) := by
 rw [← List.append_assoc, show A.length + B.length = (A ++ B).length by simp, List.take_length_add_append, List.append_assoc]
theorem shapeE_blk {w : World} {g : Nat} {cs : List Value} {t : TypeId} (h : Blk w g cs t) : w.shape? g = some (t, cs.length) := by
 unfold Blk at h
 unfold World.shape?
 rw [h]
 simp
theorem drewE_cells (b : Nat) : ∀ (vs : List Value) (o : Nat) (w : World), (w.setCells b o vs).drew = w.drew.setCells b o vs
 | [], _, _ => rfl
 | v :: r, o, w => by
   rw [World.setCells, World.setCells, drewE_cells b r]
   rfl
section
variable {α : Type} {E : RowK α}
theorem OwnE.of {e : TypeId} {w : World} {base g cap : Nat} {l : List α} (cur : List Value) (hb : Blk w g cur e) (h2 : base ≤ g) (h4 : l.length ≤ cap) (h5 : cap ≤ maxLen) (h6 : cur.length = cap * E.k) (h7 : cur.take (l.length * E.k) = rowsE E l) :
 OwnE E e w base (.slice (some ⟨g, 0, none⟩) l.length cap) l := by
 refine ⟨?_, .inr ⟨g, cap, cur.toArray, rfl, h2, hb, h4, h5, ?_, ?_⟩⟩
 ·rw [rowsE_length]
 ·simpa using h6
 ·simpa using h7
def EditsE (E : RowK α) (e : TypeId) (v : Value) (base : Nat) (l' : List α) (W : World) (r : Ending) (w' : World) : Prop := ∃ u, r = .returned u ∧ OwnE E e w' base u l' ∧ Below base W w' ∧ ∀ k, k < W.heap.size → v.ownBlock ≠ some k → w'.heap[k]? = W.heap[k]?
def OwnsE (E : RowK α) (e : TypeId) (l : List α) (w : World) (r : Ending) (w' : World) : Prop := ∃ u, r = .returned u ∧ OwnE E e w' w.heap.size u l ∧ Below w.heap.size w w'
theorem eraseE_rows (l : List α) (i : Nat) : rowsE E (l.eraseIdx i) = rowsE E (l.take i) ++ rowsE E (l.drop (i + 1)) := by
 rw [List.eraseIdx_eq_take_drop_succ, rowsE_append]
def insE (l : List α) (x : α) (m : Nat) : List α := l.take m ++ x :: l.drop m
theorem insE_rows (l : List α) (x : α) (m : Nat) : rowsE E (insE l x m) = rowsE E (l.take m) ++ (E.enc x ++ rowsE E (l.drop m)) := by
 unfold insE
 rw [rowsE_append, show x :: l.drop m = [x] ++ l.drop m from rfl, rowsE_append, rowsE_one]
theorem insE_len (l : List α) (x : α) (m : Nat) (hm : m ≤ l.length) : (insE l x m).length = l.length + 1 := by
 unfold insE
 simp only [List.length_append, List.length_take, List.length_cons, List.length_drop]
 omega
theorem OwnE.not_blk {e : TypeId} {w : World} {base : Nat} {v : Value} {l : List α} (h : OwnE E e w base v l) {g : Nat} {cs : List Value} {t : TypeId} (hb : Blk w g cs t) (ht : t ≠ e) : v.ownBlock ≠ some g := by
 rintro he
 rcases h.2 with ⟨rfl, _⟩ | ⟨g', cap, cur, rfl, h2, h3, _⟩
 ·cases he
 ·injection he with he
  subst he
  unfold Blk at hb
  rw [hb] at h3
  injection h3 with h3
  injection h3 with h4 h5
  exact ht h5
theorem wpList_appF {P : Program} {w : World} {ops : Array Oper} {rest : List Oper} {o : Oper} {a : Act} {Q : Exit → Act → World → Prop}
 (hgd : o.guard = none) (s x : Operand) (t : TypeId) (ho : o.op = .call { callee := .builtin .append, args := #[s, x], argTypes := #[t, t] })
 (e : TypeId) (bytes : Nat) (ht : P.underlying t = some (.slice e)) (hk : KindOf P e E bytes)
 (base B : Nat) (v vx : Value) (l m : List α) (hs : a.eval s = v) (hown : OwnE E e w base v l) (hx : a.eval x = vx) (hr : RdE E B w vx m)
 (hlen : (l.length + m.length) * bytes ≤ 140737488355328) (h63 : l.length + m.length ≤ 9223372036854775807) (hbase : base ≤ w.heap.size)
 (h : ∀ v' w', OwnE E e w' base v' (l ++ m) → Below base w w' → w.grownBy w' v.ownBlock → wpList P ops Q rest (a.put o.dst v') w') : wpList P ops Q (o :: rest) a w := by
 obtain ⟨i, z, hi, hz, hsize, hby, hzs⟩ := hk
 obtain ⟨A, c, hv, hc, hm, hn, hrr⟩ := hr
 cases A with
 | none =>
   have h0 : c = 0 := hn rfl
   have h1 : m.length = 0 := by omega
   have h2 : m = [] := List.eq_nil_of_length_eq_zero h1
   subst h0 h2
   refine wpList_append_own_none hgd s x t ho base e i E.k ht hi v l.length (rowsE E l) hs hown (by rw [hx, hv]; rfl) ?_
   exact h v w (by rw [List.append_nil]; exact hown) (Below.refl _ _) ⟨rfl, rfl, rfl, Nat.le_refl _, fun _ _ _ => rfl⟩
 | some ad =>
   refine wpList_append_own w hgd s x t ho base e i z E.k bytes ht hi hz hsize hby hzs E.pos v l.length (rowsE E l) hs hown ad m.length c (rowsE E m) (by rw [hx, hv]) (rowsE_length E m) (hrr ad rfl).2 (rowsE_cell E m) (by unfold maxLen; omega) hlen hbase ?_
   intro v' w' h1 h2 _
   refine h v' w' ?_ (OwnE.grown hown h2 hbase) h2
   unfold OwnE
   rw [List.length_append, rowsE_append]
   exact h1
end
section
variable {α : Type} {E : RowK α}
theorem rowsE_setk (l : List α) (i k : Nat) (v : Value) (y : α) (hi : i < l.length) (hk : k < E.k) (hy : E.enc y = (E.enc (l.getD i E.d)).set k v) : (rowsE E l).set (i * E.k + k) v = rowsE E (l.set i y) := by
 rw [rowsE_set l i y hi, hy]
 have e1 : rowsE E l = (rowsE E l).take (i * E.k) ++ (E.enc (l.getD i E.d) ++ (rowsE E l).drop (i * E.k + E.k)) := by
  have h := rowsE_set (E := E) l i (l.getD i E.d) hi
  rw [← h]
  congr 1
  refine List.ext_getElem (by simp) fun j h1 h2 => ?_
  rw [List.getElem_set]
  split
  ·rename_i hij
   subst hij
   rw [List.getD_eq_getElem?_getD, List.getElem?_eq_getElem hi]
   rfl
  ·rfl
 have hmul : i * E.k ≤ l.length * E.k := Nat.mul_le_mul_right _ (by omega)
 have hl : ((rowsE E l).take (i * E.k)).length = i * E.k := by
  rw [List.length_take, rowsE_length]
  omega
 have hx : (E.enc (l.getD i E.d)).length = E.k := E.len _
 conv => lhs; rw [e1]
 rw [List.set_append, if_neg (by omega), List.set_append, if_pos (by rw [hl, hx]; omega), hl, Nat.add_sub_cancel_left]
theorem takeE_set (A : List Value) (j n : Nat) (v : Value) : (A.set j v).take n = (A.take n).set j v := by
 refine List.ext_getElem (by simp) fun i h1 h2 => ?_
 simp [List.getElem_set]
theorem getD_setE (l : List α) (i : Nat) (y d : α) (hi : i < l.length) : (l.set i y).getD i d = y := by
 rw [List.getD_eq_getElem?_getD, List.getElem?_set_self hi]
 rfl
theorem OwnE.cellK {e : TypeId} {w : World} {base n cap g : Nat} {l : List α} (h : OwnE E e w base (.slice (some ⟨g, 0, none⟩) n cap) l) (i k : Nat) (hi : i < l.length) (hk : k < E.k) :
 w.cell? ⟨g, i * E.k + k, none⟩ = some ((E.enc (l.getD i E.d)).getD k undef) ∧ w.frozen? ⟨g, i * E.k + k, none⟩ = false := by
 obtain ⟨cur, hb, h2, h4, h5, h6, h7, hn⟩ := h.block
 refine ⟨?_, hb.frozen _⟩
 have hr := h.rd
 subst hn
 have := hr.node i hi k _ (enc_get E _ k hk)
 rw [Addr.add_add] at this
 have hadd : (⟨g, 0, none⟩ : Addr).add (i * E.k + k) = ⟨g, i * E.k + k, none⟩ := by unfold Addr.add; split <;> simp_all
 rw [hadd] at this
 exact this
theorem OwnE.storedK {e : TypeId} {w : World} {base n cap g : Nat} {l : List α} (h : OwnE E e w base (.slice (some ⟨g, 0, none⟩) n cap) l) (i k : Nat) (hi : i < l.length) (hk : k < E.k) (v : Value) (y : α) (hy : E.enc y = (E.enc (l.getD i E.d)).set k v) :
 OwnE E e (w.setCell ⟨g, i * E.k + k, none⟩ v) base (.slice (some ⟨g, 0, none⟩) n cap) (l.set i y) ∧ Below base w (w.setCell ⟨g, i * E.k + k, none⟩ v) := by
 obtain ⟨cur, hb, h2, h4, h5, h6, h7, hn⟩ := h.block
 have hcl : cur.toList.length = cap * E.k := by rw [Array.length_toList, h6]
 refine ⟨?_, (Below.refl _ _).setCell h2 _⟩
 ·have := OwnE.of (E := E) (e := e) (base := base) (cap := cap) (l := l.set i y) (cur.toList.set (i * E.k + k) v) (hb.set (i * E.k + k) v) h2 (by rw [List.length_set]; exact h4) h5 (by rw [List.length_set]; exact hcl)
   (by rw [List.length_set, takeE_set _ _ _ _, h7]; exact rowsE_setk l i k v y hi hk hy)
  rw [List.length_set, ← hn] at this
  exact this
end
theorem run_copy_rowE {P : Program} (w : World) (dT sT ty elem : TypeId) (k : Nat) (b o dLen dCap : Nat) (a : Addr) (sLen sCap : Nat) (cs : List Value)
 (hu : P.underlying dT = some (.slice elem)) (hs : (P.info? elem).map (·.size) = some k) (hn : cs.length = Nat.min sLen dLen * k)
 (hsrc : ∀ j v, cs[j]? = some v → w.cell? (a.add j) = some v) (hc : ∀ j, j < cs.length → (w.cell? ⟨b, o + j, none⟩).isSome = true ∧ w.frozen? ⟨b, o + j, none⟩ = false) (h1 : ∀ v ∈ cs, v.oneCell' = true) :
 (Builtin.copy_ #[dT, sT] ty #[.slice (some ⟨b, o, none⟩) dLen dCap, .slice (some a) sLen sCap]).run P w = .ok (goInt (Nat.min sLen dLen)) (w.setCells b o cs) := by
 have hl := run_loadCells_list (P := P) w a cs hsrc
 have hst := run_storeCells_cells (P := P) b o cs 0 w (fun j hj => (hc j hj).1) (fun j hj => (hc j hj).2) h1
 rw [Nat.add_zero] at hst
 cases hq : P.info? elem with
 | none => simp [hq] at hs
 | some i =>
   have hi : i.size = k := by simpa [hq] using hs
   rw [hn] at hl
   simp [Builtin.copy_, run_underlying hu, Builtin.lenOf, Builtin.firstCells, sizeOf, typeInfo, hq, hi, hl, hst]
theorem wpList_copyE_run {P : Program} {w : World} {ops : Array Oper} {rest : List Oper} {o : Oper} {a : Act} {Q : Exit → Act → World → Prop} (hgd : o.guard = none) (d s : Operand) (t t' : TypeId)
 (ho : o.op = .call { callee := .builtin .copy, args := #[d, s], argTypes := #[t, t'] }) (v u : Value) (hd : a.eval d = v) (hs : a.eval s = u) {v' : Value} {w' : World} (hr : (Builtin.copy_ #[t, t'] o.type #[v, u]).run P w = .ok v' w')
 (h : wpList P ops Q rest (a.put o.dst v') w') : wpList P ops Q (o :: rest) a w := by
 refine wpList_plain hgd fun K hK => ?_
 unfold Oper.wp execOp
 simp only [ho, resolve, invoke, builtin, Sem.run_bind, Sem.run_pure, Result.andThen_ok, List.map_toArray, List.map_cons, List.map_nil, hd, hs, hr]
 exact hK _ _ h
theorem step_copyE_run {P : Program} {ops : Array Oper} {o : Oper} {a : Act} {w : World} {K : Act → World → Prop} {Q : Exit → Act → World → Prop} {E : Prop}
 (hg : o.guard = none) (d x : Operand) (dT sT : TypeId) (hop : o.op = Op.call { callee := Callee.builtin Builtin.copy, args := #[d, x], argTypes := #[dT, sT] })
 (v u : Value) (hd : a.eval d = v) (hx : a.eval x = u) {v' : Value} {w' : World} (hr : (Builtin.copy_ #[dT, sT] o.type #[v, u]).run P w = .ok v' w') (hK : K (a.put o.dst v') w') :
 if Region.wanted o (yielded ops a.tmps) = true then Oper.wp P o a w K Q else E := by
 have hw : Region.wanted o (yielded ops a.tmps) = true := by simp [Region.wanted, hg]
 rw [if_pos hw]
 unfold Oper.wp
 simp [execOp, hop, resolve, invoke, builtin, hd, hx, hr, Result.andThen]
 exact hK
theorem run_clear_rowE {P : Program} (w : World) (t e ty : TypeId) (i : TypeInfo) (z : Value) (cs : List Value) (k : Nat) (ht : P.underlying t = some (.slice e)) (hi : P.info? e = some i) (hz : i.zero = some z) (g o c : Nat)
 (hzc : (Builtin.zeroCells z.cells 1).toList = cs) (hk : cs.length = k) (h1 : ∀ v ∈ cs, v.oneCell' = true)
 (hc : ∀ j, j < k → (w.cell? ⟨g, o + j, none⟩).isSome = true ∧ w.frozen? ⟨g, o + j, none⟩ = false) :
 (Builtin.clear_ #[t] ty #[.slice (some ⟨g, o, none⟩) 1 c]).run P w = .ok (.tuple #[]) (w.setCells g o cs) := by
 have hzv : (zeroValue e).run P w = .ok z w := by simp [zeroValue, typeInfo, hi, hz]
 have hst := run_storeCells_cells (P := P) g o cs 0 w (fun j hj => (hc j (by omega)).1) (fun j hj => (hc j (by omega)).2) h1
 simp only [Nat.add_zero] at hst
 simp [Builtin.clear_, run_underlying ht, hzv, hzc, hst]
theorem wpList_clearE_run {P : Program} {w : World} {ops : Array Oper} {rest : List Oper} {o : Oper} {a : Act} {Q : Exit → Act → World → Prop} (hgd : o.guard = none) (s : Operand) (t : TypeId)
 (ho : o.op = .call { callee := .builtin .clear, args := #[s], argTypes := #[t] }) (v : Value) (hs : a.eval s = v) {v' : Value} {w' : World} (hr : (Builtin.clear_ #[t] o.type #[v]).run P w = .ok v' w')
 (h : wpList P ops Q rest (a.put o.dst v') w') : wpList P ops Q (o :: rest) a w := by
 refine wpList_plain hgd fun K hK => ?_
 unfold Oper.wp execOp
 simp only [ho, resolve, invoke, builtin, Sem.run_bind, Sem.run_pure, Result.andThen_ok, List.map_toArray, List.map_cons, List.map_nil, hs, hr]
 exact hK _ _ h
abbrev AscR (l : List Rp) : Prop := l.Pairwise fun x y => pC x < pC y
def posR (l : List Rp) (c : Int) : Nat := l.findIdx fun x => decide (c ≤ pC x)
theorem posR_le (l : List Rp) (c : Int) : posR l c ≤ l.length := List.findIdx_le_length
theorem posR_cons (x : Rp) (r : List Rp) (c : Int) : posR (x :: r) c = if c ≤ pC x then 0 else posR r c + 1 := by
 unfold posR
 rw [List.findIdx_cons]
 by_cases h : c ≤ pC x
 ·simp [h]
 ·simp [h]
theorem posR_at : ∀ (l : List Rp) (c : Int), AscR l → ∀ i, i < l.length → (pC (l.getD i rp0) < c ↔ i < posR l c)
 | [], _, _, i, h => by cases h
 | x :: r, c, h, i, hi => by
   obtain ⟨h1, h2⟩ := List.pairwise_cons.1 h
   rw [posR_cons]
   by_cases hx : c ≤ pC x
   ·rw [if_pos hx]
    refine iff_of_false ?_ (by omega)
    cases i with
    | zero =>
      show ¬ pC x < c
      omega
    | succ i =>
      have hi2 : i < r.length := by simpa using hi
      have hm : r.getD i rp0 ∈ r := by
       rw [List.getD_eq_getElem?_getD, List.getElem?_eq_getElem hi2]
       exact List.getElem_mem _
      have := h1 _ hm
      show ¬ pC (r.getD i rp0) < c
      omega
   ·rw [if_neg hx]
    cases i with
    | zero => exact iff_of_true (show pC x < c by omega) (by omega)
    | succ i =>
      have := posR_at r c h2 i (by simpa using hi)
      show pC (r.getD i rp0) < c ↔ _
      rw [this]
      omega
theorem lastR_not : ∀ (l : List Rp) (c : Int), (∀ y ∈ l, pC y ≠ c) → lastR l c = (rp0, false)
 | [], _, _ => rfl
 | x :: r, c, h => by
   unfold lastR
   rw [if_neg (h x (by simp)), lastR_not r c fun y hy => h y (by simp [hy])]
theorem lastR_pos : ∀ (l : List Rp) (c : Int), AscR l → lastR l c = if posR l c < l.length ∧ pC (l.getD (posR l c) rp0) = c then (l.getD (posR l c) rp0, true) else (rp0, false)
 | [], _, _ => rfl
 | x :: r, c, h => by
   obtain ⟨h1, h2⟩ := List.pairwise_cons.1 h
   rw [posR_cons]
   rcases Int.lt_trichotomy c (pC x) with hx | hx | hx
   ·rw [if_pos (show c ≤ pC x by omega), lastR_not, if_neg]
    ·rintro ⟨_, h3⟩
     have : pC x = c := h3
     omega
    ·intro y hy
     rcases List.mem_cons.1 hy with rfl | hy
     ·omega
     ·have := h1 y hy
      omega
   ·rw [if_pos (show c ≤ pC x by omega), lastR, if_pos hx.symm, if_pos ⟨by simp, hx.symm⟩]
    rfl
   ·rw [if_neg (show ¬ c ≤ pC x by omega), lastR, if_neg (show ¬ pC x = c by omega), lastR_pos r c h2]
    show _ = if posR r c + 1 < (x :: r).length ∧ pC (r.getD (posR r c) rp0) = c then (r.getD (posR r c) rp0, true) else (rp0, false)
    simp only [List.length_cons, Nat.add_lt_add_iff_right]
theorem seenR_pos (x : Rp) : ∀ (l : List Rp), AscR l → seenR x false l = if posR l (pC x) < l.length ∧ pC (l.getD (posR l (pC x)) rp0) = pC x then l.set (posR l (pC x)) x else insE l x (posR l (pC x))
 | [], _ => rfl
 | y :: r, hp => by
   obtain ⟨h1, h2⟩ := List.pairwise_cons.1 hp
   rw [posR_cons]
   rcases Int.lt_trichotomy (pC x) (pC y) with h | h | h
   ·rw [seenR_far x (y :: r) (fun z hz => by rcases List.mem_cons.1 hz with rfl | hz; exact h; exact Int.lt_trans h (h1 z hz)), if_pos (show pC x ≤ pC y by omega), if_neg]
    ·rfl
    ·rintro ⟨_, h3⟩
     have : pC y = pC x := h3
     omega
   ·have hf : r.filter (fun z => decide (pC z ≠ pC x)) = r := by
     rw [List.filter_eq_self]
     intro z hz
     have := h1 z hz
     simp
     omega
    have e : seenR x false (y :: r) = x :: r := by
     unfold seenR
     rw [if_pos ⟨rfl, by omega⟩, if_neg (by simp [h]), show (false || decide (pC x ≤ pC y)) = true by simp; omega, seenR_done, hf]
     rfl
    rw [e, if_pos (show pC x ≤ pC y by omega), if_pos ⟨by simp, h.symm⟩]
    rfl
   ·have e : seenR x false (y :: r) = y :: seenR x false r := by
     rw [seenR, if_neg (by omega), if_pos (by omega), show (false || decide (pC x ≤ pC y)) = false by simp; omega]
     rfl
    rw [e, if_neg (show ¬ pC x ≤ pC y by omega), seenR_pos x r h2]
    show _ = if posR r (pC x) + 1 < (y :: r).length ∧ pC (r.getD (posR r (pC x)) rp0) = pC x then (y :: r).set (posR r (pC x) + 1) x else insE (y :: r) x (posR r (pC x) + 1)
    simp only [List.length_cons, Nat.add_lt_add_iff_right]
    split
    ·rfl
    ·rfl
theorem last_apply (r : Rm) (o : Or) (c : Int) (h : RightR r) (hc : oC o ≠ c) : lastR (mL (applyR r o).1) c = lastR (mL r) c := by
 unfold applyR
 split
 ·rfl
 split
 ·rfl
 split
 ·rfl
 split
 ·rfl
 show lastR (seenR (ofR o (doneR r o).2.1) false (mL r)) c = _
 rw [seenR_last _ _ h.asc, if_neg (fun e => hc e.symm)]
theorem last_fold (c : Int) : ∀ (l : List Or) (r : Rm), RightR r → (∀ o ∈ l, oC o ≠ c) → lastR (mL (foldR r l).1) c = lastR (mL r) c
 | [], _, _, _ => rfl
 | o :: l, r, h, hc => by
   show lastR (mL (foldR (applyR r o).1 l).1) c = _
   rw [last_fold c l _ (right_apply r o h) (fun x hx => hc x (List.mem_cons_of_mem _ hx)), last_apply r o c h (hc o (by simp))]
theorem apply_ways (r : Rm) (o : Or) (hr : RightR r) (h : mayO o = true) :
 (applyR r o = (r, (lastR (mL r) (oC o)).1, []) ∧ (lastR (mL r) (oC o)).2 = true ∧ pQ (lastR (mL r) (oC o)).1 = oQ o) ∨
 (applyR r o = (r, noR o 15, []) ∧ (lastR (mL r) (oC o)).2 = true ∧ oQ o < pQ (lastR (mL r) (oC o)).1) ∨
 (applyR r o = (r, noR o 9, []) ∧ (lastR (mL r) (oC o)).2 = false) ∨
 (lastR (mL (applyR r o).1) (oC o) = ((applyR r o).2.1, true) ∧ pQ (applyR r o).2.1 = oQ o ∧ pC (applyR r o).2.1 = oC o) := by
 have hm : ¬ mayO o = false := by rw [h]; simp
 by_cases h1 : (lastR (mL r) (oC o)).2 = true ∧ pQ (lastR (mL r) (oC o)).1 = oQ o
 ·exact .inl ⟨by unfold applyR; rw [if_neg hm, if_pos h1], h1⟩
 by_cases h2 : (lastR (mL r) (oC o)).2 = true ∧ oQ o < pQ (lastR (mL r) (oC o)).1
 ·exact .inr (.inl ⟨by unfold applyR; rw [if_neg hm, if_neg h1, if_pos h2], h2⟩)
 by_cases h3 : (lastR (mL r) (oC o)).2 = false ∧ 50 ≤ (mL r).length
 ·exact .inr (.inr (.inl ⟨by unfold applyR; rw [if_neg hm, if_neg h1, if_neg h2, if_pos h3], h3.1⟩))
 ·have e : applyR r o = takenR r o := by unfold applyR; rw [if_neg hm, if_neg h1, if_neg h2, if_neg h3]
  refine .inr (.inr (.inr ?_))
  rw [e]
  refine ⟨?_, rfl, rfl⟩
  show lastR (seenR (ofR o (doneR r o).2.1) false (mL r)) (oC o) = _
  rw [seenR_last _ _ hr.asc, if_pos (show oC o = pC (ofR o (doneR r o).2.1) from rfl)]
  rfl
def freshR (r : Rm) (o : Or) : Bool := mayO o && (!(lastR (mL r) (oC o)).2 || decide (pQ (lastR (mL r) (oC o)).1 < oQ o))
def hasC (l : List Or) (c : Int) : Bool := l.any fun x => decide (oC x = c)
def waitS (r : Rm) (out : List Or) (o : Or) : List Or := if out.length < 10 ∧ hasC out (oC o) = false ∧ freshR r o = true then out ++ [o] else out
def waitB (r : Rm) (l : List Or) : List Or := l.foldl (waitS r) []
structure WaitP (r : Rm) (m : List Or) (n : Nat) (l : List Or) : Prop where
 few : m.length ≤ 10
 less : m.length ≤ n
 fresh : ∀ o ∈ m, freshR r o = true ∧ o ∈ l
 unlike : m.Pairwise fun a b => oC a ≠ oC b
theorem hasC_no {l : List Or} {c : Int} (h : hasC l c = false) : ∀ x ∈ l, oC x ≠ c := by
 intro x hx he
 have : hasC l c = true := List.any_eq_true.2 ⟨x, hx, by simp [he]⟩
 rw [h] at this
 cases this
theorem waitS_P {r : Rm} {m : List Or} {n : Nat} {l : List Or} (h : WaitP r m n l) (o : Or) (ho : o ∈ l) : WaitP r (waitS r m o) (n + 1) l := by
 unfold waitS
 split
 ·rename_i hc
  refine ⟨by simp; omega, by have := h.less; simp; omega, fun x hx => ?_, ?_⟩
  ·rcases List.mem_append.1 hx with hx | hx
   ·exact h.fresh x hx
   ·obtain rfl := List.mem_singleton.1 hx
    exact ⟨hc.2.2, ho⟩
  ·refine List.pairwise_append.2 ⟨h.unlike, List.pairwise_singleton _ _, fun x hx y hy => ?_⟩
   obtain rfl := List.mem_singleton.1 hy
   exact hasC_no hc.2.1 x hx
 ·exact ⟨h.few, by have := h.less; omega, h.fresh, h.unlike⟩
theorem waitF_P (r : Rm) (l : List Or) : ∀ (k m : List Or) (n : Nat), WaitP r m n l → (∀ o ∈ k, o ∈ l) → WaitP r (k.foldl (waitS r) m) (n + k.length) l
 | [], m, n, h, _ => h
 | o :: k, m, n, h, hk => by
   have e := waitF_P r l k (waitS r m o) (n + 1) (waitS_P h o (hk o (by simp))) (fun x hx => hk x (List.mem_cons_of_mem _ hx))
   have e2 : n + 1 + k.length = n + (o :: k).length := by simp only [List.length_cons]; omega
   rw [e2] at e
   exact e
theorem waitB_P (r : Rm) (l : List Or) : WaitP r (waitB r l) l.length l := by
 have h := waitF_P r l l [] 0 ⟨Nat.zero_le _, Nat.le_refl _, (fun _ h => by cases h), List.Pairwise.nil⟩ (fun _ h => h)
 rw [Nat.zero_add] at h
 exact h
theorem wait_snoc (r : Rm) (l : List Or) (i : Nat) (hi : i < l.length) : waitB r (l.take (i + 1)) = waitS r (waitB r (l.take i)) (l.getD i or0) := by
 unfold waitB
 have : l.take (i + 1) = l.take i ++ [l.getD i or0] := by
  rw [List.getD_eq_getElem?_getD, List.getElem?_eq_getElem hi, List.take_add_one, List.getElem?_eq_getElem hi]
  rfl
 rw [this, List.foldl_append]
 rfl
theorem waitS_full (r : Rm) (m : List Or) (o : Or) (h : m.length = 10) : waitS r m o = m := by
 unfold waitS
 rw [if_neg (fun x => by omega)]
theorem wait_full (r : Rm) (m : List Or) (h : m.length = 10) : ∀ k : List Or, k.foldl (waitS r) m = m
 | [] => rfl
 | o :: k => by
   show k.foldl (waitS r) (waitS r m o) = m
   rw [waitS_full r m o h]
   exact wait_full r m h k
theorem wait_stop (r : Rm) (l : List Or) (i : Nat) (h : (waitB r (l.take i)).length = 10) : waitB r l = waitB r (l.take i) := by
 have e : waitB r l = ((l.take i) ++ (l.drop i)).foldl (waitS r) [] := by rw [List.take_append_drop]; rfl
 rw [e, List.foldl_append]
 exact wait_full r _ h _
theorem waitS_no (r : Rm) (m : List Or) (o : Or) (h : freshR r o = false) : waitS r m o = m := by
 unfold waitS
 rw [if_neg (fun x => by rw [h] at x; simp at x)]
theorem waitB_none (r : Rm) : ∀ l : List Or, (∀ o ∈ l, freshR r o = false) → l.foldl (waitS r) [] = []
 | [], _ => rfl
 | o :: l, h => by
   show l.foldl (waitS r) (waitS r [] o) = []
   rw [waitS_no r [] o (h o (by simp))]
   exact waitB_none r l (fun x hx => h x (List.mem_cons_of_mem _ hx))
theorem apply_who (r : Rm) (o : Or) (hr : RightR r) (h : mayO o = true) : pC (applyR r o).2.1 = oC o ∧ pQ (applyR r o).2.1 = oQ o := by
 rcases apply_ways r o hr h with ⟨e, e1, e2⟩ | ⟨e, e1, e2⟩ | ⟨e, e1⟩ | ⟨e, e1, e2⟩
 ·rw [e]
  exact ⟨(lastR_mem _ _ e1).2, e2⟩
 ·rw [e]
  exact ⟨rfl, rfl⟩
 ·rw [e]
  exact ⟨rfl, rfl⟩
 ·exact ⟨e2, e1⟩
theorem fold_who : ∀ (l : List Or) (r : Rm), RightR r → (∀ o ∈ l, mayO o = true) → (foldR r l).2.1.map (fun x => (pC x, pQ x)) = l.map fun o => (oC o, oQ o)
 | [], _, _, _ => rfl
 | o :: l, r, hr, h => by
   have h1 := apply_who r o hr (h o (by simp))
   have h2 := fold_who l (applyR r o).1 (right_apply r o hr) (fun x hx => h x (List.mem_cons_of_mem _ hx))
   show (pC (applyR r o).2.1, pQ (applyR r o).2.1) :: (foldR (applyR r o).1 l).2.1.map (fun x => (pC x, pQ x)) = (oC o, oQ o) :: _
   rw [h1.1, h1.2, h2]
theorem apply_more (r : Rm) (o : Or) (h : RightR r) : (mL r).length ≤ (mL (applyR r o).1).length := by
 unfold applyR
 split
 ·exact Nat.le_refl _
 split
 ·exact Nat.le_refl _
 split
 ·exact Nat.le_refl _
 split
 ·exact Nat.le_refl _
 show _ ≤ (seenR (ofR o (doneR r o).2.1) false (mL r)).length
 rw [seenR_len _ _ h.asc]
 split <;> omega
theorem fold_more : ∀ (l : List Or) (r : Rm), RightR r → (mL r).length ≤ (mL (foldR r l).1).length
 | [], _, _ => Nat.le_refl _
 | o :: l, r, hr => Nat.le_trans (apply_more r o hr) (fold_more l (applyR r o).1 (right_apply r o hr))
theorem apply_fresh (r : Rm) (o : Or) (hr : RightR r) (h : freshR r o = true) :
 (applyR r o = (r, noR o 9, []) ∧ (lastR (mL r) (oC o)).2 = false ∧ 50 ≤ (mL r).length) ∨
 (lastR (mL (applyR r o).1) (oC o) = ((applyR r o).2.1, true) ∧ pQ (applyR r o).2.1 = oQ o) := by
 unfold freshR at h
 rw [Bool.and_eq_true] at h
 have hq : (lastR (mL r) (oC o)).2 = true → pQ (lastR (mL r) (oC o)).1 < oQ o := by
  intro h2
  have h3 := h.2
  rw [h2] at h3
  simpa using h3
 have hm : ¬ mayO o = false := by rw [h.1]; simp
 by_cases h3 : (lastR (mL r) (oC o)).2 = false ∧ 50 ≤ (mL r).length
 ·refine .inl ⟨?_, h3⟩
  unfold applyR
  rw [if_neg hm, if_neg (fun x => by have := hq x.1; omega), if_neg (fun x => by have := hq x.1; omega), if_pos h3]
 ·have e : applyR r o = takenR r o := by
   unfold applyR
   rw [if_neg hm, if_neg (fun x => by have := hq x.1; omega), if_neg (fun x => by have := hq x.1; omega), if_neg h3]
  refine .inr ?_
  rw [e]
  refine ⟨?_, rfl⟩
  show lastR (seenR (ofR o (doneR r o).2.1) false (mL r)) (oC o) = _
  rw [seenR_last _ _ hr.asc, if_pos (show oC o = pC (ofR o (doneR r o).2.1) from rfl)]
  rfl
theorem apply_same (r : Rm) (o : Or) (h : mayO o = true) (h1 : ((lastR (mL r) (oC o)).2 = true ∧ pQ (lastR (mL r) (oC o)).1 = oQ o) ∨ ((lastR (mL r) (oC o)).2 = false ∧ 50 ≤ (mL r).length)) : (applyR r o).1 = r := by
 have hm : ¬ mayO o = false := by rw [h]; simp
 unfold applyR
 rcases h1 with h1 | h1
 ·rw [if_neg hm, if_pos h1]
 ·rw [if_neg hm, if_neg (fun x => by rw [h1.1] at x; simp at x), if_neg (fun x => by rw [h1.1] at x; simp at x), if_pos h1]
theorem fold_fresh : ∀ (l : List Or) (r : Rm), RightR r → (∀ o ∈ l, freshR r o = true) → l.Pairwise (fun a b => oC a ≠ oC b) →
 ∀ o ∈ l, ((lastR (mL (foldR r l).1) (oC o)).2 = true ∧ pQ (lastR (mL (foldR r l).1) (oC o)).1 = oQ o) ∨ ((lastR (mL (foldR r l).1) (oC o)).2 = false ∧ 50 ≤ (mL (foldR r l).1).length)
 | [], _, _, _, _ => fun _ h => by cases h
 | x :: l, r, hr, hf, hp => by
   have hx := hf x (by simp)
   have hR := right_apply r x hr
   have hu := (List.pairwise_cons.1 hp).1
   intro o ho
   show ((lastR (mL (foldR (applyR r x).1 l).1) (oC o)).2 = true ∧ pQ (lastR (mL (foldR (applyR r x).1 l).1) (oC o)).1 = oQ o) ∨ ((lastR (mL (foldR (applyR r x).1 l).1) (oC o)).2 = false ∧ 50 ≤ (mL (foldR (applyR r x).1 l).1).length)
   rcases List.mem_cons.1 ho with rfl | ho
   ·rw [last_fold (oC o) l _ hR (fun y hy => fun e => hu y hy e.symm)]
    rcases apply_fresh r o hr hx with ⟨e1, e2, e3⟩ | ⟨e1, e2⟩
    ·right
     have := fold_more l (applyR r o).1 hR
     rw [e1] at this ⊢
     dsimp only at this ⊢
     exact ⟨e2, by omega⟩
    ·left
     rw [e1]
     exact ⟨rfl, e2⟩
   ·refine fold_fresh l (applyR r x).1 hR (fun y hy => ?_) (List.pairwise_cons.1 hp).2 o ho
    have h1 := hf y (List.mem_cons_of_mem _ hy)
    unfold freshR at h1 ⊢
    rw [last_apply r x (oC y) hr (hu y hy)]
    exact h1
theorem fold_same : ∀ (l : List Or) (r : Rm), (∀ o ∈ l, (applyR r o).1 = r) → (foldR r l).1 = r
 | [], _, _ => rfl
 | o :: l, r, h => by
   show (foldR (applyR r o).1 l).1 = r
   rw [h o (by simp)]
   exact fold_same l r (fun x hx => h x (List.mem_cons_of_mem _ hx))
theorem fresh_may {r : Rm} {o : Or} (h : freshR r o = true) : mayO o = true := by
 unfold freshR at h
 rw [Bool.and_eq_true] at h
 exact h.1
theorem once_wait (r : Rm) (l : List Or) (hr : RightR r) (hf : ∀ o ∈ l, freshR r o = true) (hp : l.Pairwise (fun a b => oC a ≠ oC b)) :
 (foldR (foldR r l).1 l).1 = (foldR r l).1 ∧ ((mL (foldR r l).1).length < 50 → waitB (foldR r l).1 l = []) := by
 have h := fold_fresh l r hr hf hp
 refine ⟨fold_same l _ (fun o ho => apply_same _ o (fresh_may (hf o ho)) (h o ho)), fun h5 => waitB_none _ l (fun o ho => ?_)⟩
 rcases h o ho with h1 | h1
 ·unfold freshR
  rw [h1.1, h1.2]
  simp
 ·omega
theorem toList_txtE (l : List UInt8) : (⟨l.toArray⟩ : ByteArray).toList = l := by rw [Lib.toList_data]
theorem txt_eqE (x y : List UInt8) (h : x = y) : (x == y) = true := by simpa using h
theorem txt_neE (x y : List UInt8) (h : x ≠ y) : (x == y) = false := by simpa using h
theorem int_neE (x y : Int) (h : x ≠ y) : (x == y) = false := by rw [beq_eq_false_iff_ne]; exact h
theorem int_eqE (x y : Int) (h : x = y) : (x == y) = true := by rw [h]; exact beq_self_eq_true y
theorem RdE.ofBlks {α : Type} {E : RowK α} {w : World} {g : Nat} {l : List α} {e : TypeId} (h : Blk w g (rowsE E l) e) (hl : l.length ≤ maxLen) : RdE E (g + 1) w (.slice (some ⟨g, 0, none⟩) l.length l.length) l := by
 refine ⟨some ⟨g, 0, none⟩, l.length, rfl, Nat.le_refl _, hl, fun h => (by cases h), fun a ha => ?_⟩
 cases ha
 refine ⟨fun _ => Nat.lt_succ_self _, fun j u hu => ?_⟩
 have hadd : (⟨g, 0, none⟩ : Addr).add j = ⟨g, j, none⟩ := by unfold Addr.add; split <;> simp_all
 rw [hadd]
 exact (h.cell j).trans hu
theorem one_of {v : Value} (h : v.oneCell' = true) : [v].toArray.all (·.oneCell') = true := by simp [h]
end Go.Proofs.YtgfobinklijkpaaGreatDoor
