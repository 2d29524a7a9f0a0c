/-
  Package purse: its cells in memory, isTree, leaves, Right and Crash, for every input that they are called with.
  A purse, compared with itself, is equal.
  Words for slices of bools that came in as an argument, and for ints that a call owns: what they read as, and what append does to them. Each theorem states its own conditions.
-/
import Derived.Test.YtgabkeohihdenaaLB
import Derived.Laws.StructEq
import Derived.Deep.Grids
namespace Go.Proofs.Ytgabkeohihdenaa
open Go.RowKit

/-- The cells of a purse. -/
def pcs (I seed : List UInt8) (z y n m s : Int) : List Value := tcs I seed z y ++ [.int .i64 n, .int .i64 m, .int .i64 s]
theorem pcs_length (I seed : List UInt8) (z y n m s : Int) (hI : I.length = 16) (hs : seed.length = 32) : (pcs I seed z y n m s).length = 53 := by simp [pcs, tcs_length I seed z y hI hs]
theorem pcs_z (I seed : List UInt8) (z y n m s : Int) (hI : I.length = 16) (hs : seed.length = 32) : (pcs I seed z y n m s)[48]? = some (.int .i64 z) := by
  unfold pcs
  rw [List.getElem?_append_left (by rw [tcs_length I seed z y hI hs]; omega)]
  exact tcs_z I seed z y hI hs
theorem pcs_y (I seed : List UInt8) (z y n m s : Int) (hI : I.length = 16) (hs : seed.length = 32) : (pcs I seed z y n m s)[49]? = some (.int .i64 y) := by
  unfold pcs
  rw [List.getElem?_append_left (by rw [tcs_length I seed z y hI hs]; omega)]
  exact tcs_y I seed z y hI hs
theorem pcs_n (I seed : List UInt8) (z y n m s : Int) (hI : I.length = 16) (hs : seed.length = 32) : (pcs I seed z y n m s)[50]? = some (.int .i64 n) := by
  unfold pcs
  rw [List.getElem?_append_right (by rw [tcs_length I seed z y hI hs]; omega), tcs_length I seed z y hI hs]
  rfl
theorem pcs_m (I seed : List UInt8) (z y n m s : Int) (hI : I.length = 16) (hs : seed.length = 32) : (pcs I seed z y n m s)[51]? = some (.int .i64 m) := by
  unfold pcs
  rw [List.getElem?_append_right (by rw [tcs_length I seed z y hI hs]; omega), tcs_length I seed z y hI hs]
  rfl
theorem pcs_s (I seed : List UInt8) (z y n m s : Int) (hI : I.length = 16) (hs : seed.length = 32) : (pcs I seed z y n m s)[52]? = some (.int .i64 s) := by
  unfold pcs
  rw [List.getElem?_append_right (by rw [tcs_length I seed z y hI hs]; omega), tcs_length I seed z y hI hs]
  rfl
theorem pcs_range {w : World} {g : Nat} {I seed : List UInt8} {z y n m s : Int} {t : TypeId} (h : Blk w g (pcs I seed z y n m s) t) : w.rangeAt g 0 (tcs I seed z y) := fun j v hv => by
  have hj : j < (tcs I seed z y).length := (List.getElem?_eq_some_iff.1 hv).1
  rw [h.cell, Nat.zero_add]
  unfold pcs
  rw [List.getElem?_append_left hj]
  exact hv
theorem pcs_one (I seed : List UInt8) (z y n m s : Int) : (pcs I seed z y n m s).toArray.all (·.oneCell') = true := by
  have h := tcs_one I seed z y
  rw [Array.all_eq_true'] at h ⊢
  intro v hv
  simp only [pcs, List.mem_toArray, List.mem_append, List.mem_cons, List.not_mem_nil, or_false] at hv h
  rcases hv with a | a | a | a
  · exact h v a
  · subst a; rfl
  · subst a; rfl
  · subst a; rfl
theorem pcs_setn (I seed : List UInt8) (z y n m s n' : Int) (hI : I.length = 16) (hs : seed.length = 32) : (pcs I seed z y n m s).set 50 (.int .i64 n') = pcs I seed z y n' m s := by
  unfold pcs
  rw [List.set_append_right _ _ (by rw [tcs_length I seed z y hI hs]; omega), tcs_length I seed z y hI hs]
  rfl
theorem pcs_setm (I seed : List UInt8) (z y n m s m' : Int) (hI : I.length = 16) (hs : seed.length = 32) : (pcs I seed z y n m s).set 51 (.int .i64 m') = pcs I seed z y n m' s := by
  unfold pcs
  rw [List.set_append_right _ _ (by rw [tcs_length I seed z y hI hs]; omega), tcs_length I seed z y hI hs]
  rfl
def pcs0 : List Value := pcs K16 K32 0 0 0 0 0
theorem wpList_load_midG {P : Program} {w : World} {ops : Array Oper} {rest : List Oper} {o : Oper} {a : Act} {Q : Exit → Act → World → Prop} (t : TypeId) (x : Operand) (ho : o.op = .load t x) (g off : Nat) (hx : a.eval x = .pointer (some ⟨g, off, none⟩)) (cs : List Value) (d : TypeDesc) (hc : w.rangeAt g off cs)
    (hu : P.underlying t = some d) (hd : d.isRow = true) (hi : (P.info? t).map (·.size) = some cs.length) (hw : Region.wanted o (yielded ops a.tmps) = true)
    (h : wpList P ops Q rest (a.put o.dst (.agg cs.toArray)) w) : wpList P ops Q (o :: rest) a w := by
  refine BigFrame.wpList_want hw (fun K hK => ?_)
  unfold Oper.wp
  rw [run_load_midU t x ho g off hx cs d hc hu hd hi]
  exact hK _ _ h

end Go.Proofs.Ytgabkeohihdenaa

namespace Go.Proofs.Ytgabkeohihdenaa
open Go.RowKit

theorem run_sizeOf_of {P : Program} (t : TypeId) (n : Nat) (h : (P.info? t).map (·.size) = some n) (w : World) : (sizeOf t).run P w = .ok n w := by
  cases hq : P.info? t with
  | none => rw [hq] at h; cases h
  | some i =>
    rw [hq] at h
    simp only [Option.map_some, Option.some.injEq] at h
    simp [sizeOf, typeInfo, hq, h]
theorem run_part_agg {P : Program} (t : TypeId) (d : TypeDesc) (n off : Nat) (cs cs' : List Value) (hu : P.underlying t = some d) (hd : d.isRow = true) (hn : (P.info? t).map (·.size) = some n) (he : (cs.drop off).take n = cs') (w : World) : (part t cs.toArray off).run P w = .ok (.agg cs'.toArray) w := by
  have ha : (isAgg t).run P w = .ok true w := by
    unfold isAgg
    simp only [Sem.run_bind, run_underlying hu, Result.andThen_ok]
    cases d <;> first | rfl | cases hd
  unfold part
  simp only [Sem.run_bind, ha, Result.andThen_ok, if_true, run_sizeOf_of t n hn, Sem.run_pure]
  congr 2
  rw [← he]
  simp
theorem run_part_int {P : Program} (t : TypeId) (k : IntKind) (off : Nat) (cs : List Value) (v : Value) (hu : P.underlying t = some (.int k)) (he : cs[off]? = some v) (w : World) : (part t cs.toArray off).run P w = .ok v w := by
  simp [part, isAgg, run_underlying hu, he]
theorem eqInt_same {P : Program} (t : TypeId) (k : IntKind) (z : Int) (d : Nat) (hu : P.underlying t = some (.int k)) (w : World) : (Op.equalIn (d + 1) t (.int k z) (.int k z)).run P w = .ok true w := by
  rw [run_equalIn_int w d t k k z z hu]; simp

/-- Fields that are all equal to themselves. -/
theorem eqFields_same {P : Program} (d : Nat) (cs : List Value) (w : World) : ∀ (fs : List Field), (∀ f ∈ fs, ∃ v, (part f.type cs.toArray f.offset).run P w = .ok v w ∧ (Op.equalIn d f.type v v).run P w = .ok true w) → (Op.eqFields d cs.toArray cs.toArray fs).run P w = .ok true w
  | [], _ => by simp [Op.eqFields]
  | f :: fs, h => by
    obtain ⟨v, h1, h2⟩ := h f (by simp)
    have ih := eqFields_same d cs w fs (fun g hg => h g (by simp [hg]))
    unfold Op.eqFields
    split
    · simp only [Sem.run_bind, h1, h2, Result.andThen_ok, Bool.not_true, Bool.false_eq_true, if_false]
      exact ih
    · exact ih
theorem field_of {fs : List Field} {l : List (Bool × TypeId × Nat)} (h : fs.map (fun f => (f.name == "_", f.type, f.offset)) = l) {f : Field} (hf : f ∈ fs) : ∃ b, (b, f.type, f.offset) ∈ l := by
  refine ⟨f.name == "_", ?_⟩
  rw [← h]
  exact List.mem_map.2 ⟨f, hf, rfl⟩
theorem run_eql_agg {P : Program} {o : Oper} {a : Act} {w : World} (t t2 : TypeId) (x y : Operand) (ho : o.op = .binOp .eql t x y t2) (xs ys : Array Value) (hx : a.eval x = .agg xs) (hy : a.eval y = .agg ys) (hg : P.eqGuardType P.depth t = false) (r : Bool) (he : (Op.equalIn 10000 t (.agg xs) (.agg ys)).run P w = .ok r w) :
    (execOp a.eval o).run P w = .ok (.value (.bool r)) w := by
  unfold execOp
  simp only [ho, hx, hy]
  have e : (binOp .eql t (.agg xs) (.agg ys)).run P w = .ok (.bool r) w := by
    show (do pure (Value.bool (← Op.equal t (.agg xs) (.agg ys))) : Sem Value).run P w = _
    unfold Op.equal
    simp only [Sem.run_bind, show Op.maxDepth = 10000 from rfl, he, Result.andThen_ok, Sem.run_pure]
  simp only [Sem.run_bind, run_eqGuard_agg w .eql t x y xs ys hg, Result.andThen_ok, e, Sem.run_pure]
theorem run_neq_agg {P : Program} {o : Oper} {a : Act} {w : World} (t t2 : TypeId) (x y : Operand) (ho : o.op = .binOp .neq t x y t2) (xs ys : Array Value) (hx : a.eval x = .agg xs) (hy : a.eval y = .agg ys) (hg : P.eqGuardType P.depth t = false) (r : Bool) (he : (Op.equalIn 10000 t (.agg xs) (.agg ys)).run P w = .ok r w) :
    (execOp a.eval o).run P w = .ok (.value (.bool (!r))) w := by
  unfold execOp
  simp only [ho, hx, hy]
  have e : (binOp .neq t (.agg xs) (.agg ys)).run P w = .ok (.bool (!r)) w := by
    show (do pure (Value.bool (!(← Op.equal t (.agg xs) (.agg ys)))) : Sem Value).run P w = _
    unfold Op.equal
    simp only [Sem.run_bind, show Op.maxDepth = 10000 from rfl, he, Result.andThen_ok, Sem.run_pure]
  simp only [Sem.run_bind, run_eqGuard_agg w .neq t x y xs ys hg, Result.andThen_ok, e, Sem.run_pure]
theorem wpList_runG {P : Program} {w : World} {ops : Array Oper} {rest : List Oper} {o : Oper} {a : Act} {Q : Exit → Act → World → Prop} (v : Value) (hr : (execOp a.eval o).run P w = .ok (.value v) w) (hw : Region.wanted o (yielded ops a.tmps) = true)
    (h : wpList P ops Q rest (a.put o.dst v) w) : wpList P ops Q (o :: rest) a w := by
  refine BigFrame.wpList_want hw (fun K hK => ?_)
  unfold Oper.wp
  rw [hr]
  exact hK _ _ h
end Go.Proofs.Ytgabkeohihdenaa

namespace Go.Proofs.Ytgabkeohihdenaa
open Go.RowKit

/-- The slice value v reads as the bools l; it lies below block B. Nil reads as none. -/
def RdO (B : Nat) (w : World) (v : Value) (l : List Bool) : Prop :=
  ∃ A c, v = .slice A l.length c ∧ l.length ≤ c ∧ c ≤ maxLen ∧ (A = none → c = 0) ∧
    ∀ a, A = some a → (0 < l.length → a.block < B) ∧ ∀ j (h : j < l.length), w.cell? (a.add j) = some (.bool l[j])
theorem RdO.keep {B : Nat} {w w' : World} {v : Value} {l : List Bool} (h : RdO B w v l) (hk : ∀ p : Addr, p.block < B → w'.cell? p = w.cell? p) : RdO B w' v l := by
  obtain ⟨A, c, hv, hc, hm, hn, hr⟩ := h
  refine ⟨A, c, hv, hc, hm, hn, fun a ha => ⟨(hr a ha).1, fun j hj => ?_⟩⟩
  rw [hk _ (by rw [addr_block]; exact (hr a ha).1 (by omega))]
  exact (hr a ha).2 j hj
theorem RdO.below {B : Nat} {w w' : World} {v : Value} {l : List Bool} (h : RdO B w v l) (hb : Below B w w') : RdO B w' v l := h.keep fun _ hp => hb.cell hp
theorem RdO.nil (B : Nat) (w : World) : RdO B w (.slice none 0 0) [] := ⟨none, 0, rfl, Nat.le_refl _, Nat.zero_le _, fun _ => rfl, fun _ h => by cases h⟩
theorem RdO.shape {B : Nat} {w : World} {v : Value} {l : List Bool} (h : RdO B w v l) : ∃ A c, v = .slice A l.length c ∧ l.length ≤ c ∧ c ≤ maxLen := by
  obtain ⟨A, c, hv, h1, h2, _⟩ := h
  exact ⟨A, c, hv, h1, h2⟩
theorem RdO.at_ {B : Nat} {w : World} {A : Option Addr} {n c : Nat} {l : List Bool} (h : RdO B w (.slice A n c) l) (j : Nat) (hj : j < l.length) : ∃ a, A = some a ∧ w.cell? (a.add j) = some (.bool (l.getD j false)) := by
  obtain ⟨A', c', hv, hc, hm, hn, hr⟩ := h
  injection hv with h1 h2 h3
  subst h1 h2 h3
  cases A with
  | none => have := hn rfl; omega
  | some a => exact ⟨a, rfl, by rw [(hr a rfl).2 j hj]; simp [hj]⟩

theorem open_bools6 {H : Type} {enc : TypeId × Value → H} {P : Program} {W : World} {t e : TypeId} {a : Option Addr} {len cap : Nat} {d : DataW H} {p : List MemPlace} (ht : P.underlying t = some (.slice e)) (he : P.underlying e = some .bool) (hc : P.cellsOf e = 1)
    (h : DataW.Trod enc P W 0 (fun _ => true) true t (.slice a len cap) d p) : ∃ l : List Bool, RdO W.heap.size W (.slice a len cap) l := by
  obtain ⟨fuel, hf⟩ := h
  rcases Deep.open_bools ht he hc hf with ⟨hcs, _⟩ | ⟨x, l, c, B, hcs, _, hl, hm, _, hcell⟩
  · simp [Value.cells] at hcs
    obtain ⟨rfl, rfl, rfl⟩ := hcs
    exact ⟨[], RdO.nil _ _⟩
  · simp [Value.cells] at hcs
    obtain ⟨rfl, rfl, rfl⟩ := hcs
    have hread : ∀ j (h : j < ((List.range len).map B).length), W.cell? (x.add j) = some (.bool ((List.range len).map B)[j]) := by
      intro j hj
      have hj2 : j < len := by simpa using hj
      rw [hcell j (by omega)]
      simp
    refine ⟨(List.range len).map B, some x, cap, by simp, by simpa using hl, hm, fun h => (by cases h), fun y hy => ?_⟩
    cases hy
    refine ⟨fun h0 => ?_, hread⟩
    have := World.block_lt_of_cell? W _ (hread 0 h0)
    rwa [addr_block] at this

theorem OwnI.but {g base : Nat} {e : TypeId} {w w' : World} {v : Value} {l : List Nat} (h : OwnI e w base v l) (hb : But g w w') (hg : g < base) : OwnI e w' base v l := by
  obtain ⟨h0, h1⟩ := h
  refine ⟨h0, ?_⟩
  rcases h1 with h1 | ⟨b, cap, cur, hv, hbb, hh, r⟩
  · exact .inl h1
  · refine .inr ⟨b, cap, cur, hv, hbb, ?_, r⟩
    have hlt : b < w.heap.size := (Array.getElem?_eq_some_iff.1 hh).1
    rw [hb.block b hlt (by omega)]
    exact hh
theorem OwnI.madeS (e : TypeId) (w : World) : OwnI e (w.alloc (.cells #[] e)) w.heap.size (.slice (some ⟨w.heap.size, 0, none⟩) 0 0) [] :=
  World.ownsRow_made w #[] 0 (Nat.le_refl _) (Nat.zero_le _) rfl
theorem Blk.grown {w w' : World} {g : Nat} {cs : List Value} {t : TypeId} {row : Option Nat} (h : Blk w g cs t) (hg : w.grownBy w' row) (hne : some g ≠ row) : Blk w' g cs t := by
  unfold Blk
  rw [hg.block g h.lt hne]
  exact h
/-- append of one int onto ints that are owned: what other blocks hold stays. -/
theorem wpList_app1G {P : Program} {w : World} {ops : Array Oper} {rest : List Oper} {o : Oper} {a : Act} {Q : Exit → Act → World → Prop}
    (hgd : o.guard = none) (s x : Operand) (t : TypeId) (ho : o.op = .call { callee := .builtin .append, args := #[s, x], argTypes := #[t, t] })
    (e : TypeId) (i : TypeInfo) (ht : P.underlying t = some (.slice e)) (hi : P.info? e = some i) (hz : i.zero = some (.int .i64 0)) (hsize : i.size = 1) (hby : i.bytes = 8)
    (base : Nat) (v : Value) (l : List Nat) (b : Nat) (ad : Addr) (hs : a.eval s = v) (hown : OwnI e w base v l) (hx : a.eval x = .slice (some ad) 1 1) (hc : w.cell? ad = some (.int .i64 (b : Int)))
    (hlen : l.length ≤ 1099511627776) (hbase : base ≤ w.heap.size)
    (h : ∀ v' w', OwnI e w' base v' (l ++ [b]) → w.grownBy w' v.ownBlock → wpList P ops Q rest (a.put o.dst v') w') : wpList P ops Q (o :: rest) a w := by
  have h63 : l.length + 1 ≤ maxLen := by unfold maxLen; omega
  refine wpList_append_own w hgd s x t ho base e i (.int .i64 0) 1 8 ht hi hz hsize hby rfl (by decide) v l.length (ins l) hs hown ad 1 1 [.int .i64 (b : Int)] hx rfl ?_ ?_ h63 (by omega) hbase ?_
  · intro j u hu
    have hadd : ad.add 0 = ad := by simp [Addr.add]
    match j, hu with
    | 0, hu =>
      simp at hu
      subst hu
      rw [hadd]
      exact hc
  · intro u hu
    simp at hu
    subst hu
    rfl
  · intro v' w' h1 h2 _
    refine h v' w' ?_ h2
    unfold OwnI
    rw [List.length_append, ins_append]
    exact h1

end Go.Proofs.Ytgabkeohihdenaa
