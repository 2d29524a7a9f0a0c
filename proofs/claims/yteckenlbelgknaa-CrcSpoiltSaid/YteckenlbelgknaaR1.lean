/-
  Blocks and rows beside one another: what a store into one leaves of the others. Each theorem states its own conditions.
-/
import Derived.Test.YteckenlbelgknaaR0
import Derived.Test.YteckenlbelgknaaLB
namespace Go.Proofs.Yteckenlbelgknaa
open Go.RowKit

theorem Blk.same {w w' : World} {g : Nat} {cs : List Value} {t : TypeId} (h : Blk w g cs t) (hO : w'.heap[g]? = w.heap[g]?) : Blk w' g cs t := by
  unfold Blk
  rw [hO]
  exact h
theorem ownsRow_same {w w' : World} {b : Nat} {e : TypeId} {s : Nat} {v : Value} {n : Nat} {xs : List Value} (h : w.ownsRow b e s v n xs) (hO : ∀ k, b ≤ k → w'.heap[k]? = w.heap[k]?) : w'.ownsRow b e s v n xs := by
  refine ⟨h.1, ?_⟩
  rcases h.2 with hn | ⟨g, cap, cur, rfl, hg0, hg1, r⟩
  · exact .inl hn
  · exact .inr ⟨g, cap, cur, rfl, hg0, by rw [hO g hg0]; exact hg1, r⟩
theorem ownsRow_other {w w' : World} {b b' : Nat} {e e' : TypeId} {s s' : Nat} {v v' : Value} {n n' : Nat} {xs xs' : List Value} (hne : e ≠ e') (h : w.ownsRow b e s v n xs) (h' : w.ownsRow b' e' s' v' n' xs') (hg : w.grownBy w' v'.ownBlock) : w'.ownsRow b e s v n xs := by
  refine ⟨h.1, ?_⟩
  rcases h.2 with hn | ⟨g, cap, cur, rfl, hg0, hg1, r⟩
  · exact .inl hn
  · have hlt : g < w.heap.size := (Array.getElem?_eq_some_iff.1 hg1).1
    refine .inr ⟨g, cap, cur, rfl, hg0, ?_, r⟩
    rw [hg.block g hlt ?_]
    · exact hg1
    · intro he
      rcases h'.2 with ⟨rfl, _⟩ | ⟨g', cap', cur', rfl, _, hg1', _⟩
      · cases he
      · injection he with he
        have he2 : g = g' := he
        subst he2
        rw [hg1] at hg1'
        injection hg1' with hg1'
        injection hg1' with _ h3
        exact hne h3
/-- The whole row is written: the world behind it. -/
theorem wpList_store_to {P : Program} {w : World} {ops : Array Oper} {rest : List Oper} {o : Oper} {a : Act} {Q : Exit → Act → World → Prop} (hg : o.guard = none) (t : TypeId) (x y : Operand) (ho : o.op = .store t x y) (g : Nat) (cs old : List Value) (u : TypeId)
    (hx : a.eval x = .pointer (some ⟨g, 0, none⟩)) (hy : a.eval y = .agg cs.toArray) (hb : Blk w g old u) (hi : (P.info? t).map (·.size) = some cs.length) (hl : old.length = cs.length) (h1 : cs.toArray.all (·.oneCell') = true)
    (h : ∀ w', Blk w' g cs u → w'.heap.size = w.heap.size → Below g w w' → (∀ k, k ≠ g → w'.heap[k]? = w.heap[k]?) → wpList P ops Q rest (a.put o.dst undef) w') : wpList P ops Q (o :: rest) a w := by
  refine wpList_store_blk hg t x y ho g cs old u hx hy hb hi hl h1 ?_
  exact h _ hb.setRow (by simp [World.setRow]) (below_setRow' (Below.refl _ _) (Nat.le_refl _) _) (fun k hne => setRow_other w g k _ hne)
theorem ownsRow_but {w w' : World} {b gN : Nat} {e : TypeId} {s : Nat} {v : Value} {n : Nat} {xs : List Value} (h : w.ownsRow b e s v n xs) (hne : v.ownBlock ≠ some gN) (hO : ∀ k, k ≠ gN → w'.heap[k]? = w.heap[k]?) : w'.ownsRow b e s v n xs := by
  refine ⟨h.1, ?_⟩
  rcases h.2 with hn | ⟨g, cap, cur, rfl, hg0, hg1, r⟩
  · exact .inl hn
  · exact .inr ⟨g, cap, cur, rfl, hg0, by rw [hO g (fun e => hne (by rw [← e]; rfl))]; exact hg1, r⟩
/-- The new row and the new node, in memory. -/
theorem slice_one (A : Option Addr) (n c : Nat) : [Value.slice A n c].toArray.all (·.oneCell') = true := by
  rw [Array.all_eq_true_iff_forall_mem]
  intro v hv
  simp at hv
  subst hv
  rfl
theorem wpList_box_one {P : Program} {w : World} {ops : Array Oper} {rest : List Oper} {o : Oper} {a : Act} {Q : Exit → Act → World → Prop} (hg : o.guard = none) (t : TypeId) (x : Operand) (ho : o.op = .box t x) (v : Value) (hx : a.eval x = v) (hv : v.cells = #[v])
    (h : ∀ w1, Blk w1 w.heap.size [v] t → w1.heap.size = w.heap.size + 1 → Below w.heap.size w w1 → wpList P ops Q rest (a.put o.dst (.pointer (some ⟨w.heap.size, 0, none⟩))) w1) : wpList P ops Q (o :: rest) a w := by
  refine wpList_plain hg fun K hK => ?_
  unfold Oper.wp execOp
  simp only [ho, hx, hv, Sem.run_bind, Instr.box, newVar, newRow, run_newObj_alloc, Sem.run_pure, Result.andThen_ok]
  exact hK _ _ (h _ (heap_alloc_new w _) (by simp) ((Below.refl _ _).alloc (Nat.le_refl _) _))

theorem run_part_cell {P : Program} (t : TypeId) (off : Nat) (cs : List Value) (v : Value) (ha : ∀ w, (isAgg t).run P w = .ok false w) (he : cs[off]? = some v) (w : World) : (part t cs.toArray off).run P w = .ok v w := by
  simp [part, ha, he]
end Go.Proofs.Yteckenlbelgknaa
