/-
  The program's watches: two are compared; slices.Index, slices.Contains are behind it. Single variables in memory. Each theorem states its own conditions.
-/
import Derived.Test.YtmiomfonglmfjaaUB
import Derived.Great.BuildSlice
namespace Go.Proofs.Ytmiomfonglmfjaa
open Go.RowKit

theorem run_neqEWa (x y : Wa) (w : World) : (binOp .neq 31 (.agg #[txt (wP x), .int .i64 (wC x), .bool (wK x)]) (.agg #[txt (wP y), .int .i64 (wC y), .bool (wK y)])).run Try.prog w = .ok (.bool (!decide (x = y))) w := run_neqWaP x y w

/-- A variable of one cell: new; written. -/
theorem wpList_alloc_one {P : Program} {w : World} {ops : Array Oper} {rest : List Oper} {o : Oper} {a : Act} {Q : Exit → Act → World → Prop} (hg : o.guard = none) (t : TypeId) (ho : o.op = .alloc t) (z : Value) (hz : (P.info? t).map (·.zero) = some (some z)) (hv : z.cells = #[z])
    (h : ∀ w1, Blk w1 w.heap.size [z] t → w1.heap.size = w.heap.size + 1 → Below w.heap.size w w1 → wpList P ops Q rest (a.put o.dst (.pointer (some ⟨w.heap.size, 0, none⟩))) w1) : wpList P ops Q (o :: rest) a w := by
  refine wpList_plain hg fun K hK => ?_
  have hzero : (zeroValue t).run P w = .ok z w := by
    cases hq : P.info? t with
    | none => simp [hq] at hz
    | some i => simp [hq] at hz; simp [zeroValue, typeInfo, hq, hz]
  unfold Oper.wp execOp
  simp only [ho, hv, Sem.run_bind, Instr.alloc, hzero, newVar, newRow, run_newObj_alloc, Sem.run_pure, Result.andThen_ok]
  exact hK _ _ (h _ (heap_alloc_new w _) (by simp) ((Below.refl _ _).alloc (Nat.le_refl _) _))
theorem wpList_put_one {P : Program} {w : World} {ops : Array Oper} {rest : List Oper} {o : Oper} {a : Act} {Q : Exit → Act → World → Prop} (hg : o.guard = none) (t : TypeId) (x y : Operand) (ho : o.op = .store t x y) (g : Nat) (v old : Value) (u : TypeId)
    (hx : a.eval x = .pointer (some ⟨g, 0, none⟩)) (hy : a.eval y = v) (hb : Blk w g [old] u) (hi : (P.info? t).map (·.size) = some 1) (h1 : v.oneCell' = true)
    (h : ∀ w', Blk w' g [v] u → w'.heap.size = w.heap.size → Below g w w' → (∀ k, k ≠ g → w'.heap[k]? = w.heap[k]?) → wpList P ops Q rest (a.put o.dst undef) w') : wpList P ops Q (o :: rest) a w := by
  subst hy
  refine wpList_store_one hg t x y ho g hx h1 u old hb hi ?_
  exact h _ (Blk.setRow (cs' := [a.eval y]) hb) (by simp [World.setRow]) (below_setRow' (Below.refl _ _) (Nat.le_refl _) _) (fun k hne => setRow_other w g k _ hne)
end Go.Proofs.Ytmiomfonglmfjaa
