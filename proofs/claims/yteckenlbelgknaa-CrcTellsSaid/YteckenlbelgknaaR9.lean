/-
  append of a row where another operation guards it, and it is wanted. Words of no program.
-/
import Derived.Test.YteckenlbelgknaaR4
import Derived.BigFrame
namespace Go.Proofs.Yteckenlbelgknaa
open Go.RowKit

theorem wpList_appFG {α : Type} {E : RowK α} {P : Program} {w : World} {ops : Array Oper} {rest : List Oper} {o : Oper} {a : Act} {Q : Exit → Act → World → Prop}
    (hgd : Region.wanted o (yielded ops a.tmps) = true) (s x : Operand) (t : TypeId) (ho : o.op = .call { callee := .builtin .append, args := #[s, x], argTypes := #[t, t] })
    (e : TypeId) (bytes : Nat) (ht : P.underlying t = some (.slice e)) (hk : KindOf P e E bytes)
    (base B : Nat) (v vx : Value) (l m : List α) (hs : a.eval s = v) (hown : OwnE E e w base v l) (hx : a.eval x = vx) (hr : RdE E B w vx m)
    (hlen : (l.length + m.length) * bytes ≤ 140737488355328) (h63 : l.length + m.length ≤ 9223372036854775807) (hbase : base ≤ w.heap.size)
    (h : ∀ v' w', OwnE E e w' base v' (l ++ m) → Below base w w' → w.grownBy w' v.ownBlock → wpList P ops Q rest (a.put o.dst v') w') : wpList P ops Q (o :: rest) a w := by
  obtain ⟨i, z, hi, hz, hsize, hby, hzs⟩ := hk
  obtain ⟨A, c, hv, hc, hm, hn, hrr⟩ := hr
  refine BigFrame.wpList_want hgd fun K hK => ?_
  cases A with
  | none =>
    have h0 : c = 0 := hn rfl
    have h1 : m.length = 0 := by omega
    have h2 : m = [] := List.eq_nil_of_length_eq_zero h1
    subst h0 h2
    have hrun := run_append_owned_none (P := P) (w := w) base t o.type e i E.k ht hi v l.length (rowsE E l) hown
    unfold Oper.wp execOp
    simp only [ho, resolve, invoke, builtin, Sem.run_bind, Sem.run_pure, Result.andThen_ok, List.map_toArray, List.map_cons, List.map_nil, hs, hx, hv, List.length_nil, hrun]
    exact hK _ _ (h v w (by rw [List.append_nil]; exact hown) (Below.refl _ _) ⟨rfl, rfl, rfl, Nat.le_refl _, fun _ _ _ => rfl⟩)
  | some ad =>
    obtain ⟨v', w', hrun, g1, g2, _⟩ := run_append_own (P := P) w base t o.type e i z E.k bytes ht hi hz hsize hby hzs E.pos v l.length (rowsE E l) hown ad m.length c (rowsE E m) (rowsE_length E m) (hrr ad rfl).2 (rowsE_cell E m) (by unfold maxLen; omega) hlen hbase
    unfold Oper.wp execOp
    simp only [ho, resolve, invoke, builtin, Sem.run_bind, Sem.run_pure, Result.andThen_ok, List.map_toArray, List.map_cons, List.map_nil, hs, hx, hv, hrun]
    refine hK _ _ (h v' w' ?_ (OwnE.grown hown g2 hbase) g2)
    unfold OwnE
    rw [List.length_append, rowsE_append]
    exact g1
end Go.Proofs.Yteckenlbelgknaa
