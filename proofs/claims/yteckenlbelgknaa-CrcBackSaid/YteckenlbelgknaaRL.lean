/-
  append onto one's own row of bytes as an operation that comes up alone. Words of no program.
-/
import Derived.Test.YteckenlbelgknaaRK
import Derived.OwnWalk
namespace Go.Proofs.Yteckenlbelgknaa
open Go.RowKit

section
variable {P : Program} {Q : Exit → Act → World → Prop}
theorem wp_appO {o : Oper} {a : Act} {w : World} {K : Act → World → Prop} (s x : Operand) (t : TypeId) (ho : o.op = .call { callee := .builtin .append, args := #[s, x], argTypes := #[t, t] })
    (e : TypeId) (i : TypeInfo) (ht : P.underlying t = some (.slice e)) (hi : P.info? e = some i) (hz : i.zero = some (.int .u8 0)) (hsize : i.size = 1) (hby : i.bytes = 1)
    (base B : Nat) (v v2 : Value) (l l2 : List UInt8) (hs : a.eval s = v) (hown : Own e w base v l) (hx : a.eval x = v2) (hr : Rd B w v2 l2)
    (hlen : l.length + l2.length ≤ 140737488355328) (hbase : base ≤ w.heap.size)
    (h : ∀ v' w', Own e w' base v' (l ++ l2) → Below base w w' → K (a.put o.dst v') w') : o.wp P a w K Q := by
  obtain ⟨A, c, rfl, hc, hm, hn, hcell⟩ := hr
  have h63 : l.length + l2.length ≤ maxLen := by unfold maxLen; omega
  cases A with
  | none =>
    have hc0 := hn rfl
    have hl0 : l2.length = 0 := by omega
    have hl2 : l2 = [] := List.eq_nil_of_length_eq_zero hl0
    subst hl2
    subst hc0
    have hrun := run_append_owned_none (P := P) w base t o.type e i 1 ht hi v l.length (bys l) hown
    have hx' : a.eval x = .slice none 0 0 := hx
    unfold Oper.wp execOp
    simp only [ho, resolve, invoke, builtin, Sem.run_bind, Sem.run_pure, Result.andThen_ok, List.map_toArray, List.map_cons, List.map_nil, hs, hx', hrun]
    exact h v w (by simpa using hown) (Below.refl _ _)
  | some ad =>
    obtain ⟨v', w', hrun, h1, h2, _⟩ := run_append_own (P := P) w base t o.type e i (.int .u8 0) 1 1 ht hi hz hsize hby rfl (by decide) v l.length (bys l) hown ad l2.length c (bys l2) (by rw [bys_length, Nat.mul_one]) (fun j u hu => by obtain ⟨hj, rfl⟩ := bys_at l2 j u hu; exact (hcell ad rfl).2 j hj) (bys_one l2) h63 (by omega) hbase
    unfold Oper.wp execOp
    simp only [ho, resolve, invoke, builtin, Sem.run_bind, Sem.run_pure, Result.andThen_ok, List.map_toArray, List.map_cons, List.map_nil, hs, hx, hrun]
    refine h v' w' ?_ (Own.grown hown h2 hbase)
    unfold Own
    rw [List.length_append, bys_append]
    exact h1
end
end Go.Proofs.Yteckenlbelgknaa
