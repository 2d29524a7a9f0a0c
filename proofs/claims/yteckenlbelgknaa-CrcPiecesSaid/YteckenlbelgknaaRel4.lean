/-
  The rule of Rel for operations that another one guards, of no program: one that is wanted, and one that is not.
-/
import Derived.Test.YteckenlbelgknaaMs
namespace Go.Proofs.Yteckenlbelgknaa
open Go.RowKit

section
variable {P : Program} {l : List Oper} {Q : Exit → Act → World → Prop} {F : (Nat → Value) → Act} {Φ : Nat → Value → World → Prop} {w0 : World}
theorem StepsAt.consG (j : Nat) {n : Nat} {o : Oper} {r : List Oper} (hk : ∀ v w w', Φ j v w → Below w.heap.size w w' → Φ j v w') (hp : ∀ x v, (F x).put o.dst v = F (upd x j v)) (ho : l[j]? = some o)
    (hw : ∀ x w, (∀ k, waitsB .any l.toArray j k = true → Φ k (x k) w) → Region.wanted o (yielded l.toArray (F x).tmps) = true)
    (h : ∀ x w, Below w0.heap.size w0 w → (∀ k, waitsB .any l.toArray j k = true → Φ k (x k) w) → ∀ K : Act → World → Prop, Shut (∀ v w', Below w.heap.size w w' → Φ j v w' → K ((F x).put o.dst v) w') → Oper.wp P o (F x) w K (NoPanic Q))
    (hr : StepsAt P l Q F Φ w0 n r (j + 1)) : StepsAt P l Q F Φ w0 (n + 1) (o :: r) j := by
  refine ⟨⟨hk, hp, fun x w hb hd => ?_⟩, hr⟩
  unfold wpOp
  rw [show l.toArray[j]? = some o by simpa using ho]
  simp only [hw x w hd, if_true]
  exact .inl (h x w hb hd _ fun v w' h1 h2 => ⟨v, rfl, h1, h2⟩)
theorem StepsAt.valG (j : Nat) (v : Value) {n : Nat} {o : Oper} {r : List Oper} (hΦ : Φ j = eqV v) (hp : ∀ x v, (F x).put o.dst v = F (upd x j v)) (ho : l[j]? = some o)
    (hw : ∀ x w, (∀ k, waitsB .any l.toArray j k = true → Φ k (x k) w) → Region.wanted o (yielded l.toArray (F x).tmps) = true)
    (h : ∀ x w, Below w0.heap.size w0 w → (∀ k, waitsB .any l.toArray j k = true → Φ k (x k) w) → (execOp (F x).eval o).run P w = .ok (.value v) w)
    (hr : StepsAt P l Q F Φ w0 n r (j + 1)) : StepsAt P l Q F Φ w0 (n + 1) (o :: r) j := by
  refine StepsAt.consG j (fun u w w' h1 _ => ?_) hp ho hw (fun x w hb hd K hK => ?_) hr
  · rw [hΦ] at h1 ⊢; exact h1
  · unfold Oper.wp
    rw [h x w hb hd]
    exact hK.out v w (Below.refl _ _) (by rw [hΦ]; rfl)
theorem StepsAt.skip (j : Nat) {n : Nat} {o : Oper} {r : List Oper} (hΦ : Φ j = eqV undef) (hp : ∀ x v, (F x).put o.dst v = F (upd x j v)) (ho : l[j]? = some o)
    (hw : ∀ x w, (∀ k, waitsB .any l.toArray j k = true → Φ k (x k) w) → Region.wanted o (yielded l.toArray (F x).tmps) = false)
    (hr : StepsAt P l Q F Φ w0 n r (j + 1)) : StepsAt P l Q F Φ w0 (n + 1) (o :: r) j := by
  refine ⟨⟨fun u w w' h1 _ => by rw [hΦ] at h1 ⊢; exact h1, hp, fun x w hb hd => ?_⟩, hr⟩
  unfold wpOp
  rw [show l.toArray[j]? = some o by simpa using ho]
  simp only [hw x w hd, Bool.false_eq_true, if_false]
  exact ⟨undef, rfl, Below.refl _ _, by rw [hΦ]; rfl⟩
end
end Go.Proofs.Yteckenlbelgknaa
