/-
  A region whose order is left open, taken operation by operation: what yields its value first, then what comes up alone. Words of no program.
-/
import Derived.Test.YteckenlbelgknaaMs
namespace Go.Proofs.Yteckenlbelgknaa
open Go.RowKit

/-- What is known of the slots that were written. -/
def Knows (x : Nat → Value) (L : List (Nat × Value)) : Prop := ∀ p ∈ L, x p.1 = p.2
theorem Knows.nil (x : Nat → Value) : Knows x [] := fun _ h => by cases h
theorem Knows.at_ {x : Nat → Value} {L : List (Nat × Value)} (h : Knows x L) (n : Nat) {k : Nat} {v : Value} (e : L[n]? = some (k, v)) : x k = v := h (k, v) (List.mem_of_getElem? e)
theorem Knows.add {x : Nat → Value} {L : List (Nat × Value)} (h : Knows x L) (i : Nat) (v : Value) (hi : (L.all fun p => p.1 != i) = true) : Knows (upd x i v) ((i, v) :: L) := by
  intro p hp
  rcases List.mem_cons.1 hp with rfl | hp
  · exact upd_same _ _ _
  · have := (List.all_eq_true.1 hi) p hp
    rw [upd_ne _ _ _ _ (by simpa using this)]
    exact h p hp
theorem wanted_none {o : Oper} {ys : Nat → Option Bool} (h : o.guard = none) : Region.wanted o ys = true := by simp [Region.wanted, h]
section
variable {P : Program} {l : List Oper} {Q : Exit → Act → World → Prop} {md : Region.Mode} {S : World → Prop} {m : Nat} {F : (Nat → Value) → Act}
/-- The beginning. -/
theorem wp_region_tillK (N : Nat) (F : (Nat → Value) → Act) (x0 : Nat → Value) (S : World → Prop) {id : Nat} {a : Act} {w : World} (ha : a = F x0) (hN : l.length = N) (hm : P.follows .mixedOrders = true)
    (h : ∀ x, Knows x [] → AnyTill P .any l.toArray (NoPanic Q) S N N (Array.replicate N false) (F x) w.drew) : (Code.region id l.toArray true).wp P Q a w := by
  rw [ha]
  exact wp_region_till N N S hm (by simpa using hN) (h x0 (Knows.nil _))
/-- An operation that yields its value wherever S holds is taken first. -/
theorem AnyTill.takeK {x : Nat → Value} {L : List (Nat × Value)} (i : Nat) (v : Value) {oi : Oper} {n : Nat} {listed : Array Bool} {w : World} (hi : l[i]? = some oi) (hsel : Region.noSelect l.toArray = true) (hm : (l[m]?).isNone = true) (hml : listed.getD m false = false)
    (hf : Region.free md l.toArray listed i = true) (hr : (Region.ready md l.toArray listed).contains i = true) {G : (Nat → Value) → Act} (hF : Hid (F = G)) (hg : Region.wanted oi (yielded l.toArray (G x).tmps) = true) (hp : ∀ x v, (G x).put oi.dst v = G (upd x i v)) (hL : Knows x L) (hi2 : (L.all fun p => p.1 != i) = true)
    (hy : ∀ w, S w → (execOp (G x).eval oi).run P w = .ok (.value v) w) (hS : S w)
    (h : ∀ x', Knows x' ((i, v) :: L) → AnyTill P md l.toArray (NoPanic Q) S m n (listed.setIfInBounds i true) (F x') w) : AnyTill P md l.toArray (NoPanic Q) S m (n + 1) listed (F x) w := by
  obtain rfl := hF.out
  have hw : waitsB md l.toArray m i = true := by
    unfold waitsB
    rw [show l.toArray[m]? = none by simpa using hm]
  refine AnyTill.take hi hsel (by rw [hw, hml]; rfl) hf hr (fun _ _ _ h => (h : False).elim) hg hy hS ?_
  rw [hp]
  exact h _ (hL.add i v hi2)
/-- An operation that comes up alone. -/
theorem AnyTill.oneK {x : Nat → Value} {L : List (Nat × Value)} (i : Nat) {o : Oper} {n : Nat} {listed : Array Bool} {w : World} (hr : Region.ready md l.toArray listed = [i]) (ho : l[i]? = some o) {G : (Nat → Value) → Act} (hF : Hid (F = G)) (hg : Region.wanted o (yielded l.toArray (G x).tmps) = true) (hp : ∀ x v, (G x).put o.dst v = G (upd x i v)) (hL : Knows x L) (hi2 : (L.all fun p => p.1 != i) = true)
    (h : ∀ K : Act → World → Prop, Shut (∀ v w', S w' → (∀ x', Knows x' ((i, v) :: L) → AnyTill P md l.toArray (NoPanic Q) S m n (listed.setIfInBounds i true) (F x') w') → K ((G x).put o.dst v) w') → Oper.wp P o (G x) w K (NoPanic Q)) : AnyTill P md l.toArray (NoPanic Q) S m (n + 1) listed (F x) w := by
  obtain rfl := hF.out
  refine AnyTill.one hr ho hg (fun K hK => h K fun v w' h1 h2 => hK.out _ _ (.inr h1) ?_)
  rw [hp]
  exact h2 _ (hL.add i v hi2)
end
end Go.Proofs.Yteckenlbelgknaa
