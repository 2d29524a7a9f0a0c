/-
  Words for slices of ints in memory, of no program: what such a slice reads as, which one the call owns, and what append does to it. Each theorem states its own conditions.
-/
import Derived.Test.YtejeefkoalbcmaaMem
namespace Go.Proofs.Ytejeefkoalbcmaa
open Go.RowKit

/-- Numbers as ints in cells. -/
def ins (l : List Nat) : List Value := l.map fun (n : Nat) => Value.int .i64 (n : Int)
theorem ins_length (l : List Nat) : (ins l).length = l.length := by simp [ins]
theorem ins_append (l m : List Nat) : ins (l ++ m) = ins l ++ ins m := by simp [ins]

/-- The slice value v reads as the ints l; it lies below block B. Nil reads as none. -/
def RdI (B : Nat) (w : World) (v : Value) (l : List Nat) : Prop :=
  ∃ A c, v = .slice A l.length c ∧ l.length ≤ c ∧ c ≤ maxLen ∧ (A = none → c = 0) ∧
    ∀ a, A = some a → (0 < l.length → a.block < B) ∧ ∀ j (h : j < l.length), w.cell? (a.add j) = some (.int .i64 (l[j] : Int))
/-- The call owns the slice value v of ints, from block 'base' on. -/
def OwnI (e : TypeId) (w : World) (base : Nat) (v : Value) (l : List Nat) : Prop := w.ownsRow base e 1 v l.length (ins l)

theorem RdI.keep {B : Nat} {w w' : World} {v : Value} {l : List Nat} (h : RdI B w v l) (hk : ∀ p : Addr, p.block < B → w'.cell? p = w.cell? p) : RdI B w' v l := by
  obtain ⟨A, c, hv, hc, hm, hn, hr⟩ := h
  refine ⟨A, c, hv, hc, hm, hn, fun a ha => ⟨(hr a ha).1, fun j hj => ?_⟩⟩
  rw [hk _ (by rw [addr_block]; exact (hr a ha).1 (by omega))]
  exact (hr a ha).2 j hj
theorem RdI.below {B : Nat} {w w' : World} {v : Value} {l : List Nat} (h : RdI B w v l) (hb : Below B w w') : RdI B w' v l := h.keep fun _ hp => hb.cell hp
theorem RdI.more {B B' : Nat} {w : World} {v : Value} {l : List Nat} (h : RdI B w v l) (hB : B ≤ B') : RdI B' w v l := by
  obtain ⟨A, c, hv, hc, hm, hn, hr⟩ := h
  exact ⟨A, c, hv, hc, hm, hn, fun a ha => ⟨fun h0 => Nat.lt_of_lt_of_le ((hr a ha).1 h0) hB, (hr a ha).2⟩⟩
theorem RdI.nil (B : Nat) (w : World) : RdI B w (.slice none 0 0) [] := ⟨none, 0, rfl, Nat.le_refl _, Nat.zero_le _, fun _ => rfl, fun _ h => by cases h⟩
theorem RdI.shape {B : Nat} {w : World} {v : Value} {l : List Nat} (h : RdI B w v l) : ∃ A c, v = .slice A l.length c ∧ l.length ≤ c ∧ c ≤ maxLen := by
  obtain ⟨A, c, hv, h1, h2, _⟩ := h
  exact ⟨A, c, hv, h1, h2⟩
/-- The cell of an element: where there is one, the address is there. -/
theorem RdI.at_ {B : Nat} {w : World} {A : Option Addr} {n c : Nat} {l : List Nat} (h : RdI B w (.slice A n c) l) (j : Nat) (hj : j < l.length) : ∃ a, A = some a ∧ w.cell? (a.add j) = some (.int .i64 ((l.getD j 0 : Nat) : Int)) := by
  obtain ⟨A', c', hv, hc, hm, hn, hr⟩ := h
  injection hv with h1 h2 h3
  subst h1 h2 h3
  cases A with
  | none => have := hn rfl; omega
  | some a => exact ⟨a, rfl, by rw [(hr a rfl).2 j hj]; simp [hj]⟩

theorem OwnI.rd {e : TypeId} {w : World} {base : Nat} {v : Value} {l : List Nat} (h : OwnI e w base v l) : RdI w.heap.size w v l := by
  rcases h.2 with ⟨rfl, hn⟩ | ⟨g, cap, cur, rfl, hb, hg, hnc, hm, _, _⟩
  · have : l = [] := List.eq_nil_of_length_eq_zero hn
    subst this
    exact RdI.nil _ _
  · have hlt : g < w.heap.size := (Array.getElem?_eq_some_iff.1 hg).1
    refine ⟨some ⟨g, 0, none⟩, cap, rfl, hnc, hm, fun h => (by cases h), fun a ha => ?_⟩
    cases ha
    refine ⟨fun _ => hlt, fun j hj => World.ownsRow.cells (g := g) h rfl j _ ?_⟩
    simp [ins, hj]
theorem OwnI.below {e : TypeId} {w w' : World} {base B : Nat} {v : Value} {l : List Nat} (h : OwnI e w base v l) (hb : Below B w w') (hB : w.heap.size ≤ B) : OwnI e w' base v l := by
  refine ⟨h.1, ?_⟩
  rcases h.2 with hn | ⟨g, cap, cur, rfl, hg0, hg, r⟩
  · exact .inl hn
  · have hlt : g < w.heap.size := (Array.getElem?_eq_some_iff.1 hg).1
    exact .inr ⟨g, cap, cur, rfl, hg0, by rw [hb.block g (by omega)]; exact hg, r⟩
theorem OwnI.base {e : TypeId} {w : World} {base base' : Nat} {v : Value} {l : List Nat} (h : OwnI e w base v l) (hb : base' ≤ base) : OwnI e w base' v l := by
  refine ⟨h.1, ?_⟩
  rcases h.2 with hn | ⟨g, cap, cur, rfl, hg0, r⟩
  · exact .inl hn
  · exact .inr ⟨g, cap, cur, rfl, by omega, r⟩
theorem OwnI.nil (e : TypeId) (w : World) (base : Nat) : OwnI e w base (.slice none 0 0) [] := World.ownsRow_nil w base e 1
theorem OwnI.alloc {e : TypeId} {w : World} {base : Nat} {v : Value} {l : List Nat} (h : OwnI e w base v l) (o : Obj) : OwnI e (w.alloc o) base v l := World.ownsRow.alloc h o
theorem OwnI.grown {e : TypeId} {w w' : World} {base : Nat} {v : Value} {l : List Nat} (h : OwnI e w base v l) (hg : w.grownBy w' v.ownBlock) (hb : base ≤ w.heap.size) : Below base w w' :=
  (Below.refl base w).grown hg hb fun k hk => (World.ownsRow.lt h k hk).1

/-- append of one int onto ints that are owned: the int lies at an address; other memory stays. -/
theorem wpList_app1I {P : Program} {w : World} {ops : Array Oper} {rest : List Oper} {o : Oper} {a : Act} {Q : Exit → Act → World → Prop}
    (hgd : o.guard = none) (s x : Operand) (t : TypeId) (ho : o.op = .call { callee := .builtin .append, args := #[s, x], argTypes := #[t, t] })
    (e : TypeId) (i : TypeInfo) (ht : P.underlying t = some (.slice e)) (hi : P.info? e = some i) (hz : i.zero = some (.int .i64 0)) (hsize : i.size = 1) (hby : i.bytes = 8)
    (base : Nat) (v : Value) (l : List Nat) (b : Nat) (ad : Addr) (hs : a.eval s = v) (hown : OwnI e w base v l) (hx : a.eval x = .slice (some ad) 1 1) (hc : w.cell? ad = some (.int .i64 (b : Int)))
    (hlen : l.length ≤ 1099511627776) (hbase : base ≤ w.heap.size)
    (h : ∀ v' w', OwnI e w' base v' (l ++ [b]) → Below base w w' → wpList P ops Q rest (a.put o.dst v') w') : wpList P ops Q (o :: rest) a w := by
  have h63 : l.length + 1 ≤ maxLen := by unfold maxLen; omega
  refine wpList_append_own w hgd s x t ho base e i (.int .i64 0) 1 8 ht hi hz hsize hby rfl (by decide) v l.length (ins l) hs hown ad 1 1 [.int .i64 (b : Int)] hx rfl ?_ ?_ h63 (by omega) hbase ?_
  · intro j u hu
    have hadd : ad.add 0 = ad := by simp [Addr.add]
    match j, hu with
    | 0, hu =>
      simp at hu
      subst hu
      rw [hadd]
      exact hc
  · intro u hu
    simp at hu
    subst hu
    rfl
  · intro v' w' h1 h2 _
    refine h v' w' ?_ (OwnI.grown hown h2 hbase)
    unfold OwnI
    rw [List.length_append, ins_append]
    exact h1
end Go.Proofs.Ytejeefkoalbcmaa
