/-
  Words for byte slices in memory, of no program: what a slice value reads as, which slice the call owns, and what the built-in append does to them. Each theorem states its own conditions.
-/
import Derived.Below
import Derived.OwnWalk
import Derived.Laws.OwnMore
import Derived.Laws.AppendOwnNone
import Derived.Laws.IdiomStrings
import Derived.Lib.AppendStr
import Derived.Deep.Draws
namespace Go.Proofs.Ytejeefkoalbcmaa
open Go.RowKit

/-- Bytes as cells. -/
def bys (l : List UInt8) : List Value := l.map fun b => Value.int .u8 (b.toNat : Int)

theorem bys_length (l : List UInt8) : (bys l).length = l.length := by simp [bys]
theorem bys_append (l m : List UInt8) : bys (l ++ m) = bys l ++ bys m := by simp [bys]
theorem bys_at (l : List UInt8) (j : Nat) (u : Value) (h : (bys l)[j]? = some u) : ∃ hj : j < l.length, u = .int .u8 (l[j].toNat : Int) := by
  obtain ⟨hj, hu⟩ := List.getElem?_eq_some_iff.1 h
  have hj' : j < l.length := by simpa [bys] using hj
  exact ⟨hj', by rw [← hu]; simp [bys]⟩
theorem bys_one (l : List UInt8) : ∀ u ∈ bys l, u.oneCell' = true := by
  intro u hu
  obtain ⟨_, _, rfl⟩ := List.mem_map.1 hu
  rfl

/-- The slice value v reads as the bytes l; it lies below block B. Nil reads as no bytes. -/
def Rd (B : Nat) (w : World) (v : Value) (l : List UInt8) : Prop :=
  ∃ A c, v = .slice A l.length c ∧ l.length ≤ c ∧ c ≤ maxLen ∧ (A = none → c = 0) ∧
    ∀ a, A = some a → (0 < l.length → a.block < B) ∧ ∀ j (h : j < l.length), w.cell? (a.add j) = some (.int .u8 (l[j].toNat : Int))

/-- The call owns the slice value v, from block 'base' on, and it holds the bytes l. -/
def Own (e : TypeId) (w : World) (base : Nat) (v : Value) (l : List UInt8) : Prop := w.ownsRow base e 1 v l.length (bys l)

theorem addr_block (a : Addr) (n : Nat) : (a.add n).block = a.block := by unfold Addr.add; split <;> rfl

theorem Rd.keep {B : Nat} {w w' : World} {v : Value} {l : List UInt8} (h : Rd B w v l) (hk : ∀ p : Addr, p.block < B → w'.cell? p = w.cell? p) : Rd B w' v l := by
  obtain ⟨A, c, hv, hc, hm, hn, hr⟩ := h
  refine ⟨A, c, hv, hc, hm, hn, fun a ha => ⟨(hr a ha).1, fun j hj => ?_⟩⟩
  rw [hk _ (by rw [addr_block]; exact (hr a ha).1 (by omega))]
  exact (hr a ha).2 j hj
theorem Rd.below {B : Nat} {w w' : World} {v : Value} {l : List UInt8} (h : Rd B w v l) (hb : Below B w w') : Rd B w' v l := h.keep fun _ hp => hb.cell hp
theorem Rd.more {B B' : Nat} {w : World} {v : Value} {l : List UInt8} (h : Rd B w v l) (hB : B ≤ B') : Rd B' w v l := by
  obtain ⟨A, c, hv, hc, hm, hn, hr⟩ := h
  exact ⟨A, c, hv, hc, hm, hn, fun a ha => ⟨fun h0 => Nat.lt_of_lt_of_le ((hr a ha).1 h0) hB, (hr a ha).2⟩⟩
theorem Rd.nil (B : Nat) (w : World) : Rd B w (.slice none 0 0) [] := ⟨none, 0, rfl, Nat.le_refl _, Nat.zero_le _, fun _ => rfl, fun _ h => by cases h⟩

theorem Own.rd {e : TypeId} {w : World} {base : Nat} {v : Value} {l : List UInt8} (h : Own e w base v l) : Rd w.heap.size w v l := by
  rcases h.2 with ⟨rfl, hn⟩ | ⟨g, cap, cur, rfl, hb, hg, hnc, hm, _, _⟩
  · have : l = [] := List.eq_nil_of_length_eq_zero hn
    subst this
    exact Rd.nil _ _
  · have hlt : g < w.heap.size := (Array.getElem?_eq_some_iff.1 hg).1
    refine ⟨some ⟨g, 0, none⟩, cap, rfl, hnc, hm, fun h => (by cases h), fun a ha => ?_⟩
    cases ha
    refine ⟨fun _ => hlt, fun j hj => World.ownsRow.cells (g := g) h rfl j _ ?_⟩
    simp [bys, hj]

/-- What is owned from 'base' on stays so while all from 'base' up to the heap's end that is old stays. -/
theorem Own.below {e : TypeId} {w w' : World} {base B : Nat} {v : Value} {l : List UInt8} (h : Own e w base v l) (hb : Below B w w') (hB : w.heap.size ≤ B) : Own e w' base v l := by
  refine ⟨h.1, ?_⟩
  rcases h.2 with hn | ⟨g, cap, cur, rfl, hg0, hg, r⟩
  · exact .inl hn
  · have hlt : g < w.heap.size := (Array.getElem?_eq_some_iff.1 hg).1
    exact .inr ⟨g, cap, cur, rfl, hg0, by rw [hb.block g (by omega)]; exact hg, r⟩
theorem Own.base {e : TypeId} {w : World} {base base' : Nat} {v : Value} {l : List UInt8} (h : Own e w base v l) (hb : base' ≤ base) : Own e w base' v l := by
  refine ⟨h.1, ?_⟩
  rcases h.2 with hn | ⟨g, cap, cur, rfl, hg0, r⟩
  · exact .inl hn
  · exact .inr ⟨g, cap, cur, rfl, by omega, r⟩
theorem Own.nil (e : TypeId) (w : World) (base : Nat) : Own e w base (.slice none 0 0) [] := World.ownsRow_nil w base e 1
theorem Own.alloc {e : TypeId} {w : World} {base : Nat} {v : Value} {l : List UInt8} (h : Own e w base v l) (o : Obj) : Own e (w.alloc o) base v l := World.ownsRow.alloc h o
theorem Own.grown {e : TypeId} {w w' : World} {base : Nat} {v : Value} {l : List UInt8} (h : Own e w base v l) (hg : w.grownBy w' v.ownBlock) (hb : base ≤ w.heap.size) : Below base w w' :=
  (Below.refl base w).grown hg hb fun k hk => (World.ownsRow.lt h k hk).1

theorem addr_add (a : Addr) (i j : Nat) : (a.add i).add j = a.add (i + j) := by
  unfold Addr.add
  by_cases hi : i = 0 <;> by_cases hj : j = 0 <;> simp [hi, hj, Nat.add_assoc]

/-- What is left of a slice behind its first m bytes. -/
theorem Rd.drop {B : Nat} {w : World} {a : Addr} {n c : Nat} {l : List UInt8} (h : Rd B w (.slice (some a) n c) l) (m : Nat) (hm : m ≤ n) : Rd B w (.slice (if c = m then some a else some (a.add m)) (n - m) (c - m)) (l.drop m) := by
  obtain ⟨A, c', hv, hc, hmx, hn, hcell⟩ := h
  injection hv with h1 h2 h3
  subst h1 h2 h3
  have hl : (l.drop m).length = l.length - m := List.length_drop
  refine ⟨_, c - m, by rw [hl], by omega, by omega, fun hnone => ?_, fun x hx => ⟨fun h0 => ?_, fun j hj => ?_⟩⟩
  · split at hnone <;> cases hnone
  · rw [if_neg (by omega)] at hx
    cases hx
    rw [addr_block]
    exact (hcell a rfl).1 (by omega)
  · rw [if_neg (by omega)] at hx
    cases hx
    rw [addr_add, (hcell a rfl).2 (m + j) (by omega)]
    simp

/-- One byte in a new block. -/
theorem Rd.one (e : TypeId) (w : World) (b : UInt8) : Rd (w.heap.size + 1) (w.alloc (.cells #[.int .u8 (b.toNat : Int)] e)) (.slice (some ⟨w.heap.size, 0, none⟩) 1 1) [b] := by
  refine ⟨some ⟨w.heap.size, 0, none⟩, 1, rfl, Nat.le_refl _, by unfold maxLen; decide, fun h => (by cases h), fun a ha => ?_⟩
  cases ha
  refine ⟨fun _ => Nat.lt_succ_self _, fun j hj => ?_⟩
  have hj0 : j = 0 := by simp at hj; exact hj
  subst hj0
  simp [Addr.add]

/-- The value of what is read. -/
theorem Rd.shape {B : Nat} {w : World} {v : Value} {l : List UInt8} (h : Rd B w v l) : ∃ A c, v = .slice A l.length c ∧ l.length ≤ c ∧ c ≤ maxLen := by
  obtain ⟨A, c, hv, h1, h2, _⟩ := h
  exact ⟨A, c, hv, h1, h2⟩

section
variable {P : Program} {w : World} {ops : Array Oper} {rest : List Oper} {o : Oper} {a : Act} {Q : Exit → Act → World → Prop}

/-- append of bytes that are read onto bytes that are owned. -/
theorem wpList_app (hgd : o.guard = none) (s x : Operand) (t : TypeId) (ho : o.op = .call { callee := .builtin .append, args := #[s, x], argTypes := #[t, t] })
    (e : TypeId) (i : TypeInfo) (ht : P.underlying t = some (.slice e)) (hi : P.info? e = some i) (hz : i.zero = some (.int .u8 0)) (hsize : i.size = 1) (hby : i.bytes = 1)
    (base B : Nat) (v v2 : Value) (l l2 : List UInt8) (hs : a.eval s = v) (hown : Own e w base v l) (hx : a.eval x = v2) (hr : Rd B w v2 l2)
    (hlen : l.length + l2.length ≤ 140737488355328) (hbase : base ≤ w.heap.size)
    (h : ∀ v' w', Own e w' base v' (l ++ l2) → Below base w w' → wpList P ops Q rest (a.put o.dst v') w') : wpList P ops Q (o :: rest) a w := by
  obtain ⟨A, c, rfl, hc, hm, hn, hcell⟩ := hr
  have h63 : l.length + l2.length ≤ maxLen := by unfold maxLen; omega
  cases A with
  | none =>
    have hc0 := hn rfl
    have hl0 : l2.length = 0 := by omega
    have hl2 : l2 = [] := List.eq_nil_of_length_eq_zero hl0
    subst hl2
    subst hc0
    refine wpList_append_own_none hgd s x t ho base e i 1 ht hi v l.length (bys l) hs hown hx ?_
    exact h v w (by simpa using hown) (Below.refl _ _)
  | some ad =>
    refine wpList_append_own w hgd s x t ho base e i (.int .u8 0) 1 1 ht hi hz hsize hby rfl (by decide) v l.length (bys l) hs hown ad l2.length c (bys l2) hx (by rw [bys_length, Nat.mul_one]) ?_ (bys_one l2) h63 (by omega) hbase ?_
    · intro j u hu
      obtain ⟨hj, rfl⟩ := bys_at l2 j u hu
      exact (hcell ad rfl).2 j hj
    · intro v' w' h1 h2 _
      refine h v' w' ?_ (Own.grown hown h2 hbase)
      unfold Own
      rw [List.length_append, bys_append]
      exact h1

/-- append of one byte onto bytes that are owned: the byte lies in the newest block. -/
theorem wpList_app1 (hgd : o.guard = none) (s x : Operand) (t : TypeId) (ho : o.op = .call { callee := .builtin .append, args := #[s, x], argTypes := #[t, t] })
    (e : TypeId) (i : TypeInfo) (ht : P.underlying t = some (.slice e)) (hi : P.info? e = some i) (hz : i.zero = some (.int .u8 0)) (hsize : i.size = 1) (hby : i.bytes = 1)
    (base : Nat) (v : Value) (l : List UInt8) (b : UInt8) (ad : Addr) (hs : a.eval s = v) (hown : Own e w base v l) (hx : a.eval x = .slice (some ad) 1 1) (hc : w.cell? ad = some (.int .u8 (b.toNat : Int)))
    (hlen : l.length + 1 ≤ 140737488355328) (hbase : base ≤ w.heap.size)
    (h : ∀ v' w', Own e w' base v' (l ++ [b]) → Below base w w' → wpList P ops Q rest (a.put o.dst v') w') : wpList P ops Q (o :: rest) a w := by
  have hadd : ad.add 0 = ad := by simp [Addr.add]
  refine wpList_app hgd s x t ho e i ht hi hz hsize hby base (ad.block + 1) v _ l [b] hs hown hx ⟨some ad, 1, rfl, Nat.le_refl _, by unfold maxLen; decide, fun h => (by cases h), fun a ha => ?_⟩ hlen hbase h
  cases ha
  refine ⟨fun _ => Nat.lt_succ_self _, fun j hj => ?_⟩
  have hj0 : j = 0 := by simp at hj; exact hj
  subst hj0
  rw [hadd]
  exact hc

/-- append of a string's bytes onto bytes that are owned. -/
theorem wpList_apps (hgd : o.guard = none) (s x : Operand) (t u : TypeId) (ho : o.op = .call { callee := .builtin .append, args := #[s, x], argTypes := #[t, u] })
    (e : TypeId) (i : TypeInfo) (ht : P.underlying t = some (.slice e)) (hu : P.underlying u = some .string) (hi : P.info? e = some i) (hz : i.zero = some (.int .u8 0)) (hsize : i.size = 1) (hby : i.bytes = 1)
    (base : Nat) (v : Value) (l : List UInt8) (z : ByteArray) (hs : a.eval s = v) (hown : Own e w base v l) (hx : a.eval x = .string z)
    (hlen : l.length + z.size ≤ 140737488355328) (hbase : base ≤ w.heap.size)
    (h : ∀ v' w', Own e w' base v' (l ++ z.data.toList) → Below base w w' → wpList P ops Q rest (a.put o.dst v') w') : wpList P ops Q (o :: rest) a w := by
  have h63 : l.length + z.size ≤ maxLen := by unfold maxLen; omega
  refine Lib.wpList_append_own_string w hgd s x t u ho base e i ht hu hi hz hsize hby v l.length (bys l) hs hown z hx h63 hlen hbase ?_
  intro v' w' h1 h2 _
  refine h v' w' ?_ (Own.grown hown h2 hbase)
  unfold Own
  rw [List.length_append, bys_append]
  exact h1

end

/-- string(b) of bytes that are read. -/
theorem run_string_rd {P : Program} {B : Nat} {w : World} {A : Option Addr} {n c : Nat} {l : List UInt8} (src dst e : TypeId) (hs : P.underlying src = some (.slice e)) (he : P.underlying e = some (.int .u8)) (hd : P.underlying dst = some .string)
    (h : Rd B w (.slice A n c) l) : (convert src dst (.slice A n c)).run P w = .ok (.string ⟨l.toArray⟩) w := by
  obtain ⟨A', c', hv, hc, hm, hn, hcell⟩ := h
  injection hv with h1 h2 h3
  subst h1 h2 h3
  cases A with
  | none =>
    have hc0 := hn rfl
    have hl0 : l.length = 0 := by omega
    have hl2 : l = [] := List.eq_nil_of_length_eq_zero hl0
    subst hl2
    subst hc0
    show (convert src dst (.slice none 0 0)).run P w = _
    rw [run_convert_bytes_string w src dst e none 0 0 hs he hd]
    simp [Conv.bytesToString]
    rfl
  | some ad => exact run_convert_bytes_back w src dst e ad c l hs he hd fun j hj => (hcell ad rfl).2 j hj

end Go.Proofs.Ytejeefkoalbcmaa
