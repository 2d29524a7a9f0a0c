/-
  Words for byte slices in memory, of no program: what a slice value reads as, which slice the call owns, and what the built-in append does to them. Each theorem states its own conditions.
  Words for slices of strings in memory, of no program: what such a slice reads as, which one the call owns, and what append does to it; and the encodings of a string and of a list of strings. Each theorem states its own conditions.
  Words for slices of ints in memory, of no program: what such a slice reads as, which one the call owns, and what append does to it. Each theorem states its own conditions.
  Words for arrays that lie whole in a block of memory, of no program: making one, reading and writing it whole, and what other memory does to it. Each theorem states its own conditions.
  A region whose order is left open and whose last operation (number m) waits for all others, of no program: a condition S on the world holds behind every operation but that last one, so what yields its value in every world that meets S may be taken first, also where the last operation writes what the region reads.
  A region whose order is left open and whose operations, up to number m, only make new memory, of no program: each operation meets what it says of its value wherever those that it waits for have met theirs, and so all have when the last ones (number m and above, which wait for all others) come up, whatever the order was.
  The rule of Rel for a region whose last operations wait for all others by way of those that they wait for, of no program.
-/
import Derived.Below
import Derived.OwnWalk
import Derived.Laws.OwnMore
import Derived.Laws.AppendOwnNone
import Derived.Laws.IdiomStrings
import Derived.Lib.AppendStr
import Derived.Deep.Draws
import Derived.Test.YteckenlbelgknaaPs
import Derived.Deep.WholeRow
import Derived.Deep.MidRow
import Derived.Great.BuildSlice
import Derived.Laws.ResultCell
import Derived.Deep.RegionHeld3
import Derived.Deep.RegionLawGrows
namespace Go.Proofs.Yteckenlbelgknaa
open Go.RowKit

/-- Bytes as cells. -/
def bys (l : List UInt8) : List Value := l.map fun b => Value.int .u8 (b.toNat : Int)

theorem bys_length (l : List UInt8) : (bys l).length = l.length := by simp [bys]
theorem bys_append (l m : List UInt8) : bys (l ++ m) = bys l ++ bys m := by simp [bys]
theorem bys_at (l : List UInt8) (j : Nat) (u : Value) (h : (bys l)[j]? = some u) : ∃ hj : j < l.length, u = .int .u8 (l[j].toNat : Int) := by
  obtain ⟨hj, hu⟩ := List.getElem?_eq_some_iff.1 h
  have hj' : j < l.length := by simpa [bys] using hj
  exact ⟨hj', by rw [← hu]; simp [bys]⟩
theorem bys_one (l : List UInt8) : ∀ u ∈ bys l, u.oneCell' = true := by
  intro u hu
  obtain ⟨_, _, rfl⟩ := List.mem_map.1 hu
  rfl

/-- The slice value v reads as the bytes l; it lies below block B. Nil reads as no bytes. -/
def Rd (B : Nat) (w : World) (v : Value) (l : List UInt8) : Prop :=
  ∃ A c, v = .slice A l.length c ∧ l.length ≤ c ∧ c ≤ maxLen ∧ (A = none → c = 0) ∧
    ∀ a, A = some a → (0 < l.length → a.block < B) ∧ ∀ j (h : j < l.length), w.cell? (a.add j) = some (.int .u8 (l[j].toNat : Int))

/-- The call owns the slice value v, from block 'base' on, and it holds the bytes l. -/
def Own (e : TypeId) (w : World) (base : Nat) (v : Value) (l : List UInt8) : Prop := w.ownsRow base e 1 v l.length (bys l)

theorem addr_block (a : Addr) (n : Nat) : (a.add n).block = a.block := by unfold Addr.add; split <;> rfl

theorem Rd.keep {B : Nat} {w w' : World} {v : Value} {l : List UInt8} (h : Rd B w v l) (hk : ∀ p : Addr, p.block < B → w'.cell? p = w.cell? p) : Rd B w' v l := by
  obtain ⟨A, c, hv, hc, hm, hn, hr⟩ := h
  refine ⟨A, c, hv, hc, hm, hn, fun a ha => ⟨(hr a ha).1, fun j hj => ?_⟩⟩
  rw [hk _ (by rw [addr_block]; exact (hr a ha).1 (by omega))]
  exact (hr a ha).2 j hj
theorem Rd.below {B : Nat} {w w' : World} {v : Value} {l : List UInt8} (h : Rd B w v l) (hb : Below B w w') : Rd B w' v l := h.keep fun _ hp => hb.cell hp
theorem Rd.more {B B' : Nat} {w : World} {v : Value} {l : List UInt8} (h : Rd B w v l) (hB : B ≤ B') : Rd B' w v l := by
  obtain ⟨A, c, hv, hc, hm, hn, hr⟩ := h
  exact ⟨A, c, hv, hc, hm, hn, fun a ha => ⟨fun h0 => Nat.lt_of_lt_of_le ((hr a ha).1 h0) hB, (hr a ha).2⟩⟩
theorem Rd.nil (B : Nat) (w : World) : Rd B w (.slice none 0 0) [] := ⟨none, 0, rfl, Nat.le_refl _, Nat.zero_le _, fun _ => rfl, fun _ h => by cases h⟩

theorem Own.rd {e : TypeId} {w : World} {base : Nat} {v : Value} {l : List UInt8} (h : Own e w base v l) : Rd w.heap.size w v l := by
  rcases h.2 with ⟨rfl, hn⟩ | ⟨g, cap, cur, rfl, hb, hg, hnc, hm, _, _⟩
  · have : l = [] := List.eq_nil_of_length_eq_zero hn
    subst this
    exact Rd.nil _ _
  · have hlt : g < w.heap.size := (Array.getElem?_eq_some_iff.1 hg).1
    refine ⟨some ⟨g, 0, none⟩, cap, rfl, hnc, hm, fun h => (by cases h), fun a ha => ?_⟩
    cases ha
    refine ⟨fun _ => hlt, fun j hj => World.ownsRow.cells (g := g) h rfl j _ ?_⟩
    simp [bys, hj]

/-- What is owned from 'base' on stays so while all from 'base' up to the heap's end that is old stays. -/
theorem Own.below {e : TypeId} {w w' : World} {base B : Nat} {v : Value} {l : List UInt8} (h : Own e w base v l) (hb : Below B w w') (hB : w.heap.size ≤ B) : Own e w' base v l := by
  refine ⟨h.1, ?_⟩
  rcases h.2 with hn | ⟨g, cap, cur, rfl, hg0, hg, r⟩
  · exact .inl hn
  · have hlt : g < w.heap.size := (Array.getElem?_eq_some_iff.1 hg).1
    exact .inr ⟨g, cap, cur, rfl, hg0, by rw [hb.block g (by omega)]; exact hg, r⟩
theorem Own.base {e : TypeId} {w : World} {base base' : Nat} {v : Value} {l : List UInt8} (h : Own e w base v l) (hb : base' ≤ base) : Own e w base' v l := by
  refine ⟨h.1, ?_⟩
  rcases h.2 with hn | ⟨g, cap, cur, rfl, hg0, r⟩
  · exact .inl hn
  · exact .inr ⟨g, cap, cur, rfl, by omega, r⟩
theorem Own.nil (e : TypeId) (w : World) (base : Nat) : Own e w base (.slice none 0 0) [] := World.ownsRow_nil w base e 1
theorem Own.alloc {e : TypeId} {w : World} {base : Nat} {v : Value} {l : List UInt8} (h : Own e w base v l) (o : Obj) : Own e (w.alloc o) base v l := World.ownsRow.alloc h o
theorem Own.grown {e : TypeId} {w w' : World} {base : Nat} {v : Value} {l : List UInt8} (h : Own e w base v l) (hg : w.grownBy w' v.ownBlock) (hb : base ≤ w.heap.size) : Below base w w' :=
  (Below.refl base w).grown hg hb fun k hk => (World.ownsRow.lt h k hk).1

theorem addr_add (a : Addr) (i j : Nat) : (a.add i).add j = a.add (i + j) := by
  unfold Addr.add
  by_cases hi : i = 0 <;> by_cases hj : j = 0 <;> simp [hi, hj, Nat.add_assoc]

/-- What is left of a slice behind its first m bytes. -/
theorem Rd.drop {B : Nat} {w : World} {a : Addr} {n c : Nat} {l : List UInt8} (h : Rd B w (.slice (some a) n c) l) (m : Nat) (hm : m ≤ n) : Rd B w (.slice (if c = m then some a else some (a.add m)) (n - m) (c - m)) (l.drop m) := by
  obtain ⟨A, c', hv, hc, hmx, hn, hcell⟩ := h
  injection hv with h1 h2 h3
  subst h1 h2 h3
  have hl : (l.drop m).length = l.length - m := List.length_drop
  refine ⟨_, c - m, by rw [hl], by omega, by omega, fun hnone => ?_, fun x hx => ⟨fun h0 => ?_, fun j hj => ?_⟩⟩
  · split at hnone <;> cases hnone
  · rw [if_neg (by omega)] at hx
    cases hx
    rw [addr_block]
    exact (hcell a rfl).1 (by omega)
  · rw [if_neg (by omega)] at hx
    cases hx
    rw [addr_add, (hcell a rfl).2 (m + j) (by omega)]
    simp

/-- One byte in a new block. -/
theorem Rd.one (e : TypeId) (w : World) (b : UInt8) : Rd (w.heap.size + 1) (w.alloc (.cells #[.int .u8 (b.toNat : Int)] e)) (.slice (some ⟨w.heap.size, 0, none⟩) 1 1) [b] := by
  refine ⟨some ⟨w.heap.size, 0, none⟩, 1, rfl, Nat.le_refl _, by unfold maxLen; decide, fun h => (by cases h), fun a ha => ?_⟩
  cases ha
  refine ⟨fun _ => Nat.lt_succ_self _, fun j hj => ?_⟩
  have hj0 : j = 0 := by simp at hj; exact hj
  subst hj0
  simp [Addr.add]

/-- The value of what is read. -/
theorem Rd.shape {B : Nat} {w : World} {v : Value} {l : List UInt8} (h : Rd B w v l) : ∃ A c, v = .slice A l.length c ∧ l.length ≤ c ∧ c ≤ maxLen := by
  obtain ⟨A, c, hv, h1, h2, _⟩ := h
  exact ⟨A, c, hv, h1, h2⟩

section
variable {P : Program} {w : World} {ops : Array Oper} {rest : List Oper} {o : Oper} {a : Act} {Q : Exit → Act → World → Prop}

/-- append of bytes that are read onto bytes that are owned. -/
theorem wpList_app (hgd : o.guard = none) (s x : Operand) (t : TypeId) (ho : o.op = .call { callee := .builtin .append, args := #[s, x], argTypes := #[t, t] })
    (e : TypeId) (i : TypeInfo) (ht : P.underlying t = some (.slice e)) (hi : P.info? e = some i) (hz : i.zero = some (.int .u8 0)) (hsize : i.size = 1) (hby : i.bytes = 1)
    (base B : Nat) (v v2 : Value) (l l2 : List UInt8) (hs : a.eval s = v) (hown : Own e w base v l) (hx : a.eval x = v2) (hr : Rd B w v2 l2)
    (hlen : l.length + l2.length ≤ 140737488355328) (hbase : base ≤ w.heap.size)
    (h : ∀ v' w', Own e w' base v' (l ++ l2) → Below base w w' → wpList P ops Q rest (a.put o.dst v') w') : wpList P ops Q (o :: rest) a w := by
  obtain ⟨A, c, rfl, hc, hm, hn, hcell⟩ := hr
  have h63 : l.length + l2.length ≤ maxLen := by unfold maxLen; omega
  cases A with
  | none =>
    have hc0 := hn rfl
    have hl0 : l2.length = 0 := by omega
    have hl2 : l2 = [] := List.eq_nil_of_length_eq_zero hl0
    subst hl2
    subst hc0
    refine wpList_append_own_none hgd s x t ho base e i 1 ht hi v l.length (bys l) hs hown hx ?_
    exact h v w (by simpa using hown) (Below.refl _ _)
  | some ad =>
    refine wpList_append_own w hgd s x t ho base e i (.int .u8 0) 1 1 ht hi hz hsize hby rfl (by decide) v l.length (bys l) hs hown ad l2.length c (bys l2) hx (by rw [bys_length, Nat.mul_one]) ?_ (bys_one l2) h63 (by omega) hbase ?_
    · intro j u hu
      obtain ⟨hj, rfl⟩ := bys_at l2 j u hu
      exact (hcell ad rfl).2 j hj
    · intro v' w' h1 h2 _
      refine h v' w' ?_ (Own.grown hown h2 hbase)
      unfold Own
      rw [List.length_append, bys_append]
      exact h1

/-- append of one byte onto bytes that are owned: the byte lies in the newest block. -/
theorem wpList_app1 (hgd : o.guard = none) (s x : Operand) (t : TypeId) (ho : o.op = .call { callee := .builtin .append, args := #[s, x], argTypes := #[t, t] })
    (e : TypeId) (i : TypeInfo) (ht : P.underlying t = some (.slice e)) (hi : P.info? e = some i) (hz : i.zero = some (.int .u8 0)) (hsize : i.size = 1) (hby : i.bytes = 1)
    (base : Nat) (v : Value) (l : List UInt8) (b : UInt8) (ad : Addr) (hs : a.eval s = v) (hown : Own e w base v l) (hx : a.eval x = .slice (some ad) 1 1) (hc : w.cell? ad = some (.int .u8 (b.toNat : Int)))
    (hlen : l.length + 1 ≤ 140737488355328) (hbase : base ≤ w.heap.size)
    (h : ∀ v' w', Own e w' base v' (l ++ [b]) → Below base w w' → wpList P ops Q rest (a.put o.dst v') w') : wpList P ops Q (o :: rest) a w := by
  have hadd : ad.add 0 = ad := by simp [Addr.add]
  refine wpList_app hgd s x t ho e i ht hi hz hsize hby base (ad.block + 1) v _ l [b] hs hown hx ⟨some ad, 1, rfl, Nat.le_refl _, by unfold maxLen; decide, fun h => (by cases h), fun a ha => ?_⟩ hlen hbase h
  cases ha
  refine ⟨fun _ => Nat.lt_succ_self _, fun j hj => ?_⟩
  have hj0 : j = 0 := by simp at hj; exact hj
  subst hj0
  rw [hadd]
  exact hc

/-- append of a string's bytes onto bytes that are owned. -/
theorem wpList_apps (hgd : o.guard = none) (s x : Operand) (t u : TypeId) (ho : o.op = .call { callee := .builtin .append, args := #[s, x], argTypes := #[t, u] })
    (e : TypeId) (i : TypeInfo) (ht : P.underlying t = some (.slice e)) (hu : P.underlying u = some .string) (hi : P.info? e = some i) (hz : i.zero = some (.int .u8 0)) (hsize : i.size = 1) (hby : i.bytes = 1)
    (base : Nat) (v : Value) (l : List UInt8) (z : ByteArray) (hs : a.eval s = v) (hown : Own e w base v l) (hx : a.eval x = .string z)
    (hlen : l.length + z.size ≤ 140737488355328) (hbase : base ≤ w.heap.size)
    (h : ∀ v' w', Own e w' base v' (l ++ z.data.toList) → Below base w w' → wpList P ops Q rest (a.put o.dst v') w') : wpList P ops Q (o :: rest) a w := by
  have h63 : l.length + z.size ≤ maxLen := by unfold maxLen; omega
  refine Lib.wpList_append_own_string w hgd s x t u ho base e i ht hu hi hz hsize hby v l.length (bys l) hs hown z hx h63 hlen hbase ?_
  intro v' w' h1 h2 _
  refine h v' w' ?_ (Own.grown hown h2 hbase)
  unfold Own
  rw [List.length_append, bys_append]
  exact h1

end

/-- string(b) of bytes that are read. -/
theorem run_string_rd {P : Program} {B : Nat} {w : World} {A : Option Addr} {n c : Nat} {l : List UInt8} (src dst e : TypeId) (hs : P.underlying src = some (.slice e)) (he : P.underlying e = some (.int .u8)) (hd : P.underlying dst = some .string)
    (h : Rd B w (.slice A n c) l) : (convert src dst (.slice A n c)).run P w = .ok (.string ⟨l.toArray⟩) w := by
  obtain ⟨A', c', hv, hc, hm, hn, hcell⟩ := h
  injection hv with h1 h2 h3
  subst h1 h2 h3
  cases A with
  | none =>
    have hc0 := hn rfl
    have hl0 : l.length = 0 := by omega
    have hl2 : l = [] := List.eq_nil_of_length_eq_zero hl0
    subst hl2
    subst hc0
    show (convert src dst (.slice none 0 0)).run P w = _
    rw [run_convert_bytes_string w src dst e none 0 0 hs he hd]
    simp [Conv.bytesToString]
    rfl
  | some ad => exact run_convert_bytes_back w src dst e ad c l hs he hd fun j hj => (hcell ad rfl).2 j hj

end Go.Proofs.Yteckenlbelgknaa

namespace Go.Proofs.Yteckenlbelgknaa
open Go.RowKit

/-- The encoding of a string. -/
def encS (s : ByteArray) : List UInt8 := enc s.size ++ s.data.toList
theorem encS_length (s : ByteArray) : (encS s).length = wid s.size + 1 + s.size := by
  have : s.data.toList.length = s.size := by simp
  simp [encS, enc_length, this]

/-- The encodings of strings, one behind the other. -/
def encs : List ByteArray → List UInt8
  | [] => []
  | s :: r => encS s ++ encs r

theorem encs_append (a b : List ByteArray) : encs (a ++ b) = encs a ++ encs b := by
  induction a with
  | nil => rfl
  | cons s r ih => simp [encs, ih, List.append_assoc]

theorem encs_take (ss : List ByteArray) (k : Nat) (h : k < ss.length) : encs (ss.take (k + 1)) = encs (ss.take k) ++ encS ss[k] := by
  rw [List.take_succ_eq_append_getElem h, encs_append]
  simp [encs]

theorem encs_take_le (ss : List ByteArray) (k : Nat) : (encs (ss.take k)).length ≤ (encs ss).length := by
  have h := encs_append (ss.take k) (ss.drop k)
  rw [List.take_append_drop] at h
  rw [h, List.length_append]
  omega

/-- The encoding of a list of strings. -/
def encL (ss : List ByteArray) : List UInt8 := enc ss.length ++ encs ss

def strs (ss : List ByteArray) : List Value := ss.map Value.string
theorem strs_length (ss : List ByteArray) : (strs ss).length = ss.length := by simp [strs]
theorem strs_append (a b : List ByteArray) : strs (a ++ b) = strs a ++ strs b := by simp [strs]

/-- The slice value v reads as the strings ss; it lies below block B. -/
def RdS (B : Nat) (w : World) (v : Value) (ss : List ByteArray) : Prop :=
  ∃ A c, v = .slice A ss.length c ∧ ss.length ≤ c ∧ c ≤ maxLen ∧ (A = none → c = 0) ∧
    ∀ a, A = some a → (0 < ss.length → a.block < B) ∧ ∀ j (h : j < ss.length), w.cell? (a.add j) = some (.string ss[j])

/-- The call owns the slice value v of strings, from block 'base' on. -/
def OwnS (e : TypeId) (w : World) (base : Nat) (v : Value) (ss : List ByteArray) : Prop := w.ownsRow base e 1 v ss.length (strs ss)

theorem RdS.keep {B : Nat} {w w' : World} {v : Value} {l : List ByteArray} (h : RdS B w v l) (hk : ∀ p : Addr, p.block < B → w'.cell? p = w.cell? p) : RdS B w' v l := by
  obtain ⟨A, c, hv, hc, hm, hn, hr⟩ := h
  refine ⟨A, c, hv, hc, hm, hn, fun a ha => ⟨(hr a ha).1, fun j hj => ?_⟩⟩
  rw [hk _ (by rw [addr_block]; exact (hr a ha).1 (by omega))]
  exact (hr a ha).2 j hj
theorem RdS.below {B : Nat} {w w' : World} {v : Value} {l : List ByteArray} (h : RdS B w v l) (hb : Below B w w') : RdS B w' v l := h.keep fun _ hp => hb.cell hp
theorem RdS.more {B B' : Nat} {w : World} {v : Value} {l : List ByteArray} (h : RdS B w v l) (hB : B ≤ B') : RdS B' w v l := by
  obtain ⟨A, c, hv, hc, hm, hn, hr⟩ := h
  exact ⟨A, c, hv, hc, hm, hn, fun a ha => ⟨fun h0 => Nat.lt_of_lt_of_le ((hr a ha).1 h0) hB, (hr a ha).2⟩⟩
theorem RdS.nil (B : Nat) (w : World) : RdS B w (.slice none 0 0) [] := ⟨none, 0, rfl, Nat.le_refl _, Nat.zero_le _, fun _ => rfl, fun _ h => by cases h⟩
theorem RdS.shape {B : Nat} {w : World} {v : Value} {l : List ByteArray} (h : RdS B w v l) : ∃ A c, v = .slice A l.length c ∧ l.length ≤ c ∧ c ≤ maxLen := by
  obtain ⟨A, c, hv, h1, h2, _⟩ := h
  exact ⟨A, c, hv, h1, h2⟩
/-- The cell of an element: where there is one, the address is there. -/
theorem RdS.at_ {B : Nat} {w : World} {A : Option Addr} {n c : Nat} {l : List ByteArray} (h : RdS B w (.slice A n c) l) (j : Nat) (hj : j < l.length) : ∃ a, A = some a ∧ w.cell? (a.add j) = some (.string l[j]) := by
  obtain ⟨A', c', hv, hc, hm, hn, hr⟩ := h
  injection hv with h1 h2 h3
  subst h1 h2 h3
  cases A with
  | none => have := hn rfl; omega
  | some a => exact ⟨a, rfl, (hr a rfl).2 j hj⟩

theorem OwnS.rd {e : TypeId} {w : World} {base : Nat} {v : Value} {l : List ByteArray} (h : OwnS e w base v l) : RdS w.heap.size w v l := by
  rcases h.2 with ⟨rfl, hn⟩ | ⟨g, cap, cur, rfl, hb, hg, hnc, hm, _, _⟩
  · have : l = [] := List.eq_nil_of_length_eq_zero hn
    subst this
    exact RdS.nil _ _
  · have hlt : g < w.heap.size := (Array.getElem?_eq_some_iff.1 hg).1
    refine ⟨some ⟨g, 0, none⟩, cap, rfl, hnc, hm, fun h => (by cases h), fun a ha => ?_⟩
    cases ha
    refine ⟨fun _ => hlt, fun j hj => World.ownsRow.cells (g := g) h rfl j _ ?_⟩
    simp [strs, hj]
theorem OwnS.below {e : TypeId} {w w' : World} {base B : Nat} {v : Value} {l : List ByteArray} (h : OwnS e w base v l) (hb : Below B w w') (hB : w.heap.size ≤ B) : OwnS e w' base v l := by
  refine ⟨h.1, ?_⟩
  rcases h.2 with hn | ⟨g, cap, cur, rfl, hg0, hg, r⟩
  · exact .inl hn
  · have hlt : g < w.heap.size := (Array.getElem?_eq_some_iff.1 hg).1
    exact .inr ⟨g, cap, cur, rfl, hg0, by rw [hb.block g (by omega)]; exact hg, r⟩
theorem OwnS.base {e : TypeId} {w : World} {base base' : Nat} {v : Value} {l : List ByteArray} (h : OwnS e w base v l) (hb : base' ≤ base) : OwnS e w base' v l := by
  refine ⟨h.1, ?_⟩
  rcases h.2 with hn | ⟨g, cap, cur, rfl, hg0, r⟩
  · exact .inl hn
  · exact .inr ⟨g, cap, cur, rfl, by omega, r⟩
theorem OwnS.nil (e : TypeId) (w : World) (base : Nat) : OwnS e w base (.slice none 0 0) [] := World.ownsRow_nil w base e 1
theorem OwnS.alloc {e : TypeId} {w : World} {base : Nat} {v : Value} {l : List ByteArray} (h : OwnS e w base v l) (o : Obj) : OwnS e (w.alloc o) base v l := World.ownsRow.alloc h o
theorem OwnS.grown {e : TypeId} {w w' : World} {base : Nat} {v : Value} {l : List ByteArray} (h : OwnS e w base v l) (hg : w.grownBy w' v.ownBlock) (hb : base ≤ w.heap.size) : Below base w w' :=
  (Below.refl base w).grown hg hb fun k hk => (World.ownsRow.lt h k hk).1

/-- append of one string onto strings that are owned: the string lies at an address. -/
theorem wpList_app1S {P : Program} {w : World} {ops : Array Oper} {rest : List Oper} {o : Oper} {a : Act} {Q : Exit → Act → World → Prop}
    (hgd : o.guard = none) (s x : Operand) (t : TypeId) (ho : o.op = .call { callee := .builtin .append, args := #[s, x], argTypes := #[t, t] })
    (e : TypeId) (i : TypeInfo) (ht : P.underlying t = some (.slice e)) (hi : P.info? e = some i) (hz : i.zero = some (.string ⟨#[]⟩)) (hsize : i.size = 1) (hby : i.bytes = 16)
    (base : Nat) (v : Value) (l : List ByteArray) (b : ByteArray) (ad : Addr) (hs : a.eval s = v) (hown : OwnS e w base v l) (hx : a.eval x = .slice (some ad) 1 1) (hc : w.cell? ad = some (.string b))
    (hlen : l.length ≤ 1099511627776) (hbase : base ≤ w.heap.size)
    (h : ∀ v' w', OwnS e w' base v' (l ++ [b]) → Below base w w' → wpList P ops Q rest (a.put o.dst v') w') : wpList P ops Q (o :: rest) a w := by
  have h63 : l.length + 1 ≤ maxLen := by unfold maxLen; omega
  refine wpList_append_own w hgd s x t ho base e i (.string ⟨#[]⟩) 1 16 ht hi hz hsize hby rfl (by decide) v l.length (strs l) hs hown ad 1 1 [.string b] hx rfl ?_ ?_ h63 (by omega) hbase ?_
  · intro j u hu
    have hadd : ad.add 0 = ad := by simp [Addr.add]
    match j, hu with
    | 0, hu =>
      simp at hu
      subst hu
      rw [hadd]
      exact hc
  · intro u hu
    simp at hu
    subst hu
    rfl
  · intro v' w' h1 h2 _
    refine h v' w' ?_ (OwnS.grown hown h2 hbase)
    unfold OwnS
    rw [List.length_append, strs_append]
    exact h1

end Go.Proofs.Yteckenlbelgknaa

namespace Go.Proofs.Yteckenlbelgknaa
open Go.RowKit

/-- Numbers as ints in cells. -/
def ins (l : List Nat) : List Value := l.map fun (n : Nat) => Value.int .i64 (n : Int)
theorem ins_length (l : List Nat) : (ins l).length = l.length := by simp [ins]
theorem ins_append (l m : List Nat) : ins (l ++ m) = ins l ++ ins m := by simp [ins]

/-- The slice value v reads as the ints l; it lies below block B. Nil reads as none. -/
def RdI (B : Nat) (w : World) (v : Value) (l : List Nat) : Prop :=
  ∃ A c, v = .slice A l.length c ∧ l.length ≤ c ∧ c ≤ maxLen ∧ (A = none → c = 0) ∧
    ∀ a, A = some a → (0 < l.length → a.block < B) ∧ ∀ j (h : j < l.length), w.cell? (a.add j) = some (.int .i64 (l[j] : Int))
/-- The call owns the slice value v of ints, from block 'base' on. -/
def OwnI (e : TypeId) (w : World) (base : Nat) (v : Value) (l : List Nat) : Prop := w.ownsRow base e 1 v l.length (ins l)

theorem RdI.keep {B : Nat} {w w' : World} {v : Value} {l : List Nat} (h : RdI B w v l) (hk : ∀ p : Addr, p.block < B → w'.cell? p = w.cell? p) : RdI B w' v l := by
  obtain ⟨A, c, hv, hc, hm, hn, hr⟩ := h
  refine ⟨A, c, hv, hc, hm, hn, fun a ha => ⟨(hr a ha).1, fun j hj => ?_⟩⟩
  rw [hk _ (by rw [addr_block]; exact (hr a ha).1 (by omega))]
  exact (hr a ha).2 j hj
theorem RdI.below {B : Nat} {w w' : World} {v : Value} {l : List Nat} (h : RdI B w v l) (hb : Below B w w') : RdI B w' v l := h.keep fun _ hp => hb.cell hp
theorem RdI.more {B B' : Nat} {w : World} {v : Value} {l : List Nat} (h : RdI B w v l) (hB : B ≤ B') : RdI B' w v l := by
  obtain ⟨A, c, hv, hc, hm, hn, hr⟩ := h
  exact ⟨A, c, hv, hc, hm, hn, fun a ha => ⟨fun h0 => Nat.lt_of_lt_of_le ((hr a ha).1 h0) hB, (hr a ha).2⟩⟩
theorem RdI.nil (B : Nat) (w : World) : RdI B w (.slice none 0 0) [] := ⟨none, 0, rfl, Nat.le_refl _, Nat.zero_le _, fun _ => rfl, fun _ h => by cases h⟩
theorem RdI.shape {B : Nat} {w : World} {v : Value} {l : List Nat} (h : RdI B w v l) : ∃ A c, v = .slice A l.length c ∧ l.length ≤ c ∧ c ≤ maxLen := by
  obtain ⟨A, c, hv, h1, h2, _⟩ := h
  exact ⟨A, c, hv, h1, h2⟩
/-- The cell of an element: where there is one, the address is there. -/
theorem RdI.at_ {B : Nat} {w : World} {A : Option Addr} {n c : Nat} {l : List Nat} (h : RdI B w (.slice A n c) l) (j : Nat) (hj : j < l.length) : ∃ a, A = some a ∧ w.cell? (a.add j) = some (.int .i64 ((l.getD j 0 : Nat) : Int)) := by
  obtain ⟨A', c', hv, hc, hm, hn, hr⟩ := h
  injection hv with h1 h2 h3
  subst h1 h2 h3
  cases A with
  | none => have := hn rfl; omega
  | some a => exact ⟨a, rfl, by rw [(hr a rfl).2 j hj]; simp [hj]⟩

theorem OwnI.rd {e : TypeId} {w : World} {base : Nat} {v : Value} {l : List Nat} (h : OwnI e w base v l) : RdI w.heap.size w v l := by
  rcases h.2 with ⟨rfl, hn⟩ | ⟨g, cap, cur, rfl, hb, hg, hnc, hm, _, _⟩
  · have : l = [] := List.eq_nil_of_length_eq_zero hn
    subst this
    exact RdI.nil _ _
  · have hlt : g < w.heap.size := (Array.getElem?_eq_some_iff.1 hg).1
    refine ⟨some ⟨g, 0, none⟩, cap, rfl, hnc, hm, fun h => (by cases h), fun a ha => ?_⟩
    cases ha
    refine ⟨fun _ => hlt, fun j hj => World.ownsRow.cells (g := g) h rfl j _ ?_⟩
    simp [ins, hj]
theorem OwnI.below {e : TypeId} {w w' : World} {base B : Nat} {v : Value} {l : List Nat} (h : OwnI e w base v l) (hb : Below B w w') (hB : w.heap.size ≤ B) : OwnI e w' base v l := by
  refine ⟨h.1, ?_⟩
  rcases h.2 with hn | ⟨g, cap, cur, rfl, hg0, hg, r⟩
  · exact .inl hn
  · have hlt : g < w.heap.size := (Array.getElem?_eq_some_iff.1 hg).1
    exact .inr ⟨g, cap, cur, rfl, hg0, by rw [hb.block g (by omega)]; exact hg, r⟩
theorem OwnI.base {e : TypeId} {w : World} {base base' : Nat} {v : Value} {l : List Nat} (h : OwnI e w base v l) (hb : base' ≤ base) : OwnI e w base' v l := by
  refine ⟨h.1, ?_⟩
  rcases h.2 with hn | ⟨g, cap, cur, rfl, hg0, r⟩
  · exact .inl hn
  · exact .inr ⟨g, cap, cur, rfl, by omega, r⟩
theorem OwnI.nil (e : TypeId) (w : World) (base : Nat) : OwnI e w base (.slice none 0 0) [] := World.ownsRow_nil w base e 1
theorem OwnI.alloc {e : TypeId} {w : World} {base : Nat} {v : Value} {l : List Nat} (h : OwnI e w base v l) (o : Obj) : OwnI e (w.alloc o) base v l := World.ownsRow.alloc h o
theorem OwnI.grown {e : TypeId} {w w' : World} {base : Nat} {v : Value} {l : List Nat} (h : OwnI e w base v l) (hg : w.grownBy w' v.ownBlock) (hb : base ≤ w.heap.size) : Below base w w' :=
  (Below.refl base w).grown hg hb fun k hk => (World.ownsRow.lt h k hk).1

/-- append of one int onto ints that are owned: the int lies at an address; other memory stays. -/
theorem wpList_app1I {P : Program} {w : World} {ops : Array Oper} {rest : List Oper} {o : Oper} {a : Act} {Q : Exit → Act → World → Prop}
    (hgd : o.guard = none) (s x : Operand) (t : TypeId) (ho : o.op = .call { callee := .builtin .append, args := #[s, x], argTypes := #[t, t] })
    (e : TypeId) (i : TypeInfo) (ht : P.underlying t = some (.slice e)) (hi : P.info? e = some i) (hz : i.zero = some (.int .i64 0)) (hsize : i.size = 1) (hby : i.bytes = 8)
    (base : Nat) (v : Value) (l : List Nat) (b : Nat) (ad : Addr) (hs : a.eval s = v) (hown : OwnI e w base v l) (hx : a.eval x = .slice (some ad) 1 1) (hc : w.cell? ad = some (.int .i64 (b : Int)))
    (hlen : l.length ≤ 1099511627776) (hbase : base ≤ w.heap.size)
    (h : ∀ v' w', OwnI e w' base v' (l ++ [b]) → Below base w w' → wpList P ops Q rest (a.put o.dst v') w') : wpList P ops Q (o :: rest) a w := by
  have h63 : l.length + 1 ≤ maxLen := by unfold maxLen; omega
  refine wpList_append_own w hgd s x t ho base e i (.int .i64 0) 1 8 ht hi hz hsize hby rfl (by decide) v l.length (ins l) hs hown ad 1 1 [.int .i64 (b : Int)] hx rfl ?_ ?_ h63 (by omega) hbase ?_
  · intro j u hu
    have hadd : ad.add 0 = ad := by simp [Addr.add]
    match j, hu with
    | 0, hu =>
      simp at hu
      subst hu
      rw [hadd]
      exact hc
  · intro u hu
    simp at hu
    subst hu
    rfl
  · intro v' w' h1 h2 _
    refine h v' w' ?_ (OwnI.grown hown h2 hbase)
    unfold OwnI
    rw [List.length_append, ins_append]
    exact h1
end Go.Proofs.Yteckenlbelgknaa

namespace Go.Proofs.Yteckenlbelgknaa
open Go.RowKit

/-- Words of 32 bits as cells. -/
def ws (l : List Nat) : List Value := l.map fun (n : Nat) => Value.int .u32 (n : Int)
theorem ws_length (l : List Nat) : (ws l).length = l.length := by simp [ws]
theorem ws_append (l m : List Nat) : ws (l ++ m) = ws l ++ ws m := by simp [ws]
theorem ws_at (l : List Nat) (j : Nat) (h : j < l.length) : (ws l)[j]? = some (.int .u32 (l[j] : Int)) := by simp [ws, h]
theorem ws_one (l : List Nat) : (ws l).toArray.all (·.oneCell') = true := by
  rw [Array.all_eq_true_iff_forall_mem]
  intro v hv
  simp [ws] at hv
  obtain ⟨n, _, rfl⟩ := hv
  rfl
theorem bys_one' (l : List UInt8) : (bys l).toArray.all (·.oneCell') = true := by
  rw [Array.all_eq_true_iff_forall_mem]
  intro v hv
  exact bys_one l v (by simpa using hv)
theorem bys_get (l : List UInt8) (j : Nat) (h : j < l.length) : (bys l)[j]? = some (.int .u8 (l[j].toNat : Int)) := by simp [bys, h]

/-- Block g is an array of type t that holds the cells cs. -/
def Blk (w : World) (g : Nat) (cs : List Value) (t : TypeId) : Prop := w.heap[g]? = some (.cells cs.toArray t (0, 0))

theorem Blk.lt {w : World} {g : Nat} {cs : List Value} {t : TypeId} (h : Blk w g cs t) : g < w.heap.size := (Array.getElem?_eq_some_iff.1 h).1
theorem Blk.below {w w' : World} {g B : Nat} {cs : List Value} {t : TypeId} (h : Blk w g cs t) (hb : Below B w w') (hg : g < B) : Blk w' g cs t := by
  unfold Blk; rw [hb.block g hg]; exact h
theorem Blk.alloc {w : World} {g : Nat} {cs : List Value} {t : TypeId} (h : Blk w g cs t) (o : Obj) : Blk (w.alloc o) g cs t := by
  unfold Blk; rw [heap_alloc_old w o g h.lt]; exact h
theorem Blk.drew {w : World} {g : Nat} {cs : List Value} {t : TypeId} (h : Blk w g cs t) : Blk w.drew g cs t := h
theorem Blk.drewN {w : World} {g n : Nat} {cs : List Value} {t : TypeId} (h : Blk w g cs t) : Blk (w.drewN n) g cs t := h
theorem Blk.cell {w : World} {g : Nat} {cs : List Value} {t : TypeId} (h : Blk w g cs t) (j : Nat) : w.cell? ⟨g, j, none⟩ = cs[j]? := by
  rw [cell_of_row w g j _ t _ h]; simp
theorem Blk.frozen {w : World} {g : Nat} {cs : List Value} {t : TypeId} (h : Blk w g cs t) (j : Nat) : w.frozen? ⟨g, j, none⟩ = false := frozen_of_row w g j _ t h
theorem Blk.range {w : World} {g : Nat} {cs : List Value} {t : TypeId} (h : Blk w g cs t) : w.rangeAt g 0 cs := fun j v hv => by
  rw [Nat.zero_add, h.cell]; exact hv
theorem Blk.set {w : World} {g : Nat} {cs : List Value} {t : TypeId} (h : Blk w g cs t) (j : Nat) (v : Value) : Blk (w.setCell ⟨g, j, none⟩ v) g (cs.set j v) t := by
  unfold Blk; rw [heap_setCell_same w g j _ t v h]; simp
theorem Blk.setOther {w : World} {g : Nat} {cs : List Value} {t : TypeId} (h : Blk w g cs t) (a : Addr) (v : Value) (hg : g ≠ a.block) : Blk (w.setCell a v) g cs t := by
  unfold Blk; rw [heap_setCell_other w a g v hg]; exact h
theorem Blk.setRow {w : World} {g : Nat} {cs cs' : List Value} {t : TypeId} (h : Blk w g cs t) : Blk (w.setRow g cs'.toArray) g cs' t := setRow_heap w g _ _ t _ h
theorem Blk.setRowOther {w : World} {g g' : Nat} {cs cs' : List Value} {t : TypeId} (h : Blk w g cs t) (hg : g ≠ g') : Blk (w.setRow g' cs'.toArray) g cs t := by
  unfold Blk; rw [setRow_other w g' g _ hg]; exact h
theorem below_setRow' {B g : Nat} {w0 w : World} (hb : Below B w0 w) (hBg : B ≤ g) (cs : Array Value) : Below B w0 (w.setRow g cs) :=
  hb.trans ⟨rfl, rfl, rfl, by simp, fun k hk => setRow_other w g k cs (by omega)⟩
theorem Below.drewN' {B n : Nat} {a w : World} (h : Below B a w) : Below B a (w.drewN n) := ⟨h.os, h.tape, h.output, h.size, h.block⟩

section
variable {P : Program} {w : World} {ops : Array Oper} {rest : List Oper} {o : Oper} {a : Act} {Q : Exit → Act → World → Prop}

/-- A new variable of a type, its zero value in it. -/
theorem wpList_alloc_blk (hg : o.guard = none) (t : TypeId) (ho : o.op = .alloc t) (z : List Value) (hz : (P.info? t).map (·.zero) = some (some (.agg z.toArray)))
    (h : ∀ w1, Blk w1 w.heap.size z t → w1.heap.size = w.heap.size + 1 → Below w.heap.size w w1 → wpList P ops Q rest (a.put o.dst (.pointer (some ⟨w.heap.size, 0, none⟩))) w1) : wpList P ops Q (o :: rest) a w := by
  refine wpList_plain hg fun K hK => ?_
  have hzero : (zeroValue t).run P w = .ok (.agg z.toArray) w := by
    cases hq : P.info? t with
    | none => simp [hq] at hz
    | some i => simp [hq] at hz; simp [zeroValue, typeInfo, hq, hz]
  unfold Oper.wp execOp
  simp only [ho, Sem.run_bind, Instr.alloc, hzero, newVar, newRow, run_newObj_alloc, Sem.run_pure, Result.andThen_ok]
  refine hK _ _ (h _ (heap_alloc_new w _) (by simp) ((Below.refl _ _).alloc (Nat.le_refl _) _))

/-- A new variable that holds an array's cells. -/
theorem wpList_box_blk (hg : o.guard = none) (t : TypeId) (x : Operand) (ho : o.op = .box t x) (cs : List Value) (hx : a.eval x = .agg cs.toArray)
    (h : ∀ w1, Blk w1 w.heap.size cs t → w1.heap.size = w.heap.size + 1 → Below w.heap.size w w1 → wpList P ops Q rest (a.put o.dst (.pointer (some ⟨w.heap.size, 0, none⟩))) w1) : wpList P ops Q (o :: rest) a w := by
  refine wpList_plain hg fun K hK => ?_
  unfold Oper.wp execOp
  simp only [ho, hx, Value.cells, Sem.run_bind, Instr.box, newVar, newRow, run_newObj_alloc, Sem.run_pure, Result.andThen_ok]
  exact hK _ _ (h _ (heap_alloc_new w _) (by simp) ((Below.refl _ _).alloc (Nat.le_refl _) _))

/-- The whole array is read. -/
theorem wpList_load_blk (hg : o.guard = none) (t : TypeId) (x : Operand) (ho : o.op = .load t x) (g : Nat) (hx : a.eval x = .pointer (some ⟨g, 0, none⟩)) (cs : List Value) (u : TypeId) (hb : Blk w g cs u)
    (n : Nat) (e : TypeId) (hu : P.underlying t = some (.array n e)) (hi : (P.info? t).map (·.size) = some cs.length)
    (h : wpList P ops Q rest (a.put o.dst (.agg cs.toArray)) w) : wpList P ops Q (o :: rest) a w :=
  wpList_load_row hg t x ho g hx u cs.toArray (0, 0) _ hb hu rfl (by simpa using hi) h

/-- The whole array is written. -/
theorem wpList_store_blk (hg : o.guard = none) (t : TypeId) (x y : Operand) (ho : o.op = .store t x y) (g : Nat) (cs old : List Value) (u : TypeId) (hx : a.eval x = .pointer (some ⟨g, 0, none⟩)) (hy : a.eval y = .agg cs.toArray)
    (hb : Blk w g old u) (hi : (P.info? t).map (·.size) = some cs.length) (hl : old.length = cs.length) (h1 : cs.toArray.all (·.oneCell') = true)
    (h : wpList P ops Q rest (a.put o.dst undef) (w.setRow g cs.toArray)) : wpList P ops Q (o :: rest) a w :=
  wpList_store_row hg t x y ho g cs.toArray hx hy u old.toArray hb (by simpa using hi) (by simpa using hl) h1 h

end

/-- What a function answers whose one result lies in a variable of its own. -/
theorem ret_blk {P : Program} {fn : Func} {p : Tmp} {ty : TypeId} (h : fn.results = #[.cell p ty]) (tmps : Array Value) (w : World) (g : Nat) (t : TypeId) (cs : List Value)
    (hp : tmps.getD p undef = .pointer (some ⟨g, 0, none⟩)) (hb : Blk w g cs t) (n : Nat) (e : TypeId) (hu : P.underlying ty = some (.array n e)) (hi : (P.info? ty).map (·.size) = some cs.length) :
    (results fn tmps).run P w = .ok (.agg cs.toArray) w :=
  results_cell_row h tmps w g t cs.toArray (0, 0) _ hp hb hu rfl (by simpa using hi)
theorem ret_blk2 {P : Program} {fn : Func} {p u : Tmp} {ty : TypeId} (h : fn.results = #[.cell p ty, .tmp u]) (tmps : Array Value) (w : World) (g : Nat) (t : TypeId) (cs : List Value) (v : Value)
    (hp : tmps.getD p undef = .pointer (some ⟨g, 0, none⟩)) (hv : tmps.getD u undef = v) (hb : Blk w g cs t) (n : Nat) (e : TypeId) (hu : P.underlying ty = some (.array n e)) (hi : (P.info? ty).map (·.size) = some cs.length) :
    (results fn tmps).run P w = .ok (.tuple #[.agg cs.toArray, v]) w := by
  rw [results_cell_tmp h, hp]
  simp [asAddr, Result.andThen, run_loadVar_row w g t ty cs.toArray (0, 0) _ hb hu rfl (by simpa using hi)]
  simpa using hv
end Go.Proofs.Yteckenlbelgknaa

namespace Go.Proofs.Yteckenlbelgknaa
open Go.RowKit
section
variable {P : Program} {ops : Array Oper} {Q : Exit → Act → World → Prop} {md : Region.Mode} {S : World → Prop} {m : Nat}

/-- Whatever order is picked from here on; S holds behind each operation till number m has come up. -/
def AnyTill (P : Program) (md : Region.Mode) (ops : Array Oper) (Q : Exit → Act → World → Prop) (S : World → Prop) (m : Nat) : Nat → Array Bool → Act → World → Prop
  | 0, listed, a, w => Region.ready md ops listed = [] ∧ Q .normal a w
  | n + 1, listed, a, w => (Region.ready md ops listed = [] → Q .normal a w) ∧
      ∀ i ∈ Region.ready md ops listed, wpOp P ops Q i (fun a' w' => ((listed.setIfInBounds i true).getD m false = true ∨ S w') ∧ AnyTill P md ops Q S m n (listed.setIfInBounds i true) a' w') a w

theorem AnyTill.any : ∀ (n : Nat) (listed : Array Bool) (a : Act) (w : World), AnyTill P md ops Q S m n listed a w → wpAny P md ops Q n listed a w
  | 0, _, _, _, h => h
  | n + 1, _, _, _, h => ⟨h.1, fun i hi => wpOp_mono (fun a' w' h' => AnyTill.any n _ a' w' h'.2) (h.2 i hi)⟩

/-- Does number m wait for number i? -/
def waitsB (md : Region.Mode) (ops : Array Oper) (m i : Nat) : Bool := match ops[m]? with
  | some o => o.after.any fun e => Region.binds md e && e.on == i
  | none => true

theorem listed_both {listed : Array Bool} {i : Nat} (hu : listed.getD i true = false) (hl : listed.getD i false = true) : False := by
  rcases Nat.lt_or_ge i listed.size with h' | h'
  · simp [h'] at hu hl; rw [hu] at hl; cases hl
  · simp [Array.getElem?_eq_none h'] at hl

theorem not_ready_of_waits {i : Nat} {listed : Array Bool} (hw : waitsB md ops m i = true) (hu : listed.getD i true = false) : m ∉ Region.ready md ops listed := fun hr => by
  obtain ⟨_, o, ho, hall⟩ := mem_ready.1 hr
  unfold waitsB at hw
  rw [ho] at hw
  obtain ⟨e, he, hb⟩ := Array.any_eq_true'.1 hw
  simp only [Bool.and_eq_true, beq_iff_eq] at hb
  have h1 := hall e he hb.1
  rw [hb.2] at h1
  exact listed_both hu h1

/-- What may come up and is not number i does not wait for number i. -/
theorem ready_not_after {i : Nat} {oj : Oper} {listed : Array Bool} (hiu : listed.getD i true = false) (hja : ∀ e ∈ oj.after, Region.binds md e = true → listed.getD e.on false = true) :
    ∀ e ∈ oj.after, Region.binds md e = true → e.on ≠ i := fun e he hb heq => by
  have h1 := hja e he hb
  rw [heq] at h1
  exact listed_both hiu h1

/-- An operation that yields its value wherever S holds may be taken first, if number m waits for it. -/
theorem AnyTill.first {i : Nat} {oi : Oper} {v : Value} (hi : ops[i]? = some oi) (hsel : Region.noSelect ops = true) (hw : waitsB md ops m i = true)
    (hQ : ∀ c a w, Q (.panic c) (a.put oi.dst v) w → Q (.panic c) a w) : ∀ (n : Nat) (listed : Array Bool) (a : Act) (w : World), listed.getD m false = false →
      (∀ j oj, ops[j]? = some oj → j ≠ i → listed.getD j true = false → (∀ e ∈ oj.after, Region.binds md e = true → e.on ≠ i) → oi.apart ops oj = true) →
      i ∈ Region.ready md ops listed → YieldsIf P ops S oi v a → S w →
      AnyTill P md ops Q S m n (listed.setIfInBounds i true) (a.put oi.dst v) w → AnyTill P md ops Q S m (n + 1) listed a w := by
  intro n
  induction n with
  | zero =>
    intro listed a w _ _ hr hy hS H
    refine ⟨fun h => absurd hr (by rw [h]; exact List.not_mem_nil), fun j hj => ?_⟩
    rcases Nat.decEq j i with hne | rfl
    · have hj' := ready_mono hj hne
      rw [H.1] at hj'
      exact absurd hj' List.not_mem_nil
    · exact hy.wpOp hi hS ⟨.inr hS, H⟩
  | succ n ih =>
    intro listed a w hml hfree hr hy hS H
    refine ⟨fun h => absurd hr (by rw [h]; exact List.not_mem_nil), fun j hj => ?_⟩
    rcases Nat.decEq j i with hne | rfl
    · obtain ⟨hju, oj, hoj, hja⟩ := mem_ready.1 hj
      have hiu := (mem_ready.1 hr).1
      have hjm : j ≠ m := fun e => not_ready_of_waits hw hiu (e ▸ hj)
      have him : i ≠ m := fun e => not_ready_of_waits hw hiu (e ▸ hr)
      have hsp := Region.noSelect_spec hsel
      have hstep := wpOp_putIf hoj (hfree j oj hoj hne hju (ready_not_after hiu hja)) (fun cs b => hsp i oi cs b hi) (fun cs b => hsp j oj cs b hoj) hQ hy (H.2 j (ready_mono hj hne))
      refine wpOp_mono (fun a' w' hk => ?_) hstep
      have hS' : S w' := hk.2.1.resolve_left (by rw [getD_set_ne false hjm, getD_set_ne false him, hml]; decide)
      refine ⟨.inr hS', ih (listed.setIfInBounds j true) a' w' (by rw [getD_set_ne false hjm]; exact hml) (fun k ok hok hki hku hkn => hfree k ok hok hki ?_ hkn) (ready_mono hr (Ne.symm hne)) hk.1 hS' ?_⟩
      · rcases Nat.decEq j k with hjk | rfl
        · rw [getD_set_ne true hjk] at hku; exact hku
        · exact hju
      · rw [Array.setIfInBounds_comm _ _ hne]
        exact hk.2.2
    · exact hy.wpOp hi hS ⟨.inr hS, H⟩

/-- An operation that yields its value in every world may be taken first. -/
theorem AnyTill.firstFree {i : Nat} {oi : Oper} {v : Value} (hi : ops[i]? = some oi) (hsel : Region.noSelect ops = true) (him : i ≠ m)
    (hQ : ∀ c a w, Q (.panic c) (a.put oi.dst v) w → Q (.panic c) a w) : ∀ (n : Nat) (listed : Array Bool) (a : Act) (w : World),
      (∀ j oj, ops[j]? = some oj → j ≠ i → listed.getD j true = false → (∀ e ∈ oj.after, Region.binds md e = true → e.on ≠ i) → oi.apart ops oj = true) →
      i ∈ Region.ready md ops listed → YieldsIf P ops (fun _ => True) oi v a → (listed.getD m false = true ∨ S w) →
      AnyTill P md ops Q S m n (listed.setIfInBounds i true) (a.put oi.dst v) w → AnyTill P md ops Q S m (n + 1) listed a w := by
  intro n
  induction n with
  | zero =>
    intro listed a w _ hr hy hS H
    refine ⟨fun h => absurd hr (by rw [h]; exact List.not_mem_nil), fun j hj => ?_⟩
    rcases Nat.decEq j i with hne | rfl
    · have hj' := ready_mono hj hne
      rw [H.1] at hj'
      exact absurd hj' List.not_mem_nil
    · exact hy.wpOp hi trivial ⟨by rw [getD_set_ne false him]; exact hS, H⟩
  | succ n ih =>
    intro listed a w hfree hr hy hS H
    refine ⟨fun h => absurd hr (by rw [h]; exact List.not_mem_nil), fun j hj => ?_⟩
    rcases Nat.decEq j i with hne | rfl
    · obtain ⟨hju, oj, hoj, hja⟩ := mem_ready.1 hj
      have hiu := (mem_ready.1 hr).1
      have hsp := Region.noSelect_spec hsel
      have hstep := wpOp_putIf hoj (hfree j oj hoj hne hju (ready_not_after hiu hja)) (fun cs b => hsp i oi cs b hi) (fun cs b => hsp j oj cs b hoj) hQ hy (H.2 j (ready_mono hj hne))
      refine wpOp_mono (fun a' w' hk => ?_) hstep
      have hS' : (listed.setIfInBounds j true).getD m false = true ∨ S w' := by
        have h := hk.2.1
        rw [Array.setIfInBounds_comm _ _ (Ne.symm hne), getD_set_ne false him] at h
        exact h
      refine ⟨hS', ih (listed.setIfInBounds j true) a' w' (fun k ok hok hki hku hkn => hfree k ok hok hki ?_ hkn) (ready_mono hr (Ne.symm hne)) hk.1 hS' ?_⟩
      · rcases Nat.decEq j k with hjk | rfl
        · rw [getD_set_ne true hjk] at hku; exact hku
        · exact hju
      · rw [Array.setIfInBounds_comm _ _ hne]
        exact hk.2.2
    · exact hy.wpOp hi trivial ⟨by rw [getD_set_ne false him]; exact hS, H⟩

/-- The first law, its conditions as closed facts. -/
theorem AnyTill.take {l : List Oper} {i : Nat} {oi : Oper} {v : Value} {n : Nat} {listed : Array Bool} {a : Act} {w : World} (hi : l[i]? = some oi) (hsel : Region.noSelect l.toArray = true) (hw : (waitsB md l.toArray m i && !listed.getD m false) = true)
    (hf : Region.free md l.toArray listed i = true) (hr : (Region.ready md l.toArray listed).contains i = true) (hQ : ∀ c a w, Q (.panic c) (a.put oi.dst v) w → Q (.panic c) a w)
    (hwt : Region.wanted oi (yielded l.toArray a.tmps) = true) (hy : ∀ w, S w → (execOp a.eval oi).run P w = .ok (.value v) w) (hS : S w)
    (h : AnyTill P md l.toArray Q S m n (listed.setIfInBounds i true) (a.put oi.dst v) w) : AnyTill P md l.toArray Q S m (n + 1) listed a w := by
  simp only [Bool.and_eq_true, Bool.not_eq_true'] at hw
  exact AnyTill.first (by simpa using hi) hsel hw.1 hQ n listed a w hw.2 (Region.free_spec (by simpa using hi) hf) (by simpa using hr) (.inl ⟨hwt, hy⟩) hS h

/-- The second law, its conditions as closed facts. -/
theorem AnyTill.free {l : List Oper} {i : Nat} {oi : Oper} {v : Value} {n : Nat} {listed : Array Bool} {a : Act} {w : World} (hi : l[i]? = some oi) (hsel : Region.noSelect l.toArray = true) (him : (i != m) = true)
    (hf : Region.free md l.toArray listed i = true) (hr : (Region.ready md l.toArray listed).contains i = true) (hQ : ∀ c a w, Q (.panic c) (a.put oi.dst v) w → Q (.panic c) a w)
    (hwt : Region.wanted oi (yielded l.toArray a.tmps) = true) (hy : ∀ w, (execOp a.eval oi).run P w = .ok (.value v) w) (hS : S w)
    (h : AnyTill P md l.toArray Q S m n (listed.setIfInBounds i true) (a.put oi.dst v) w) : AnyTill P md l.toArray Q S m (n + 1) listed a w :=
  AnyTill.firstFree (by simpa using hi) hsel (by simpa using him) hQ n listed a w (Region.free_spec (by simpa using hi) hf) (by simpa using hr) (.inl ⟨hwt, fun w _ => hy w⟩) (.inr hS) h

/-- One operation alone may come up. -/
theorem AnyTill.one {l : List Oper} {i : Nat} {o : Oper} {n : Nat} {listed : Array Bool} {a : Act} {w : World} (hr : Region.ready md l.toArray listed = [i]) (ho : l[i]? = some o) (hwt : Region.wanted o (yielded l.toArray a.tmps) = true)
    (h : ∀ K : Act → World → Prop, Shut (∀ a' w', ((listed.setIfInBounds i true).getD m false = true ∨ S w') → AnyTill P md l.toArray Q S m n (listed.setIfInBounds i true) a' w' → K a' w') → Oper.wp P o a w K Q) : AnyTill P md l.toArray Q S m (n + 1) listed a w := by
  refine ⟨fun h0 => (by rw [hr] at h0; cases h0), fun j hj => ?_⟩
  rw [hr, List.mem_singleton] at hj
  subst hj
  unfold wpOp
  rw [show l.toArray[j]? = some o by simpa using ho]
  simp only [hwt, if_true]
  exact .inl (h _ fun a' w' h1 h2 => ⟨h1, h2⟩)

/-- Two operations may come up. -/
theorem AnyTill.two {l : List Oper} {i j : Nat} {o o' : Oper} {n : Nat} {listed : Array Bool} {a : Act} {w : World} (hr : Region.ready md l.toArray listed = [i, j]) (ho : l[i]? = some o) (ho' : l[j]? = some o')
    (hwt : Region.wanted o (yielded l.toArray a.tmps) = true) (hwt' : Region.wanted o' (yielded l.toArray a.tmps) = true)
    (h : ∀ K : Act → World → Prop, Shut (∀ a' w', ((listed.setIfInBounds i true).getD m false = true ∨ S w') → AnyTill P md l.toArray Q S m n (listed.setIfInBounds i true) a' w' → K a' w') → Oper.wp P o a w K Q)
    (h' : ∀ K : Act → World → Prop, Shut (∀ a' w', ((listed.setIfInBounds j true).getD m false = true ∨ S w') → AnyTill P md l.toArray Q S m n (listed.setIfInBounds j true) a' w' → K a' w') → Oper.wp P o' a w K Q) : AnyTill P md l.toArray Q S m (n + 1) listed a w := by
  refine ⟨fun h0 => (by rw [hr] at h0; cases h0), fun k hk => ?_⟩
  rw [hr] at hk
  simp only [List.mem_cons, List.not_mem_nil, or_false] at hk
  rcases hk with rfl | rfl
  · unfold wpOp
    rw [show l.toArray[k]? = some o by simpa using ho]
    simp only [hwt, if_true]
    exact .inl (h _ fun a' w' h1 h2 => ⟨h1, h2⟩)
  · unfold wpOp
    rw [show l.toArray[k]? = some o' by simpa using ho']
    simp only [hwt', if_true]
    exact .inl (h' _ fun a' w' h1 h2 => ⟨h1, h2⟩)

/-- A new variable, as one step. -/
theorem wp_alloc_blk {o : Oper} {a : Act} {w : World} {K : Act → World → Prop} (t : TypeId) (ho : o.op = .alloc t) (z : List Value) (hz : (P.info? t).map (·.zero) = some (some (.agg z.toArray)))
    (h : ∀ w1, Blk w1 w.heap.size z t → w1.heap.size = w.heap.size + 1 → Below w.heap.size w w1 → K (a.put o.dst (.pointer (some ⟨w.heap.size, 0, none⟩))) w1) : o.wp P a w K Q := by
  have hzero : (zeroValue t).run P w = .ok (.agg z.toArray) w := by
    cases hq : P.info? t with
    | none => simp [hq] at hz
    | some i => simp [hq] at hz; simp [zeroValue, typeInfo, hq, hz]
  unfold Oper.wp execOp
  simp only [ho, Sem.run_bind, Instr.alloc, hzero, newVar, newRow, run_newObj_alloc, Sem.run_pure, Result.andThen_ok]
  exact h _ (heap_alloc_new w _) (by simp) ((Below.refl _ _).alloc (Nat.le_refl _) _)

/-- All have come up. -/
theorem AnyTill.done {listed : Array Bool} {a : Act} {w : World} (hr : Region.ready md ops listed = []) (h : Q .normal a w) : AnyTill P md ops Q S m 0 listed a w := ⟨hr, h⟩

/-- The beginning. -/
theorem wp_region_till (N m : Nat) (S : World → Prop) {id : Nat} {a : Act} {w : World} (hm : P.follows .mixedOrders = true) (hN : ops.size = N)
    (h : AnyTill P .any ops (NoPanic Q) S m N (Array.replicate N false) a w.drew) : (Code.region id ops true).wp P Q a w := by
  subst hN
  exact wp_region_noPanic (wp_region_any hm (AnyTill.any _ _ _ _ h))

/-- A whole array is read. -/
theorem run_load_blk {o : Oper} {a : Act} {w : World} (t : TypeId) (x : Operand) (ho : o.op = .load t x) (g : Nat) (hx : a.eval x = .pointer (some ⟨g, 0, none⟩)) (cs : List Value) (u : TypeId) (hb : Blk w g cs u)
    (n : Nat) (e : TypeId) (hu : P.underlying t = some (.array n e)) (hi : (P.info? t).map (·.size) = some cs.length) : (execOp a.eval o).run P w = .ok (.value (.agg cs.toArray)) w := by
  unfold execOp
  simp only [ho, hx, Instr.loadAt, Instr.sureAddr, Sem.run_bind, Sem.run_pure, Result.andThen_ok, run_loadVar_row w g u t cs.toArray (0, 0) _ hb hu rfl (by simpa using hi)]
/-- append of some bytes onto a slice that has no spare capacity: the bytes lie in new memory. -/
theorem wp_grow {o : Oper} {a : Act} {w : World} {K : Act → World → Prop} (hg : o.guard = none) (s x : Operand) (t : TypeId) (ho : o.op = .call { callee := .builtin .append, args := #[s, x], argTypes := #[t, t] })
    (e : TypeId) (i : TypeInfo) (ht : P.underlying t = some (.slice e)) (hi : P.info? e = some i) (hz : i.zero = some (.int .u8 0)) (hsize : i.size = 1) (hby : i.bytes = 1)
    (B B2 : Nat) (A : Option Addr) (n : Nat) (v2 : Value) (l l2 : List UInt8) (hs : a.eval s = .slice A n n) (hr : Rd B w (.slice A n n) l) (hx : a.eval x = v2) (hr2 : Rd B2 w v2 l2) (h2 : 0 < l2.length) (hlen : l.length + l2.length ≤ 140737488355328)
    (h : ∀ v' w', Own e w' w.heap.size v' (l ++ l2) → Below w.heap.size w w' → K (a.put o.dst v') w') : o.wp P a w K Q := by
  obtain ⟨A', c', hv, hc, hm, hn, hcell⟩ := hr
  injection hv with e1 e2 e3
  subst e1 e2 e3
  obtain ⟨A2, c2, rfl, hc2, hm2, hn2, hcell2⟩ := hr2
  obtain ⟨ad, rfl⟩ : ∃ ad, A2 = some ad := by
    cases A2 with
    | none => have := hn2 rfl; omega
    | some ad => exact ⟨ad, rfl⟩
  have hstep := step_append_grows (P := P) (ops := #[]) (o := o) (a := a) (w := w) (K := K) (Q := Q) (E := True) hg s x t ho e i (.int .u8 0) 1 1 ht hi hz hsize hby rfl (by decide)
    A l.length l.length (bys l) hs (fun hnone => ⟨hn hnone, hn hnone⟩) (by rw [bys_length, Nat.mul_one]) (fun b hb j u hu => by obtain ⟨hj, rfl⟩ := bys_at l j u hu; exact (hcell b hb).2 j hj)
    ad l2.length c2 (bys l2) hx (by rw [bys_length, Nat.mul_one]) (fun j u hu => by obtain ⟨hj, rfl⟩ := bys_at l2 j u hu; exact (hcell2 ad rfl).2 j hj) (bys_one l2) (by omega) (by unfold maxLen; omega) (by omega)
    (fun v' w' r1 r2 => h v' w' (by unfold Own; rw [List.length_append, bys_append]; exact r1) ((Below.refl _ _).grown r2 (Nat.le_refl _) (fun k hk => by cases hk)))
  have hw : Region.wanted o (yielded #[] a.tmps) = true := by simp [Region.wanted, hg]
  rw [if_pos hw] at hstep
  exact hstep
/-- A whole array is written. -/
theorem wp_store_blk {o : Oper} {a : Act} {w : World} {K : Act → World → Prop} (t : TypeId) (x y : Operand) (ho : o.op = .store t x y) (g : Nat) (cs old : List Value) (u : TypeId) (hx : a.eval x = .pointer (some ⟨g, 0, none⟩)) (hy : a.eval y = .agg cs.toArray)
    (hb : Blk w g old u) (hi : (P.info? t).map (·.size) = some cs.length) (hl : old.length = cs.length) (h1 : cs.toArray.all (·.oneCell') = true)
    (h : K (a.put o.dst undef) (w.setRow g cs.toArray)) : o.wp P a w K Q :=
  wp_store_row t x y ho g cs.toArray hx hy u old.toArray hb (by simpa using hi) (by simpa using hl) h1 h
end
end Go.Proofs.Yteckenlbelgknaa

namespace Go.Proofs.Yteckenlbelgknaa
open Go.RowKit

/-- The values, with another one for number j. -/
def upd (x : Nat → Value) (j : Nat) (v : Value) : Nat → Value := fun k => if k = j then v else x k
theorem upd_same (x : Nat → Value) (j : Nat) (v : Value) : upd x j v j = v := by simp [upd]
theorem upd_ne (x : Nat → Value) (j k : Nat) (v : Value) (h : k ≠ j) : upd x j v k = x k := by simp [upd, h]

/-- Those below number m wait for lesser ones alone; those from m on wait for all below m. -/
def lateB (l : List Oper) (m : Nat) : Bool :=
  decide (m ≤ l.length) && (List.range l.length).all fun j =>
    if j < m then ((l[j]?).map fun o => o.after.all fun e => !Region.binds .any e || decide (e.on < j)).getD false else (List.range m).all fun k => waitsB .any l.toArray j k
/-- All below number m have come up. -/
def listedAt (n m : Nat) : Array Bool := (List.replicate m true ++ List.replicate (n - m) false).toArray

theorem wpAny_more {P : Program} {ops : Array Oper} {Q : Exit → Act → World → Prop} {md : Region.Mode} : ∀ (n : Nat) (listed : Array Bool) (a : Act) (w : World), wpAny P md ops Q n listed a w → wpAny P md ops Q (n + 1) listed a w
  | 0, _, _, _, h => ⟨fun _ => h.2, fun i hi => by rw [h.1] at hi; exact absurd hi List.not_mem_nil⟩
  | n + 1, _, _, _, h => ⟨h.1, fun i hi => wpOp_mono (fun a' w' h' => wpAny_more n _ a' w' h') (h.2 i hi)⟩
theorem wpAny_le {P : Program} {ops : Array Oper} {Q : Exit → Act → World → Prop} {md : Region.Mode} {n k : Nat} {listed : Array Bool} {a : Act} {w : World} (hk : n ≤ k) (h : wpAny P md ops Q n listed a w) : wpAny P md ops Q k listed a w := by
  induction k with
  | zero => rwa [show n = 0 by omega] at h
  | succ k ih =>
    rcases Nat.lt_or_ge k n with h1 | h1
    · rwa [show n = k + 1 by omega] at h
    · exact wpAny_more _ _ _ _ (ih h1)

/-- What is asked of operation j. -/
structure StepAt (P : Program) (l : List Oper) (Q : Exit → Act → World → Prop) (F : (Nat → Value) → Act) (Φ : Nat → Value → World → Prop) (w0 : World) (j : Nat) (o : Oper) : Prop where
  keep : ∀ v w w', Φ j v w → Below w.heap.size w w' → Φ j v w'
  put : ∀ x v, (F x).put o.dst v = F (upd x j v)
  step : ∀ x w, Below w0.heap.size w0 w → (∀ k, waitsB .any l.toArray j k = true → Φ k (x k) w) →
    wpOp P l.toArray (NoPanic Q) j (fun a' w' => ∃ v, a' = (F x).put o.dst v ∧ Below w.heap.size w w' ∧ Φ j v w') (F x) w

def StepsAt (P : Program) (l : List Oper) (Q : Exit → Act → World → Prop) (F : (Nat → Value) → Act) (Φ : Nat → Value → World → Prop) (w0 : World) : Nat → List Oper → Nat → Prop
  | 0, _, _ => True
  | _ + 1, [], _ => True
  | n + 1, o :: r, j => StepAt P l Q F Φ w0 j o ∧ StepsAt P l Q F Φ w0 n r (j + 1)

section
variable {P : Program} {l : List Oper} {Q : Exit → Act → World → Prop} {F : (Nat → Value) → Act} {Φ : Nat → Value → World → Prop} {w0 : World}
theorem StepsAt.done {r : List Oper} {j : Nat} : StepsAt P l Q F Φ w0 0 r j := trivial
theorem StepsAt.get : ∀ (n : Nat) (r : List Oper) (j : Nat), StepsAt P l Q F Φ w0 n r j → ∀ i o, i < n → r[i]? = some o → StepAt P l Q F Φ w0 (j + i) o
  | 0, _, _, _, i, _, hi, _ => by omega
  | n + 1, [], _, _, i, _, _, ho => by simp at ho
  | n + 1, o :: r, j, h, 0, o', _, ho => by simp at ho; subst ho; exact h.1
  | n + 1, o :: r, j, h, i + 1, o', hi, ho => by
    have := StepsAt.get n r (j + 1) h.2 i o' (by omega) (by simpa using ho)
    rwa [show j + 1 + i = j + (i + 1) by omega] at this

theorem waits_of {j : Nat} {o : Oper} (hoj : l[j]? = some o) {k : Nat} (h : waitsB .any l.toArray j k = true) : ∃ e ∈ o.after, Region.binds .any e = true ∧ e.on = k := by
  unfold waitsB at h
  rw [show l.toArray[j]? = some o by simpa using hoj] at h
  obtain ⟨e, he, hb⟩ := Array.any_eq_true'.1 h
  simp only [Bool.and_eq_true, beq_iff_eq] at hb
  exact ⟨e, he, hb.1, hb.2⟩

theorem least_false (f : Nat → Bool) : ∀ m, (∃ j, j < m ∧ f j = false) → ∃ j, j < m ∧ f j = false ∧ ∀ k, k < j → f k = true
  | 0, h => by obtain ⟨j, hj, _⟩ := h; omega
  | m + 1, h => by
    by_cases h1 : ∃ j, j < m ∧ f j = false
    · obtain ⟨j, hj, h2⟩ := least_false f m h1
      exact ⟨j, by omega, h2⟩
    · obtain ⟨j, hj, hf⟩ := h
      have hjm : j = m := by
        rcases Nat.lt_or_ge j m with h2 | h2
        · exact absurd ⟨j, h2, hf⟩ h1
        · omega
      subst hjm
      refine ⟨j, hj, hf, fun k hk => ?_⟩
      cases hq : f k
      · exact absurd ⟨k, hk, hq⟩ h1
      · rfl

theorem rely_any (m : Nat) (hlate : lateB l m = true) (hs : StepsAt P l Q F Φ w0 m l 0)
    (hend : ∀ x w, Below w0.heap.size w0 w → (∀ j, j < m → Φ j (x j) w) → wpAny P .any l.toArray (NoPanic Q) (l.length - m) (listedAt l.length m) (F x) w) :
    ∀ (n : Nat) (listed : Array Bool) (u : List Nat) (x : Nat → Value) (w : World), listed.size = l.length → (∀ k, m ≤ k → k < l.length → listed.getD k true = false) → (∀ j, j < m → listed.getD j false = false → j ∈ u) →
      l.length - m + u.length ≤ n → Below w0.heap.size w0 w → (∀ j, j < m → listed.getD j false = true → Φ j (x j) w) → wpAny P .any l.toArray (NoPanic Q) n listed (F x) w := by
  simp only [lateB, Bool.and_eq_true, decide_eq_true_eq, List.all_eq_true, List.mem_range] at hlate
  obtain ⟨hml, hla⟩ := hlate
  intro n
  induction n with
  | zero =>
    intro listed u x w hsz hlo hu hn hb hp
    have hall : ∀ j, j < m → listed.getD j false = true := fun j hj => by
      cases hq : listed.getD j false
      · have := List.length_pos_of_mem (hu j hj hq); omega
      · rfl
    have hl : listed = listedAt l.length m := by
      refine Array.ext (by simp [listedAt, hsz]; omega) (fun i h1 h2 => ?_)
      rcases Nat.lt_or_ge i m with h | h
      · have := hall i h
        simp [h1] at this
        simp [listedAt, h, this]
      · have := hlo i h (by omega)
        simp [h1] at this
        simp [listedAt, List.getElem_append, Nat.not_lt.2 h, this]
    subst hl
    exact wpAny_le (by omega) (hend x w hb (fun j hj => hp j hj (hall j hj)))
  | succ n ih =>
    intro listed u x w hsz hlo hu hn hb hp
    by_cases hex : ∃ j, j < m ∧ listed.getD j false = false
    · obtain ⟨j0, hj0, hf0, hlt0⟩ := least_false _ m hex
      have hun : ∀ j, j < m → listed.getD j false = false → listed.getD j true = false := fun j hj h => by
        have : j < listed.size := by omega
        simp [this] at h ⊢
        exact h
      obtain ⟨o0, ho0⟩ : ∃ o, l[j0]? = some o := ⟨l[j0]'(by omega), by simp⟩
      have hr0 : j0 ∈ Region.ready .any l.toArray listed := by
        refine mem_ready.2 ⟨hun j0 hj0 hf0, o0, by simpa using ho0, fun e he hbd => hlt0 e.on ?_⟩
        have h1 := hla j0 (by omega)
        rw [if_pos hj0, ho0] at h1
        simp only [Option.map_some, Option.getD_some, Array.all_eq_true_iff_forall_mem] at h1
        have h2 := h1 e he
        simp [hbd] at h2
        exact h2
      refine ⟨fun h => absurd hr0 (by rw [h]; exact List.not_mem_nil), fun i hi => ?_⟩
      obtain ⟨hiu, oi, hoi, hia⟩ := mem_ready.1 hi
      have hoi' : l[i]? = some oi := by simpa using hoi
      have hil : i < l.length := (List.getElem?_eq_some_iff.1 hoi').1
      have him : i < m := by
        rcases Nat.lt_or_ge i m with h | h
        · exact h
        · have h1 := hla i hil
          rw [if_neg (Nat.not_lt.2 h)] at h1
          simp only [List.all_eq_true, List.mem_range] at h1
          obtain ⟨e, he, hbd, hon⟩ := waits_of hoi' (h1 j0 hj0)
          have h2 := hia e he hbd
          rw [hon, hf0] at h2
          cases h2
      have hsi := StepsAt.get m l 0 hs i oi him hoi'
      rw [Nat.zero_add] at hsi
      have hif : listed.getD i false = false := by
        have : i < listed.size := by omega
        simp [this] at hiu ⊢
        exact hiu
      refine wpOp_mono (fun a' w' hk => ?_) (hsi.step x w hb (fun k hk => ?_))
      · obtain ⟨v, rfl, hb', hv⟩ := hk
        rw [hsi.put]
        refine ih (listed.setIfInBounds i true) (u.erase i) (upd x i v) w' (by simp [hsz]) (fun k h1 h2 => ?_) (fun j hj hjf => ?_) ?_ (hb.trans (hb'.mono hb.size)) (fun j hj hjl => ?_)
        · rw [getD_set_ne true (by omega)]; exact hlo k h1 h2
        · have hne : i ≠ j := fun e => by
            subst e
            simp [show i < listed.size by omega] at hjf
          rw [getD_set_ne false hne] at hjf
          exact (List.mem_erase_of_ne (Ne.symm hne)).2 (hu j hj hjf)
        · have := hu i him hif
          rw [List.length_erase_of_mem this]
          have := List.length_pos_of_mem this
          omega
        · rcases Nat.decEq i j with hne | rfl
          · rw [getD_set_ne false hne] at hjl
            rw [upd_ne _ _ _ _ (Ne.symm hne)]
            obtain ⟨oj, hoj⟩ : ∃ o, l[j]? = some o := ⟨l[j]'(by omega), by simp⟩
            have hsj := StepsAt.get m l 0 hs j oj hj hoj
            rw [Nat.zero_add] at hsj
            exact hsj.keep _ _ _ (hp j hj hjl) hb'
          · rw [upd_same]; exact hv
      · obtain ⟨e, he, hbd, hon⟩ := waits_of hoi' hk
        have h2 := hia e he hbd
        rw [hon] at h2
        have hki : k < i := by
          have h1 := hla i hil
          rw [if_pos him, hoi'] at h1
          simp only [Option.map_some, Option.getD_some, Array.all_eq_true_iff_forall_mem] at h1
          have h3 := h1 e he
          simp [hbd] at h3
          omega
        exact hp k (by omega) h2
    · have hall : ∀ j, j < m → listed.getD j false = true := fun j hj => by
        cases hq : listed.getD j false
        · exact absurd ⟨j, hj, hq⟩ hex
        · rfl
      have hl : listed = listedAt l.length m := by
        refine Array.ext (by simp [listedAt, hsz]; omega) (fun i h1 h2 => ?_)
        rcases Nat.lt_or_ge i m with h | h
        · have := hall i h
          simp [h1] at this
          simp [listedAt, h, this]
        · have := hlo i h (by omega)
          simp [h1] at this
          simp [listedAt, List.getElem_append, Nat.not_lt.2 h, this]
      subst hl
      exact wpAny_le (by omega) (hend x w hb (fun j hj => hp j hj (hall j hj)))

/-- The rule. -/
theorem wp_region_rely (m : Nat) (F : (Nat → Value) → Act) (x0 : Nat → Value) (Φ : Nat → Value → World → Prop) {id : Nat} {a : Act} (ha : a = F x0) (hm : P.follows .mixedOrders = true) (hlate : lateB l m = true) (hs : StepsAt P l Q F Φ w0 m l 0)
    (hend : ∀ x w, Below w0.heap.size w0 w → (∀ j, j < m → Φ j (x j) w) → wpAny P .any l.toArray (NoPanic Q) (l.length - m) (listedAt l.length m) (F x) w) : (Code.region id l.toArray true).wp P Q a w0 := by
  subst ha
  have hml : m ≤ l.length := by
    simp only [lateB, Bool.and_eq_true, decide_eq_true_eq] at hlate
    exact hlate.1
  refine wp_region_noPanic (wp_region_any hm ?_)
  refine rely_any m hlate hs hend _ _ (List.range m) x0 _ (by simp) (fun k _ h => by simp [h]) (fun j hj _ => List.mem_range.2 hj) (by simp; omega) (Below.refl _ _).drew (fun j hj h => ?_)
  have : j < l.length := by omega
  simp [this] at h

theorem StepsAt.cons (j : Nat) {n : Nat} {o : Oper} {r : List Oper} (hk : ∀ v w w', Φ j v w → Below w.heap.size w w' → Φ j v w') (hp : ∀ x v, (F x).put o.dst v = F (upd x j v)) (hg : o.guard = none) (ho : l[j]? = some o)
    (h : ∀ x w, Below w0.heap.size w0 w → (∀ k, waitsB .any l.toArray j k = true → Φ k (x k) w) → ∀ K : Act → World → Prop, Shut (∀ v w', Below w.heap.size w w' → Φ j v w' → K ((F x).put o.dst v) w') → Oper.wp P o (F x) w K (NoPanic Q))
    (hr : StepsAt P l Q F Φ w0 n r (j + 1)) : StepsAt P l Q F Φ w0 (n + 1) (o :: r) j := by
  refine ⟨⟨hk, hp, fun x w hb hd => ?_⟩, hr⟩
  unfold wpOp
  rw [show l.toArray[j]? = some o by simpa using ho]
  have hw : Region.wanted o (yielded l.toArray (F x).tmps) = true := by simp [Region.wanted, hg]
  simp only [hw, if_true]
  exact .inl (h x w hb hd _ fun v w' h1 h2 => ⟨v, rfl, h1, h2⟩)

/-- The value is this one. -/
def eqV (v : Value) : Value → World → Prop := fun u _ => u = v
/-- An operation that yields its value and leaves the world. -/
theorem StepsAt.val (j : Nat) (v : Value) {n : Nat} {o : Oper} {r : List Oper} (hΦ : Φ j = eqV v) (hp : ∀ x v, (F x).put o.dst v = F (upd x j v)) (hg : o.guard = none) (ho : l[j]? = some o)
    (h : ∀ x w, Below w0.heap.size w0 w → (∀ k, waitsB .any l.toArray j k = true → Φ k (x k) w) → (execOp (F x).eval o).run P w = .ok (.value v) w)
    (hr : StepsAt P l Q F Φ w0 n r (j + 1)) : StepsAt P l Q F Φ w0 (n + 1) (o :: r) j := by
  refine StepsAt.cons j (fun u w w' h1 _ => ?_) hp hg ho (fun x w hb hd K hK => ?_) hr
  · rw [hΦ] at h1 ⊢; exact h1
  · unfold Oper.wp
    rw [h x w hb hd]
    exact hK.out v w (Below.refl _ _) (by rw [hΦ]; rfl)

/-- The rule, the numbers as literals; the values ahead are any. -/
theorem wp_region_rely2 (m d : Nat) (F : (Nat → Value) → Act) (Φ : Nat → Value → World → Prop) {id : Nat} {a : Act} (hN : l.length = m + d) (ha : ∃ x0, a = F x0) (hm : P.follows .mixedOrders = true) (hlate : lateB l m = true) (hs : StepsAt P l Q F Φ w0 m l 0)
    (hend : ∀ x w, Below w0.heap.size w0 w → (∀ j, j < m → Φ j (x j) w) → wpAny P .any l.toArray (NoPanic Q) d (listedAt (m + d) m) (F x) w) : (Code.region id l.toArray true).wp P Q a w0 := by
  obtain ⟨x0, ha⟩ := ha
  refine wp_region_rely m F x0 Φ ha hm hlate hs (fun x w h1 h2 => ?_)
  rw [hN, Nat.add_sub_cancel_left]
  exact hend x w h1 h2
end
end Go.Proofs.Yteckenlbelgknaa

namespace Go.Proofs.Yteckenlbelgknaa
open Go.RowKit

/-- What number j waits for. -/
def depsOf (l : List Oper) (j : Nat) : List Nat := match l[j]? with
  | some o => (o.after.toList.filter fun e => Region.binds .any e).map (·.on)
  | none => []
def clos (l : List Oper) : Nat → List Nat → List Nat
  | 0, S => S
  | n + 1, S => clos l n (S ++ S.flatMap (depsOf l))
def lateB2 (l : List Oper) (m : Nat) : Bool :=
  decide (m ≤ l.length) && (List.range l.length).all fun j =>
    if j < m then ((l[j]?).map fun o => o.after.all fun e => !Region.binds .any e || decide (e.on < j)).getD false else (List.range m).all fun k => (clos l l.length (depsOf l j)).contains k
theorem deps_mem {l : List Oper} {j k : Nat} {o : Oper} (ho : l[j]? = some o) (h : k ∈ depsOf l j) : ∃ e ∈ o.after, Region.binds .any e = true ∧ e.on = k := by
  unfold depsOf at h
  rw [ho] at h
  obtain ⟨e, he, hk⟩ := List.mem_map.1 h
  obtain ⟨h1, h2⟩ := List.mem_filter.1 he
  exact ⟨e, by simpa using h1, h2, hk⟩
theorem clos_listed (l : List Oper) (L : Nat → Prop) (hL : ∀ j, L j → ∀ k, k ∈ depsOf l j → L k) : ∀ (n : Nat) (S : List Nat), (∀ k, k ∈ S → L k) → ∀ k, k ∈ clos l n S → L k
  | 0, _, hS, k, hk => hS k hk
  | n + 1, S, hS, k, hk => clos_listed l L hL n (S ++ S.flatMap (depsOf l)) (fun j hj => by
      rcases List.mem_append.1 hj with h | h
      · exact hS j h
      · obtain ⟨i, hi, hji⟩ := List.mem_flatMap.1 h
        exact hL i (hS i hi) j hji) k hk

section
variable {P : Program} {l : List Oper} {Q : Exit → Act → World → Prop} {F : (Nat → Value) → Act} {Φ : Nat → Value → World → Prop} {w0 : World}
theorem rely_any2 (m : Nat) (hlate : lateB2 l m = true) (hs : StepsAt P l Q F Φ w0 m l 0)
    (hend : ∀ x w, Below w0.heap.size w0 w → (∀ j, j < m → Φ j (x j) w) → wpAny P .any l.toArray (NoPanic Q) (l.length - m) (listedAt l.length m) (F x) w) :
    ∀ (n : Nat) (listed : Array Bool) (u : List Nat) (x : Nat → Value) (w : World), listed.size = l.length → (∀ k, m ≤ k → k < l.length → listed.getD k true = false) → (∀ j, j < m → listed.getD j false = false → j ∈ u) →
      l.length - m + u.length ≤ n → Below w0.heap.size w0 w → (∀ j, j < m → listed.getD j false = true → Φ j (x j) w) → (∀ j, j < m → listed.getD j false = true → ∀ k, k ∈ depsOf l j → listed.getD k false = true) → wpAny P .any l.toArray (NoPanic Q) n listed (F x) w := by
  simp only [lateB2, Bool.and_eq_true, decide_eq_true_eq, List.all_eq_true, List.mem_range] at hlate
  obtain ⟨hml, hla⟩ := hlate
  intro n
  induction n with
  | zero =>
    intro listed u x w hsz hlo hu hn hb hp hcl
    have hall : ∀ j, j < m → listed.getD j false = true := fun j hj => by
      cases hq : listed.getD j false
      · have := List.length_pos_of_mem (hu j hj hq); omega
      · rfl
    have hl : listed = listedAt l.length m := by
      refine Array.ext (by simp [listedAt, hsz]; omega) (fun i h1 h2 => ?_)
      rcases Nat.lt_or_ge i m with h | h
      · have := hall i h
        simp [h1] at this
        simp [listedAt, h, this]
      · have := hlo i h (by omega)
        simp [h1] at this
        simp [listedAt, List.getElem_append, Nat.not_lt.2 h, this]
    subst hl
    exact wpAny_le (by omega) (hend x w hb (fun j hj => hp j hj (hall j hj)))
  | succ n ih =>
    intro listed u x w hsz hlo hu hn hb hp hcl
    by_cases hex : ∃ j, j < m ∧ listed.getD j false = false
    · obtain ⟨j0, hj0, hf0, hlt0⟩ := least_false _ m hex
      have hun : ∀ j, j < m → listed.getD j false = false → listed.getD j true = false := fun j hj h => by
        have : j < listed.size := by omega
        simp [this] at h ⊢
        exact h
      obtain ⟨o0, ho0⟩ : ∃ o, l[j0]? = some o := ⟨l[j0]'(by omega), by simp⟩
      have hr0 : j0 ∈ Region.ready .any l.toArray listed := by
        refine mem_ready.2 ⟨hun j0 hj0 hf0, o0, by simpa using ho0, fun e he hbd => hlt0 e.on ?_⟩
        have h1 := hla j0 (by omega)
        rw [if_pos hj0, ho0] at h1
        simp only [Option.map_some, Option.getD_some, Array.all_eq_true_iff_forall_mem] at h1
        have h2 := h1 e he
        simp [hbd] at h2
        exact h2
      refine ⟨fun h => absurd hr0 (by rw [h]; exact List.not_mem_nil), fun i hi => ?_⟩
      obtain ⟨hiu, oi, hoi, hia⟩ := mem_ready.1 hi
      have hoi' : l[i]? = some oi := by simpa using hoi
      have hil : i < l.length := (List.getElem?_eq_some_iff.1 hoi').1
      have him : i < m := by
        rcases Nat.lt_or_ge i m with h | h
        · exact h
        · have h1 := hla i hil
          rw [if_neg (Nat.not_lt.2 h)] at h1
          simp only [List.all_eq_true, List.mem_range, List.contains_iff_mem] at h1
          have hdi : ∀ k, k ∈ depsOf l i → listed.getD k false = true := fun k hk => by
            obtain ⟨e, he, hbd, hon⟩ := deps_mem hoi' hk
            rw [← hon]; exact hia e he hbd
          have hlt : ∀ k, listed.getD k false = true → k < m := fun k hk => by
            rcases Nat.lt_or_ge k m with h2 | h2
            · exact h2
            · rcases Nat.lt_or_ge k l.length with h3 | h3
              · have h4 := hlo k h2 h3
                have h5 : k < listed.size := by omega
                simp [h5] at hk h4
                rw [h4] at hk; cases hk
              · have h5 : ¬ k < listed.size := by omega
                simp [h5] at hk
          have h2 := clos_listed l (fun k => listed.getD k false = true) (fun j hj k hk => hcl j (hlt j hj) hj k hk) l.length (depsOf l i) hdi j0 (h1 j0 hj0)
          rw [hf0] at h2
          cases h2
      have hsi := StepsAt.get m l 0 hs i oi him hoi'
      rw [Nat.zero_add] at hsi
      have hif : listed.getD i false = false := by
        have : i < listed.size := by omega
        simp [this] at hiu ⊢
        exact hiu
      refine wpOp_mono (fun a' w' hk => ?_) (hsi.step x w hb (fun k hk => ?_))
      · obtain ⟨v, rfl, hb', hv⟩ := hk
        rw [hsi.put]
        refine ih (listed.setIfInBounds i true) (u.erase i) (upd x i v) w' (by simp [hsz]) (fun k h1 h2 => ?_) (fun j hj hjf => ?_) ?_ (hb.trans (hb'.mono hb.size)) (fun j hj hjl => ?_) (fun j hj hjl k hk => ?_)
        · rw [getD_set_ne true (by omega)]; exact hlo k h1 h2
        · have hne : i ≠ j := fun e => by
            subst e
            simp [show i < listed.size by omega] at hjf
          rw [getD_set_ne false hne] at hjf
          exact (List.mem_erase_of_ne (Ne.symm hne)).2 (hu j hj hjf)
        · have := hu i him hif
          rw [List.length_erase_of_mem this]
          have := List.length_pos_of_mem this
          omega
        · rcases Nat.decEq i j with hne | rfl
          · rw [getD_set_ne false hne] at hjl
            rw [upd_ne _ _ _ _ (Ne.symm hne)]
            obtain ⟨oj, hoj⟩ : ∃ o, l[j]? = some o := ⟨l[j]'(by omega), by simp⟩
            have hsj := StepsAt.get m l 0 hs j oj hj hoj
            rw [Nat.zero_add] at hsj
            exact hsj.keep _ _ _ (hp j hj hjl) hb'
          · rw [upd_same]; exact hv
        · refine getD_set_true ?_
          rcases Nat.decEq i j with hne | rfl
          · rw [getD_set_ne false hne] at hjl
            exact hcl j hj hjl k hk
          · obtain ⟨e, he, hbd, hon⟩ := deps_mem hoi' hk
            rw [← hon]; exact hia e he hbd
      · obtain ⟨e, he, hbd, hon⟩ := waits_of hoi' hk
        have h2 := hia e he hbd
        rw [hon] at h2
        have hki : k < i := by
          have h1 := hla i hil
          rw [if_pos him, hoi'] at h1
          simp only [Option.map_some, Option.getD_some, Array.all_eq_true_iff_forall_mem] at h1
          have h3 := h1 e he
          simp [hbd] at h3
          omega
        exact hp k (by omega) h2
    · have hall : ∀ j, j < m → listed.getD j false = true := fun j hj => by
        cases hq : listed.getD j false
        · exact absurd ⟨j, hj, hq⟩ hex
        · rfl
      have hl : listed = listedAt l.length m := by
        refine Array.ext (by simp [listedAt, hsz]; omega) (fun i h1 h2 => ?_)
        rcases Nat.lt_or_ge i m with h | h
        · have := hall i h
          simp [h1] at this
          simp [listedAt, h, this]
        · have := hlo i h (by omega)
          simp [h1] at this
          simp [listedAt, List.getElem_append, Nat.not_lt.2 h, this]
      subst hl
      exact wpAny_le (by omega) (hend x w hb (fun j hj => hp j hj (hall j hj)))

/-- The rule. -/
theorem wp_region_rely3 (m d : Nat) (F : (Nat → Value) → Act) (Φ : Nat → Value → World → Prop) {id : Nat} {a : Act} (hN : l.length = m + d) (ha : ∃ x0, a = F x0) (hm : P.follows .mixedOrders = true) (hlate : lateB2 l m = true) (hs : StepsAt P l Q F Φ w0 m l 0)
    (hend : ∀ x w, Below w0.heap.size w0 w → (∀ j, j < m → Φ j (x j) w) → wpAny P .any l.toArray (NoPanic Q) d (listedAt (m + d) m) (F x) w) : (Code.region id l.toArray true).wp P Q a w0 := by
  obtain ⟨x0, rfl⟩ := ha
  refine wp_region_noPanic (wp_region_any hm ?_)
  refine rely_any2 m hlate hs (fun x w h1 h2 => ?_) _ _ (List.range m) x0 _ (by simp) (fun k _ h => by simp [h]) (fun j hj _ => List.mem_range.2 hj) (by simp; omega) (Below.refl _ _).drew (fun j hj h => ?_) (fun j hj h => ?_)
  · rw [hN, Nat.add_sub_cancel_left]
    exact hend x w h1 h2
  · have : j < l.length := by omega
    simp [this] at h
  · have : j < l.length := by omega
    simp [this] at h
end
end Go.Proofs.Yteckenlbelgknaa
