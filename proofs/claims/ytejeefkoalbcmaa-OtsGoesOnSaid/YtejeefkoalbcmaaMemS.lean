/-
  Words for slices of strings in memory, of no program: what such a slice reads as, which one the call owns, and what append does to it; and the encodings of a string and of a list of strings. Each theorem states its own conditions.
-/
import Derived.Test.YtejeefkoalbcmaaMem
import Derived.Test.YtejeefkoalbcmaaNum
namespace Go.Proofs.Ytejeefkoalbcmaa
open Go.RowKit

/-- The encoding of a string. -/
def encS (s : ByteArray) : List UInt8 := enc s.size ++ s.data.toList
theorem encS_length (s : ByteArray) : (encS s).length = wid s.size + 1 + s.size := by
  have : s.data.toList.length = s.size := by simp
  simp [encS, enc_length, this]

/-- The encodings of strings, one behind the other. -/
def encs : List ByteArray → List UInt8
  | [] => []
  | s :: r => encS s ++ encs r

theorem encs_append (a b : List ByteArray) : encs (a ++ b) = encs a ++ encs b := by
  induction a with
  | nil => rfl
  | cons s r ih => simp [encs, ih, List.append_assoc]

theorem encs_take (ss : List ByteArray) (k : Nat) (h : k < ss.length) : encs (ss.take (k + 1)) = encs (ss.take k) ++ encS ss[k] := by
  rw [List.take_succ_eq_append_getElem h, encs_append]
  simp [encs]

theorem encs_take_le (ss : List ByteArray) (k : Nat) : (encs (ss.take k)).length ≤ (encs ss).length := by
  have h := encs_append (ss.take k) (ss.drop k)
  rw [List.take_append_drop] at h
  rw [h, List.length_append]
  omega

/-- The encoding of a list of strings. -/
def encL (ss : List ByteArray) : List UInt8 := enc ss.length ++ encs ss

def strs (ss : List ByteArray) : List Value := ss.map Value.string
theorem strs_length (ss : List ByteArray) : (strs ss).length = ss.length := by simp [strs]
theorem strs_append (a b : List ByteArray) : strs (a ++ b) = strs a ++ strs b := by simp [strs]

/-- The slice value v reads as the strings ss; it lies below block B. -/
def RdS (B : Nat) (w : World) (v : Value) (ss : List ByteArray) : Prop :=
  ∃ A c, v = .slice A ss.length c ∧ ss.length ≤ c ∧ c ≤ maxLen ∧ (A = none → c = 0) ∧
    ∀ a, A = some a → (0 < ss.length → a.block < B) ∧ ∀ j (h : j < ss.length), w.cell? (a.add j) = some (.string ss[j])

/-- The call owns the slice value v of strings, from block 'base' on. -/
def OwnS (e : TypeId) (w : World) (base : Nat) (v : Value) (ss : List ByteArray) : Prop := w.ownsRow base e 1 v ss.length (strs ss)

theorem RdS.keep {B : Nat} {w w' : World} {v : Value} {l : List ByteArray} (h : RdS B w v l) (hk : ∀ p : Addr, p.block < B → w'.cell? p = w.cell? p) : RdS B w' v l := by
  obtain ⟨A, c, hv, hc, hm, hn, hr⟩ := h
  refine ⟨A, c, hv, hc, hm, hn, fun a ha => ⟨(hr a ha).1, fun j hj => ?_⟩⟩
  rw [hk _ (by rw [addr_block]; exact (hr a ha).1 (by omega))]
  exact (hr a ha).2 j hj
theorem RdS.below {B : Nat} {w w' : World} {v : Value} {l : List ByteArray} (h : RdS B w v l) (hb : Below B w w') : RdS B w' v l := h.keep fun _ hp => hb.cell hp
theorem RdS.more {B B' : Nat} {w : World} {v : Value} {l : List ByteArray} (h : RdS B w v l) (hB : B ≤ B') : RdS B' w v l := by
  obtain ⟨A, c, hv, hc, hm, hn, hr⟩ := h
  exact ⟨A, c, hv, hc, hm, hn, fun a ha => ⟨fun h0 => Nat.lt_of_lt_of_le ((hr a ha).1 h0) hB, (hr a ha).2⟩⟩
theorem RdS.nil (B : Nat) (w : World) : RdS B w (.slice none 0 0) [] := ⟨none, 0, rfl, Nat.le_refl _, Nat.zero_le _, fun _ => rfl, fun _ h => by cases h⟩
theorem RdS.shape {B : Nat} {w : World} {v : Value} {l : List ByteArray} (h : RdS B w v l) : ∃ A c, v = .slice A l.length c ∧ l.length ≤ c ∧ c ≤ maxLen := by
  obtain ⟨A, c, hv, h1, h2, _⟩ := h
  exact ⟨A, c, hv, h1, h2⟩
/-- The cell of an element: where there is one, the address is there. -/
theorem RdS.at_ {B : Nat} {w : World} {A : Option Addr} {n c : Nat} {l : List ByteArray} (h : RdS B w (.slice A n c) l) (j : Nat) (hj : j < l.length) : ∃ a, A = some a ∧ w.cell? (a.add j) = some (.string l[j]) := by
  obtain ⟨A', c', hv, hc, hm, hn, hr⟩ := h
  injection hv with h1 h2 h3
  subst h1 h2 h3
  cases A with
  | none => have := hn rfl; omega
  | some a => exact ⟨a, rfl, (hr a rfl).2 j hj⟩

theorem OwnS.rd {e : TypeId} {w : World} {base : Nat} {v : Value} {l : List ByteArray} (h : OwnS e w base v l) : RdS w.heap.size w v l := by
  rcases h.2 with ⟨rfl, hn⟩ | ⟨g, cap, cur, rfl, hb, hg, hnc, hm, _, _⟩
  · have : l = [] := List.eq_nil_of_length_eq_zero hn
    subst this
    exact RdS.nil _ _
  · have hlt : g < w.heap.size := (Array.getElem?_eq_some_iff.1 hg).1
    refine ⟨some ⟨g, 0, none⟩, cap, rfl, hnc, hm, fun h => (by cases h), fun a ha => ?_⟩
    cases ha
    refine ⟨fun _ => hlt, fun j hj => World.ownsRow.cells (g := g) h rfl j _ ?_⟩
    simp [strs, hj]
theorem OwnS.below {e : TypeId} {w w' : World} {base B : Nat} {v : Value} {l : List ByteArray} (h : OwnS e w base v l) (hb : Below B w w') (hB : w.heap.size ≤ B) : OwnS e w' base v l := by
  refine ⟨h.1, ?_⟩
  rcases h.2 with hn | ⟨g, cap, cur, rfl, hg0, hg, r⟩
  · exact .inl hn
  · have hlt : g < w.heap.size := (Array.getElem?_eq_some_iff.1 hg).1
    exact .inr ⟨g, cap, cur, rfl, hg0, by rw [hb.block g (by omega)]; exact hg, r⟩
theorem OwnS.base {e : TypeId} {w : World} {base base' : Nat} {v : Value} {l : List ByteArray} (h : OwnS e w base v l) (hb : base' ≤ base) : OwnS e w base' v l := by
  refine ⟨h.1, ?_⟩
  rcases h.2 with hn | ⟨g, cap, cur, rfl, hg0, r⟩
  · exact .inl hn
  · exact .inr ⟨g, cap, cur, rfl, by omega, r⟩
theorem OwnS.nil (e : TypeId) (w : World) (base : Nat) : OwnS e w base (.slice none 0 0) [] := World.ownsRow_nil w base e 1
theorem OwnS.alloc {e : TypeId} {w : World} {base : Nat} {v : Value} {l : List ByteArray} (h : OwnS e w base v l) (o : Obj) : OwnS e (w.alloc o) base v l := World.ownsRow.alloc h o
theorem OwnS.grown {e : TypeId} {w w' : World} {base : Nat} {v : Value} {l : List ByteArray} (h : OwnS e w base v l) (hg : w.grownBy w' v.ownBlock) (hb : base ≤ w.heap.size) : Below base w w' :=
  (Below.refl base w).grown hg hb fun k hk => (World.ownsRow.lt h k hk).1

/-- append of one string onto strings that are owned: the string lies at an address. -/
theorem wpList_app1S {P : Program} {w : World} {ops : Array Oper} {rest : List Oper} {o : Oper} {a : Act} {Q : Exit → Act → World → Prop}
    (hgd : o.guard = none) (s x : Operand) (t : TypeId) (ho : o.op = .call { callee := .builtin .append, args := #[s, x], argTypes := #[t, t] })
    (e : TypeId) (i : TypeInfo) (ht : P.underlying t = some (.slice e)) (hi : P.info? e = some i) (hz : i.zero = some (.string ⟨#[]⟩)) (hsize : i.size = 1) (hby : i.bytes = 16)
    (base : Nat) (v : Value) (l : List ByteArray) (b : ByteArray) (ad : Addr) (hs : a.eval s = v) (hown : OwnS e w base v l) (hx : a.eval x = .slice (some ad) 1 1) (hc : w.cell? ad = some (.string b))
    (hlen : l.length ≤ 1099511627776) (hbase : base ≤ w.heap.size)
    (h : ∀ v' w', OwnS e w' base v' (l ++ [b]) → Below base w w' → wpList P ops Q rest (a.put o.dst v') w') : wpList P ops Q (o :: rest) a w := by
  have h63 : l.length + 1 ≤ maxLen := by unfold maxLen; omega
  refine wpList_append_own w hgd s x t ho base e i (.string ⟨#[]⟩) 1 16 ht hi hz hsize hby rfl (by decide) v l.length (strs l) hs hown ad 1 1 [.string b] hx rfl ?_ ?_ h63 (by omega) hbase ?_
  · intro j u hu
    have hadd : ad.add 0 = ad := by simp [Addr.add]
    match j, hu with
    | 0, hu =>
      simp at hu
      subst hu
      rw [hadd]
      exact hc
  · intro u hu
    simp at hu
    subst hu
    rfl
  · intro v' w' h1 h2 _
    refine h v' w' ?_ (OwnS.grown hown h2 hbase)
    unfold OwnS
    rw [List.length_append, strs_append]
    exact h1

end Go.Proofs.Ytejeefkoalbcmaa
