/-
  Words for slices of bools that came in as an argument, and for ints that a call owns: what they read as, and what append does to them. Each theorem states its own conditions.
-/
import Derived.Test.YthkanlkjdmlafaaPG
import Derived.Deep.Grids
namespace Go.Proofs.Ythkanlkjdmlafaa
open Go.RowKit

/-- The slice value v reads as the bools l; it lies below block B. Nil reads as none. -/
def RdO (B : Nat) (w : World) (v : Value) (l : List Bool) : Prop :=
  ∃ A c, v = .slice A l.length c ∧ l.length ≤ c ∧ c ≤ maxLen ∧ (A = none → c = 0) ∧
    ∀ a, A = some a → (0 < l.length → a.block < B) ∧ ∀ j (h : j < l.length), w.cell? (a.add j) = some (.bool l[j])
theorem RdO.keep {B : Nat} {w w' : World} {v : Value} {l : List Bool} (h : RdO B w v l) (hk : ∀ p : Addr, p.block < B → w'.cell? p = w.cell? p) : RdO B w' v l := by
  obtain ⟨A, c, hv, hc, hm, hn, hr⟩ := h
  refine ⟨A, c, hv, hc, hm, hn, fun a ha => ⟨(hr a ha).1, fun j hj => ?_⟩⟩
  rw [hk _ (by rw [addr_block]; exact (hr a ha).1 (by omega))]
  exact (hr a ha).2 j hj
theorem RdO.below {B : Nat} {w w' : World} {v : Value} {l : List Bool} (h : RdO B w v l) (hb : Below B w w') : RdO B w' v l := h.keep fun _ hp => hb.cell hp
theorem RdO.nil (B : Nat) (w : World) : RdO B w (.slice none 0 0) [] := ⟨none, 0, rfl, Nat.le_refl _, Nat.zero_le _, fun _ => rfl, fun _ h => by cases h⟩
theorem RdO.shape {B : Nat} {w : World} {v : Value} {l : List Bool} (h : RdO B w v l) : ∃ A c, v = .slice A l.length c ∧ l.length ≤ c ∧ c ≤ maxLen := by
  obtain ⟨A, c, hv, h1, h2, _⟩ := h
  exact ⟨A, c, hv, h1, h2⟩
theorem RdO.at_ {B : Nat} {w : World} {A : Option Addr} {n c : Nat} {l : List Bool} (h : RdO B w (.slice A n c) l) (j : Nat) (hj : j < l.length) : ∃ a, A = some a ∧ w.cell? (a.add j) = some (.bool (l.getD j false)) := by
  obtain ⟨A', c', hv, hc, hm, hn, hr⟩ := h
  injection hv with h1 h2 h3
  subst h1 h2 h3
  cases A with
  | none => have := hn rfl; omega
  | some a => exact ⟨a, rfl, by rw [(hr a rfl).2 j hj]; simp [hj]⟩

theorem open_bools6 {H : Type} {enc : TypeId × Value → H} {P : Program} {W : World} {t e : TypeId} {a : Option Addr} {len cap : Nat} {d : DataW H} {p : List MemPlace} (ht : P.underlying t = some (.slice e)) (he : P.underlying e = some .bool) (hc : P.cellsOf e = 1)
    (h : DataW.Trod enc P W 0 (fun _ => true) true t (.slice a len cap) d p) : ∃ l : List Bool, RdO W.heap.size W (.slice a len cap) l := by
  obtain ⟨fuel, hf⟩ := h
  rcases Deep.open_bools ht he hc hf with ⟨hcs, _⟩ | ⟨x, l, c, B, hcs, _, hl, hm, _, hcell⟩
  · simp [Value.cells] at hcs
    obtain ⟨rfl, rfl, rfl⟩ := hcs
    exact ⟨[], RdO.nil _ _⟩
  · simp [Value.cells] at hcs
    obtain ⟨rfl, rfl, rfl⟩ := hcs
    have hread : ∀ j (h : j < ((List.range len).map B).length), W.cell? (x.add j) = some (.bool ((List.range len).map B)[j]) := by
      intro j hj
      have hj2 : j < len := by simpa using hj
      rw [hcell j (by omega)]
      simp
    refine ⟨(List.range len).map B, some x, cap, by simp, by simpa using hl, hm, fun h => (by cases h), fun y hy => ?_⟩
    cases hy
    refine ⟨fun h0 => ?_, hread⟩
    have := World.block_lt_of_cell? W _ (hread 0 h0)
    rwa [addr_block] at this

theorem OwnI.but {g base : Nat} {e : TypeId} {w w' : World} {v : Value} {l : List Nat} (h : OwnI e w base v l) (hb : But g w w') (hg : g < base) : OwnI e w' base v l := by
  obtain ⟨h0, h1⟩ := h
  refine ⟨h0, ?_⟩
  rcases h1 with h1 | ⟨b, cap, cur, hv, hbb, hh, r⟩
  · exact .inl h1
  · refine .inr ⟨b, cap, cur, hv, hbb, ?_, r⟩
    have hlt : b < w.heap.size := (Array.getElem?_eq_some_iff.1 hh).1
    rw [hb.block b hlt (by omega)]
    exact hh
theorem OwnI.madeS (e : TypeId) (w : World) : OwnI e (w.alloc (.cells #[] e)) w.heap.size (.slice (some ⟨w.heap.size, 0, none⟩) 0 0) [] :=
  World.ownsRow_made w #[] 0 (Nat.le_refl _) (Nat.zero_le _) rfl
theorem Blk.grown {w w' : World} {g : Nat} {cs : List Value} {t : TypeId} {row : Option Nat} (h : Blk w g cs t) (hg : w.grownBy w' row) (hne : some g ≠ row) : Blk w' g cs t := by
  unfold Blk
  rw [hg.block g h.lt hne]
  exact h
/-- append of one int onto ints that are owned: what other blocks hold stays. -/
theorem wpList_app1G {P : Program} {w : World} {ops : Array Oper} {rest : List Oper} {o : Oper} {a : Act} {Q : Exit → Act → World → Prop}
    (hgd : o.guard = none) (s x : Operand) (t : TypeId) (ho : o.op = .call { callee := .builtin .append, args := #[s, x], argTypes := #[t, t] })
    (e : TypeId) (i : TypeInfo) (ht : P.underlying t = some (.slice e)) (hi : P.info? e = some i) (hz : i.zero = some (.int .i64 0)) (hsize : i.size = 1) (hby : i.bytes = 8)
    (base : Nat) (v : Value) (l : List Nat) (b : Nat) (ad : Addr) (hs : a.eval s = v) (hown : OwnI e w base v l) (hx : a.eval x = .slice (some ad) 1 1) (hc : w.cell? ad = some (.int .i64 (b : Int)))
    (hlen : l.length ≤ 1099511627776) (hbase : base ≤ w.heap.size)
    (h : ∀ v' w', OwnI e w' base v' (l ++ [b]) → w.grownBy w' v.ownBlock → wpList P ops Q rest (a.put o.dst v') w') : wpList P ops Q (o :: rest) a w := by
  have h63 : l.length + 1 ≤ maxLen := by unfold maxLen; omega
  refine wpList_append_own w hgd s x t ho base e i (.int .i64 0) 1 8 ht hi hz hsize hby rfl (by decide) v l.length (ins l) hs hown ad 1 1 [.int .i64 (b : Int)] hx rfl ?_ ?_ h63 (by omega) hbase ?_
  · intro j u hu
    have hadd : ad.add 0 = ad := by simp [Addr.add]
    match j, hu with
    | 0, hu =>
      simp at hu
      subst hu
      rw [hadd]
      exact hc
  · intro u hu
    simp at hu
    subst hu
    rfl
  · intro v' w' h1 h2 _
    refine h v' w' ?_ h2
    unfold OwnI
    rw [List.length_append, ins_append]
    exact h1

/-- Where a round of the law stands. -/
def OnceAt (w : World) (I seed : List UInt8) (k h s g3 g7 : Nat) (v : Value) (U : List Nat) (n m : Nat) (wr : World) : Prop :=
  OwnI 3 wr (g7 + 1) v U ∧ Blk wr g7 (pcs I seed (k : Int) (h : Int) (n : Int) (m : Int) (s : Int)) 30 ∧ Blk wr g3 (tcs I seed (k : Int) (h : Int)) 25 ∧ PFit k h n m s ∧ (∀ u ∈ U, u < n) ∧ Below w.heap.size w wr
theorem OnceAt.below {w : World} {I seed : List UInt8} {k h s g3 g7 : Nat} {v : Value} {U : List Nat} {n m : Nat} {wr w' : World} (H : OnceAt w I seed k h s g3 g7 v U n m wr) (hb : Below wr.heap.size wr w') : OnceAt w I seed k h s g3 g7 v U n m w' :=
  ⟨H.1.below hb (Nat.le_refl _), H.2.1.below hb H.2.1.lt, H.2.2.1.below hb H.2.2.1.lt, H.2.2.2.1, H.2.2.2.2.1, H.2.2.2.2.2.trans (hb.mono H.2.2.2.2.2.size)⟩
/-- The purse is another one. -/
theorem OnceAt.put {w : World} {I seed : List UInt8} {k h s g3 g7 : Nat} {v : Value} {U : List Nat} {n m n' m' : Nat} {wr : World} (H : OnceAt w I seed k h s g3 g7 v U n m wr) (h37 : g3 < g7) (hw : w.heap.size ≤ g7) (hf : PFit k h n' m' s) (hn : n ≤ n') :
    OnceAt w I seed k h s g3 g7 v U n' m' (wr.setRow g7 (pcs I seed (k : Int) (h : Int) (n' : Int) (m' : Int) (s : Int)).toArray) :=
  ⟨H.1.but ((But.refl g7 wr).setRow _) (Nat.lt_succ_self _), H.2.1.setRow, H.2.2.1.setRowOther (by omega), hf, fun u hu => Nat.lt_of_lt_of_le (H.2.2.2.2.1 u hu) hn, below_setRow' H.2.2.2.2.2 hw _⟩
end Go.Proofs.Ythkanlkjdmlafaa
