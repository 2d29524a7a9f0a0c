/-
  Package ots, what all its hashes begin with: fourBytes, twoBytes and prefixOf, for every input. Package ots, the hash of what all hashes of a key begin with and of any parts behind it. Package ots, plain words: secrets, chains, randomizer, message hash and public hash over lists of bytes; a key's cells; what a slice of byte slices reads as. Package ots: secret, for every key and every digit's number. Package ots: randomizer, messageHash and publicHash, for every input. Package ots: chain, for every digit's number and steps up to 255.
-/
import Derived.Test.YteckenlbelgknaaMs
import Derived.Test.YteckenlbelgknaaOJ
import Derived.Test.YteckenlbelgknaaDD
namespace Go.Proofs.Yteckenlbelgknaa
open Go.RowKit

/-- What all hashes of a key begin with. -/
def pre20 (I : List UInt8) (q : Nat) : List UInt8 := I ++ be 4 q
theorem pre20_length (I : List UInt8) (q : Nat) (h : I.length = 16) : (pre20 I q).length = 20 := by simp [pre20, be_length, h]

/-- Bytes in a new block. -/
theorem Own.lit (e : TypeId) (w : World) (cs : Array Value) (n : Nat) (l : List UInt8) (hn : l.length = n) (hl : n ≤ 1000000) (h : cs = (bys l).toArray) : Own e (w.alloc (.cells cs e)) w.heap.size (.slice (some ⟨w.heap.size, 0, none⟩) n n) l := by
  subst hn h
  have := World.ownsRow_lit (base := w.heap.size) (e := e) (size := 1) w (bys l).toArray l.length (Nat.le_refl _) (by unfold maxLen; omega) (by simp [bys_length])
  unfold Own
  simpa using this
/-- An array's bytes, read where they lie. -/
theorem Rd.blk {w : World} {g B : Nat} {t : TypeId} {l : List UInt8} (n : Nat) (hn : l.length = n) (h : Blk w g (bys l) t) (hg : g < B) (hl : n ≤ 1000000) : Rd B w (.slice (some ⟨g, 0, none⟩) n n) l := by
  subst hn
  refine ⟨some ⟨g, 0, none⟩, l.length, rfl, Nat.le_refl _, by unfold maxLen; omega, fun h => (by cases h), fun a ha => ?_⟩
  cases ha
  refine ⟨fun _ => hg, fun j hj => ?_⟩
  rw [Addr.add_mid, h.cell, Nat.zero_add, bys_get l j hj]

/-- A law of an operation in a region that is walked in its order serves in one whose order is open. -/
theorem wp_of_list {P : Program} {o : Oper} {a : Act} {w : World} {K : Act → World → Prop} {Q : Exit → Act → World → Prop} (hg : o.guard = none)
    (h : wpList P #[] (fun e a w => match e with | .normal => K a w | .panic c => Q (.panic c) a w | _ => False) [o] a w) : o.wp P a w K Q := by
  unfold wpList at h
  simp only [Region.wanted, hg, if_true] at h
  rcases h with h | h
  · unfold Oper.wp at *
    generalize (execOp a.eval o).run P w = r at *
    cases r with
    | ok n w' =>
      cases n <;> simp only [Oper.upon] at h ⊢ <;>
        first
          | exact h
          | exact Calls.mono h (fun e w'' he => by cases e <;> first | exact he | (obtain ⟨_, _, hf⟩ := he; exact hf.elim))
          | exact Rows.mono h (fun _ _ he => he)
    | halt x w' => cases x <;> simp only [Oper.upon] at h ⊢ <;> exact h
  · obtain ⟨_, _, _, hf⟩ := h
    exact hf.elim



def z20 : List Value := bys (List.replicate 20 0)
theorem z20_length : z20.length = 20 := by decide
end Go.Proofs.Yteckenlbelgknaa

namespace Go.Proofs.Yteckenlbelgknaa
open Go.RowKit

/-- A slice of byte slices reads as these rows. -/
def RdL (B : Nat) (w : World) (A : Option Addr) (c : Nat) (ls : List (List UInt8)) : Prop :=
  ls.length ≤ c ∧ c ≤ maxLen ∧ (A = none → c = 0) ∧ ∀ a, A = some a → ∀ r (h : r < ls.length), a.block < B ∧ ∃ vr, w.cell? (a.add r) = some vr ∧ Rd B w vr ls[r]

theorem apart_of {g B : Nat} {w : World} {v : Value} {l : List UInt8} (h : Rd B w v l) (hB : B ≤ g) : Apart g v := fun a n c hv hn => by
  obtain ⟨A, c', rfl, _, _, _, hr⟩ := h
  injection hv with e1 e2 e3
  subst e1
  have := (hr a rfl).1 (by omega)
  omega

end Go.Proofs.Yteckenlbelgknaa

namespace Go.Proofs.Yteckenlbelgknaa
open Go.RowKit

/-- Secret i. -/
def hsec (p seed : List UInt8) (i : Nat) : List UInt8 := hash (p ++ [by2 i, [255], seed].flatten)
/-- One step of a chain. -/
def hstep (p : List UInt8) (i j : Nat) (x : List UInt8) : List UInt8 := hash (p ++ [by2 i, [UInt8.ofNat j], x].flatten)
/-- A chain of n steps, from step a on. -/
def chn (p : List UInt8) (i a : Nat) : Nat → List UInt8 → List UInt8
  | 0, x => x
  | n + 1, x => hstep p i (a + n) (chn p i a n x)
/-- The randomizer. -/
def hrnd (p seed : List UInt8) : List UInt8 := hash (p ++ [[255, 253, 255], seed].flatten)
/-- The message hash. -/
def hmsg (p r text : List UInt8) : List UInt8 := hash (p ++ [[129, 129], r, text].flatten)
/-- The public hash of ends. -/
def hpub (p ends : List UInt8) : List UInt8 := hash (p ++ [[128, 128], ends].flatten)

theorem chn_length (p : List UInt8) (i a n : Nat) (x : List UInt8) (hx : x.length = 32) : (chn p i a n x).length = 32 := by
  cases n with
  | zero => exact hx
  | succ n => exact hash_length _
theorem chn_add (p : List UInt8) (i a n m : Nat) (x : List UInt8) : chn p i (a + n) m (chn p i a n x) = chn p i a (n + m) x := by
  induction m with
  | zero => rfl
  | succ m ih => rw [chn, ih, Nat.add_assoc]; rfl

/-- A key's cells. -/
def kcs (I : List UInt8) (q : Nat) (seed : List UInt8) (z : Int) : List Value := bys I ++ (.int .u32 (q : Int) :: (bys seed ++ [.int .i64 z]))
theorem kcs_length (I seed : List UInt8) (q : Nat) (z : Int) (hI : I.length = 16) (hs : seed.length = 32) : (kcs I q seed z).length = 50 := by simp [kcs, bys_length, hI, hs]
theorem kcs_q (I seed : List UInt8) (q : Nat) (z : Int) (hI : I.length = 16) : (kcs I q seed z)[16]? = some (.int .u32 (q : Int)) := by
  unfold kcs
  rw [List.getElem?_append_right (by rw [bys_length, hI]; omega), bys_length, hI]
  rfl
theorem kcs_z (I seed : List UInt8) (q : Nat) (z : Int) (hI : I.length = 16) (hs : seed.length = 32) : (kcs I q seed z)[49]? = some (.int .i64 z) := by
  unfold kcs
  rw [List.getElem?_append_right (by rw [bys_length, hI]; omega), bys_length, hI, List.getElem?_cons, if_neg (by omega), List.getElem?_append_right (by rw [bys_length, hs]; omega), bys_length, hs]
  rfl
theorem kcs_rangeI {w : World} {g : Nat} {I seed : List UInt8} {q : Nat} {z : Int} {t : TypeId} (h : Blk w g (kcs I q seed z) t) : w.rangeAt g 0 (bys I) := fun j v hv => by
  have hj : j < (bys I).length := (List.getElem?_eq_some_iff.1 hv).1
  rw [Nat.zero_add, h.cell]
  unfold kcs
  rw [List.getElem?_append_left hj]
  exact hv
theorem kcs_seed {w : World} {g B : Nat} {I seed : List UInt8} {q : Nat} {z : Int} {t : TypeId} (h : Blk w g (kcs I q seed z) t) (hI : I.length = 16) (hs : seed.length = 32) (hg : g < B) : Rd B w (.slice (some ⟨g, 17, none⟩) 32 32) seed := by
  refine ⟨some ⟨g, 17, none⟩, 32, by rw [hs], by omega, by unfold maxLen; omega, fun h => (by cases h), fun a ha => ?_⟩
  cases ha
  refine ⟨fun _ => hg, fun j hj => ?_⟩
  rw [Addr.add_mid, h.cell]
  unfold kcs
  rw [List.getElem?_append_right (by rw [bys_length, hI]; omega), bys_length, hI, List.getElem?_cons, if_neg (by omega), List.getElem?_append_left (by rw [bys_length]; omega), show 17 + j - 16 - 1 = j by omega, bys_get seed j hj]

/-- The slice reads as these bytes, in this world. -/
def RdN (l : List UInt8) : Value → World → Prop := fun v w => Rd w.heap.size w v l
theorem RdN.keep {l : List UInt8} {v : Value} {w w' : World} (h : RdN l v w) (hb : Below w.heap.size w w') : RdN l v w' := (Rd.below h hb).more hb.size
/-- The slice of byte slices reads as these rows, in this world. -/
def RdLN (n : Nat) (ls : List (List UInt8)) : Value → World → Prop := fun v w => ∃ A, v = .slice A n n ∧ RdL w.heap.size w A n ls
theorem RdL.below {B B' : Nat} {w w' : World} {A : Option Addr} {c : Nat} {ls : List (List UInt8)} (h : RdL B w A c ls) (hb : Below B w w') (hB : B ≤ B') : RdL B' w' A c ls := by
  obtain ⟨h1, h2, h3, h4⟩ := h
  refine ⟨h1, h2, h3, fun a ha r hr => ?_⟩
  obtain ⟨hab, vr, hc, hrd⟩ := h4 a ha r hr
  exact ⟨by omega, vr, by rw [hb.cell (by rw [addr_block]; exact hab)]; exact hc, (hrd.below hb).more hB⟩
theorem RdLN.keep {n : Nat} {ls : List (List UInt8)} {v : Value} {w w' : World} (h : RdLN n ls v w) (hb : Below w.heap.size w w') : RdLN n ls v w' := by
  obtain ⟨A, hv, h⟩ := h
  exact ⟨A, hv, h.below hb hb.size⟩
/-- Three slices in a new block. -/
theorem RdLN.three (e : TypeId) (w : World) (v0 v1 v2 : Value) (l0 l1 l2 : List UInt8) (h0 : RdN l0 v0 w) (h1 : RdN l1 v1 w) (h2 : RdN l2 v2 w) : RdLN 3 [l0, l1, l2] (.slice (some ⟨w.heap.size, 0, none⟩) 3 3) (w.alloc (.cells #[v0, v1, v2] e)) := by
  have hb : Below w.heap.size w (w.alloc (.cells #[v0, v1, v2] e)) := (Below.refl _ _).alloc (Nat.le_refl _) _
  refine ⟨some ⟨w.heap.size, 0, none⟩, rfl, Nat.le_refl _, by unfold maxLen; omega, fun h => (by cases h), fun a ha r hr => ?_⟩
  cases ha
  refine ⟨by simp, ?_⟩
  have : r = 0 ∨ r = 1 ∨ r = 2 := by simp at hr; omega
  rcases this with rfl | rfl | rfl
  · exact ⟨v0, by rw [Addr.add_mid, cell_of_row _ _ _ _ e (0, 0) (heap_alloc_new w _)]; simp, h0.keep hb⟩
  · exact ⟨v1, by rw [Addr.add_mid, cell_of_row _ _ _ _ e (0, 0) (heap_alloc_new w _)]; simp, h1.keep hb⟩
  · exact ⟨v2, by rw [Addr.add_mid, cell_of_row _ _ _ _ e (0, 0) (heap_alloc_new w _)]; simp, h2.keep hb⟩
/-- Two slices in a new block. -/
theorem RdLN.two (e : TypeId) (w : World) (v0 v1 : Value) (l0 l1 : List UInt8) (h0 : RdN l0 v0 w) (h1 : RdN l1 v1 w) : RdLN 2 [l0, l1] (.slice (some ⟨w.heap.size, 0, none⟩) 2 2) (w.alloc (.cells #[v0, v1] e)) := by
  have hb : Below w.heap.size w (w.alloc (.cells #[v0, v1] e)) := (Below.refl _ _).alloc (Nat.le_refl _) _
  refine ⟨some ⟨w.heap.size, 0, none⟩, rfl, Nat.le_refl _, by unfold maxLen; omega, fun h => (by cases h), fun a ha r hr => ?_⟩
  cases ha
  refine ⟨by simp, ?_⟩
  have : r = 0 ∨ r = 1 := by simp at hr; omega
  rcases this with rfl | rfl
  · exact ⟨v0, by rw [Addr.add_mid, cell_of_row _ _ _ _ e (0, 0) (heap_alloc_new w _)]; simp, h0.keep hb⟩
  · exact ⟨v1, by rw [Addr.add_mid, cell_of_row _ _ _ _ e (0, 0) (heap_alloc_new w _)]; simp, h1.keep hb⟩

section
variable {P : Program} {w : World} {ops : Array Oper} {rest : List Oper} {o : Oper} {a : Act} {Q : Exit → Act → World → Prop}
/-- The whole row (an array, a struct) is read. -/
theorem wpList_load_blkU (hg : o.guard = none) (t : TypeId) (x : Operand) (ho : o.op = .load t x) (g : Nat) (hx : a.eval x = .pointer (some ⟨g, 0, none⟩)) (cs : List Value) (u : TypeId) (hb : Blk w g cs u)
    (d : TypeDesc) (hu : P.underlying t = some d) (hd : d.isRow = true) (hi : (P.info? t).map (·.size) = some cs.length)
    (h : wpList P ops Q rest (a.put o.dst (.agg cs.toArray)) w) : wpList P ops Q (o :: rest) a w :=
  wpList_load_row hg t x ho g hx u cs.toArray (0, 0) d hb hu (by cases d <;> first | rfl | cases hd) (by simpa using hi) h
theorem run_load_blkU (t : TypeId) (x : Operand) (ho : o.op = .load t x) (g : Nat) (hx : a.eval x = .pointer (some ⟨g, 0, none⟩)) (cs : List Value) (u : TypeId) (hb : Blk w g cs u)
    (d : TypeDesc) (hu : P.underlying t = some d) (hd : d.isRow = true) (hi : (P.info? t).map (·.size) = some cs.length) : (execOp a.eval o).run P w = .ok (.value (.agg cs.toArray)) w := by
  unfold execOp
  simp only [ho, hx, Instr.loadAt, Instr.sureAddr, Sem.run_bind, Sem.run_pure, Result.andThen_ok, run_loadVar_row w g u t cs.toArray (0, 0) d hb hu (by cases d <;> first | rfl | cases hd) (by simpa using hi)]
end
theorem calls_args {P : Program} {f : FuncId} {args args2 : Array Value} {w : World} {R : Ending → World → Prop} (h : args = args2) (hc : Calls P f args2 w R) : Calls P f args w R := h ▸ hc
end Go.Proofs.Yteckenlbelgknaa

namespace Go.Proofs.Yteckenlbelgknaa
open Go.RowKit

end Go.Proofs.Yteckenlbelgknaa

namespace Go.Proofs.Yteckenlbelgknaa
open Go.RowKit



end Go.Proofs.Yteckenlbelgknaa

namespace Go.Proofs.Yteckenlbelgknaa
open Go.RowKit

theorem wrap_u8 (j : Nat) (h : j < 256) : IntKind.u8.wrap (j : Int) = j := by
  simp [IntKind.wrap, IntKind.bits, IntKind.signed]
  omega
end Go.Proofs.Yteckenlbelgknaa
