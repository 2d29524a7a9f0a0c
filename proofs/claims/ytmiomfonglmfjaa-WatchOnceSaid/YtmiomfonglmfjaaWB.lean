/-
  Package ots, what all its hashes begin with: fourBytes, twoBytes and prefixOf, for every input. Package ots, the hash of what all hashes of a key begin with and of any parts behind it. Package ots, plain words: secrets, chains, randomizer, message hash and public hash over lists of bytes; a key's cells; what a slice of byte slices reads as. Package ots: secret, for every key and every digit's number. Package ots: randomizer, messageHash and publicHash, for every input. Package ots: chain, for every digit's number and steps up to 255.
  Package ots: types and shapeOf, for every int. Package ots: hasDigit, long, Long, Type and Secret, for every input. Package ots: Secret, for every key and every int. Package ots: Chain, for every key, every three ints and every hash. Package ots: Public of a key whose W is no width; the statements' live question, which is answered with true.
  Plain facts on one-time signatures, over lists of bytes, of no program: public hash, signature, candidate; the candidate of a signature is the public hash. No condition beyond those of each line. Package ots: Public, for every key whose W is a width. Package ots: Sign, for every key and every text of at most 100000 bytes.
  Package ots: hashIn and number, for every slice that is long enough. Package ots: shapeIn, for every slice of bytes. Package ots: Candidate, for every signature of at most 1000000 bytes and every text of at most 100000.
  Plain facts on trees of one-time keys, over lists of bytes, of no program: the hash of a node, siblings, the way up; the way up from a node with its siblings leads to the node above. No condition beyond those of each line.
  Package lms: fourBytes, number, sibling, kindOf, the leaves and the length of a shape, the key of a leaf, for every input that they are called with. Package lms: the key of a leaf, and the hashes of nodes: nodeHash, leafHash, upperHash, for every input that they are called with. Package lms: leafHash and upperHash, for every input that they are called with. Package lms: shapeOf, for every width and height; hashes, what it lays. Package lms: the hash of a node, for every node of a tree. Package lms: Long and Leaf, for every input; the siblings of a leaf's way. Package lms: Public and Knot, for every input.
  Package lms: Sign, for every input. Package lms: shapeWith, for every two types; the way up a tree, climb, for every input that it is called with. Package lms: the way up a tree, climb, for every input that it is called with. Package lms: keyIn, what a public key states, for every bytes. Package lms: partsIn, the parts of a signature, for every bytes. Package lms: Verify, for every input.
-/
import Derived.Test.YtmiomfonglmfjaaMs
import Derived.Test.YtmiomfonglmfjaaOJ
import Derived.Test.YtmiomfonglmfjaaDD
import Derived.Maps.Own
import Derived.Maps.OwnOps
import Derived.Maps.RangeWalk
import Derived.ScopeJumps
import Derived.WalkMore
import Derived.BigQuiet
import Derived.Laws.EntriesVeiled
import Derived.Test.YtmiomfonglmfjaaRel4
namespace Go.Proofs.Ytmiomfonglmfjaa
open Go.RowKit

/-- What all hashes of a key begin with. -/
def pre20 (I : List UInt8) (q : Nat) : List UInt8 := I ++ be 4 q
theorem pre20_length (I : List UInt8) (q : Nat) (h : I.length = 16) : (pre20 I q).length = 20 := by simp [pre20, be_length, h]

/-- Bytes in a new block. -/
theorem Own.lit (e : TypeId) (w : World) (cs : Array Value) (n : Nat) (l : List UInt8) (hn : l.length = n) (hl : n ≤ 1000000) (h : cs = (bys l).toArray) : Own e (w.alloc (.cells cs e)) w.heap.size (.slice (some ⟨w.heap.size, 0, none⟩) n n) l := by
  subst hn h
  have := World.ownsRow_lit (base := w.heap.size) (e := e) (size := 1) w (bys l).toArray l.length (Nat.le_refl _) (by unfold maxLen; omega) (by simp [bys_length])
  unfold Own
  simpa using this
/-- An array's bytes, read where they lie. -/
theorem Rd.blk {w : World} {g B : Nat} {t : TypeId} {l : List UInt8} (n : Nat) (hn : l.length = n) (h : Blk w g (bys l) t) (hg : g < B) (hl : n ≤ 1000000) : Rd B w (.slice (some ⟨g, 0, none⟩) n n) l := by
  subst hn
  refine ⟨some ⟨g, 0, none⟩, l.length, rfl, Nat.le_refl _, by unfold maxLen; omega, fun h => (by cases h), fun a ha => ?_⟩
  cases ha
  refine ⟨fun _ => hg, fun j hj => ?_⟩
  rw [Addr.add_mid, h.cell, Nat.zero_add, bys_get l j hj]

/-- A law of an operation in a region that is walked in its order serves in one whose order is open. -/
theorem wp_of_list {P : Program} {o : Oper} {a : Act} {w : World} {K : Act → World → Prop} {Q : Exit → Act → World → Prop} (hg : o.guard = none)
    (h : wpList P #[] (fun e a w => match e with | .normal => K a w | .panic c => Q (.panic c) a w | _ => False) [o] a w) : o.wp P a w K Q := by
  unfold wpList at h
  simp only [Region.wanted, hg, if_true] at h
  rcases h with h | h
  · unfold Oper.wp at *
    generalize (execOp a.eval o).run P w = r at *
    cases r with
    | ok n w' =>
      cases n <;> simp only [Oper.upon] at h ⊢ <;>
        first
          | exact h
          | exact Calls.mono h (fun e w'' he => by cases e <;> first | exact he | (obtain ⟨_, _, hf⟩ := he; exact hf.elim))
          | exact Rows.mono h (fun _ _ he => he)
    | halt x w' => cases x <;> simp only [Oper.upon] at h ⊢ <;> exact h
  · obtain ⟨_, _, _, hf⟩ := h
    exact hf.elim



def z20 : List Value := bys (List.replicate 20 0)
theorem z20_length : z20.length = 20 := by decide
end Go.Proofs.Ytmiomfonglmfjaa

namespace Go.Proofs.Ytmiomfonglmfjaa
open Go.RowKit

/-- A slice of byte slices reads as these rows. -/
def RdL (B : Nat) (w : World) (A : Option Addr) (c : Nat) (ls : List (List UInt8)) : Prop :=
  ls.length ≤ c ∧ c ≤ maxLen ∧ (A = none → c = 0) ∧ ∀ a, A = some a → ∀ r (h : r < ls.length), a.block < B ∧ ∃ vr, w.cell? (a.add r) = some vr ∧ Rd B w vr ls[r]

theorem apart_of {g B : Nat} {w : World} {v : Value} {l : List UInt8} (h : Rd B w v l) (hB : B ≤ g) : Apart g v := fun a n c hv hn => by
  obtain ⟨A, c', rfl, _, _, _, hr⟩ := h
  injection hv with e1 e2 e3
  subst e1
  have := (hr a rfl).1 (by omega)
  omega

end Go.Proofs.Ytmiomfonglmfjaa

namespace Go.Proofs.Ytmiomfonglmfjaa
open Go.RowKit

/-- Secret i. -/
def hsec (p seed : List UInt8) (i : Nat) : List UInt8 := hash (p ++ [by2 i, [255], seed].flatten)
/-- One step of a chain. -/
def hstep (p : List UInt8) (i j : Nat) (x : List UInt8) : List UInt8 := hash (p ++ [by2 i, [UInt8.ofNat j], x].flatten)
/-- A chain of n steps, from step a on. -/
def chn (p : List UInt8) (i a : Nat) : Nat → List UInt8 → List UInt8
  | 0, x => x
  | n + 1, x => hstep p i (a + n) (chn p i a n x)
/-- The randomizer. -/
def hrnd (p seed : List UInt8) : List UInt8 := hash (p ++ [[255, 253, 255], seed].flatten)
/-- The message hash. -/
def hmsg (p r text : List UInt8) : List UInt8 := hash (p ++ [[129, 129], r, text].flatten)
/-- The public hash of ends. -/
def hpub (p ends : List UInt8) : List UInt8 := hash (p ++ [[128, 128], ends].flatten)

theorem chn_length (p : List UInt8) (i a n : Nat) (x : List UInt8) (hx : x.length = 32) : (chn p i a n x).length = 32 := by
  cases n with
  | zero => exact hx
  | succ n => exact hash_length _
theorem chn_add (p : List UInt8) (i a n m : Nat) (x : List UInt8) : chn p i (a + n) m (chn p i a n x) = chn p i a (n + m) x := by
  induction m with
  | zero => rfl
  | succ m ih => rw [chn, ih, Nat.add_assoc]; rfl

/-- A key's cells. -/
def kcs (I : List UInt8) (q : Nat) (seed : List UInt8) (z : Int) : List Value := bys I ++ (.int .u32 (q : Int) :: (bys seed ++ [.int .i64 z]))
theorem kcs_length (I seed : List UInt8) (q : Nat) (z : Int) (hI : I.length = 16) (hs : seed.length = 32) : (kcs I q seed z).length = 50 := by simp [kcs, bys_length, hI, hs]
theorem kcs_q (I seed : List UInt8) (q : Nat) (z : Int) (hI : I.length = 16) : (kcs I q seed z)[16]? = some (.int .u32 (q : Int)) := by
  unfold kcs
  rw [List.getElem?_append_right (by rw [bys_length, hI]; omega), bys_length, hI]
  rfl
theorem kcs_z (I seed : List UInt8) (q : Nat) (z : Int) (hI : I.length = 16) (hs : seed.length = 32) : (kcs I q seed z)[49]? = some (.int .i64 z) := by
  unfold kcs
  rw [List.getElem?_append_right (by rw [bys_length, hI]; omega), bys_length, hI, List.getElem?_cons, if_neg (by omega), List.getElem?_append_right (by rw [bys_length, hs]; omega), bys_length, hs]
  rfl
theorem kcs_rangeI {w : World} {g : Nat} {I seed : List UInt8} {q : Nat} {z : Int} {t : TypeId} (h : Blk w g (kcs I q seed z) t) : w.rangeAt g 0 (bys I) := fun j v hv => by
  have hj : j < (bys I).length := (List.getElem?_eq_some_iff.1 hv).1
  rw [Nat.zero_add, h.cell]
  unfold kcs
  rw [List.getElem?_append_left hj]
  exact hv
theorem kcs_seed {w : World} {g B : Nat} {I seed : List UInt8} {q : Nat} {z : Int} {t : TypeId} (h : Blk w g (kcs I q seed z) t) (hI : I.length = 16) (hs : seed.length = 32) (hg : g < B) : Rd B w (.slice (some ⟨g, 17, none⟩) 32 32) seed := by
  refine ⟨some ⟨g, 17, none⟩, 32, by rw [hs], by omega, by unfold maxLen; omega, fun h => (by cases h), fun a ha => ?_⟩
  cases ha
  refine ⟨fun _ => hg, fun j hj => ?_⟩
  rw [Addr.add_mid, h.cell]
  unfold kcs
  rw [List.getElem?_append_right (by rw [bys_length, hI]; omega), bys_length, hI, List.getElem?_cons, if_neg (by omega), List.getElem?_append_left (by rw [bys_length]; omega), show 17 + j - 16 - 1 = j by omega, bys_get seed j hj]

/-- The slice reads as these bytes, in this world. -/
def RdN (l : List UInt8) : Value → World → Prop := fun v w => Rd w.heap.size w v l
theorem RdN.keep {l : List UInt8} {v : Value} {w w' : World} (h : RdN l v w) (hb : Below w.heap.size w w') : RdN l v w' := (Rd.below h hb).more hb.size
/-- The slice of byte slices reads as these rows, in this world. -/
def RdLN (n : Nat) (ls : List (List UInt8)) : Value → World → Prop := fun v w => ∃ A, v = .slice A n n ∧ RdL w.heap.size w A n ls
theorem RdL.below {B B' : Nat} {w w' : World} {A : Option Addr} {c : Nat} {ls : List (List UInt8)} (h : RdL B w A c ls) (hb : Below B w w') (hB : B ≤ B') : RdL B' w' A c ls := by
  obtain ⟨h1, h2, h3, h4⟩ := h
  refine ⟨h1, h2, h3, fun a ha r hr => ?_⟩
  obtain ⟨hab, vr, hc, hrd⟩ := h4 a ha r hr
  exact ⟨by omega, vr, by rw [hb.cell (by rw [addr_block]; exact hab)]; exact hc, (hrd.below hb).more hB⟩
theorem RdLN.keep {n : Nat} {ls : List (List UInt8)} {v : Value} {w w' : World} (h : RdLN n ls v w) (hb : Below w.heap.size w w') : RdLN n ls v w' := by
  obtain ⟨A, hv, h⟩ := h
  exact ⟨A, hv, h.below hb hb.size⟩
/-- Three slices in a new block. -/
theorem RdLN.three (e : TypeId) (w : World) (v0 v1 v2 : Value) (l0 l1 l2 : List UInt8) (h0 : RdN l0 v0 w) (h1 : RdN l1 v1 w) (h2 : RdN l2 v2 w) : RdLN 3 [l0, l1, l2] (.slice (some ⟨w.heap.size, 0, none⟩) 3 3) (w.alloc (.cells #[v0, v1, v2] e)) := by
  have hb : Below w.heap.size w (w.alloc (.cells #[v0, v1, v2] e)) := (Below.refl _ _).alloc (Nat.le_refl _) _
  refine ⟨some ⟨w.heap.size, 0, none⟩, rfl, Nat.le_refl _, by unfold maxLen; omega, fun h => (by cases h), fun a ha r hr => ?_⟩
  cases ha
  refine ⟨by simp, ?_⟩
  have : r = 0 ∨ r = 1 ∨ r = 2 := by simp at hr; omega
  rcases this with rfl | rfl | rfl
  · exact ⟨v0, by rw [Addr.add_mid, cell_of_row _ _ _ _ e (0, 0) (heap_alloc_new w _)]; simp, h0.keep hb⟩
  · exact ⟨v1, by rw [Addr.add_mid, cell_of_row _ _ _ _ e (0, 0) (heap_alloc_new w _)]; simp, h1.keep hb⟩
  · exact ⟨v2, by rw [Addr.add_mid, cell_of_row _ _ _ _ e (0, 0) (heap_alloc_new w _)]; simp, h2.keep hb⟩
/-- Two slices in a new block. -/
theorem RdLN.two (e : TypeId) (w : World) (v0 v1 : Value) (l0 l1 : List UInt8) (h0 : RdN l0 v0 w) (h1 : RdN l1 v1 w) : RdLN 2 [l0, l1] (.slice (some ⟨w.heap.size, 0, none⟩) 2 2) (w.alloc (.cells #[v0, v1] e)) := by
  have hb : Below w.heap.size w (w.alloc (.cells #[v0, v1] e)) := (Below.refl _ _).alloc (Nat.le_refl _) _
  refine ⟨some ⟨w.heap.size, 0, none⟩, rfl, Nat.le_refl _, by unfold maxLen; omega, fun h => (by cases h), fun a ha r hr => ?_⟩
  cases ha
  refine ⟨by simp, ?_⟩
  have : r = 0 ∨ r = 1 := by simp at hr; omega
  rcases this with rfl | rfl
  · exact ⟨v0, by rw [Addr.add_mid, cell_of_row _ _ _ _ e (0, 0) (heap_alloc_new w _)]; simp, h0.keep hb⟩
  · exact ⟨v1, by rw [Addr.add_mid, cell_of_row _ _ _ _ e (0, 0) (heap_alloc_new w _)]; simp, h1.keep hb⟩

section
variable {P : Program} {w : World} {ops : Array Oper} {rest : List Oper} {o : Oper} {a : Act} {Q : Exit → Act → World → Prop}
/-- The whole row (an array, a struct) is read. -/
theorem wpList_load_blkU (hg : o.guard = none) (t : TypeId) (x : Operand) (ho : o.op = .load t x) (g : Nat) (hx : a.eval x = .pointer (some ⟨g, 0, none⟩)) (cs : List Value) (u : TypeId) (hb : Blk w g cs u)
    (d : TypeDesc) (hu : P.underlying t = some d) (hd : d.isRow = true) (hi : (P.info? t).map (·.size) = some cs.length)
    (h : wpList P ops Q rest (a.put o.dst (.agg cs.toArray)) w) : wpList P ops Q (o :: rest) a w :=
  wpList_load_row hg t x ho g hx u cs.toArray (0, 0) d hb hu (by cases d <;> first | rfl | cases hd) (by simpa using hi) h
theorem run_load_blkU (t : TypeId) (x : Operand) (ho : o.op = .load t x) (g : Nat) (hx : a.eval x = .pointer (some ⟨g, 0, none⟩)) (cs : List Value) (u : TypeId) (hb : Blk w g cs u)
    (d : TypeDesc) (hu : P.underlying t = some d) (hd : d.isRow = true) (hi : (P.info? t).map (·.size) = some cs.length) : (execOp a.eval o).run P w = .ok (.value (.agg cs.toArray)) w := by
  unfold execOp
  simp only [ho, hx, Instr.loadAt, Instr.sureAddr, Sem.run_bind, Sem.run_pure, Result.andThen_ok, run_loadVar_row w g u t cs.toArray (0, 0) d hb hu (by cases d <;> first | rfl | cases hd) (by simpa using hi)]
end
theorem calls_args {P : Program} {f : FuncId} {args args2 : Array Value} {w : World} {R : Ending → World → Prop} (h : args = args2) (hc : Calls P f args2 w R) : Calls P f args w R := h ▸ hc
end Go.Proofs.Ytmiomfonglmfjaa

namespace Go.Proofs.Ytmiomfonglmfjaa
open Go.RowKit

end Go.Proofs.Ytmiomfonglmfjaa

namespace Go.Proofs.Ytmiomfonglmfjaa
open Go.RowKit



end Go.Proofs.Ytmiomfonglmfjaa

namespace Go.Proofs.Ytmiomfonglmfjaa
open Go.RowKit

theorem wrap_u8 (j : Nat) (h : j < 256) : IntKind.u8.wrap (j : Int) = j := by
  simp [IntKind.wrap, IntKind.bits, IntKind.signed]
  omega
end Go.Proofs.Ytmiomfonglmfjaa

namespace Go.Proofs.Ytmiomfonglmfjaa
open Go.RowKit
open Go.Maps (Keyed int_keyed)

/-- A scope in which the run may jump ahead to label l, and jumps no more behind it. -/
theorem wp_scope_goto {P : Program} {a : Act} {w : World} {Q : Exit → Act → World → Prop} {c rest : Code} (l : Nat) (hf : findLabel c l = some rest)
    (h : c.wp P (Exit.jump l (fun a w => rest.wp P (Exit.noGoto Q) a w) Q) a w) : (Code.scope c).wp P Q a w :=
  wp_scope_jumps l _ (fun _ _ => 0) hf h (fun a w hJ => Code.wp_mono (fun e a' w' he => by cases e <;> first | exact he | exact he.elim) hJ)
theorem jump_ret {l : Nat} {J : Act → World → Prop} {Q : Exit → Act → World → Prop} {a : Act} {w : World} : Exit.jump l J Q .ret a w = Q .ret a w := rfl

/-- The types, as a map's datum. -/
def Dt : DataW Unit := .map [(.int .i64 1, .lit (.int .u32 1)), (.int .i64 2, .lit (.int .u32 2)), (.int .i64 4, .lit (.int .u32 3)), (.int .i64 8, .lit (.int .u32 4))]
theorem Dt_eq : (((((DataW.map [] : DataW Unit).put (.int .i64 1) (.lit (.int .u32 1))).put (.int .i64 2) (.lit (.int .u32 2))).put (.int .i64 4) (.lit (.int .u32 3))).put (.int .i64 8) (.lit (.int .u32 4))) = Dt := by kernel_rfl
theorem law3 : Keyed Try.prog 3 := int_keyed Try.underlying3
theorem zero23 (w : World) : (zeroValue 98).run Try.prog w = .ok (.int .u32 0) w := by kernel_rfl

theorem wpList_insert_own {H : Type} {P : Program} (w : World) {ops : Array Oper} {rest : List Oper} {o : Oper} {a : Act} {Q : Exit → Act → World → Prop}
    (hg : o.guard = none) (m x v : Operand) (t : TypeId) (hop : o.op = Op.insert t m x v)
    (k e : TypeId) (K : Keyed P k) (ht : P.underlying t = some (.map k e)) (R : Value → Option (DataW H × List MemPlace)) (b n : Nat) (D : DataW H)
    (hm : a.eval m = .map (some b)) (hown : w.ownsMap P k R b n D) (hn : n < maxLen) (key val : Value) (kl : Lit) (hx : a.eval x = key) (hv : a.eval v = val) (hkey : keyOf P k key = some kl)
    (d : DataW H) (ps : List MemPlace) (hval : R val = some (d, ps))
    (hK : ∀ w', w'.ownsMap P k R b (n + 1) (D.put kl d) → w.grownBy w' (some b) → wpList P ops Q rest (a.put o.dst undef) w') :
    wpList P ops Q (o :: rest) a w := by
  refine wpList_plain hg fun K' hK' => ?_
  obtain ⟨w', hrun, r1, r2⟩ := hown.update K ht hn hkey hval
  unfold Oper.wp
  simp [execOp, hop, hm, hx, hv, hrun, Result.andThen]
  exact hK' _ _ (hK w' r1 r2)

/-- What types answers. -/
def Types (w : World) (e : Ending) (w' : World) : Prop := ∃ B, e = .returned (.map (some B)) ∧ w'.ownsMap Try.prog 3 (plainElem (H := Unit) Try.prog 98) B 4 Dt ∧ Below w.heap.size w w' ∧ w.heap.size ≤ B


theorem wrap_i64 (n : Int) (h0 : 0 ≤ n) (h1 : n ≤ 9223372036854775807) : IntKind.i64.wrap n = n := by
  simp [IntKind.wrap, IntKind.bits, IntKind.signed]
  omega
/-- The value is the map of types. -/
def TypN : Value → World → Prop := fun v w => ∃ B, v = .map (some B) ∧ w.ownsMap Try.prog 3 (plainElem (H := Unit) Try.prog 98) B 4 Dt
theorem below_grownN {w w' : World} (h : Below w.heap.size w w') : w.grownBy w' none := ⟨h.os, h.tape, h.output, h.size, fun k hk _ => h.block k hk⟩
theorem TypN.keep {v : Value} {w w' : World} (h : TypN v w) (hb : Below w.heap.size w w') : TypN v w' := by
  obtain ⟨B, hv, ho⟩ := h
  exact ⟨B, hv, ho.kept (below_grownN hb) (by simp)⟩
theorem key3 (k : Nat) (hk : Wd k) : keyOf Try.prog 3 (.int .i64 (k : Int)) = some (.int .i64 (k : Int)) := by
  rcases hk with rfl | rfl | rfl | rfl <;> kernel_rfl
/-- The type of a width. -/
def typ (k : Nat) : Nat := if k = 8 then 4 else if k = 4 then 3 else k
/-- What a width determines, as cells. -/
def shp (k : Nat) : List Value := [.int .u32 (typ k : Nat), .int .i64 ((onn k + chk k : Nat) : Int), .int .i64 (gr k : Nat)]
def shp0 : List Value := [.int .u32 0, .int .i64 0, .int .i64 0]
def rowB (o : Option TypeDesc) : Bool := match o with | some (.struct _) | some (.array _ _) => true | _ => false
theorem row_of {o : Option TypeDesc} (h : rowB o = true) : ∃ d, o = some d ∧ d.isRow = true := by
  cases o with
  | none => cases h
  | some d => exact ⟨d, rfl, by cases d <;> first | rfl | cases h⟩
theorem shp0_one : shp0.toArray.all (·.oneCell') = true := by simp [shp0, Value.oneCell']
theorem shp_one (k : Nat) : (shp k).toArray.all (·.oneCell') = true := by simp [shp, Value.oneCell']
theorem typ_at (k : Nat) (hk : Wd k) : ∀ z, Dt.atKey (.int .i64 (k : Int)) z = .lit (.int .u32 (typ k : Nat)) := by
  intro z
  rcases hk with rfl | rfl | rfl | rfl <;> rfl

/-- What a function answers whose first result lies in a variable of its own (an array, a struct), the second one in a slot. -/
theorem ret_blk2U {P : Program} {fn : Func} {p u : Tmp} {ty : TypeId} (h : fn.results = #[.cell p ty, .tmp u]) (tmps : Array Value) (w : World) (g : Nat) (t : TypeId) (cs : List Value) (v : Value)
    (hp : tmps.getD p undef = .pointer (some ⟨g, 0, none⟩)) (hv : tmps.getD u undef = v) (hb : Blk w g cs t) (d : TypeDesc) (hu : P.underlying ty = some d) (hd : d.isRow = true) (hi : (P.info? ty).map (·.size) = some cs.length) :
    (results fn tmps).run P w = .ok (.tuple #[.agg cs.toArray, v]) w := by
  rw [results_cell_tmp h, hp]
  simp [asAddr, Result.andThen, run_loadVar_row w g t ty cs.toArray (0, 0) d hb hu (by cases d <;> first | rfl | cases hd) (by simpa using hi)]
  simpa using hv


end Go.Proofs.Ytmiomfonglmfjaa

namespace Go.Proofs.Ytmiomfonglmfjaa
open Go.RowKit

/-- All digits. -/
def mny (k : Nat) : Nat := onn k + chk k
/-- How many bytes a signature has. -/
def lng (k : Nat) : Nat := 4 + (1 + mny k) * 32
theorem mny_le (k : Nat) (hk : Wd k) : mny k ≤ 300 := by
  obtain ⟨_, _, hP, _⟩ := hk.le
  have := chk_le k
  unfold mny; omega





end Go.Proofs.Ytmiomfonglmfjaa

namespace Go.Proofs.Ytmiomfonglmfjaa
open Go.RowKit



end Go.Proofs.Ytmiomfonglmfjaa

namespace Go.Proofs.Ytmiomfonglmfjaa
open Go.RowKit






end Go.Proofs.Ytmiomfonglmfjaa

namespace Go.Proofs.Ytmiomfonglmfjaa
open Go.RowKit


end Go.Proofs.Ytmiomfonglmfjaa

namespace Go.Proofs.Ytmiomfonglmfjaa

/-- Rows of 32 bytes, n of them, one behind the other. -/
def rowsTo (f : Nat → List UInt8) (n : Nat) : List UInt8 := (List.range n).flatMap f
theorem rowsTo_succ (f : Nat → List UInt8) (n : Nat) : rowsTo f (n + 1) = rowsTo f n ++ f n := by simp [rowsTo, List.range_succ]
theorem rowsTo_length (f : Nat → List UInt8) (hf : ∀ i, (f i).length = 32) (n : Nat) : (rowsTo f n).length = 32 * n := by
  induction n with
  | zero => rfl
  | succ n ih => rw [rowsTo_succ, List.length_append, ih, hf]; omega
theorem rowsTo_congr (f g : Nat → List UInt8) (n : Nat) (h : ∀ i, i < n → f i = g i) : rowsTo f n = rowsTo g n := by
  induction n with
  | zero => rfl
  | succ n ih => rw [rowsTo_succ, rowsTo_succ, ih (fun i hi => h i (by omega)), h n (by omega)]
theorem rowsTo_at (f : Nat → List UInt8) (hf : ∀ i, (f i).length = 32) (n i : Nat) (hi : i < n) : ((rowsTo f n).drop (32 * i)).take 32 = f i := by
  induction n with
  | zero => omega
  | succ n ih =>
    rw [rowsTo_succ]
    have hl := rowsTo_length f hf n
    by_cases h : i < n
    · rw [List.drop_append_of_le_length (by omega), List.take_append_of_le_length (by rw [List.length_drop]; omega)]
      exact ih h
    · obtain rfl : i = n := by omega
      rw [List.drop_append, List.drop_of_length_le (by omega), List.nil_append, hl, Nat.sub_self, List.drop_zero, List.take_of_length_le (by rw [hf]; omega)]

theorem hsec_length (p seed : List UInt8) (i : Nat) : (hsec p seed i).length = 32 := hash_length _
theorem hrnd_length (p seed : List UInt8) : (hrnd p seed).length = 32 := hash_length _
theorem hmsg_length (p r text : List UInt8) : (hmsg p r text).length = 32 := hash_length _
theorem hpub_length (p ends : List UInt8) : (hpub p ends).length = 32 := hash_length _

/-- The end of chain i. -/
def endF (p seed : List UInt8) (k i : Nat) : List UInt8 := chn p i 0 (gr k) (hsec p seed i)
theorem endF_length (p seed : List UInt8) (k i : Nat) : (endF p seed k i).length = 32 := chn_length _ _ _ _ _ (hsec_length _ _ _)
/-- The public hash. -/
def pubL (p seed : List UInt8) (k : Nat) : List UInt8 := hpub p (rowsTo (endF p seed k) (mny k))
/-- What is signed of digit i. -/
def sgnF (p seed : List UInt8) (D : List Nat) (i : Nat) : List UInt8 := chn p i 0 (D.getD i 0) (hsec p seed i)
theorem sgnF_length (p seed : List UInt8) (D : List Nat) (i : Nat) : (sgnF p seed D i).length = 32 := chn_length _ _ _ _ _ (hsec_length _ _ _)
/-- The digits that are signed. -/
def sdig (p seed text : List UInt8) (k : Nat) : List Nat := allD (hmsg p (hrnd p seed) text) k
/-- The signature. -/
def sigL (p seed text : List UInt8) (k : Nat) : List UInt8 := be 4 (typ k) ++ hrnd p seed ++ rowsTo (sgnF p seed (sdig p seed text k)) (mny k)
theorem sigL_length (p seed text : List UInt8) (k : Nat) : (sigL p seed text k).length = lng k := by
  unfold sigL lng
  rw [List.length_append, List.length_append, be_length, hrnd_length, rowsTo_length _ (sgnF_length _ _ _)]
  omega
/-- Hash i of a signature. -/
def hAt (s : List UInt8) (i : Nat) : List UInt8 := (s.drop (4 + i * 32)).take 32
/-- Where chain i of a signature ends. -/
def cndF (p s : List UInt8) (D : List Nat) (k i : Nat) : List UInt8 := chn p i (D.getD i 0) (gr k - D.getD i 0) (hAt s (i + 1))
/-- The digits that a signature is of. -/
def cdig (p s text : List UInt8) (k : Nat) : List Nat := allD (hmsg p (hAt s 0) text) k
/-- The candidate. -/
def cndL (p s text : List UInt8) (k : Nat) : List UInt8 := hpub p (rowsTo (cndF p s (cdig p s text k) k) (mny k))

theorem hAt_sig0 (p seed text : List UInt8) (k : Nat) : hAt (sigL p seed text k) 0 = hrnd p seed := by
  unfold hAt sigL
  rw [List.append_assoc, List.drop_append, List.drop_of_length_le (by rw [be_length]; omega), List.nil_append, be_length]
  simp only [Nat.zero_mul, Nat.add_zero, Nat.sub_self, List.drop_zero]
  rw [List.take_append_of_le_length (by rw [hrnd_length]; omega), List.take_of_length_le (by rw [hrnd_length]; omega)]
theorem hAt_sig (p seed text : List UInt8) (k i : Nat) (hi : i < mny k) : hAt (sigL p seed text k) (i + 1) = sgnF p seed (sdig p seed text k) i := by
  unfold hAt sigL
  rw [List.drop_append, List.drop_of_length_le (by rw [List.length_append, be_length, hrnd_length]; omega), List.nil_append, List.length_append, be_length, hrnd_length, show 4 + (i + 1) * 32 - (4 + 32) = 32 * i by omega]
  exact rowsTo_at _ (sgnF_length _ _ _) _ _ hi
theorem digit_le (l : List UInt8) (k i : Nat) : (allD l k).getD i 0 ≤ gr k := by
  have := allD_lt l k i
  unfold gr; omega
theorem cnd_sig (p seed text : List UInt8) (k : Nat) : cndL p (sigL p seed text k) text k = pubL p seed k := by
  unfold cndL pubL cdig
  rw [hAt_sig0]
  congr 1
  refine rowsTo_congr _ _ _ (fun i hi => ?_)
  unfold cndF endF
  rw [hAt_sig p seed text k i hi]
  unfold sgnF
  have hd := digit_le (hmsg p (hrnd p seed) text) k i
  unfold sdig
  generalize (allD (hmsg p (hrnd p seed) text) k).getD i 0 = d at hd ⊢
  have := chn_add p i 0 d (gr k - d) (hsec p seed i)
  rw [Nat.zero_add, show d + (gr k - d) = gr k by omega] at this
  exact this
end Go.Proofs.Ytmiomfonglmfjaa

namespace Go.Proofs.Ytmiomfonglmfjaa
open Go.RowKit

end Go.Proofs.Ytmiomfonglmfjaa

namespace Go.Proofs.Ytmiomfonglmfjaa
open Go.RowKit

/-- The digits that were answered, and OK. -/
def RdIN (D : List Nat) : Value → World → Prop := fun v w => RdI w.heap.size w v D
theorem RdIN.keep {D : List Nat} {v : Value} {w w' : World} (h : RdIN D v w) (hb : Below w.heap.size w w') : RdIN D v w' := (RdI.below h hb).more hb.size
def AllN (D : List Nat) : Value → World → Prop := fun v w => ∃ u, v = .tuple #[u, .int .i64 0] ∧ RdIN D u w
theorem AllN.keep {D : List Nat} {v : Value} {w w' : World} (h : AllN D v w) (hb : Below w.heap.size w w') : AllN D v w' := by
  obtain ⟨u, hv, h⟩ := h
  exact ⟨u, hv, h.keep hb⟩
/-- A slice of the call's own, from block b on. -/
def OwnN (b : Nat) (l : List UInt8) : Value → World → Prop := fun v w => Own 5 w b v l
theorem OwnN.keep {b : Nat} {l : List UInt8} {v : Value} {w w' : World} (h : OwnN b l v w) (hb : Below w.heap.size w w') : OwnN b l v w' := Own.below h hb (Nat.le_refl _)

end Go.Proofs.Ytmiomfonglmfjaa

namespace Go.Proofs.Ytmiomfonglmfjaa
open Go.RowKit

theorem Rd.take {B : Nat} {w : World} {a : Addr} {n c : Nat} {l : List UInt8} (h : Rd B w (.slice (some a) n c) l) (m : Nat) (hm : m ≤ n) : Rd B w (.slice (some a) m c) (l.take m) := by
  obtain ⟨A, c', hv, hc, hmx, hn, hcell⟩ := h
  injection hv with h1 h2 h3
  subst h1 h2 h3
  have hl : (l.take m).length = m := by rw [List.length_take]; omega
  refine ⟨some a, c, by rw [hl], by omega, hmx, fun h => (by cases h), fun x hx => ?_⟩
  cases hx
  refine ⟨fun h0 => (hcell a rfl).1 (by omega), fun j hj => ?_⟩
  rw [(hcell a rfl).2 j (by omega)]
  simp
theorem Rd.some_ {B : Nat} {w : World} {v : Value} {l : List UInt8} (h : Rd B w v l) (h0 : 0 < l.length) : ∃ a c, v = .slice (some a) l.length c ∧ l.length ≤ c ∧ c ≤ maxLen := by
  obtain ⟨A, c, rfl, hc, hm, hn, _⟩ := h
  cases A with
  | none => have := hn rfl; omega
  | some a => exact ⟨a, c, rfl, hc, hm⟩
/-- What is behind place m of a slice. -/
theorem run_sliceFromS (a : Addr) (n c m : Nat) (w : World) (h1 : m < n) (_ : n ≤ c) : (Instr.sliceAt 91 (.slice (some a) n c) (some (.int .i64 (m : Int))) none none).run Try.prog w = .ok (.slice (some (a.add m)) (n - m) (c - m)) w := by
  have e1 : m ≤ n := by omega

  have e3 : ¬ c = m := by omega
  simp [Instr.sliceAt, Instr.slice, run_underlying Try.underlying91, Instr.sliceBounds, Instr.sliceBound, asIntOf, e1, e3, Sem.run_bind, Result.andThen]


theorem wd_int2 (B0 B1 B2 B3 : Nat) (y0 : B0 < 256) (y1 : B1 < 256) (y2 : B2 < 256) (y3 : B3 < 256) :
    bits .or .u32 (bits .or .u32 (bits .or .u32 ((B0 : Int) * 16777216) ((B1 : Int) * 65536)) ((B2 : Int) * 256)) (B3 : Int) = ((B0 * 16777216 ||| B1 * 65536 ||| B2 * 256 ||| B3 : Nat) : Int) := by
  have r0 : (B0 : Int) * 16777216 = ((B0 * 16777216 : Nat) : Int) := by omega
  have r1 : (B1 : Int) * 65536 = ((B1 * 65536 : Nat) : Int) := by omega
  have r2 : (B2 : Int) * 256 = ((B2 * 256 : Nat) : Int) := by omega
  rw [r0, r1, r2, u32_or_nat _ _ (by omega) (by omega), u32_or_nat _ _ (or32 (by omega) (by omega)) (by omega), u32_or_nat _ _ (or32 (or32 (by omega) (by omega)) (by omega)) (by omega)]

end Go.Proofs.Ytmiomfonglmfjaa

namespace Go.Proofs.Ytmiomfonglmfjaa
open Go.RowKit

/-- The bytes have the type and the length of a signature of width k. -/
def Fits (s : List UInt8) (k : Nat) : Prop := Wd k ∧ typ k = wd (s.take 4) 0 ∧ s.length = lng k
/-- Three answers, and no old memory has changed. -/
def Three (x y z : Value) (w : World) (e : Ending) (w' : World) : Prop := e = .returned (.tuple #[x, y, z]) ∧ Below w.heap.size w w'

theorem Dt_inv (x c : Int) (h : ∀ zd, Dt.atKey (.int .i64 x) zd = .lit (.int .u32 c)) : ∃ k : Nat, Wd k ∧ x = (k : Int) ∧ c = ((typ k : Nat) : Int) := by
  have key : ∀ k : Nat, Wd k → x = (k : Int) → ∃ k : Nat, Wd k ∧ x = (k : Int) ∧ c = ((typ k : Nat) : Int) := fun k hk hx => by
    subst hx
    have h1 := h .nil
    rw [typ_at k hk] at h1
    injection h1 with h1
    injection h1 with _ h1
    exact ⟨k, hk, rfl, h1.symm⟩
  by_cases h1 : x = 1
  · exact key 1 (by simp [Wd]) h1
  by_cases h2 : x = 2
  · exact key 2 (by simp [Wd]) h2
  by_cases h4 : x = 4
  · exact key 4 (by simp [Wd]) h4
  by_cases h8 : x = 8
  · exact key 8 (by simp [Wd]) h8
  have e1 := h .nil
  have n1 : ¬ (1 : Int) = x := fun e => h1 e.symm
  have n2 : ¬ (2 : Int) = x := fun e => h2 e.symm
  have n4 : ¬ (4 : Int) = x := fun e => h4 e.symm
  have n8 : ¬ (8 : Int) = x := fun e => h8 e.symm
  simp [Dt, DataW.atKey, Lit.sameKey, List.find?, n1, n2, n4, n8] at e1
theorem Dt_has (k : Nat) (hk : Wd k) : Maps.has Dt (.int .i64 (k : Int)) = true := by
  rcases hk with rfl | rfl | rfl | rfl <;> rfl
theorem wd_wf (k : Nat) (hk : Wd k) : typ k ≤ 4 := by rcases hk with rfl | rfl | rfl | rfl <;> decide

theorem ret_blk3U {P : Program} {fn : Func} {p u v : Tmp} {ty : TypeId} (h : fn.results = #[.tmp v, .cell p ty, .tmp u]) (tmps : Array Value) (w : World) (g : Nat) (t : TypeId) (cs : List Value) (x y : Value)
    (hp : tmps.getD p undef = .pointer (some ⟨g, 0, none⟩)) (hx : tmps.getD v undef = x) (hv : tmps.getD u undef = y) (hb : Blk w g cs t) (d : TypeDesc) (hu : P.underlying ty = some d) (hd : d.isRow = true) (hi : (P.info? ty).map (·.size) = some cs.length) :
    (results fn tmps).run P w = .ok (.tuple #[x, .agg cs.toArray, y]) w := by
  have hl := run_loadVar_row w g t ty cs.toArray (0, 0) d hb hu (by cases d <;> first | rfl | cases hd) (by simpa using hi)
  have hp' : tmps[p]?.getD undef = .pointer (some ⟨g, 0, none⟩) := by simpa using hp
  have hx' : tmps[v]?.getD undef = x := by simpa using hx
  have hv' : tmps[u]?.getD undef = y := by simpa using hv
  simp [results, h, Result.andThen, hp', hx', hv', asAddr, hl]


/-- What shapeIn answers of bytes that are not too short. -/
def ShapeIs (s : List UInt8) (w : World) (e : Ending) (w' : World) : Prop :=
  (∃ k, Fits s k ∧ Three (.int .i64 (k : Int)) (.agg (shp k).toArray) (.int .i64 0) w e w') ∨ ((∀ k, ¬ Fits s k) ∧ Three (.int .i64 0) (.agg shp0.toArray) (.int .i64 3) w e w')

theorem wpList_load_blkUG {P : Program} {w : World} {ops : Array Oper} {rest : List Oper} {o : Oper} {a : Act} {Q : Exit → Act → World → Prop} (t : TypeId) (x : Operand) (ho : o.op = .load t x) (g : Nat) (hx : a.eval x = .pointer (some ⟨g, 0, none⟩)) (cs : List Value) (u : TypeId) (hb : Blk w g cs u)
    (d : TypeDesc) (hu : P.underlying t = some d) (hd : d.isRow = true) (hi : (P.info? t).map (·.size) = some cs.length) (hw : Region.wanted o (yielded ops a.tmps) = true)
    (h : wpList P ops Q rest (a.put o.dst (.agg cs.toArray)) w) : wpList P ops Q (o :: rest) a w := by
  refine BigFrame.wpList_want hw (fun K hK => ?_)
  unfold Oper.wp
  rw [run_load_blkU t x ho g hx cs u hb d hu hd hi]
  exact hK _ _ h

end Go.Proofs.Ytmiomfonglmfjaa

namespace Go.Proofs.Ytmiomfonglmfjaa
open Go.RowKit

theorem rowsTo_len2 (f : Nat → List UInt8) (n : Nat) (hf : ∀ i, i < n → (f i).length = 32) : (rowsTo f n).length = 32 * n := by
  induction n with
  | zero => rfl
  | succ n ih => rw [rowsTo_succ, List.length_append, ih (fun i hi => hf i (by omega)), hf n (by omega)]; omega
theorem hAt_length (s : List UInt8) (i : Nat) (h : 4 + i * 32 + 32 ≤ s.length) : (hAt s i).length = 32 := by unfold hAt; rw [List.length_take, List.length_drop]; omega
theorem cndF_length (p s : List UInt8) (D : List Nat) (k i : Nat) (h : s.length = lng k) (hi : i < mny k) : (cndF p s D k i).length = 32 := chn_length _ _ _ _ _ (hAt_length _ _ (by rw [h]; unfold lng; omega))

end Go.Proofs.Ytmiomfonglmfjaa

namespace Go.Proofs.Ytmiomfonglmfjaa

/-- A leaf's node. -/
def leafL (I : List UInt8) (r : Nat) (p : List UInt8) : List UInt8 := hash (pre20 I r ++ [[130, 130], p].flatten)
/-- Another node. -/
def upL (I : List UInt8) (r : Nat) (x y : List UInt8) : List UInt8 := hash (pre20 I r ++ [[131, 131], x, y].flatten)
theorem leafL_length (I : List UInt8) (r : Nat) (p : List UInt8) : (leafL I r p).length = 32 := hash_length _
theorem upL_length (I : List UInt8) (r : Nat) (x y : List UInt8) : (upL I r x y).length = 32 := hash_length _
/-- Node r, n levels above the leaves, of a tree of L leaves. -/
def knt (I seed : List UInt8) (k L : Nat) : Nat → Nat → List UInt8
  | 0, r => leafL I r (pubL (pre20 I (r - L)) seed k)
  | n + 1, r => upL I r (knt I seed k L n (2 * r)) (knt I seed k L n (2 * r + 1))
theorem knt_length (I seed : List UInt8) (k L n r : Nat) : (knt I seed k L n r).length = 32 := by
  cases n with
  | zero => exact leafL_length _ _ _
  | succ n => exact upL_length _ _ _ _
/-- The type of a height. -/
def knd (h : Nat) : Nat := if h = 5 then 5 else 100 + h
/-- The public key. -/
def lpub (I seed : List UInt8) (k h : Nat) : List UInt8 := be 4 (knd h) ++ be 4 (typ k) ++ I ++ knt I seed k (2 ^ h) h 1
theorem lpub_length (I seed : List UInt8) (k h : Nat) (hI : I.length = 16) : (lpub I seed k h).length = 56 := by
  simp [lpub, be_length, knt_length, hI]
/-- The node beside a node. -/
def sbr (r : Nat) : Nat := if r % 2 = 0 then r + 1 else r - 1
/-- The nodes beside the way of n levels up from node r, j levels above the leaves. -/
def sbl (I seed : List UInt8) (k L : Nat) : Nat → Nat → Nat → List UInt8
  | _, 0, _ => []
  | j, n + 1, r => knt I seed k L j (sbr r) ++ sbl I seed k L (j + 1) n (r / 2)
theorem sbl_length (I seed : List UInt8) (k L n : Nat) : ∀ j r, (sbl I seed k L j n r).length = 32 * n := by
  induction n with
  | zero => intro j r; rfl
  | succ n ih => intro j r; rw [sbl, List.length_append, knt_length, ih]; omega
/-- The way up, n levels, with the hashes beside it. -/
def clm (I : List UInt8) : Nat → Nat → List UInt8 → List UInt8 → List UInt8
  | 0, _, x, _ => x
  | n + 1, r, x, s => clm I n (r / 2) (if r % 2 = 0 then upL I (r / 2) x (s.take 32) else upL I (r / 2) (s.take 32) x) (s.drop 32)
theorem clm_length (I : List UInt8) (n : Nat) : ∀ r x s, x.length = 32 → (clm I n r x s).length = 32 := by
  induction n with
  | zero => intro r x s h; exact h
  | succ n ih =>
    intro r x s _
    refine ih _ _ _ ?_
    split <;> exact upL_length _ _ _ _
theorem clm_sbl (I seed : List UInt8) (k L n : Nat) : ∀ j r, clm I n r (knt I seed k L j r) (sbl I seed k L j n r) = knt I seed k L (j + n) (r / 2 ^ n) := by
  induction n with
  | zero => intro j r; simp [clm]
  | succ n ih =>
    intro j r
    rw [clm, sbl, List.take_append_of_le_length (by rw [knt_length]; omega), List.take_of_length_le (by rw [knt_length]; omega), List.drop_append_of_le_length (by rw [knt_length]; omega), List.drop_of_length_le (by rw [knt_length]; omega), List.nil_append]
    have e : (if r % 2 = 0 then upL I (r / 2) (knt I seed k L j r) (knt I seed k L j (sbr r)) else upL I (r / 2) (knt I seed k L j (sbr r)) (knt I seed k L j r)) = knt I seed k L (j + 1) (r / 2) := by
      rw [knt]
      by_cases h : r % 2 = 0
      · rw [if_pos h, sbr, if_pos h, show 2 * (r / 2) = r by omega]
      · rw [if_neg h, sbr, if_neg h, show 2 * (r / 2) = r - 1 by omega, show r - 1 + 1 = r by omega]
    rw [e, ih, show j + 1 + n = j + (n + 1) by omega, Nat.div_div_eq_div_mul, Nat.pow_succ, Nat.mul_comm 2]
/-- How long a signature is. -/
def llng (k h : Nat) : Nat := 4 + lng k + 4 + h * 32
/-- A signature. -/
def lsig (I seed text : List UInt8) (k h q : Nat) : List UInt8 := be 4 q ++ sigL (pre20 I q) seed text k ++ be 4 (knd h) ++ sbl I seed k (2 ^ h) 0 h (2 ^ h + q)
theorem lsig_length (I seed text : List UInt8) (k h q : Nat) : (lsig I seed text k h q).length = llng k h := by
  unfold lsig llng
  rw [List.length_append, List.length_append, List.length_append, be_length, be_length, sigL_length, sbl_length]; omega
/-- What a signature's parts lead to. -/
def lroot (I once text sibs : List UInt8) (k h q : Nat) : List UInt8 := clm I h (2 ^ h + q) (leafL I (2 ^ h + q) (cndL (pre20 I q) once text k)) sibs
theorem lroot_right (I seed text : List UInt8) (k h q : Nat) (hq : q < 2 ^ h) : lroot I (sigL (pre20 I q) seed text k) text (sbl I seed k (2 ^ h) 0 h (2 ^ h + q)) k h q = knt I seed k (2 ^ h) h 1 := by
  unfold lroot
  rw [cnd_sig]
  have e : leafL I (2 ^ h + q) (pubL (pre20 I q) seed k) = knt I seed k (2 ^ h) 0 (2 ^ h + q) := by rw [knt, show 2 ^ h + q - 2 ^ h = q by omega]
  rw [e, clm_sbl, Nat.zero_add]
  congr 1
  rw [Nat.div_eq_iff (Nat.pow_pos (by omega))]
  omega
end Go.Proofs.Ytmiomfonglmfjaa

namespace Go.Proofs.Ytmiomfonglmfjaa
open Go.RowKit

/-- A height. -/
def Ht (h : Nat) : Prop := h = 1 ∨ h = 2 ∨ h = 3 ∨ h = 4 ∨ h = 5
theorem Ht.le {h : Nat} (H : Ht h) : 1 ≤ h ∧ h ≤ 5 := by rcases H with rfl | rfl | rfl | rfl | rfl <;> decide
theorem Ht.of {h : Nat} (h1 : 1 ≤ h) (h5 : h ≤ 5) : Ht h := by unfold Ht; omega

/-- The cells of a shape. -/
def shl (k h : Nat) : List Value := [.int .u32 (knd h : Nat), .int .u32 (typ k : Nat), .int .i64 (lng k : Nat), .int .i64 (h : Nat)]
def shl0 : List Value := [.int .u32 0, .int .u32 0, .int .i64 0, .int .i64 0]
theorem shl0_one : shl0.toArray.all (·.oneCell') = true := by simp [shl0, Value.oneCell']
theorem shl_one (k h : Nat) : (shl k h).toArray.all (·.oneCell') = true := by simp [shl, Value.oneCell']

theorem Blk.at_ {w : World} {g : Nat} {cs : List Value} {t : TypeId} (h : Blk w g cs t) (j : Nat) (v : Value) (hj : cs[j]? = some v) : w.cell? ⟨g, j, none⟩ = some v := (h.cell j).trans hj

end Go.Proofs.Ytmiomfonglmfjaa

namespace Go.Proofs.Ytmiomfonglmfjaa
open Go.RowKit

/-- The cells of a tree. -/
def tcs (I seed : List UInt8) (z y : Int) : List Value := bys I ++ (bys seed ++ [.int .i64 z, .int .i64 y])
theorem tcs_length (I seed : List UInt8) (z y : Int) (hI : I.length = 16) (hs : seed.length = 32) : (tcs I seed z y).length = 50 := by simp [tcs, bys_length, hI, hs]
theorem tcs_z (I seed : List UInt8) (z y : Int) (hI : I.length = 16) (hs : seed.length = 32) : (tcs I seed z y)[48]? = some (.int .i64 z) := by
  unfold tcs
  rw [List.getElem?_append_right (by rw [bys_length, hI]; omega), List.getElem?_append_right (by rw [bys_length, bys_length, hI, hs]; omega), bys_length, bys_length, hI, hs]
  rfl
theorem tcs_y (I seed : List UInt8) (z y : Int) (hI : I.length = 16) (hs : seed.length = 32) : (tcs I seed z y)[49]? = some (.int .i64 y) := by
  unfold tcs
  rw [List.getElem?_append_right (by rw [bys_length, hI]; omega), List.getElem?_append_right (by rw [bys_length, bys_length, hI, hs]; omega), bys_length, bys_length, hI, hs]
  rfl
theorem tcs_rangeI {w : World} {g : Nat} {I seed : List UInt8} {z y : Int} {t : TypeId} (h : Blk w g (tcs I seed z y) t) : w.rangeAt g 0 (bys I) := fun j v hv => by
  have hj : j < (bys I).length := (List.getElem?_eq_some_iff.1 hv).1
  rw [h.cell, Nat.zero_add]
  unfold tcs
  rw [List.getElem?_append_left hj]
  exact hv
theorem tcs_rangeS {w : World} {g : Nat} {I seed : List UInt8} {z y : Int} {t : TypeId} (h : Blk w g (tcs I seed z y) t) (hI : I.length = 16) : w.rangeAt g 16 (bys seed) := fun j v hv => by
  have hj : j < (bys seed).length := (List.getElem?_eq_some_iff.1 hv).1
  rw [h.cell]
  unfold tcs
  rw [List.getElem?_append_right (by rw [bys_length, hI]; omega), bys_length, hI, List.getElem?_append_left (by omega), show 16 + j - 16 = j by omega]
  exact hv
/-- The name of a tree, read where it lies. -/
theorem tcs_I {w : World} {g B : Nat} {I seed : List UInt8} {z y : Int} {t : TypeId} (h : Blk w g (tcs I seed z y) t) (hI : I.length = 16) (hg : g < B) : Rd B w (.slice (some ⟨g, 0, none⟩) 16 16) I := by
  refine ⟨some ⟨g, 0, none⟩, 16, by rw [hI], by omega, by unfold maxLen; omega, fun h => (by cases h), fun a ha => ?_⟩
  cases ha
  refine ⟨fun _ => hg, fun j hj => ?_⟩
  have := tcs_rangeI h j _ (bys_get I j hj)
  rw [Addr.add_mid]
  exact this
theorem tcs_one (I seed : List UInt8) (z y : Int) : (tcs I seed z y).toArray.all (·.oneCell') = true := by
  rw [Array.all_eq_true_iff_forall_mem]
  intro v hv
  simp only [tcs, List.mem_toArray, List.mem_append, List.mem_cons, List.not_mem_nil, or_false] at hv
  rcases hv with h | h | h | h
  · exact bys_one _ _ h
  · exact bys_one _ _ h
  · subst h; rfl
  · subst h; rfl
theorem list_asL (l : List UInt8) (n : Nat) (h : l.length = n) : l = (List.range n).map fun i => l.getD i 0 := by
  subst h
  refine List.ext_getElem (by simp) (fun i h1 h2 => ?_)
  simp [h1]
theorem kcs_oneL (I seed : List UInt8) (q : Nat) (z : Int) : (kcs I q seed z).toArray.all (·.oneCell') = true := by
  rw [Array.all_eq_true_iff_forall_mem]
  intro v hv
  simp only [kcs, List.mem_toArray, List.mem_append, List.mem_cons, List.not_mem_nil, or_false] at hv
  rcases hv with h | h | h | h
  · exact bys_one _ _ h
  · subst h; rfl
  · exact bys_one _ _ h
  · subst h; rfl
theorem ret_blkUL {P : Program} {fn : Func} {p : Tmp} {ty : TypeId} (h : fn.results = #[.cell p ty]) (tmps : Array Value) (w : World) (g : Nat) (t : TypeId) (cs : List Value)
    (hp : tmps.getD p undef = .pointer (some ⟨g, 0, none⟩)) (hb : Blk w g cs t) (d : TypeDesc) (hu : P.underlying ty = some d) (hd : d.isRow = true) (hi : (P.info? ty).map (·.size) = some cs.length) :
    (results fn tmps).run P w = .ok (.agg cs.toArray) w :=
  results_cell_row h tmps w g t cs.toArray (0, 0) d hp hb hu (by cases d <;> first | rfl | cases hd) (by simpa using hi)

theorem Own.apart {e : TypeId} {w : World} {base g : Nat} {v : Value} {l : List UInt8} (h : Own e w base v l) (hg : g < base) : Apart g v := fun a n c hv hn => by
  obtain ⟨_, ⟨hv2, _⟩ | ⟨g2, cap, cur, hv2, hb, _⟩⟩ := h
  · rw [hv] at hv2; cases hv2
  · rw [hv] at hv2
    injection hv2 with e1 e2 e3
    injection e1 with e1
    subst e1
    show g2 ≠ g
    omega

end Go.Proofs.Ytmiomfonglmfjaa

namespace Go.Proofs.Ytmiomfonglmfjaa
open Go.RowKit

end Go.Proofs.Ytmiomfonglmfjaa

namespace Go.Proofs.Ytmiomfonglmfjaa
open Go.RowKit

/-- No height. -/
def NoH (y : Int) : Prop := y < 1 ∨ 5 < y

end Go.Proofs.Ytmiomfonglmfjaa

namespace Go.Proofs.Ytmiomfonglmfjaa
open Go.RowKit

end Go.Proofs.Ytmiomfonglmfjaa

namespace Go.Proofs.Ytmiomfonglmfjaa
open Go.RowKit

/-- No tree. -/
def NoT (z y : Int) : Prop := NoW z ∨ NoH y
theorem tree_or (z y : Int) : (∃ k h : Nat, Wd k ∧ Ht h ∧ z = (k : Int) ∧ y = (h : Int)) ∨ NoT z y := by
  rcases width_or z with ⟨k, hk, rfl⟩ | hz
  · by_cases h1 : 1 ≤ y ∧ y ≤ 5
    · exact .inl ⟨k, y.toNat, hk, Ht.of (by omega) (by omega), rfl, by omega⟩
    · exact .inr (.inr (by unfold NoH; omega))
  · exact .inr (.inl hz)

theorem sbl_take (I seed : List UInt8) (k L n : Nat) : ∀ j r i, i < n → (sbl I seed k L j n r).take (32 * (i + 1)) = (sbl I seed k L j n r).take (32 * i) ++ knt I seed k L (j + i) (sbr (r / 2 ^ i)) := by
  induction n with
  | zero => intro j r i hi; omega
  | succ n ih =>
    intro j r i hi
    rw [sbl]
    have hl := knt_length I seed k L j (sbr r)
    cases i with
    | zero =>
      rw [List.take_append_of_le_length (by omega), List.take_of_length_le (by omega)]
      simp
    | succ i =>
      rw [List.take_append, List.take_append, List.take_of_length_le (by omega), hl, show 32 * (i + 1 + 1) - 32 = 32 * (i + 1) by omega, show 32 * (i + 1) - 32 = 32 * i by omega, List.take_of_length_le (l := knt I seed k L j (sbr r)) (by omega), ih (j + 1) (r / 2) i (by omega), List.append_assoc, show j + 1 + i = j + (i + 1) by omega, Nat.div_div_eq_div_mul, Nat.pow_succ, Nat.mul_comm 2]

end Go.Proofs.Ytmiomfonglmfjaa

namespace Go.Proofs.Ytmiomfonglmfjaa
open Go.RowKit

theorem shl_at0 (k h : Nat) : ((shl k h)[0]? : Option Value) = some (.int .u32 (knd h : Nat)) := rfl
theorem shl_at1 (k h : Nat) : ((shl k h)[1]? : Option Value) = some (.int .u32 (typ k : Nat)) := rfl
theorem knd_lt {h : Nat} (H : Ht h) : knd h < 4294967296 := by rcases H with rfl | rfl | rfl | rfl | rfl <;> decide
theorem typ_lt {k : Nat} (H : Wd k) : typ k < 4294967296 := by rcases H with rfl | rfl | rfl | rfl <;> decide

end Go.Proofs.Ytmiomfonglmfjaa

namespace Go.Proofs.Ytmiomfonglmfjaa
open Go.RowKit

end Go.Proofs.Ytmiomfonglmfjaa

namespace Go.Proofs.Ytmiomfonglmfjaa
open Go.RowKit

/-- A width and a height of these types. -/
def LFit (D Y k h : Nat) : Prop := Wd k ∧ Ht h ∧ knd h = D ∧ typ k = Y
/-- What shapeWith answers. -/
def LShape (D Y : Nat) (w : World) (e : Ending) (w' : World) : Prop :=
  (∃ k h, LFit D Y k h ∧ TwoD (.agg (shl k h).toArray) (.int .i64 0) w e w') ∨ ((∀ k h, ¬ LFit D Y k h) ∧ TwoD (.agg shl0.toArray) (.int .i64 3) w e w')
end Go.Proofs.Ytmiomfonglmfjaa

namespace Go.Proofs.Ytmiomfonglmfjaa
open Go.RowKit

theorem run_sliceFromE (a : Addr) (n c m : Nat) (w : World) (h1 : m ≤ n) (_ : n ≤ c) : (Instr.sliceAt 91 (.slice (some a) n c) (some (.int .i64 (m : Int))) none none).run Try.prog w = .ok (.slice (some (if c = m then a else a.add m)) (n - m) (c - m)) w := by
  by_cases hc : c = m
  · simp [Instr.sliceAt, Instr.slice, run_underlying Try.underlying91, Instr.sliceBounds, Instr.sliceBound, asIntOf, h1, hc, Sem.run_bind, Result.andThen]
  · simp [Instr.sliceAt, Instr.slice, run_underlying Try.underlying91, Instr.sliceBounds, Instr.sliceBound, asIntOf, h1, hc, Sem.run_bind, Result.andThen]
theorem Rd.dropE {B : Nat} {w : World} {a : Addr} {n c : Nat} {l : List UInt8} (h : Rd B w (.slice (some a) n c) l) (m : Nat) (hm : m ≤ n) : Rd B w (.slice (some (if c = m then a else a.add m)) (n - m) (c - m)) (l.drop m) := by
  have := h.drop m hm
  by_cases hc : c = m
  · rw [if_pos hc] at this ⊢; exact this
  · rw [if_neg hc] at this ⊢; exact this

end Go.Proofs.Ytmiomfonglmfjaa

namespace Go.Proofs.Ytmiomfonglmfjaa
open Go.RowKit

theorem LFit.uniq {D Y k h k' h' : Nat} (a : LFit D Y k h) (b : LFit D Y k' h') : k = k' ∧ h = h' := by
  obtain ⟨a1, a2, a3, a4⟩ := a
  obtain ⟨b1, b2, b3, b4⟩ := b
  refine ⟨?_, ?_⟩
  · rw [← b4] at a4
    rcases a1 with rfl | rfl | rfl | rfl <;> rcases b1 with rfl | rfl | rfl | rfl <;> first | rfl | (simp [typ] at a4)
  · rw [← b3] at a3
    rcases a2 with rfl | rfl | rfl | rfl | rfl <;> rcases b2 with rfl | rfl | rfl | rfl | rfl <;> first | rfl | (simp [knd] at a3)
/-- The cells of a key. -/
def kyl (S : List Value) (I R : List UInt8) : List Value := S ++ (bys I ++ bys R)
theorem kyl_length (S : List Value) (I R : List UInt8) (hS : S.length = 4) (hI : I.length = 16) (hR : R.length = 32) : (kyl S I R).length = 52 := by simp [kyl, bys_length, hS, hI, hR]
def K16 : List UInt8 := List.replicate 16 0
def K32 : List UInt8 := List.replicate 32 0
def kyl0 : List Value := kyl shl0 K16 K32
theorem kyl_one (S : List Value) (I R : List UInt8) (hS : S.toArray.all (·.oneCell') = true) : (kyl S I R).toArray.all (·.oneCell') = true := by
  rw [Array.all_eq_true_iff_forall_mem] at hS ⊢
  intro v hv
  simp only [kyl, List.mem_toArray, List.mem_append] at hv
  rcases hv with h | h | h
  · exact hS v (by simpa using h)
  · exact bys_one _ _ h
  · exact bys_one _ _ h
theorem kyl0_one : kyl0.toArray.all (·.oneCell') = true := kyl_one _ _ _ shl0_one
theorem kyl0_len : kyl0.length = 52 := kyl_length _ _ _ rfl rfl rfl
theorem kyl_shape (S S' : List Value) (I R : List UInt8) (hS : S.length = 4) (hS' : S'.length = 4) : (kyl S I R).take 0 ++ (S' ++ (kyl S I R).drop (0 + S'.length)) = kyl S' I R := by
  unfold kyl
  rw [List.take_zero, List.nil_append, hS', Nat.zero_add, List.drop_append, List.drop_of_length_le (by omega), hS, List.nil_append]
  rfl
theorem kyl_name (S : List Value) (I I' R : List UInt8) (hS : S.length = 4) (hI : I.length = 16) (hI' : I'.length = 16) : (kyl S I R).take 4 ++ (bys I' ++ (kyl S I R).drop (4 + I'.length)) = kyl S I' R := by
  unfold kyl
  rw [List.take_append_of_le_length (by omega), List.take_of_length_le (by omega), hI', List.drop_append, List.drop_of_length_le (by omega), hS, List.nil_append, show 4 + 16 - 4 = 16 from rfl, List.drop_append, List.drop_of_length_le (by rw [bys_length]; omega), bys_length, hI, List.nil_append]
  rfl
theorem kyl_root (S : List Value) (I R R' : List UInt8) (hS : S.length = 4) (hI : I.length = 16) (hR : R.length = 32) (hR' : R'.length = 32) : (kyl S I R).take 20 ++ (bys R' ++ (kyl S I R).drop (20 + R'.length)) = kyl S I R' := by
  unfold kyl
  rw [List.take_append, List.take_of_length_le (by omega), hS, show 20 - 4 = 16 from rfl, List.take_append_of_le_length (by rw [bys_length]; omega), List.take_of_length_le (by rw [bys_length]; omega), List.drop_of_length_le (by simp [bys_length]; omega), List.append_nil, List.append_assoc]

end Go.Proofs.Ytmiomfonglmfjaa

namespace Go.Proofs.Ytmiomfonglmfjaa
open Go.RowKit

def pts0 : List Value := [.int .u32 0, .slice none 0 0, .slice none 0 0]
theorem pts0_one : pts0.toArray.all (·.oneCell') = true := by simp [pts0, Value.oneCell']

/-- The cells of a signature's parts. -/
def ptl (q : Nat) (o b : Value) : List Value := [.int .u32 (q : Int), o, b]
theorem ptl_one (q n m c d : Nat) (A B : Option Addr) : (ptl q (.slice A n c) (.slice B m d)).toArray.all (·.oneCell') = true := by simp [ptl, Value.oneCell']

end Go.Proofs.Ytmiomfonglmfjaa

namespace Go.Proofs.Ytmiomfonglmfjaa
open Go.RowKit

theorem run_load_midU {P : Program} {o : Oper} {a : Act} {w : World} (t : TypeId) (x : Operand) (ho : o.op = .load t x) (g off : Nat) (hx : a.eval x = .pointer (some ⟨g, off, none⟩)) (cs : List Value) (d : TypeDesc) (hc : w.rangeAt g off cs)
    (hu : P.underlying t = some d) (hd : d.isRow = true) (hi : (P.info? t).map (·.size) = some cs.length) : (execOp a.eval o).run P w = .ok (.value (.agg cs.toArray)) w := by
  unfold execOp
  simp only [ho, hx, Instr.loadAt, Instr.sureAddr, Sem.run_bind, Sem.run_pure, Result.andThen_ok, run_loadVar_mid w g off t cs d hc hu hd hi]
theorem kyl_rangeS {w : World} {g : Nat} {S : List Value} {I R : List UInt8} {t : TypeId} (h : Blk w g (kyl S I R) t) : w.rangeAt g 0 S := fun j v hv => by
  have hj : j < S.length := (List.getElem?_eq_some_iff.1 hv).1
  rw [h.cell, Nat.zero_add]
  unfold kyl
  rw [List.getElem?_append_left hj]
  exact hv
theorem kyl_rangeI {w : World} {g : Nat} {S : List Value} {I R : List UInt8} {t : TypeId} (h : Blk w g (kyl S I R) t) (hS : S.length = 4) : w.rangeAt g 4 (bys I) := fun j v hv => by
  have hj : j < (bys I).length := (List.getElem?_eq_some_iff.1 hv).1
  rw [h.cell]
  unfold kyl
  rw [List.getElem?_append_right (by omega), hS, show 4 + j - 4 = j by omega, List.getElem?_append_left hj]
  exact hv
theorem kyl_rangeR {w : World} {g : Nat} {S : List Value} {I R : List UInt8} {t : TypeId} (h : Blk w g (kyl S I R) t) (hS : S.length = 4) (hI : I.length = 16) : w.rangeAt g 20 (bys R) := fun j v hv => by
  rw [h.cell]
  unfold kyl
  rw [List.getElem?_append_right (by omega), hS, List.getElem?_append_right (by rw [bys_length]; omega), bys_length, hI, show 20 + j - 4 - 16 = j by omega]
  exact hv

end Go.Proofs.Ytmiomfonglmfjaa
