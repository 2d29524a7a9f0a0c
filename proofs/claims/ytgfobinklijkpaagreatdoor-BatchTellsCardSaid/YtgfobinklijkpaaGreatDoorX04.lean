/-
  Texts OJ DD OA OB OC CC.
-/
import Derived.Laws.CopyOwn
import Derived.Test.YtgfobinklijkpaaGreatDoorChecked
import Derived.WalkKit
import Derived.WalkLawsBesides
import Derived.Outline
import Derived.IntWalk
import Derived.Lib.Hide
import Derived.Deep.QuietTactic
import Derived.BigQuiet
import Derived.Deep.Draws
import Derived.Laws.BitsAllLaws
import Derived.ChangeKeysEq
import Derived.Maps.Own
import Derived.Maps.OwnOps
import Derived.Maps.RangeWalk
import Derived.ScopeJumps
import Derived.WalkMore
import Derived.Test.YtgfobinklijkpaaGreatDoorX01
import Derived.Test.YtgfobinklijkpaaGreatDoorX02
import Derived.Test.YtgfobinklijkpaaGreatDoorX03
namespace Go.Proofs.YtgfobinklijkpaaGreatDoor
set_option maxRecDepth 100000
set_option maxHeartbeats 16000000
open Go.RowKit
structure But (g : Nat) (w w' : World) : Prop where
 os : w'.os = w.os
 tape : w'.tape = w.tape
 output : w'.output = w.output
 size : w.heap.size ≤ w'.heap.size
 block : ∀ k, k < w.heap.size → k ≠ g → w'.heap[k]? = w.heap[k]?
theorem But.refl (g : Nat) (w : World) : But g w w := ⟨rfl, rfl, rfl, Nat.le_refl _, fun _ _ _ => rfl⟩
theorem But.trans {g : Nat} {a b c : World} (h : But g a b) (k : But g b c) : But g a c :=
 ⟨k.os.trans h.os, k.tape.trans h.tape, k.output.trans h.output, Nat.le_trans h.size k.size, fun i hi hg => (k.block i (Nat.lt_of_lt_of_le hi h.size) hg).trans (h.block i hi hg)⟩
theorem But.of {g B : Nat} {w w' : World} (h : Below B w w') (hB : w.heap.size ≤ B) : But g w w' := ⟨h.os, h.tape, h.output, h.size, fun k hk _ => h.block k (by omega)⟩
theorem But.drew {g : Nat} {a w : World} (h : But g a w) : But g a w.drew := ⟨h.os, h.tape, h.output, h.size, h.block⟩
theorem But.setRow {g : Nat} {a w : World} (h : But g a w) (cs : Array Value) : But g a (w.setRow g cs) :=
 h.trans ⟨rfl, rfl, rfl, by simp, fun k _ hg => setRow_other w g k cs hg⟩
theorem But.setCell {g : Nat} {a w : World} (h : But g a w) (o : Nat) (v : Value) : But g a (w.setCell ⟨g, o, none⟩ v) :=
 h.trans ⟨rfl, rfl, rfl, by simp [World.setCell], fun k _ hg => Below.heap_setCell _ _ _ _ hg⟩
theorem But.setCells {g : Nat} : ∀ (vs : List Value) (o : Nat) {a w : World}, But g a w → But g a (w.setCells g o vs)
 | [], _, _, _, h => h
 | v :: r, o, _, _, h => But.setCells r (o + 1) (h.setCell o v)
theorem But.below {g B : Nat} {w w' : World} (h : But g w w') (hB : B ≤ g) (hs : B ≤ w.heap.size) : Below B w w' := ⟨h.os, h.tape, h.output, h.size, fun k hk => h.block k (by omega) (by omega)⟩
theorem But.blk {g k : Nat} {w w' : World} {cs : List Value} {t : TypeId} (h : But g w w') (hb : Blk w k cs t) (hk : k ≠ g) : Blk w' k cs t := by
 unfold Blk; rw [h.block k hb.lt hk]; exact hb
theorem But.cell {g : Nat} {w w' : World} (h : But g w w') {p : Addr} (hp : p.block < w.heap.size) (hg : p.block ≠ g) : w'.cell? p = w.cell? p := World.cell?_of_block (w := w) (h.block p.block hp hg)
def Apart (g : Nat) (v : Value) : Prop := ∀ a n c, v = .slice (some a) n c → 0 < n → a.block ≠ g
theorem Rd.but {g : Nat} {w w' : World} {v : Value} {l : List UInt8} (h : Rd w.heap.size w v l) (hap : Apart g v) (hb : But g w w') : Rd w'.heap.size w' v l := by
 obtain ⟨A, c, rfl, hc, hm, hn, hr⟩ := h
 refine ⟨A, c, rfl, hc, hm, hn, fun a ha => ⟨fun h0 => Nat.lt_of_lt_of_le ((hr a ha).1 h0) hb.size, fun j hj => ?_⟩⟩
 subst ha
 have h0 : 0 < l.length := by omega
 rw [hb.cell (by rw [addr_block]; exact (hr a rfl).1 h0) (by rw [addr_block]; exact hap a _ _ rfl h0)]
 exact (hr a rfl).2 j hj
theorem Own.but {g base : Nat} {e : TypeId} {w w' : World} {v : Value} {l : List UInt8} (h : Own e w base v l) (hb : But g w w') (hg : g < base) : Own e w' base v l := by
 refine ⟨h.1, ?_⟩
 rcases h.2 with hn | ⟨k, cap, cur, rfl, hk0, hk, r⟩
 ·exact .inl hn
 ·have hlt : k < w.heap.size := (Array.getElem?_eq_some_iff.1 hk).1
  exact .inr ⟨k, cap, cur, rfl, hk0, by rw [hb.block k hlt (by omega)]; exact hk, r⟩
def ocs (st : List Nat) (left : List UInt8) (n : Nat) : List Value := ws st ++ (bys left ++ [.int .i64 (n : Int)])
theorem ocs_byte (st : List Nat) (left : List UInt8) (n j : Nat) (h1 : st.length = 8) (hj : j < left.length) : (ocs st left n)[8 + j]? = some (.int .u8 (left[j].toNat : Int)) := by
 unfold ocs
 rw [List.getElem?_append_right (by rw [ws_length, h1]; omega), ws_length, h1, Nat.add_sub_cancel_left, List.getElem?_append_left (by rw [bys_length]; exact hj), bys_get left j hj]
theorem Blk.setCells {g : Nat} {t : TypeId} : ∀ (vs : List Value) (o : Nat) {w : World} {cs : List Value}, Blk w g cs t → o + vs.length ≤ cs.length → Blk (w.setCells g o vs) g (cs.take o ++ (vs ++ cs.drop (o + vs.length))) t
 | [], o, w, cs, h, _ => by
   simp only [List.length_nil, Nat.add_zero, List.nil_append, List.take_append_drop]
   exact h
 | v :: r, o, w, cs, h, hl => by
   have ih := Blk.setCells r (o + 1) (h.set o v) (by simp at hl ⊢; omega)
   have hl' : o < cs.length := by simp at hl; omega
   have e : (cs.set o v).take (o + 1) ++ (r ++ (cs.set o v).drop (o + 1 + r.length)) = cs.take o ++ ((v :: r) ++ cs.drop (o + (v :: r).length)) := by
    rw [List.take_set, List.drop_set, if_pos (by omega), List.take_succ_eq_append_getElem hl', List.set_append, if_neg (by rw [List.length_take]; omega), List.length_take, Nat.min_eq_left (by omega), Nat.sub_self]
    simp [Nat.add_assoc, Nat.add_comm 1]
   rw [e] at ih
   exact ih
section
variable {P : Program} {w : World} {ops : Array Oper} {rest : List Oper} {o : Oper} {a : Act} {Q : Exit → Act → World → Prop}
end
theorem Rd.left {w : World} {g B : Nat} {st : List Nat} {left : List UInt8} {n : Nat} {t : TypeId} (h : Blk w g (ocs st left n) t) (h1 : st.length = 8) (h2 : left.length = 64) (hg : g < B) (r : Nat) (hr : r ≤ 64) : Rd B w (.slice (some ⟨g, 8, none⟩) r 64) (left.take r) := by
 have hl : (left.take r).length = r := by rw [List.length_take]; omega
 refine ⟨some ⟨g, 8, none⟩, 64, by rw [hl], by omega, by unfold maxLen; omega, fun h => (by cases h), fun a ha => ?_⟩
 cases ha
 refine ⟨fun _ => hg, fun j hj => ?_⟩
 rw [Addr.add_mid, h.cell, ocs_byte st left n j h1 (by omega)]
 simp
theorem s5 : (Tryz.prog.info? 5).map (·.size) = some 1 := by kernel_rfl
theorem Blk.there {w : World} {g : Nat} {cs : List Value} {t : TypeId} (h : Blk w g cs t) (n : Nat) (hn : n ≤ cs.length) : w.there g 0 n := fun j hj => by
 rw [Nat.zero_add, h.cell, h.frozen, List.getElem?_eq_getElem (by omega)]
 exact ⟨rfl, rfl⟩
def One (v : Value) (w : World) (e : Ending) (w' : World) : Prop := e = .returned v ∧ Below w.heap.size w w'
theorem Blk.rd {w : World} {g : Nat} {l : List UInt8} {t : TypeId} (h : Blk w g (bys l) t) (hl : l.length ≤ maxLen) : Rd (g + 1) w (.slice (some ⟨g, 0, none⟩) l.length l.length) l := by
 refine ⟨some ⟨g, 0, none⟩, l.length, rfl, Nat.le_refl _, hl, fun h => (by cases h), fun a ha => ?_⟩
 cases ha
 refine ⟨fun _ => Nat.lt_succ_self _, fun j hj => ?_⟩
 rw [Addr.add_mid, Nat.zero_add, h.cell, bys_get l j hj]
def onn (k : Nat) : Nat := 256 / k
theorem Wd.le {k : Nat} (hk : Wd k) : 1 ≤ k ∧ k ≤ 8 ∧ onn k ≤ 256 ∧ gr k ≤ 255 := by rcases hk with rfl | rfl | rfl | rfl <;> decide
theorem Rd.two (e : TypeId) (fr : Nat × Nat) (w : World) (x y : Int) (b c : UInt8) (hx : x = (b.toNat : Int)) (hy : y = (c.toNat : Int)) : Rd (w.heap.size + 1) (w.alloc (.cells #[.int .u8 x, .int .u8 y] e fr)) (.slice (some ⟨w.heap.size, 0, none⟩) 2 2) [b, c] := by
 subst hx hy
 refine ⟨some ⟨w.heap.size, 0, none⟩, 2, rfl, Nat.le_refl _, by unfold maxLen; decide, fun h => (by cases h), fun a ha => ?_⟩
 cases ha
 refine ⟨fun _ => Nat.lt_succ_self _, fun j hj => ?_⟩
 rw [Addr.add_mid, cell_of_row _ _ _ _ e fr (heap_alloc_new w _)]
 have : j = 0 ∨ j = 1 := by simp at hj; omega
 rcases this with rfl | rfl <;> simp
theorem Own.lit (e : TypeId) (w : World) (cs : Array Value) (n : Nat) (l : List UInt8) (hn : l.length = n) (hl : n ≤ 1000000) (h : cs = (bys l).toArray) : Own e (w.alloc (.cells cs e)) w.heap.size (.slice (some ⟨w.heap.size, 0, none⟩) n n) l := by
 subst hn h
 have := World.ownsRow_lit (base := w.heap.size) (e := e) (size := 1) w (bys l).toArray l.length (Nat.le_refl _) (by unfold maxLen; omega) (by simp [bys_length])
 unfold Own
 simpa using this
theorem Rd.blk {w : World} {g B : Nat} {t : TypeId} {l : List UInt8} (n : Nat) (hn : l.length = n) (h : Blk w g (bys l) t) (hg : g < B) (hl : n ≤ 1000000) : Rd B w (.slice (some ⟨g, 0, none⟩) n n) l := by
 subst hn
 refine ⟨some ⟨g, 0, none⟩, l.length, rfl, Nat.le_refl _, by unfold maxLen; omega, fun h => (by cases h), fun a ha => ?_⟩
 cases ha
 refine ⟨fun _ => hg, fun j hj => ?_⟩
 rw [Addr.add_mid, h.cell, Nat.zero_add, bys_get l j hj]
theorem wp_of_list {P : Program} {o : Oper} {a : Act} {w : World} {K : Act → World → Prop} {Q : Exit → Act → World → Prop} (hg : o.guard = none)
 (h : wpList P #[] (fun e a w => match e with | .normal => K a w | .panic c => Q (.panic c) a w | _ => False) [o] a w) : o.wp P a w K Q := by
 unfold wpList at h
 simp only [Region.wanted, hg, if_true] at h
 rcases h with h | h
 ·unfold Oper.wp at *
  generalize (execOp a.eval o).run P w = r at *
  cases r with
  | ok n w' =>
    cases n <;> simp only [Oper.upon] at h ⊢ <;>
     first
      | exact h
      | exact Calls.mono h (fun e w'' he => by cases e <;> first | exact he | (obtain ⟨_, _, hf⟩ := he; exact hf.elim))
      | exact Rows.mono h (fun _ _ he => he)
  | halt x w' => cases x <;> simp only [Oper.upon] at h ⊢ <;> exact h
 ·obtain ⟨_, _, _, hf⟩ := h
  exact hf.elim
def RdL (B : Nat) (w : World) (A : Option Addr) (c : Nat) (ls : List (List UInt8)) : Prop :=
 ls.length ≤ c ∧ c ≤ maxLen ∧ (A = none → c = 0) ∧ ∀ a, A = some a → ∀ r (h : r < ls.length), a.block < B ∧ ∃ vr, w.cell? (a.add r) = some vr ∧ Rd B w vr ls[r]
def hstep (p : List UInt8) (i j : Nat) (x : List UInt8) : List UInt8 := hash (p ++ [by2 i, [UInt8.ofNat j], x].flatten)
def RdN (l : List UInt8) : Value → World → Prop := fun v w => Rd w.heap.size w v l
theorem RdN.keep {l : List UInt8} {v : Value} {w w' : World} (h : RdN l v w) (hb : Below w.heap.size w w') : RdN l v w' := (Rd.below h hb).more hb.size
def RdLN (n : Nat) (ls : List (List UInt8)) : Value → World → Prop := fun v w => ∃ A, v = .slice A n n ∧ RdL w.heap.size w A n ls
theorem RdL.below {B B' : Nat} {w w' : World} {A : Option Addr} {c : Nat} {ls : List (List UInt8)} (h : RdL B w A c ls) (hb : Below B w w') (hB : B ≤ B') : RdL B' w' A c ls := by
 obtain ⟨h1, h2, h3, h4⟩ := h
 refine ⟨h1, h2, h3, fun a ha r hr => ?_⟩
 obtain ⟨hab, vr, hc, hrd⟩ := h4 a ha r hr
 exact ⟨by omega, vr, by rw [hb.cell (by rw [addr_block]; exact hab)]; exact hc, (hrd.below hb).more hB⟩
theorem RdLN.keep {n : Nat} {ls : List (List UInt8)} {v : Value} {w w' : World} (h : RdLN n ls v w) (hb : Below w.heap.size w w') : RdLN n ls v w' := by
 obtain ⟨A, hv, h⟩ := h
 exact ⟨A, hv, h.below hb hb.size⟩
theorem RdLN.three (e : TypeId) (w : World) (v0 v1 v2 : Value) (l0 l1 l2 : List UInt8) (h0 : RdN l0 v0 w) (h1 : RdN l1 v1 w) (h2 : RdN l2 v2 w) : RdLN 3 [l0, l1, l2] (.slice (some ⟨w.heap.size, 0, none⟩) 3 3) (w.alloc (.cells #[v0, v1, v2] e)) := by
 have hb : Below w.heap.size w (w.alloc (.cells #[v0, v1, v2] e)) := (Below.refl _ _).alloc (Nat.le_refl _) _
 refine ⟨some ⟨w.heap.size, 0, none⟩, rfl, Nat.le_refl _, by unfold maxLen; omega, fun h => (by cases h), fun a ha r hr => ?_⟩
 cases ha
 refine ⟨by simp, ?_⟩
 have : r = 0 ∨ r = 1 ∨ r = 2 := by simp at hr; omega
 rcases this with rfl | rfl | rfl
 ·exact ⟨v0, by rw [Addr.add_mid, cell_of_row _ _ _ _ e (0, 0) (heap_alloc_new w _)]; simp, h0.keep hb⟩
 ·exact ⟨v1, by rw [Addr.add_mid, cell_of_row _ _ _ _ e (0, 0) (heap_alloc_new w _)]; simp, h1.keep hb⟩
 ·exact ⟨v2, by rw [Addr.add_mid, cell_of_row _ _ _ _ e (0, 0) (heap_alloc_new w _)]; simp, h2.keep hb⟩
theorem RdLN.two (e : TypeId) (w : World) (v0 v1 : Value) (l0 l1 : List UInt8) (h0 : RdN l0 v0 w) (h1 : RdN l1 v1 w) : RdLN 2 [l0, l1] (.slice (some ⟨w.heap.size, 0, none⟩) 2 2) (w.alloc (.cells #[v0, v1] e)) := by
 have hb : Below w.heap.size w (w.alloc (.cells #[v0, v1] e)) := (Below.refl _ _).alloc (Nat.le_refl _) _
 refine ⟨some ⟨w.heap.size, 0, none⟩, rfl, Nat.le_refl _, by unfold maxLen; omega, fun h => (by cases h), fun a ha r hr => ?_⟩
 cases ha
 refine ⟨by simp, ?_⟩
 have : r = 0 ∨ r = 1 := by simp at hr; omega
 rcases this with rfl | rfl
 ·exact ⟨v0, by rw [Addr.add_mid, cell_of_row _ _ _ _ e (0, 0) (heap_alloc_new w _)]; simp, h0.keep hb⟩
 ·exact ⟨v1, by rw [Addr.add_mid, cell_of_row _ _ _ _ e (0, 0) (heap_alloc_new w _)]; simp, h1.keep hb⟩
section
variable {P : Program} {w : World} {ops : Array Oper} {rest : List Oper} {o : Oper} {a : Act} {Q : Exit → Act → World → Prop}
end
theorem calls_args {P : Program} {f : FuncId} {args args2 : Array Value} {w : World} {R : Ending → World → Prop} (h : args = args2) (hc : Calls P f args2 w R) : Calls P f args w R := h ▸ hc
open Go.Maps (Keyed int_keyed)
def Dt : DataW Unit := .map [(.int .i64 1, .lit (.int .u32 1)), (.int .i64 2, .lit (.int .u32 2)), (.int .i64 4, .lit (.int .u32 3)), (.int .i64 8, .lit (.int .u32 4))]
theorem wrap_i64 (n : Int) (h0 : 0 ≤ n) (h1 : n ≤ 9223372036854775807) : IntKind.i64.wrap n = n := by
 simp [IntKind.wrap, IntKind.bits, IntKind.signed]
 omega
def TypN : Value → World → Prop := fun v w => ∃ B, v = .map (some B) ∧ w.ownsMap Tryz.prog 3 (plainElem (H := Unit) Tryz.prog 145) B 4 Dt
theorem below_grownN {w w' : World} (h : Below w.heap.size w w') : w.grownBy w' none := ⟨h.os, h.tape, h.output, h.size, fun k hk _ => h.block k hk⟩
theorem TypN.keep {v : Value} {w w' : World} (h : TypN v w) (hb : Below w.heap.size w w') : TypN v w' := by
 obtain ⟨B, hv, ho⟩ := h
 exact ⟨B, hv, ho.kept (below_grownN hb) (by simp)⟩
theorem ret_blk2U {P : Program} {fn : Func} {p u : Tmp} {ty : TypeId} (h : fn.results = #[.cell p ty, .tmp u]) (tmps : Array Value) (w : World) (g : Nat) (t : TypeId) (cs : List Value) (v : Value)
 (hp : tmps.getD p undef = .pointer (some ⟨g, 0, none⟩)) (hv : tmps.getD u undef = v) (hb : Blk w g cs t) (d : TypeDesc) (hu : P.underlying ty = some d) (hd : d.isRow = true) (hi : (P.info? ty).map (·.size) = some cs.length) :
 (results fn tmps).run P w = .ok (.tuple #[.agg cs.toArray, v]) w := by
 rw [results_cell_tmp h, hp]
 simp [asAddr, Result.andThen, run_loadVar_row w g t ty cs.toArray (0, 0) d hb hu (by cases d <;> first | rfl | cases hd) (by simpa using hi)]
 simpa using hv
def NewB (b : Nat) : Value → World → Prop := fun v w => ∃ g, v = .pointer (some ⟨g, 0, none⟩) ∧ Blk w g z32 36 ∧ b ≤ g
theorem NewB.keep {b : Nat} {v : Value} {w w' : World} (h : NewB b v w) (hb : Below w.heap.size w w') : NewB b v w' := by
 obtain ⟨g, hv, h1, h2⟩ := h
 exact ⟨g, hv, h1.below hb h1.lt, h2⟩
def RdIN (D : List Nat) : Value → World → Prop := fun v w => RdI w.heap.size w v D
theorem RdIN.keep {D : List Nat} {v : Value} {w w' : World} (h : RdIN D v w) (hb : Below w.heap.size w w') : RdIN D v w' := (RdI.below h hb).more hb.size
def AllN (D : List Nat) : Value → World → Prop := fun v w => ∃ u, v = .tuple #[u, .int .i64 0] ∧ RdIN D u w
theorem AllN.keep {D : List Nat} {v : Value} {w w' : World} (h : AllN D v w) (hb : Below w.heap.size w w') : AllN D v w' := by
 obtain ⟨u, hv, h⟩ := h
 exact ⟨u, hv, h.keep hb⟩
def OwnN (b : Nat) (l : List UInt8) : Value → World → Prop := fun v w => Own 5 w b v l
theorem OwnN.keep {b : Nat} {l : List UInt8} {v : Value} {w w' : World} (h : OwnN b l v w) (hb : Below w.heap.size w w') : OwnN b l v w' := Own.below h hb (Nat.le_refl _)
theorem Rd.take {B : Nat} {w : World} {a : Addr} {n c : Nat} {l : List UInt8} (h : Rd B w (.slice (some a) n c) l) (m : Nat) (hm : m ≤ n) : Rd B w (.slice (some a) m c) (l.take m) := by
 obtain ⟨A, c', hv, hc, hmx, hn, hcell⟩ := h
 injection hv with h1 h2 h3
 subst h1 h2 h3
 have hl : (l.take m).length = m := by rw [List.length_take]; omega
 refine ⟨some a, c, by rw [hl], by omega, hmx, fun h => (by cases h), fun x hx => ?_⟩
 cases hx
 refine ⟨fun h0 => (hcell a rfl).1 (by omega), fun j hj => ?_⟩
 rw [(hcell a rfl).2 j (by omega)]
 simp
def Three (x y z : Value) (w : World) (e : Ending) (w' : World) : Prop := e = .returned (.tuple #[x, y, z]) ∧ Below w.heap.size w w'
end Go.Proofs.YtgfobinklijkpaaGreatDoor
