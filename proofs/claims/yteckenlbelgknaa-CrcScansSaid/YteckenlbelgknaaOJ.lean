/-
  Words for an object of package sha in memory: a block of 73 cells (a state, 64 bytes, a number), and worlds that differ in that block and in new ones alone. Each theorem states its own conditions.
  New, Long and Sum of an object: what an object holds, from every world.
  Write of an object: behind it the object holds the bytes that it held and those that are written; nothing else that was there changes.
-/
import Derived.Test.YteckenlbelgknaaSX
import Derived.Test.YteckenlbelgknaaPs
import Derived.Laws.CopyOwn
namespace Go.Proofs.Yteckenlbelgknaa
open Go.RowKit

/-- w' is w but for block g and new blocks. -/
structure But (g : Nat) (w w' : World) : Prop where
  os : w'.os = w.os
  tape : w'.tape = w.tape
  output : w'.output = w.output
  size : w.heap.size ≤ w'.heap.size
  block : ∀ k, k < w.heap.size → k ≠ g → w'.heap[k]? = w.heap[k]?

theorem But.refl (g : Nat) (w : World) : But g w w := ⟨rfl, rfl, rfl, Nat.le_refl _, fun _ _ _ => rfl⟩
theorem But.trans {g : Nat} {a b c : World} (h : But g a b) (k : But g b c) : But g a c :=
  ⟨k.os.trans h.os, k.tape.trans h.tape, k.output.trans h.output, Nat.le_trans h.size k.size, fun i hi hg => (k.block i (Nat.lt_of_lt_of_le hi h.size) hg).trans (h.block i hi hg)⟩
theorem But.of {g B : Nat} {w w' : World} (h : Below B w w') (hB : w.heap.size ≤ B) : But g w w' := ⟨h.os, h.tape, h.output, h.size, fun k hk _ => h.block k (by omega)⟩
theorem But.drew {g : Nat} {a w : World} (h : But g a w) : But g a w.drew := ⟨h.os, h.tape, h.output, h.size, h.block⟩
theorem But.setRow {g : Nat} {a w : World} (h : But g a w) (cs : Array Value) : But g a (w.setRow g cs) :=
  h.trans ⟨rfl, rfl, rfl, by simp, fun k _ hg => setRow_other w g k cs hg⟩
theorem But.setCell {g : Nat} {a w : World} (h : But g a w) (o : Nat) (v : Value) : But g a (w.setCell ⟨g, o, none⟩ v) :=
  h.trans ⟨rfl, rfl, rfl, by simp [World.setCell], fun k _ hg => Below.heap_setCell _ _ _ _ hg⟩
theorem But.setCells {g : Nat} : ∀ (vs : List Value) (o : Nat) {a w : World}, But g a w → But g a (w.setCells g o vs)
  | [], _, _, _, h => h
  | v :: r, o, _, _, h => But.setCells r (o + 1) (h.setCell o v)
theorem But.below {g B : Nat} {w w' : World} (h : But g w w') (hB : B ≤ g) (hs : B ≤ w.heap.size) : Below B w w' := ⟨h.os, h.tape, h.output, h.size, fun k hk => h.block k (by omega) (by omega)⟩
theorem But.blk {g k : Nat} {w w' : World} {cs : List Value} {t : TypeId} (h : But g w w') (hb : Blk w k cs t) (hk : k ≠ g) : Blk w' k cs t := by
  unfold Blk; rw [h.block k hb.lt hk]; exact hb
theorem But.cell {g : Nat} {w w' : World} (h : But g w w') {p : Addr} (hp : p.block < w.heap.size) (hg : p.block ≠ g) : w'.cell? p = w.cell? p := World.cell?_of_block (w := w) (h.block p.block hp hg)

/-- The slice's bytes do not lie in block g. -/
def Apart (g : Nat) (v : Value) : Prop := ∀ a n c, v = .slice (some a) n c → 0 < n → a.block ≠ g
theorem Rd.but {g : Nat} {w w' : World} {v : Value} {l : List UInt8} (h : Rd w.heap.size w v l) (hap : Apart g v) (hb : But g w w') : Rd w'.heap.size w' v l := by
  obtain ⟨A, c, rfl, hc, hm, hn, hr⟩ := h
  refine ⟨A, c, rfl, hc, hm, hn, fun a ha => ⟨fun h0 => Nat.lt_of_lt_of_le ((hr a ha).1 h0) hb.size, fun j hj => ?_⟩⟩
  subst ha
  have h0 : 0 < l.length := by omega
  rw [hb.cell (by rw [addr_block]; exact (hr a rfl).1 h0) (by rw [addr_block]; exact hap a _ _ rfl h0)]
  exact (hr a rfl).2 j hj
theorem Own.but {g base : Nat} {e : TypeId} {w w' : World} {v : Value} {l : List UInt8} (h : Own e w base v l) (hb : But g w w') (hg : g < base) : Own e w' base v l := by
  refine ⟨h.1, ?_⟩
  rcases h.2 with hn | ⟨k, cap, cur, rfl, hk0, hk, r⟩
  · exact .inl hn
  · have hlt : k < w.heap.size := (Array.getElem?_eq_some_iff.1 hk).1
    exact .inr ⟨k, cap, cur, rfl, hk0, by rw [hb.block k hlt (by omega)]; exact hk, r⟩

/-- The cells of an object. -/
def ocs (st : List Nat) (left : List UInt8) (n : Nat) : List Value := ws st ++ (bys left ++ [.int .i64 (n : Int)])
theorem ocs_length (st : List Nat) (left : List UInt8) (n : Nat) (h1 : st.length = 8) (h2 : left.length = 64) : (ocs st left n).length = 73 := by simp [ocs, ws_length, bys_length, h1, h2]
theorem ocs_num (st : List Nat) (left : List UInt8) (n : Nat) (h1 : st.length = 8) (h2 : left.length = 64) : (ocs st left n)[72]? = some (.int .i64 (n : Int)) := by
  unfold ocs
  rw [List.getElem?_append_right (by rw [ws_length, h1]; omega), ws_length, h1, List.getElem?_append_right (by rw [bys_length, h2]; omega), bys_length, h2]
  rfl
theorem ocs_byte (st : List Nat) (left : List UInt8) (n j : Nat) (h1 : st.length = 8) (hj : j < left.length) : (ocs st left n)[8 + j]? = some (.int .u8 (left[j].toNat : Int)) := by
  unfold ocs
  rw [List.getElem?_append_right (by rw [ws_length, h1]; omega), ws_length, h1, Nat.add_sub_cancel_left, List.getElem?_append_left (by rw [bys_length]; exact hj), bys_get left j hj]
theorem ocs_setNum (st : List Nat) (left : List UInt8) (n m : Nat) (h1 : st.length = 8) (h2 : left.length = 64) : (ocs st left n).set 72 (.int .i64 (m : Int)) = ocs st left m := by
  unfold ocs
  rw [List.set_append, if_neg (by rw [ws_length, h1]; omega), ws_length, h1, List.set_append, if_neg (by rw [bys_length, h2]; omega), bys_length, h2]
  rfl
theorem ocs_over (st : List Nat) (left p : List UInt8) (n h : Nat) (h1 : st.length = 8) (h2 : left.length = 64) (hh : h + p.length ≤ 64) :
    (ocs st left n).take (8 + h) ++ (bys p ++ (ocs st left n).drop (8 + h + p.length)) = ocs st (over left h p) n := by
  have e1 : (ocs st left n).take (8 + h) = ws st ++ bys (left.take h) := by
    unfold ocs
    rw [List.take_append, List.take_of_length_le (by rw [ws_length, h1]; omega), ws_length, h1, Nat.add_sub_cancel_left, List.take_append_of_le_length (by rw [bys_length, h2]; omega)]
    simp [bys]
  have e2 : (ocs st left n).drop (8 + h + p.length) = bys (left.drop (h + p.length)) ++ [.int .i64 (n : Int)] := by
    unfold ocs
    rw [List.drop_append, List.drop_of_length_le (by rw [ws_length, h1]; omega), ws_length, h1, show 8 + h + p.length - 8 = h + p.length by omega, List.drop_append_of_le_length (by rw [bys_length, h2]; omega)]
    simp [bys]
  rw [e1, e2]
  unfold ocs over
  simp only [bys_append, List.append_assoc]
theorem ocs_state (st st' : List Nat) (left : List UInt8) (n : Nat) (h1 : st.length = 8) : ws st' ++ (ocs st left n).drop 8 = ocs st' left n := by
  unfold ocs
  rw [List.drop_append, List.drop_of_length_le (by rw [ws_length, h1]; omega), ws_length, h1]
  rfl

/-- Cells of a block are written from 0 on. -/
theorem Blk.setCells {g : Nat} {t : TypeId} : ∀ (vs : List Value) (o : Nat) {w : World} {cs : List Value}, Blk w g cs t → o + vs.length ≤ cs.length → Blk (w.setCells g o vs) g (cs.take o ++ (vs ++ cs.drop (o + vs.length))) t
  | [], o, w, cs, h, _ => by
    simp only [List.length_nil, Nat.add_zero, List.nil_append, List.take_append_drop]
    exact h
  | v :: r, o, w, cs, h, hl => by
    have ih := Blk.setCells r (o + 1) (h.set o v) (by simp at hl ⊢; omega)
    have hl' : o < cs.length := by simp at hl; omega
    have e : (cs.set o v).take (o + 1) ++ (r ++ (cs.set o v).drop (o + 1 + r.length)) = cs.take o ++ ((v :: r) ++ cs.drop (o + (v :: r).length)) := by
      rw [List.take_set, List.drop_set, if_pos (by omega), List.take_succ_eq_append_getElem hl', List.set_append, if_neg (by rw [List.length_take]; omega), List.length_take, Nat.min_eq_left (by omega), Nat.sub_self]
      simp [Nat.add_assoc, Nat.add_comm 1]
    rw [e] at ih
    exact ih

section
variable {P : Program} {w : World} {ops : Array Oper} {rest : List Oper} {o : Oper} {a : Act} {Q : Exit → Act → World → Prop}
/-- copy of bytes that are read, from another block, into a block. -/
theorem wpList_copy_blk (hgd : o.guard = none) (d s : Operand) (dT : TypeId) (ho : o.op = .call { callee := .builtin .copy, args := #[d, s], argTypes := #[dT, dT] }) (elem : TypeId) (hu : P.underlying dT = some (.slice elem)) (hsz : (P.info? elem).map (·.size) = some 1)
    (g off dLen dCap : Nat) (sv : Value) (hd : a.eval d = .slice (some ⟨g, off, none⟩) dLen dCap) (hs : a.eval s = sv) (cs : List Value) (t : TypeId) (hb : Blk w g cs t) (B : Nat) (l : List UInt8) (hr : Rd B w sv l)
    (hfit : off + dLen ≤ cs.length)
    (h : ∀ w', Blk w' g (cs.take off ++ (bys (l.take dLen) ++ cs.drop (off + (l.take dLen).length))) t → But g w w' → wpList P ops Q rest (a.put o.dst (.int .i64 ((l.take dLen).length : Int))) w') : wpList P ops Q (o :: rest) a w := by
  obtain ⟨A, c, rfl, hc, hm, hn, hcell⟩ := hr
  have hlt : (l.take dLen).length = Nat.min l.length dLen := by rw [List.length_take]; exact Nat.min_comm _ _
  by_cases h0 : (l.take dLen).length = 0
  · have e : l.take dLen = [] := List.eq_nil_of_length_eq_zero h0
    refine wpList_copy_nothing hgd d s dT dT ho elem hu hsz _ _ dLen dCap l.length c hd hs (by omega) ?_
    have hh := h w (by rw [e]; simpa [bys] using hb) (But.refl _ _)
    rw [h0] at hh
    exact hh
  · obtain ⟨ad, rfl⟩ : ∃ ad, A = some ad := by
      cases A with
      | none => have := hn rfl; rw [List.length_take] at h0; omega
      | some ad => exact ⟨ad, rfl⟩
    have hln : (bys (l.take dLen)).length = (l.take dLen).length := bys_length _
    have hmin : (l.take dLen).length ≤ dLen := by rw [List.length_take]; omega
    refine wpList_copy_own hgd d s dT dT ho elem hu hsz g off dLen dCap ad l.length c hd hs cs.toArray t hb (bys (l.take dLen)) (by rw [hln, hlt]) ?_ (by rw [hln]; simp; omega) (bys_one _) ?_
    · intro j v hv
      obtain ⟨hj, rfl⟩ := bys_at _ j v hv
      rw [(hcell ad rfl).2 j (by rw [List.length_take] at hj; omega)]
      simp
    · rw [hln]
      refine h _ ?_ ((But.refl _ _).setRow _)
      have hs2 := Blk.setRow (cs' := cs.take off ++ (bys (l.take dLen) ++ cs.drop (off + (l.take dLen).length))) hb
      simpa using hs2
/-- The same, what it comes to said by the caller. -/
theorem wpList_copy_to (hgd : o.guard = none) (d s : Operand) (dT : TypeId) (ho : o.op = .call { callee := .builtin .copy, args := #[d, s], argTypes := #[dT, dT] }) (elem : TypeId) (hu : P.underlying dT = some (.slice elem)) (hsz : (P.info? elem).map (·.size) = some 1)
    (g off dLen dCap : Nat) (sv : Value) (hd : a.eval d = .slice (some ⟨g, off, none⟩) dLen dCap) (hs : a.eval s = sv) (cs : List Value) (t : TypeId) (hb : Blk w g cs t) (B : Nat) (l : List UInt8) (hr : Rd B w sv l)
    (hfit : off + dLen ≤ cs.length) (n : Nat) (hn : (l.take dLen).length = n) (cs' : List Value) (hcs : cs.take off ++ (bys (l.take dLen) ++ cs.drop (off + (l.take dLen).length)) = cs')
    (h : ∀ w', Blk w' g cs' t → But g w w' → wpList P ops Q rest (a.put o.dst (.int .i64 (n : Int))) w') : wpList P ops Q (o :: rest) a w := by
  subst hn hcs
  exact wpList_copy_blk hgd d s dT ho elem hu hsz g off dLen dCap sv hd hs cs t hb B l hr hfit h
end
end Go.Proofs.Yteckenlbelgknaa

namespace Go.Proofs.Yteckenlbelgknaa
open Go.RowKit

theorem ret_null {P : Program} {fn : Func} (h : fn.results = #[]) (tmps : Array Value) (w : World) : (results fn tmps).run P w = .ok (.tuple #[]) w := by simp [results, h]
theorem rangeAt_ocs {w : World} {g : Nat} {st : List Nat} {left : List UInt8} {n : Nat} {t : TypeId} (h : Blk w g (ocs st left n) t) : w.rangeAt g 0 (ws st) := fun j v hv => by
  have hj : j < (ws st).length := (List.getElem?_eq_some_iff.1 hv).1
  rw [Nat.zero_add, h.cell]
  unfold ocs
  rw [List.getElem?_append_left hj]
  exact hv

/-- A whole array is read out of the middle of a block. -/
theorem run_load_mid {P : Program} {o : Oper} {a : Act} {w : World} (t : TypeId) (x : Operand) (ho : o.op = .load t x) (g k : Nat) (hx : a.eval x = .pointer (some ⟨g, k, none⟩)) (cs : List Value) (hb : w.rangeAt g k cs)
    (n : Nat) (e : TypeId) (hu : P.underlying t = some (.array n e)) (hi : (P.info? t).map (·.size) = some cs.length) : (execOp a.eval o).run P w = .ok (.value (.agg cs.toArray)) w := by
  unfold execOp
  simp only [ho, hx, Instr.loadAt, Instr.sureAddr, Sem.run_bind, Sem.run_pure, Result.andThen_ok, run_loadVar_mid w g k t cs _ hb hu rfl hi]

/-- The bytes that are left, read where they lie. -/
theorem Rd.left {w : World} {g B : Nat} {st : List Nat} {left : List UInt8} {n : Nat} {t : TypeId} (h : Blk w g (ocs st left n) t) (h1 : st.length = 8) (h2 : left.length = 64) (hg : g < B) (r : Nat) (hr : r ≤ 64) : Rd B w (.slice (some ⟨g, 8, none⟩) r 64) (left.take r) := by
  have hl : (left.take r).length = r := by rw [List.length_take]; omega
  refine ⟨some ⟨g, 8, none⟩, 64, by rw [hl], by omega, by unfold maxLen; omega, fun h => (by cases h), fun a ha => ?_⟩
  cases ha
  refine ⟨fun _ => hg, fun j hj => ?_⟩
  rw [Addr.add_mid, h.cell, ocs_byte st left n j h1 (by omega)]
  simp

end Go.Proofs.Yteckenlbelgknaa

namespace Go.Proofs.Yteckenlbelgknaa
open Go.RowKit

theorem Rd.tail {B : Nat} {w : World} {v : Value} {l : List UInt8} (h : Rd B w v l) : ∃ A c, v = .slice A l.length c := by obtain ⟨A, c, hv, _⟩ := h; exact ⟨A, c, hv⟩

theorem s5 : (Try.prog.info? 5).map (·.size) = some 1 := by kernel_rfl
/-- Bytes that are read are no words of a state. -/
theorem Rd.setState {B g n : Nat} {w : World} {v : Value} {l : List UInt8} {st : List Nat} {left : List UInt8} {t : TypeId} (h : Rd B w v l) (hb : Blk w g (ocs st left n) t) (h8 : st.length = 8) (vs : List Value) (hvs : vs.length = 8) : Rd B (w.setCells g 0 vs) v l := by
  obtain ⟨A, c, hv, hc, hm, hn, hr⟩ := h
  refine ⟨A, c, hv, hc, hm, hn, fun a ha => ⟨(hr a ha).1, fun j hj => ?_⟩⟩
  have hcell := (hr a ha).2 j hj
  rw [World.cell?_setCells_out g vs 0 w (a.add j) (fun hbk hsp => ?_)]
  · exact hcell
  · right
    rcases Nat.lt_or_ge (a.add j).off 8 with h' | h'
    · exfalso
      have e : a.add j = ⟨g, (a.add j).off, none⟩ := by
        cases hx : a.add j with
        | mk b o s => rw [hx] at hbk hsp; simp only at hbk hsp; rw [hbk, hsp]
      rw [e, hb.cell] at hcell
      unfold ocs at hcell
      rw [List.getElem?_append_left (by rw [ws_length, h8]; exact h'), ws_at st _ (by rw [h8]; exact h')] at hcell
      cases hcell
    · rw [hvs]; omega
theorem Blk.there {w : World} {g : Nat} {cs : List Value} {t : TypeId} (h : Blk w g cs t) (n : Nat) (hn : n ≤ cs.length) : w.there g 0 n := fun j hj => by
  rw [Nat.zero_add, h.cell, h.frozen, List.getElem?_eq_getElem (by omega)]
  exact ⟨rfl, rfl⟩
end Go.Proofs.Yteckenlbelgknaa
