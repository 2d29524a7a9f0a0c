/-
  Words for an object of package sha in memory: a block of 73 cells (a state, 64 bytes, a number), and worlds that differ in that block and in new ones alone. Each theorem states its own conditions.
  New, Long and Sum of an object: what an object holds, from every world.
  Write of an object: behind it the object holds the bytes that it held and those that are written; nothing else that was there changes.
-/
import Derived.Test.YtllncnnigjgadaaGreatSX
import Derived.Test.YtllncnnigjgadaaGreatPs
import Derived.Laws.CopyOwn
namespace Go.Proofs.YtllncnnigjgadaaGreat
open Go.RowKit

/-- w' is w but for block g and new blocks. -/
structure But (g : Nat) (w w' : World) : Prop where
  os : w'.os = w.os
  tape : w'.tape = w.tape
  output : w'.output = w.output
  size : w.heap.size ≤ w'.heap.size
  block : ∀ k, k < w.heap.size → k ≠ g → w'.heap[k]? = w.heap[k]?

theorem But.refl (g : Nat) (w : World) : But g w w := ⟨rfl, rfl, rfl, Nat.le_refl _, fun _ _ _ => rfl⟩
theorem But.trans {g : Nat} {a b c : World} (h : But g a b) (k : But g b c) : But g a c :=
  ⟨k.os.trans h.os, k.tape.trans h.tape, k.output.trans h.output, Nat.le_trans h.size k.size, fun i hi hg => (k.block i (Nat.lt_of_lt_of_le hi h.size) hg).trans (h.block i hi hg)⟩
theorem But.of {g B : Nat} {w w' : World} (h : Below B w w') (hB : w.heap.size ≤ B) : But g w w' := ⟨h.os, h.tape, h.output, h.size, fun k hk _ => h.block k (by omega)⟩
theorem But.drew {g : Nat} {a w : World} (h : But g a w) : But g a w.drew := ⟨h.os, h.tape, h.output, h.size, h.block⟩
theorem But.setRow {g : Nat} {a w : World} (h : But g a w) (cs : Array Value) : But g a (w.setRow g cs) :=
  h.trans ⟨rfl, rfl, rfl, by simp, fun k _ hg => setRow_other w g k cs hg⟩
theorem But.setCell {g : Nat} {a w : World} (h : But g a w) (o : Nat) (v : Value) : But g a (w.setCell ⟨g, o, none⟩ v) :=
  h.trans ⟨rfl, rfl, rfl, by simp [World.setCell], fun k _ hg => Below.heap_setCell _ _ _ _ hg⟩
theorem But.setCells {g : Nat} : ∀ (vs : List Value) (o : Nat) {a w : World}, But g a w → But g a (w.setCells g o vs)
  | [], _, _, _, h => h
  | v :: r, o, _, _, h => But.setCells r (o + 1) (h.setCell o v)
theorem But.below {g B : Nat} {w w' : World} (h : But g w w') (hB : B ≤ g) (hs : B ≤ w.heap.size) : Below B w w' := ⟨h.os, h.tape, h.output, h.size, fun k hk => h.block k (by omega) (by omega)⟩
theorem But.blk {g k : Nat} {w w' : World} {cs : List Value} {t : TypeId} (h : But g w w') (hb : Blk w k cs t) (hk : k ≠ g) : Blk w' k cs t := by
  unfold Blk; rw [h.block k hb.lt hk]; exact hb
theorem But.cell {g : Nat} {w w' : World} (h : But g w w') {p : Addr} (hp : p.block < w.heap.size) (hg : p.block ≠ g) : w'.cell? p = w.cell? p := World.cell?_of_block (w := w) (h.block p.block hp hg)

/-- The slice's bytes do not lie in block g. -/
def Apart (g : Nat) (v : Value) : Prop := ∀ a n c, v = .slice (some a) n c → 0 < n → a.block ≠ g
theorem Rd.but {g : Nat} {w w' : World} {v : Value} {l : List UInt8} (h : Rd w.heap.size w v l) (hap : Apart g v) (hb : But g w w') : Rd w'.heap.size w' v l := by
  obtain ⟨A, c, rfl, hc, hm, hn, hr⟩ := h
  refine ⟨A, c, rfl, hc, hm, hn, fun a ha => ⟨fun h0 => Nat.lt_of_lt_of_le ((hr a ha).1 h0) hb.size, fun j hj => ?_⟩⟩
  subst ha
  have h0 : 0 < l.length := by omega
  rw [hb.cell (by rw [addr_block]; exact (hr a rfl).1 h0) (by rw [addr_block]; exact hap a _ _ rfl h0)]
  exact (hr a rfl).2 j hj
theorem Own.but {g base : Nat} {e : TypeId} {w w' : World} {v : Value} {l : List UInt8} (h : Own e w base v l) (hb : But g w w') (hg : g < base) : Own e w' base v l := by
  refine ⟨h.1, ?_⟩
  rcases h.2 with hn | ⟨k, cap, cur, rfl, hk0, hk, r⟩
  · exact .inl hn
  · have hlt : k < w.heap.size := (Array.getElem?_eq_some_iff.1 hk).1
    exact .inr ⟨k, cap, cur, rfl, hk0, by rw [hb.block k hlt (by omega)]; exact hk, r⟩

/-- The cells of an object. -/
def ocs (st : List Nat) (left : List UInt8) (n : Nat) : List Value := ws st ++ (bys left ++ [.int .i64 (n : Int)])
theorem ocs_length (st : List Nat) (left : List UInt8) (n : Nat) (h1 : st.length = 8) (h2 : left.length = 64) : (ocs st left n).length = 73 := by simp [ocs, ws_length, bys_length, h1, h2]
theorem ocs_num (st : List Nat) (left : List UInt8) (n : Nat) (h1 : st.length = 8) (h2 : left.length = 64) : (ocs st left n)[72]? = some (.int .i64 (n : Int)) := by
  unfold ocs
  rw [List.getElem?_append_right (by rw [ws_length, h1]; omega), ws_length, h1, List.getElem?_append_right (by rw [bys_length, h2]; omega), bys_length, h2]
  rfl
theorem ocs_byte (st : List Nat) (left : List UInt8) (n j : Nat) (h1 : st.length = 8) (hj : j < left.length) : (ocs st left n)[8 + j]? = some (.int .u8 (left[j].toNat : Int)) := by
  unfold ocs
  rw [List.getElem?_append_right (by rw [ws_length, h1]; omega), ws_length, h1, Nat.add_sub_cancel_left, List.getElem?_append_left (by rw [bys_length]; exact hj), bys_get left j hj]
theorem ocs_setNum (st : List Nat) (left : List UInt8) (n m : Nat) (h1 : st.length = 8) (h2 : left.length = 64) : (ocs st left n).set 72 (.int .i64 (m : Int)) = ocs st left m := by
  unfold ocs
  rw [List.set_append, if_neg (by rw [ws_length, h1]; omega), ws_length, h1, List.set_append, if_neg (by rw [bys_length, h2]; omega), bys_length, h2]
  rfl
theorem ocs_over (st : List Nat) (left p : List UInt8) (n h : Nat) (h1 : st.length = 8) (h2 : left.length = 64) (hh : h + p.length ≤ 64) :
    (ocs st left n).take (8 + h) ++ (bys p ++ (ocs st left n).drop (8 + h + p.length)) = ocs st (over left h p) n := by
  have e1 : (ocs st left n).take (8 + h) = ws st ++ bys (left.take h) := by
    unfold ocs
    rw [List.take_append, List.take_of_length_le (by rw [ws_length, h1]; omega), ws_length, h1, Nat.add_sub_cancel_left, List.take_append_of_le_length (by rw [bys_length, h2]; omega)]
    simp [bys]
  have e2 : (ocs st left n).drop (8 + h + p.length) = bys (left.drop (h + p.length)) ++ [.int .i64 (n : Int)] := by
    unfold ocs
    rw [List.drop_append, List.drop_of_length_le (by rw [ws_length, h1]; omega), ws_length, h1, show 8 + h + p.length - 8 = h + p.length by omega, List.drop_append_of_le_length (by rw [bys_length, h2]; omega)]
    simp [bys]
  rw [e1, e2]
  unfold ocs over
  simp only [bys_append, List.append_assoc]
theorem ocs_state (st st' : List Nat) (left : List UInt8) (n : Nat) (h1 : st.length = 8) : ws st' ++ (ocs st left n).drop 8 = ocs st' left n := by
  unfold ocs
  rw [List.drop_append, List.drop_of_length_le (by rw [ws_length, h1]; omega), ws_length, h1]
  rfl

/-- Cells of a block are written from 0 on. -/
theorem Blk.setCells {g : Nat} {t : TypeId} : ∀ (vs : List Value) (o : Nat) {w : World} {cs : List Value}, Blk w g cs t → o + vs.length ≤ cs.length → Blk (w.setCells g o vs) g (cs.take o ++ (vs ++ cs.drop (o + vs.length))) t
  | [], o, w, cs, h, _ => by
    simp only [List.length_nil, Nat.add_zero, List.nil_append, List.take_append_drop]
    exact h
  | v :: r, o, w, cs, h, hl => by
    have ih := Blk.setCells r (o + 1) (h.set o v) (by simp at hl ⊢; omega)
    have hl' : o < cs.length := by simp at hl; omega
    have e : (cs.set o v).take (o + 1) ++ (r ++ (cs.set o v).drop (o + 1 + r.length)) = cs.take o ++ ((v :: r) ++ cs.drop (o + (v :: r).length)) := by
      rw [List.take_set, List.drop_set, if_pos (by omega), List.take_succ_eq_append_getElem hl', List.set_append, if_neg (by rw [List.length_take]; omega), List.length_take, Nat.min_eq_left (by omega), Nat.sub_self]
      simp [Nat.add_assoc, Nat.add_comm 1]
    rw [e] at ih
    exact ih

/-- The object at block g holds the bytes bs. -/
def Obj (w : World) (g : Nat) (bs : List UInt8) : Prop := ∃ st left, Blk w g (ocs st left bs.length) 167 ∧ Holds st left bs

section
variable {P : Program} {w : World} {ops : Array Oper} {rest : List Oper} {o : Oper} {a : Act} {Q : Exit → Act → World → Prop}
/-- copy of bytes that are read, from another block, into a block. -/
theorem wpList_copy_blk (hgd : o.guard = none) (d s : Operand) (dT : TypeId) (ho : o.op = .call { callee := .builtin .copy, args := #[d, s], argTypes := #[dT, dT] }) (elem : TypeId) (hu : P.underlying dT = some (.slice elem)) (hsz : (P.info? elem).map (·.size) = some 1)
    (g off dLen dCap : Nat) (sv : Value) (hd : a.eval d = .slice (some ⟨g, off, none⟩) dLen dCap) (hs : a.eval s = sv) (cs : List Value) (t : TypeId) (hb : Blk w g cs t) (B : Nat) (l : List UInt8) (hr : Rd B w sv l)
    (hfit : off + dLen ≤ cs.length)
    (h : ∀ w', Blk w' g (cs.take off ++ (bys (l.take dLen) ++ cs.drop (off + (l.take dLen).length))) t → But g w w' → wpList P ops Q rest (a.put o.dst (.int .i64 ((l.take dLen).length : Int))) w') : wpList P ops Q (o :: rest) a w := by
  obtain ⟨A, c, rfl, hc, hm, hn, hcell⟩ := hr
  have hlt : (l.take dLen).length = Nat.min l.length dLen := by rw [List.length_take]; exact Nat.min_comm _ _
  by_cases h0 : (l.take dLen).length = 0
  · have e : l.take dLen = [] := List.eq_nil_of_length_eq_zero h0
    refine wpList_copy_nothing hgd d s dT dT ho elem hu hsz _ _ dLen dCap l.length c hd hs (by omega) ?_
    have hh := h w (by rw [e]; simpa [bys] using hb) (But.refl _ _)
    rw [h0] at hh
    exact hh
  · obtain ⟨ad, rfl⟩ : ∃ ad, A = some ad := by
      cases A with
      | none => have := hn rfl; rw [List.length_take] at h0; omega
      | some ad => exact ⟨ad, rfl⟩
    have hln : (bys (l.take dLen)).length = (l.take dLen).length := bys_length _
    have hmin : (l.take dLen).length ≤ dLen := by rw [List.length_take]; omega
    refine wpList_copy_own hgd d s dT dT ho elem hu hsz g off dLen dCap ad l.length c hd hs cs.toArray t hb (bys (l.take dLen)) (by rw [hln, hlt]) ?_ (by rw [hln]; simp; omega) (bys_one _) ?_
    · intro j v hv
      obtain ⟨hj, rfl⟩ := bys_at _ j v hv
      rw [(hcell ad rfl).2 j (by rw [List.length_take] at hj; omega)]
      simp
    · rw [hln]
      refine h _ ?_ ((But.refl _ _).setRow _)
      have hs2 := Blk.setRow (cs' := cs.take off ++ (bys (l.take dLen) ++ cs.drop (off + (l.take dLen).length))) hb
      simpa using hs2
/-- The same, what it comes to said by the caller. -/
theorem wpList_copy_to (hgd : o.guard = none) (d s : Operand) (dT : TypeId) (ho : o.op = .call { callee := .builtin .copy, args := #[d, s], argTypes := #[dT, dT] }) (elem : TypeId) (hu : P.underlying dT = some (.slice elem)) (hsz : (P.info? elem).map (·.size) = some 1)
    (g off dLen dCap : Nat) (sv : Value) (hd : a.eval d = .slice (some ⟨g, off, none⟩) dLen dCap) (hs : a.eval s = sv) (cs : List Value) (t : TypeId) (hb : Blk w g cs t) (B : Nat) (l : List UInt8) (hr : Rd B w sv l)
    (hfit : off + dLen ≤ cs.length) (n : Nat) (hn : (l.take dLen).length = n) (cs' : List Value) (hcs : cs.take off ++ (bys (l.take dLen) ++ cs.drop (off + (l.take dLen).length)) = cs')
    (h : ∀ w', Blk w' g cs' t → But g w w' → wpList P ops Q rest (a.put o.dst (.int .i64 (n : Int))) w') : wpList P ops Q (o :: rest) a w := by
  subst hn hcs
  exact wpList_copy_blk hgd d s dT ho elem hu hsz g off dLen dCap sv hd hs cs t hb B l hr hfit h
end
end Go.Proofs.YtllncnnigjgadaaGreat

namespace Go.Proofs.YtllncnnigjgadaaGreat
open Go.RowKit

theorem ret_null {P : Program} {fn : Func} (h : fn.results = #[]) (tmps : Array Value) (w : World) : (results fn tmps).run P w = .ok (.tuple #[]) w := by simp [results, h]
theorem u61 : (Tryz.prog.info? 167).map (·.size) = some 73 := by kernel_rfl

set_option maxHeartbeats 400000 in
theorem new_any (w : World) : Calls Tryz.prog 116 #[] w fun e w' => e = .returned (.pointer (some ⟨w'.heap.size - 1, 0, none⟩)) ∧ w.heap.size < w'.heap.size ∧ Obj w' (w'.heap.size - 1) [] ∧ Below w.heap.size w w' := by
  go_enter Tryz.func116, Tryz.ntmps116
  go_wp2_with fail
  refine (initial_any _).mono ?_
  rintro e w1 ⟨rfl, hb1⟩
  have B1 := Lib.hid hb1
  clear hb1
  go_wp2_with (first | (refine wpList_buildTo rfl 167 _ rfl (some 2) rfl (ocs iv (List.replicate 64 0) 0).toArray (by kernel_rfl) ?_) | (refine wpList_box_blk rfl 167 _ rfl (ocs iv (List.replicate 64 0) 0) rfl ?_))
  intro w2 a1 a2 a3
  have A1 := Lib.hid a1
  have A2 := Lib.hid a2
  have A3 := Lib.hid a3
  clear a1 a2 a3
  go_wp2
  go_ret
  have h2 := A2.out
  have hs1 := B1.out.size
  have e1 : w2.heap.size - 1 = w1.heap.size := by omega
  refine ⟨by rw [e1]; rfl, by omega, ?_, B1.out.trans (A3.out.mono hs1)⟩
  rw [e1]
  exact ⟨iv, List.replicate 64 0, A1.out, Holds.new⟩

theorem rangeAt_ocs {w : World} {g : Nat} {st : List Nat} {left : List UInt8} {n : Nat} {t : TypeId} (h : Blk w g (ocs st left n) t) : w.rangeAt g 0 (ws st) := fun j v hv => by
  have hj : j < (ws st).length := (List.getElem?_eq_some_iff.1 hv).1
  rw [Nat.zero_add, h.cell]
  unfold ocs
  rw [List.getElem?_append_left hj]
  exact hv

/-- A whole array is read out of the middle of a block. -/
theorem run_load_mid {P : Program} {o : Oper} {a : Act} {w : World} (t : TypeId) (x : Operand) (ho : o.op = .load t x) (g k : Nat) (hx : a.eval x = .pointer (some ⟨g, k, none⟩)) (cs : List Value) (hb : w.rangeAt g k cs)
    (n : Nat) (e : TypeId) (hu : P.underlying t = some (.array n e)) (hi : (P.info? t).map (·.size) = some cs.length) : (execOp a.eval o).run P w = .ok (.value (.agg cs.toArray)) w := by
  unfold execOp
  simp only [ho, hx, Instr.loadAt, Instr.sureAddr, Sem.run_bind, Sem.run_pure, Result.andThen_ok, run_loadVar_mid w g k t cs _ hb hu rfl hi]

/-- The bytes that are left, read where they lie. -/
theorem Rd.left {w : World} {g B : Nat} {st : List Nat} {left : List UInt8} {n : Nat} {t : TypeId} (h : Blk w g (ocs st left n) t) (h1 : st.length = 8) (h2 : left.length = 64) (hg : g < B) (r : Nat) (hr : r ≤ 64) : Rd B w (.slice (some ⟨g, 8, none⟩) r 64) (left.take r) := by
  have hl : (left.take r).length = r := by rw [List.length_take]; omega
  refine ⟨some ⟨g, 8, none⟩, 64, by rw [hl], by omega, by unfold maxLen; omega, fun h => (by cases h), fun a ha => ?_⟩
  cases ha
  refine ⟨fun _ => hg, fun j hj => ?_⟩
  rw [Addr.add_mid, h.cell, ocs_byte st left n j h1 (by omega)]
  simp

set_option maxHeartbeats 1000000 in
set_option maxRecDepth 100000 in
theorem sumS_any (g : Nat) (bs : List UInt8) (w : World) (h : Obj w g bs) (hl : bs.length ≤ 1000000) : Calls Tryz.prog 118 #[.pointer (some ⟨g, 0, none⟩)] w (Arr (bys (hash bs)) w) := by
  obtain ⟨st, left, hb, hh⟩ := h
  have hglt := hb.lt
  have HB := Lib.hid hb
  have HH := Lib.hid hh
  clear hb hh
  go_enter Tryz.func118, Tryz.ntmps118
  go_wp2_with (refine wpList_alloc_blk rfl 30 rfl _ z24 ?_)
  intro w1 a1 a2 a3
  have A1 := Lib.hid a1
  have A2 := Lib.hid a2
  have A3 := Lib.hid a3
  clear a1 a2 a3
  have G0 : Hid (Blk w1 g (ocs st left bs.length) 167) := HB.out.below A3.out hglt
  have hs1 := A2.out
  have H33 : Hid ((Tryz.prog.info? 146).map (·.size) = some (ws st).length) := by show _ = _; rw [ws_length, HH.out.st8]; exact s33
  obtain ⟨r, hr⟩ : ∃ r, bs.length % 64 = r := ⟨_, rfl⟩
  obtain ⟨n, hn⟩ : ∃ n, bs.length = n := ⟨_, rfl⟩
  have e1 : (n : Int).tmod 64 = (r : Int) := by rw [Int.tmod_eq_emod_of_nonneg (by omega)]; omega
  have z1 : ¬ (64 : Int) < (r : Int) := by omega
  have HR := Lib.hid hr
  have HN := Lib.hid hn
  have hr64 : r < 64 := by omega
  have hnl : n ≤ 1000000 := by omega
  rw [hn] at G0
  clear hr hn
  go_wp2
  refine wp_region_till 19 18 (fun w' => Below w1.heap.size w1 w') (by kernel_rfl) rfl ?_
  have hS : Below w1.heap.size w1 w1.drew := (Below.refl _ _).drew
  refine AnyTill.free (i := 0) (v := .pointer (some ⟨g, 0, none⟩)) rfl (by kernel_rfl) (by kernel_rfl) (by kernel_rfl) (by kernel_rfl) (fun _ _ _ h => h) (by rfl) (fun w' => ?_) hS ?_
  · first | (go_simp; done) | (go_simp; rfl)
  simp only [Act.put, List.setIfInBounds_toArray, List.set_cons_zero, List.set_cons_succ]
  refine AnyTill.free (i := 1) (v := .pointer (some ⟨g, 0, none⟩)) rfl (by kernel_rfl) (by kernel_rfl) (by kernel_rfl) (by kernel_rfl) (fun _ _ _ h => h) (by rfl) (fun w' => ?_) hS ?_
  · first | (go_simp; done) | (go_simp; rfl)
  simp only [Act.put, List.setIfInBounds_toArray, List.set_cons_zero, List.set_cons_succ]
  refine AnyTill.free (i := 2) (v := .pointer (some ⟨g, 0, none⟩)) rfl (by kernel_rfl) (by kernel_rfl) (by kernel_rfl) (by kernel_rfl) (fun _ _ _ h => h) (by rfl) (fun w' => ?_) hS ?_
  · first | (go_simp; done) | (go_simp; rfl)
  simp only [Act.put, List.setIfInBounds_toArray, List.set_cons_zero, List.set_cons_succ]
  have hg1 : g < w1.heap.size := by omega
  refine AnyTill.take (i := 3) (v := .agg (ws st).toArray) rfl (by kernel_rfl) (by kernel_rfl) (by kernel_rfl) (by kernel_rfl) (fun _ _ _ h => h) (by rfl) (fun w' hw' => ?_) hS ?_
  · exact run_load_mid 146 _ rfl g 0 rfl (ws st) (rangeAt_ocs (G0.out.below hw' hg1)) 8 60 tu33 H33.out
  simp only [Act.put, List.setIfInBounds_toArray, List.set_cons_zero, List.set_cons_succ]
  refine AnyTill.free (i := 4) (v := .pointer (some ⟨g, 0, none⟩)) rfl (by kernel_rfl) (by kernel_rfl) (by kernel_rfl) (by kernel_rfl) (fun _ _ _ h => h) (by rfl) (fun w' => ?_) hS ?_
  · first | (go_simp; done) | (go_simp; rfl)
  simp only [Act.put, List.setIfInBounds_toArray, List.set_cons_zero, List.set_cons_succ]
  refine AnyTill.free (i := 5) (v := .pointer (some ⟨g, 0, none⟩)) rfl (by kernel_rfl) (by kernel_rfl) (by kernel_rfl) (by kernel_rfl) (fun _ _ _ h => h) (by rfl) (fun w' => ?_) hS ?_
  · first | (go_simp; done) | (go_simp; rfl)
  simp only [Act.put, List.setIfInBounds_toArray, List.set_cons_zero, List.set_cons_succ]
  refine AnyTill.free (i := 6) (v := .pointer (some ⟨g, 8, none⟩)) rfl (by kernel_rfl) (by kernel_rfl) (by kernel_rfl) (by kernel_rfl) (fun _ _ _ h => h) (by rfl) (fun w' => ?_) hS ?_
  · first | (go_simp; done) | (go_simp; rfl)
  simp only [Act.put, List.setIfInBounds_toArray, List.set_cons_zero, List.set_cons_succ]
  refine AnyTill.free (i := 7) (v := .pointer (some ⟨g, 0, none⟩)) rfl (by kernel_rfl) (by kernel_rfl) (by kernel_rfl) (by kernel_rfl) (fun _ _ _ h => h) (by rfl) (fun w' => ?_) hS ?_
  · first | (go_simp; done) | (go_simp; rfl)
  simp only [Act.put, List.setIfInBounds_toArray, List.set_cons_zero, List.set_cons_succ]
  refine AnyTill.free (i := 8) (v := .pointer (some ⟨g, 0, none⟩)) rfl (by kernel_rfl) (by kernel_rfl) (by kernel_rfl) (by kernel_rfl) (fun _ _ _ h => h) (by rfl) (fun w' => ?_) hS ?_
  · first | (go_simp; done) | (go_simp; rfl)
  simp only [Act.put, List.setIfInBounds_toArray, List.set_cons_zero, List.set_cons_succ]
  refine AnyTill.free (i := 9) (v := .pointer (some ⟨g, 72, none⟩)) rfl (by kernel_rfl) (by kernel_rfl) (by kernel_rfl) (by kernel_rfl) (fun _ _ _ h => h) (by rfl) (fun w' => ?_) hS ?_
  · first | (go_simp; done) | (go_simp; rfl)
  simp only [Act.put, List.setIfInBounds_toArray, List.set_cons_zero, List.set_cons_succ]
  refine AnyTill.take (i := 10) (v := .int .i64 (n : Int)) rfl (by kernel_rfl) (by kernel_rfl) (by kernel_rfl) (by kernel_rfl) (fun _ _ _ h => h) (by rfl) (fun w' hw' => ?_) hS ?_
  · have c := ((G0.out.below hw' hg1).cell 72).trans (ocs_num st left n HH.out.st8 HH.out.1); first | (go_simp; done) | (go_simp; rfl)
  simp only [Act.put, List.setIfInBounds_toArray, List.set_cons_zero, List.set_cons_succ]
  refine AnyTill.free (i := 11) (v := .int .i64 (r : Int)) rfl (by kernel_rfl) (by kernel_rfl) (by kernel_rfl) (by kernel_rfl) (fun _ _ _ h => h) (by rfl) (fun w' => ?_) hS ?_
  · first | (go_simp; done) | (go_simp; rfl)
  simp only [Act.put, List.setIfInBounds_toArray, List.set_cons_zero, List.set_cons_succ]
  refine AnyTill.free (i := 12) (v := .slice (some ⟨g, 8, none⟩) r 64) rfl (by kernel_rfl) (by kernel_rfl) (by kernel_rfl) (by kernel_rfl) (fun _ _ _ h => h) (by rfl) (fun w' => ?_) hS ?_
  · first | (go_simp; done) | (go_simp; rfl)
  simp only [Act.put, List.setIfInBounds_toArray, List.set_cons_zero, List.set_cons_succ]
  refine AnyTill.free (i := 13) (v := .pointer (some ⟨g, 0, none⟩)) rfl (by kernel_rfl) (by kernel_rfl) (by kernel_rfl) (by kernel_rfl) (fun _ _ _ h => h) (by rfl) (fun w' => ?_) hS ?_
  · first | (go_simp; done) | (go_simp; rfl)
  simp only [Act.put, List.setIfInBounds_toArray, List.set_cons_zero, List.set_cons_succ]
  refine AnyTill.free (i := 14) (v := .pointer (some ⟨g, 0, none⟩)) rfl (by kernel_rfl) (by kernel_rfl) (by kernel_rfl) (by kernel_rfl) (fun _ _ _ h => h) (by rfl) (fun w' => ?_) hS ?_
  · first | (go_simp; done) | (go_simp; rfl)
  simp only [Act.put, List.setIfInBounds_toArray, List.set_cons_zero, List.set_cons_succ]
  refine AnyTill.free (i := 15) (v := .pointer (some ⟨g, 72, none⟩)) rfl (by kernel_rfl) (by kernel_rfl) (by kernel_rfl) (by kernel_rfl) (fun _ _ _ h => h) (by rfl) (fun w' => ?_) hS ?_
  · first | (go_simp; done) | (go_simp; rfl)
  simp only [Act.put, List.setIfInBounds_toArray, List.set_cons_zero, List.set_cons_succ]
  refine AnyTill.take (i := 16) (v := .int .i64 (n : Int)) rfl (by kernel_rfl) (by kernel_rfl) (by kernel_rfl) (by kernel_rfl) (fun _ _ _ h => h) (by rfl) (fun w' hw' => ?_) hS ?_
  · have c := ((G0.out.below hw' hg1).cell 72).trans (ocs_num st left n HH.out.st8 HH.out.1); first | (go_simp; done) | (go_simp; rfl)
  simp only [Act.put, List.setIfInBounds_toArray, List.set_cons_zero, List.set_cons_succ]
  refine AnyTill.one (i := 17) (by kernel_rfl) rfl (by rfl) (fun K hK => ?_)
  go_simp
  refine (finish_any st _ (left.take r) n _ HH.out.st8 HH.out.st32 (Rd.left (Blk.drew G0.out) HH.out.st8 HH.out.1 (by simpa using hg1) r (by omega)) (by rw [List.length_take, HH.out.1]; omega) (by omega)).mono ?_
  rintro e w3 ⟨rfl, hb3⟩
  have hS3 : Below w1.heap.size w1 w3 := hS.trans hb3
  refine hK.out _ _ (.inr hS3) ?_
  clear hK K
  have hhash : joinl (chain st (((left.take r).length + (padl n).length) / 64) (left.take r ++ padl n)) = hash bs := by
    have hp := hash_parts bs (bs.length / 64) (by omega)
    obtain ⟨h1, h2, h3⟩ := HH.out
    rw [HR.out] at h3
    rw [hp, ← h2, ← h3, HN.out]
    congr 3
    rw [List.length_take, h1]
    have := HR.out
    have := HN.out
    omega
  rw [hhash]
  have h24 : (Tryz.prog.info? 30).map (·.size) = some (bys (hash bs)).length := by rw [bys_length, hash_length]; exact s24
  have hlz : z32.length = (bys (hash bs)).length := by rw [bys_length, hash_length, z32_length]
  refine AnyTill.one (i := 18) (by kernel_rfl) rfl (by rfl) (fun K hK => ?_)
  refine wp_store_blk 30 _ _ rfl w.heap.size (bys (hash bs)) z32 30 rfl rfl (A1.out.below hS3 (by omega)) h24 hlz (bys_one' _) ?_
  refine hK.out _ _ (.inl (by kernel_rfl)) ?_
  clear hK K
  refine AnyTill.done (by kernel_rfl) ?_
  refine NoPanic.normal ?_
  simp only [Act.put]
  have L0 : Hid (Blk (w3.setRow w.heap.size (bys (hash bs)).toArray) w.heap.size (bys (hash bs)) 30) := (A1.out.below hS3 (by omega)).setRow
  have LB : Hid (Below w.heap.size w (w3.setRow w.heap.size (bys (hash bs)).toArray)) := below_setRow' (A3.out.trans (hS3.mono (by omega))) (Nat.le_refl _) _
  generalize w3.setRow w.heap.size (bys (hash bs)).toArray = w4 at L0 LB ⊢
  have H24 := Lib.hid h24
  clear hS hS3 hb3 hhash h24 hlz e1 z1
  go_wp2
  refine bodyPost_ret (v := .agg (bys (hash bs)).toArray) ?_ rfl ?_
  · exact ret_blk rfl _ _ w.heap.size 30 _ rfl L0.out 32 5 tu24 H24.out
  · exact ⟨rfl, LB.out⟩
end Go.Proofs.YtllncnnigjgadaaGreat

namespace Go.Proofs.YtllncnnigjgadaaGreat
open Go.RowKit

/-- What Write leaves. -/
def Wrote (g : Nat) (bs : List UInt8) (w : World) (e : Ending) (w' : World) : Prop := e = .returned (.tuple #[]) ∧ Obj w' g bs ∧ But g w w'

theorem Obj.lt {w : World} {g : Nat} {bs : List UInt8} (h : Obj w g bs) : g < w.heap.size := by obtain ⟨st, left, hb, _⟩ := h; exact hb.lt
theorem tu59 : Tryz.prog.underlying 165 = some (.array 64 5) := by kernel_rfl
theorem s5 : (Tryz.prog.info? 5).map (·.size) = some 1 := by kernel_rfl
/-- What is left from place k on. -/
theorem run_sliceFrom (g k : Nat) (hk : k < 64) (w : World) : (Instr.sliceAt 165 (.pointer (some ⟨g, 8, none⟩)) (some (.int .i64 (k : Int))) none none).run Tryz.prog w = .ok (.slice (some ⟨g, 8 + k, none⟩) (64 - k) (64 - k)) w := by
  have h2 : k ≤ 64 := by omega
  have h3 : ¬ 64 = k := by omega
  simp [Instr.sliceAt, run_underlying tu59, Instr.sureAddr, Instr.sliceBounds, Instr.sliceBound, asIntOf, h2, Sem.run_bind, Result.andThen, h3, Addr.add_mid]

/-- Bytes that are read are no words of a state. -/
theorem Rd.setState {B g n : Nat} {w : World} {v : Value} {l : List UInt8} {st : List Nat} {left : List UInt8} {t : TypeId} (h : Rd B w v l) (hb : Blk w g (ocs st left n) t) (h8 : st.length = 8) (vs : List Value) (hvs : vs.length = 8) : Rd B (w.setCells g 0 vs) v l := by
  obtain ⟨A, c, hv, hc, hm, hn, hr⟩ := h
  refine ⟨A, c, hv, hc, hm, hn, fun a ha => ⟨(hr a ha).1, fun j hj => ?_⟩⟩
  have hcell := (hr a ha).2 j hj
  rw [World.cell?_setCells_out g vs 0 w (a.add j) (fun hbk hsp => ?_)]
  · exact hcell
  · right
    rcases Nat.lt_or_ge (a.add j).off 8 with h' | h'
    · exfalso
      have e : a.add j = ⟨g, (a.add j).off, none⟩ := by
        cases hx : a.add j with
        | mk b o s => rw [hx] at hbk hsp; simp only at hbk hsp; rw [hbk, hsp]
      rw [e, hb.cell] at hcell
      unfold ocs at hcell
      rw [List.getElem?_append_left (by rw [ws_length, h8]; exact h'), ws_at st _ (by rw [h8]; exact h')] at hcell
      cases hcell
    · rw [hvs]; omega
theorem Blk.there {w : World} {g : Nat} {cs : List Value} {t : TypeId} (h : Blk w g cs t) (n : Nat) (hn : n ≤ cs.length) : w.there g 0 n := fun j hj => by
  rw [Nat.zero_add, h.cell, h.frozen, List.getElem?_eq_getElem (by omega)]
  exact ⟨rfl, rfl⟩
/-- A new state is laid into the object. -/
theorem wp_store_state {o : Oper} {a : Act} {w : World} {K : Act → World → Prop} {Q : Exit → Act → World → Prop} (x y : Operand) (ho : o.op = .store 146 x y) (g n : Nat) (st st' : List Nat) (left : List UInt8) (hx : a.eval x = .pointer (some ⟨g, 0, none⟩)) (hy : a.eval y = .agg (ws st').toArray)
    (hb : Blk w g (ocs st left n) 167) (h8 : st.length = 8) (h8' : st'.length = 8) (h64 : left.length = 64)
    (h : Blk (w.setCells g 0 (ws st')) g (ocs st' left n) 167 → K (a.put o.dst undef) (w.setCells g 0 (ws st'))) : o.wp Tryz.prog a w K Q := by
  have hl : (ws st').length = 8 := by rw [ws_length, h8']
  refine wp_store_mid 146 x y ho g 0 (ws st').toArray hx hy (by simpa [hl] using hb.there 8 (by rw [ocs_length _ _ _ h8 h64]; omega)) (by simpa [hl] using s33) (ws_one _) ?_
  have hs := Blk.setCells (ws st') 0 hb (by rw [hl, ocs_length _ _ _ h8 h64]; omega)
  rw [hl] at hs
  simp only [List.take_zero, List.nil_append, Nat.zero_add] at hs
  rw [ocs_state st st' left n h8] at hs
  simpa using h hs

set_option maxHeartbeats 2000000 in
set_option maxRecDepth 100000 in
theorem write_any (g : Nat) (bs : List UInt8) (v : Value) (l : List UInt8) (w : World) (h : Obj w g bs) (hr : Rd w.heap.size w v l) (hap : Apart g v) (hlen : bs.length + l.length ≤ 1000000) :
    Calls Tryz.prog 117 #[.pointer (some ⟨g, 0, none⟩), v] w (Wrote g (bs ++ l) w) := by
  obtain ⟨st, left, hb, hh⟩ := h
  have hglt := hb.lt
  have HR := Lib.hid hr
  have HAP := Lib.hid hap
  obtain ⟨A, c, rfl, hc, hm, hn, hcell⟩ := hr
  have h8 := hh.st8
  have hl64 := hh.1
  have hcell72 := (hb.cell 72).trans (ocs_num st left bs.length h8 hl64)
  have hfr := hb.frozen 72
  obtain ⟨n, hnn⟩ : ∃ n, bs.length = n := ⟨_, rfl⟩
  obtain ⟨k, hk⟩ : ∃ k, n % 64 = k := ⟨_, rfl⟩
  have hk64 : k < 64 := by omega
  have eK : (n : Int) % 64 = (k : Int) := by omega
  have HB := Lib.hid hb
  have HH := Lib.hid hh
  have HNN := Lib.hid hnn
  have HKK := Lib.hid hk
  have H8 := Lib.hid h8
  have H64 := Lib.hid hl64
  rw [hnn] at hcell72 hlen
  have hkne : ¬ (64 : Nat) = k := by omega
  clear hb hh hcell hn hnn hk hap h8 hl64
  unfold maxLen at hm
  have hsl := run_sliceFrom g k hk64 (w.setCell ⟨g, 72, none⟩ (.int .i64 ((n : Int) + (l.length : Int))))
  have K1 : Hid (Blk (w.setCell ⟨g, 72, none⟩ (.int .i64 ((n : Int) + (l.length : Int)))) g (ocs st left (n + l.length)) 167) := by
    have h := HB.out.set 72 (.int .i64 ((n + l.length : Nat) : Int))
    rw [ocs_setNum st left _ _ H8.out H64.out] at h
    have e : ((n + l.length : Nat) : Int) = (n : Int) + (l.length : Int) := by omega
    rw [e] at h
    exact h
  have B1 : Hid (But g w (w.setCell ⟨g, 72, none⟩ (.int .i64 ((n : Int) + (l.length : Int))))) := (But.refl _ _).setCell _ _
  have R1 : Hid (Rd (w.setCell ⟨g, 72, none⟩ (.int .i64 ((n : Int) + (l.length : Int)))).heap.size (w.setCell ⟨g, 72, none⟩ (.int .i64 ((n : Int) + (l.length : Int)))) (.slice A l.length c) l) := HR.out.but HAP.out B1.out
  go_enter Tryz.func117, Tryz.ntmps117
  obtain ⟨t, ht⟩ : ∃ t, (l.take (64 - k)).length = t := ⟨_, rfl⟩
  have htm : t = min (64 - k) l.length := by rw [← ht, List.length_take]
  have hpl : k + t ≤ 64 := by omega
  have HT := Lib.hid ht
  have HTM := Lib.hid htm
  have HOV : Hid ((ocs st left (n + l.length)).take (8 + k) ++ (bys (l.take (64 - k)) ++ (ocs st left (n + l.length)).drop (8 + k + (l.take (64 - k)).length)) = ocs st (over left k (l.take (64 - k))) (n + l.length)) :=
    ocs_over st left _ _ k H8.out H64.out (by rw [ht]; exact hpl)
  obtain ⟨LV, hLV⟩ : ∃ LV, over left k (l.take (64 - k)) = LV := ⟨_, rfl⟩
  rw [hLV] at HOV
  have HLV := Lib.hid hLV
  clear ht htm hLV
  go_wp2_with (refine wpList_copy_to rfl _ _ 22 rfl 5 Tryz.underlying22 s5 g (8 + k) (64 - k) (64 - k) _ rfl rfl (ocs st left (n + l.length)) 167 K1.out _ l R1.out (by rw [ocs_length _ _ _ H8.out H64.out]; omega) t HT.out _ HOV.out ?_)
  intro w2 hb2 hbut2
  have G2 := Lib.hid hb2
  have B2 : Hid (But g w w2) := B1.out.trans hbut2
  clear hb2 hbut2 K1 B1 R1 hcell72 hfr hsl
  by_cases hfull : k + t < 64
  · have htl : t = l.length := by have := HTM.out; omega
    have HTL := Lib.hid htl
    clear htl
    go_wp2
    refine bodyPost_ret (v := .tuple #[]) (ret_null rfl _ _) rfl ⟨rfl, ?_, B2.out⟩
    have hnn := HNN.out
    have hkk := HKK.out
    have he : l.take (64 - k) = l := List.take_of_length_le (by have := HTL.out; omega)
    have h := HH.out.less (l := l) (by rw [hnn, hkk]; have := HTL.out; omega)
    rw [hnn, hkk] at h
    refine ⟨st, over left k l, ?_, h⟩
    have hg := G2.out
    rw [← HLV.out, he] at hg
    rw [List.length_append, hnn]
    exact hg
  · have htk : k + t = 64 := by omega
    have hlt : t ≤ l.length := by have := HTM.out; omega
    have hf := HH.out.full (l := l) t (by rw [HNN.out, HKK.out]; exact htk) hlt
    have hLV64 : LV.length = 64 := by rw [← HLV.out]; exact over_length _ _ _ H64.out (by rw [HT.out]; omega)
    have e64 : 64 - k = t := by omega
    rw [HNN.out, HKK.out] at hf
    rw [show l.take t = l.take (64 - k) by rw [e64], HLV.out] at hf
    obtain ⟨F1, F2, F3, F4⟩ := hf
    have FF2 := Lib.hid F2
    have FF3 := Lib.hid F3
    have FF4 := Lib.hid F4
    have HLV64 := Lib.hid hLV64
    clear F1 F2 F3 F4 hLV64 e64 htk
    go_wp2
    have H33 : Hid ((Tryz.prog.info? 146).map (·.size) = some (ws st).length) := by show _ = _; rw [ws_length, H8.out]; exact s33
    have hg2 := G2.out.lt
    refine wp_region_till 16 15 (fun w' => Below w2.heap.size w2 w') (by kernel_rfl) rfl ?_
    have hS : Below w2.heap.size w2 w2.drew := (Below.refl _ _).drew
    refine AnyTill.free (i := 0) (v := .pointer (some ⟨g, 0, none⟩)) rfl (by kernel_rfl) (by kernel_rfl) (by kernel_rfl) (by kernel_rfl) (fun _ _ _ h => h) (by rfl) (fun w' => ?_) hS ?_
    · first | (go_simp; done) | (go_simp; rfl)
    simp only [Act.put, List.setIfInBounds_toArray, List.set_cons_zero, List.set_cons_succ]
    refine AnyTill.free (i := 1) (v := .pointer (some ⟨g, 0, none⟩)) rfl (by kernel_rfl) (by kernel_rfl) (by kernel_rfl) (by kernel_rfl) (fun _ _ _ h => h) (by rfl) (fun w' => ?_) hS ?_
    · first | (go_simp; done) | (go_simp; rfl)
    simp only [Act.put, List.setIfInBounds_toArray, List.set_cons_zero, List.set_cons_succ]
    refine AnyTill.free (i := 2) (v := .pointer (some ⟨g, 0, none⟩)) rfl (by kernel_rfl) (by kernel_rfl) (by kernel_rfl) (by kernel_rfl) (fun _ _ _ h => h) (by rfl) (fun w' => ?_) hS ?_
    · first | (go_simp; done) | (go_simp; rfl)
    simp only [Act.put, List.setIfInBounds_toArray, List.set_cons_zero, List.set_cons_succ]
    refine AnyTill.free (i := 3) (v := .pointer (some ⟨g, 0, none⟩)) rfl (by kernel_rfl) (by kernel_rfl) (by kernel_rfl) (by kernel_rfl) (fun _ _ _ h => h) (by rfl) (fun w' => ?_) hS ?_
    · first | (go_simp; done) | (go_simp; rfl)
    simp only [Act.put, List.setIfInBounds_toArray, List.set_cons_zero, List.set_cons_succ]
    refine AnyTill.take (i := 4) (v := .agg (ws st).toArray) rfl (by kernel_rfl) (by kernel_rfl) (by kernel_rfl) (by kernel_rfl) (fun _ _ _ h => h) (by rfl) (fun w' hw' => ?_) hS ?_
    · exact run_load_mid 146 _ rfl g 0 rfl (ws st) (rangeAt_ocs (G2.out.below hw' hg2)) 8 60 tu33 H33.out
    simp only [Act.put, List.setIfInBounds_toArray, List.set_cons_zero, List.set_cons_succ]
    refine AnyTill.free (i := 5) (v := .pointer (some ⟨g, 0, none⟩)) rfl (by kernel_rfl) (by kernel_rfl) (by kernel_rfl) (by kernel_rfl) (fun _ _ _ h => h) (by rfl) (fun w' => ?_) hS ?_
    · first | (go_simp; done) | (go_simp; rfl)
    simp only [Act.put, List.setIfInBounds_toArray, List.set_cons_zero, List.set_cons_succ]
    refine AnyTill.free (i := 6) (v := .pointer (some ⟨g, 0, none⟩)) rfl (by kernel_rfl) (by kernel_rfl) (by kernel_rfl) (by kernel_rfl) (fun _ _ _ h => h) (by rfl) (fun w' => ?_) hS ?_
    · first | (go_simp; done) | (go_simp; rfl)
    simp only [Act.put, List.setIfInBounds_toArray, List.set_cons_zero, List.set_cons_succ]
    refine AnyTill.free (i := 7) (v := .pointer (some ⟨g, 8, none⟩)) rfl (by kernel_rfl) (by kernel_rfl) (by kernel_rfl) (by kernel_rfl) (fun _ _ _ h => h) (by rfl) (fun w' => ?_) hS ?_
    · first | (go_simp; done) | (go_simp; rfl)
    simp only [Act.put, List.setIfInBounds_toArray, List.set_cons_zero, List.set_cons_succ]
    refine AnyTill.free (i := 8) (v := .slice (some ⟨g, 8, none⟩) 64 64) rfl (by kernel_rfl) (by kernel_rfl) (by kernel_rfl) (by kernel_rfl) (fun _ _ _ h => h) (by rfl) (fun w' => ?_) hS ?_
    · first | (go_simp; done) | (go_simp; rfl)
    simp only [Act.put, List.setIfInBounds_toArray, List.set_cons_zero, List.set_cons_succ]
    refine AnyTill.one (i := 9) (by kernel_rfl) rfl (by rfl) (fun K hK => ?_)
    go_simp
    have hrl := Rd.left (B := w2.drew.heap.size) (Blk.drew G2.out) H8.out HLV64.out (by simpa using hg2) 64 (Nat.le_refl _)
    rw [List.take_of_length_le (by rw [HLV64.out]; omega)] at hrl
    refine (absorb_any st _ LV _ H8.out HH.out.st32 hrl).mono ?_
    rintro e w3 ⟨v3, rfl, hr3, hb3⟩
    have hS3 : Below w2.heap.size w2 w3 := hS.trans hb3
    refine hK.out _ _ (.inr hS3) ?_
    clear hK K hrl hr3
    rw [HLV64.out, show 64 / 64 = 1 from rfl]
    obtain ⟨st1, hst1⟩ : ∃ s, chain st 1 LV = s := ⟨_, rfl⟩
    have h81 : st1.length = 8 := by rw [← hst1, chain_length st H8.out]
    have h321 : W32 st1 := by rw [← hst1]; exact chain_lt st HH.out.st32 _ _
    rw [hst1]
    refine AnyTill.free (i := 10) (v := .tuple #[.agg (ws st1).toArray, v3]) rfl (by kernel_rfl) (by kernel_rfl) (by kernel_rfl) (by kernel_rfl) (fun _ _ _ h => h) (by rfl) (fun w' => ?_) hS3 ?_
    · first | (go_simp; done) | (go_simp; rfl)
    simp only [Act.put, List.setIfInBounds_toArray, List.set_cons_zero, List.set_cons_succ]
    refine AnyTill.free (i := 11) (v := .agg (ws st1).toArray) rfl (by kernel_rfl) (by kernel_rfl) (by kernel_rfl) (by kernel_rfl) (fun _ _ _ h => h) (by rfl) (fun w' => ?_) hS3 ?_
    · first | (go_simp; done) | (go_simp; rfl)
    simp only [Act.put, List.setIfInBounds_toArray, List.set_cons_zero, List.set_cons_succ]
    refine AnyTill.free (i := 12) (v := v3) rfl (by kernel_rfl) (by kernel_rfl) (by kernel_rfl) (by kernel_rfl) (fun _ _ _ h => h) (by rfl) (fun w' => ?_) hS3 ?_
    · first | (go_simp; done) | (go_simp; rfl)
    simp only [Act.put, List.setIfInBounds_toArray, List.set_cons_zero, List.set_cons_succ]
    refine AnyTill.free (i := 13) (v := .pointer (some ⟨g, 0, none⟩)) rfl (by kernel_rfl) (by kernel_rfl) (by kernel_rfl) (by kernel_rfl) (fun _ _ _ h => h) (by rfl) (fun w' => ?_) hS3 ?_
    · first | (go_simp; done) | (go_simp; rfl)
    simp only [Act.put, List.setIfInBounds_toArray, List.set_cons_zero, List.set_cons_succ]
    refine AnyTill.free (i := 14) (v := .pointer (some ⟨g, 0, none⟩)) rfl (by kernel_rfl) (by kernel_rfl) (by kernel_rfl) (by kernel_rfl) (fun _ _ _ h => h) (by rfl) (fun w' => ?_) hS3 ?_
    · first | (go_simp; done) | (go_simp; rfl)
    simp only [Act.put, List.setIfInBounds_toArray, List.set_cons_zero, List.set_cons_succ]
    refine AnyTill.one (i := 15) (by kernel_rfl) rfl (by rfl) (fun K hK => ?_)
    refine wp_store_state _ _ rfl g (n + l.length) st st1 LV rfl rfl (G2.out.below hS3 hg2) H8.out h81 HLV64.out (fun hb4 => ?_)
    refine hK.out _ _ (.inl (by kernel_rfl)) ?_
    clear hK K
    refine AnyTill.done (by kernel_rfl) ?_
    refine NoPanic.normal ?_
    simp only [Act.put]
    have G4 := Lib.hid hb4
    have B4 : Hid (But g w (w3.setCells g 0 (ws st1))) := (B2.out.trans (But.of hS3 (Nat.le_refl _))).setCells _ _
    generalize w3.setCells g 0 (ws st1) = w4 at G4 B4 ⊢
    have R4 : Hid (Rd w4.heap.size w4 (.slice A l.length c) l) := HR.out.but HAP.out B4.out
    have HST1 := Lib.hid hst1
    have H81 := Lib.hid h81
    clear hS hS3 hb3 hb4 G2 B2 hg2 hst1 h81 H33
    obtain ⟨a, rfl⟩ : ∃ a, A = some a := by
      obtain ⟨A', c', hv, h1, h2, h3, h4⟩ := R4.out
      injection hv with e1 e2 e3
      subst e1 e3
      cases A with
      | none => have := h3 rfl; have := HTM.out; omega
      | some a => exact ⟨a, rfl⟩
    have zt1 : ¬ (l.length : Int) < (t : Int) := by omega
    by_cases hct : c = t
    · have hct' := hct.symm
      subst hct'
      have hlc : l.length = t := by omega
      have HLC := Lib.hid hlc
      clear hlc hct
      have RT : Hid (Rd w4.heap.size w4 (.slice (some a) 0 0) (l.drop t)) := by
        have h := R4.out.drop t hlt
        rw [if_pos rfl, show l.length - t = 0 by have := HLC.out; omega, Nat.sub_self] at h; exact h
      have hg4 := G4.out.lt
      have H331 : Hid ((Tryz.prog.info? 146).map (·.size) = some (ws st1).length) := by show _ = _; rw [ws_length, H81.out]; exact s33
      go_wp2
      refine wp_region_till 16 14 (fun w' => Below w4.heap.size w4 w') (by kernel_rfl) rfl ?_
      have hS : Below w4.heap.size w4 w4.drew := (Below.refl _ _).drew
      refine AnyTill.free (i := 0) (v := .pointer (some ⟨g, 0, none⟩)) rfl (by kernel_rfl) (by kernel_rfl) (by kernel_rfl) (by kernel_rfl) (fun _ _ _ h => h) (by rfl) (fun w' => ?_) hS ?_
      · first | (go_simp; done) | (go_simp; rfl)
      simp only [Act.put, List.setIfInBounds_toArray, List.set_cons_zero, List.set_cons_succ]
      refine AnyTill.free (i := 1) (v := .pointer (some ⟨g, 0, none⟩)) rfl (by kernel_rfl) (by kernel_rfl) (by kernel_rfl) (by kernel_rfl) (fun _ _ _ h => h) (by rfl) (fun w' => ?_) hS ?_
      · first | (go_simp; done) | (go_simp; rfl)
      simp only [Act.put, List.setIfInBounds_toArray, List.set_cons_zero, List.set_cons_succ]
      refine AnyTill.free (i := 2) (v := .pointer (some ⟨g, 0, none⟩)) rfl (by kernel_rfl) (by kernel_rfl) (by kernel_rfl) (by kernel_rfl) (fun _ _ _ h => h) (by rfl) (fun w' => ?_) hS ?_
      · first | (go_simp; done) | (go_simp; rfl)
      simp only [Act.put, List.setIfInBounds_toArray, List.set_cons_zero, List.set_cons_succ]
      refine AnyTill.free (i := 3) (v := .pointer (some ⟨g, 0, none⟩)) rfl (by kernel_rfl) (by kernel_rfl) (by kernel_rfl) (by kernel_rfl) (fun _ _ _ h => h) (by rfl) (fun w' => ?_) hS ?_
      · first | (go_simp; done) | (go_simp; rfl)
      simp only [Act.put, List.setIfInBounds_toArray, List.set_cons_zero, List.set_cons_succ]
      refine AnyTill.take (i := 4) (v := .agg (ws st1).toArray) rfl (by kernel_rfl) (by kernel_rfl) (by kernel_rfl) (by kernel_rfl) (fun _ _ _ h => h) (by rfl) (fun w' hw' => ?_) hS ?_
      · exact run_load_mid 146 _ rfl g 0 rfl (ws st1) (rangeAt_ocs (G4.out.below hw' hg4)) 8 60 tu33 H331.out
      simp only [Act.put, List.setIfInBounds_toArray, List.set_cons_zero, List.set_cons_succ]
      refine AnyTill.free (i := 5) (v := .slice (some a) l.length t) rfl (by kernel_rfl) (by kernel_rfl) (by kernel_rfl) (by kernel_rfl) (fun _ _ _ h => h) (by rfl) (fun w' => ?_) hS ?_
      · first | (go_simp; done) | (go_simp; rfl)
      simp only [Act.put, List.setIfInBounds_toArray, List.set_cons_zero, List.set_cons_succ]
      refine AnyTill.free (i := 6) (v := .int .i64 (t : Int)) rfl (by kernel_rfl) (by kernel_rfl) (by kernel_rfl) (by kernel_rfl) (fun _ _ _ h => h) (by rfl) (fun w' => ?_) hS ?_
      · first | (go_simp; done) | (go_simp; rfl)
      simp only [Act.put, List.setIfInBounds_toArray, List.set_cons_zero, List.set_cons_succ]
      refine AnyTill.free (i := 7) (v := .slice (some a) 0 0) rfl (by kernel_rfl) (by kernel_rfl) (by kernel_rfl) (by kernel_rfl) (fun _ _ _ h => h) (by rfl) (fun w' => ?_) hS ?_
      · first | (go_simp; done) | (go_simp; rfl)
      simp only [Act.put, List.setIfInBounds_toArray, List.set_cons_zero, List.set_cons_succ]
      refine AnyTill.one (i := 8) (by kernel_rfl) rfl (by rfl) (fun K hK => ?_)
      go_simp
      refine (absorb_any st1 _ (l.drop t) w4.drew H81.out h321 (RT.out.below (w' := w4.drew) ((Below.refl _ _).drew))).mono ?_
      rintro e w5 ⟨v5, rfl, hr5, hb5⟩
      have hS5 : Below w4.heap.size w4 w5 := hS.trans hb5
      refine hK.out _ _ (.inr hS5) ?_
      clear hK K
      have hst2 : chain st1 ((l.drop t).length / 64) (l.drop t) = chain iv ((bs ++ l).length / 64) (bs ++ l) := by rw [← HST1.out]; exact FF2.out
      rw [hst2]
      rw [FF3.out] at hr5
      obtain ⟨st2, hs2⟩ : ∃ s, chain iv ((bs ++ l).length / 64) (bs ++ l) = s := ⟨_, rfl⟩
      obtain ⟨r, hrr⟩ : ∃ r, (bs ++ l).drop (64 * ((bs ++ l).length / 64)) = r := ⟨_, rfl⟩
      have hrl : r.length < 64 := by rw [← hrr, List.length_drop]; omega
      have h82 : st2.length = 8 := by rw [← hs2, chain_length iv iv_length]
      rw [hs2]
      rw [hrr] at hr5
      refine AnyTill.free (i := 9) (v := .tuple #[.agg (ws st2).toArray, v5]) rfl (by kernel_rfl) (by kernel_rfl) (by kernel_rfl) (by kernel_rfl) (fun _ _ _ h => h) (by rfl) (fun w' => ?_) hS5 ?_
      · first | (go_simp; done) | (go_simp; rfl)
      simp only [Act.put, List.setIfInBounds_toArray, List.set_cons_zero, List.set_cons_succ]
      refine AnyTill.free (i := 10) (v := .agg (ws st2).toArray) rfl (by kernel_rfl) (by kernel_rfl) (by kernel_rfl) (by kernel_rfl) (fun _ _ _ h => h) (by rfl) (fun w' => ?_) hS5 ?_
      · first | (go_simp; done) | (go_simp; rfl)
      simp only [Act.put, List.setIfInBounds_toArray, List.set_cons_zero, List.set_cons_succ]
      refine AnyTill.free (i := 11) (v := v5) rfl (by kernel_rfl) (by kernel_rfl) (by kernel_rfl) (by kernel_rfl) (fun _ _ _ h => h) (by rfl) (fun w' => ?_) hS5 ?_
      · first | (go_simp; done) | (go_simp; rfl)
      simp only [Act.put, List.setIfInBounds_toArray, List.set_cons_zero, List.set_cons_succ]
      refine AnyTill.free (i := 12) (v := .pointer (some ⟨g, 0, none⟩)) rfl (by kernel_rfl) (by kernel_rfl) (by kernel_rfl) (by kernel_rfl) (fun _ _ _ h => h) (by rfl) (fun w' => ?_) hS5 ?_
      · first | (go_simp; done) | (go_simp; rfl)
      simp only [Act.put, List.setIfInBounds_toArray, List.set_cons_zero, List.set_cons_succ]
      refine AnyTill.free (i := 13) (v := .pointer (some ⟨g, 0, none⟩)) rfl (by kernel_rfl) (by kernel_rfl) (by kernel_rfl) (by kernel_rfl) (fun _ _ _ h => h) (by rfl) (fun w' => ?_) hS5 ?_
      · first | (go_simp; done) | (go_simp; rfl)
      simp only [Act.put, List.setIfInBounds_toArray, List.set_cons_zero, List.set_cons_succ]
      have R5 : Rd w5.heap.size w5 v5 r := (Rd.below hr5 hb5).more hb5.size
      refine AnyTill.one (i := 14) (by kernel_rfl) rfl (by rfl) (fun K hK => ?_)
      refine wp_store_state _ _ rfl g (n + l.length) st1 st2 LV rfl rfl (G4.out.below hS5 hg4) H81.out h82 HLV64.out (fun hb6 => ?_)
      have R6 : Hid (Rd w5.heap.size (w5.setCells g 0 (ws st2)) v5 r) := R5.setState (G4.out.below hS5 hg4) H81.out (ws st2) (by rw [ws_length, h82])
      refine hK.out _ _ (.inl (by kernel_rfl)) ?_
      clear hK K
      refine AnyTill.one (i := 15) (by kernel_rfl) rfl (by rfl) (fun K hK => ?_)
      go_simp
      refine hK.out _ _ (.inl (by kernel_rfl)) ?_
      clear hK K
      refine AnyTill.done (by kernel_rfl) ?_
      refine NoPanic.normal ?_
      have G6 := Lib.hid hb6
      have B6 : Hid (But g w (w5.setCells g 0 (ws st2))) := (B4.out.trans (But.of hS5 (Nat.le_refl _))).setCells _ _
      generalize w5.setCells g 0 (ws st2) = w6 at G6 B6 R6 ⊢
      have H82 := Lib.hid h82
      have HS2 := Lib.hid hs2
      have HRR := Lib.hid hrr
      have hrt : r.take 64 = r := List.take_of_length_le (by omega)
      have HRT : Hid ((r.take 64).length = r.length) := by show _ = _; rw [hrt]
      have HOV2 : Hid ((ocs st2 LV (n + l.length)).take 8 ++ (bys (r.take 64) ++ (ocs st2 LV (n + l.length)).drop (8 + (r.take 64).length)) = ocs st2 (over LV 0 r) (n + l.length)) := by
        have h := ocs_over st2 LV r (n + l.length) 0 h82 HLV64.out (by omega)
        rw [Nat.add_zero] at h
        show _ = _
        rw [hrt]
        exact h
      clear hS hS5 hb5 hb6 hr5 R5 G4 B4 R4 hg4 hst2 hs2 hrr h82 hrt RT H331
      obtain ⟨A5, c5, rfl, _⟩ := R6.out.shape
      go_wp2_with (refine wpList_copy_to rfl _ _ 22 rfl 5 Tryz.underlying22 s5 g 8 64 64 _ rfl rfl (ocs st2 LV (n + l.length)) 167 G6.out _ r R6.out (by rw [ocs_length _ _ _ H82.out HLV64.out]; omega) r.length HRT.out _ HOV2.out ?_)
      intro w7 hb7 hbut7
      have G7 := Lib.hid hb7
      have B7 : Hid (But g w w7) := B6.out.trans hbut7
      clear hb7 hbut7 G6 B6
      go_wp2
      first | (refine bodyPost_ret (v := .tuple #[]) (ret_null rfl _ _) rfl ⟨rfl, ?_, B7.out⟩) | (refine bodyPost_end (ret_null rfl _ _) rfl ⟨rfl, ?_, B7.out⟩)
      have hh := Holds.rest (bs := bs ++ l) (left := LV) (r := r) HLV64.out HRR.out.symm
      rw [HS2.out] at hh
      refine ⟨st2, over LV 0 r, ?_, hh⟩
      rw [List.length_append, HNN.out]
      exact G7.out
    · have RT : Hid (Rd w4.heap.size w4 (.slice (some (a.add t)) (l.length - t) (c - t)) (l.drop t)) := by
        have h := R4.out.drop t hlt
        rw [if_neg hct] at h; exact h
      have hg4 := G4.out.lt
      have H331 : Hid ((Tryz.prog.info? 146).map (·.size) = some (ws st1).length) := by show _ = _; rw [ws_length, H81.out]; exact s33
      go_wp2
      refine wp_region_till 16 14 (fun w' => Below w4.heap.size w4 w') (by kernel_rfl) rfl ?_
      have hS : Below w4.heap.size w4 w4.drew := (Below.refl _ _).drew
      refine AnyTill.free (i := 0) (v := .pointer (some ⟨g, 0, none⟩)) rfl (by kernel_rfl) (by kernel_rfl) (by kernel_rfl) (by kernel_rfl) (fun _ _ _ h => h) (by rfl) (fun w' => ?_) hS ?_
      · first | (go_simp; done) | (go_simp; rfl)
      simp only [Act.put, List.setIfInBounds_toArray, List.set_cons_zero, List.set_cons_succ]
      refine AnyTill.free (i := 1) (v := .pointer (some ⟨g, 0, none⟩)) rfl (by kernel_rfl) (by kernel_rfl) (by kernel_rfl) (by kernel_rfl) (fun _ _ _ h => h) (by rfl) (fun w' => ?_) hS ?_
      · first | (go_simp; done) | (go_simp; rfl)
      simp only [Act.put, List.setIfInBounds_toArray, List.set_cons_zero, List.set_cons_succ]
      refine AnyTill.free (i := 2) (v := .pointer (some ⟨g, 0, none⟩)) rfl (by kernel_rfl) (by kernel_rfl) (by kernel_rfl) (by kernel_rfl) (fun _ _ _ h => h) (by rfl) (fun w' => ?_) hS ?_
      · first | (go_simp; done) | (go_simp; rfl)
      simp only [Act.put, List.setIfInBounds_toArray, List.set_cons_zero, List.set_cons_succ]
      refine AnyTill.free (i := 3) (v := .pointer (some ⟨g, 0, none⟩)) rfl (by kernel_rfl) (by kernel_rfl) (by kernel_rfl) (by kernel_rfl) (fun _ _ _ h => h) (by rfl) (fun w' => ?_) hS ?_
      · first | (go_simp; done) | (go_simp; rfl)
      simp only [Act.put, List.setIfInBounds_toArray, List.set_cons_zero, List.set_cons_succ]
      refine AnyTill.take (i := 4) (v := .agg (ws st1).toArray) rfl (by kernel_rfl) (by kernel_rfl) (by kernel_rfl) (by kernel_rfl) (fun _ _ _ h => h) (by rfl) (fun w' hw' => ?_) hS ?_
      · exact run_load_mid 146 _ rfl g 0 rfl (ws st1) (rangeAt_ocs (G4.out.below hw' hg4)) 8 60 tu33 H331.out
      simp only [Act.put, List.setIfInBounds_toArray, List.set_cons_zero, List.set_cons_succ]
      refine AnyTill.free (i := 5) (v := .slice (some a) l.length c) rfl (by kernel_rfl) (by kernel_rfl) (by kernel_rfl) (by kernel_rfl) (fun _ _ _ h => h) (by rfl) (fun w' => ?_) hS ?_
      · first | (go_simp; done) | (go_simp; rfl)
      simp only [Act.put, List.setIfInBounds_toArray, List.set_cons_zero, List.set_cons_succ]
      refine AnyTill.free (i := 6) (v := .int .i64 (t : Int)) rfl (by kernel_rfl) (by kernel_rfl) (by kernel_rfl) (by kernel_rfl) (fun _ _ _ h => h) (by rfl) (fun w' => ?_) hS ?_
      · first | (go_simp; done) | (go_simp; rfl)
      simp only [Act.put, List.setIfInBounds_toArray, List.set_cons_zero, List.set_cons_succ]
      refine AnyTill.free (i := 7) (v := .slice (some (a.add t)) (l.length - t) (c - t)) rfl (by kernel_rfl) (by kernel_rfl) (by kernel_rfl) (by kernel_rfl) (fun _ _ _ h => h) (by rfl) (fun w' => ?_) hS ?_
      · first | (go_simp; done) | (go_simp; rfl)
      simp only [Act.put, List.setIfInBounds_toArray, List.set_cons_zero, List.set_cons_succ]
      refine AnyTill.one (i := 8) (by kernel_rfl) rfl (by rfl) (fun K hK => ?_)
      go_simp
      refine (absorb_any st1 _ (l.drop t) w4.drew H81.out h321 (RT.out.below (w' := w4.drew) ((Below.refl _ _).drew))).mono ?_
      rintro e w5 ⟨v5, rfl, hr5, hb5⟩
      have hS5 : Below w4.heap.size w4 w5 := hS.trans hb5
      refine hK.out _ _ (.inr hS5) ?_
      clear hK K
      have hst2 : chain st1 ((l.drop t).length / 64) (l.drop t) = chain iv ((bs ++ l).length / 64) (bs ++ l) := by rw [← HST1.out]; exact FF2.out
      rw [hst2]
      rw [FF3.out] at hr5
      obtain ⟨st2, hs2⟩ : ∃ s, chain iv ((bs ++ l).length / 64) (bs ++ l) = s := ⟨_, rfl⟩
      obtain ⟨r, hrr⟩ : ∃ r, (bs ++ l).drop (64 * ((bs ++ l).length / 64)) = r := ⟨_, rfl⟩
      have hrl : r.length < 64 := by rw [← hrr, List.length_drop]; omega
      have h82 : st2.length = 8 := by rw [← hs2, chain_length iv iv_length]
      rw [hs2]
      rw [hrr] at hr5
      refine AnyTill.free (i := 9) (v := .tuple #[.agg (ws st2).toArray, v5]) rfl (by kernel_rfl) (by kernel_rfl) (by kernel_rfl) (by kernel_rfl) (fun _ _ _ h => h) (by rfl) (fun w' => ?_) hS5 ?_
      · first | (go_simp; done) | (go_simp; rfl)
      simp only [Act.put, List.setIfInBounds_toArray, List.set_cons_zero, List.set_cons_succ]
      refine AnyTill.free (i := 10) (v := .agg (ws st2).toArray) rfl (by kernel_rfl) (by kernel_rfl) (by kernel_rfl) (by kernel_rfl) (fun _ _ _ h => h) (by rfl) (fun w' => ?_) hS5 ?_
      · first | (go_simp; done) | (go_simp; rfl)
      simp only [Act.put, List.setIfInBounds_toArray, List.set_cons_zero, List.set_cons_succ]
      refine AnyTill.free (i := 11) (v := v5) rfl (by kernel_rfl) (by kernel_rfl) (by kernel_rfl) (by kernel_rfl) (fun _ _ _ h => h) (by rfl) (fun w' => ?_) hS5 ?_
      · first | (go_simp; done) | (go_simp; rfl)
      simp only [Act.put, List.setIfInBounds_toArray, List.set_cons_zero, List.set_cons_succ]
      refine AnyTill.free (i := 12) (v := .pointer (some ⟨g, 0, none⟩)) rfl (by kernel_rfl) (by kernel_rfl) (by kernel_rfl) (by kernel_rfl) (fun _ _ _ h => h) (by rfl) (fun w' => ?_) hS5 ?_
      · first | (go_simp; done) | (go_simp; rfl)
      simp only [Act.put, List.setIfInBounds_toArray, List.set_cons_zero, List.set_cons_succ]
      refine AnyTill.free (i := 13) (v := .pointer (some ⟨g, 0, none⟩)) rfl (by kernel_rfl) (by kernel_rfl) (by kernel_rfl) (by kernel_rfl) (fun _ _ _ h => h) (by rfl) (fun w' => ?_) hS5 ?_
      · first | (go_simp; done) | (go_simp; rfl)
      simp only [Act.put, List.setIfInBounds_toArray, List.set_cons_zero, List.set_cons_succ]
      have R5 : Rd w5.heap.size w5 v5 r := (Rd.below hr5 hb5).more hb5.size
      refine AnyTill.one (i := 14) (by kernel_rfl) rfl (by rfl) (fun K hK => ?_)
      refine wp_store_state _ _ rfl g (n + l.length) st1 st2 LV rfl rfl (G4.out.below hS5 hg4) H81.out h82 HLV64.out (fun hb6 => ?_)
      have R6 : Hid (Rd w5.heap.size (w5.setCells g 0 (ws st2)) v5 r) := R5.setState (G4.out.below hS5 hg4) H81.out (ws st2) (by rw [ws_length, h82])
      refine hK.out _ _ (.inl (by kernel_rfl)) ?_
      clear hK K
      refine AnyTill.one (i := 15) (by kernel_rfl) rfl (by rfl) (fun K hK => ?_)
      go_simp
      refine hK.out _ _ (.inl (by kernel_rfl)) ?_
      clear hK K
      refine AnyTill.done (by kernel_rfl) ?_
      refine NoPanic.normal ?_
      have G6 := Lib.hid hb6
      have B6 : Hid (But g w (w5.setCells g 0 (ws st2))) := (B4.out.trans (But.of hS5 (Nat.le_refl _))).setCells _ _
      generalize w5.setCells g 0 (ws st2) = w6 at G6 B6 R6 ⊢
      have H82 := Lib.hid h82
      have HS2 := Lib.hid hs2
      have HRR := Lib.hid hrr
      have hrt : r.take 64 = r := List.take_of_length_le (by omega)
      have HRT : Hid ((r.take 64).length = r.length) := by show _ = _; rw [hrt]
      have HOV2 : Hid ((ocs st2 LV (n + l.length)).take 8 ++ (bys (r.take 64) ++ (ocs st2 LV (n + l.length)).drop (8 + (r.take 64).length)) = ocs st2 (over LV 0 r) (n + l.length)) := by
        have h := ocs_over st2 LV r (n + l.length) 0 h82 HLV64.out (by omega)
        rw [Nat.add_zero] at h
        show _ = _
        rw [hrt]
        exact h
      clear hS hS5 hb5 hb6 hr5 R5 G4 B4 R4 hg4 hst2 hs2 hrr h82 hrt RT H331
      obtain ⟨A5, c5, rfl, _⟩ := R6.out.shape
      go_wp2_with (refine wpList_copy_to rfl _ _ 22 rfl 5 Tryz.underlying22 s5 g 8 64 64 _ rfl rfl (ocs st2 LV (n + l.length)) 167 G6.out _ r R6.out (by rw [ocs_length _ _ _ H82.out HLV64.out]; omega) r.length HRT.out _ HOV2.out ?_)
      intro w7 hb7 hbut7
      have G7 := Lib.hid hb7
      have B7 : Hid (But g w w7) := B6.out.trans hbut7
      clear hb7 hbut7 G6 B6
      go_wp2
      first | (refine bodyPost_ret (v := .tuple #[]) (ret_null rfl _ _) rfl ⟨rfl, ?_, B7.out⟩) | (refine bodyPost_end (ret_null rfl _ _) rfl ⟨rfl, ?_, B7.out⟩)
      have hh := Holds.rest (bs := bs ++ l) (left := LV) (r := r) HLV64.out HRR.out.symm
      rw [HS2.out] at hh
      refine ⟨st2, over LV 0 r, ?_, hh⟩
      rw [List.length_append, HNN.out]
      exact G7.out
end Go.Proofs.YtllncnnigjgadaaGreat
