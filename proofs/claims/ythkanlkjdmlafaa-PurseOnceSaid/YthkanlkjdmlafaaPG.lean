/-
  A purse, compared with itself, is equal.
-/
import Derived.Test.YthkanlkjdmlafaaPF
import Derived.Laws.StructEq
namespace Go.Proofs.Ythkanlkjdmlafaa
open Go.RowKit

theorem run_sizeOf_of {P : Program} (t : TypeId) (n : Nat) (h : (P.info? t).map (·.size) = some n) (w : World) : (sizeOf t).run P w = .ok n w := by
  cases hq : P.info? t with
  | none => rw [hq] at h; cases h
  | some i =>
    rw [hq] at h
    simp only [Option.map_some, Option.some.injEq] at h
    simp [sizeOf, typeInfo, hq, h]
theorem run_part_agg {P : Program} (t : TypeId) (d : TypeDesc) (n off : Nat) (cs cs' : List Value) (hu : P.underlying t = some d) (hd : d.isRow = true) (hn : (P.info? t).map (·.size) = some n) (he : (cs.drop off).take n = cs') (w : World) : (part t cs.toArray off).run P w = .ok (.agg cs'.toArray) w := by
  have ha : (isAgg t).run P w = .ok true w := by
    unfold isAgg
    simp only [Sem.run_bind, run_underlying hu, Result.andThen_ok]
    cases d <;> first | rfl | cases hd
  unfold part
  simp only [Sem.run_bind, ha, Result.andThen_ok, if_true, run_sizeOf_of t n hn, Sem.run_pure]
  congr 2
  rw [← he]
  simp
theorem run_part_int {P : Program} (t : TypeId) (k : IntKind) (off : Nat) (cs : List Value) (v : Value) (hu : P.underlying t = some (.int k)) (he : cs[off]? = some v) (w : World) : (part t cs.toArray off).run P w = .ok v w := by
  simp [part, isAgg, run_underlying hu, he]
theorem eqInt_same {P : Program} (t : TypeId) (k : IntKind) (z : Int) (d : Nat) (hu : P.underlying t = some (.int k)) (w : World) : (Op.equalIn (d + 1) t (.int k z) (.int k z)).run P w = .ok true w := by
  rw [run_equalIn_int w d t k k z z hu]; simp

theorem fTree : (Try.prog.fieldsOf 25).toList.map (fun f => (f.name == "_", f.type, f.offset)) = [(false, 22, 0), (false, 23, 16), (false, 3, 48), (false, 3, 49)] := by kernel_rfl
theorem fPurse : (Try.prog.fieldsOf 30).toList.map (fun f => (f.name == "_", f.type, f.offset)) = [(false, 25, 0), (false, 3, 50), (false, 3, 51), (false, 3, 52)] := by kernel_rfl
/-- Fields that are all equal to themselves. -/
theorem eqFields_same {P : Program} (d : Nat) (cs : List Value) (w : World) : ∀ (fs : List Field), (∀ f ∈ fs, ∃ v, (part f.type cs.toArray f.offset).run P w = .ok v w ∧ (Op.equalIn d f.type v v).run P w = .ok true w) → (Op.eqFields d cs.toArray cs.toArray fs).run P w = .ok true w
  | [], _ => by simp [Op.eqFields]
  | f :: fs, h => by
    obtain ⟨v, h1, h2⟩ := h f (by simp)
    have ih := eqFields_same d cs w fs (fun g hg => h g (by simp [hg]))
    unfold Op.eqFields
    split
    · simp only [Sem.run_bind, h1, h2, Result.andThen_ok, Bool.not_true, Bool.false_eq_true, if_false]
      exact ih
    · exact ih
theorem field_of {fs : List Field} {l : List (Bool × TypeId × Nat)} (h : fs.map (fun f => (f.name == "_", f.type, f.offset)) = l) {f : Field} (hf : f ∈ fs) : ∃ b, (b, f.type, f.offset) ∈ l := by
  refine ⟨f.name == "_", ?_⟩
  rw [← h]
  exact List.mem_map.2 ⟨f, hf, rfl⟩
theorem uTree : Try.prog.underlying 25 = some (.struct (Try.prog.fieldsOf 25)) := by kernel_rfl
theorem uPurse : Try.prog.underlying 30 = some (.struct (Try.prog.fieldsOf 30)) := by kernel_rfl
theorem eqTree_same (d : Nat) (I seed : List UInt8) (z y : Int) (hI : I.length = 16) (hs : seed.length = 32) (w : World) : (Op.equalIn (d + 3) 25 (.agg (tcs I seed z y).toArray) (.agg (tcs I seed z y).toArray)).run Try.prog w = .ok true w := by
  rw [run_equalIn_struct w (d + 2) _ _ _ uTree (by kernel_rfl)]
  obtain ⟨i0, hi, _⟩ := info_parts info5
  refine eqFields_same _ _ _ _ (fun f hf => ?_)
  obtain ⟨b, hm⟩ := field_of fTree hf
  simp only [List.mem_cons, Prod.mk.injEq, List.not_mem_nil, or_false] at hm
  rcases hm with ⟨-, h1, h2⟩ | ⟨-, h1, h2⟩ | ⟨-, h1, h2⟩ | ⟨-, h1, h2⟩
  · rw [h1, h2]
    refine ⟨_, run_part_agg 22 _ 16 0 _ (bys I) tu22 rfl s22 ?_ w, ?_⟩
    · rw [List.drop_zero]; unfold tcs; rw [List.take_append_of_le_length (by rw [bys_length]; omega), List.take_of_length_le (by rw [bys_length]; omega)]
    · rw [show d + 2 = (d + 1) + 1 from rfl, run_equalIn_array w (d + 1) _ _ tu22 hi, c5]
      exact eqItems_same w d 5 .u8 Try.underlying5 (bys I) (bys_ints I) _ (fun j hj => by rw [bys_length, hI]; simpa using hj)
  · rw [h1, h2]
    refine ⟨_, run_part_agg 23 _ 32 16 _ (bys seed) tu24 rfl s24 ?_ w, ?_⟩
    · unfold tcs; rw [List.drop_append, List.drop_of_length_le (by rw [bys_length]; omega), bys_length, hI, Nat.sub_self, List.drop_zero, List.nil_append, List.take_append_of_le_length (by rw [bys_length]; omega), List.take_of_length_le (by rw [bys_length]; omega)]
    · rw [show d + 2 = (d + 1) + 1 from rfl, run_equalIn_array w (d + 1) _ _ tu24 hi, c5]
      exact eqItems_same w d 5 .u8 Try.underlying5 (bys seed) (bys_ints seed) _ (fun j hj => by rw [bys_length, hs]; simpa using hj)
  · rw [h1, h2]
    exact ⟨_, run_part_int 3 .i64 48 _ _ Try.underlying3 (tcs_z I seed z y hI hs) w, eqInt_same _ _ _ _ Try.underlying3 w⟩
  · rw [h1, h2]
    exact ⟨_, run_part_int 3 .i64 49 _ _ Try.underlying3 (tcs_y I seed z y hI hs) w, eqInt_same _ _ _ _ Try.underlying3 w⟩
theorem eqPurse_same (I seed : List UInt8) (z y n m s : Int) (hI : I.length = 16) (hs : seed.length = 32) (w : World) : (Op.equalIn 10000 30 (.agg (pcs I seed z y n m s).toArray) (.agg (pcs I seed z y n m s).toArray)).run Try.prog w = .ok true w := by
  rw [show 10000 = 9999 + 1 from rfl, run_equalIn_struct w 9999 _ _ _ uPurse (by kernel_rfl)]
  refine eqFields_same _ _ _ _ (fun f hf => ?_)
  obtain ⟨b, hm⟩ := field_of fPurse hf
  simp only [List.mem_cons, Prod.mk.injEq, List.not_mem_nil, or_false] at hm
  rcases hm with ⟨-, h1, h2⟩ | ⟨-, h1, h2⟩ | ⟨-, h1, h2⟩ | ⟨-, h1, h2⟩
  · rw [h1, h2]
    obtain ⟨d, hu, hd⟩ := rowTree
    refine ⟨_, run_part_agg 25 d 50 0 _ (tcs I seed z y) hu hd sTree ?_ w, eqTree_same 9996 I seed z y hI hs w⟩
    rw [List.drop_zero]; unfold pcs; rw [List.take_append_of_le_length (by rw [tcs_length I seed z y hI hs]; omega), List.take_of_length_le (by rw [tcs_length I seed z y hI hs]; omega)]
  · rw [h1, h2]
    exact ⟨_, run_part_int 3 .i64 50 _ _ Try.underlying3 (pcs_n I seed z y n m s hI hs) w, eqInt_same _ _ _ _ Try.underlying3 w⟩
  · rw [h1, h2]
    exact ⟨_, run_part_int 3 .i64 51 _ _ Try.underlying3 (pcs_m I seed z y n m s hI hs) w, eqInt_same _ _ _ _ Try.underlying3 w⟩
  · rw [h1, h2]
    exact ⟨_, run_part_int 3 .i64 52 _ _ Try.underlying3 (pcs_s I seed z y n m s hI hs) w, eqInt_same _ _ _ _ Try.underlying3 w⟩

theorem run_eql_agg {P : Program} {o : Oper} {a : Act} {w : World} (t t2 : TypeId) (x y : Operand) (ho : o.op = .binOp .eql t x y t2) (xs ys : Array Value) (hx : a.eval x = .agg xs) (hy : a.eval y = .agg ys) (hg : P.eqGuardType P.depth t = false) (r : Bool) (he : (Op.equalIn 10000 t (.agg xs) (.agg ys)).run P w = .ok r w) :
    (execOp a.eval o).run P w = .ok (.value (.bool r)) w := by
  unfold execOp
  simp only [ho, hx, hy]
  have e : (binOp .eql t (.agg xs) (.agg ys)).run P w = .ok (.bool r) w := by
    show (do pure (Value.bool (← Op.equal t (.agg xs) (.agg ys))) : Sem Value).run P w = _
    unfold Op.equal
    simp only [Sem.run_bind, show Op.maxDepth = 10000 from rfl, he, Result.andThen_ok, Sem.run_pure]
  simp only [Sem.run_bind, run_eqGuard_agg w .eql t x y xs ys hg, Result.andThen_ok, e, Sem.run_pure]
theorem run_neq_agg {P : Program} {o : Oper} {a : Act} {w : World} (t t2 : TypeId) (x y : Operand) (ho : o.op = .binOp .neq t x y t2) (xs ys : Array Value) (hx : a.eval x = .agg xs) (hy : a.eval y = .agg ys) (hg : P.eqGuardType P.depth t = false) (r : Bool) (he : (Op.equalIn 10000 t (.agg xs) (.agg ys)).run P w = .ok r w) :
    (execOp a.eval o).run P w = .ok (.value (.bool (!r))) w := by
  unfold execOp
  simp only [ho, hx, hy]
  have e : (binOp .neq t (.agg xs) (.agg ys)).run P w = .ok (.bool (!r)) w := by
    show (do pure (Value.bool (!(← Op.equal t (.agg xs) (.agg ys)))) : Sem Value).run P w = _
    unfold Op.equal
    simp only [Sem.run_bind, show Op.maxDepth = 10000 from rfl, he, Result.andThen_ok, Sem.run_pure]
  simp only [Sem.run_bind, run_eqGuard_agg w .neq t x y xs ys hg, Result.andThen_ok, e, Sem.run_pure]
theorem wpList_runG {P : Program} {w : World} {ops : Array Oper} {rest : List Oper} {o : Oper} {a : Act} {Q : Exit → Act → World → Prop} (v : Value) (hr : (execOp a.eval o).run P w = .ok (.value v) w) (hw : Region.wanted o (yielded ops a.tmps) = true)
    (h : wpList P ops Q rest (a.put o.dst v) w) : wpList P ops Q (o :: rest) a w := by
  refine BigFrame.wpList_want hw (fun K hK => ?_)
  unfold Oper.wp
  rw [hr]
  exact hK _ _ h
theorem gPurse : Try.prog.eqGuardType Try.prog.depth 30 = false := by kernel_rfl
end Go.Proofs.Ythkanlkjdmlafaa
