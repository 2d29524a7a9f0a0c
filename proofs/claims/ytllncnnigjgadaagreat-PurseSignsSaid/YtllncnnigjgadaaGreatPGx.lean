/-
  A purse, compared with itself, is equal.
-/
import Derived.Test.YtllncnnigjgadaaGreatPF
import Derived.Laws.StructEq
import Derived.Test.YtllncnnigjgadaaGreatPG
import Derived.Test.YtllncnnigjgadaaGreatDDx
import Derived.Test.YtllncnnigjgadaaGreatLAx
import Derived.Test.YtllncnnigjgadaaGreatOBx
import Derived.Test.YtllncnnigjgadaaGreatPAx
import Derived.Test.YtllncnnigjgadaaGreatPBx
import Derived.Test.YtllncnnigjgadaaGreatPCx
import Derived.Test.YtllncnnigjgadaaGreatPDx
import Derived.Test.YtllncnnigjgadaaGreatRBx
import Derived.Test.YtllncnnigjgadaaGreatSXx
namespace Go.Proofs.YtllncnnigjgadaaGreat
open Go.RowKit

theorem run_sizeOf_of {P : Program} (t : TypeId) (n : Nat) (h : (P.info? t).map (·.size) = some n) (w : World) : (sizeOf t).run P w = .ok n w := by
  cases hq : P.info? t with
  | none => rw [hq] at h; cases h
  | some i =>
    rw [hq] at h
    simp only [Option.map_some, Option.some.injEq] at h
    simp [sizeOf, typeInfo, hq, h]
theorem run_part_agg {P : Program} (t : TypeId) (d : TypeDesc) (n off : Nat) (cs cs' : List Value) (hu : P.underlying t = some d) (hd : d.isRow = true) (hn : (P.info? t).map (·.size) = some n) (he : (cs.drop off).take n = cs') (w : World) : (part t cs.toArray off).run P w = .ok (.agg cs'.toArray) w := by
  have ha : (isAgg t).run P w = .ok true w := by
    unfold isAgg
    simp only [Sem.run_bind, run_underlying hu, Result.andThen_ok]
    cases d <;> first | rfl | cases hd
  unfold part
  simp only [Sem.run_bind, ha, Result.andThen_ok, if_true, run_sizeOf_of t n hn, Sem.run_pure]
  congr 2
  rw [← he]
  simp
theorem run_part_int {P : Program} (t : TypeId) (k : IntKind) (off : Nat) (cs : List Value) (v : Value) (hu : P.underlying t = some (.int k)) (he : cs[off]? = some v) (w : World) : (part t cs.toArray off).run P w = .ok v w := by
  simp [part, isAgg, run_underlying hu, he]
theorem eqInt_same {P : Program} (t : TypeId) (k : IntKind) (z : Int) (d : Nat) (hu : P.underlying t = some (.int k)) (w : World) : (Op.equalIn (d + 1) t (.int k z) (.int k z)).run P w = .ok true w := by
  rw [run_equalIn_int w d t k k z z hu]; simp

/-- Fields that are all equal to themselves. -/
theorem eqFields_same {P : Program} (d : Nat) (cs : List Value) (w : World) : ∀ (fs : List Field), (∀ f ∈ fs, ∃ v, (part f.type cs.toArray f.offset).run P w = .ok v w ∧ (Op.equalIn d f.type v v).run P w = .ok true w) → (Op.eqFields d cs.toArray cs.toArray fs).run P w = .ok true w
  | [], _ => by simp [Op.eqFields]
  | f :: fs, h => by
    obtain ⟨v, h1, h2⟩ := h f (by simp)
    have ih := eqFields_same d cs w fs (fun g hg => h g (by simp [hg]))
    unfold Op.eqFields
    split
    · simp only [Sem.run_bind, h1, h2, Result.andThen_ok, Bool.not_true, Bool.false_eq_true, if_false]
      exact ih
    · exact ih
theorem field_of {fs : List Field} {l : List (Bool × TypeId × Nat)} (h : fs.map (fun f => (f.name == "_", f.type, f.offset)) = l) {f : Field} (hf : f ∈ fs) : ∃ b, (b, f.type, f.offset) ∈ l := by
  refine ⟨f.name == "_", ?_⟩
  rw [← h]
  exact List.mem_map.2 ⟨f, hf, rfl⟩
theorem run_eql_agg {P : Program} {o : Oper} {a : Act} {w : World} (t t2 : TypeId) (x y : Operand) (ho : o.op = .binOp .eql t x y t2) (xs ys : Array Value) (hx : a.eval x = .agg xs) (hy : a.eval y = .agg ys) (hg : P.eqGuardType P.depth t = false) (r : Bool) (he : (Op.equalIn 10000 t (.agg xs) (.agg ys)).run P w = .ok r w) :
    (execOp a.eval o).run P w = .ok (.value (.bool r)) w := by
  unfold execOp
  simp only [ho, hx, hy]
  have e : (binOp .eql t (.agg xs) (.agg ys)).run P w = .ok (.bool r) w := by
    show (do pure (Value.bool (← Op.equal t (.agg xs) (.agg ys))) : Sem Value).run P w = _
    unfold Op.equal
    simp only [Sem.run_bind, show Op.maxDepth = 10000 from rfl, he, Result.andThen_ok, Sem.run_pure]
  simp only [Sem.run_bind, run_eqGuard_agg w .eql t x y xs ys hg, Result.andThen_ok, e, Sem.run_pure]
theorem run_neq_agg {P : Program} {o : Oper} {a : Act} {w : World} (t t2 : TypeId) (x y : Operand) (ho : o.op = .binOp .neq t x y t2) (xs ys : Array Value) (hx : a.eval x = .agg xs) (hy : a.eval y = .agg ys) (hg : P.eqGuardType P.depth t = false) (r : Bool) (he : (Op.equalIn 10000 t (.agg xs) (.agg ys)).run P w = .ok r w) :
    (execOp a.eval o).run P w = .ok (.value (.bool (!r))) w := by
  unfold execOp
  simp only [ho, hx, hy]
  have e : (binOp .neq t (.agg xs) (.agg ys)).run P w = .ok (.bool (!r)) w := by
    show (do pure (Value.bool (!(← Op.equal t (.agg xs) (.agg ys)))) : Sem Value).run P w = _
    unfold Op.equal
    simp only [Sem.run_bind, show Op.maxDepth = 10000 from rfl, he, Result.andThen_ok, Sem.run_pure]
  simp only [Sem.run_bind, run_eqGuard_agg w .neq t x y xs ys hg, Result.andThen_ok, e, Sem.run_pure]
end Go.Proofs.YtllncnnigjgadaaGreat
