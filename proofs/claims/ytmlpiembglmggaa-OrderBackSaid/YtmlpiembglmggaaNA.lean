/-
  Orders in memory: their cells, what two compared come to.
-/
import Derived.Test.YtmlpiembglmggaaO0
import Derived.Test.YtmlpiembglmggaaY1
import Derived.Test.YtmlpiembglmggaaRZ
namespace Go.Proofs.Ytmlpiembglmggaa
open Go.RowKit

/-- Or: its cells. -/
def orc (x : Or) : List Value := [.int .i64 (oC x), .int .i64 (oQ x), .int .i64 (oK x), txt (oP x), txt (oV x), .int .i64 (oR x), .int .i64 (oS x), .int .i64 (oT x)]
theorem orc_one (x : Or) : ∀ u ∈ orc x, u.oneCell' = true := by
  intro u hu
  unfold orc at hu
  simp only [List.mem_cons, List.not_mem_nil, or_false] at hu
  rcases hu with rfl | rfl | rfl | rfl | rfl | rfl | rfl | rfl <;> rfl
def OrK : RowK Or := { enc := orc, k := 8, d := or0, len := fun _ => rfl, one := orc_one, pos := by decide }
theorem orc_all (x : Or) : (orc x).toArray.all (·.oneCell') = true := enc_all OrK x
theorem RdE.atOr {B : Nat} {w : World} {A : Option Addr} {n c : Nat} {l : List Or} (h : RdE OrK B w (.slice A n c) l) (j : Nat) (hj : j < l.length) :
    ∃ a, A = some a ∧ w.cell? (a.add (j * 8)) = some (.int .i64 (oC (l.getD j or0))) ∧ w.cell? ⟨(a.add (j * 8)).block, (a.add (j * 8)).off + 1, none⟩ = some (.int .i64 (oQ (l.getD j or0))) ∧ w.cell? ⟨(a.add (j * 8)).block, (a.add (j * 8)).off + 2, none⟩ = some (.int .i64 (oK (l.getD j or0))) ∧ w.cell? ⟨(a.add (j * 8)).block, (a.add (j * 8)).off + 3, none⟩ = some (txt (oP (l.getD j or0))) ∧ w.cell? ⟨(a.add (j * 8)).block, (a.add (j * 8)).off + 4, none⟩ = some (txt (oV (l.getD j or0))) ∧ w.cell? ⟨(a.add (j * 8)).block, (a.add (j * 8)).off + 5, none⟩ = some (.int .i64 (oR (l.getD j or0))) ∧ w.cell? ⟨(a.add (j * 8)).block, (a.add (j * 8)).off + 6, none⟩ = some (.int .i64 (oS (l.getD j or0))) ∧ w.cell? ⟨(a.add (j * 8)).block, (a.add (j * 8)).off + 7, none⟩ = some (.int .i64 (oT (l.getD j or0))) := by
  obtain ⟨a, ha, hc⟩ := h.cells j hj
  exact ⟨a, ha, hc 0 (by decide), hc 1 (by decide), hc 2 (by decide), hc 3 (by decide), hc 4 (by decide), hc 5 (by decide), hc 6 (by decide), hc 7 (by decide)⟩
theorem eqFOr (d : Nat) (x y : Or) (w : World) (fs : List Field) (h : fs.map (fun f => (f.name == "_", f.type, f.offset)) = [(false, 3, 0), (false, 3, 1), (false, 3, 2), (false, 9, 3), (false, 9, 4), (false, 3, 5), (false, 3, 6), (false, 3, 7)]) :
    (Op.eqFields (d + 1) (orc x).toArray (orc y).toArray fs).run Try.prog w = .ok (decide (x = y)) w := by
  obtain ⟨f0, f1, f2, f3, f4, f5, f6, f7, rfl⟩ : ∃ f0 f1 f2 f3 f4 f5 f6 f7, fs = [f0, f1, f2, f3, f4, f5, f6, f7] := by
    have hl := congrArg List.length h
    rw [List.length_map] at hl
    match fs, hl with
    | [f0, f1, f2, f3, f4, f5, f6, f7], _ => exact ⟨f0, f1, f2, f3, f4, f5, f6, f7, rfl⟩
  simp only [List.map_cons, List.map_nil, List.cons.injEq, Prod.mk.injEq, and_true] at h
  obtain ⟨⟨n0, q0, o0⟩, ⟨n1, q1, o1⟩, ⟨n2, q2, o2⟩, ⟨n3, q3, o3⟩, ⟨n4, q4, o4⟩, ⟨n5, q5, o5⟩, ⟨n6, q6, o6⟩, ⟨n7, q7, o7⟩⟩ := h
  have m0 : f0.name ≠ "_" := by simpa using n0
  have m1 : f1.name ≠ "_" := by simpa using n1
  have m2 : f2.name ≠ "_" := by simpa using n2
  have m3 : f3.name ≠ "_" := by simpa using n3
  have m4 : f4.name ≠ "_" := by simpa using n4
  have m5 : f5.name ≠ "_" := by simpa using n5
  have m6 : f6.name ≠ "_" := by simpa using n6
  have m7 : f7.name ≠ "_" := by simpa using n7
  have p0 : ∀ z : Or, (part f0.type (orc z).toArray f0.offset).run Try.prog w = .ok (.int .i64 (oC z)) w := fun z => by rw [q0, o0]; exact run_part_cell _ _ _ _ Try.isAgg3 rfl w
  have e0' : (Op.equalIn (d + 1) f0.type (.int .i64 (oC x)) (.int .i64 (oC y))).run Try.prog w = .ok (oC x == oC y) w := by rw [q0, run_equalIn_int w d _ _ _ _ _ Try.underlying3]
  have p1 : ∀ z : Or, (part f1.type (orc z).toArray f1.offset).run Try.prog w = .ok (.int .i64 (oQ z)) w := fun z => by rw [q1, o1]; exact run_part_cell _ _ _ _ Try.isAgg3 rfl w
  have e1' : (Op.equalIn (d + 1) f1.type (.int .i64 (oQ x)) (.int .i64 (oQ y))).run Try.prog w = .ok (oQ x == oQ y) w := by rw [q1, run_equalIn_int w d _ _ _ _ _ Try.underlying3]
  have p2 : ∀ z : Or, (part f2.type (orc z).toArray f2.offset).run Try.prog w = .ok (.int .i64 (oK z)) w := fun z => by rw [q2, o2]; exact run_part_cell _ _ _ _ Try.isAgg3 rfl w
  have e2' : (Op.equalIn (d + 1) f2.type (.int .i64 (oK x)) (.int .i64 (oK y))).run Try.prog w = .ok (oK x == oK y) w := by rw [q2, run_equalIn_int w d _ _ _ _ _ Try.underlying3]
  have p3 : ∀ z : Or, (part f3.type (orc z).toArray f3.offset).run Try.prog w = .ok (txt (oP z)) w := fun z => by rw [q3, o3]; exact run_part_cell _ _ _ _ Try.isAgg9 rfl w
  have e3' : (Op.equalIn (d + 1) f3.type (txt (oP x)) (txt (oP y))).run Try.prog w = .ok (oP x == oP y) w := by rw [q3, run_equalIn_string w d _ _ _ Try.underlying9, toList_txtE, toList_txtE]
  have p4 : ∀ z : Or, (part f4.type (orc z).toArray f4.offset).run Try.prog w = .ok (txt (oV z)) w := fun z => by rw [q4, o4]; exact run_part_cell _ _ _ _ Try.isAgg9 rfl w
  have e4' : (Op.equalIn (d + 1) f4.type (txt (oV x)) (txt (oV y))).run Try.prog w = .ok (oV x == oV y) w := by rw [q4, run_equalIn_string w d _ _ _ Try.underlying9, toList_txtE, toList_txtE]
  have p5 : ∀ z : Or, (part f5.type (orc z).toArray f5.offset).run Try.prog w = .ok (.int .i64 (oR z)) w := fun z => by rw [q5, o5]; exact run_part_cell _ _ _ _ Try.isAgg3 rfl w
  have e5' : (Op.equalIn (d + 1) f5.type (.int .i64 (oR x)) (.int .i64 (oR y))).run Try.prog w = .ok (oR x == oR y) w := by rw [q5, run_equalIn_int w d _ _ _ _ _ Try.underlying3]
  have p6 : ∀ z : Or, (part f6.type (orc z).toArray f6.offset).run Try.prog w = .ok (.int .i64 (oS z)) w := fun z => by rw [q6, o6]; exact run_part_cell _ _ _ _ Try.isAgg3 rfl w
  have e6' : (Op.equalIn (d + 1) f6.type (.int .i64 (oS x)) (.int .i64 (oS y))).run Try.prog w = .ok (oS x == oS y) w := by rw [q6, run_equalIn_int w d _ _ _ _ _ Try.underlying3]
  have p7 : ∀ z : Or, (part f7.type (orc z).toArray f7.offset).run Try.prog w = .ok (.int .i64 (oT z)) w := fun z => by rw [q7, o7]; exact run_part_cell _ _ _ _ Try.isAgg3 rfl w
  have e7' : (Op.equalIn (d + 1) f7.type (.int .i64 (oT x)) (.int .i64 (oT y))).run Try.prog w = .ok (oT x == oT y) w := by rw [q7, run_equalIn_int w d _ _ _ _ _ Try.underlying3]
  obtain ⟨a0, a1, a2, a3, a4, a5, a6, a7⟩ := x
  obtain ⟨b0, b1, b2, b3, b4, b5, b6, b7⟩ := y
  simp only [Op.eqFields, if_pos m0, if_pos m1, if_pos m2, if_pos m3, if_pos m4, if_pos m5, if_pos m6, if_pos m7, Sem.run_bind, p0, p1, p2, p3, p4, p5, p6, p7, e0', e1', e2', e3', e4', e5', e6', e7', Result.andThen_ok, Sem.run_ite, Sem.run_pure]
  clear p0 e0' p1 e1' p2 e2' p3 e3' p4 e4' p5 e5' p6 e6' p7 e7'
  by_cases h0 : a0 = b0
  case neg => simp [h0]
  subst h0
  by_cases h1 : a1 = b1
  case neg => simp [h1]
  subst h1
  by_cases h2 : a2 = b2
  case neg => simp [h2]
  subst h2
  by_cases h3 : a3 = b3
  case neg => simp [h3]
  subst h3
  by_cases h4 : a4 = b4
  case neg => simp [h4]
  subst h4
  by_cases h5 : a5 = b5
  case neg => simp [h5]
  subst h5
  by_cases h6 : a6 = b6
  case neg => simp [h6]
  subst h6
  by_cases h7 : a7 = b7
  case neg => simp [h7]
  subst h7
  simp
theorem rowOrR : ∃ d, Try.prog.underlying 33 = some d ∧ d.isRow = true := ⟨_, Try.underlying33, rfl⟩
theorem szOrR : (Try.prog.info? 33).map (·.size) = some 8 := by kernel_rfl
theorem zeroOrR : (Try.prog.info? 33).map (·.zero) = some (some (.agg (orc or0).toArray)) := by kernel_rfl
theorem kindOrR : KindOf Try.prog 33 OrK 80 := kind_of (z := .agg (orc or0).toArray) (by kernel_rfl) rfl
theorem eqTOrR (d : Nat) (x y : Or) (w : World) : (Op.equalIn (d + 2) 33 (.agg (orc x).toArray) (.agg (orc y).toArray)).run Try.prog w = .ok (decide (x = y)) w := by
  rw [run_equalIn_struct w (d + 1) _ _ _ (show Try.prog.underlying 33 = some (.struct (Try.prog.fieldsOf 33)) by kernel_rfl) (by kernel_rfl)]
  exact eqFOr d x y w _ (by kernel_rfl)
theorem run_eqlOrR (x y : Or) (w : World) : (binOp .eql 33 (.agg #[.int .i64 (oC x), .int .i64 (oQ x), .int .i64 (oK x), txt (oP x), txt (oV x), .int .i64 (oR x), .int .i64 (oS x), .int .i64 (oT x)]) (.agg #[.int .i64 (oC y), .int .i64 (oQ y), .int .i64 (oK y), txt (oP y), txt (oV y), .int .i64 (oR y), .int .i64 (oS y), .int .i64 (oT y)])).run Try.prog w = .ok (.bool (decide (x = y))) w := by
  rw [run_eql_struct, show (Value.agg #[.int .i64 (oC x), .int .i64 (oQ x), .int .i64 (oK x), txt (oP x), txt (oV x), .int .i64 (oR x), .int .i64 (oS x), .int .i64 (oT x)]) = Value.agg (orc x).toArray from rfl, show (Value.agg #[.int .i64 (oC y), .int .i64 (oQ y), .int .i64 (oK y), txt (oP y), txt (oV y), .int .i64 (oR y), .int .i64 (oS y), .int .i64 (oT y)]) = Value.agg (orc y).toArray from rfl, show (10000 : Nat) = 9998 + 2 from rfl, eqTOrR]
  rfl
theorem run_neqOrR (x y : Or) (w : World) : (binOp .neq 33 (.agg #[.int .i64 (oC x), .int .i64 (oQ x), .int .i64 (oK x), txt (oP x), txt (oV x), .int .i64 (oR x), .int .i64 (oS x), .int .i64 (oT x)]) (.agg #[.int .i64 (oC y), .int .i64 (oQ y), .int .i64 (oK y), txt (oP y), txt (oV y), .int .i64 (oR y), .int .i64 (oS y), .int .i64 (oT y)])).run Try.prog w = .ok (.bool (!decide (x = y))) w := by
  rw [run_neq_struct, show (Value.agg #[.int .i64 (oC x), .int .i64 (oQ x), .int .i64 (oK x), txt (oP x), txt (oV x), .int .i64 (oR x), .int .i64 (oS x), .int .i64 (oT x)]) = Value.agg (orc x).toArray from rfl, show (Value.agg #[.int .i64 (oC y), .int .i64 (oQ y), .int .i64 (oK y), txt (oP y), txt (oV y), .int .i64 (oR y), .int .i64 (oS y), .int .i64 (oT y)]) = Value.agg (orc y).toArray from rfl, show (10000 : Nat) = 9998 + 2 from rfl, eqTOrR]
  rfl
theorem rowOrP : ∃ d, Try.prog.underlying 24 = some d ∧ d.isRow = true := ⟨_, Try.underlying24, rfl⟩
theorem szOrP : (Try.prog.info? 24).map (·.size) = some 8 := by kernel_rfl
theorem zeroOrP : (Try.prog.info? 24).map (·.zero) = some (some (.agg (orc or0).toArray)) := by kernel_rfl
theorem kindOrP : KindOf Try.prog 24 OrK 80 := kind_of (z := .agg (orc or0).toArray) (by kernel_rfl) rfl
theorem eqTOrP (d : Nat) (x y : Or) (w : World) : (Op.equalIn (d + 2) 24 (.agg (orc x).toArray) (.agg (orc y).toArray)).run Try.prog w = .ok (decide (x = y)) w := by
  rw [run_equalIn_struct w (d + 1) _ _ _ (show Try.prog.underlying 24 = some (.struct (Try.prog.fieldsOf 24)) by kernel_rfl) (by kernel_rfl)]
  exact eqFOr d x y w _ (by kernel_rfl)
theorem run_eqlOrP (x y : Or) (w : World) : (binOp .eql 24 (.agg #[.int .i64 (oC x), .int .i64 (oQ x), .int .i64 (oK x), txt (oP x), txt (oV x), .int .i64 (oR x), .int .i64 (oS x), .int .i64 (oT x)]) (.agg #[.int .i64 (oC y), .int .i64 (oQ y), .int .i64 (oK y), txt (oP y), txt (oV y), .int .i64 (oR y), .int .i64 (oS y), .int .i64 (oT y)])).run Try.prog w = .ok (.bool (decide (x = y))) w := by
  rw [run_eql_struct, show (Value.agg #[.int .i64 (oC x), .int .i64 (oQ x), .int .i64 (oK x), txt (oP x), txt (oV x), .int .i64 (oR x), .int .i64 (oS x), .int .i64 (oT x)]) = Value.agg (orc x).toArray from rfl, show (Value.agg #[.int .i64 (oC y), .int .i64 (oQ y), .int .i64 (oK y), txt (oP y), txt (oV y), .int .i64 (oR y), .int .i64 (oS y), .int .i64 (oT y)]) = Value.agg (orc y).toArray from rfl, show (10000 : Nat) = 9998 + 2 from rfl, eqTOrP]
  rfl
theorem run_neqOrP (x y : Or) (w : World) : (binOp .neq 24 (.agg #[.int .i64 (oC x), .int .i64 (oQ x), .int .i64 (oK x), txt (oP x), txt (oV x), .int .i64 (oR x), .int .i64 (oS x), .int .i64 (oT x)]) (.agg #[.int .i64 (oC y), .int .i64 (oQ y), .int .i64 (oK y), txt (oP y), txt (oV y), .int .i64 (oR y), .int .i64 (oS y), .int .i64 (oT y)])).run Try.prog w = .ok (.bool (!decide (x = y))) w := by
  rw [run_neq_struct, show (Value.agg #[.int .i64 (oC x), .int .i64 (oQ x), .int .i64 (oK x), txt (oP x), txt (oV x), .int .i64 (oR x), .int .i64 (oS x), .int .i64 (oT x)]) = Value.agg (orc x).toArray from rfl, show (Value.agg #[.int .i64 (oC y), .int .i64 (oQ y), .int .i64 (oK y), txt (oP y), txt (oV y), .int .i64 (oR y), .int .i64 (oS y), .int .i64 (oT y)]) = Value.agg (orc y).toArray from rfl, show (10000 : Nat) = 9998 + 2 from rfl, eqTOrP]
  rfl
end Go.Proofs.Ytmlpiembglmggaa
