/-
  Watches, changes, events in memory: their cells, what two compared come to.
-/
import Derived.Test.YtmiomfonglmfjaaU0
import Derived.Test.YtmiomfonglmfjaaR5
namespace Go.Proofs.Ytmiomfonglmfjaa
open Go.RowKit

/-- Wa: its cells. -/
def wac (x : Wa) : List Value := [txt (wP x), .int .i64 (wC x), .bool (wK x)]
theorem wac_one (x : Wa) : ∀ u ∈ wac x, u.oneCell' = true := by
  intro u hu
  unfold wac at hu
  simp only [List.mem_cons, List.not_mem_nil, or_false] at hu
  rcases hu with rfl | rfl | rfl <;> rfl
def WaK : RowK Wa := { enc := wac, k := 3, d := wa0, len := fun _ => rfl, one := wac_one, pos := by decide }
theorem wac_all (x : Wa) : (wac x).toArray.all (·.oneCell') = true := enc_all WaK x
theorem RdE.atWa {B : Nat} {w : World} {A : Option Addr} {n c : Nat} {l : List Wa} (h : RdE WaK B w (.slice A n c) l) (j : Nat) (hj : j < l.length) :
    ∃ a, A = some a ∧ w.cell? (a.add (j * 3)) = some (txt (wP (l.getD j wa0))) ∧ w.cell? ⟨(a.add (j * 3)).block, (a.add (j * 3)).off + 1, none⟩ = some (.int .i64 (wC (l.getD j wa0))) ∧ w.cell? ⟨(a.add (j * 3)).block, (a.add (j * 3)).off + 2, none⟩ = some (.bool (wK (l.getD j wa0))) := by
  obtain ⟨a, ha, hc⟩ := h.cells j hj
  exact ⟨a, ha, hc 0 (by decide), hc 1 (by decide), hc 2 (by decide)⟩
theorem eqFWa (d : Nat) (x y : Wa) (w : World) (fs : List Field) (h : fs.map (fun f => (f.name == "_", f.type, f.offset)) = [(false, 9, 0), (false, 3, 1), (false, 4, 2)]) :
    (Op.eqFields (d + 1) (wac x).toArray (wac y).toArray fs).run Try.prog w = .ok (decide (x = y)) w := by
  obtain ⟨f0, f1, f2, rfl⟩ : ∃ f0 f1 f2, fs = [f0, f1, f2] := by
    have hl := congrArg List.length h
    rw [List.length_map] at hl
    match fs, hl with
    | [f0, f1, f2], _ => exact ⟨f0, f1, f2, rfl⟩
  simp only [List.map_cons, List.map_nil, List.cons.injEq, Prod.mk.injEq, and_true] at h
  obtain ⟨⟨n0, q0, o0⟩, ⟨n1, q1, o1⟩, ⟨n2, q2, o2⟩⟩ := h
  have m0 : f0.name ≠ "_" := by simpa using n0
  have m1 : f1.name ≠ "_" := by simpa using n1
  have m2 : f2.name ≠ "_" := by simpa using n2
  have p0 : ∀ z : Wa, (part f0.type (wac z).toArray f0.offset).run Try.prog w = .ok (txt (wP z)) w := fun z => by rw [q0, o0]; exact run_part_cell _ _ _ _ Try.isAgg9 rfl w
  have e0' : (Op.equalIn (d + 1) f0.type (txt (wP x)) (txt (wP y))).run Try.prog w = .ok (wP x == wP y) w := by rw [q0, run_equalIn_string w d _ _ _ Try.underlying9, toList_txtE, toList_txtE]
  have p1 : ∀ z : Wa, (part f1.type (wac z).toArray f1.offset).run Try.prog w = .ok (.int .i64 (wC z)) w := fun z => by rw [q1, o1]; exact run_part_cell _ _ _ _ Try.isAgg3 rfl w
  have e1' : (Op.equalIn (d + 1) f1.type (.int .i64 (wC x)) (.int .i64 (wC y))).run Try.prog w = .ok (wC x == wC y) w := by rw [q1, run_equalIn_int w d _ _ _ _ _ Try.underlying3]
  have p2 : ∀ z : Wa, (part f2.type (wac z).toArray f2.offset).run Try.prog w = .ok (.bool (wK z)) w := fun z => by rw [q2, o2]; exact run_part_cell _ _ _ _ Try.isAgg4 rfl w
  have e2' : (Op.equalIn (d + 1) f2.type (.bool (wK x)) (.bool (wK y))).run Try.prog w = .ok (wK x == wK y) w := by rw [q2, run_equalIn_bool' w d _ _ _ Try.underlying4]
  obtain ⟨a0, a1, a2⟩ := x
  obtain ⟨b0, b1, b2⟩ := y
  simp only [Op.eqFields, if_pos m0, if_pos m1, if_pos m2, Sem.run_bind, p0, p1, p2, e0', e1', e2', Result.andThen_ok, Sem.run_ite, Sem.run_pure]
  by_cases h0 : a0 = b0 <;> by_cases h1 : a1 = b1 <;> by_cases h2 : a2 = b2 <;> simp [h0, h1, h2]
theorem rowWaR : ∃ d, Try.prog.underlying 34 = some d ∧ d.isRow = true := ⟨_, Try.underlying34, rfl⟩
theorem szWaR : (Try.prog.info? 34).map (·.size) = some 3 := by kernel_rfl
theorem zeroWaR : (Try.prog.info? 34).map (·.zero) = some (some (.agg (wac wa0).toArray)) := by kernel_rfl
theorem kindWaR : KindOf Try.prog 34 WaK 32 := kind_of (z := .agg (wac wa0).toArray) (by kernel_rfl) rfl
theorem eqTWaR (d : Nat) (x y : Wa) (w : World) : (Op.equalIn (d + 2) 34 (.agg (wac x).toArray) (.agg (wac y).toArray)).run Try.prog w = .ok (decide (x = y)) w := by
  rw [run_equalIn_struct w (d + 1) _ _ _ (show Try.prog.underlying 34 = some (.struct (Try.prog.fieldsOf 34)) by kernel_rfl) (by kernel_rfl)]
  exact eqFWa d x y w _ (by kernel_rfl)
theorem run_eqlWaR (x y : Wa) (w : World) : (binOp .eql 34 (.agg #[txt (wP x), .int .i64 (wC x), .bool (wK x)]) (.agg #[txt (wP y), .int .i64 (wC y), .bool (wK y)])).run Try.prog w = .ok (.bool (decide (x = y))) w := by
  rw [run_eql_struct, show (Value.agg #[txt (wP x), .int .i64 (wC x), .bool (wK x)]) = Value.agg (wac x).toArray from rfl, show (Value.agg #[txt (wP y), .int .i64 (wC y), .bool (wK y)]) = Value.agg (wac y).toArray from rfl, show (10000 : Nat) = 9998 + 2 from rfl, eqTWaR]
  rfl
theorem run_neqWaR (x y : Wa) (w : World) : (binOp .neq 34 (.agg #[txt (wP x), .int .i64 (wC x), .bool (wK x)]) (.agg #[txt (wP y), .int .i64 (wC y), .bool (wK y)])).run Try.prog w = .ok (.bool (!decide (x = y))) w := by
  rw [run_neq_struct, show (Value.agg #[txt (wP x), .int .i64 (wC x), .bool (wK x)]) = Value.agg (wac x).toArray from rfl, show (Value.agg #[txt (wP y), .int .i64 (wC y), .bool (wK y)]) = Value.agg (wac y).toArray from rfl, show (10000 : Nat) = 9998 + 2 from rfl, eqTWaR]
  rfl
theorem rowWaP : ∃ d, Try.prog.underlying 31 = some d ∧ d.isRow = true := ⟨_, Try.underlying31, rfl⟩
theorem szWaP : (Try.prog.info? 31).map (·.size) = some 3 := by kernel_rfl
theorem zeroWaP : (Try.prog.info? 31).map (·.zero) = some (some (.agg (wac wa0).toArray)) := by kernel_rfl
theorem kindWaP : KindOf Try.prog 31 WaK 32 := kind_of (z := .agg (wac wa0).toArray) (by kernel_rfl) rfl
theorem eqTWaP (d : Nat) (x y : Wa) (w : World) : (Op.equalIn (d + 2) 31 (.agg (wac x).toArray) (.agg (wac y).toArray)).run Try.prog w = .ok (decide (x = y)) w := by
  rw [run_equalIn_struct w (d + 1) _ _ _ (show Try.prog.underlying 31 = some (.struct (Try.prog.fieldsOf 31)) by kernel_rfl) (by kernel_rfl)]
  exact eqFWa d x y w _ (by kernel_rfl)
theorem run_eqlWaP (x y : Wa) (w : World) : (binOp .eql 31 (.agg #[txt (wP x), .int .i64 (wC x), .bool (wK x)]) (.agg #[txt (wP y), .int .i64 (wC y), .bool (wK y)])).run Try.prog w = .ok (.bool (decide (x = y))) w := by
  rw [run_eql_struct, show (Value.agg #[txt (wP x), .int .i64 (wC x), .bool (wK x)]) = Value.agg (wac x).toArray from rfl, show (Value.agg #[txt (wP y), .int .i64 (wC y), .bool (wK y)]) = Value.agg (wac y).toArray from rfl, show (10000 : Nat) = 9998 + 2 from rfl, eqTWaP]
  rfl
theorem run_neqWaP (x y : Wa) (w : World) : (binOp .neq 31 (.agg #[txt (wP x), .int .i64 (wC x), .bool (wK x)]) (.agg #[txt (wP y), .int .i64 (wC y), .bool (wK y)])).run Try.prog w = .ok (.bool (!decide (x = y))) w := by
  rw [run_neq_struct, show (Value.agg #[txt (wP x), .int .i64 (wC x), .bool (wK x)]) = Value.agg (wac x).toArray from rfl, show (Value.agg #[txt (wP y), .int .i64 (wC y), .bool (wK y)]) = Value.agg (wac y).toArray from rfl, show (10000 : Nat) = 9998 + 2 from rfl, eqTWaP]
  rfl
/-- Ch: its cells. -/
def chc (x : Ch) : List Value := [.int .i64 (cK x), txt (cP x)]
theorem chc_one (x : Ch) : ∀ u ∈ chc x, u.oneCell' = true := by
  intro u hu
  unfold chc at hu
  simp only [List.mem_cons, List.not_mem_nil, or_false] at hu
  rcases hu with rfl | rfl <;> rfl
def ChK : RowK Ch := { enc := chc, k := 2, d := ch0, len := fun _ => rfl, one := chc_one, pos := by decide }
theorem chc_all (x : Ch) : (chc x).toArray.all (·.oneCell') = true := enc_all ChK x
theorem RdE.atCh {B : Nat} {w : World} {A : Option Addr} {n c : Nat} {l : List Ch} (h : RdE ChK B w (.slice A n c) l) (j : Nat) (hj : j < l.length) :
    ∃ a, A = some a ∧ w.cell? (a.add (j * 2)) = some (.int .i64 (cK (l.getD j ch0))) ∧ w.cell? ⟨(a.add (j * 2)).block, (a.add (j * 2)).off + 1, none⟩ = some (txt (cP (l.getD j ch0))) := by
  obtain ⟨a, ha, hc⟩ := h.cells j hj
  exact ⟨a, ha, hc 0 (by decide), hc 1 (by decide)⟩
theorem eqFCh (d : Nat) (x y : Ch) (w : World) (fs : List Field) (h : fs.map (fun f => (f.name == "_", f.type, f.offset)) = [(false, 3, 0), (false, 9, 1)]) :
    (Op.eqFields (d + 1) (chc x).toArray (chc y).toArray fs).run Try.prog w = .ok (decide (x = y)) w := by
  obtain ⟨f0, f1, rfl⟩ : ∃ f0 f1, fs = [f0, f1] := by
    have hl := congrArg List.length h
    rw [List.length_map] at hl
    match fs, hl with
    | [f0, f1], _ => exact ⟨f0, f1, rfl⟩
  simp only [List.map_cons, List.map_nil, List.cons.injEq, Prod.mk.injEq, and_true] at h
  obtain ⟨⟨n0, q0, o0⟩, ⟨n1, q1, o1⟩⟩ := h
  have m0 : f0.name ≠ "_" := by simpa using n0
  have m1 : f1.name ≠ "_" := by simpa using n1
  have p0 : ∀ z : Ch, (part f0.type (chc z).toArray f0.offset).run Try.prog w = .ok (.int .i64 (cK z)) w := fun z => by rw [q0, o0]; exact run_part_cell _ _ _ _ Try.isAgg3 rfl w
  have e0' : (Op.equalIn (d + 1) f0.type (.int .i64 (cK x)) (.int .i64 (cK y))).run Try.prog w = .ok (cK x == cK y) w := by rw [q0, run_equalIn_int w d _ _ _ _ _ Try.underlying3]
  have p1 : ∀ z : Ch, (part f1.type (chc z).toArray f1.offset).run Try.prog w = .ok (txt (cP z)) w := fun z => by rw [q1, o1]; exact run_part_cell _ _ _ _ Try.isAgg9 rfl w
  have e1' : (Op.equalIn (d + 1) f1.type (txt (cP x)) (txt (cP y))).run Try.prog w = .ok (cP x == cP y) w := by rw [q1, run_equalIn_string w d _ _ _ Try.underlying9, toList_txtE, toList_txtE]
  obtain ⟨a0, a1⟩ := x
  obtain ⟨b0, b1⟩ := y
  simp only [Op.eqFields, if_pos m0, if_pos m1, Sem.run_bind, p0, p1, e0', e1', Result.andThen_ok, Sem.run_ite, Sem.run_pure]
  by_cases h0 : a0 = b0 <;> by_cases h1 : a1 = b1 <;> simp [h0, h1]
theorem rowChR : ∃ d, Try.prog.underlying 33 = some d ∧ d.isRow = true := ⟨_, Try.underlying33, rfl⟩
theorem szChR : (Try.prog.info? 33).map (·.size) = some 2 := by kernel_rfl
theorem zeroChR : (Try.prog.info? 33).map (·.zero) = some (some (.agg (chc ch0).toArray)) := by kernel_rfl
theorem kindChR : KindOf Try.prog 33 ChK 24 := kind_of (z := .agg (chc ch0).toArray) (by kernel_rfl) rfl
theorem eqTChR (d : Nat) (x y : Ch) (w : World) : (Op.equalIn (d + 2) 33 (.agg (chc x).toArray) (.agg (chc y).toArray)).run Try.prog w = .ok (decide (x = y)) w := by
  rw [run_equalIn_struct w (d + 1) _ _ _ (show Try.prog.underlying 33 = some (.struct (Try.prog.fieldsOf 33)) by kernel_rfl) (by kernel_rfl)]
  exact eqFCh d x y w _ (by kernel_rfl)
theorem run_eqlChR (x y : Ch) (w : World) : (binOp .eql 33 (.agg #[.int .i64 (cK x), txt (cP x)]) (.agg #[.int .i64 (cK y), txt (cP y)])).run Try.prog w = .ok (.bool (decide (x = y))) w := by
  rw [run_eql_struct, show (Value.agg #[.int .i64 (cK x), txt (cP x)]) = Value.agg (chc x).toArray from rfl, show (Value.agg #[.int .i64 (cK y), txt (cP y)]) = Value.agg (chc y).toArray from rfl, show (10000 : Nat) = 9998 + 2 from rfl, eqTChR]
  rfl
theorem run_neqChR (x y : Ch) (w : World) : (binOp .neq 33 (.agg #[.int .i64 (cK x), txt (cP x)]) (.agg #[.int .i64 (cK y), txt (cP y)])).run Try.prog w = .ok (.bool (!decide (x = y))) w := by
  rw [run_neq_struct, show (Value.agg #[.int .i64 (cK x), txt (cP x)]) = Value.agg (chc x).toArray from rfl, show (Value.agg #[.int .i64 (cK y), txt (cP y)]) = Value.agg (chc y).toArray from rfl, show (10000 : Nat) = 9998 + 2 from rfl, eqTChR]
  rfl
theorem rowChP : ∃ d, Try.prog.underlying 26 = some d ∧ d.isRow = true := ⟨_, Try.underlying26, rfl⟩
theorem szChP : (Try.prog.info? 26).map (·.size) = some 2 := by kernel_rfl
theorem zeroChP : (Try.prog.info? 26).map (·.zero) = some (some (.agg (chc ch0).toArray)) := by kernel_rfl
theorem kindChP : KindOf Try.prog 26 ChK 24 := kind_of (z := .agg (chc ch0).toArray) (by kernel_rfl) rfl
theorem eqTChP (d : Nat) (x y : Ch) (w : World) : (Op.equalIn (d + 2) 26 (.agg (chc x).toArray) (.agg (chc y).toArray)).run Try.prog w = .ok (decide (x = y)) w := by
  rw [run_equalIn_struct w (d + 1) _ _ _ (show Try.prog.underlying 26 = some (.struct (Try.prog.fieldsOf 26)) by kernel_rfl) (by kernel_rfl)]
  exact eqFCh d x y w _ (by kernel_rfl)
theorem run_eqlChP (x y : Ch) (w : World) : (binOp .eql 26 (.agg #[.int .i64 (cK x), txt (cP x)]) (.agg #[.int .i64 (cK y), txt (cP y)])).run Try.prog w = .ok (.bool (decide (x = y))) w := by
  rw [run_eql_struct, show (Value.agg #[.int .i64 (cK x), txt (cP x)]) = Value.agg (chc x).toArray from rfl, show (Value.agg #[.int .i64 (cK y), txt (cP y)]) = Value.agg (chc y).toArray from rfl, show (10000 : Nat) = 9998 + 2 from rfl, eqTChP]
  rfl
theorem run_neqChP (x y : Ch) (w : World) : (binOp .neq 26 (.agg #[.int .i64 (cK x), txt (cP x)]) (.agg #[.int .i64 (cK y), txt (cP y)])).run Try.prog w = .ok (.bool (!decide (x = y))) w := by
  rw [run_neq_struct, show (Value.agg #[.int .i64 (cK x), txt (cP x)]) = Value.agg (chc x).toArray from rfl, show (Value.agg #[.int .i64 (cK y), txt (cP y)]) = Value.agg (chc y).toArray from rfl, show (10000 : Nat) = 9998 + 2 from rfl, eqTChP]
  rfl
/-- Ev: its cells. -/
def evc (x : Ev) : List Value := [txt (wP x.1), .int .i64 (wC x.1), .bool (wK x.1), .int .i64 (cK x.2), txt (cP x.2)]
theorem evc_one (x : Ev) : ∀ u ∈ evc x, u.oneCell' = true := by
  intro u hu
  unfold evc at hu
  simp only [List.mem_cons, List.not_mem_nil, or_false] at hu
  rcases hu with rfl | rfl | rfl | rfl | rfl <;> rfl
def EvK : RowK Ev := { enc := evc, k := 5, d := ev0, len := fun _ => rfl, one := evc_one, pos := by decide }
theorem evc_all (x : Ev) : (evc x).toArray.all (·.oneCell') = true := enc_all EvK x
theorem RdE.atEv {B : Nat} {w : World} {A : Option Addr} {n c : Nat} {l : List Ev} (h : RdE EvK B w (.slice A n c) l) (j : Nat) (hj : j < l.length) :
    ∃ a, A = some a ∧ w.cell? (a.add (j * 5)) = some (txt (wP (l.getD j ev0).1)) ∧ w.cell? ⟨(a.add (j * 5)).block, (a.add (j * 5)).off + 1, none⟩ = some (.int .i64 (wC (l.getD j ev0).1)) ∧ w.cell? ⟨(a.add (j * 5)).block, (a.add (j * 5)).off + 2, none⟩ = some (.bool (wK (l.getD j ev0).1)) ∧ w.cell? ⟨(a.add (j * 5)).block, (a.add (j * 5)).off + 3, none⟩ = some (.int .i64 (cK (l.getD j ev0).2)) ∧ w.cell? ⟨(a.add (j * 5)).block, (a.add (j * 5)).off + 4, none⟩ = some (txt (cP (l.getD j ev0).2)) := by
  obtain ⟨a, ha, hc⟩ := h.cells j hj
  exact ⟨a, ha, hc 0 (by decide), hc 1 (by decide), hc 2 (by decide), hc 3 (by decide), hc 4 (by decide)⟩
theorem eqFEv (d : Nat) (x y : Ev) (w : World) (fs : List Field) (t0 : TypeId) (t1 : TypeId) (h : fs.map (fun f => (f.name == "_", f.type, f.offset)) = [(false, t0, 0), (false, t1, 3)]) (u0 : ∃ d, Try.prog.underlying t0 = some d ∧ d.isRow = true) (z0 : (Try.prog.info? t0).map (·.size) = some 3) (e0 : ∀ (d : Nat) (x y : Wa) (w : World), (Op.equalIn (d + 2) t0 (.agg (wac x).toArray) (.agg (wac y).toArray)).run Try.prog w = .ok (decide (x = y)) w) (u1 : ∃ d, Try.prog.underlying t1 = some d ∧ d.isRow = true) (z1 : (Try.prog.info? t1).map (·.size) = some 2) (e1 : ∀ (d : Nat) (x y : Ch) (w : World), (Op.equalIn (d + 2) t1 (.agg (chc x).toArray) (.agg (chc y).toArray)).run Try.prog w = .ok (decide (x = y)) w) :
    (Op.eqFields (d + 2) (evc x).toArray (evc y).toArray fs).run Try.prog w = .ok (decide (x = y)) w := by
  obtain ⟨f0, f1, rfl⟩ : ∃ f0 f1, fs = [f0, f1] := by
    have hl := congrArg List.length h
    rw [List.length_map] at hl
    match fs, hl with
    | [f0, f1], _ => exact ⟨f0, f1, rfl⟩
  simp only [List.map_cons, List.map_nil, List.cons.injEq, Prod.mk.injEq, and_true] at h
  obtain ⟨⟨n0, q0, o0⟩, ⟨n1, q1, o1⟩⟩ := h
  have m0 : f0.name ≠ "_" := by simpa using n0
  have m1 : f1.name ≠ "_" := by simpa using n1
  obtain ⟨dd0, hu0, hd0⟩ := u0
  have p0 : ∀ z : Ev, (part f0.type (evc z).toArray f0.offset).run Try.prog w = .ok (.agg (wac (z.1)).toArray) w := fun z => by rw [q0, o0]; exact run_part_aggE _ dd0 3 _ _ _ hu0 hd0 z0 rfl w
  have e0' : (Op.equalIn (d + 2) f0.type (.agg (wac (x.1)).toArray) (.agg (wac (y.1)).toArray)).run Try.prog w = .ok (decide (x.1 = y.1)) w := by rw [q0]; exact e0 d _ _ w
  obtain ⟨dd1, hu1, hd1⟩ := u1
  have p1 : ∀ z : Ev, (part f1.type (evc z).toArray f1.offset).run Try.prog w = .ok (.agg (chc (z.2)).toArray) w := fun z => by rw [q1, o1]; exact run_part_aggE _ dd1 2 _ _ _ hu1 hd1 z1 rfl w
  have e1' : (Op.equalIn (d + 2) f1.type (.agg (chc (x.2)).toArray) (.agg (chc (y.2)).toArray)).run Try.prog w = .ok (decide (x.2 = y.2)) w := by rw [q1]; exact e1 d _ _ w
  obtain ⟨a0, a1⟩ := x
  obtain ⟨b0, b1⟩ := y
  simp only [Op.eqFields, if_pos m0, if_pos m1, Sem.run_bind, p0, p1, e0', e1', Result.andThen_ok, Sem.run_ite, Sem.run_pure]
  by_cases h0 : a0 = b0 <;> by_cases h1 : a1 = b1 <;> simp [h0, h1]
theorem rowEvR : ∃ d, Try.prog.underlying 79 = some d ∧ d.isRow = true := ⟨_, Try.underlying79, rfl⟩
theorem szEvR : (Try.prog.info? 79).map (·.size) = some 5 := by kernel_rfl
theorem zeroEvR : (Try.prog.info? 79).map (·.zero) = some (some (.agg (evc ev0).toArray)) := by kernel_rfl
theorem kindEvR : KindOf Try.prog 79 EvK 56 := kind_of (z := .agg (evc ev0).toArray) (by kernel_rfl) rfl
theorem eqTEvR (d : Nat) (x y : Ev) (w : World) : (Op.equalIn (d + 3) 79 (.agg (evc x).toArray) (.agg (evc y).toArray)).run Try.prog w = .ok (decide (x = y)) w := by
  rw [run_equalIn_struct w (d + 2) _ _ _ (show Try.prog.underlying 79 = some (.struct (Try.prog.fieldsOf 79)) by kernel_rfl) (by kernel_rfl)]
  exact eqFEv d x y w _ 34 33 (by kernel_rfl) rowWaR szWaR (fun d => eqTWaR d) rowChR szChR (fun d => eqTChR d)
theorem run_eqlEvR (x y : Ev) (w : World) : (binOp .eql 79 (.agg #[txt (wP x.1), .int .i64 (wC x.1), .bool (wK x.1), .int .i64 (cK x.2), txt (cP x.2)]) (.agg #[txt (wP y.1), .int .i64 (wC y.1), .bool (wK y.1), .int .i64 (cK y.2), txt (cP y.2)])).run Try.prog w = .ok (.bool (decide (x = y))) w := by
  rw [run_eql_struct, show (Value.agg #[txt (wP x.1), .int .i64 (wC x.1), .bool (wK x.1), .int .i64 (cK x.2), txt (cP x.2)]) = Value.agg (evc x).toArray from rfl, show (Value.agg #[txt (wP y.1), .int .i64 (wC y.1), .bool (wK y.1), .int .i64 (cK y.2), txt (cP y.2)]) = Value.agg (evc y).toArray from rfl, show (10000 : Nat) = 9997 + 3 from rfl, eqTEvR]
  rfl
theorem run_neqEvR (x y : Ev) (w : World) : (binOp .neq 79 (.agg #[txt (wP x.1), .int .i64 (wC x.1), .bool (wK x.1), .int .i64 (cK x.2), txt (cP x.2)]) (.agg #[txt (wP y.1), .int .i64 (wC y.1), .bool (wK y.1), .int .i64 (cK y.2), txt (cP y.2)])).run Try.prog w = .ok (.bool (!decide (x = y))) w := by
  rw [run_neq_struct, show (Value.agg #[txt (wP x.1), .int .i64 (wC x.1), .bool (wK x.1), .int .i64 (cK x.2), txt (cP x.2)]) = Value.agg (evc x).toArray from rfl, show (Value.agg #[txt (wP y.1), .int .i64 (wC y.1), .bool (wK y.1), .int .i64 (cK y.2), txt (cP y.2)]) = Value.agg (evc y).toArray from rfl, show (10000 : Nat) = 9997 + 3 from rfl, eqTEvR]
  rfl
theorem rowEvP : ∃ d, Try.prog.underlying 65 = some d ∧ d.isRow = true := ⟨_, Try.underlying65, rfl⟩
theorem szEvP : (Try.prog.info? 65).map (·.size) = some 5 := by kernel_rfl
theorem zeroEvP : (Try.prog.info? 65).map (·.zero) = some (some (.agg (evc ev0).toArray)) := by kernel_rfl
theorem kindEvP : KindOf Try.prog 65 EvK 56 := kind_of (z := .agg (evc ev0).toArray) (by kernel_rfl) rfl
theorem eqTEvP (d : Nat) (x y : Ev) (w : World) : (Op.equalIn (d + 3) 65 (.agg (evc x).toArray) (.agg (evc y).toArray)).run Try.prog w = .ok (decide (x = y)) w := by
  rw [run_equalIn_struct w (d + 2) _ _ _ (show Try.prog.underlying 65 = some (.struct (Try.prog.fieldsOf 65)) by kernel_rfl) (by kernel_rfl)]
  exact eqFEv d x y w _ 31 26 (by kernel_rfl) rowWaP szWaP (fun d => eqTWaP d) rowChP szChP (fun d => eqTChP d)
theorem run_eqlEvP (x y : Ev) (w : World) : (binOp .eql 65 (.agg #[txt (wP x.1), .int .i64 (wC x.1), .bool (wK x.1), .int .i64 (cK x.2), txt (cP x.2)]) (.agg #[txt (wP y.1), .int .i64 (wC y.1), .bool (wK y.1), .int .i64 (cK y.2), txt (cP y.2)])).run Try.prog w = .ok (.bool (decide (x = y))) w := by
  rw [run_eql_struct, show (Value.agg #[txt (wP x.1), .int .i64 (wC x.1), .bool (wK x.1), .int .i64 (cK x.2), txt (cP x.2)]) = Value.agg (evc x).toArray from rfl, show (Value.agg #[txt (wP y.1), .int .i64 (wC y.1), .bool (wK y.1), .int .i64 (cK y.2), txt (cP y.2)]) = Value.agg (evc y).toArray from rfl, show (10000 : Nat) = 9997 + 3 from rfl, eqTEvP]
  rfl
theorem run_neqEvP (x y : Ev) (w : World) : (binOp .neq 65 (.agg #[txt (wP x.1), .int .i64 (wC x.1), .bool (wK x.1), .int .i64 (cK x.2), txt (cP x.2)]) (.agg #[txt (wP y.1), .int .i64 (wC y.1), .bool (wK y.1), .int .i64 (cK y.2), txt (cP y.2)])).run Try.prog w = .ok (.bool (!decide (x = y))) w := by
  rw [run_neq_struct, show (Value.agg #[txt (wP x.1), .int .i64 (wC x.1), .bool (wK x.1), .int .i64 (cK x.2), txt (cP x.2)]) = Value.agg (evc x).toArray from rfl, show (Value.agg #[txt (wP y.1), .int .i64 (wC y.1), .bool (wK y.1), .int .i64 (cK y.2), txt (cP y.2)]) = Value.agg (evc y).toArray from rfl, show (10000 : Nat) = 9997 + 3 from rfl, eqTEvP]
  rfl
end Go.Proofs.Ytmiomfonglmfjaa
