/-
  Texts JF R5 NA NB EE ER ES NC ND NE UA.
-/
import Derived.Laws.StructEq
import Derived.Lib.Strings
import Derived.Test.YtdihngkdhanhkaaGreatDoorZ03
import Derived.Test.YtdihngkdhanhkaaGreatDoorZ08
import Derived.Test.YtdihngkdhanhkaaGreatDoorZ09
namespace Go.Proofs.YtdihngkdhanhkaaGreatDoor
open Go.RowKit

/-- What a function answers whose first result lies in a variable of its own, the second and third one in slots. -/
theorem ret_blk3K {P : Program} {fn : Func} {p u v : Tmp} {ty : TypeId} (h : fn.results = #[.cell p ty, .tmp u, .tmp v]) (tmps : Array Value) (w : World) (g : Nat) (t : TypeId) (cs : List Value) (x y : Value)
    (hp : tmps.getD p undef = .pointer (some ⟨g, 0, none⟩)) (hx : tmps.getD u undef = x) (hy : tmps.getD v undef = y) (hb : Blk w g cs t) (d : TypeDesc) (hu : P.underlying ty = some d) (hd : d.isRow = true) (hi : (P.info? ty).map (·.size) = some cs.length) :
    (results fn tmps).run P w = .ok (.tuple #[.agg cs.toArray, x, y]) w := by
  have hl := run_loadVar_row w g t ty cs.toArray (0, 0) d hb hu (by cases d <;> first | rfl | cases hd) (by simpa using hi)
  have hp' : tmps[p]?.getD undef = .pointer (some ⟨g, 0, none⟩) := by simpa using hp
  have hx' : tmps[u]?.getD undef = x := by simpa using hx
  have hy' : tmps[v]?.getD undef = y := by simpa using hy
  simp [results, h, Result.andThen, hp', hx', hy', asAddr, hl]
theorem kindIn : KindOf Tryz.prog 3 InK 8 := kind_of (z := .int .i64 0) (by kernel_rfl) rfl
def keepS (l : List Se) (z : Int) : List Se := l.filter fun x => !lateS z x
def lateN (l : List Se) (z : Int) : List Int := (l.filter (lateS z)).map sI
theorem tick_err (t : Int) (l : List Se) (z : Int) (f : Nat) (h : tickE t z = f) (h0 : f ≠ 0) : tickT t z = t ∧ tickS t l z = l ∧ goneS t l z = [] ∧ tickE t z = f := by
  unfold tickT tickS goneS
  rw [if_neg (by rw [h]; exact h0), if_neg (by rw [h]; exact h0), if_neg (by rw [h]; exact h0)]
  exact ⟨rfl, rfl, rfl, h⟩
theorem tick_ok (t : Int) (l : List Se) (z : Int) (h1 : t ≤ z) (h2 : z ≤ 1000000000) : tickT t z = z ∧ tickS t l z = keepS l z ∧ goneS t l z = lateN l z ∧ tickE t z = 0 := by
  have h := tick_of t z h1 h2
  unfold tickT tickS goneS
  rw [if_pos h, if_pos h, if_pos h]
  exact ⟨rfl, rfl, rfl, h⟩
theorem keep_snoc (l : List Se) (z : Int) (i : Nat) (hi : i < l.length) : keepS (l.take (i + 1)) z = keepS (l.take i) z ++ (if sU (l.getD i se0) ≤ z then [] else [l.getD i se0]) ∧
    lateN (l.take (i + 1)) z = lateN (l.take i) z ++ (if sU (l.getD i se0) ≤ z then [sI (l.getD i se0)] else []) := by
  rw [take_se l i hi]
  obtain ⟨y, hy⟩ : ∃ y, l.getD i se0 = y := ⟨_, rfl⟩
  rw [hy]
  unfold keepS lateN
  rw [List.filter_append, List.filter_append, List.map_append]
  by_cases h : sU y ≤ z <;> simp [lateS, h]
theorem keep_len (l : List Se) (z : Int) : (keepS l z).length ≤ l.length := List.length_filter_le _ _
theorem late_len (l : List Se) (z : Int) : (lateN l z).length ≤ l.length := by
  unfold lateN
  rw [List.length_map]
  exact List.length_filter_le _ _

end Go.Proofs.YtdihngkdhanhkaaGreatDoor
namespace Go.Proofs.YtdihngkdhanhkaaGreatDoor
open Go.RowKit

theorem toList_txtE (l : List UInt8) : (⟨l.toArray⟩ : ByteArray).toList = l := by rw [Lib.toList_data]
theorem txt_eqE (x y : List UInt8) (h : x = y) : (x == y) = true := by simpa using h
theorem txt_neE (x y : List UInt8) (h : x ≠ y) : (x == y) = false := by simpa using h
theorem int_neE (x y : Int) (h : x ≠ y) : (x == y) = false := by rw [beq_eq_false_iff_ne]; exact h
theorem int_eqE (x y : Int) (h : x = y) : (x == y) = true := by rw [h]; exact beq_self_eq_true y
/-- A new slice of one thing. -/
def NewE {α : Type} (E : RowK α) (e : TypeId) (x : α) (B : Nat) (u : Value) (w : World) : Prop := ∃ g, u = .slice (some ⟨g, 0, none⟩) 1 1 ∧ Blk w g (E.enc x) e ∧ B ≤ g
theorem NewE.keep {α : Type} {E : RowK α} {e : TypeId} {x : α} {B : Nat} {u : Value} {w w' : World} (h : NewE E e x B u w) (hb : Below w.heap.size w w') : NewE E e x B u w' := by
  obtain ⟨g, h1, h2, h3⟩ := h
  exact ⟨g, h1, h2.below hb h2.lt, h3⟩
theorem NewE.rd {α : Type} {E : RowK α} {e : TypeId} {x : α} {B : Nat} {u : Value} {w : World} (h : NewE E e x B u w) : RdE E w.heap.size w u [x] := by
  obtain ⟨g, rfl, h2, h3⟩ := h
  exact (RdE.ofBlk h2).more h2.lt
theorem one_of {v : Value} (h : v.oneCell' = true) : [v].toArray.all (·.oneCell') = true := by simp [h]
end Go.Proofs.YtdihngkdhanhkaaGreatDoor
namespace Go.Proofs.YtdihngkdhanhkaaGreatDoor
open Go.RowKit

/-- Or: its cells. -/
def orc (x : Or) : List Value := [.int .i64 (oC x), .int .i64 (oQ x), .int .i64 (oK x), txt (oP x), txt (oV x), .int .i64 (oR x), .int .i64 (oS x), .int .i64 (oT x)]
theorem orc_one (x : Or) : ∀ u ∈ orc x, u.oneCell' = true := by
  intro u hu
  unfold orc at hu
  simp only [List.mem_cons, List.not_mem_nil, or_false] at hu
  rcases hu with rfl | rfl | rfl | rfl | rfl | rfl | rfl | rfl <;> rfl
def OrK : RowK Or := { enc := orc, k := 8, d := or0, len := fun _ => rfl, one := orc_one, pos := by decide }
theorem orc_all (x : Or) : (orc x).toArray.all (·.oneCell') = true := enc_all OrK x
theorem RdE.atOr {B : Nat} {w : World} {A : Option Addr} {n c : Nat} {l : List Or} (h : RdE OrK B w (.slice A n c) l) (j : Nat) (hj : j < l.length) :
    ∃ a, A = some a ∧ w.cell? (a.add (j * 8)) = some (.int .i64 (oC (l.getD j or0))) ∧ w.cell? ⟨(a.add (j * 8)).block, (a.add (j * 8)).off + 1, none⟩ = some (.int .i64 (oQ (l.getD j or0))) ∧ w.cell? ⟨(a.add (j * 8)).block, (a.add (j * 8)).off + 2, none⟩ = some (.int .i64 (oK (l.getD j or0))) ∧ w.cell? ⟨(a.add (j * 8)).block, (a.add (j * 8)).off + 3, none⟩ = some (txt (oP (l.getD j or0))) ∧ w.cell? ⟨(a.add (j * 8)).block, (a.add (j * 8)).off + 4, none⟩ = some (txt (oV (l.getD j or0))) ∧ w.cell? ⟨(a.add (j * 8)).block, (a.add (j * 8)).off + 5, none⟩ = some (.int .i64 (oR (l.getD j or0))) ∧ w.cell? ⟨(a.add (j * 8)).block, (a.add (j * 8)).off + 6, none⟩ = some (.int .i64 (oS (l.getD j or0))) ∧ w.cell? ⟨(a.add (j * 8)).block, (a.add (j * 8)).off + 7, none⟩ = some (.int .i64 (oT (l.getD j or0))) := by
  obtain ⟨a, ha, hc⟩ := h.cells j hj
  exact ⟨a, ha, hc 0 (by decide), hc 1 (by decide), hc 2 (by decide), hc 3 (by decide), hc 4 (by decide), hc 5 (by decide), hc 6 (by decide), hc 7 (by decide)⟩
theorem eqFOr (d : Nat) (x y : Or) (w : World) (fs : List Field) (h : fs.map (fun f => (f.name == "_", f.type, f.offset)) = [(false, 3, 0), (false, 3, 1), (false, 3, 2), (false, 9, 3), (false, 9, 4), (false, 3, 5), (false, 3, 6), (false, 3, 7)]) :
    (Op.eqFields (d + 1) (orc x).toArray (orc y).toArray fs).run Tryz.prog w = .ok (decide (x = y)) w := by
  obtain ⟨f0, f1, f2, f3, f4, f5, f6, f7, rfl⟩ : ∃ f0 f1 f2 f3 f4 f5 f6 f7, fs = [f0, f1, f2, f3, f4, f5, f6, f7] := by
    have hl := congrArg List.length h
    rw [List.length_map] at hl
    match fs, hl with
    | [f0, f1, f2, f3, f4, f5, f6, f7], _ => exact ⟨f0, f1, f2, f3, f4, f5, f6, f7, rfl⟩
  simp only [List.map_cons, List.map_nil, List.cons.injEq, Prod.mk.injEq, and_true] at h
  obtain ⟨⟨n0, q0, o0⟩, ⟨n1, q1, o1⟩, ⟨n2, q2, o2⟩, ⟨n3, q3, o3⟩, ⟨n4, q4, o4⟩, ⟨n5, q5, o5⟩, ⟨n6, q6, o6⟩, ⟨n7, q7, o7⟩⟩ := h
  have m0 : f0.name ≠ "_" := by simpa using n0
  have m1 : f1.name ≠ "_" := by simpa using n1
  have m2 : f2.name ≠ "_" := by simpa using n2
  have m3 : f3.name ≠ "_" := by simpa using n3
  have m4 : f4.name ≠ "_" := by simpa using n4
  have m5 : f5.name ≠ "_" := by simpa using n5
  have m6 : f6.name ≠ "_" := by simpa using n6
  have m7 : f7.name ≠ "_" := by simpa using n7
  have p0 : ∀ z : Or, (part f0.type (orc z).toArray f0.offset).run Tryz.prog w = .ok (.int .i64 (oC z)) w := fun z => by rw [q0, o0]; exact run_part_cell _ _ _ _ Tryz.isAgg3 rfl w
  have e0' : (Op.equalIn (d + 1) f0.type (.int .i64 (oC x)) (.int .i64 (oC y))).run Tryz.prog w = .ok (oC x == oC y) w := by rw [q0, run_equalIn_int w d _ _ _ _ _ Tryz.underlying3]
  have p1 : ∀ z : Or, (part f1.type (orc z).toArray f1.offset).run Tryz.prog w = .ok (.int .i64 (oQ z)) w := fun z => by rw [q1, o1]; exact run_part_cell _ _ _ _ Tryz.isAgg3 rfl w
  have e1' : (Op.equalIn (d + 1) f1.type (.int .i64 (oQ x)) (.int .i64 (oQ y))).run Tryz.prog w = .ok (oQ x == oQ y) w := by rw [q1, run_equalIn_int w d _ _ _ _ _ Tryz.underlying3]
  have p2 : ∀ z : Or, (part f2.type (orc z).toArray f2.offset).run Tryz.prog w = .ok (.int .i64 (oK z)) w := fun z => by rw [q2, o2]; exact run_part_cell _ _ _ _ Tryz.isAgg3 rfl w
  have e2' : (Op.equalIn (d + 1) f2.type (.int .i64 (oK x)) (.int .i64 (oK y))).run Tryz.prog w = .ok (oK x == oK y) w := by rw [q2, run_equalIn_int w d _ _ _ _ _ Tryz.underlying3]
  have p3 : ∀ z : Or, (part f3.type (orc z).toArray f3.offset).run Tryz.prog w = .ok (txt (oP z)) w := fun z => by rw [q3, o3]; exact run_part_cell _ _ _ _ Tryz.isAgg9 rfl w
  have e3' : (Op.equalIn (d + 1) f3.type (txt (oP x)) (txt (oP y))).run Tryz.prog w = .ok (oP x == oP y) w := by rw [q3, run_equalIn_string w d _ _ _ Tryz.underlying9, toList_txtE, toList_txtE]
  have p4 : ∀ z : Or, (part f4.type (orc z).toArray f4.offset).run Tryz.prog w = .ok (txt (oV z)) w := fun z => by rw [q4, o4]; exact run_part_cell _ _ _ _ Tryz.isAgg9 rfl w
  have e4' : (Op.equalIn (d + 1) f4.type (txt (oV x)) (txt (oV y))).run Tryz.prog w = .ok (oV x == oV y) w := by rw [q4, run_equalIn_string w d _ _ _ Tryz.underlying9, toList_txtE, toList_txtE]
  have p5 : ∀ z : Or, (part f5.type (orc z).toArray f5.offset).run Tryz.prog w = .ok (.int .i64 (oR z)) w := fun z => by rw [q5, o5]; exact run_part_cell _ _ _ _ Tryz.isAgg3 rfl w
  have e5' : (Op.equalIn (d + 1) f5.type (.int .i64 (oR x)) (.int .i64 (oR y))).run Tryz.prog w = .ok (oR x == oR y) w := by rw [q5, run_equalIn_int w d _ _ _ _ _ Tryz.underlying3]
  have p6 : ∀ z : Or, (part f6.type (orc z).toArray f6.offset).run Tryz.prog w = .ok (.int .i64 (oS z)) w := fun z => by rw [q6, o6]; exact run_part_cell _ _ _ _ Tryz.isAgg3 rfl w
  have e6' : (Op.equalIn (d + 1) f6.type (.int .i64 (oS x)) (.int .i64 (oS y))).run Tryz.prog w = .ok (oS x == oS y) w := by rw [q6, run_equalIn_int w d _ _ _ _ _ Tryz.underlying3]
  have p7 : ∀ z : Or, (part f7.type (orc z).toArray f7.offset).run Tryz.prog w = .ok (.int .i64 (oT z)) w := fun z => by rw [q7, o7]; exact run_part_cell _ _ _ _ Tryz.isAgg3 rfl w
  have e7' : (Op.equalIn (d + 1) f7.type (.int .i64 (oT x)) (.int .i64 (oT y))).run Tryz.prog w = .ok (oT x == oT y) w := by rw [q7, run_equalIn_int w d _ _ _ _ _ Tryz.underlying3]
  obtain ⟨a0, a1, a2, a3, a4, a5, a6, a7⟩ := x
  obtain ⟨b0, b1, b2, b3, b4, b5, b6, b7⟩ := y
  simp only [Op.eqFields, if_pos m0, if_pos m1, if_pos m2, if_pos m3, if_pos m4, if_pos m5, if_pos m6, if_pos m7, Sem.run_bind, p0, p1, p2, p3, p4, p5, p6, p7, e0', e1', e2', e3', e4', e5', e6', e7', Result.andThen_ok, Sem.run_ite, Sem.run_pure]
  clear p0 e0' p1 e1' p2 e2' p3 e3' p4 e4' p5 e5' p6 e6' p7 e7'
  by_cases h0 : a0 = b0
  case neg => simp [h0]
  subst h0
  by_cases h1 : a1 = b1
  case neg => simp [h1]
  subst h1
  by_cases h2 : a2 = b2
  case neg => simp [h2]
  subst h2
  by_cases h3 : a3 = b3
  case neg => simp [h3]
  subst h3
  by_cases h4 : a4 = b4
  case neg => simp [h4]
  subst h4
  by_cases h5 : a5 = b5
  case neg => simp [h5]
  subst h5
  by_cases h6 : a6 = b6
  case neg => simp [h6]
  subst h6
  by_cases h7 : a7 = b7
  case neg => simp [h7]
  subst h7
  simp
theorem rowOrP : ∃ d, Tryz.prog.underlying 35 = some d ∧ d.isRow = true := ⟨_, Tryz.underlying35, rfl⟩
theorem szOrP : (Tryz.prog.info? 35).map (·.size) = some 8 := by kernel_rfl
theorem zeroOrP : (Tryz.prog.info? 35).map (·.zero) = some (some (.agg (orc or0).toArray)) := by kernel_rfl
theorem eqTOrP (d : Nat) (x y : Or) (w : World) : (Op.equalIn (d + 2) 35 (.agg (orc x).toArray) (.agg (orc y).toArray)).run Tryz.prog w = .ok (decide (x = y)) w := by
  rw [run_equalIn_struct w (d + 1) _ _ _ (show Tryz.prog.underlying 35 = some (.struct (Tryz.prog.fieldsOf 35)) by kernel_rfl) (by kernel_rfl)]
  exact eqFOr d x y w _ (by kernel_rfl)
theorem run_eqlOrP (x y : Or) (w : World) : (binOp .eql 35 (.agg #[.int .i64 (oC x), .int .i64 (oQ x), .int .i64 (oK x), txt (oP x), txt (oV x), .int .i64 (oR x), .int .i64 (oS x), .int .i64 (oT x)]) (.agg #[.int .i64 (oC y), .int .i64 (oQ y), .int .i64 (oK y), txt (oP y), txt (oV y), .int .i64 (oR y), .int .i64 (oS y), .int .i64 (oT y)])).run Tryz.prog w = .ok (.bool (decide (x = y))) w := by
  rw [run_eql_struct, show (Value.agg #[.int .i64 (oC x), .int .i64 (oQ x), .int .i64 (oK x), txt (oP x), txt (oV x), .int .i64 (oR x), .int .i64 (oS x), .int .i64 (oT x)]) = Value.agg (orc x).toArray from rfl, show (Value.agg #[.int .i64 (oC y), .int .i64 (oQ y), .int .i64 (oK y), txt (oP y), txt (oV y), .int .i64 (oR y), .int .i64 (oS y), .int .i64 (oT y)]) = Value.agg (orc y).toArray from rfl, show (10000 : Nat) = 9998 + 2 from rfl, eqTOrP]
  rfl
end Go.Proofs.YtdihngkdhanhkaaGreatDoor
namespace Go.Proofs.YtdihngkdhanhkaaGreatDoor
open Go.RowKit

end Go.Proofs.YtdihngkdhanhkaaGreatDoor
namespace Go.Proofs.YtdihngkdhanhkaaGreatDoor
open Go.RowKit
set_option linter.unusedVariables false

end Go.Proofs.YtdihngkdhanhkaaGreatDoor
namespace Go.Proofs.YtdihngkdhanhkaaGreatDoor
open Go.RowKit
set_option linter.unusedVariables false

end Go.Proofs.YtdihngkdhanhkaaGreatDoor

namespace Go.Proofs.YtdihngkdhanhkaaGreatDoor
open Go.RowKit
set_option linter.unusedVariables false

end Go.Proofs.YtdihngkdhanhkaaGreatDoor
namespace Go.Proofs.YtdihngkdhanhkaaGreatDoor
open Go.RowKit
set_option linter.unusedVariables false

end Go.Proofs.YtdihngkdhanhkaaGreatDoor
namespace Go.Proofs.YtdihngkdhanhkaaGreatDoor
open Go.RowKit

end Go.Proofs.YtdihngkdhanhkaaGreatDoor
namespace Go.Proofs.YtdihngkdhanhkaaGreatDoor
open Go.RowKit

end Go.Proofs.YtdihngkdhanhkaaGreatDoor
namespace Go.Proofs.YtdihngkdhanhkaaGreatDoor
open Go.RowKit

/-- A reply's cells, with the slice of its names. -/
def rpc (r : Rp) (nv : Value) : List Value := [.int .i64 (pC r), .int .i64 (pQ r), .int .i64 (pE r), txt (pV r), .int .i64 (pR r), nv]

end Go.Proofs.YtdihngkdhanhkaaGreatDoor
namespace Go.Proofs.YtdihngkdhanhkaaGreatDoor
open Go.RowKit

/-- Wa: its cells. -/
def wac (x : Wa) : List Value := [txt (wP x), .int .i64 (wC x), .bool (wK x)]
theorem wac_one (x : Wa) : ∀ u ∈ wac x, u.oneCell' = true := by
  intro u hu
  unfold wac at hu
  simp only [List.mem_cons, List.not_mem_nil, or_false] at hu
  rcases hu with rfl | rfl | rfl <;> rfl
def WaK : RowK Wa := { enc := wac, k := 3, d := wa0, len := fun _ => rfl, one := wac_one, pos := by decide }
theorem wac_all (x : Wa) : (wac x).toArray.all (·.oneCell') = true := enc_all WaK x
theorem RdE.atWa {B : Nat} {w : World} {A : Option Addr} {n c : Nat} {l : List Wa} (h : RdE WaK B w (.slice A n c) l) (j : Nat) (hj : j < l.length) :
    ∃ a, A = some a ∧ w.cell? (a.add (j * 3)) = some (txt (wP (l.getD j wa0))) ∧ w.cell? ⟨(a.add (j * 3)).block, (a.add (j * 3)).off + 1, none⟩ = some (.int .i64 (wC (l.getD j wa0))) ∧ w.cell? ⟨(a.add (j * 3)).block, (a.add (j * 3)).off + 2, none⟩ = some (.bool (wK (l.getD j wa0))) := by
  obtain ⟨a, ha, hc⟩ := h.cells j hj
  exact ⟨a, ha, hc 0 (by decide), hc 1 (by decide), hc 2 (by decide)⟩
theorem eqFWa (d : Nat) (x y : Wa) (w : World) (fs : List Field) (h : fs.map (fun f => (f.name == "_", f.type, f.offset)) = [(false, 9, 0), (false, 3, 1), (false, 4, 2)]) :
    (Op.eqFields (d + 1) (wac x).toArray (wac y).toArray fs).run Tryz.prog w = .ok (decide (x = y)) w := by
  obtain ⟨f0, f1, f2, rfl⟩ : ∃ f0 f1 f2, fs = [f0, f1, f2] := by
    have hl := congrArg List.length h
    rw [List.length_map] at hl
    match fs, hl with
    | [f0, f1, f2], _ => exact ⟨f0, f1, f2, rfl⟩
  simp only [List.map_cons, List.map_nil, List.cons.injEq, Prod.mk.injEq, and_true] at h
  obtain ⟨⟨n0, q0, o0⟩, ⟨n1, q1, o1⟩, ⟨n2, q2, o2⟩⟩ := h
  have m0 : f0.name ≠ "_" := by simpa using n0
  have m1 : f1.name ≠ "_" := by simpa using n1
  have m2 : f2.name ≠ "_" := by simpa using n2
  have p0 : ∀ z : Wa, (part f0.type (wac z).toArray f0.offset).run Tryz.prog w = .ok (txt (wP z)) w := fun z => by rw [q0, o0]; exact run_part_cell _ _ _ _ Tryz.isAgg9 rfl w
  have e0' : (Op.equalIn (d + 1) f0.type (txt (wP x)) (txt (wP y))).run Tryz.prog w = .ok (wP x == wP y) w := by rw [q0, run_equalIn_string w d _ _ _ Tryz.underlying9, toList_txtE, toList_txtE]
  have p1 : ∀ z : Wa, (part f1.type (wac z).toArray f1.offset).run Tryz.prog w = .ok (.int .i64 (wC z)) w := fun z => by rw [q1, o1]; exact run_part_cell _ _ _ _ Tryz.isAgg3 rfl w
  have e1' : (Op.equalIn (d + 1) f1.type (.int .i64 (wC x)) (.int .i64 (wC y))).run Tryz.prog w = .ok (wC x == wC y) w := by rw [q1, run_equalIn_int w d _ _ _ _ _ Tryz.underlying3]
  have p2 : ∀ z : Wa, (part f2.type (wac z).toArray f2.offset).run Tryz.prog w = .ok (.bool (wK z)) w := fun z => by rw [q2, o2]; exact run_part_cell _ _ _ _ Tryz.isAgg4 rfl w
  have e2' : (Op.equalIn (d + 1) f2.type (.bool (wK x)) (.bool (wK y))).run Tryz.prog w = .ok (wK x == wK y) w := by rw [q2, run_equalIn_bool' w d _ _ _ Tryz.underlying4]
  obtain ⟨a0, a1, a2⟩ := x
  obtain ⟨b0, b1, b2⟩ := y
  simp only [Op.eqFields, if_pos m0, if_pos m1, if_pos m2, Sem.run_bind, p0, p1, p2, e0', e1', e2', Result.andThen_ok, Sem.run_ite, Sem.run_pure]
  by_cases h0 : a0 = b0 <;> by_cases h1 : a1 = b1 <;> by_cases h2 : a2 = b2 <;> simp [h0, h1, h2]
theorem rowWaP : ∃ d, Tryz.prog.underlying 94 = some d ∧ d.isRow = true := ⟨_, Tryz.underlying94, rfl⟩
theorem szWaP : (Tryz.prog.info? 94).map (·.size) = some 3 := by kernel_rfl
theorem zeroWaP : (Tryz.prog.info? 94).map (·.zero) = some (some (.agg (wac wa0).toArray)) := by kernel_rfl
theorem kindWaP : KindOf Tryz.prog 94 WaK 32 := kind_of (z := .agg (wac wa0).toArray) (by kernel_rfl) rfl
theorem eqTWaP (d : Nat) (x y : Wa) (w : World) : (Op.equalIn (d + 2) 94 (.agg (wac x).toArray) (.agg (wac y).toArray)).run Tryz.prog w = .ok (decide (x = y)) w := by
  rw [run_equalIn_struct w (d + 1) _ _ _ (show Tryz.prog.underlying 94 = some (.struct (Tryz.prog.fieldsOf 94)) by kernel_rfl) (by kernel_rfl)]
  exact eqFWa d x y w _ (by kernel_rfl)
theorem run_eqlWaP (x y : Wa) (w : World) : (binOp .eql 94 (.agg #[txt (wP x), .int .i64 (wC x), .bool (wK x)]) (.agg #[txt (wP y), .int .i64 (wC y), .bool (wK y)])).run Tryz.prog w = .ok (.bool (decide (x = y))) w := by
  rw [run_eql_struct, show (Value.agg #[txt (wP x), .int .i64 (wC x), .bool (wK x)]) = Value.agg (wac x).toArray from rfl, show (Value.agg #[txt (wP y), .int .i64 (wC y), .bool (wK y)]) = Value.agg (wac y).toArray from rfl, show (10000 : Nat) = 9998 + 2 from rfl, eqTWaP]
  rfl
theorem run_neqWaP (x y : Wa) (w : World) : (binOp .neq 94 (.agg #[txt (wP x), .int .i64 (wC x), .bool (wK x)]) (.agg #[txt (wP y), .int .i64 (wC y), .bool (wK y)])).run Tryz.prog w = .ok (.bool (!decide (x = y))) w := by
  rw [run_neq_struct, show (Value.agg #[txt (wP x), .int .i64 (wC x), .bool (wK x)]) = Value.agg (wac x).toArray from rfl, show (Value.agg #[txt (wP y), .int .i64 (wC y), .bool (wK y)]) = Value.agg (wac y).toArray from rfl, show (10000 : Nat) = 9998 + 2 from rfl, eqTWaP]
  rfl
/-- Ch: its cells. -/
def chc (x : Ch) : List Value := [.int .i64 (cK x), txt (cP x)]
theorem chc_one (x : Ch) : ∀ u ∈ chc x, u.oneCell' = true := by
  intro u hu
  unfold chc at hu
  simp only [List.mem_cons, List.not_mem_nil, or_false] at hu
  rcases hu with rfl | rfl <;> rfl
def ChK : RowK Ch := { enc := chc, k := 2, d := ch0, len := fun _ => rfl, one := chc_one, pos := by decide }
theorem chc_all (x : Ch) : (chc x).toArray.all (·.oneCell') = true := enc_all ChK x
theorem RdE.atCh {B : Nat} {w : World} {A : Option Addr} {n c : Nat} {l : List Ch} (h : RdE ChK B w (.slice A n c) l) (j : Nat) (hj : j < l.length) :
    ∃ a, A = some a ∧ w.cell? (a.add (j * 2)) = some (.int .i64 (cK (l.getD j ch0))) ∧ w.cell? ⟨(a.add (j * 2)).block, (a.add (j * 2)).off + 1, none⟩ = some (txt (cP (l.getD j ch0))) := by
  obtain ⟨a, ha, hc⟩ := h.cells j hj
  exact ⟨a, ha, hc 0 (by decide), hc 1 (by decide)⟩
theorem rowChP : ∃ d, Tryz.prog.underlying 96 = some d ∧ d.isRow = true := ⟨_, Tryz.underlying96, rfl⟩
theorem szChP : (Tryz.prog.info? 96).map (·.size) = some 2 := by kernel_rfl
theorem zeroChP : (Tryz.prog.info? 96).map (·.zero) = some (some (.agg (chc ch0).toArray)) := by kernel_rfl
theorem kindChP : KindOf Tryz.prog 96 ChK 24 := kind_of (z := .agg (chc ch0).toArray) (by kernel_rfl) rfl
/-- Ev: its cells. -/
def evc (x : Ev) : List Value := [txt (wP x.1), .int .i64 (wC x.1), .bool (wK x.1), .int .i64 (cK x.2), txt (cP x.2)]
theorem evc_one (x : Ev) : ∀ u ∈ evc x, u.oneCell' = true := by
  intro u hu
  unfold evc at hu
  simp only [List.mem_cons, List.not_mem_nil, or_false] at hu
  rcases hu with rfl | rfl | rfl | rfl | rfl <;> rfl
def EvK : RowK Ev := { enc := evc, k := 5, d := ev0, len := fun _ => rfl, one := evc_one, pos := by decide }
theorem RdE.atEv {B : Nat} {w : World} {A : Option Addr} {n c : Nat} {l : List Ev} (h : RdE EvK B w (.slice A n c) l) (j : Nat) (hj : j < l.length) :
    ∃ a, A = some a ∧ w.cell? (a.add (j * 5)) = some (txt (wP (l.getD j ev0).1)) ∧ w.cell? ⟨(a.add (j * 5)).block, (a.add (j * 5)).off + 1, none⟩ = some (.int .i64 (wC (l.getD j ev0).1)) ∧ w.cell? ⟨(a.add (j * 5)).block, (a.add (j * 5)).off + 2, none⟩ = some (.bool (wK (l.getD j ev0).1)) ∧ w.cell? ⟨(a.add (j * 5)).block, (a.add (j * 5)).off + 3, none⟩ = some (.int .i64 (cK (l.getD j ev0).2)) ∧ w.cell? ⟨(a.add (j * 5)).block, (a.add (j * 5)).off + 4, none⟩ = some (txt (cP (l.getD j ev0).2)) := by
  obtain ⟨a, ha, hc⟩ := h.cells j hj
  exact ⟨a, ha, hc 0 (by decide), hc 1 (by decide), hc 2 (by decide), hc 3 (by decide), hc 4 (by decide)⟩
theorem kindEvP : KindOf Tryz.prog 98 EvK 56 := kind_of (z := .agg (evc ev0).toArray) (by kernel_rfl) rfl
end Go.Proofs.YtdihngkdhanhkaaGreatDoor
