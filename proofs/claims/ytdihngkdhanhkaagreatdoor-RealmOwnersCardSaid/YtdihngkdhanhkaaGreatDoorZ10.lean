/-
  Texts JF R5 NA NB EE ER ES NC ND NE UA H3.
-/
import Derived.Laws.StructEq
import Derived.Lib.Strings
import Derived.Test.YtdihngkdhanhkaaGreatDoorZ04
import Derived.Test.YtdihngkdhanhkaaGreatDoorZ05
import Derived.Test.YtdihngkdhanhkaaGreatDoorZ06
import Derived.Test.YtdihngkdhanhkaaGreatDoorZ08
import Derived.Test.YtdihngkdhanhkaaGreatDoorZ09
namespace Go.Proofs.YtdihngkdhanhkaaGreatDoor
open Go.RowKit

/-- What a function answers whose first result lies in a variable of its own, the second and third one in slots. -/
theorem ret_blk3K {P : Program} {fn : Func} {p u v : Tmp} {ty : TypeId} (h : fn.results = #[.cell p ty, .tmp u, .tmp v]) (tmps : Array Value) (w : World) (g : Nat) (t : TypeId) (cs : List Value) (x y : Value)
    (hp : tmps.getD p undef = .pointer (some ⟨g, 0, none⟩)) (hx : tmps.getD u undef = x) (hy : tmps.getD v undef = y) (hb : Blk w g cs t) (d : TypeDesc) (hu : P.underlying ty = some d) (hd : d.isRow = true) (hi : (P.info? ty).map (·.size) = some cs.length) :
    (results fn tmps).run P w = .ok (.tuple #[.agg cs.toArray, x, y]) w := by
  have hl := run_loadVar_row w g t ty cs.toArray (0, 0) d hb hu (by cases d <;> first | rfl | cases hd) (by simpa using hi)
  have hp' : tmps[p]?.getD undef = .pointer (some ⟨g, 0, none⟩) := by simpa using hp
  have hx' : tmps[u]?.getD undef = x := by simpa using hx
  have hy' : tmps[v]?.getD undef = y := by simpa using hy
  simp [results, h, Result.andThen, hp', hx', hy', asAddr, hl]
theorem kindIn : KindOf Tryz.prog 3 InK 8 := kind_of (z := .int .i64 0) (by kernel_rfl) rfl
def keepS (l : List Se) (z : Int) : List Se := l.filter fun x => !lateS z x
def lateN (l : List Se) (z : Int) : List Int := (l.filter (lateS z)).map sI
theorem tick_err (t : Int) (l : List Se) (z : Int) (f : Nat) (h : tickE t z = f) (h0 : f ≠ 0) : tickT t z = t ∧ tickS t l z = l ∧ goneS t l z = [] ∧ tickE t z = f := by
  unfold tickT tickS goneS
  rw [if_neg (by rw [h]; exact h0), if_neg (by rw [h]; exact h0), if_neg (by rw [h]; exact h0)]
  exact ⟨rfl, rfl, rfl, h⟩
theorem tick_ok (t : Int) (l : List Se) (z : Int) (h1 : t ≤ z) (h2 : z ≤ 1000000000) : tickT t z = z ∧ tickS t l z = keepS l z ∧ goneS t l z = lateN l z ∧ tickE t z = 0 := by
  have h := tick_of t z h1 h2
  unfold tickT tickS goneS
  rw [if_pos h, if_pos h, if_pos h]
  exact ⟨rfl, rfl, rfl, h⟩
theorem keep_snoc (l : List Se) (z : Int) (i : Nat) (hi : i < l.length) : keepS (l.take (i + 1)) z = keepS (l.take i) z ++ (if sU (l.getD i se0) ≤ z then [] else [l.getD i se0]) ∧
    lateN (l.take (i + 1)) z = lateN (l.take i) z ++ (if sU (l.getD i se0) ≤ z then [sI (l.getD i se0)] else []) := by
  rw [take_se l i hi]
  obtain ⟨y, hy⟩ : ∃ y, l.getD i se0 = y := ⟨_, rfl⟩
  rw [hy]
  unfold keepS lateN
  rw [List.filter_append, List.filter_append, List.map_append]
  by_cases h : sU y ≤ z <;> simp [lateS, h]
theorem keep_len (l : List Se) (z : Int) : (keepS l z).length ≤ l.length := List.length_filter_le _ _
theorem late_len (l : List Se) (z : Int) : (lateN l z).length ≤ l.length := by
  unfold lateN
  rw [List.length_map]
  exact List.length_filter_le _ _

end Go.Proofs.YtdihngkdhanhkaaGreatDoor
namespace Go.Proofs.YtdihngkdhanhkaaGreatDoor
open Go.RowKit

theorem toList_txtE (l : List UInt8) : (⟨l.toArray⟩ : ByteArray).toList = l := by rw [Lib.toList_data]
theorem txt_eqE (x y : List UInt8) (h : x = y) : (x == y) = true := by simpa using h
theorem txt_neE (x y : List UInt8) (h : x ≠ y) : (x == y) = false := by simpa using h
theorem int_neE (x y : Int) (h : x ≠ y) : (x == y) = false := by rw [beq_eq_false_iff_ne]; exact h
theorem int_eqE (x y : Int) (h : x = y) : (x == y) = true := by rw [h]; exact beq_self_eq_true y
/-- A new slice of one thing. -/
def NewE {α : Type} (E : RowK α) (e : TypeId) (x : α) (B : Nat) (u : Value) (w : World) : Prop := ∃ g, u = .slice (some ⟨g, 0, none⟩) 1 1 ∧ Blk w g (E.enc x) e ∧ B ≤ g
theorem NewE.keep {α : Type} {E : RowK α} {e : TypeId} {x : α} {B : Nat} {u : Value} {w w' : World} (h : NewE E e x B u w) (hb : Below w.heap.size w w') : NewE E e x B u w' := by
  obtain ⟨g, h1, h2, h3⟩ := h
  exact ⟨g, h1, h2.below hb h2.lt, h3⟩
theorem NewE.rd {α : Type} {E : RowK α} {e : TypeId} {x : α} {B : Nat} {u : Value} {w : World} (h : NewE E e x B u w) : RdE E w.heap.size w u [x] := by
  obtain ⟨g, rfl, h2, h3⟩ := h
  exact (RdE.ofBlk h2).more h2.lt
theorem one_of {v : Value} (h : v.oneCell' = true) : [v].toArray.all (·.oneCell') = true := by simp [h]
end Go.Proofs.YtdihngkdhanhkaaGreatDoor
namespace Go.Proofs.YtdihngkdhanhkaaGreatDoor
open Go.RowKit

/-- Or: its cells. -/
def orc (x : Or) : List Value := [.int .i64 (oC x), .int .i64 (oQ x), .int .i64 (oK x), txt (oP x), txt (oV x), .int .i64 (oR x), .int .i64 (oS x), .int .i64 (oT x)]
theorem orc_one (x : Or) : ∀ u ∈ orc x, u.oneCell' = true := by
  intro u hu
  unfold orc at hu
  simp only [List.mem_cons, List.not_mem_nil, or_false] at hu
  rcases hu with rfl | rfl | rfl | rfl | rfl | rfl | rfl | rfl <;> rfl
def OrK : RowK Or := { enc := orc, k := 8, d := or0, len := fun _ => rfl, one := orc_one, pos := by decide }
theorem orc_all (x : Or) : (orc x).toArray.all (·.oneCell') = true := enc_all OrK x
theorem RdE.atOr {B : Nat} {w : World} {A : Option Addr} {n c : Nat} {l : List Or} (h : RdE OrK B w (.slice A n c) l) (j : Nat) (hj : j < l.length) :
    ∃ a, A = some a ∧ w.cell? (a.add (j * 8)) = some (.int .i64 (oC (l.getD j or0))) ∧ w.cell? ⟨(a.add (j * 8)).block, (a.add (j * 8)).off + 1, none⟩ = some (.int .i64 (oQ (l.getD j or0))) ∧ w.cell? ⟨(a.add (j * 8)).block, (a.add (j * 8)).off + 2, none⟩ = some (.int .i64 (oK (l.getD j or0))) ∧ w.cell? ⟨(a.add (j * 8)).block, (a.add (j * 8)).off + 3, none⟩ = some (txt (oP (l.getD j or0))) ∧ w.cell? ⟨(a.add (j * 8)).block, (a.add (j * 8)).off + 4, none⟩ = some (txt (oV (l.getD j or0))) ∧ w.cell? ⟨(a.add (j * 8)).block, (a.add (j * 8)).off + 5, none⟩ = some (.int .i64 (oR (l.getD j or0))) ∧ w.cell? ⟨(a.add (j * 8)).block, (a.add (j * 8)).off + 6, none⟩ = some (.int .i64 (oS (l.getD j or0))) ∧ w.cell? ⟨(a.add (j * 8)).block, (a.add (j * 8)).off + 7, none⟩ = some (.int .i64 (oT (l.getD j or0))) := by
  obtain ⟨a, ha, hc⟩ := h.cells j hj
  exact ⟨a, ha, hc 0 (by decide), hc 1 (by decide), hc 2 (by decide), hc 3 (by decide), hc 4 (by decide), hc 5 (by decide), hc 6 (by decide), hc 7 (by decide)⟩
theorem eqFOr (d : Nat) (x y : Or) (w : World) (fs : List Field) (h : fs.map (fun f => (f.name == "_", f.type, f.offset)) = [(false, 3, 0), (false, 3, 1), (false, 3, 2), (false, 9, 3), (false, 9, 4), (false, 3, 5), (false, 3, 6), (false, 3, 7)]) :
    (Op.eqFields (d + 1) (orc x).toArray (orc y).toArray fs).run Tryz.prog w = .ok (decide (x = y)) w := by
  obtain ⟨f0, f1, f2, f3, f4, f5, f6, f7, rfl⟩ : ∃ f0 f1 f2 f3 f4 f5 f6 f7, fs = [f0, f1, f2, f3, f4, f5, f6, f7] := by
    have hl := congrArg List.length h
    rw [List.length_map] at hl
    match fs, hl with
    | [f0, f1, f2, f3, f4, f5, f6, f7], _ => exact ⟨f0, f1, f2, f3, f4, f5, f6, f7, rfl⟩
  simp only [List.map_cons, List.map_nil, List.cons.injEq, Prod.mk.injEq, and_true] at h
  obtain ⟨⟨n0, q0, o0⟩, ⟨n1, q1, o1⟩, ⟨n2, q2, o2⟩, ⟨n3, q3, o3⟩, ⟨n4, q4, o4⟩, ⟨n5, q5, o5⟩, ⟨n6, q6, o6⟩, ⟨n7, q7, o7⟩⟩ := h
  have m0 : f0.name ≠ "_" := by simpa using n0
  have m1 : f1.name ≠ "_" := by simpa using n1
  have m2 : f2.name ≠ "_" := by simpa using n2
  have m3 : f3.name ≠ "_" := by simpa using n3
  have m4 : f4.name ≠ "_" := by simpa using n4
  have m5 : f5.name ≠ "_" := by simpa using n5
  have m6 : f6.name ≠ "_" := by simpa using n6
  have m7 : f7.name ≠ "_" := by simpa using n7
  have p0 : ∀ z : Or, (part f0.type (orc z).toArray f0.offset).run Tryz.prog w = .ok (.int .i64 (oC z)) w := fun z => by rw [q0, o0]; exact run_part_cell _ _ _ _ Tryz.isAgg3 rfl w
  have e0' : (Op.equalIn (d + 1) f0.type (.int .i64 (oC x)) (.int .i64 (oC y))).run Tryz.prog w = .ok (oC x == oC y) w := by rw [q0, run_equalIn_int w d _ _ _ _ _ Tryz.underlying3]
  have p1 : ∀ z : Or, (part f1.type (orc z).toArray f1.offset).run Tryz.prog w = .ok (.int .i64 (oQ z)) w := fun z => by rw [q1, o1]; exact run_part_cell _ _ _ _ Tryz.isAgg3 rfl w
  have e1' : (Op.equalIn (d + 1) f1.type (.int .i64 (oQ x)) (.int .i64 (oQ y))).run Tryz.prog w = .ok (oQ x == oQ y) w := by rw [q1, run_equalIn_int w d _ _ _ _ _ Tryz.underlying3]
  have p2 : ∀ z : Or, (part f2.type (orc z).toArray f2.offset).run Tryz.prog w = .ok (.int .i64 (oK z)) w := fun z => by rw [q2, o2]; exact run_part_cell _ _ _ _ Tryz.isAgg3 rfl w
  have e2' : (Op.equalIn (d + 1) f2.type (.int .i64 (oK x)) (.int .i64 (oK y))).run Tryz.prog w = .ok (oK x == oK y) w := by rw [q2, run_equalIn_int w d _ _ _ _ _ Tryz.underlying3]
  have p3 : ∀ z : Or, (part f3.type (orc z).toArray f3.offset).run Tryz.prog w = .ok (txt (oP z)) w := fun z => by rw [q3, o3]; exact run_part_cell _ _ _ _ Tryz.isAgg9 rfl w
  have e3' : (Op.equalIn (d + 1) f3.type (txt (oP x)) (txt (oP y))).run Tryz.prog w = .ok (oP x == oP y) w := by rw [q3, run_equalIn_string w d _ _ _ Tryz.underlying9, toList_txtE, toList_txtE]
  have p4 : ∀ z : Or, (part f4.type (orc z).toArray f4.offset).run Tryz.prog w = .ok (txt (oV z)) w := fun z => by rw [q4, o4]; exact run_part_cell _ _ _ _ Tryz.isAgg9 rfl w
  have e4' : (Op.equalIn (d + 1) f4.type (txt (oV x)) (txt (oV y))).run Tryz.prog w = .ok (oV x == oV y) w := by rw [q4, run_equalIn_string w d _ _ _ Tryz.underlying9, toList_txtE, toList_txtE]
  have p5 : ∀ z : Or, (part f5.type (orc z).toArray f5.offset).run Tryz.prog w = .ok (.int .i64 (oR z)) w := fun z => by rw [q5, o5]; exact run_part_cell _ _ _ _ Tryz.isAgg3 rfl w
  have e5' : (Op.equalIn (d + 1) f5.type (.int .i64 (oR x)) (.int .i64 (oR y))).run Tryz.prog w = .ok (oR x == oR y) w := by rw [q5, run_equalIn_int w d _ _ _ _ _ Tryz.underlying3]
  have p6 : ∀ z : Or, (part f6.type (orc z).toArray f6.offset).run Tryz.prog w = .ok (.int .i64 (oS z)) w := fun z => by rw [q6, o6]; exact run_part_cell _ _ _ _ Tryz.isAgg3 rfl w
  have e6' : (Op.equalIn (d + 1) f6.type (.int .i64 (oS x)) (.int .i64 (oS y))).run Tryz.prog w = .ok (oS x == oS y) w := by rw [q6, run_equalIn_int w d _ _ _ _ _ Tryz.underlying3]
  have p7 : ∀ z : Or, (part f7.type (orc z).toArray f7.offset).run Tryz.prog w = .ok (.int .i64 (oT z)) w := fun z => by rw [q7, o7]; exact run_part_cell _ _ _ _ Tryz.isAgg3 rfl w
  have e7' : (Op.equalIn (d + 1) f7.type (.int .i64 (oT x)) (.int .i64 (oT y))).run Tryz.prog w = .ok (oT x == oT y) w := by rw [q7, run_equalIn_int w d _ _ _ _ _ Tryz.underlying3]
  obtain ⟨a0, a1, a2, a3, a4, a5, a6, a7⟩ := x
  obtain ⟨b0, b1, b2, b3, b4, b5, b6, b7⟩ := y
  simp only [Op.eqFields, if_pos m0, if_pos m1, if_pos m2, if_pos m3, if_pos m4, if_pos m5, if_pos m6, if_pos m7, Sem.run_bind, p0, p1, p2, p3, p4, p5, p6, p7, e0', e1', e2', e3', e4', e5', e6', e7', Result.andThen_ok, Sem.run_ite, Sem.run_pure]
  clear p0 e0' p1 e1' p2 e2' p3 e3' p4 e4' p5 e5' p6 e6' p7 e7'
  by_cases h0 : a0 = b0
  case neg => simp [h0]
  subst h0
  by_cases h1 : a1 = b1
  case neg => simp [h1]
  subst h1
  by_cases h2 : a2 = b2
  case neg => simp [h2]
  subst h2
  by_cases h3 : a3 = b3
  case neg => simp [h3]
  subst h3
  by_cases h4 : a4 = b4
  case neg => simp [h4]
  subst h4
  by_cases h5 : a5 = b5
  case neg => simp [h5]
  subst h5
  by_cases h6 : a6 = b6
  case neg => simp [h6]
  subst h6
  by_cases h7 : a7 = b7
  case neg => simp [h7]
  subst h7
  simp
theorem rowOrP : ∃ d, Tryz.prog.underlying 35 = some d ∧ d.isRow = true := ⟨_, Tryz.underlying35, rfl⟩
theorem szOrP : (Tryz.prog.info? 35).map (·.size) = some 8 := by kernel_rfl
theorem zeroOrP : (Tryz.prog.info? 35).map (·.zero) = some (some (.agg (orc or0).toArray)) := by kernel_rfl
theorem eqTOrP (d : Nat) (x y : Or) (w : World) : (Op.equalIn (d + 2) 35 (.agg (orc x).toArray) (.agg (orc y).toArray)).run Tryz.prog w = .ok (decide (x = y)) w := by
  rw [run_equalIn_struct w (d + 1) _ _ _ (show Tryz.prog.underlying 35 = some (.struct (Tryz.prog.fieldsOf 35)) by kernel_rfl) (by kernel_rfl)]
  exact eqFOr d x y w _ (by kernel_rfl)
theorem run_eqlOrP (x y : Or) (w : World) : (binOp .eql 35 (.agg #[.int .i64 (oC x), .int .i64 (oQ x), .int .i64 (oK x), txt (oP x), txt (oV x), .int .i64 (oR x), .int .i64 (oS x), .int .i64 (oT x)]) (.agg #[.int .i64 (oC y), .int .i64 (oQ y), .int .i64 (oK y), txt (oP y), txt (oV y), .int .i64 (oR y), .int .i64 (oS y), .int .i64 (oT y)])).run Tryz.prog w = .ok (.bool (decide (x = y))) w := by
  rw [run_eql_struct, show (Value.agg #[.int .i64 (oC x), .int .i64 (oQ x), .int .i64 (oK x), txt (oP x), txt (oV x), .int .i64 (oR x), .int .i64 (oS x), .int .i64 (oT x)]) = Value.agg (orc x).toArray from rfl, show (Value.agg #[.int .i64 (oC y), .int .i64 (oQ y), .int .i64 (oK y), txt (oP y), txt (oV y), .int .i64 (oR y), .int .i64 (oS y), .int .i64 (oT y)]) = Value.agg (orc y).toArray from rfl, show (10000 : Nat) = 9998 + 2 from rfl, eqTOrP]
  rfl
end Go.Proofs.YtdihngkdhanhkaaGreatDoor
namespace Go.Proofs.YtdihngkdhanhkaaGreatDoor
open Go.RowKit

end Go.Proofs.YtdihngkdhanhkaaGreatDoor
namespace Go.Proofs.YtdihngkdhanhkaaGreatDoor
open Go.RowKit
set_option linter.unusedVariables false

end Go.Proofs.YtdihngkdhanhkaaGreatDoor
namespace Go.Proofs.YtdihngkdhanhkaaGreatDoor
open Go.RowKit
set_option linter.unusedVariables false

end Go.Proofs.YtdihngkdhanhkaaGreatDoor

namespace Go.Proofs.YtdihngkdhanhkaaGreatDoor
open Go.RowKit
set_option linter.unusedVariables false

end Go.Proofs.YtdihngkdhanhkaaGreatDoor
namespace Go.Proofs.YtdihngkdhanhkaaGreatDoor
open Go.RowKit
set_option linter.unusedVariables false

end Go.Proofs.YtdihngkdhanhkaaGreatDoor
namespace Go.Proofs.YtdihngkdhanhkaaGreatDoor
open Go.RowKit

end Go.Proofs.YtdihngkdhanhkaaGreatDoor
namespace Go.Proofs.YtdihngkdhanhkaaGreatDoor
open Go.RowKit

end Go.Proofs.YtdihngkdhanhkaaGreatDoor
namespace Go.Proofs.YtdihngkdhanhkaaGreatDoor
open Go.RowKit

/-- A reply's cells, with the slice of its names. -/
def rpc (r : Rp) (nv : Value) : List Value := [.int .i64 (pC r), .int .i64 (pQ r), .int .i64 (pE r), txt (pV r), .int .i64 (pR r), nv]

end Go.Proofs.YtdihngkdhanhkaaGreatDoor
namespace Go.Proofs.YtdihngkdhanhkaaGreatDoor
open Go.RowKit

/-- Wa: its cells. -/
def wac (x : Wa) : List Value := [txt (wP x), .int .i64 (wC x), .bool (wK x)]
theorem wac_one (x : Wa) : ∀ u ∈ wac x, u.oneCell' = true := by
  intro u hu
  unfold wac at hu
  simp only [List.mem_cons, List.not_mem_nil, or_false] at hu
  rcases hu with rfl | rfl | rfl <;> rfl
def WaK : RowK Wa := { enc := wac, k := 3, d := wa0, len := fun _ => rfl, one := wac_one, pos := by decide }
theorem wac_all (x : Wa) : (wac x).toArray.all (·.oneCell') = true := enc_all WaK x
theorem RdE.atWa {B : Nat} {w : World} {A : Option Addr} {n c : Nat} {l : List Wa} (h : RdE WaK B w (.slice A n c) l) (j : Nat) (hj : j < l.length) :
    ∃ a, A = some a ∧ w.cell? (a.add (j * 3)) = some (txt (wP (l.getD j wa0))) ∧ w.cell? ⟨(a.add (j * 3)).block, (a.add (j * 3)).off + 1, none⟩ = some (.int .i64 (wC (l.getD j wa0))) ∧ w.cell? ⟨(a.add (j * 3)).block, (a.add (j * 3)).off + 2, none⟩ = some (.bool (wK (l.getD j wa0))) := by
  obtain ⟨a, ha, hc⟩ := h.cells j hj
  exact ⟨a, ha, hc 0 (by decide), hc 1 (by decide), hc 2 (by decide)⟩
theorem eqFWa (d : Nat) (x y : Wa) (w : World) (fs : List Field) (h : fs.map (fun f => (f.name == "_", f.type, f.offset)) = [(false, 9, 0), (false, 3, 1), (false, 4, 2)]) :
    (Op.eqFields (d + 1) (wac x).toArray (wac y).toArray fs).run Tryz.prog w = .ok (decide (x = y)) w := by
  obtain ⟨f0, f1, f2, rfl⟩ : ∃ f0 f1 f2, fs = [f0, f1, f2] := by
    have hl := congrArg List.length h
    rw [List.length_map] at hl
    match fs, hl with
    | [f0, f1, f2], _ => exact ⟨f0, f1, f2, rfl⟩
  simp only [List.map_cons, List.map_nil, List.cons.injEq, Prod.mk.injEq, and_true] at h
  obtain ⟨⟨n0, q0, o0⟩, ⟨n1, q1, o1⟩, ⟨n2, q2, o2⟩⟩ := h
  have m0 : f0.name ≠ "_" := by simpa using n0
  have m1 : f1.name ≠ "_" := by simpa using n1
  have m2 : f2.name ≠ "_" := by simpa using n2
  have p0 : ∀ z : Wa, (part f0.type (wac z).toArray f0.offset).run Tryz.prog w = .ok (txt (wP z)) w := fun z => by rw [q0, o0]; exact run_part_cell _ _ _ _ Tryz.isAgg9 rfl w
  have e0' : (Op.equalIn (d + 1) f0.type (txt (wP x)) (txt (wP y))).run Tryz.prog w = .ok (wP x == wP y) w := by rw [q0, run_equalIn_string w d _ _ _ Tryz.underlying9, toList_txtE, toList_txtE]
  have p1 : ∀ z : Wa, (part f1.type (wac z).toArray f1.offset).run Tryz.prog w = .ok (.int .i64 (wC z)) w := fun z => by rw [q1, o1]; exact run_part_cell _ _ _ _ Tryz.isAgg3 rfl w
  have e1' : (Op.equalIn (d + 1) f1.type (.int .i64 (wC x)) (.int .i64 (wC y))).run Tryz.prog w = .ok (wC x == wC y) w := by rw [q1, run_equalIn_int w d _ _ _ _ _ Tryz.underlying3]
  have p2 : ∀ z : Wa, (part f2.type (wac z).toArray f2.offset).run Tryz.prog w = .ok (.bool (wK z)) w := fun z => by rw [q2, o2]; exact run_part_cell _ _ _ _ Tryz.isAgg4 rfl w
  have e2' : (Op.equalIn (d + 1) f2.type (.bool (wK x)) (.bool (wK y))).run Tryz.prog w = .ok (wK x == wK y) w := by rw [q2, run_equalIn_bool' w d _ _ _ Tryz.underlying4]
  obtain ⟨a0, a1, a2⟩ := x
  obtain ⟨b0, b1, b2⟩ := y
  simp only [Op.eqFields, if_pos m0, if_pos m1, if_pos m2, Sem.run_bind, p0, p1, p2, e0', e1', e2', Result.andThen_ok, Sem.run_ite, Sem.run_pure]
  by_cases h0 : a0 = b0 <;> by_cases h1 : a1 = b1 <;> by_cases h2 : a2 = b2 <;> simp [h0, h1, h2]
theorem rowWaP : ∃ d, Tryz.prog.underlying 94 = some d ∧ d.isRow = true := ⟨_, Tryz.underlying94, rfl⟩
theorem szWaP : (Tryz.prog.info? 94).map (·.size) = some 3 := by kernel_rfl
theorem zeroWaP : (Tryz.prog.info? 94).map (·.zero) = some (some (.agg (wac wa0).toArray)) := by kernel_rfl
theorem kindWaP : KindOf Tryz.prog 94 WaK 32 := kind_of (z := .agg (wac wa0).toArray) (by kernel_rfl) rfl
theorem eqTWaP (d : Nat) (x y : Wa) (w : World) : (Op.equalIn (d + 2) 94 (.agg (wac x).toArray) (.agg (wac y).toArray)).run Tryz.prog w = .ok (decide (x = y)) w := by
  rw [run_equalIn_struct w (d + 1) _ _ _ (show Tryz.prog.underlying 94 = some (.struct (Tryz.prog.fieldsOf 94)) by kernel_rfl) (by kernel_rfl)]
  exact eqFWa d x y w _ (by kernel_rfl)
theorem run_eqlWaP (x y : Wa) (w : World) : (binOp .eql 94 (.agg #[txt (wP x), .int .i64 (wC x), .bool (wK x)]) (.agg #[txt (wP y), .int .i64 (wC y), .bool (wK y)])).run Tryz.prog w = .ok (.bool (decide (x = y))) w := by
  rw [run_eql_struct, show (Value.agg #[txt (wP x), .int .i64 (wC x), .bool (wK x)]) = Value.agg (wac x).toArray from rfl, show (Value.agg #[txt (wP y), .int .i64 (wC y), .bool (wK y)]) = Value.agg (wac y).toArray from rfl, show (10000 : Nat) = 9998 + 2 from rfl, eqTWaP]
  rfl
theorem run_neqWaP (x y : Wa) (w : World) : (binOp .neq 94 (.agg #[txt (wP x), .int .i64 (wC x), .bool (wK x)]) (.agg #[txt (wP y), .int .i64 (wC y), .bool (wK y)])).run Tryz.prog w = .ok (.bool (!decide (x = y))) w := by
  rw [run_neq_struct, show (Value.agg #[txt (wP x), .int .i64 (wC x), .bool (wK x)]) = Value.agg (wac x).toArray from rfl, show (Value.agg #[txt (wP y), .int .i64 (wC y), .bool (wK y)]) = Value.agg (wac y).toArray from rfl, show (10000 : Nat) = 9998 + 2 from rfl, eqTWaP]
  rfl
/-- Ch: its cells. -/
def chc (x : Ch) : List Value := [.int .i64 (cK x), txt (cP x)]
theorem chc_one (x : Ch) : ∀ u ∈ chc x, u.oneCell' = true := by
  intro u hu
  unfold chc at hu
  simp only [List.mem_cons, List.not_mem_nil, or_false] at hu
  rcases hu with rfl | rfl <;> rfl
def ChK : RowK Ch := { enc := chc, k := 2, d := ch0, len := fun _ => rfl, one := chc_one, pos := by decide }
theorem chc_all (x : Ch) : (chc x).toArray.all (·.oneCell') = true := enc_all ChK x
theorem RdE.atCh {B : Nat} {w : World} {A : Option Addr} {n c : Nat} {l : List Ch} (h : RdE ChK B w (.slice A n c) l) (j : Nat) (hj : j < l.length) :
    ∃ a, A = some a ∧ w.cell? (a.add (j * 2)) = some (.int .i64 (cK (l.getD j ch0))) ∧ w.cell? ⟨(a.add (j * 2)).block, (a.add (j * 2)).off + 1, none⟩ = some (txt (cP (l.getD j ch0))) := by
  obtain ⟨a, ha, hc⟩ := h.cells j hj
  exact ⟨a, ha, hc 0 (by decide), hc 1 (by decide)⟩
theorem szChP : (Tryz.prog.info? 96).map (·.size) = some 2 := by kernel_rfl
theorem zeroChP : (Tryz.prog.info? 96).map (·.zero) = some (some (.agg (chc ch0).toArray)) := by kernel_rfl
theorem kindChP : KindOf Tryz.prog 96 ChK 24 := kind_of (z := .agg (chc ch0).toArray) (by kernel_rfl) rfl
/-- Ev: its cells. -/
def evc (x : Ev) : List Value := [txt (wP x.1), .int .i64 (wC x.1), .bool (wK x.1), .int .i64 (cK x.2), txt (cP x.2)]
theorem evc_one (x : Ev) : ∀ u ∈ evc x, u.oneCell' = true := by
  intro u hu
  unfold evc at hu
  simp only [List.mem_cons, List.not_mem_nil, or_false] at hu
  rcases hu with rfl | rfl | rfl | rfl | rfl <;> rfl
def EvK : RowK Ev := { enc := evc, k := 5, d := ev0, len := fun _ => rfl, one := evc_one, pos := by decide }
theorem kindEvP : KindOf Tryz.prog 98 EvK 56 := kind_of (z := .agg (evc ev0).toArray) (by kernel_rfl) rfl
end Go.Proofs.YtdihngkdhanhkaaGreatDoor
namespace Go.Proofs.YtdihngkdhanhkaaGreatDoor
open Go.RowKit

/-- A node's cells. -/
def ndc (x : Nd) : List Value := [txt (nP x), txt (nV x), .int .i64 (nR x), .int .i64 (nO x)]
def nds (l : List Nd) : List Value := l.flatMap ndc
theorem nds_length : ∀ l : List Nd, (nds l).length = 4 * l.length
  | [] => rfl
  | x :: r => by
    have := nds_length r
    unfold nds at *
    rw [List.flatMap_cons, List.length_append, this, List.length_cons]
    show 4 + _ = _
    omega
theorem nds_append (a b : List Nd) : nds (a ++ b) = nds a ++ nds b := by simp [nds]
theorem nds_one (x : Nd) : nds [x] = ndc x := by simp [nds]
theorem nds_get : ∀ (l : List Nd) (j k : Nat), j < l.length → k < 4 → (nds l)[4 * j + k]? = (ndc (l.getD j nd0))[k]?
  | [], j, _, h, _ => by simp at h
  | x :: r, j, k, h, hk => by
    have e : nds (x :: r) = ndc x ++ nds r := by simp [nds]
    rw [e]
    cases j with
    | zero =>
      rw [List.getElem?_append_left (by show _ < 4; omega)]
      simp
    | succ j =>
      rw [List.getElem?_append_right (by show 4 ≤ _; omega)]
      have := nds_get r j k (by simpa using h) hk
      rw [show 4 * (j + 1) + k - (ndc x).length = 4 * j + k from by show _ - 4 = _; omega, this]
      simp
theorem ndc_get (x : Nd) (k : Nat) (hk : k < 4) : (ndc x)[k]? = some ((ndc x).getD k undef) := by
  match k, hk with
  | 0, _ => rfl
  | 1, _ => rfl
  | 2, _ => rfl
  | 3, _ => rfl
theorem nds_cell (l : List Nd) : ∀ u ∈ nds l, u.oneCell' = true := by
  intro u hu
  unfold nds at hu
  obtain ⟨x, _, h⟩ := List.mem_flatMap.1 hu
  unfold ndc at h
  simp only [List.mem_cons, List.not_mem_nil, or_false] at h
  rcases h with rfl | rfl | rfl | rfl <;> rfl

/-- The slice value v reads as the nodes l; it lies below block B. Nil reads as none. -/
def RdNd (B : Nat) (w : World) (v : Value) (l : List Nd) : Prop :=
  ∃ A c, v = .slice A l.length c ∧ l.length ≤ c ∧ c ≤ maxLen ∧ (A = none → c = 0) ∧
    ∀ a, A = some a → (0 < l.length → a.block < B) ∧ ∀ j u, (nds l)[j]? = some u → w.cell? (a.add j) = some u
/-- The call owns the slice value v of nodes, from block 'base' on. -/
def OwnNd (e : TypeId) (w : World) (base : Nat) (v : Value) (l : List Nd) : Prop := w.ownsRow base e 4 v l.length (nds l)

theorem RdNd.keep {B : Nat} {w w' : World} {v : Value} {l : List Nd} (h : RdNd B w v l) (hk : ∀ p : Addr, p.block < B → w'.cell? p = w.cell? p) : RdNd B w' v l := by
  obtain ⟨A, c, hv, hc, hm, hn, hr⟩ := h
  refine ⟨A, c, hv, hc, hm, hn, fun a ha => ⟨(hr a ha).1, fun j u hu => ?_⟩⟩
  have hj : j < (nds l).length := (List.getElem?_eq_some_iff.1 hu).1
  rw [nds_length] at hj
  rw [hk _ (by rw [addr_block]; exact (hr a ha).1 (by omega))]
  exact (hr a ha).2 j u hu
theorem RdNd.below {B : Nat} {w w' : World} {v : Value} {l : List Nd} (h : RdNd B w v l) (hb : Below B w w') : RdNd B w' v l := h.keep fun _ hp => hb.cell hp
theorem RdNd.more {B B' : Nat} {w : World} {v : Value} {l : List Nd} (h : RdNd B w v l) (hB : B ≤ B') : RdNd B' w v l := by
  obtain ⟨A, c, hv, hc, hm, hn, hr⟩ := h
  exact ⟨A, c, hv, hc, hm, hn, fun a ha => ⟨fun h0 => Nat.lt_of_lt_of_le ((hr a ha).1 h0) hB, (hr a ha).2⟩⟩
theorem RdNd.nil (B : Nat) (w : World) : RdNd B w (.slice none 0 0) [] := ⟨none, 0, rfl, Nat.le_refl _, Nat.zero_le _, fun _ => rfl, fun _ h => by cases h⟩
theorem RdNd.shape {B : Nat} {w : World} {v : Value} {l : List Nd} (h : RdNd B w v l) : ∃ A c, v = .slice A l.length c ∧ l.length ≤ c ∧ c ≤ maxLen := by
  obtain ⟨A, c, hv, h1, h2, _⟩ := h
  exact ⟨A, c, hv, h1, h2⟩
/-- The cells of a node: where there is one, the address is there. -/
theorem RdNd.at_ {B : Nat} {w : World} {A : Option Addr} {n c : Nat} {l : List Nd} (h : RdNd B w (.slice A n c) l) (j : Nat) (hj : j < l.length) :
    ∃ a, A = some a ∧ w.cell? (a.add (j * 4)) = some (txt (nP (l.getD j nd0))) ∧ w.cell? ⟨(a.add (j * 4)).block, (a.add (j * 4)).off + 1, none⟩ = some (txt (nV (l.getD j nd0))) ∧
      w.cell? ⟨(a.add (j * 4)).block, (a.add (j * 4)).off + 2, none⟩ = some (.int .i64 (nR (l.getD j nd0))) ∧ w.cell? ⟨(a.add (j * 4)).block, (a.add (j * 4)).off + 3, none⟩ = some (.int .i64 (nO (l.getD j nd0))) := by
  obtain ⟨A', c', hv, hc, hm, hn, hr⟩ := h
  injection hv with h1 h2 h3
  subst h1 h2 h3
  cases A with
  | none => have := hn rfl; omega
  | some a =>
    have hg : ∀ k, k < 4 → w.cell? ((a.add (j * 4)).add k) = some ((ndc (l.getD j nd0)).getD k undef) := by
      intro k hk
      rw [Addr.add_add, show j * 4 = 4 * j from Nat.mul_comm _ _]
      exact (hr a rfl).2 (4 * j + k) _ ((nds_get l j k hj hk).trans (ndc_get (l.getD j nd0) k hk))
    exact ⟨a, rfl, hg 0 (by decide), hg 1 (by decide), hg 2 (by decide), hg 3 (by decide)⟩

theorem OwnNd.rd {e : TypeId} {w : World} {base : Nat} {v : Value} {l : List Nd} (h : OwnNd e w base v l) : RdNd w.heap.size w v l := by
  rcases h.2 with ⟨rfl, hn⟩ | ⟨g, cap, cur, rfl, hb, hg, hnc, hm, _, _⟩
  · have : l = [] := List.eq_nil_of_length_eq_zero hn
    subst this
    exact RdNd.nil _ _
  · have hlt : g < w.heap.size := (Array.getElem?_eq_some_iff.1 hg).1
    refine ⟨some ⟨g, 0, none⟩, cap, rfl, hnc, hm, fun h => (by cases h), fun a ha => ?_⟩
    cases ha
    exact ⟨fun _ => hlt, fun j u hu => World.ownsRow.cells (g := g) h rfl j _ hu⟩
theorem OwnNd.below {e : TypeId} {w w' : World} {base B : Nat} {v : Value} {l : List Nd} (h : OwnNd e w base v l) (hb : Below B w w') (hB : w.heap.size ≤ B) : OwnNd e w' base v l := by
  refine ⟨h.1, ?_⟩
  rcases h.2 with hn | ⟨g, cap, cur, rfl, hg0, hg, r⟩
  · exact .inl hn
  · have hlt : g < w.heap.size := (Array.getElem?_eq_some_iff.1 hg).1
    exact .inr ⟨g, cap, cur, rfl, hg0, by rw [hb.block g (by omega)]; exact hg, r⟩
theorem OwnNd.base {e : TypeId} {w : World} {base base' : Nat} {v : Value} {l : List Nd} (h : OwnNd e w base v l) (hb : base' ≤ base) : OwnNd e w base' v l := by
  refine ⟨h.1, ?_⟩
  rcases h.2 with hn | ⟨g, cap, cur, rfl, hg0, r⟩
  · exact .inl hn
  · exact .inr ⟨g, cap, cur, rfl, by omega, r⟩
theorem OwnNd.nil (e : TypeId) (w : World) (base : Nat) : OwnNd e w base (.slice none 0 0) [] := World.ownsRow_nil w base e 4
theorem OwnNd.alloc {e : TypeId} {w : World} {base : Nat} {v : Value} {l : List Nd} (h : OwnNd e w base v l) (o : Obj) : OwnNd e (w.alloc o) base v l := World.ownsRow.alloc h o
theorem OwnNd.grown {e : TypeId} {w w' : World} {base : Nat} {v : Value} {l : List Nd} (h : OwnNd e w base v l) (hg : w.grownBy w' v.ownBlock) (hb : base ≤ w.heap.size) : Below base w w' :=
  (Below.refl base w).grown hg hb fun k hk => (World.ownsRow.lt h k hk).1
theorem OwnNd.empty (e : TypeId) (w : World) (base : Nat) (hb : base ≤ w.heap.size) : OwnNd e (w.alloc (.cells #[] e)) base (.slice (some ⟨w.heap.size, 0, none⟩) 0 0) [] :=
  World.ownsRow_made w #[] 0 hb (by decide) rfl

def ndz : Value := .agg #[.string ⟨#[]⟩, .string ⟨#[]⟩, .int .i64 0, .int .i64 0]
/-- append of nodes onto nodes that are owned. -/
theorem wpList_appNd {P : Program} {w : World} {ops : Array Oper} {rest : List Oper} {o : Oper} {a : Act} {Q : Exit → Act → World → Prop}
    (hgd : o.guard = none) (s x : Operand) (t : TypeId) (ho : o.op = .call { callee := .builtin .append, args := #[s, x], argTypes := #[t, t] })
    (e : TypeId) (i : TypeInfo) (ht : P.underlying t = some (.slice e)) (hi : P.info? e = some i) (hz : i.zero = some ndz) (hsize : i.size = 4) (hby : i.bytes = 48)
    (base B : Nat) (v vx : Value) (l m : List Nd) (hs : a.eval s = v) (hown : OwnNd e w base v l) (hx : a.eval x = vx) (hr : RdNd B w vx m)
    (hlen : l.length + m.length ≤ 1000000) (hbase : base ≤ w.heap.size)
    (h : ∀ v' w', OwnNd e w' base v' (l ++ m) → Below base w w' → w.grownBy w' v.ownBlock → wpList P ops Q rest (a.put o.dst v') w') : wpList P ops Q (o :: rest) a w := by
  obtain ⟨A, c, hv, hc, hm, hn, hrr⟩ := hr
  cases A with
  | none =>
    have h0 : c = 0 := hn rfl
    have h1 : m.length = 0 := by omega
    have h2 : m = [] := List.eq_nil_of_length_eq_zero h1
    subst h0 h2
    refine wpList_append_own_none hgd s x t ho base e i 4 ht hi v l.length (nds l) hs hown (by rw [hx, hv]; rfl) ?_
    exact h v w (by rw [List.append_nil]; exact hown) (Below.refl _ _) ⟨rfl, rfl, rfl, Nat.le_refl _, fun _ _ _ => rfl⟩
  | some ad =>
    refine wpList_append_own w hgd s x t ho base e i ndz 4 48 ht hi hz hsize hby rfl (by decide) v l.length (nds l) hs hown ad m.length c (nds m) (by rw [hx, hv]) (by rw [nds_length]; omega) (hrr ad rfl).2 (nds_cell m) (by unfold maxLen; omega) (by omega) hbase ?_
    intro v' w' h1 h2 _
    refine h v' w' ?_ (OwnNd.grown hown h2 hbase) h2
    unfold OwnNd
    rw [List.length_append, nds_append]
    exact h1

theorem RdNd.node {B : Nat} {w : World} {a : Addr} {n c : Nat} {l : List Nd} (h : RdNd B w (.slice (some a) n c) l) (j : Nat) (hj : j < l.length) : ∀ k v, (ndc (l.getD j nd0))[k]? = some v → w.cell? ((a.add (j * 4)).add k) = some v := by
  intro k v hv
  have hk : k < 4 := (List.getElem?_eq_some_iff.1 hv).1
  obtain ⟨A', c', e, hc, hm, hn, hr⟩ := h
  injection e with h1 h2 h3
  subst h1 h2 h3
  rw [Addr.add_add, show j * 4 = 4 * j from Nat.mul_comm _ _]
  exact (hr a rfl).2 (4 * j + k) v ((nds_get l j k hj hk).trans hv)
end Go.Proofs.YtdihngkdhanhkaaGreatDoor
