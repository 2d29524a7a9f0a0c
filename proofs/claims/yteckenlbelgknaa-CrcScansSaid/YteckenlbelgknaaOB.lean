/-
  Package ots: types and shapeOf, for every int. Package ots: hasDigit, long, Long, Type and Secret, for every input. Package ots: Secret, for every key and every int. Package ots: Chain, for every key, every three ints and every hash. Package ots: Public of a key whose W is no width; the statements' live question, which is answered with true.
-/
import Derived.Test.YteckenlbelgknaaOA
import Derived.Maps.Own
import Derived.Maps.OwnOps
import Derived.Maps.RangeWalk
import Derived.ScopeJumps
import Derived.WalkMore
namespace Go.Proofs.Yteckenlbelgknaa
open Go.RowKit
open Go.Maps (Keyed int_keyed)

/-- A scope in which the run may jump ahead to label l, and jumps no more behind it. -/
theorem wp_scope_goto {P : Program} {a : Act} {w : World} {Q : Exit → Act → World → Prop} {c rest : Code} (l : Nat) (hf : findLabel c l = some rest)
    (h : c.wp P (Exit.jump l (fun a w => rest.wp P (Exit.noGoto Q) a w) Q) a w) : (Code.scope c).wp P Q a w :=
  wp_scope_jumps l _ (fun _ _ => 0) hf h (fun a w hJ => Code.wp_mono (fun e a' w' he => by cases e <;> first | exact he | exact he.elim) hJ)
theorem jump_ret {l : Nat} {J : Act → World → Prop} {Q : Exit → Act → World → Prop} {a : Act} {w : World} : Exit.jump l J Q .ret a w = Q .ret a w := rfl

/-- The types, as a map's datum. -/
def Dt : DataW Unit := .map [(.int .i64 1, .lit (.int .u32 1)), (.int .i64 2, .lit (.int .u32 2)), (.int .i64 4, .lit (.int .u32 3)), (.int .i64 8, .lit (.int .u32 4))]
theorem Dt_eq : (((((DataW.map [] : DataW Unit).put (.int .i64 1) (.lit (.int .u32 1))).put (.int .i64 2) (.lit (.int .u32 2))).put (.int .i64 4) (.lit (.int .u32 3))).put (.int .i64 8) (.lit (.int .u32 4))) = Dt := by kernel_rfl
theorem law3 : Keyed Try.prog 3 := int_keyed Try.underlying3
theorem zero23 (w : World) : (zeroValue 23).run Try.prog w = .ok (.int .u32 0) w := by kernel_rfl

theorem wpList_insert_own {H : Type} {P : Program} (w : World) {ops : Array Oper} {rest : List Oper} {o : Oper} {a : Act} {Q : Exit → Act → World → Prop}
    (hg : o.guard = none) (m x v : Operand) (t : TypeId) (hop : o.op = Op.insert t m x v)
    (k e : TypeId) (K : Keyed P k) (ht : P.underlying t = some (.map k e)) (R : Value → Option (DataW H × List MemPlace)) (b n : Nat) (D : DataW H)
    (hm : a.eval m = .map (some b)) (hown : w.ownsMap P k R b n D) (hn : n < maxLen) (key val : Value) (kl : Lit) (hx : a.eval x = key) (hv : a.eval v = val) (hkey : keyOf P k key = some kl)
    (d : DataW H) (ps : List MemPlace) (hval : R val = some (d, ps))
    (hK : ∀ w', w'.ownsMap P k R b (n + 1) (D.put kl d) → w.grownBy w' (some b) → wpList P ops Q rest (a.put o.dst undef) w') :
    wpList P ops Q (o :: rest) a w := by
  refine wpList_plain hg fun K' hK' => ?_
  obtain ⟨w', hrun, r1, r2⟩ := hown.update K ht hn hkey hval
  unfold Oper.wp
  simp [execOp, hop, hm, hx, hv, hrun, Result.andThen]
  exact hK' _ _ (hK w' r1 r2)

/-- What types answers. -/
def Types (w : World) (e : Ending) (w' : World) : Prop := ∃ B, e = .returned (.map (some B)) ∧ w'.ownsMap Try.prog 3 (plainElem (H := Unit) Try.prog 23) B 4 Dt ∧ Below w.heap.size w w' ∧ w.heap.size ≤ B


theorem wrap_i64 (n : Int) (h0 : 0 ≤ n) (h1 : n ≤ 9223372036854775807) : IntKind.i64.wrap n = n := by
  simp [IntKind.wrap, IntKind.bits, IntKind.signed]
  omega
/-- The value is the map of types. -/
def TypN : Value → World → Prop := fun v w => ∃ B, v = .map (some B) ∧ w.ownsMap Try.prog 3 (plainElem (H := Unit) Try.prog 23) B 4 Dt
theorem below_grownN {w w' : World} (h : Below w.heap.size w w') : w.grownBy w' none := ⟨h.os, h.tape, h.output, h.size, fun k hk _ => h.block k hk⟩
theorem TypN.keep {v : Value} {w w' : World} (h : TypN v w) (hb : Below w.heap.size w w') : TypN v w' := by
  obtain ⟨B, hv, ho⟩ := h
  exact ⟨B, hv, ho.kept (below_grownN hb) (by simp)⟩
theorem key3 (k : Nat) (hk : Wd k) : keyOf Try.prog 3 (.int .i64 (k : Int)) = some (.int .i64 (k : Int)) := by
  rcases hk with rfl | rfl | rfl | rfl <;> kernel_rfl
/-- The type of a width. -/
def typ (k : Nat) : Nat := if k = 8 then 4 else if k = 4 then 3 else k
/-- What a width determines, as cells. -/
def shp (k : Nat) : List Value := [.int .u32 (typ k : Nat), .int .i64 ((onn k + chk k : Nat) : Int), .int .i64 (gr k : Nat)]
def shp0 : List Value := [.int .u32 0, .int .i64 0, .int .i64 0]
def rowB (o : Option TypeDesc) : Bool := match o with | some (.struct _) | some (.array _ _) => true | _ => false
theorem row_of {o : Option TypeDesc} (h : rowB o = true) : ∃ d, o = some d ∧ d.isRow = true := by
  cases o with
  | none => cases h
  | some d => exact ⟨d, rfl, by cases d <;> first | rfl | cases h⟩
theorem shp0_one : shp0.toArray.all (·.oneCell') = true := by simp [shp0, Value.oneCell']
theorem shp_one (k : Nat) : (shp k).toArray.all (·.oneCell') = true := by simp [shp, Value.oneCell']
theorem typ_at (k : Nat) (hk : Wd k) : ∀ z, Dt.atKey (.int .i64 (k : Int)) z = .lit (.int .u32 (typ k : Nat)) := by
  intro z
  rcases hk with rfl | rfl | rfl | rfl <;> rfl

/-- What a function answers whose first result lies in a variable of its own (an array, a struct), the second one in a slot. -/
theorem ret_blk2U {P : Program} {fn : Func} {p u : Tmp} {ty : TypeId} (h : fn.results = #[.cell p ty, .tmp u]) (tmps : Array Value) (w : World) (g : Nat) (t : TypeId) (cs : List Value) (v : Value)
    (hp : tmps.getD p undef = .pointer (some ⟨g, 0, none⟩)) (hv : tmps.getD u undef = v) (hb : Blk w g cs t) (d : TypeDesc) (hu : P.underlying ty = some d) (hd : d.isRow = true) (hi : (P.info? ty).map (·.size) = some cs.length) :
    (results fn tmps).run P w = .ok (.tuple #[.agg cs.toArray, v]) w := by
  rw [results_cell_tmp h, hp]
  simp [asAddr, Result.andThen, run_loadVar_row w g t ty cs.toArray (0, 0) d hb hu (by cases d <;> first | rfl | cases hd) (by simpa using hi)]
  simpa using hv


end Go.Proofs.Yteckenlbelgknaa

namespace Go.Proofs.Yteckenlbelgknaa
open Go.RowKit

/-- All digits. -/
def mny (k : Nat) : Nat := onn k + chk k
/-- How many bytes a signature has. -/
def lng (k : Nat) : Nat := 4 + (1 + mny k) * 32
theorem mny_le (k : Nat) (hk : Wd k) : mny k ≤ 300 := by
  obtain ⟨_, _, hP, _⟩ := hk.le
  have := chk_le k
  unfold mny; omega





end Go.Proofs.Yteckenlbelgknaa

namespace Go.Proofs.Yteckenlbelgknaa
open Go.RowKit



end Go.Proofs.Yteckenlbelgknaa

namespace Go.Proofs.Yteckenlbelgknaa
open Go.RowKit






end Go.Proofs.Yteckenlbelgknaa

namespace Go.Proofs.Yteckenlbelgknaa
open Go.RowKit


end Go.Proofs.Yteckenlbelgknaa
