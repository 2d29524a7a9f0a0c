/-
  Package ots: hashIn and number, for every slice that is long enough.
  Package ots: shapeIn, for every slice of bytes.
  Package ots: Candidate, for every signature of at most 1000000 bytes and every text of at most 100000.
-/
import Derived.Test.YteckenlbelgknaaOC
import Derived.BigQuiet
namespace Go.Proofs.Yteckenlbelgknaa
open Go.RowKit

theorem Rd.take {B : Nat} {w : World} {a : Addr} {n c : Nat} {l : List UInt8} (h : Rd B w (.slice (some a) n c) l) (m : Nat) (hm : m ≤ n) : Rd B w (.slice (some a) m c) (l.take m) := by
  obtain ⟨A, c', hv, hc, hmx, hn, hcell⟩ := h
  injection hv with h1 h2 h3
  subst h1 h2 h3
  have hl : (l.take m).length = m := by rw [List.length_take]; omega
  refine ⟨some a, c, by rw [hl], by omega, hmx, fun h => (by cases h), fun x hx => ?_⟩
  cases hx
  refine ⟨fun h0 => (hcell a rfl).1 (by omega), fun j hj => ?_⟩
  rw [(hcell a rfl).2 j (by omega)]
  simp
theorem Rd.some_ {B : Nat} {w : World} {v : Value} {l : List UInt8} (h : Rd B w v l) (h0 : 0 < l.length) : ∃ a c, v = .slice (some a) l.length c ∧ l.length ≤ c ∧ c ≤ maxLen := by
  obtain ⟨A, c, rfl, hc, hm, hn, _⟩ := h
  cases A with
  | none => have := hn rfl; omega
  | some a => exact ⟨a, c, rfl, hc, hm⟩
/-- What is behind place m of a slice. -/
theorem run_sliceFromS (a : Addr) (n c m : Nat) (w : World) (h1 : m < n) (_ : n ≤ c) : (Instr.sliceAt 22 (.slice (some a) n c) (some (.int .i64 (m : Int))) none none).run Try.prog w = .ok (.slice (some (a.add m)) (n - m) (c - m)) w := by
  have e1 : m ≤ n := by omega

  have e3 : ¬ c = m := by omega
  simp [Instr.sliceAt, Instr.slice, run_underlying Try.underlying22, Instr.sliceBounds, Instr.sliceBound, asIntOf, e1, e3, Sem.run_bind, Result.andThen]


theorem wd_int2 (B0 B1 B2 B3 : Nat) (y0 : B0 < 256) (y1 : B1 < 256) (y2 : B2 < 256) (y3 : B3 < 256) :
    bits .or .u32 (bits .or .u32 (bits .or .u32 ((B0 : Int) * 16777216) ((B1 : Int) * 65536)) ((B2 : Int) * 256)) (B3 : Int) = ((B0 * 16777216 ||| B1 * 65536 ||| B2 * 256 ||| B3 : Nat) : Int) := by
  have r0 : (B0 : Int) * 16777216 = ((B0 * 16777216 : Nat) : Int) := by omega
  have r1 : (B1 : Int) * 65536 = ((B1 * 65536 : Nat) : Int) := by omega
  have r2 : (B2 : Int) * 256 = ((B2 * 256 : Nat) : Int) := by omega
  rw [r0, r1, r2, u32_or_nat _ _ (by omega) (by omega), u32_or_nat _ _ (or32 (by omega) (by omega)) (by omega), u32_or_nat _ _ (or32 (or32 (by omega) (by omega)) (by omega)) (by omega)]

end Go.Proofs.Yteckenlbelgknaa

namespace Go.Proofs.Yteckenlbelgknaa
open Go.RowKit

/-- The bytes have the type and the length of a signature of width k. -/
def Fits (s : List UInt8) (k : Nat) : Prop := Wd k ∧ typ k = wd (s.take 4) 0 ∧ s.length = lng k
/-- Three answers, and no old memory has changed. -/
def Three (x y z : Value) (w : World) (e : Ending) (w' : World) : Prop := e = .returned (.tuple #[x, y, z]) ∧ Below w.heap.size w w'

theorem Dt_inv (x c : Int) (h : ∀ zd, Dt.atKey (.int .i64 x) zd = .lit (.int .u32 c)) : ∃ k : Nat, Wd k ∧ x = (k : Int) ∧ c = ((typ k : Nat) : Int) := by
  have key : ∀ k : Nat, Wd k → x = (k : Int) → ∃ k : Nat, Wd k ∧ x = (k : Int) ∧ c = ((typ k : Nat) : Int) := fun k hk hx => by
    subst hx
    have h1 := h .nil
    rw [typ_at k hk] at h1
    injection h1 with h1
    injection h1 with _ h1
    exact ⟨k, hk, rfl, h1.symm⟩
  by_cases h1 : x = 1
  · exact key 1 (by simp [Wd]) h1
  by_cases h2 : x = 2
  · exact key 2 (by simp [Wd]) h2
  by_cases h4 : x = 4
  · exact key 4 (by simp [Wd]) h4
  by_cases h8 : x = 8
  · exact key 8 (by simp [Wd]) h8
  have e1 := h .nil
  have n1 : ¬ (1 : Int) = x := fun e => h1 e.symm
  have n2 : ¬ (2 : Int) = x := fun e => h2 e.symm
  have n4 : ¬ (4 : Int) = x := fun e => h4 e.symm
  have n8 : ¬ (8 : Int) = x := fun e => h8 e.symm
  simp [Dt, DataW.atKey, Lit.sameKey, List.find?, n1, n2, n4, n8] at e1
theorem Dt_has (k : Nat) (hk : Wd k) : Maps.has Dt (.int .i64 (k : Int)) = true := by
  rcases hk with rfl | rfl | rfl | rfl <;> rfl
theorem wd_wf (k : Nat) (hk : Wd k) : typ k ≤ 4 := by rcases hk with rfl | rfl | rfl | rfl <;> decide

theorem ret_blk3U {P : Program} {fn : Func} {p u v : Tmp} {ty : TypeId} (h : fn.results = #[.tmp v, .cell p ty, .tmp u]) (tmps : Array Value) (w : World) (g : Nat) (t : TypeId) (cs : List Value) (x y : Value)
    (hp : tmps.getD p undef = .pointer (some ⟨g, 0, none⟩)) (hx : tmps.getD v undef = x) (hv : tmps.getD u undef = y) (hb : Blk w g cs t) (d : TypeDesc) (hu : P.underlying ty = some d) (hd : d.isRow = true) (hi : (P.info? ty).map (·.size) = some cs.length) :
    (results fn tmps).run P w = .ok (.tuple #[x, .agg cs.toArray, y]) w := by
  have hl := run_loadVar_row w g t ty cs.toArray (0, 0) d hb hu (by cases d <;> first | rfl | cases hd) (by simpa using hi)
  have hp' : tmps[p]?.getD undef = .pointer (some ⟨g, 0, none⟩) := by simpa using hp
  have hx' : tmps[v]?.getD undef = x := by simpa using hx
  have hv' : tmps[u]?.getD undef = y := by simpa using hv
  simp [results, h, Result.andThen, hp', hx', hv', asAddr, hl]


/-- What shapeIn answers of bytes that are not too short. -/
def ShapeIs (s : List UInt8) (w : World) (e : Ending) (w' : World) : Prop :=
  (∃ k, Fits s k ∧ Three (.int .i64 (k : Int)) (.agg (shp k).toArray) (.int .i64 0) w e w') ∨ ((∀ k, ¬ Fits s k) ∧ Three (.int .i64 0) (.agg shp0.toArray) (.int .i64 3) w e w')

theorem wpList_load_blkUG {P : Program} {w : World} {ops : Array Oper} {rest : List Oper} {o : Oper} {a : Act} {Q : Exit → Act → World → Prop} (t : TypeId) (x : Operand) (ho : o.op = .load t x) (g : Nat) (hx : a.eval x = .pointer (some ⟨g, 0, none⟩)) (cs : List Value) (u : TypeId) (hb : Blk w g cs u)
    (d : TypeDesc) (hu : P.underlying t = some d) (hd : d.isRow = true) (hi : (P.info? t).map (·.size) = some cs.length) (hw : Region.wanted o (yielded ops a.tmps) = true)
    (h : wpList P ops Q rest (a.put o.dst (.agg cs.toArray)) w) : wpList P ops Q (o :: rest) a w := by
  refine BigFrame.wpList_want hw (fun K hK => ?_)
  unfold Oper.wp
  rw [run_load_blkU t x ho g hx cs u hb d hu hd hi]
  exact hK _ _ h

end Go.Proofs.Yteckenlbelgknaa

namespace Go.Proofs.Yteckenlbelgknaa
open Go.RowKit

theorem rowsTo_len2 (f : Nat → List UInt8) (n : Nat) (hf : ∀ i, i < n → (f i).length = 32) : (rowsTo f n).length = 32 * n := by
  induction n with
  | zero => rfl
  | succ n ih => rw [rowsTo_succ, List.length_append, ih (fun i hi => hf i (by omega)), hf n (by omega)]; omega
theorem hAt_length (s : List UInt8) (i : Nat) (h : 4 + i * 32 + 32 ≤ s.length) : (hAt s i).length = 32 := by unfold hAt; rw [List.length_take, List.length_drop]; omega
theorem cndF_length (p s : List UInt8) (D : List Nat) (k i : Nat) (h : s.length = lng k) (hi : i < mny k) : (cndF p s D k i).length = 32 := chn_length _ _ _ _ _ (hAt_length _ _ (by rw [h]; unfold lng; omega))

end Go.Proofs.Yteckenlbelgknaa
