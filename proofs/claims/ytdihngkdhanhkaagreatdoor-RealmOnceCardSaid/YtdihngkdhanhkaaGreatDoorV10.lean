/-
  Texts NE UA H3 R4.
-/
import Derived.Lib.Overlaps
import Derived.Lib.AppendZerosOnto
import Derived.Deep.RegionLaw
import Derived.Test.YtdihngkdhanhkaaGreatDoorV06
import Derived.Test.YtdihngkdhanhkaaGreatDoorV07
import Derived.Test.YtdihngkdhanhkaaGreatDoorV08
import Derived.Test.YtdihngkdhanhkaaGreatDoorV09
namespace Go.Proofs.YtdihngkdhanhkaaGreatDoor
set_option maxRecDepth 100000
set_option maxHeartbeats 16000000
open Go.RowKit
def rpc (r : Rp) (nv : Value) : List Value := [.int .i64 (pC r), .int .i64 (pQ r), .int .i64 (pE r), txt (pV r), .int .i64 (pR r), nv]
def wac (x : Wa) : List Value := [txt (wP x), .int .i64 (wC x), .bool (wK x)]
theorem wac_one (x : Wa) : ∀ u ∈ wac x, u.oneCell' = true := by
 intro u hu
 unfold wac at hu
 simp only [List.mem_cons, List.not_mem_nil, or_false] at hu
 rcases hu with rfl | rfl | rfl <;> rfl
def WaK : RowK Wa := { enc := wac, k := 3, d := wa0, len := fun _ => rfl, one := wac_one, pos := by decide }
theorem wac_all (x : Wa) : (wac x).toArray.all (·.oneCell') = true := enc_all WaK x
theorem RdE.atWa {B : Nat} {w : World} {A : Option Addr} {n c : Nat} {l : List Wa} (h : RdE WaK B w (.slice A n c) l) (j : Nat) (hj : j < l.length) :
 ∃ a, A = some a ∧ w.cell? (a.add (j * 3)) = some (txt (wP (l.getD j wa0))) ∧ w.cell? ⟨(a.add (j * 3)).block, (a.add (j * 3)).off + 1, none⟩ = some (.int .i64 (wC (l.getD j wa0))) ∧ w.cell? ⟨(a.add (j * 3)).block, (a.add (j * 3)).off + 2, none⟩ = some (.bool (wK (l.getD j wa0))) := by
 obtain ⟨a, ha, hc⟩ := h.cells j hj
 exact ⟨a, ha, hc 0 (by decide), hc 1 (by decide), hc 2 (by decide)⟩
theorem eqFWa (d : Nat) (x y : Wa) (w : World) (fs : List Field) (h : fs.map (fun f => (f.name == "_", f.type, f.offset)) = [(false, 9, 0), (false, 3, 1), (false, 4, 2)]) :
 (Op.eqFields (d + 1) (wac x).toArray (wac y).toArray fs).run Tryz.prog w = .ok (decide (x = y)) w := by
 obtain ⟨f0, f1, f2, rfl⟩ : ∃ f0 f1 f2, fs = [f0, f1, f2] := by
  have hl := congrArg List.length h
  rw [List.length_map] at hl
  match fs, hl with
  | [f0, f1, f2], _ => exact ⟨f0, f1, f2, rfl⟩
 simp only [List.map_cons, List.map_nil, List.cons.injEq, Prod.mk.injEq, and_true] at h
 obtain ⟨⟨n0, q0, o0⟩, ⟨n1, q1, o1⟩, ⟨n2, q2, o2⟩⟩ := h
 have m0 : f0.name ≠ "_" := by simpa using n0
 have m1 : f1.name ≠ "_" := by simpa using n1
 have m2 : f2.name ≠ "_" := by simpa using n2
 have p0 : ∀ z : Wa, (part f0.type (wac z).toArray f0.offset).run Tryz.prog w = .ok (txt (wP z)) w := fun z => by rw [q0, o0]; exact run_part_cell _ _ _ _ Tryz.isAgg9 rfl w
 have e0' : (Op.equalIn (d + 1) f0.type (txt (wP x)) (txt (wP y))).run Tryz.prog w = .ok (wP x == wP y) w := by rw [q0, run_equalIn_string w d _ _ _ Tryz.underlying9, toList_txtE, toList_txtE]
 have p1 : ∀ z : Wa, (part f1.type (wac z).toArray f1.offset).run Tryz.prog w = .ok (.int .i64 (wC z)) w := fun z => by rw [q1, o1]; exact run_part_cell _ _ _ _ Tryz.isAgg3 rfl w
 have e1' : (Op.equalIn (d + 1) f1.type (.int .i64 (wC x)) (.int .i64 (wC y))).run Tryz.prog w = .ok (wC x == wC y) w := by rw [q1, run_equalIn_int w d _ _ _ _ _ Tryz.underlying3]
 have p2 : ∀ z : Wa, (part f2.type (wac z).toArray f2.offset).run Tryz.prog w = .ok (.bool (wK z)) w := fun z => by rw [q2, o2]; exact run_part_cell _ _ _ _ Tryz.isAgg4 rfl w
 have e2' : (Op.equalIn (d + 1) f2.type (.bool (wK x)) (.bool (wK y))).run Tryz.prog w = .ok (wK x == wK y) w := by rw [q2, run_equalIn_bool' w d _ _ _ Tryz.underlying4]
 obtain ⟨a0, a1, a2⟩ := x
 obtain ⟨b0, b1, b2⟩ := y
 simp only [Op.eqFields, if_pos m0, if_pos m1, if_pos m2, Sem.run_bind, p0, p1, p2, e0', e1', e2', Result.andThen_ok, Sem.run_ite, Sem.run_pure]
 by_cases h0 : a0 = b0 <;> by_cases h1 : a1 = b1 <;> by_cases h2 : a2 = b2 <;> simp [h0, h1, h2]
theorem kindWaR : KindOf Tryz.prog 107 WaK 32 := kind_of (z := .agg (wac wa0).toArray) (by kernel_rfl) rfl
theorem eqTWaR (d : Nat) (x y : Wa) (w : World) : (Op.equalIn (d + 2) 107 (.agg (wac x).toArray) (.agg (wac y).toArray)).run Tryz.prog w = .ok (decide (x = y)) w := by
 rw [run_equalIn_struct w (d + 1) _ _ _ (show Tryz.prog.underlying 107 = some (.struct (Tryz.prog.fieldsOf 107)) by kernel_rfl) (by kernel_rfl)]
 exact eqFWa d x y w _ (by kernel_rfl)
theorem run_eqlWaR (x y : Wa) (w : World) : (binOp .eql 107 (.agg #[txt (wP x), .int .i64 (wC x), .bool (wK x)]) (.agg #[txt (wP y), .int .i64 (wC y), .bool (wK y)])).run Tryz.prog w = .ok (.bool (decide (x = y))) w := by
 rw [run_eql_struct, show (Value.agg #[txt (wP x), .int .i64 (wC x), .bool (wK x)]) = Value.agg (wac x).toArray from rfl, show (Value.agg #[txt (wP y), .int .i64 (wC y), .bool (wK y)]) = Value.agg (wac y).toArray from rfl, show (10000 : Nat) = 9998 + 2 from rfl, eqTWaR]
 rfl
theorem rowWaP : ∃ d, Tryz.prog.underlying 94 = some d ∧ d.isRow = true := ⟨_, Tryz.underlying94, rfl⟩
theorem szWaP : (Tryz.prog.info? 94).map (·.size) = some 3 := by kernel_rfl
theorem zeroWaP : (Tryz.prog.info? 94).map (·.zero) = some (some (.agg (wac wa0).toArray)) := by kernel_rfl
theorem kindWaP : KindOf Tryz.prog 94 WaK 32 := kind_of (z := .agg (wac wa0).toArray) (by kernel_rfl) rfl
theorem eqTWaP (d : Nat) (x y : Wa) (w : World) : (Op.equalIn (d + 2) 94 (.agg (wac x).toArray) (.agg (wac y).toArray)).run Tryz.prog w = .ok (decide (x = y)) w := by
 rw [run_equalIn_struct w (d + 1) _ _ _ (show Tryz.prog.underlying 94 = some (.struct (Tryz.prog.fieldsOf 94)) by kernel_rfl) (by kernel_rfl)]
 exact eqFWa d x y w _ (by kernel_rfl)
theorem run_eqlWaP (x y : Wa) (w : World) : (binOp .eql 94 (.agg #[txt (wP x), .int .i64 (wC x), .bool (wK x)]) (.agg #[txt (wP y), .int .i64 (wC y), .bool (wK y)])).run Tryz.prog w = .ok (.bool (decide (x = y))) w := by
 rw [run_eql_struct, show (Value.agg #[txt (wP x), .int .i64 (wC x), .bool (wK x)]) = Value.agg (wac x).toArray from rfl, show (Value.agg #[txt (wP y), .int .i64 (wC y), .bool (wK y)]) = Value.agg (wac y).toArray from rfl, show (10000 : Nat) = 9998 + 2 from rfl, eqTWaP]
 rfl
theorem run_neqWaP (x y : Wa) (w : World) : (binOp .neq 94 (.agg #[txt (wP x), .int .i64 (wC x), .bool (wK x)]) (.agg #[txt (wP y), .int .i64 (wC y), .bool (wK y)])).run Tryz.prog w = .ok (.bool (!decide (x = y))) w := by
 rw [run_neq_struct, show (Value.agg #[txt (wP x), .int .i64 (wC x), .bool (wK x)]) = Value.agg (wac x).toArray from rfl, show (Value.agg #[txt (wP y), .int .i64 (wC y), .bool (wK y)]) = Value.agg (wac y).toArray from rfl, show (10000 : Nat) = 9998 + 2 from rfl, eqTWaP]
 rfl
def chc (x : Ch) : List Value := [.int .i64 (cK x), txt (cP x)]
theorem chc_one (x : Ch) : ∀ u ∈ chc x, u.oneCell' = true := by
 intro u hu
 unfold chc at hu
 simp only [List.mem_cons, List.not_mem_nil, or_false] at hu
 rcases hu with rfl | rfl <;> rfl
def ChK : RowK Ch := { enc := chc, k := 2, d := ch0, len := fun _ => rfl, one := chc_one, pos := by decide }
theorem chc_all (x : Ch) : (chc x).toArray.all (·.oneCell') = true := enc_all ChK x
theorem RdE.atCh {B : Nat} {w : World} {A : Option Addr} {n c : Nat} {l : List Ch} (h : RdE ChK B w (.slice A n c) l) (j : Nat) (hj : j < l.length) :
 ∃ a, A = some a ∧ w.cell? (a.add (j * 2)) = some (.int .i64 (cK (l.getD j ch0))) ∧ w.cell? ⟨(a.add (j * 2)).block, (a.add (j * 2)).off + 1, none⟩ = some (txt (cP (l.getD j ch0))) := by
 obtain ⟨a, ha, hc⟩ := h.cells j hj
 exact ⟨a, ha, hc 0 (by decide), hc 1 (by decide)⟩
theorem szChP : (Tryz.prog.info? 96).map (·.size) = some 2 := by kernel_rfl
theorem zeroChP : (Tryz.prog.info? 96).map (·.zero) = some (some (.agg (chc ch0).toArray)) := by kernel_rfl
theorem kindChP : KindOf Tryz.prog 96 ChK 24 := kind_of (z := .agg (chc ch0).toArray) (by kernel_rfl) rfl
def evc (x : Ev) : List Value := [txt (wP x.1), .int .i64 (wC x.1), .bool (wK x.1), .int .i64 (cK x.2), txt (cP x.2)]
theorem evc_one (x : Ev) : ∀ u ∈ evc x, u.oneCell' = true := by
 intro u hu
 unfold evc at hu
 simp only [List.mem_cons, List.not_mem_nil, or_false] at hu
 rcases hu with rfl | rfl | rfl | rfl | rfl <;> rfl
def EvK : RowK Ev := { enc := evc, k := 5, d := ev0, len := fun _ => rfl, one := evc_one, pos := by decide }
theorem kindEvP : KindOf Tryz.prog 98 EvK 56 := kind_of (z := .agg (evc ev0).toArray) (by kernel_rfl) rfl
def ndc (x : Nd) : List Value := [txt (nP x), txt (nV x), .int .i64 (nR x), .int .i64 (nO x)]
def nds (l : List Nd) : List Value := l.flatMap ndc
theorem nds_length : ∀ l : List Nd, (nds l).length = 4 * l.length
 | [] => rfl
 | x :: r => by
   have := nds_length r
   unfold nds at *
   rw [List.flatMap_cons, List.length_append, this, List.length_cons]
   show 4 + _ = _
   omega
theorem nds_append (a b : List Nd) : nds (a ++ b) = nds a ++ nds b := by simp [nds]
theorem nds_one (x : Nd) : nds [x] = ndc x := by simp [nds]
theorem nds_get : ∀ (l : List Nd) (j k : Nat), j < l.length → k < 4 → (nds l)[4 * j + k]? = (ndc (l.getD j nd0))[k]?
 | [], j, _, h, _ => by simp at h
 | x :: r, j, k, h, hk => by
   have e : nds (x :: r) = ndc x ++ nds r := by simp [nds]
   rw [e]
   cases j with
   | zero =>
     rw [List.getElem?_append_left (by show _ < 4; omega)]
     simp
   | succ j =>
     rw [List.getElem?_append_right (by show 4 ≤ _; omega)]
     have := nds_get r j k (by simpa using h) hk
     rw [show 4 * (j + 1) + k - (ndc x).length = 4 * j + k from by show _ - 4 = _; omega, this]
     simp
theorem ndc_get (x : Nd) (k : Nat) (hk : k < 4) : (ndc x)[k]? = some ((ndc x).getD k undef) := by
 match k, hk with
 | 0, _ => rfl
 | 1, _ => rfl
 | 2, _ => rfl
 | 3, _ => rfl
theorem nds_cell (l : List Nd) : ∀ u ∈ nds l, u.oneCell' = true := by
 intro u hu
 unfold nds at hu
 obtain ⟨x, _, h⟩ := List.mem_flatMap.1 hu
 unfold ndc at h
 simp only [List.mem_cons, List.not_mem_nil, or_false] at h
 rcases h with rfl | rfl | rfl | rfl <;> rfl
def RdNd (B : Nat) (w : World) (v : Value) (l : List Nd) : Prop :=
 ∃ A c, v = .slice A l.length c ∧ l.length ≤ c ∧ c ≤ maxLen ∧ (A = none → c = 0) ∧
   ∀ a, A = some a → (0 < l.length → a.block < B) ∧ ∀ j u, (nds l)[j]? = some u → w.cell? (a.add j) = some u
def OwnNd (e : TypeId) (w : World) (base : Nat) (v : Value) (l : List Nd) : Prop := w.ownsRow base e 4 v l.length (nds l)
theorem RdNd.keep {B : Nat} {w w' : World} {v : Value} {l : List Nd} (h : RdNd B w v l) (hk : ∀ p : Addr, p.block < B → w'.cell? p = w.cell? p) : RdNd B w' v l := by
 obtain ⟨A, c, hv, hc, hm, hn, hr⟩ := h
 refine ⟨A, c, hv, hc, hm, hn, fun a ha => ⟨(hr a ha).1, fun j u hu => ?_⟩⟩
 have hj : j < (nds l).length := (List.getElem?_eq_some_iff.1 hu).1
 rw [nds_length] at hj
 rw [hk _ (by rw [addr_block]; exact (hr a ha).1 (by omega))]
 exact (hr a ha).2 j u hu
theorem RdNd.below {B : Nat} {w w' : World} {v : Value} {l : List Nd} (h : RdNd B w v l) (hb : Below B w w') : RdNd B w' v l := h.keep fun _ hp => hb.cell hp
theorem RdNd.more {B B' : Nat} {w : World} {v : Value} {l : List Nd} (h : RdNd B w v l) (hB : B ≤ B') : RdNd B' w v l := by
 obtain ⟨A, c, hv, hc, hm, hn, hr⟩ := h
 exact ⟨A, c, hv, hc, hm, hn, fun a ha => ⟨fun h0 => Nat.lt_of_lt_of_le ((hr a ha).1 h0) hB, (hr a ha).2⟩⟩
theorem RdNd.nil (B : Nat) (w : World) : RdNd B w (.slice none 0 0) [] := ⟨none, 0, rfl, Nat.le_refl _, Nat.zero_le _, fun _ => rfl, fun _ h => by cases h⟩
theorem RdNd.shape {B : Nat} {w : World} {v : Value} {l : List Nd} (h : RdNd B w v l) : ∃ A c, v = .slice A l.length c ∧ l.length ≤ c ∧ c ≤ maxLen := by
 obtain ⟨A, c, hv, h1, h2, _⟩ := h
 exact ⟨A, c, hv, h1, h2⟩
theorem RdNd.at_ {B : Nat} {w : World} {A : Option Addr} {n c : Nat} {l : List Nd} (h : RdNd B w (.slice A n c) l) (j : Nat) (hj : j < l.length) :
 ∃ a, A = some a ∧ w.cell? (a.add (j * 4)) = some (txt (nP (l.getD j nd0))) ∧ w.cell? ⟨(a.add (j * 4)).block, (a.add (j * 4)).off + 1, none⟩ = some (txt (nV (l.getD j nd0))) ∧
   w.cell? ⟨(a.add (j * 4)).block, (a.add (j * 4)).off + 2, none⟩ = some (.int .i64 (nR (l.getD j nd0))) ∧ w.cell? ⟨(a.add (j * 4)).block, (a.add (j * 4)).off + 3, none⟩ = some (.int .i64 (nO (l.getD j nd0))) := by
 obtain ⟨A', c', hv, hc, hm, hn, hr⟩ := h
 injection hv with h1 h2 h3
 subst h1 h2 h3
 cases A with
 | none => have := hn rfl; omega
 | some a =>
   have hg : ∀ k, k < 4 → w.cell? ((a.add (j * 4)).add k) = some ((ndc (l.getD j nd0)).getD k undef) := by
    intro k hk
    rw [Addr.add_add, show j * 4 = 4 * j from Nat.mul_comm _ _]
    exact (hr a rfl).2 (4 * j + k) _ ((nds_get l j k hj hk).trans (ndc_get (l.getD j nd0) k hk))
   exact ⟨a, rfl, hg 0 (by decide), hg 1 (by decide), hg 2 (by decide), hg 3 (by decide)⟩
theorem OwnNd.rd {e : TypeId} {w : World} {base : Nat} {v : Value} {l : List Nd} (h : OwnNd e w base v l) : RdNd w.heap.size w v l := by
 rcases h.2 with ⟨rfl, hn⟩ | ⟨g, cap, cur, rfl, hb, hg, hnc, hm, _, _⟩
 ·have : l = [] := List.eq_nil_of_length_eq_zero hn
  subst this
  exact RdNd.nil _ _
 ·have hlt : g < w.heap.size := (Array.getElem?_eq_some_iff.1 hg).1
  refine ⟨some ⟨g, 0, none⟩, cap, rfl, hnc, hm, fun h => (by cases h), fun a ha => ?_⟩
  cases ha
  exact ⟨fun _ => hlt, fun j u hu => World.ownsRow.cells (g := g) h rfl j _ hu⟩
theorem OwnNd.below {e : TypeId} {w w' : World} {base B : Nat} {v : Value} {l : List Nd} (h : OwnNd e w base v l) (hb : Below B w w') (hB : w.heap.size ≤ B) : OwnNd e w' base v l := by
 refine ⟨h.1, ?_⟩
 rcases h.2 with hn | ⟨g, cap, cur, rfl, hg0, hg, r⟩
 ·exact .inl hn
 ·have hlt : g < w.heap.size := (Array.getElem?_eq_some_iff.1 hg).1
  exact .inr ⟨g, cap, cur, rfl, hg0, by rw [hb.block g (by omega)]; exact hg, r⟩
theorem OwnNd.base {e : TypeId} {w : World} {base base' : Nat} {v : Value} {l : List Nd} (h : OwnNd e w base v l) (hb : base' ≤ base) : OwnNd e w base' v l := by
 refine ⟨h.1, ?_⟩
 rcases h.2 with hn | ⟨g, cap, cur, rfl, hg0, r⟩
 ·exact .inl hn
 ·exact .inr ⟨g, cap, cur, rfl, by omega, r⟩
theorem OwnNd.nil (e : TypeId) (w : World) (base : Nat) : OwnNd e w base (.slice none 0 0) [] := World.ownsRow_nil w base e 4
theorem OwnNd.alloc {e : TypeId} {w : World} {base : Nat} {v : Value} {l : List Nd} (h : OwnNd e w base v l) (o : Obj) : OwnNd e (w.alloc o) base v l := World.ownsRow.alloc h o
theorem OwnNd.grown {e : TypeId} {w w' : World} {base : Nat} {v : Value} {l : List Nd} (h : OwnNd e w base v l) (hg : w.grownBy w' v.ownBlock) (hb : base ≤ w.heap.size) : Below base w w' :=
 (Below.refl base w).grown hg hb fun k hk => (World.ownsRow.lt h k hk).1
theorem OwnNd.empty (e : TypeId) (w : World) (base : Nat) (hb : base ≤ w.heap.size) : OwnNd e (w.alloc (.cells #[] e)) base (.slice (some ⟨w.heap.size, 0, none⟩) 0 0) [] :=
 World.ownsRow_made w #[] 0 hb (by decide) rfl
def ndz : Value := .agg #[.string ⟨#[]⟩, .string ⟨#[]⟩, .int .i64 0, .int .i64 0]
theorem wpList_appNd {P : Program} {w : World} {ops : Array Oper} {rest : List Oper} {o : Oper} {a : Act} {Q : Exit → Act → World → Prop}
 (hgd : o.guard = none) (s x : Operand) (t : TypeId) (ho : o.op = .call { callee := .builtin .append, args := #[s, x], argTypes := #[t, t] })
 (e : TypeId) (i : TypeInfo) (ht : P.underlying t = some (.slice e)) (hi : P.info? e = some i) (hz : i.zero = some ndz) (hsize : i.size = 4) (hby : i.bytes = 48)
 (base B : Nat) (v vx : Value) (l m : List Nd) (hs : a.eval s = v) (hown : OwnNd e w base v l) (hx : a.eval x = vx) (hr : RdNd B w vx m)
 (hlen : l.length + m.length ≤ 1000000) (hbase : base ≤ w.heap.size)
 (h : ∀ v' w', OwnNd e w' base v' (l ++ m) → Below base w w' → w.grownBy w' v.ownBlock → wpList P ops Q rest (a.put o.dst v') w') : wpList P ops Q (o :: rest) a w := by
 obtain ⟨A, c, hv, hc, hm, hn, hrr⟩ := hr
 cases A with
 | none =>
   have h0 : c = 0 := hn rfl
   have h1 : m.length = 0 := by omega
   have h2 : m = [] := List.eq_nil_of_length_eq_zero h1
   subst h0 h2
   refine wpList_append_own_none hgd s x t ho base e i 4 ht hi v l.length (nds l) hs hown (by rw [hx, hv]; rfl) ?_
   exact h v w (by rw [List.append_nil]; exact hown) (Below.refl _ _) ⟨rfl, rfl, rfl, Nat.le_refl _, fun _ _ _ => rfl⟩
 | some ad =>
   refine wpList_append_own w hgd s x t ho base e i ndz 4 48 ht hi hz hsize hby rfl (by decide) v l.length (nds l) hs hown ad m.length c (nds m) (by rw [hx, hv]) (by rw [nds_length]; omega) (hrr ad rfl).2 (nds_cell m) (by unfold maxLen; omega) (by omega) hbase ?_
   intro v' w' h1 h2 _
   refine h v' w' ?_ (OwnNd.grown hown h2 hbase) h2
   unfold OwnNd
   rw [List.length_append, nds_append]
   exact h1
theorem RdNd.node {B : Nat} {w : World} {a : Addr} {n c : Nat} {l : List Nd} (h : RdNd B w (.slice (some a) n c) l) (j : Nat) (hj : j < l.length) : ∀ k v, (ndc (l.getD j nd0))[k]? = some v → w.cell? ((a.add (j * 4)).add k) = some v := by
 intro k v hv
 have hk : k < 4 := (List.getElem?_eq_some_iff.1 hv).1
 obtain ⟨A', c', e, hc, hm, hn, hr⟩ := h
 injection e with h1 h2 h3
 subst h1 h2 h3
 rw [Addr.add_add, show j * 4 = 4 * j from Nat.mul_comm _ _]
 exact (hr a rfl).2 (4 * j + k) v ((nds_get l j k hj hk).trans hv)
theorem writtenE_take (C z : List Value) (k : Nat) (hk : k ≤ C.length) : (C.take k ++ (z ++ C.drop (k + z.length))).take k = C.take k := by
 rw [List.take_left']
 rw [List.length_take]
 omega
theorem writtenE_len (C z : List Value) (k : Nat) (hk : k + z.length ≤ C.length) : (C.take k ++ (z ++ C.drop (k + z.length))).length = C.length := by
 simp only [List.length_append, List.length_take, List.length_drop]
 omega
theorem writtenE_more (C z : List Value) (k : Nat) (hk : k + z.length ≤ C.length) : (C.take k ++ (z ++ C.drop (k + z.length))).take (k + z.length) = C.take k ++ z := by
 rw [← List.append_assoc, List.take_left']
 rw [List.length_append, List.length_take]
 omega
theorem takeE3 (A B D : List Value) (k : Nat) : (A ++ (B ++ D)).take (A.length + B.length + k) = A ++ (B ++ D.take k) := by
 rw [← List.append_assoc, show A.length + B.length = (A ++ B).length by simp, List.take_length_add_append, List.append_assoc]
theorem shapeE_blk {w : World} {g : Nat} {cs : List Value} {t : TypeId} (h : Blk w g cs t) : w.shape? g = some (t, cs.length) := by
 unfold Blk at h
 unfold World.shape?
 rw [h]
 simp
theorem drewE_cells (b : Nat) : ∀ (vs : List Value) (o : Nat) (w : World), (w.setCells b o vs).drew = w.drew.setCells b o vs
 | [], _, _ => rfl
 | v :: r, o, w => by
   rw [World.setCells, World.setCells, drewE_cells b r]
   rfl
section
variable {α : Type} {E : RowK α}
theorem OwnE.of {e : TypeId} {w : World} {base g cap : Nat} {l : List α} (cur : List Value) (hb : Blk w g cur e) (h2 : base ≤ g) (h4 : l.length ≤ cap) (h5 : cap ≤ maxLen) (h6 : cur.length = cap * E.k) (h7 : cur.take (l.length * E.k) = rowsE E l) :
 OwnE E e w base (.slice (some ⟨g, 0, none⟩) l.length cap) l := by
 refine ⟨?_, .inr ⟨g, cap, cur.toArray, rfl, h2, hb, h4, h5, ?_, ?_⟩⟩
 ·rw [rowsE_length]
 ·simpa using h6
 ·simpa using h7
def EditsE (E : RowK α) (e : TypeId) (v : Value) (base : Nat) (l' : List α) (W : World) (r : Ending) (w' : World) : Prop := ∃ u, r = .returned u ∧ OwnE E e w' base u l' ∧ Below base W w' ∧ ∀ k, k < W.heap.size → v.ownBlock ≠ some k → w'.heap[k]? = W.heap[k]?
def OwnsE (E : RowK α) (e : TypeId) (l : List α) (w : World) (r : Ending) (w' : World) : Prop := ∃ u, r = .returned u ∧ OwnE E e w' w.heap.size u l ∧ Below w.heap.size w w'
theorem eraseE_rows (l : List α) (i : Nat) : rowsE E (l.eraseIdx i) = rowsE E (l.take i) ++ rowsE E (l.drop (i + 1)) := by
 rw [List.eraseIdx_eq_take_drop_succ, rowsE_append]
def insE (l : List α) (x : α) (m : Nat) : List α := l.take m ++ x :: l.drop m
theorem insE_rows (l : List α) (x : α) (m : Nat) : rowsE E (insE l x m) = rowsE E (l.take m) ++ (E.enc x ++ rowsE E (l.drop m)) := by
 unfold insE
 rw [rowsE_append, show x :: l.drop m = [x] ++ l.drop m from rfl, rowsE_append, rowsE_one]
theorem insE_len (l : List α) (x : α) (m : Nat) (hm : m ≤ l.length) : (insE l x m).length = l.length + 1 := by
 unfold insE
 simp only [List.length_append, List.length_take, List.length_cons, List.length_drop]
 omega
theorem OwnE.not_blk {e : TypeId} {w : World} {base : Nat} {v : Value} {l : List α} (h : OwnE E e w base v l) {g : Nat} {cs : List Value} {t : TypeId} (hb : Blk w g cs t) (ht : t ≠ e) : v.ownBlock ≠ some g := by
 rintro he
 rcases h.2 with ⟨rfl, _⟩ | ⟨g', cap, cur, rfl, h2, h3, _⟩
 ·cases he
 ·injection he with he
  subst he
  unfold Blk at hb
  rw [hb] at h3
  injection h3 with h3
  injection h3 with h4 h5
  exact ht h5
theorem wpList_appF {P : Program} {w : World} {ops : Array Oper} {rest : List Oper} {o : Oper} {a : Act} {Q : Exit → Act → World → Prop}
 (hgd : o.guard = none) (s x : Operand) (t : TypeId) (ho : o.op = .call { callee := .builtin .append, args := #[s, x], argTypes := #[t, t] })
 (e : TypeId) (bytes : Nat) (ht : P.underlying t = some (.slice e)) (hk : KindOf P e E bytes)
 (base B : Nat) (v vx : Value) (l m : List α) (hs : a.eval s = v) (hown : OwnE E e w base v l) (hx : a.eval x = vx) (hr : RdE E B w vx m)
 (hlen : (l.length + m.length) * bytes ≤ 140737488355328) (h63 : l.length + m.length ≤ 9223372036854775807) (hbase : base ≤ w.heap.size)
 (h : ∀ v' w', OwnE E e w' base v' (l ++ m) → Below base w w' → w.grownBy w' v.ownBlock → wpList P ops Q rest (a.put o.dst v') w') : wpList P ops Q (o :: rest) a w := by
 obtain ⟨i, z, hi, hz, hsize, hby, hzs⟩ := hk
 obtain ⟨A, c, hv, hc, hm, hn, hrr⟩ := hr
 cases A with
 | none =>
   have h0 : c = 0 := hn rfl
   have h1 : m.length = 0 := by omega
   have h2 : m = [] := List.eq_nil_of_length_eq_zero h1
   subst h0 h2
   refine wpList_append_own_none hgd s x t ho base e i E.k ht hi v l.length (rowsE E l) hs hown (by rw [hx, hv]; rfl) ?_
   exact h v w (by rw [List.append_nil]; exact hown) (Below.refl _ _) ⟨rfl, rfl, rfl, Nat.le_refl _, fun _ _ _ => rfl⟩
 | some ad =>
   refine wpList_append_own w hgd s x t ho base e i z E.k bytes ht hi hz hsize hby hzs E.pos v l.length (rowsE E l) hs hown ad m.length c (rowsE E m) (by rw [hx, hv]) (rowsE_length E m) (hrr ad rfl).2 (rowsE_cell E m) (by unfold maxLen; omega) hlen hbase ?_
   intro v' w' h1 h2 _
   refine h v' w' ?_ (OwnE.grown hown h2 hbase) h2
   unfold OwnE
   rw [List.length_append, rowsE_append]
   exact h1
end
section
variable {α : Type} {E : RowK α}
theorem rowsE_setk (l : List α) (i k : Nat) (v : Value) (y : α) (hi : i < l.length) (hk : k < E.k) (hy : E.enc y = (E.enc (l.getD i E.d)).set k v) : (rowsE E l).set (i * E.k + k) v = rowsE E (l.set i y) := by
 rw [rowsE_set l i y hi, hy]
 have e1 : rowsE E l = (rowsE E l).take (i * E.k) ++ (E.enc (l.getD i E.d) ++ (rowsE E l).drop (i * E.k + E.k)) := by
  have h := rowsE_set (E := E) l i (l.getD i E.d) hi
  rw [← h]
  congr 1
  refine List.ext_getElem (by simp) fun j h1 h2 => ?_
  rw [List.getElem_set]
  split
  ·rename_i hij
   subst hij
   rw [List.getD_eq_getElem?_getD, List.getElem?_eq_getElem hi]
   rfl
  ·rfl
 have hmul : i * E.k ≤ l.length * E.k := Nat.mul_le_mul_right _ (by omega)
 have hl : ((rowsE E l).take (i * E.k)).length = i * E.k := by
  rw [List.length_take, rowsE_length]
  omega
 have hx : (E.enc (l.getD i E.d)).length = E.k := E.len _
 conv => lhs; rw [e1]
 rw [List.set_append, if_neg (by omega), List.set_append, if_pos (by rw [hl, hx]; omega), hl, Nat.add_sub_cancel_left]
theorem takeE_set (A : List Value) (j n : Nat) (v : Value) : (A.set j v).take n = (A.take n).set j v := by
 refine List.ext_getElem (by simp) fun i h1 h2 => ?_
 simp [List.getElem_set]
theorem getD_setE (l : List α) (i : Nat) (y d : α) (hi : i < l.length) : (l.set i y).getD i d = y := by
 rw [List.getD_eq_getElem?_getD, List.getElem?_set_self hi]
 rfl
theorem OwnE.cellK {e : TypeId} {w : World} {base n cap g : Nat} {l : List α} (h : OwnE E e w base (.slice (some ⟨g, 0, none⟩) n cap) l) (i k : Nat) (hi : i < l.length) (hk : k < E.k) :
 w.cell? ⟨g, i * E.k + k, none⟩ = some ((E.enc (l.getD i E.d)).getD k undef) ∧ w.frozen? ⟨g, i * E.k + k, none⟩ = false := by
 obtain ⟨cur, hb, h2, h4, h5, h6, h7, hn⟩ := h.block
 refine ⟨?_, hb.frozen _⟩
 have hr := h.rd
 subst hn
 have := hr.node i hi k _ (enc_get E _ k hk)
 rw [Addr.add_add] at this
 have hadd : (⟨g, 0, none⟩ : Addr).add (i * E.k + k) = ⟨g, i * E.k + k, none⟩ := by unfold Addr.add; split <;> simp_all
 rw [hadd] at this
 exact this
theorem OwnE.storedK {e : TypeId} {w : World} {base n cap g : Nat} {l : List α} (h : OwnE E e w base (.slice (some ⟨g, 0, none⟩) n cap) l) (i k : Nat) (hi : i < l.length) (hk : k < E.k) (v : Value) (y : α) (hy : E.enc y = (E.enc (l.getD i E.d)).set k v) :
 OwnE E e (w.setCell ⟨g, i * E.k + k, none⟩ v) base (.slice (some ⟨g, 0, none⟩) n cap) (l.set i y) ∧ Below base w (w.setCell ⟨g, i * E.k + k, none⟩ v) := by
 obtain ⟨cur, hb, h2, h4, h5, h6, h7, hn⟩ := h.block
 have hcl : cur.toList.length = cap * E.k := by rw [Array.length_toList, h6]
 refine ⟨?_, (Below.refl _ _).setCell h2 _⟩
 ·have := OwnE.of (E := E) (e := e) (base := base) (cap := cap) (l := l.set i y) (cur.toList.set (i * E.k + k) v) (hb.set (i * E.k + k) v) h2 (by rw [List.length_set]; exact h4) h5 (by rw [List.length_set]; exact hcl)
   (by rw [List.length_set, takeE_set _ _ _ _, h7]; exact rowsE_setk l i k v y hi hk hy)
  rw [List.length_set, ← hn] at this
  exact this
end
theorem run_copy_rowE {P : Program} (w : World) (dT sT ty elem : TypeId) (k : Nat) (b o dLen dCap : Nat) (a : Addr) (sLen sCap : Nat) (cs : List Value)
 (hu : P.underlying dT = some (.slice elem)) (hs : (P.info? elem).map (·.size) = some k) (hn : cs.length = Nat.min sLen dLen * k)
 (hsrc : ∀ j v, cs[j]? = some v → w.cell? (a.add j) = some v) (hc : ∀ j, j < cs.length → (w.cell? ⟨b, o + j, none⟩).isSome = true ∧ w.frozen? ⟨b, o + j, none⟩ = false) (h1 : ∀ v ∈ cs, v.oneCell' = true) :
 (Builtin.copy_ #[dT, sT] ty #[.slice (some ⟨b, o, none⟩) dLen dCap, .slice (some a) sLen sCap]).run P w = .ok (goInt (Nat.min sLen dLen)) (w.setCells b o cs) := by
 have hl := run_loadCells_list (P := P) w a cs hsrc
 have hst := run_storeCells_cells (P := P) b o cs 0 w (fun j hj => (hc j hj).1) (fun j hj => (hc j hj).2) h1
 rw [Nat.add_zero] at hst
 cases hq : P.info? elem with
 | none => simp [hq] at hs
 | some i =>
   have hi : i.size = k := by simpa [hq] using hs
   rw [hn] at hl
   simp [Builtin.copy_, run_underlying hu, Builtin.lenOf, Builtin.firstCells, sizeOf, typeInfo, hq, hi, hl, hst]
theorem wpList_copyE_run {P : Program} {w : World} {ops : Array Oper} {rest : List Oper} {o : Oper} {a : Act} {Q : Exit → Act → World → Prop} (hgd : o.guard = none) (d s : Operand) (t t' : TypeId)
 (ho : o.op = .call { callee := .builtin .copy, args := #[d, s], argTypes := #[t, t'] }) (v u : Value) (hd : a.eval d = v) (hs : a.eval s = u) {v' : Value} {w' : World} (hr : (Builtin.copy_ #[t, t'] o.type #[v, u]).run P w = .ok v' w')
 (h : wpList P ops Q rest (a.put o.dst v') w') : wpList P ops Q (o :: rest) a w := by
 refine wpList_plain hgd fun K hK => ?_
 unfold Oper.wp execOp
 simp only [ho, resolve, invoke, builtin, Sem.run_bind, Sem.run_pure, Result.andThen_ok, List.map_toArray, List.map_cons, List.map_nil, hd, hs, hr]
 exact hK _ _ h
theorem step_copyE_run {P : Program} {ops : Array Oper} {o : Oper} {a : Act} {w : World} {K : Act → World → Prop} {Q : Exit → Act → World → Prop} {E : Prop}
 (hg : o.guard = none) (d x : Operand) (dT sT : TypeId) (hop : o.op = Op.call { callee := Callee.builtin Builtin.copy, args := #[d, x], argTypes := #[dT, sT] })
 (v u : Value) (hd : a.eval d = v) (hx : a.eval x = u) {v' : Value} {w' : World} (hr : (Builtin.copy_ #[dT, sT] o.type #[v, u]).run P w = .ok v' w') (hK : K (a.put o.dst v') w') :
 if Region.wanted o (yielded ops a.tmps) = true then Oper.wp P o a w K Q else E := by
 have hw : Region.wanted o (yielded ops a.tmps) = true := by simp [Region.wanted, hg]
 rw [if_pos hw]
 unfold Oper.wp
 simp [execOp, hop, resolve, invoke, builtin, hd, hx, hr, Result.andThen]
 exact hK
theorem run_clear_rowE {P : Program} (w : World) (t e ty : TypeId) (i : TypeInfo) (z : Value) (cs : List Value) (k : Nat) (ht : P.underlying t = some (.slice e)) (hi : P.info? e = some i) (hz : i.zero = some z) (g o c : Nat)
 (hzc : (Builtin.zeroCells z.cells 1).toList = cs) (hk : cs.length = k) (h1 : ∀ v ∈ cs, v.oneCell' = true)
 (hc : ∀ j, j < k → (w.cell? ⟨g, o + j, none⟩).isSome = true ∧ w.frozen? ⟨g, o + j, none⟩ = false) :
 (Builtin.clear_ #[t] ty #[.slice (some ⟨g, o, none⟩) 1 c]).run P w = .ok (.tuple #[]) (w.setCells g o cs) := by
 have hzv : (zeroValue e).run P w = .ok z w := by simp [zeroValue, typeInfo, hi, hz]
 have hst := run_storeCells_cells (P := P) g o cs 0 w (fun j hj => (hc j (by omega)).1) (fun j hj => (hc j (by omega)).2) h1
 simp only [Nat.add_zero] at hst
 simp [Builtin.clear_, run_underlying ht, hzv, hzc, hst]
theorem wpList_clearE_run {P : Program} {w : World} {ops : Array Oper} {rest : List Oper} {o : Oper} {a : Act} {Q : Exit → Act → World → Prop} (hgd : o.guard = none) (s : Operand) (t : TypeId)
 (ho : o.op = .call { callee := .builtin .clear, args := #[s], argTypes := #[t] }) (v : Value) (hs : a.eval s = v) {v' : Value} {w' : World} (hr : (Builtin.clear_ #[t] o.type #[v]).run P w = .ok v' w')
 (h : wpList P ops Q rest (a.put o.dst v') w') : wpList P ops Q (o :: rest) a w := by
 refine wpList_plain hgd fun K hK => ?_
 unfold Oper.wp execOp
 simp only [ho, resolve, invoke, builtin, Sem.run_bind, Sem.run_pure, Result.andThen_ok, List.map_toArray, List.map_cons, List.map_nil, hs, hr]
 exact hK _ _ h
end Go.Proofs.YtdihngkdhanhkaaGreatDoor
