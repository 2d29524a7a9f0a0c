/-
  Texts NA R4 BH BA.
-/
import Derived.Test.YtgfobinklijkpaaGreatDoorX01
import Derived.Lib.Overlaps
import Derived.Lib.AppendZerosOnto
import Derived.Deep.RegionLaw
import Derived.Test.YtgfobinklijkpaaGreatDoorX07
import Derived.Test.YtgfobinklijkpaaGreatDoorX08
namespace Go.Proofs.YtgfobinklijkpaaGreatDoor
set_option maxRecDepth 100000
set_option maxHeartbeats 16000000
open Go.RowKit
def orc (x : Or) : List Value := [.int .i64 (oC x), .int .i64 (oQ x), .int .i64 (oK x), txt (oP x), txt (oV x), .int .i64 (oR x), .int .i64 (oS x), .int .i64 (oT x)]
theorem orc_one (x : Or) : ∀ u ∈ orc x, u.oneCell' = true := by
 intro u hu
 unfold orc at hu
 simp only [List.mem_cons, List.not_mem_nil, or_false] at hu
 rcases hu with rfl | rfl | rfl | rfl | rfl | rfl | rfl | rfl <;> rfl
def OrK : RowK Or := { enc := orc, k := 8, d := or0, len := fun _ => rfl, one := orc_one, pos := by decide }
theorem orc_all (x : Or) : (orc x).toArray.all (·.oneCell') = true := enc_all OrK x
theorem RdE.atOr {B : Nat} {w : World} {A : Option Addr} {n c : Nat} {l : List Or} (h : RdE OrK B w (.slice A n c) l) (j : Nat) (hj : j < l.length) :
 ∃ a, A = some a ∧ w.cell? (a.add (j * 8)) = some (.int .i64 (oC (l.getD j or0))) ∧ w.cell? ⟨(a.add (j * 8)).block, (a.add (j * 8)).off + 1, none⟩ = some (.int .i64 (oQ (l.getD j or0))) ∧ w.cell? ⟨(a.add (j * 8)).block, (a.add (j * 8)).off + 2, none⟩ = some (.int .i64 (oK (l.getD j or0))) ∧ w.cell? ⟨(a.add (j * 8)).block, (a.add (j * 8)).off + 3, none⟩ = some (txt (oP (l.getD j or0))) ∧ w.cell? ⟨(a.add (j * 8)).block, (a.add (j * 8)).off + 4, none⟩ = some (txt (oV (l.getD j or0))) ∧ w.cell? ⟨(a.add (j * 8)).block, (a.add (j * 8)).off + 5, none⟩ = some (.int .i64 (oR (l.getD j or0))) ∧ w.cell? ⟨(a.add (j * 8)).block, (a.add (j * 8)).off + 6, none⟩ = some (.int .i64 (oS (l.getD j or0))) ∧ w.cell? ⟨(a.add (j * 8)).block, (a.add (j * 8)).off + 7, none⟩ = some (.int .i64 (oT (l.getD j or0))) := by
 obtain ⟨a, ha, hc⟩ := h.cells j hj
 exact ⟨a, ha, hc 0 (by decide), hc 1 (by decide), hc 2 (by decide), hc 3 (by decide), hc 4 (by decide), hc 5 (by decide), hc 6 (by decide), hc 7 (by decide)⟩
theorem eqFOr (d : Nat) (x y : Or) (w : World) (fs : List Field) (h : fs.map (fun f => (f.name == "_", f.type, f.offset)) = [(false, 3, 0), (false, 3, 1), (false, 3, 2), (false, 9, 3), (false, 9, 4), (false, 3, 5), (false, 3, 6), (false, 3, 7)]) :
 (Op.eqFields (d + 1) (orc x).toArray (orc y).toArray fs).run Tryz.prog w = .ok (decide (x = y)) w := by
 obtain ⟨f0, f1, f2, f3, f4, f5, f6, f7, rfl⟩ : ∃ f0 f1 f2 f3 f4 f5 f6 f7, fs = [f0, f1, f2, f3, f4, f5, f6, f7] := by
  have hl := congrArg List.length h
  rw [List.length_map] at hl
  match fs, hl with
  | [f0, f1, f2, f3, f4, f5, f6, f7], _ => exact ⟨f0, f1, f2, f3, f4, f5, f6, f7, rfl⟩
 simp only [List.map_cons, List.map_nil, List.cons.injEq, Prod.mk.injEq, and_true] at h
 obtain ⟨⟨n0, q0, o0⟩, ⟨n1, q1, o1⟩, ⟨n2, q2, o2⟩, ⟨n3, q3, o3⟩, ⟨n4, q4, o4⟩, ⟨n5, q5, o5⟩, ⟨n6, q6, o6⟩, ⟨n7, q7, o7⟩⟩ := h
 have m0 : f0.name ≠ "_" := by simpa using n0
 have m1 : f1.name ≠ "_" := by simpa using n1
 have m2 : f2.name ≠ "_" := by simpa using n2
 have m3 : f3.name ≠ "_" := by simpa using n3
 have m4 : f4.name ≠ "_" := by simpa using n4
 have m5 : f5.name ≠ "_" := by simpa using n5
 have m6 : f6.name ≠ "_" := by simpa using n6
 have m7 : f7.name ≠ "_" := by simpa using n7
 have p0 : ∀ z : Or, (part f0.type (orc z).toArray f0.offset).run Tryz.prog w = .ok (.int .i64 (oC z)) w := fun z => by rw [q0, o0]; exact run_part_cell _ _ _ _ Tryz.isAgg3 rfl w
 have e0' : (Op.equalIn (d + 1) f0.type (.int .i64 (oC x)) (.int .i64 (oC y))).run Tryz.prog w = .ok (oC x == oC y) w := by rw [q0, run_equalIn_int w d _ _ _ _ _ Tryz.underlying3]
 have p1 : ∀ z : Or, (part f1.type (orc z).toArray f1.offset).run Tryz.prog w = .ok (.int .i64 (oQ z)) w := fun z => by rw [q1, o1]; exact run_part_cell _ _ _ _ Tryz.isAgg3 rfl w
 have e1' : (Op.equalIn (d + 1) f1.type (.int .i64 (oQ x)) (.int .i64 (oQ y))).run Tryz.prog w = .ok (oQ x == oQ y) w := by rw [q1, run_equalIn_int w d _ _ _ _ _ Tryz.underlying3]
 have p2 : ∀ z : Or, (part f2.type (orc z).toArray f2.offset).run Tryz.prog w = .ok (.int .i64 (oK z)) w := fun z => by rw [q2, o2]; exact run_part_cell _ _ _ _ Tryz.isAgg3 rfl w
 have e2' : (Op.equalIn (d + 1) f2.type (.int .i64 (oK x)) (.int .i64 (oK y))).run Tryz.prog w = .ok (oK x == oK y) w := by rw [q2, run_equalIn_int w d _ _ _ _ _ Tryz.underlying3]
 have p3 : ∀ z : Or, (part f3.type (orc z).toArray f3.offset).run Tryz.prog w = .ok (txt (oP z)) w := fun z => by rw [q3, o3]; exact run_part_cell _ _ _ _ Tryz.isAgg9 rfl w
 have e3' : (Op.equalIn (d + 1) f3.type (txt (oP x)) (txt (oP y))).run Tryz.prog w = .ok (oP x == oP y) w := by rw [q3, run_equalIn_string w d _ _ _ Tryz.underlying9, toList_txtE, toList_txtE]
 have p4 : ∀ z : Or, (part f4.type (orc z).toArray f4.offset).run Tryz.prog w = .ok (txt (oV z)) w := fun z => by rw [q4, o4]; exact run_part_cell _ _ _ _ Tryz.isAgg9 rfl w
 have e4' : (Op.equalIn (d + 1) f4.type (txt (oV x)) (txt (oV y))).run Tryz.prog w = .ok (oV x == oV y) w := by rw [q4, run_equalIn_string w d _ _ _ Tryz.underlying9, toList_txtE, toList_txtE]
 have p5 : ∀ z : Or, (part f5.type (orc z).toArray f5.offset).run Tryz.prog w = .ok (.int .i64 (oR z)) w := fun z => by rw [q5, o5]; exact run_part_cell _ _ _ _ Tryz.isAgg3 rfl w
 have e5' : (Op.equalIn (d + 1) f5.type (.int .i64 (oR x)) (.int .i64 (oR y))).run Tryz.prog w = .ok (oR x == oR y) w := by rw [q5, run_equalIn_int w d _ _ _ _ _ Tryz.underlying3]
 have p6 : ∀ z : Or, (part f6.type (orc z).toArray f6.offset).run Tryz.prog w = .ok (.int .i64 (oS z)) w := fun z => by rw [q6, o6]; exact run_part_cell _ _ _ _ Tryz.isAgg3 rfl w
 have e6' : (Op.equalIn (d + 1) f6.type (.int .i64 (oS x)) (.int .i64 (oS y))).run Tryz.prog w = .ok (oS x == oS y) w := by rw [q6, run_equalIn_int w d _ _ _ _ _ Tryz.underlying3]
 have p7 : ∀ z : Or, (part f7.type (orc z).toArray f7.offset).run Tryz.prog w = .ok (.int .i64 (oT z)) w := fun z => by rw [q7, o7]; exact run_part_cell _ _ _ _ Tryz.isAgg3 rfl w
 have e7' : (Op.equalIn (d + 1) f7.type (.int .i64 (oT x)) (.int .i64 (oT y))).run Tryz.prog w = .ok (oT x == oT y) w := by rw [q7, run_equalIn_int w d _ _ _ _ _ Tryz.underlying3]
 obtain ⟨a0, a1, a2, a3, a4, a5, a6, a7⟩ := x
 obtain ⟨b0, b1, b2, b3, b4, b5, b6, b7⟩ := y
 simp only [Op.eqFields, if_pos m0, if_pos m1, if_pos m2, if_pos m3, if_pos m4, if_pos m5, if_pos m6, if_pos m7, Sem.run_bind, p0, p1, p2, p3, p4, p5, p6, p7, e0', e1', e2', e3', e4', e5', e6', e7', Result.andThen_ok, Sem.run_ite, Sem.run_pure]
 clear p0 e0' p1 e1' p2 e2' p3 e3' p4 e4' p5 e5' p6 e6' p7 e7'
 by_cases h0 : a0 = b0
 case neg => simp [h0]
 subst h0
 by_cases h1 : a1 = b1
 case neg => simp [h1]
 subst h1
 by_cases h2 : a2 = b2
 case neg => simp [h2]
 subst h2
 by_cases h3 : a3 = b3
 case neg => simp [h3]
 subst h3
 by_cases h4 : a4 = b4
 case neg => simp [h4]
 subst h4
 by_cases h5 : a5 = b5
 case neg => simp [h5]
 subst h5
 by_cases h6 : a6 = b6
 case neg => simp [h6]
 subst h6
 by_cases h7 : a7 = b7
 case neg => simp [h7]
 subst h7
 simp
theorem rowOrR : ∃ d, Tryz.prog.underlying 97 = some d ∧ d.isRow = true := ⟨_, Tryz.underlying97, rfl⟩
theorem szOrR : (Tryz.prog.info? 97).map (·.size) = some 8 := by kernel_rfl
theorem zeroOrR : (Tryz.prog.info? 97).map (·.zero) = some (some (.agg (orc or0).toArray)) := by kernel_rfl
theorem kindOrR : KindOf Tryz.prog 97 OrK 80 := kind_of (z := .agg (orc or0).toArray) (by kernel_rfl) rfl
theorem eqTOrR (d : Nat) (x y : Or) (w : World) : (Op.equalIn (d + 2) 97 (.agg (orc x).toArray) (.agg (orc y).toArray)).run Tryz.prog w = .ok (decide (x = y)) w := by
 rw [run_equalIn_struct w (d + 1) _ _ _ (show Tryz.prog.underlying 97 = some (.struct (Tryz.prog.fieldsOf 97)) by kernel_rfl) (by kernel_rfl)]
 exact eqFOr d x y w _ (by kernel_rfl)
theorem run_neqOrR (x y : Or) (w : World) : (binOp .neq 97 (.agg #[.int .i64 (oC x), .int .i64 (oQ x), .int .i64 (oK x), txt (oP x), txt (oV x), .int .i64 (oR x), .int .i64 (oS x), .int .i64 (oT x)]) (.agg #[.int .i64 (oC y), .int .i64 (oQ y), .int .i64 (oK y), txt (oP y), txt (oV y), .int .i64 (oR y), .int .i64 (oS y), .int .i64 (oT y)])).run Tryz.prog w = .ok (.bool (!decide (x = y))) w := by
 rw [run_neq_struct, show (Value.agg #[.int .i64 (oC x), .int .i64 (oQ x), .int .i64 (oK x), txt (oP x), txt (oV x), .int .i64 (oR x), .int .i64 (oS x), .int .i64 (oT x)]) = Value.agg (orc x).toArray from rfl, show (Value.agg #[.int .i64 (oC y), .int .i64 (oQ y), .int .i64 (oK y), txt (oP y), txt (oV y), .int .i64 (oR y), .int .i64 (oS y), .int .i64 (oT y)]) = Value.agg (orc y).toArray from rfl, show (10000 : Nat) = 9998 + 2 from rfl, eqTOrR]
 rfl
theorem rowOrP : ∃ d, Tryz.prog.underlying 86 = some d ∧ d.isRow = true := ⟨_, Tryz.underlying86, rfl⟩
theorem szOrP : (Tryz.prog.info? 86).map (·.size) = some 8 := by kernel_rfl
theorem zeroOrP : (Tryz.prog.info? 86).map (·.zero) = some (some (.agg (orc or0).toArray)) := by kernel_rfl
theorem kindOrP : KindOf Tryz.prog 86 OrK 80 := kind_of (z := .agg (orc or0).toArray) (by kernel_rfl) rfl
theorem eqTOrP (d : Nat) (x y : Or) (w : World) : (Op.equalIn (d + 2) 86 (.agg (orc x).toArray) (.agg (orc y).toArray)).run Tryz.prog w = .ok (decide (x = y)) w := by
 rw [run_equalIn_struct w (d + 1) _ _ _ (show Tryz.prog.underlying 86 = some (.struct (Tryz.prog.fieldsOf 86)) by kernel_rfl) (by kernel_rfl)]
 exact eqFOr d x y w _ (by kernel_rfl)
theorem run_eqlOrP (x y : Or) (w : World) : (binOp .eql 86 (.agg #[.int .i64 (oC x), .int .i64 (oQ x), .int .i64 (oK x), txt (oP x), txt (oV x), .int .i64 (oR x), .int .i64 (oS x), .int .i64 (oT x)]) (.agg #[.int .i64 (oC y), .int .i64 (oQ y), .int .i64 (oK y), txt (oP y), txt (oV y), .int .i64 (oR y), .int .i64 (oS y), .int .i64 (oT y)])).run Tryz.prog w = .ok (.bool (decide (x = y))) w := by
 rw [run_eql_struct, show (Value.agg #[.int .i64 (oC x), .int .i64 (oQ x), .int .i64 (oK x), txt (oP x), txt (oV x), .int .i64 (oR x), .int .i64 (oS x), .int .i64 (oT x)]) = Value.agg (orc x).toArray from rfl, show (Value.agg #[.int .i64 (oC y), .int .i64 (oQ y), .int .i64 (oK y), txt (oP y), txt (oV y), .int .i64 (oR y), .int .i64 (oS y), .int .i64 (oT y)]) = Value.agg (orc y).toArray from rfl, show (10000 : Nat) = 9998 + 2 from rfl, eqTOrP]
 rfl
theorem writtenE_take (C z : List Value) (k : Nat) (hk : k ≤ C.length) : (C.take k ++ (z ++ C.drop (k + z.length))).take k = C.take k := by
 rw [List.take_left']
 rw [List.length_take]
 omega
theorem writtenE_len (C z : List Value) (k : Nat) (hk : k + z.length ≤ C.length) : (C.take k ++ (z ++ C.drop (k + z.length))).length = C.length := by
 simp only [List.length_append, List.length_take, List.length_drop]
 omega
theorem writtenE_more (C z : List Value) (k : Nat) (hk : k + z.length ≤ C.length) : (C.take k ++ (z ++ C.drop (k + z.length))).take (k + z.length) = C.take k ++ z := by
 rw [← List.append_assoc, List.take_left']
 rw [List.length_append, List.length_take]
 omega
theorem takeE3 (A B D : List Value) (k : Nat) : (A ++ (B ++ D)).take (A.length + B.length + k) = A ++ (B ++ D.take k) := by
 rw [← List.append_assoc, show A.length + B.length = (A ++ B).length by simp, List.take_length_add_append, List.append_assoc]
theorem shapeE_blk {w : World} {g : Nat} {cs : List Value} {t : TypeId} (h : Blk w g cs t) : w.shape? g = some (t, cs.length) := by
 unfold Blk at h
 unfold World.shape?
 rw [h]
 simp
theorem drewE_cells (b : Nat) : ∀ (vs : List Value) (o : Nat) (w : World), (w.setCells b o vs).drew = w.drew.setCells b o vs
 | [], _, _ => rfl
 | v :: r, o, w => by
   rw [World.setCells, World.setCells, drewE_cells b r]
   rfl
section
variable {α : Type} {E : RowK α}
theorem OwnE.of {e : TypeId} {w : World} {base g cap : Nat} {l : List α} (cur : List Value) (hb : Blk w g cur e) (h2 : base ≤ g) (h4 : l.length ≤ cap) (h5 : cap ≤ maxLen) (h6 : cur.length = cap * E.k) (h7 : cur.take (l.length * E.k) = rowsE E l) :
 OwnE E e w base (.slice (some ⟨g, 0, none⟩) l.length cap) l := by
 refine ⟨?_, .inr ⟨g, cap, cur.toArray, rfl, h2, hb, h4, h5, ?_, ?_⟩⟩
 ·rw [rowsE_length]
 ·simpa using h6
 ·simpa using h7
def EditsE (E : RowK α) (e : TypeId) (v : Value) (base : Nat) (l' : List α) (W : World) (r : Ending) (w' : World) : Prop := ∃ u, r = .returned u ∧ OwnE E e w' base u l' ∧ Below base W w' ∧ ∀ k, k < W.heap.size → v.ownBlock ≠ some k → w'.heap[k]? = W.heap[k]?
def OwnsE (E : RowK α) (e : TypeId) (l : List α) (w : World) (r : Ending) (w' : World) : Prop := ∃ u, r = .returned u ∧ OwnE E e w' w.heap.size u l ∧ Below w.heap.size w w'
def insE (l : List α) (x : α) (m : Nat) : List α := l.take m ++ x :: l.drop m
theorem insE_rows (l : List α) (x : α) (m : Nat) : rowsE E (insE l x m) = rowsE E (l.take m) ++ (E.enc x ++ rowsE E (l.drop m)) := by
 unfold insE
 rw [rowsE_append, show x :: l.drop m = [x] ++ l.drop m from rfl, rowsE_append, rowsE_one]
theorem insE_len (l : List α) (x : α) (m : Nat) (hm : m ≤ l.length) : (insE l x m).length = l.length + 1 := by
 unfold insE
 simp only [List.length_append, List.length_take, List.length_cons, List.length_drop]
 omega
theorem OwnE.not_blk {e : TypeId} {w : World} {base : Nat} {v : Value} {l : List α} (h : OwnE E e w base v l) {g : Nat} {cs : List Value} {t : TypeId} (hb : Blk w g cs t) (ht : t ≠ e) : v.ownBlock ≠ some g := by
 rintro he
 rcases h.2 with ⟨rfl, _⟩ | ⟨g', cap, cur, rfl, h2, h3, _⟩
 ·cases he
 ·injection he with he
  subst he
  unfold Blk at hb
  rw [hb] at h3
  injection h3 with h3
  injection h3 with h4 h5
  exact ht h5
theorem wpList_appF {P : Program} {w : World} {ops : Array Oper} {rest : List Oper} {o : Oper} {a : Act} {Q : Exit → Act → World → Prop}
 (hgd : o.guard = none) (s x : Operand) (t : TypeId) (ho : o.op = .call { callee := .builtin .append, args := #[s, x], argTypes := #[t, t] })
 (e : TypeId) (bytes : Nat) (ht : P.underlying t = some (.slice e)) (hk : KindOf P e E bytes)
 (base B : Nat) (v vx : Value) (l m : List α) (hs : a.eval s = v) (hown : OwnE E e w base v l) (hx : a.eval x = vx) (hr : RdE E B w vx m)
 (hlen : (l.length + m.length) * bytes ≤ 140737488355328) (h63 : l.length + m.length ≤ 9223372036854775807) (hbase : base ≤ w.heap.size)
 (h : ∀ v' w', OwnE E e w' base v' (l ++ m) → Below base w w' → w.grownBy w' v.ownBlock → wpList P ops Q rest (a.put o.dst v') w') : wpList P ops Q (o :: rest) a w := by
 obtain ⟨i, z, hi, hz, hsize, hby, hzs⟩ := hk
 obtain ⟨A, c, hv, hc, hm, hn, hrr⟩ := hr
 cases A with
 | none =>
   have h0 : c = 0 := hn rfl
   have h1 : m.length = 0 := by omega
   have h2 : m = [] := List.eq_nil_of_length_eq_zero h1
   subst h0 h2
   refine wpList_append_own_none hgd s x t ho base e i E.k ht hi v l.length (rowsE E l) hs hown (by rw [hx, hv]; rfl) ?_
   exact h v w (by rw [List.append_nil]; exact hown) (Below.refl _ _) ⟨rfl, rfl, rfl, Nat.le_refl _, fun _ _ _ => rfl⟩
 | some ad =>
   refine wpList_append_own w hgd s x t ho base e i z E.k bytes ht hi hz hsize hby hzs E.pos v l.length (rowsE E l) hs hown ad m.length c (rowsE E m) (by rw [hx, hv]) (rowsE_length E m) (hrr ad rfl).2 (rowsE_cell E m) (by unfold maxLen; omega) hlen hbase ?_
   intro v' w' h1 h2 _
   refine h v' w' ?_ (OwnE.grown hown h2 hbase) h2
   unfold OwnE
   rw [List.length_append, rowsE_append]
   exact h1
end
section
variable {α : Type} {E : RowK α}
theorem getD_setE (l : List α) (i : Nat) (y d : α) (hi : i < l.length) : (l.set i y).getD i d = y := by
 rw [List.getD_eq_getElem?_getD, List.getElem?_set_self hi]
 rfl
end
theorem run_copy_rowE {P : Program} (w : World) (dT sT ty elem : TypeId) (k : Nat) (b o dLen dCap : Nat) (a : Addr) (sLen sCap : Nat) (cs : List Value)
 (hu : P.underlying dT = some (.slice elem)) (hs : (P.info? elem).map (·.size) = some k) (hn : cs.length = Nat.min sLen dLen * k)
 (hsrc : ∀ j v, cs[j]? = some v → w.cell? (a.add j) = some v) (hc : ∀ j, j < cs.length → (w.cell? ⟨b, o + j, none⟩).isSome = true ∧ w.frozen? ⟨b, o + j, none⟩ = false) (h1 : ∀ v ∈ cs, v.oneCell' = true) :
 (Builtin.copy_ #[dT, sT] ty #[.slice (some ⟨b, o, none⟩) dLen dCap, .slice (some a) sLen sCap]).run P w = .ok (goInt (Nat.min sLen dLen)) (w.setCells b o cs) := by
 have hl := run_loadCells_list (P := P) w a cs hsrc
 have hst := run_storeCells_cells (P := P) b o cs 0 w (fun j hj => (hc j hj).1) (fun j hj => (hc j hj).2) h1
 rw [Nat.add_zero] at hst
 cases hq : P.info? elem with
 | none => simp [hq] at hs
 | some i =>
   have hi : i.size = k := by simpa [hq] using hs
   rw [hn] at hl
   simp [Builtin.copy_, run_underlying hu, Builtin.lenOf, Builtin.firstCells, sizeOf, typeInfo, hq, hi, hl, hst]
theorem wpList_copyE_run {P : Program} {w : World} {ops : Array Oper} {rest : List Oper} {o : Oper} {a : Act} {Q : Exit → Act → World → Prop} (hgd : o.guard = none) (d s : Operand) (t t' : TypeId)
 (ho : o.op = .call { callee := .builtin .copy, args := #[d, s], argTypes := #[t, t'] }) (v u : Value) (hd : a.eval d = v) (hs : a.eval s = u) {v' : Value} {w' : World} (hr : (Builtin.copy_ #[t, t'] o.type #[v, u]).run P w = .ok v' w')
 (h : wpList P ops Q rest (a.put o.dst v') w') : wpList P ops Q (o :: rest) a w := by
 refine wpList_plain hgd fun K hK => ?_
 unfold Oper.wp execOp
 simp only [ho, resolve, invoke, builtin, Sem.run_bind, Sem.run_pure, Result.andThen_ok, List.map_toArray, List.map_cons, List.map_nil, hd, hs, hr]
 exact hK _ _ h
theorem step_copyE_run {P : Program} {ops : Array Oper} {o : Oper} {a : Act} {w : World} {K : Act → World → Prop} {Q : Exit → Act → World → Prop} {E : Prop}
 (hg : o.guard = none) (d x : Operand) (dT sT : TypeId) (hop : o.op = Op.call { callee := Callee.builtin Builtin.copy, args := #[d, x], argTypes := #[dT, sT] })
 (v u : Value) (hd : a.eval d = v) (hx : a.eval x = u) {v' : Value} {w' : World} (hr : (Builtin.copy_ #[dT, sT] o.type #[v, u]).run P w = .ok v' w') (hK : K (a.put o.dst v') w') :
 if Region.wanted o (yielded ops a.tmps) = true then Oper.wp P o a w K Q else E := by
 have hw : Region.wanted o (yielded ops a.tmps) = true := by simp [Region.wanted, hg]
 rw [if_pos hw]
 unfold Oper.wp
 simp [execOp, hop, resolve, invoke, builtin, hd, hx, hr, Result.andThen]
 exact hK
theorem wpList_clearE_run {P : Program} {w : World} {ops : Array Oper} {rest : List Oper} {o : Oper} {a : Act} {Q : Exit → Act → World → Prop} (hgd : o.guard = none) (s : Operand) (t : TypeId)
 (ho : o.op = .call { callee := .builtin .clear, args := #[s], argTypes := #[t] }) (v : Value) (hs : a.eval s = v) {v' : Value} {w' : World} (hr : (Builtin.clear_ #[t] o.type #[v]).run P w = .ok v' w')
 (h : wpList P ops Q rest (a.put o.dst v') w') : wpList P ops Q (o :: rest) a w := by
 refine wpList_plain hgd fun K hK => ?_
 unfold Oper.wp execOp
 simp only [ho, resolve, invoke, builtin, Sem.run_bind, Sem.run_pure, Result.andThen_ok, List.map_toArray, List.map_cons, List.map_nil, hs, hr]
 exact hK _ _ h
def Short4 (l : List Or) (w : World) (e : Ending) (w' : World) : Prop := ∃ b, e = .returned (.bool b) ∧ (b = true → l.length ≤ 30) ∧ Below w.heap.size w w'
theorem short14 (l : List Or) (v : Value) (w : World) (hr : RdE OrK w.heap.size w v l) : Calls Tryz.prog 7 #[v] w (Short4 l w) := by
 obtain ⟨A, cp, rfl, hc, hm⟩ := hr.shape
 unfold maxLen at hm
 obtain ⟨n, hn⟩ : ∃ n, l.length = n := ⟨_, rfl⟩
 have HN := lhd hn
 have HR := lhd hr
 rw [hn] at hc HR ⊢
 clear hr hn
 go_enter Tryz.func7, Tryz.ntmps7
 have HR1 := HR
 have HB := lhd (Below.refl w.heap.size w)
 go_wp2
 go_loop [3] (fun x => ∃ i : Nat, i ≤ n ∧ x = .int .i64 (i : Int) ∧ i ≤ 30) (fun x => n - (intOf x).toNat)
 case atStart => exact ⟨0, by omega, rfl, by omega⟩
 case round =>
  obtain ⟨i, hi, rfl, hib⟩ := hrel
  by_cases hi2 : i < n
  ·have zi : (i : Int) < (n : Int) := by omega
   by_cases hz : i = 30
   ·have hzz : ((i : Int) == 30) = true := int_eqE _ _ (by omega)
    subst hz
    go_wp2
    go_ret
    exact ⟨_, rfl, fun h => by simp at h, HB.out⟩
   have hzz : ((i : Int) == 30) = false := int_neE _ _ (by omega)
   obtain ⟨a, hA, c0, c1, c2, c3, c4, c5, c6, c7⟩ := HR1.out.atOr i (by rw [HN.out]; exact hi2)
   subst hA
   obtain ⟨x, hx⟩ : ∃ x, l.getD i or0 = x := ⟨_, rfl⟩
   rw [hx] at c0 c1 c2 c3 c4 c5 c6 c7
   obtain ⟨k, hk⟩ : ∃ k, (oP x).length = k := ⟨_, rfl⟩
   obtain ⟨m, hm3⟩ : ∃ k, (oV x).length = k := ⟨_, rfl⟩
   have hkz : (⟨(oP x).toArray⟩ : ByteArray).size = k := hk
   have hmz : (⟨(oV x).toArray⟩ : ByteArray).size = m := hm3
   clear hk hm3 hx
   by_cases hlong : (200 : Int) < (k : Int)
   ·go_wp2
    go_ret
    exact ⟨_, rfl, fun h => by simp at h, HB.out⟩
   by_cases hlong2 : (1100 : Int) < (m : Int)
   ·go_wp2
    go_ret
    exact ⟨_, rfl, fun h => by simp at h, HB.out⟩
   go_wp2
   go_round
   case rel => exact ⟨i + 1, by omega, by go_num, by omega⟩
   case measure => simp [intOf]; omega
  ·obtain rfl : i = n := by omega
   have zi : ¬ (i : Int) < (i : Int) := by omega
   have hn30 : Hid (l.length ≤ 30) := lhd (by rw [HN.out]; exact hib)
   go_wp2
   go_ret
   exact ⟨_, rfl, fun _ => hn30.out, HB.out⟩
theorem sameB_at (l m : List Or) (i : Nat) (h : l.getD i or0 ≠ m.getD i or0) : decide (l = m) = false := by
 rw [decide_eq_false_iff_not]
 rintro rfl
 exact h rfl
theorem sameB_all (l m : List Or) (hl : l.length = m.length) (h : ∀ i, i < l.length → l.getD i or0 = m.getD i or0) : decide (l = m) = true := by
 rw [decide_eq_true_eq]
 refine List.ext_getElem hl fun i h1 h2 => ?_
 have := h i h1
 rw [List.getD_eq_getElem?_getD, List.getD_eq_getElem?_getD, List.getElem?_eq_getElem h1, List.getElem?_eq_getElem h2] at this
 exact this
theorem sameB_len (l m : List Or) (hl : l.length ≠ m.length) : decide (l = m) = false := by
 rw [decide_eq_false_iff_not]
 rintro rfl
 exact hl rfl
theorem same14_any (l m : List Or) (v u : Value) (w : World) (hr : RdE OrK w.heap.size w v l) (hr2 : RdE OrK w.heap.size w u m) : Calls Tryz.prog 14 #[v, u] w (One (.bool (decide (l = m))) w) := by
 obtain ⟨A, cp, rfl, hc, hm⟩ := hr.shape
 obtain ⟨A2, cp2, rfl, hc2, hm2⟩ := hr2.shape
 unfold maxLen at hm hm2
 obtain ⟨n, hn⟩ : ∃ n, l.length = n := ⟨_, rfl⟩
 obtain ⟨k, hk⟩ : ∃ n, m.length = n := ⟨_, rfl⟩
 have HN := lhd hn
 have HK := lhd hk
 have HR := lhd hr
 have HR2 := lhd hr2
 rw [hn] at hc HR
 rw [hk] at hc2 HR2
 rw [hn, hk]
 clear hr hn hr2 hk
 obtain ⟨R, hR⟩ : ∃ R, decide (l = m) = R := ⟨_, rfl⟩
 have HRR := lhd hR
 rw [hR]
 clear hR
 go_enter Tryz.func14, Tryz.ntmps14
 by_cases hnk : n = k
 ·subst hnk
  go_wp2
  go_loopw [5] (fun x wr => ∃ i : Nat, i ≤ n ∧ x = .int .i64 (i : Int) ∧ Hid (∀ j, j < i → l.getD j or0 = m.getD j or0) ∧ Hid (Below w.heap.size w wr)) (fun x _ => n - (intOf x).toNat)
  case atStart => exact ⟨0, by omega, rfl, fun j hj => by omega, Below.refl _ _⟩
  case round =>
   obtain ⟨i, hi, rfl, HA, HD⟩ := hrel
   by_cases hi2 : i < n
   ·have zi : (i : Int) < (n : Int) := by omega
    obtain ⟨a, hA, c0, c1, c2, c3, c4, c5, c6, c7⟩ := (HR.out.below HD.out).atOr i (by rw [HN.out]; exact hi2)
    obtain ⟨b, hA2, d0, d1, d2, d3, d4, d5, d6, d7⟩ := (HR2.out.below HD.out).atOr i (by rw [HK.out]; exact hi2)
    subst hA hA2
    obtain ⟨x, hx⟩ : ∃ x, l.getD i or0 = x := ⟨_, rfl⟩
    obtain ⟨y, hy⟩ : ∃ y, m.getD i or0 = y := ⟨_, rfl⟩
    rw [hx] at c0 c1 c2 c3 c4 c5 c6 c7
    rw [hy] at d0 d1 d2 d3 d4 d5 d6 d7
    have hne := run_neqOrR x y
    obtain ⟨B, hB⟩ : ∃ B, decide (x = y) = B := ⟨_, rfl⟩
    rw [hB] at hne
    go_wp2
    refine wp_region_quiet_lit (by kernel_rfl) (by kernel_rfl) ?_
    repeat (first | go_big_quiet_step (fail) | quiet_step (fail))
    refine wpQuiet_nil ?_
    intro _ hw'
    obtain ⟨nq, hw''⟩ := hw'
    subst hw''
    have HD2 : Hid (Below w.heap.size w (wr.drewN nq)) := Below.drewN' HD.out
    cases B
    ·have HF := lhd (sameB_at l m i (by rw [hx, hy]; simpa using hB))
     clear hne
     go_wp2
     go_ret
     exact ⟨by rw [← HRR.out, HF.out]; rfl, HD2.out⟩
    ·have HA2 : Hid (∀ j, j < i + 1 → l.getD j or0 = m.getD j or0) := by
      intro j hj
      by_cases h : j < i
      ·exact HA.out j h
      ·have : j = i := by omega
       subst this
       rw [hx, hy]
       simpa using hB
     clear hne
     go_wp2
     go_roundw
     case rel => exact ⟨i + 1, by omega, by go_num, HA2, HD2⟩
     case measure => simp [intOf]; omega
   ·have hE : i = n := by omega
    subst hE
    have HF := lhd (sameB_all l m (by rw [HN.out, HK.out]) (by rw [HN.out]; exact HA.out))
    go_wp2
    go_ret
    exact ⟨by rw [← HRR.out, HF.out]; rfl, HD.out⟩
 ·have HF := lhd (sameB_len l m (by rw [HN.out, HK.out]; exact hnk))
  have hz : ((n : Int) == (k : Int)) = false := by
   rw [beq_eq_false_iff_ne]
   omega
  go_wp2
  go_ret
  exact ⟨by rw [← HRR.out, HF.out]; rfl, Below.refl _ _⟩
def AllO (l : List Or) (w : World) (e : Ending) (w' : World) : Prop := ∃ v, e = .returned v ∧ OwnE OrK 97 w' w.heap.size v l ∧ Below w.heap.size w w'
theorem orA_take (l : List Or) (i : Nat) (hi : i < l.length) : l.take (i + 1) = l.take i ++ [l.getD i or0] := by
 rw [List.getD_eq_getElem?_getD, List.getElem?_eq_getElem hi, List.take_add_one, List.getElem?_eq_getElem hi]
 rfl
theorem all14_any (l : List Or) (v : Value) (w : World) (hr : RdE OrK w.heap.size w v l) (hl : l.length ≤ 1000) : Calls Tryz.prog 11 #[v] w (AllO l w) := by
 obtain ⟨A, cp, rfl, hc, hm⟩ := hr.shape
 unfold maxLen at hm
 obtain ⟨n, hn⟩ : ∃ n, l.length = n := ⟨_, rfl⟩
 have HN := lhd hn
 have HR := lhd hr
 rw [hn] at hc HR hl
 rw [hn]
 clear hr hn
 go_enter Tryz.func11, Tryz.ntmps11
 go_wp2
 have hE0 : Hid (OwnE OrK 97 (w.alloc (.cells #[] 97)) w.heap.size (.slice (some ⟨w.heap.size, 0, none⟩) 0 0) (l.take 0)) := lhd (OwnE.empty _ _ _ (Nat.le_refl _))
 have hB0 : Hid (Below w.heap.size w (w.alloc (.cells #[] 97))) := lhd ((Below.refl _ _).alloc (Nat.le_refl _) _)
 go_loopw [3, 4] (fun vo x wr => ∃ i : Nat, i ≤ n ∧ x = .int .i64 (i : Int) ∧ Hid (OwnE OrK 97 wr w.heap.size vo (l.take i)) ∧ Hid (Below w.heap.size w wr)) (fun _ x _ => n - (intOf x).toNat)
 case atStart => exact ⟨0, by omega, rfl, hE0, hB0⟩
 case round =>
  clear hE0 hB0
  obtain ⟨i, hi, rfl, HO, HB⟩ := hrel
  have hsz := HB.out.size
  by_cases hi2 : i < n
  ·have zi : (i : Int) < (n : Int) := by omega
   have hil : i < l.length := by rw [HN.out]; exact hi2
   obtain ⟨a, hA, c0, c1, c2, c3, c4, c5, c6, c7⟩ := (HR.out.below HB.out).atOr i hil
   subst hA
   have hT := orA_take l i hil
   obtain ⟨o, ho⟩ : ∃ o, l.getD i or0 = o := ⟨_, rfl⟩
   rw [ho] at c0 c1 c2 c3 c4 c5 c6 c7 hT
   have hlt : (l.take i).length = i := by rw [List.length_take]; omega
   obtain ⟨m, hm2⟩ : ∃ m, l.take i = m := ⟨_, rfl⟩
   rw [hm2] at hT HO hlt
   have HT := lhd hT
   have HLT := lhd hlt
   clear ho hil hT hm2 hlt
   go_wp2_with (refine wpList_alloc_blk rfl 86 rfl (orc or0) zeroOrP ?_)
   intro wa a1 a2 a3
   obtain ⟨g, hg⟩ : ∃ g, wr.heap.size = g := ⟨_, rfl⟩
   have A1 := lhd a1
   have BA := lhd a3
   rw [hg] at A1 ⊢
   have HG := lhd hg
   clear a1 a2 a3 hg c0 c1 c2 c3 c4 c5 c6 c7
   go_wp2_with (refine wpList_store_to rfl 86 _ _ rfl g (orc o) (orc or0) 86 rfl rfl A1.out szOrP rfl (orc_all o) ?_)
   intro wb e1 e2 e3 e4
   have BB : Hid (Below wr.heap.size wr wb) := lhd (BA.out.trans (by rw [HG.out]; exact e3))
   have HOb := lhd (HO.out.below BB.out (Nat.le_refl _))
   have HBb := lhd (HB.out.trans (BB.out.mono hsz))
   have hwb := HBb.out.size
   have d0 := e1.at_ 0 _ rfl
   have d1 := e1.at_ 1 _ rfl
   have d2 := e1.at_ 2 _ rfl
   have d3 := e1.at_ 3 _ rfl
   have d4 := e1.at_ 4 _ rfl
   have d5 := e1.at_ 5 _ rfl
   have d6 := e1.at_ 6 _ rfl
   have d7 := e1.at_ 7 _ rfl
   clear e1 e2 e3 e4 A1 BA BB HO HB HG
   go_wp2_with (at_builtin; refine wpList_appF (E := OrK) rfl _ _ 29 rfl 97 80 Tryz.underlying29 kindOrR w.heap.size _ _ _ m [o] rfl (HOb.out.alloc _) rfl (RdE.one wb 97 o) ?d1 ?d2 ?d3 ?_)
   case d1 => simp only [List.length_cons, List.length_nil, HLT.out]; omega
   case d2 => simp only [List.length_cons, List.length_nil, HLT.out]; omega
   case d3 => simp; omega
   intro v' we m1 m2 m3
   have hba : Below wb.heap.size wb (wb.alloc (.cells (orc o).toArray 97)) := (Below.refl wb.heap.size wb).alloc (Nat.le_refl _) _
   have HOe : Hid (OwnE OrK 97 we w.heap.size v' (l.take (i + 1))) := lhd (by rw [HT.out]; exact m1)
   have HBe : Hid (Below w.heap.size w we) := lhd (HBb.out.trans ((hba.mono hwb).trans m2))
   clear m1 m2 m3 hba d0 d1 d2 d3 d4 d5 d6 d7 HOb HBb hwb
   go_wp2
   go_roundw
   case rel => exact ⟨i + 1, by omega, by go_num, HOe, HBe⟩
   case measure => simp [intOf]; omega
  ·obtain rfl : i = n := by omega
   have hE : l.take i = l := by rw [← HN.out, List.take_length]
   rw [hE] at HO
   go_wp2
   go_ret
   exact ⟨_, rfl, HO.out, HB.out⟩
def fitsO (o : Or) : Prop := fit64 (oR o) ∧ fit64 (oS o) ∧ fit64 (oT o)
def encOs : List Or → List UInt8
 | [] => []
 | o :: r => encO o ++ encOs r
theorem encOs_append : ∀ a b : List Or, encOs (a ++ b) = encOs a ++ encOs b
 | [], _ => rfl
 | o :: a, b => by
   show encO o ++ encOs (a ++ b) = _
   rw [encOs_append a b, ← List.append_assoc]
   rfl
theorem encOs_one (o : Or) : encOs [o] = encO o := by simp [encOs]
def takeOs : Nat → List Or → List UInt8 → Option (List Or × List UInt8)
 | 0, acc, b => some (acc, b)
 | k + 1, acc, b => if (takeO b).2.2 = 0 then takeOs k (acc ++ [(takeO b).1]) (takeO b).2.1 else none
theorem takeOs_enc : ∀ (l acc : List Or) (r : List UInt8), (∀ o ∈ l, mayO o = true ∧ fitsO o) → takeOs l.length acc (encOs l ++ r) = some (acc ++ l, r)
 | [], acc, r, _ => by simp [takeOs, encOs]
 | o :: l, acc, r, h => by
   have ho := h o (by simp)
   have e := takeO_enc o (encOs l ++ r) ho.1 ho.2.1 ho.2.2.1 ho.2.2.2
   have e2 : takeO (encOs (o :: l) ++ r) = (o, encOs l ++ r, 0) := by
    show takeO ((encO o ++ encOs l) ++ r) = _
    rw [List.append_assoc]
    exact e
   show (if (takeO (encOs (o :: l) ++ r)).2.2 = 0 then takeOs l.length (acc ++ [(takeO (encOs (o :: l) ++ r)).1]) (takeO (encOs (o :: l) ++ r)).2.1 else none) = _
   rw [e2, if_pos rfl]
   dsimp only
   rw [takeOs_enc l (acc ++ [o]) r (fun x hx => h x (List.mem_cons_of_mem _ hx)), List.append_assoc]
   rfl
theorem takeOs_only : ∀ (k : Nat) (acc : List Or) (b : List UInt8) (m : List Or) (r : List UInt8), takeOs k acc b = some (m, r) → ∃ l, m = acc ++ l ∧ l.length = k ∧ encOs l ++ r = b ∧ ∀ o ∈ l, mayO o = true ∧ fitsO o
 | 0, acc, b, m, r, h => by
   injection h with h
   injection h with h1 h2
   subst h1 h2
   exact ⟨[], by simp, rfl, rfl, fun _ h => by cases h⟩
 | k + 1, acc, b, m, r, h => by
   unfold takeOs at h
   split at h
   ·rename_i he
    obtain ⟨l, e1, e2, e3, e4⟩ := takeOs_only k _ _ m r h
    have ht : takeO b = ((takeO b).1, (takeO b).2.1, 0) := by rw [← he]
    obtain ⟨m1, m2, m3, m4, m5⟩ := takeO_only b _ _ ht
    refine ⟨(takeO b).1 :: l, by rw [e1]; simp, by simp [e2], ?_, fun o ho => ?_⟩
    ·show (encO (takeO b).1 ++ encOs l) ++ r = b
     rw [List.append_assoc, e3, m2]
    ·rcases List.mem_cons.1 ho with rfl | ho
     ·exact ⟨m1, m3, m4, m5⟩
     ·exact e4 o ho
   ·cases h
def encB (l : List Or) : List UInt8 := enc l.length ++ encOs l
def decB (s : List UInt8) : Option (List Or) :=
 if (takeN s).2.2 = 0 ∧ (takeN s).1 ≤ 10 then
  (takeOs (takeN s).1 [] (takeN s).2.1).bind fun x => if x.2 = [] then some x.1 else none
 else none
theorem decB_few (s : List UInt8) (h : (takeN s).2.2 ≠ 0 ∨ 10 < (takeN s).1) : decB s = none := by
 unfold decB
 rw [if_neg (fun x => by omega)]
theorem decB_bad (s : List UInt8) (h : takeOs (takeN s).1 [] (takeN s).2.1 = none) : decB s = none := by
 unfold decB
 rw [h]
 split <;> rfl
theorem decB_ends (s : List UInt8) (m : List Or) (r : List UInt8) (h1 : (takeN s).2.2 = 0) (h2 : (takeN s).1 ≤ 10) (h : takeOs (takeN s).1 [] (takeN s).2.1 = some (m, r)) : decB s = if r = [] then some m else none := by
 unfold decB
 rw [if_pos ⟨h1, h2⟩, h]
 rfl
theorem decB_enc (l : List Or) (hl : l.length ≤ 10) (h : ∀ o ∈ l, mayO o = true ∧ fitsO o) : decB (encB l) = some l := by
 have e : takeN (encB l) = (l.length, encOs l, 0) := takeN_enc l.length (by omega) _
 have e2 := takeOs_enc l [] [] h
 rw [List.append_nil, List.nil_append] at e2
 rw [decB_ends (encB l) l [] (by rw [e]) (by rw [e]; exact hl) (by rw [e]; exact e2), if_pos rfl]
theorem decB_only (s : List UInt8) (l : List Or) (h : decB s = some l) : encB l = s ∧ l.length ≤ 10 ∧ ∀ o ∈ l, mayO o = true ∧ fitsO o := by
 unfold decB at h
 split at h
 ·rename_i h1
  cases h2 : takeOs (takeN s).1 [] (takeN s).2.1 with
  | none => rw [h2] at h; cases h
  | some x =>
    rw [h2] at h
    have h : (if x.2 = [] then some x.1 else none) = some l := h
    split at h
    ·rename_i h3
     injection h with h
     subst h
     obtain ⟨m, e1, e2, e3, e4⟩ := takeOs_only _ _ _ x.1 x.2 h2
     rw [List.nil_append] at e1
     rw [h3, List.append_nil] at e3
     have ht : takeN s = ((takeN s).1, (takeN s).2.1, 0) := by rw [← h1.1]
     have e5 := (takeN_only s _ _ ht).1
     refine ⟨?_, by rw [e1, e2]; exact h1.2, by rw [e1]; exact e4⟩
     unfold encB
     rw [e1, e2, e3, e5]
    ·cases h
 ·cases h
def decE (s : List UInt8) : Int := if (decB s).isSome then 0 else 3
def encE (l : List Or) : Int := if 10 < l.length then 5 else if l.all mayO then 0 else 1
theorem encIs_lenB : ∀ l : List Int, (encIs l).length ≤ 9 * l.length
 | [] => Nat.le_refl _
 | n :: l => by
   have h1 := encIs_lenB l
   have h2 := wid_le (zig n).toNat
   have h3 := enc_length (zig n).toNat
   show (encI n ++ encIs l).length ≤ 9 * (l.length + 1)
   rw [List.length_append]
   unfold encI
   omega
theorem encX_lenB (s : List UInt8) : (encX s).length ≤ s.length + 9 := by
 have h2 := wid_le s.length
 have h3 := enc_length s.length
 unfold encX encS
 rw [List.length_append, ba_list, ba_size, h3]
 omega
theorem encO_lenB (o : Or) (h : mayO o = true) : (encO o).length ≤ 1200 := by
 obtain ⟨-, -, -, -, -, -, m7, m8⟩ := may_sized h
 have h1 := encIs_lenB [oC o, oQ o, oK o, oR o, oS o, oT o]
 have h2 := encX_lenB (oP o)
 have h3 := encX_lenB (oV o)
 unfold encO
 rw [List.length_append, List.length_append]
 simp only [List.length_cons, List.length_nil] at h1
 omega
theorem encOs_len : ∀ l : List Or, (∀ o ∈ l, mayO o = true) → (encOs l).length ≤ 1200 * l.length
 | [], _ => Nat.le_refl _
 | o :: l, h => by
   have h1 := encO_lenB o (h o (by simp))
   have h2 := encOs_len l (fun x hx => h x (List.mem_cons_of_mem _ hx))
   show (encO o ++ encOs l).length ≤ 1200 * (l.length + 1)
   rw [List.length_append]
   omega
theorem takeO_lessB (b : List UInt8) : (takeO b).2.1.length ≤ b.length := by
 by_cases h : (takeO b).2.2 = 0
 ·have ht : takeO b = ((takeO b).1, (takeO b).2.1, 0) := by rw [← h]
  have h2 := (takeO_only b _ _ ht).2.1
  have h3 := congrArg List.length h2
  rw [List.length_append] at h3
  omega
 ·have : (takeO b).2.1 = [] := by
   unfold takeO at h ⊢
   split
   ·rfl
   split
   ·rfl
   split
   ·rfl
   split
   ·rfl
   ·rename_i h1 h2 h3 h4
    exact absurd (by rw [if_neg h1, if_neg h2, if_neg h3, if_neg h4]) h
  rw [this]
  exact Nat.zero_le _
end Go.Proofs.YtgfobinklijkpaaGreatDoor
