/-
  The program's shelves: a node is put into a row of one's own. Each theorem states its own conditions.
-/
import Derived.Test.YtlpakfaoaodaiaaDoorGB
import Derived.Lib.Overlaps
import Derived.Lib.AppendZerosOnto
namespace Go.Proofs.YtlpakfaoaodaiaaDoor
open Go.RowKit

theorem run_copy_nds {P : Program} (w : World) (dT sT ty elem : TypeId) (b o dLen dCap : Nat) (a : Addr) (sLen sCap : Nat) (cs : List Value)
    (hu : P.underlying dT = some (.slice elem)) (hs : (P.info? elem).map (·.size) = some 4) (hn : cs.length = Nat.min sLen dLen * 4)
    (hsrc : ∀ j v, cs[j]? = some v → w.cell? (a.add j) = some v) (hc : ∀ j, j < cs.length → (w.cell? ⟨b, o + j, none⟩).isSome = true ∧ w.frozen? ⟨b, o + j, none⟩ = false) (h1 : ∀ v ∈ cs, v.oneCell' = true) :
    (Builtin.copy_ #[dT, sT] ty #[.slice (some ⟨b, o, none⟩) dLen dCap, .slice (some a) sLen sCap]).run P w = .ok (goInt (Nat.min sLen dLen)) (w.setCells b o cs) := by
  have hl := run_loadCells_list (P := P) w a cs hsrc
  have hst := run_storeCells_cells (P := P) b o cs 0 w (fun j hj => (hc j hj).1) (fun j hj => (hc j hj).2) h1
  rw [Nat.add_zero] at hst
  cases hq : P.info? elem with
  | none => simp [hq] at hs
  | some i =>
    have hi : i.size = 4 := by simpa [hq] using hs
    rw [hn] at hl
    simp [Builtin.copy_, run_underlying hu, Builtin.lenOf, Builtin.firstCells, sizeOf, typeInfo, hq, hi, hl, hst]
theorem wpList_copy_run {P : Program} {w : World} {ops : Array Oper} {rest : List Oper} {o : Oper} {a : Act} {Q : Exit → Act → World → Prop} (hgd : o.guard = none) (d s : Operand) (t t' : TypeId)
    (ho : o.op = .call { callee := .builtin .copy, args := #[d, s], argTypes := #[t, t'] }) (v u : Value) (hd : a.eval d = v) (hs : a.eval s = u) {v' : Value} {w' : World} (hr : (Builtin.copy_ #[t, t'] o.type #[v, u]).run P w = .ok v' w')
    (h : wpList P ops Q rest (a.put o.dst v') w') : wpList P ops Q (o :: rest) a w := by
  refine wpList_plain hgd fun K hK => ?_
  unfold Oper.wp execOp
  simp only [ho, resolve, invoke, builtin, Sem.run_bind, Sem.run_pure, Result.andThen_ok, List.map_toArray, List.map_cons, List.map_nil, hd, hs, hr]
  exact hK _ _ h
theorem step_copy_run {P : Program} {ops : Array Oper} {o : Oper} {a : Act} {w : World} {K : Act → World → Prop} {Q : Exit → Act → World → Prop} {E : Prop}
    (hg : o.guard = none) (d x : Operand) (dT sT : TypeId) (hop : o.op = Op.call { callee := Callee.builtin Builtin.copy, args := #[d, x], argTypes := #[dT, sT] })
    (v u : Value) (hd : a.eval d = v) (hx : a.eval x = u) {v' : Value} {w' : World} (hr : (Builtin.copy_ #[dT, sT] o.type #[v, u]).run P w = .ok v' w') (hK : K (a.put o.dst v') w') :
    if Region.wanted o (yielded ops a.tmps) = true then Oper.wp P o a w K Q else E := by
  have hw : Region.wanted o (yielded ops a.tmps) = true := by simp [Region.wanted, hg]
  rw [if_pos hw]
  unfold Oper.wp
  simp [execOp, hop, resolve, invoke, builtin, hd, hx, hr, Result.andThen]
  exact hK
theorem RdNd.ofBlk {w : World} {g : Nat} {x : Nd} {e : TypeId} (h : Blk w g (ndc x) e) : RdNd (g + 1) w (.slice (some ⟨g, 0, none⟩) 1 1) [x] := by
  refine ⟨some ⟨g, 0, none⟩, 1, rfl, Nat.le_refl _, by decide, fun h => (by cases h), fun a ha => ?_⟩
  cases ha
  refine ⟨fun _ => Nat.lt_succ_self _, fun j u hu => ?_⟩
  rw [nds_one] at hu
  have hadd : (⟨g, 0, none⟩ : Addr).add j = ⟨g, j, none⟩ := by unfold Addr.add; split <;> simp_all
  rw [hadd]
  exact (h.cell j).trans hu
theorem nds_ins (l : List Nd) (x : Nd) (m : Nat) : nds (l.take m ++ x :: l.drop m) = nds (l.take m) ++ (ndc x ++ nds (l.drop m)) := by
  rw [nds_append, show x :: l.drop m = [x] ++ l.drop m from rfl, nds_append, nds_one]
theorem ins_len (l : List Nd) (x : Nd) (m : Nat) (hm : m ≤ l.length) : (l.take m ++ x :: l.drop m).length = l.length + 1 := by
  simp only [List.length_append, List.length_take, List.length_cons, List.length_drop]
  omega
theorem take3 (A B D : List Value) (k : Nat) : (A ++ (B ++ D)).take (A.length + B.length + k) = A ++ (B ++ D.take k) := by
  rw [← List.append_assoc, show A.length + B.length = (A ++ B).length by simp, List.take_length_add_append, List.append_assoc]
/-- The node first, then what stands behind it. -/
theorem ins_row1 (C : List Value) (l : List Nd) (x : Nd) (m cap : Nat) (hC : C.length = cap * 4) (hr : l.length + 1 ≤ cap) (hm : m ≤ l.length) (h : C.take (m * 4) = nds (l.take m)) (C1 C2 : List Value)
    (e1 : C1 = C.take (m * 4) ++ (ndc x ++ C.drop (m * 4 + (ndc x).length))) (e2 : C2 = C1.take ((m + 1) * 4) ++ (nds (l.drop m) ++ C1.drop ((m + 1) * 4 + (nds (l.drop m)).length))) :
    C1.length = cap * 4 ∧ C2.length = cap * 4 ∧ C2.take ((l.length + 1) * 4) = nds (l.take m ++ x :: l.drop m) := by
  have hx : (ndc x).length = 4 := rfl
  have hd : (nds (l.drop m)).length = (l.length - m) * 4 := by rw [nds_length, List.length_drop]; omega
  have l1 : C1.length = cap * 4 := by rw [e1, written_len C (ndc x) (m * 4) (by rw [hx, hC]; omega), hC]
  have l2 : C2.length = cap * 4 := by rw [e2, written_len C1 _ ((m + 1) * 4) (by rw [hd, l1]; omega), l1]
  refine ⟨l1, l2, ?_⟩
  have t1 := written_more C (ndc x) (m * 4) (by rw [hx, hC]; omega)
  rw [← e1, hx, show m * 4 + 4 = (m + 1) * 4 by omega, h] at t1
  have t2 := written_more C1 (nds (l.drop m)) ((m + 1) * 4) (by rw [hd, l1]; omega)
  rw [← e2, hd, t1, show (m + 1) * 4 + (l.length - m) * 4 = (l.length + 1) * 4 by omega] at t2
  rw [t2, nds_ins, List.append_assoc]
/-- What stands behind it first, then the node. -/
theorem ins_row2 (C : List Value) (l : List Nd) (x : Nd) (m cap : Nat) (hC : C.length = cap * 4) (hr : l.length + 1 ≤ cap) (hm : m ≤ l.length) (h : C.take (m * 4) = nds (l.take m)) (C1 C2 : List Value)
    (e1 : C1 = C.take ((m + 1) * 4) ++ (nds (l.drop m) ++ C.drop ((m + 1) * 4 + (nds (l.drop m)).length))) (e2 : C2 = C1.take (m * 4) ++ (ndc x ++ C1.drop (m * 4 + (ndc x).length))) :
    C1.length = cap * 4 ∧ C2.length = cap * 4 ∧ C2.take ((l.length + 1) * 4) = nds (l.take m ++ x :: l.drop m) := by
  have hx : (ndc x).length = 4 := rfl
  have hd : (nds (l.drop m)).length = (l.length - m) * 4 := by rw [nds_length, List.length_drop]; omega
  have l1 : C1.length = cap * 4 := by rw [e1, written_len C _ ((m + 1) * 4) (by rw [hd, hC]; omega), hC]
  have l2 : C2.length = cap * 4 := by rw [e2, written_len C1 (ndc x) (m * 4) (by rw [hx, l1]; omega), l1]
  refine ⟨l1, l2, ?_⟩
  have t1 := written_more C (nds (l.drop m)) ((m + 1) * 4) (by rw [hd, hC]; omega)
  rw [← e1, hd] at t1
  have t0 : C1.take (m * 4) = nds (l.take m) := by
    have := congrArg (List.take (m * 4)) t1
    rw [List.take_take, Nat.min_eq_left (by omega), List.take_append_of_le_length (by rw [List.length_take]; omega), List.take_take, Nat.min_eq_left (by omega), h] at this
    exact this
  have t3 : (C1.drop (m * 4 + 4)).take ((l.length - m) * 4) = nds (l.drop m) := by
    have := congrArg (List.drop ((m + 1) * 4)) t1
    rw [List.drop_take, List.drop_left' (by rw [List.length_take]; omega)] at this
    rw [show (m + 1) * 4 + (l.length - m) * 4 - (m + 1) * 4 = (l.length - m) * 4 by omega, show (m + 1) * 4 = m * 4 + 4 by omega] at this
    exact this
  rw [e2, t0, nds_ins, hx]
  have hl0 : (nds (l.take m)).length = m * 4 := by rw [nds_length, List.length_take]; omega
  rw [show (l.length + 1) * 4 = (nds (l.take m)).length + (ndc x).length + (l.length - m) * 4 by rw [hl0, hx]; omega, take3, t3]

/-- What is inserted. -/
def insAt (l : List Nd) (x : Nd) (m : Nat) : List Nd := l.take m ++ x :: l.drop m

set_option maxRecDepth 100000 in
set_option maxHeartbeats 4000000 in
/-- slices.Insert at the end. -/
theorem insEnd_any (l : List Nd) (x : Nd) (base gv : Nat) (u : Value) (W : World) (hB : base ≤ W.heap.size) (ho : OwnNd 53 W base u l) (hl : l.length ≤ 100000) (hv : Blk W gv (ndc x) 53) :
    Calls Tryd.prog 44 #[u, .int .i64 (l.length : Int), .slice (some ⟨gv, 0, none⟩) 1 1] W (EditsTo base (insAt l x l.length) W) := by
  obtain ⟨i1, hJ, hy0, hy1, hy2⟩ := info_partsPN
  obtain ⟨A, cp, rfl, hc, hm⟩ := ho.rd.shape
  unfold maxLen at hm
  have HO := Lib.hid ho
  have HL := Lib.hid hl
  have HV := Lib.hid hv
  have hR := RdNd.ofBlk hv
  have HR := Lib.hid hR
  have HE : Hid (insAt l x l.length = l ++ [x]) := by
    show _ = _
    unfold insAt
    rw [List.take_length, List.drop_length]
  obtain ⟨n, hn⟩ : ∃ n, l.length = n := ⟨_, rfl⟩
  have HN := Lib.hid hn
  obtain ⟨L, hL⟩ : ∃ L, insAt l x l.length = L := ⟨_, rfl⟩
  rw [hL] at HE ⊢
  rw [hn] at HO HL hc ⊢
  clear ho hl hv hR hn hL
  go_enter Tryd.func44, Tryd.ntmps44
  go_wp2_with (at_builtin; refine wpList_appNd rfl _ _ 22 rfl 53 i1 Tryd.underlying22 hJ hy0 hy1 hy2 base _ _ _ l [x] rfl HO.out rfl HR.out (by have := HL.out; have := HN.out; simp; omega) hB ?_)
  all_goals
    intro v' w' h1 h2 h3
    have H1 := Lib.hid h1
    have H2 := Lib.hid h2
    clear h1 h2 h3
    go_wp2
    go_ret
    rw [HE.out]
    exact ⟨_, rfl, H1.out, H2.out⟩
end Go.Proofs.YtlpakfaoaodaiaaDoor
