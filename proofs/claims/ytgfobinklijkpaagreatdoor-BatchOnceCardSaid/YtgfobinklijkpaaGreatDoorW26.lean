/-
  Texts G9 GA GB GC.
-/
import Derived.Test.YtgfobinklijkpaaGreatDoorW01
import Derived.Deep.RegionLaw
import Derived.Lib.Overlaps
import Derived.Lib.AppendZerosOnto
import Derived.Test.YtgfobinklijkpaaGreatDoorW06
import Derived.Test.YtgfobinklijkpaaGreatDoorW25
namespace Go.Proofs.YtgfobinklijkpaaGreatDoor
set_option maxRecDepth 100000
set_option maxHeartbeats 16000000
open Go.RowKit
theorem run_clear_nd {P : Program} (w : World) (t e ty : TypeId) (i : TypeInfo) (ht : P.underlying t = some (.slice e)) (hi : P.info? e = some i) (hz : i.zero = some ndz) (g o c : Nat)
 (hc : ∀ j, j < 4 → (w.cell? ⟨g, o + j, none⟩).isSome = true ∧ w.frozen? ⟨g, o + j, none⟩ = false) :
 (Builtin.clear_ #[t] ty #[.slice (some ⟨g, o, none⟩) 1 c]).run P w = .ok (.tuple #[]) (w.setCells g o (ndc nd0)) := by
 have hzv : (zeroValue e).run P w = .ok ndz w := by simp [zeroValue, typeInfo, hi, hz]
 have hzc : (Builtin.zeroCells ndz.cells 1).toList = ndc nd0 := by kernel_rfl
 have hst := run_storeCells_cells (P := P) g o (ndc nd0) 0 w (fun j hj => (hc j hj).1) (fun j hj => (hc j hj).2) (fun v hv => nds_cell [nd0] v (by rw [nds_one]; exact hv))
 simp only [Nat.add_zero] at hst
 simp [Builtin.clear_, run_underlying ht, hzv, hzc, hst]
theorem wpList_clear_run {P : Program} {w : World} {ops : Array Oper} {rest : List Oper} {o : Oper} {a : Act} {Q : Exit → Act → World → Prop} (hgd : o.guard = none) (s : Operand) (t : TypeId)
 (ho : o.op = .call { callee := .builtin .clear, args := #[s], argTypes := #[t] }) (v : Value) (hs : a.eval s = v) {v' : Value} {w' : World} (hr : (Builtin.clear_ #[t] o.type #[v]).run P w = .ok v' w')
 (h : wpList P ops Q rest (a.put o.dst v') w') : wpList P ops Q (o :: rest) a w := by
 refine wpList_plain hgd fun K hK => ?_
 unfold Oper.wp execOp
 simp only [ho, resolve, invoke, builtin, Sem.run_bind, Sem.run_pure, Result.andThen_ok, List.map_toArray, List.map_cons, List.map_nil, hs, hr]
 exact hK _ _ h
theorem erase_nds (l : List Nd) (i : Nat) : nds (l.eraseIdx i) = nds (l.take i) ++ nds (l.drop (i + 1)) := by
 rw [List.eraseIdx_eq_take_drop_succ, nds_append]
theorem written_take (C z : List Value) (k : Nat) (hk : k ≤ C.length) : (C.take k ++ (z ++ C.drop (k + z.length))).take k = C.take k := by
 rw [List.take_left']
 rw [List.length_take]
 omega
theorem written_len (C z : List Value) (k : Nat) (hk : k + z.length ≤ C.length) : (C.take k ++ (z ++ C.drop (k + z.length))).length = C.length := by
 simp only [List.length_append, List.length_take, List.length_drop]
 omega
theorem written_more (C z : List Value) (k : Nat) (hk : k + z.length ≤ C.length) : (C.take k ++ (z ++ C.drop (k + z.length))).take (k + z.length) = C.take k ++ z := by
 rw [← List.append_assoc, List.take_left']
 rw [List.length_append, List.length_take]
 omega
theorem erased_own {e : TypeId} {W : World} {base g cap : Nat} {l : List Nd} {i m : Nat} (hm : l.length = i + 1 + m) (h : OwnNd e W base (.slice (some ⟨g, 0, none⟩) (i + 1 + m) cap) l) :
 (∀ j u, (nds (l.drop (i + 1)))[j]? = some u → W.cell? ⟨g, (i + 1) * 4 + j, none⟩ = some u) ∧ (∀ j, j < 4 * (i + 1 + m) → (W.cell? ⟨g, j, none⟩).isSome = true ∧ W.frozen? ⟨g, j, none⟩ = false) ∧
 OwnNd e ((W.setCells g (i * 4) (nds (l.drop (i + 1)))).setCells g ((i + m) * 4) (ndc nd0)) base (.slice (some ⟨g, 0, none⟩) (i + m) cap) (l.eraseIdx i) ∧
 Below base W ((W.setCells g (i * 4) (nds (l.drop (i + 1)))).setCells g ((i + m) * 4) (ndc nd0)) ∧
 (∀ j, j < 4 → ((W.setCells g (i * 4) (nds (l.drop (i + 1)))).cell? ⟨g, (i + m) * 4 + j, none⟩).isSome = true ∧ (W.setCells g (i * 4) (nds (l.drop (i + 1)))).frozen? ⟨g, (i + m) * 4 + j, none⟩ = false) := by
 obtain ⟨cur, hb, h2, h4, h5, h6, h7, hn⟩ := h.block
 have hcl : cur.toList.length = cap * 4 := by rw [Array.length_toList, h6]
 have hnl : (nds (l.drop (i + 1))).length = m * 4 := by rw [nds_length, List.length_drop, hm]; omega
 have hc1 : ∀ j, j < 4 * (i + 1 + m) → W.cell? ⟨g, j, none⟩ = (nds l)[j]? := by
  intro j hj
  rw [hb.cell j, ← h7, List.getElem?_take, if_pos (by omega)]
 refine ⟨?_, ?_, ?_, below_setCells h2 _ _ _ (below_setCells h2 _ _ _ (Below.refl _ _)), ?_⟩
 ·intro j u hu
  have hj : j < m * 4 := by have := (List.getElem?_eq_some_iff.1 hu).1; rwa [hnl] at this
  rw [hc1 _ (by omega), ← hu]
  have := (nds_cut l i (by omega)).2
  rw [show i * 4 + 4 = (i + 1) * 4 by omega] at this
  rw [← this, List.getElem?_drop]
 ·intro j hj
  rw [hc1 j hj, List.getElem?_eq_getElem (by rw [nds_length]; omega)]
  exact ⟨rfl, hb.frozen j⟩
 ·have b1 := hb.setCells (nds (l.drop (i + 1))) (i * 4) (by rw [hnl, hcl]; omega)
  have hx : (ndc nd0).length = 4 := rfl
  have hel : (l.eraseIdx i).length = i + m := by rw [List.length_eraseIdx, if_pos (by omega)]; omega
  have t1 := written_more cur.toList (nds (l.drop (i + 1))) (i * 4) (by rw [hnl, hcl]; omega)
  have t2 := written_len cur.toList (nds (l.drop (i + 1))) (i * 4) (by rw [hnl, hcl]; omega)
  rw [hnl, show i * 4 + m * 4 = (i + m) * 4 by omega] at t1
  have t3 : cur.toList.take (i * 4) ++ nds (l.drop (i + 1)) = nds (l.eraseIdx i) := by
   rw [erase_nds l i]
   congr 1
   rw [← (nds_cut l i (by omega)).1, ← h7, List.take_take, Nat.min_eq_left (by omega)]
  rw [t3] at t1
  rw [hnl] at t2 b1
  rw [show i * 4 + m * 4 = (i + m) * 4 by omega] at t2 b1
  obtain ⟨C1, hC1⟩ : ∃ C, cur.toList.take (i * 4) ++ (nds (l.drop (i + 1)) ++ cur.toList.drop ((i + m) * 4)) = C := ⟨_, rfl⟩
  rw [hC1] at t1 t2 b1
  rw [hcl] at t2
  have b2 := b1.setCells (ndc nd0) ((i + m) * 4) (by rw [hx, t2]; omega)
  have t4 := (written_take C1 (ndc nd0) ((i + m) * 4) (by rw [t2]; omega)).trans t1
  have t5 := written_len C1 (ndc nd0) ((i + m) * 4) (by rw [hx, t2]; omega)
  rw [t2] at t5
  obtain ⟨C2, hC2⟩ : ∃ C, C1.take ((i + m) * 4) ++ (ndc nd0 ++ C1.drop ((i + m) * 4 + (ndc nd0).length)) = C := ⟨_, rfl⟩
  rw [hC2] at t4 t5 b2
  have := OwnNd.of (e := e) (base := base) (cap := cap) (l := l.eraseIdx i) C2 b2 h2 (by rw [hel]; omega) h5 t5 (by rw [hel]; exact t4)
  rw [hel] at this
  exact this
 ·intro j hj
  have b1 := hb.setCells (nds (l.drop (i + 1))) (i * 4) (by rw [hnl, hcl]; omega)
  have t2 := written_len cur.toList (nds (l.drop (i + 1))) (i * 4) (by rw [hnl, hcl]; omega)
  rw [hcl] at t2
  obtain ⟨C1, hC1⟩ : ∃ C, cur.toList.take (i * 4) ++ (nds (l.drop (i + 1)) ++ cur.toList.drop (i * 4 + (nds (l.drop (i + 1))).length)) = C := ⟨_, rfl⟩
  rw [hC1] at b1 t2
  rw [b1.cell, List.getElem?_eq_getElem (by rw [t2]; omega)]
  exact ⟨rfl, b1.frozen _⟩
theorem delNd_any (l : List Nd) (i base : Nat) (u : Value) (W : World) (ho : OwnNd 157 W base u l) (hi : i < l.length) :
 Calls Tryz.prog 218 #[u, .int .i64 (i : Int), .int .i64 ((i : Int) + 1)] W (EditsTo base (l.eraseIdx i) W) := by
 obtain ⟨i1, hJ, hy0, hy1, hy2⟩ := info_partsPN
 obtain ⟨g, cap, rfl, hcap, hbg, hgW⟩ := ho.inBlock (by omega)
 obtain ⟨m, hm⟩ : ∃ m, l.length = i + 1 + m := ⟨l.length - (i + 1), by omega⟩
 have hcm : cap ≤ maxLen := by
  obtain ⟨_, _, _, _, h5, _⟩ := ho.block
  exact h5
 unfold maxLen at hcm
 rw [hm] at hcap ho ⊢
 obtain ⟨q1, q2, q3, q4, q5⟩ := erased_own (W := W.drew) hm ho
 have hnl : (nds (l.drop (i + 1))).length = m * 4 := by rw [nds_length, List.length_drop, hm]; omega
 obtain ⟨news, hnews⟩ : ∃ news, nds (l.drop (i + 1)) = news := ⟨_, rfl⟩
 have h1c : ∀ v ∈ news, v.oneCell' = true := by rw [← hnews]; exact nds_cell _
 rw [hnews] at q1 q3 q4 q5 hnl
 have Q1 := lhd q1
 have Q2 := lhd q2
 have Q3 := lhd q3
 have Q4 := lhd q4
 have Q5 := lhd q5
 have HC := lhd h1c
 have HNL := lhd hnl
 clear q1 q2 q3 q4 q5 h1c hnl hnews ho hm hi
 have w1 : IntKind.i64.wrap ((i : Int) + 1) = (i : Int) + 1 := by rw [IntKind.wrap_i64]; omega
 have z1 : ¬ ((i : Int) = (i : Int) + 1) := by omega
 go_enter Tryz.func218, Tryz.ntmps218
 go_wp2
 by_cases hci : cap = i + 1
 ·subst hci
  have HM0 : Hid (m = 0) := by
   show _ = _
   omega
  have q3 := Q3.out
  have q4 := Q4.out
  have q5 := Q5.out
  rw [HM0.out, Nat.add_zero] at q3 q4 q5
  have Q3b := lhd q3
  have Q4b := lhd q4
  have Q5b := lhd q5
  clear q3 q4 q5
  have hj9 : i + 1 + m - i = 1 := by have := HM0.out; omega
  have hi0 : (i : Int) ≤ (i : Int) + 1 := by omega
  have hic : ¬ ((i + 1) = i) := by omega
  have hi1 : i ≤ (i + 1) := by omega
  have hi2 : i + 1 ≤ i + 1 + m := by omega
  have hi3 : i + 1 ≤ (i + 1) := by omega
  have hi4 : (i : Int) + 1 ≤ (i : Int) + 1 + (m : Int) := by omega
  have hi5 : (0 : Int) ≤ (i : Int) + 1 := by omega
  have hi6 : ((i : Int) + 1).toNat = i + 1 := by omega
  go_region_law (refine step_append_room rfl (.tmp 22) (.tmp 25) 39 rfl 157 i1 4 Tryz.underlying39 hJ hy1 g 0 i (i + 1) (by simp [Act.eval, Act.put]) ⟨g, 0, none⟩ 0 0 news (by simp [Act.eval, Act.put]) (by rw [HNL.out, HM0.out]) (fun j u hj => by have h := (List.getElem?_eq_some_iff.1 hj).1; rw [HNL.out, HM0.out] at h; omega) HC.out (by omega) (fun j hj => by rw [HNL.out] at hj; rw [Nat.zero_add]; exact Q2.out _ (by omega)) ?_)
  have hj1 : (i : Int) + (m : Int) ≤ (i : Int) + 1 + (m : Int) := by omega
  have hj2 : ¬ ((i + 1) = i + m) := by omega
  have hj3 : (0 : Int) ≤ (i : Int) + (m : Int) := by omega
  have hj4 : ((i : Int) + (m : Int)).toNat = i + m := by omega
  have hj5 : ((i : Int) + 1 + (m : Int)).toNat = i + 1 + m := by omega
  have hj6 : i + 1 + m - (i + m) = 1 := by omega
  have hj7 : i + m ≤ (i + 1) := by omega
  have hj8 : i + 1 + m ≤ (i + 1) := by omega
  go_wp2_with (refine wpList_clear_run rfl _ 39 rfl _ rfl (run_clear_nd _ 39 157 _ i1 Tryz.underlying39 hJ hy0 g (i * 4) _ Q5b.out) ?_)
  go_wp2
  go_ret
  exact ⟨_, rfl, Q3b.out, ((Below.refl _ _).drew).trans Q4b.out⟩
 ·skip
  have hic : ¬ (cap = i) := by omega
  have hi1 : i ≤ cap := by omega
  have hi2 : i + 1 ≤ i + 1 + m := by omega
  have hi3 : i + 1 ≤ cap := by omega
  have hi4 : (i : Int) + 1 ≤ (i : Int) + 1 + (m : Int) := by omega
  have hi5 : (0 : Int) ≤ (i : Int) + 1 := by omega
  have hi6 : ((i : Int) + 1).toNat = i + 1 := by omega
  go_region_law (refine step_append_room rfl (.tmp 22) (.tmp 25) 39 rfl 157 i1 4 Tryz.underlying39 hJ hy1 g 0 i cap (by simp [Act.eval, Act.put]) ⟨g, (i + 1) * 4, none⟩ m (cap - (i + 1)) news (by simp [Act.eval, Act.put]) HNL.out (fun j u hj => by rw [Addr.add_lit]; exact Q1.out j u hj) HC.out (by omega) (fun j hj => by rw [HNL.out] at hj; rw [Nat.zero_add]; exact Q2.out _ (by omega)) ?_)
  have hj1 : (i : Int) + (m : Int) ≤ (i : Int) + 1 + (m : Int) := by omega
  have hj2 : ¬ (cap = i + m) := by omega
  have hj3 : (0 : Int) ≤ (i : Int) + (m : Int) := by omega
  have hj4 : ((i : Int) + (m : Int)).toNat = i + m := by omega
  have hj5 : ((i : Int) + 1 + (m : Int)).toNat = i + 1 + m := by omega
  have hj6 : i + 1 + m - (i + m) = 1 := by omega
  have hj7 : i + m ≤ cap := by omega
  have hj8 : i + 1 + m ≤ cap := by omega
  go_wp2_with (refine wpList_clear_run rfl _ 39 rfl _ rfl (run_clear_nd _ 39 157 _ i1 Tryz.underlying39 hJ hy0 g ((i + m) * 4) _ Q5.out) ?_)
  go_wp2
  go_ret
  exact ⟨_, rfl, Q3.out, ((Below.refl _ _).drew).trans Q4.out⟩
theorem delEd_any (l : List Nd) (p : List UInt8) (i base : Nat) (u : Value) (gp : Nat) (W : World) (hB : base ≤ W.heap.size) (ho : OwnNd 157 W base u l) (hl : l.length ≤ 100000) (hA : atI l p = (i : Int)) (hi : i < l.length)
 (c1 : W.cell? ⟨gp, 0, none⟩ = some (txt p)) :
 Calls Tryz.prog 217 #[u, .pointer (some ⟨gp, 0, none⟩)] W (EditsTo base (l.eraseIdx i) W) := by
 have HO := lhd ho
 have HAI := lhd hA
 have HI := lhd hi
 have w1 : IntKind.i64.wrap ((i : Int) + 1) = (i : Int) + 1 := by rw [IntKind.wrap_i64]; omega
 clear ho hA hi
 go_enter Tryz.func217, Tryz.ntmps217
 go_wp2_with fail
 refine (shIndex_any l p _ W HO.out.rd).mono ?_
 rintro e W1 ⟨rfl, hb⟩
 rw [HAI.out]
 have HO1 := lhd (HO.out.below hb (Nat.le_refl _))
 have HB := lhd (hb.mono hB)
 clear hb c1 HO
 go_wp2_with fail
 refine (delNd_any l i base u W1 HO1.out HI.out).mono ?_
 rintro e W2 ⟨u2, rfl, ho, hb⟩
 have HO2 := lhd ho
 have HB2 := lhd (HB.out.trans hb)
 clear ho hb
 go_wp2
 go_ret
 exact ⟨_, rfl, HO2.out, HB2.out⟩
theorem del_place (l : List Nd) (p : List UInt8) (z : Int) (h : delE l p z = 0) : atI l p = (placeN l p : Int) ∧ placeN l p < l.length := by
 have h0 : getE l p = 0 := by
  unfold delE at h
  by_cases h0 : getE l p = 0
  ·exact h0
  ·rw [if_pos h0] at h
   exact h
 have hH : hasN l p = true := by
  unfold getE at h0
  cases hH : hasN l p
  ·rw [hH] at h0
   split at h0 <;> simp at h0
  ·rfl
 have hlt : placeN l p < l.length := by
  unfold hasN at hH
  simpa using hH
 refine ⟨?_, hlt⟩
 unfold atI
 rw [hH]
 rfl
theorem shDel_own (l : List Nd) (p : List UInt8) (z : Int) (v : Value) (w : World) (hr : RdNd w.heap.size w v l) (hl : l.length ≤ 100000) : Calls Tryz.prog 180 #[.agg #[v], txt p, .int .i64 z] w (ShelvesE 157 v (delS l p z) (delE l p z) w) := by
 have hmf : ∀ (fn : Fn) (first cap : Array Value) (w : World), (Instr.makeFunc fn first cap).run Tryz.prog w = .ok (.func fn first cap) w := fun _ _ _ _ => rfl
 obtain ⟨d30, hu30, hd30⟩ := rowPS
 have HU := lhd hu30
 have HD := lhd hd30
 have HR := lhd hr
 have HL := lhd hl
 clear hr hl hu30 hd30
 go_enter Tryz.func180, Tryz.ntmps180
 go_wp2_with (refine wpList_box_blk rfl 41 _ rfl [v] rfl ?_)
 intro w1 b0 s0 l0
 go_wp2_with (refine wpList_box_one rfl 9 _ rfl (txt p) rfl rfl ?_)
 intro w2 b1 s1 l1
 go_wp2_with (refine wpList_box_one rfl 3 _ rfl (.int .i64 z) rfl rfl ?_)
 intro w3 b2 s2 l2
 go_wp2_with (refine wpList_alloc_blk rfl 41 rfl [.slice none 0 0] zPS ?_)
 intro W b3 s3 l3
 obtain ⟨g0, hg0⟩ : ∃ g, w.heap.size = g := ⟨_, rfl⟩
 obtain ⟨g1, hg1⟩ : ∃ g, w.heap.size + 1 = g := ⟨_, rfl⟩
 obtain ⟨g2, hg2⟩ : ∃ g, w.heap.size + 1 + 1 = g := ⟨_, rfl⟩
 obtain ⟨g3, hg3⟩ : ∃ g, w.heap.size + 1 + 1 + 1 = g := ⟨_, rfl⟩
 have z1 : w1.heap.size = w.heap.size + 1 := by omega
 have z2 : w2.heap.size = w.heap.size + 2 := by omega
 have z3 : w3.heap.size = w.heap.size + 3 := by omega
 have zW : W.heap.size = w.heap.size + 4 := by omega
 have x0 := (((b0.below l1 (by omega)).below l2 (by omega)).below l3 (by omega))
 have x1 := ((b1.below l2 (by omega)).below l3 (by omega))
 have x2 := (b2.below l3 (by omega))
 have x3 := b3
 have hB : Below w.heap.size w W := (((l0.trans (l1.mono (by omega))).trans (l2.mono (by omega))).trans (l3.mono (by omega)))
 rw [hg3] at x3 ⊢
 rw [hg2] at x2 ⊢
 rw [hg1] at x1 ⊢
 rw [hg0] at x0 ⊢
 have X0 := lhd x0
 have X1 := lhd x1
 have X2 := lhd x2
 have X3 := lhd x3
 have HB := lhd hB
 have hgW : g3 < W.heap.size := by omega
 have hW0 : g0 < W.heap.size := by omega
 have hW1 : g1 < W.heap.size := by omega
 have hW2 : g2 < W.heap.size := by omega
 have hwg : w.heap.size ≤ g3 := by omega
 clear b0 s0 l0 x0 b1 s1 l1 x1 b2 s2 l2 x2 b3 s3 l3 x3 hB zW z1 z2 z3 hg0 hg1 hg2 hg3
 have C0 := lhd (X0.out.cell 0)
 have C1 := lhd (X1.out.cell 0)
 have C2 := lhd (X2.out.cell 0)
 have HRW : Hid (RdNd W.heap.size W v l) := (HR.out.below HB.out).more HB.out.size
 have ca := C0.out
 go_wp2_with fail
 refine (shChange_any l (l.eraseIdx (placeN l p)) (delS l p z) v 214 217 #[.pointer (some ⟨g0, 0, none⟩), .pointer (some ⟨g1, 0, none⟩), .pointer (some ⟨g2, 0, none⟩)] #[.pointer (some ⟨g1, 0, none⟩)] (delE l p z) W HRW.out HL.out (fun args w => enters_of Tryz.func214 (by kernel_rfl) rfl args w) (fun args w => enters_of Tryz.func217 (by kernel_rfl) rfl args w) ?h1 ?h2 ?q1 ?q2).mono ?_
 case h1 =>
  intro W1 hW
  have h := delFn_any l p z v g0 g1 g2 W1 ((HRW.out.below hW).more hW.size) (Nat.lt_of_lt_of_le hW0 hW.size) (Nat.lt_of_lt_of_le hW1 hW.size) (Nat.lt_of_lt_of_le hW2 hW.size)
   ((hW.cell hW0).trans C0.out) ((hW.cell hW1).trans C1.out) ((hW.cell hW2).trans C2.out)
  rw [delF_eq l p z] at h
  exact h
 case h2 =>
  intro hF base u W1 hb1 hb2 hW ho
  obtain ⟨hA, hi⟩ := del_place l p z hF
  exact delEd_any l p (placeN l p) base u g1 W1 hb2 ho HL.out hA hi ((hW.cell hW1).trans C1.out)
 case q1 => exact fun h => by rw [(del_ok l p z h).2, List.eraseIdx_eq_take_drop_succ]
 case q2 => exact fun h => (del_err l p z _ rfl h).2
 rintro e w6 ⟨u, rfl, ho, hb⟩
 have HO := lhd ho
 have HB6 := lhd (HB.out.trans (hb.mono HB.out.size))
 have X6 := lhd (X3.out.below hb hgW)
 obtain ⟨A, c, rfl, -, -⟩ := ho.rd.shape
 obtain ⟨F, hF⟩ : ∃ F, (delE l p z) = F := ⟨_, rfl⟩
 have HF := lhd hF
 obtain ⟨l9, hl9⟩ : ∃ q, (delS l p z) = q := ⟨_, rfl⟩
 have HL9 := lhd hl9
 obtain ⟨n9, hn9⟩ : ∃ q, l9.length = q := ⟨_, rfl⟩
 rw [hl9, hn9] at HO
 rw [hl9, hn9, hF]
 clear ho hb ca hF hl9 hn9
 go_wp2_with (refine wpList_store_to rfl 41 _ _ rfl g3 [.slice A n9 c] [.slice none 0 0] 41 rfl rfl X6.out sPS rfl (slice_one _ _ _) ?_)
 intro w9 e1 e2 e3 e4
 go_wp2
 refine bodyPost_ret (v := .tuple #[.agg [Value.slice A n9 c].toArray, .int .i64 (F : Int)]) ?_ rfl ?_
 ·exact ret_blk2U rfl _ _ g3 41 [.slice A n9 c] _ rfl rfl e1 d30 HU.out HD.out sPS
 ·rw [HF.out, HL9.out]
  have hq := ownsRow_same HO.out (fun k hk => e4 k (by omega))
  exact ⟨_, rfl, OwnNd.rd hq, .inr (OwnNd.base hq (by first | exact Nat.le_refl _ | assumption | omega)), HB6.out.trans (e3.mono hwg)⟩
theorem search_any (n m f : Nat) (lb : Array Value) (q : Nat → Bool) (w : World) (hn : n ≤ 100000) (hm : m ≤ n) (ef : ∀ args w, (callFunc f args).run Tryz.prog w = .ok (.enter f args) w)
 (hq : ∀ i, i < n → q i = decide (m ≤ i)) (hp : ∀ i W, i < n → Below w.heap.size w W → Calls Tryz.prog f (#[.int .i64 (i : Int)] ++ lb) W (One (.bool (q i)) W)) :
 Calls Tryz.prog 235 #[.int .i64 (n : Int), .func (.func f) #[] lb] w (One (.int .i64 (m : Int)) w) := by
 have HQ := lhd hq
 have HP := lhd hp
 clear hq hp
 go_enter Tryz.func235, Tryz.ntmps235
 go_wp2
 go_loopw [5, 6] (fun x y wr => ∃ lo hi : Nat, x = .int .i64 (lo : Int) ∧ y = .int .i64 (hi : Int) ∧ lo ≤ m ∧ m ≤ hi ∧ hi ≤ n ∧ Hid (Below w.heap.size w wr)) (fun x y _ => (intOf y).toNat - (intOf x).toNat)
 case atStart => exact ⟨0, n, rfl, rfl, by omega, hm, Nat.le_refl _, Below.refl _ _⟩
 case round =>
  obtain ⟨lo, hi, rfl, rfl, h1, h2, h3, HW⟩ := hrel
  by_cases hlt : lo < hi
  ·have hltz : (lo : Int) < (hi : Int) := by omega
   have hc := HP.out ((lo + hi) / 2) wr (by omega) HW.out
   rw [HQ.out _ (by omega)] at hc
   rw [show (((lo + hi) / 2 : Nat) : Int) = ((lo : Int) + (hi : Int)) / 2 by omega] at hc
   by_cases hk : m ≤ (lo + hi) / 2
   ·rw [decide_eq_true hk] at hc
    have HC := lhd hc
    clear hc
    go_wp2_with (refine HC.out.mono ?_; rintro e w2 ⟨rfl, hb⟩)
    go_roundw
    case rel => exact ⟨lo, (lo + hi) / 2, rfl, by rw [show (((lo + hi) / 2 : Nat) : Int) = ((lo : Int) + (hi : Int)) / 2 by omega], h1, hk, by omega, HW.out.trans (hb.mono HW.out.size)⟩
    case measure => simp [intOf]; omega
   ·rw [decide_eq_false hk] at hc
    have HC := lhd hc
    clear hc
    go_wp2_with (refine HC.out.mono ?_; rintro e w2 ⟨rfl, hb⟩)
    go_roundw
    case rel => exact ⟨(lo + hi) / 2 + 1, hi, by rw [show (((lo + hi) / 2 + 1 : Nat) : Int) = ((lo : Int) + (hi : Int)) / 2 + 1 by omega], rfl, by omega, h2, h3, HW.out.trans (hb.mono HW.out.size)⟩
    case measure => simp [intOf]; omega
  ·have hE : lo = m := by omega
   have hE2 : hi = m := by omega
   subst hE
   subst hE2
   go_wp2
   go_ret
   exact ⟨rfl, HW.out⟩
def posN (l : List Nd) (p : List UInt8) : Nat := l.findIdx fun x => aheadB p (nP x)
theorem posN_le (l : List Nd) (p : List UInt8) : posN l p ≤ l.length := List.findIdx_le_length
theorem posN_at (l : List Nd) (p : List UInt8) (h : inOrder l) (i : Nat) (hi : i < l.length) : aheadB p (nP (l.getD i nd0)) = decide (posN l p ≤ i) := by
 have e : ∀ j (hj : j < l.length), l.getD j nd0 = l[j] := fun j hj => by rw [List.getD_eq_getElem?_getD, List.getElem?_eq_getElem hj]; rfl
 by_cases hk : posN l p ≤ i
 ·rw [decide_eq_true hk]
  have hlt : posN l p < l.length := by omega
  have h0 : aheadB p (nP (l.getD (posN l p) nd0)) = true := by
   rw [e _ hlt]
   exact List.findIdx_getElem (w := hlt)
  by_cases heq : posN l p = i
  ·rw [← heq]; exact h0
  ·exact ahead_tr _ _ _ h0 (inOrder_at l h (posN l p) i (by omega) hi)
 ·rw [decide_eq_false hk, e i hi]
  have := List.not_of_lt_findIdx (p := fun x : Nd => aheadB p (nP x)) (xs := l) (i := i) (by unfold posN at hk; omega)
  simpa using this
theorem insN_pos (n : Nd) : ∀ l : List Nd, insN n l = l.take (posN l (nP n)) ++ n :: l.drop (posN l (nP n))
 | [] => rfl
 | x :: r => by
   unfold insN posN
   rw [List.findIdx_cons]
   cases h : aheadB (nP n) (nP x)
   ·rw [if_neg (by simp)]
    have := insN_pos n r
    unfold posN at this
    simp only [cond_false, List.take_succ_cons, List.drop_succ_cons, List.cons_append]
    rw [← this]
   ·simp
theorem aheadPx (p q : List UInt8) (b : Bool) (h : aheadB p q = b) (w : World) : Calls Tryz.prog 237 #[txt p, txt q] w (One (.bool b) w) := by
 rw [← h]
 exact pxAhead_any p q w
theorem plFn_any (l : List Nd) (p : List UInt8) (v : Value) (i gp gl : Nat) (W : World) (hr : RdNd W.heap.size W v l) (hi : i < l.length) (h1 : gp < W.heap.size) (h2 : gl < W.heap.size)
 (c1 : W.cell? ⟨gp, 0, none⟩ = some (txt p)) (c2 : W.cell? ⟨gl, 0, none⟩ = some v) :
 Calls Tryz.prog 236 #[.int .i64 (i : Int), .pointer (some ⟨gp, 0, none⟩), .pointer (some ⟨gl, 0, none⟩)] W (One (.bool (aheadB p (nP (l.getD i nd0)))) W) := by
 obtain ⟨A, cp, rfl, hc, hm⟩ := hr.shape
 unfold maxLen at hm
 obtain ⟨n, hn⟩ : ∃ n, l.length = n := ⟨_, rfl⟩
 have HN := lhd hn
 have HR := lhd hr
 rw [hn] at hc HR hi c2
 have zi : (i : Int) < (n : Int) := by omega
 obtain ⟨a, hA, -⟩ := hr.at_ i (by omega)
 subst hA
 have C1 := lhd c1
 have C2 := lhd c2
 obtain ⟨y, hx⟩ : ∃ y, nP (l.getD i nd0) = y := ⟨_, rfl⟩
 have HX := lhd hx
 rw [hx]
 clear hr hn c1 c2 hx
 go_enter Tryz.func236, Tryz.ntmps236
 go_wp2
 obtain ⟨B, hB⟩ : ∃ B, aheadB p y = B := ⟨_, rfl⟩
 have HBB := lhd hB
 clear hB
 refine wp_region_rely2 8 0 (fun x => ⟨#[.int IntKind.i64 ↑i, .pointer (some { block := gp, off := 0 }), .pointer (some { block := gl, off := 0 }), undef, x 7, x 0, x 1, x 2, x 3, x 4, x 5, x 6], []⟩) (fun jj => ([eqV (txt p), eqV (.slice (some a) n cp), eqV (.int IntKind.i64 ↑i), eqV (.pointer (some (a.add (i * 4)))), eqV (.pointer (some (a.add (i * 4)))), eqV (txt y), (eqV (.bool B)), eqV (.bool B)] : List (Value → World → Prop)).getD jj (fun _ _ => True)) rfl ⟨fun kk => [_, _, _, _, _, _, _, _].getD kk undef, rfl⟩ (by kernel_rfl) (by kernel_rfl) ?steps ?fin
 case steps =>
  refine StepsAt.val 0 (txt p) rfl (fun _ _ => rfl) rfl rfl (fun x wx hb hd => ?_) ?_
  ·have cc := (hb.cell h1).trans C1.out
   (go_simp; try rfl)
  refine StepsAt.val 1 (.slice (some a) n cp) rfl (fun _ _ => rfl) rfl rfl (fun x wx hb hd => ?_) ?_
  ·have cc := (hb.cell h2).trans C2.out
   (go_simp; try rfl)
  refine StepsAt.val 2 (.int IntKind.i64 ↑i) rfl (fun _ _ => rfl) rfl rfl (fun x wx hb hd => ?_) ?_
  ·(go_simp; try rfl)
  refine StepsAt.val 3 (.pointer (some (a.add (i * 4)))) rfl (fun _ _ => rfl) rfl rfl (fun x wx hb hd => ?_) ?_
  ·have h1 : x 1 = .slice (some a) n cp := hd 1 (by kernel_rfl)
   have h2 : x 2 = .int IntKind.i64 ↑i := hd 2 (by kernel_rfl)
   rw [h1, h2]
   (go_simp; try rfl)
  refine StepsAt.val 4 (.pointer (some (a.add (i * 4)))) rfl (fun _ _ => rfl) rfl rfl (fun x wx hb hd => ?_) ?_
  ·have h3 : x 3 = .pointer (some (a.add (i * 4))) := hd 3 (by kernel_rfl)
   rw [h3]
   (go_simp; try rfl)
  refine StepsAt.val 5 (txt y) rfl (fun _ _ => rfl) rfl rfl (fun x wx hb hd => ?_) ?_
  ·have h4 : x 4 = .pointer (some (a.add (i * 4))) := hd 4 (by kernel_rfl)
   obtain ⟨a9, hA9, cc, -⟩ := (HR.out.below hb).at_ i (by rw [HN.out]; exact hi)
   obtain rfl : a = a9 := Option.some.inj hA9
   rw [HX.out] at cc
   rw [h4]
   (go_simp; try rfl)
  refine StepsAt.cons 6 (fun _ _ _ h hb => h) (fun _ _ => rfl) rfl rfl (fun x wx hb hd K hK => ?_) ?_
  ·have h0 : Hid (x 0 = txt p) := hd 0 (by kernel_rfl)
   have h5 : Hid (x 5 = txt y) := hd 5 (by kernel_rfl)
   go_simp
   refine calls_args (args2 := #[txt p, txt y]) (by rw [h0.out, h5.out]) ?_
   refine (aheadPx p y B HBB.out _).mono ?_
   rintro e w99 ⟨rfl, hb99⟩
   exact hK.out _ _ hb99 rfl
  refine StepsAt.val 7 (.bool B) rfl (fun _ _ => rfl) rfl rfl (fun x wx hb hd => ?_) ?_
  ·have h6 : x 6 = .bool B := hd 6 (by kernel_rfl)
   rw [h6]
   (go_simp; try rfl)
  exact StepsAt.done
 case fin =>
  intro x wx hb hd
  have hx0 : x 0 = txt p := hd 0 (by omega)
  have hx1 : x 1 = .slice (some a) n cp := hd 1 (by omega)
  have hx2 : x 2 = .int IntKind.i64 ↑i := hd 2 (by omega)
  have hx3 : x 3 = .pointer (some (a.add (i * 4))) := hd 3 (by omega)
  have hx4 : x 4 = .pointer (some (a.add (i * 4))) := hd 4 (by omega)
  have hx5 : x 5 = txt y := hd 5 (by omega)
  have hx6 : x 6 = .bool B := hd 6 (by omega)
  have hx7 : x 7 = .bool B := hd 7 (by omega)
  refine AnyTill.any (S := fun _ => True) (m := 8) _ _ _ _ ?_
  refine AnyTill.done (by kernel_rfl) ?_
  refine NoPanic.normal ?_
  try dsimp only
  rw [hx0, hx1, hx2, hx3, hx4, hx5, hx6, hx7]
  have HW := lhd hb
  clear hx0 hx1 hx2 hx3 hx4 hx5 hx6 hx7 hd hb
  go_wp2
  go_ret
  exact ⟨by rw [HBB.out]; rfl, HW.out⟩
theorem shPlace_any (l : List Nd) (p : List UInt8) (v : Value) (w : World) (hr : RdNd w.heap.size w v l) (hl : l.length ≤ 100000) (ho : inOrder l) : Calls Tryz.prog 209 #[v, txt p] w (One (.int .i64 ((posN l p : Nat) : Int)) w) := by
 have hmf : ∀ (fn : Fn) (first cap : Array Value) (w : World), (Instr.makeFunc fn first cap).run Tryz.prog w = .ok (.func fn first cap) w := fun _ _ _ _ => rfl
 obtain ⟨A, cp, rfl, hc, hm⟩ := hr.shape
 unfold maxLen at hm
 have HR := lhd hr
 have HL := lhd hl
 have HO := lhd ho
 obtain ⟨n, hn⟩ : ∃ n, l.length = n := ⟨_, rfl⟩
 have HN := lhd hn
 rw [hn] at HR HL hc ⊢
 clear hr hl ho hn
 go_enter Tryz.func209, Tryz.ntmps209
 go_wp2_with (refine wpList_box_one rfl 39 _ rfl (.slice A n cp) rfl rfl ?_)
 intro w1 b1 b2 b3
 go_wp2_with (refine wpList_box_one rfl 9 _ rfl (txt p) rfl rfl ?_)
 intro w2 a1 a2 a3
 obtain ⟨g0, hg0⟩ : ∃ g, w.heap.size = g := ⟨_, rfl⟩
 obtain ⟨g1, hg1⟩ : ∃ g, w.heap.size + 1 = g := ⟨_, rfl⟩
 have X0 := lhd (b1.below a3 (by omega))
 have X1 := lhd a1
 have HB := lhd (b3.trans (a3.mono (by omega)))
 have h02 : g0 < w2.heap.size := by omega
 have h12 : g1 < w2.heap.size := by omega
 rw [hg1] at X1 ⊢
 rw [hg0] at X0 ⊢
 have ca := X0.out.cell 0
 clear b1 b2 b3 a1 a2 a3 hg0 hg1
 go_wp2_with fail
 refine (search_any n (posN l p) 236 #[.pointer (some ⟨g1, 0, none⟩), .pointer (some ⟨g0, 0, none⟩)] (fun i => aheadB p (nP (l.getD i nd0))) w2 HL.out (by rw [← HN.out]; exact posN_le l p) (fun args w => enters_of Tryz.func236 (by kernel_rfl) rfl args w)
  (fun i hi => posN_at l p HO.out i (by rw [HN.out]; exact hi)) (fun i W hi hW => ?_)).mono ?_
 ·refine plFn_any l p _ i g1 g0 W ((HR.out.below (HB.out.trans (hW.mono HB.out.size))).more (HB.out.trans (hW.mono HB.out.size)).size) (by rw [HN.out]; exact hi) (Nat.lt_of_lt_of_le h12 hW.size) (Nat.lt_of_lt_of_le h02 hW.size) ((hW.cell h12).trans (X1.out.cell 0)) ((hW.cell h02).trans (X0.out.cell 0))
 rintro e w3 ⟨rfl, hb⟩
 have HB3 := lhd (HB.out.trans (hb.mono HB.out.size))
 clear hb ca
 go_wp2
 go_ret
 exact ⟨rfl, HB3.out⟩
theorem run_copy_nds {P : Program} (w : World) (dT sT ty elem : TypeId) (b o dLen dCap : Nat) (a : Addr) (sLen sCap : Nat) (cs : List Value)
 (hu : P.underlying dT = some (.slice elem)) (hs : (P.info? elem).map (·.size) = some 4) (hn : cs.length = Nat.min sLen dLen * 4)
 (hsrc : ∀ j v, cs[j]? = some v → w.cell? (a.add j) = some v) (hc : ∀ j, j < cs.length → (w.cell? ⟨b, o + j, none⟩).isSome = true ∧ w.frozen? ⟨b, o + j, none⟩ = false) (h1 : ∀ v ∈ cs, v.oneCell' = true) :
 (Builtin.copy_ #[dT, sT] ty #[.slice (some ⟨b, o, none⟩) dLen dCap, .slice (some a) sLen sCap]).run P w = .ok (goInt (Nat.min sLen dLen)) (w.setCells b o cs) := by
 have hl := run_loadCells_list (P := P) w a cs hsrc
 have hst := run_storeCells_cells (P := P) b o cs 0 w (fun j hj => (hc j hj).1) (fun j hj => (hc j hj).2) h1
 rw [Nat.add_zero] at hst
 cases hq : P.info? elem with
 | none => simp [hq] at hs
 | some i =>
   have hi : i.size = 4 := by simpa [hq] using hs
   rw [hn] at hl
   simp [Builtin.copy_, run_underlying hu, Builtin.lenOf, Builtin.firstCells, sizeOf, typeInfo, hq, hi, hl, hst]
theorem wpList_copy_run {P : Program} {w : World} {ops : Array Oper} {rest : List Oper} {o : Oper} {a : Act} {Q : Exit → Act → World → Prop} (hgd : o.guard = none) (d s : Operand) (t t' : TypeId)
 (ho : o.op = .call { callee := .builtin .copy, args := #[d, s], argTypes := #[t, t'] }) (v u : Value) (hd : a.eval d = v) (hs : a.eval s = u) {v' : Value} {w' : World} (hr : (Builtin.copy_ #[t, t'] o.type #[v, u]).run P w = .ok v' w')
 (h : wpList P ops Q rest (a.put o.dst v') w') : wpList P ops Q (o :: rest) a w := by
 refine wpList_plain hgd fun K hK => ?_
 unfold Oper.wp execOp
 simp only [ho, resolve, invoke, builtin, Sem.run_bind, Sem.run_pure, Result.andThen_ok, List.map_toArray, List.map_cons, List.map_nil, hd, hs, hr]
 exact hK _ _ h
theorem step_copy_run {P : Program} {ops : Array Oper} {o : Oper} {a : Act} {w : World} {K : Act → World → Prop} {Q : Exit → Act → World → Prop} {E : Prop}
 (hg : o.guard = none) (d x : Operand) (dT sT : TypeId) (hop : o.op = Op.call { callee := Callee.builtin Builtin.copy, args := #[d, x], argTypes := #[dT, sT] })
 (v u : Value) (hd : a.eval d = v) (hx : a.eval x = u) {v' : Value} {w' : World} (hr : (Builtin.copy_ #[dT, sT] o.type #[v, u]).run P w = .ok v' w') (hK : K (a.put o.dst v') w') :
 if Region.wanted o (yielded ops a.tmps) = true then Oper.wp P o a w K Q else E := by
 have hw : Region.wanted o (yielded ops a.tmps) = true := by simp [Region.wanted, hg]
 rw [if_pos hw]
 unfold Oper.wp
 simp [execOp, hop, resolve, invoke, builtin, hd, hx, hr, Result.andThen]
 exact hK
theorem RdNd.ofBlk {w : World} {g : Nat} {x : Nd} {e : TypeId} (h : Blk w g (ndc x) e) : RdNd (g + 1) w (.slice (some ⟨g, 0, none⟩) 1 1) [x] := by
 refine ⟨some ⟨g, 0, none⟩, 1, rfl, Nat.le_refl _, by decide, fun h => (by cases h), fun a ha => ?_⟩
 cases ha
 refine ⟨fun _ => Nat.lt_succ_self _, fun j u hu => ?_⟩
 rw [nds_one] at hu
 have hadd : (⟨g, 0, none⟩ : Addr).add j = ⟨g, j, none⟩ := by unfold Addr.add; split <;> simp_all
 rw [hadd]
 exact (h.cell j).trans hu
theorem nds_ins (l : List Nd) (x : Nd) (m : Nat) : nds (l.take m ++ x :: l.drop m) = nds (l.take m) ++ (ndc x ++ nds (l.drop m)) := by
 rw [nds_append, show x :: l.drop m = [x] ++ l.drop m from rfl, nds_append, nds_one]
theorem ins_len (l : List Nd) (x : Nd) (m : Nat) (hm : m ≤ l.length) : (l.take m ++ x :: l.drop m).length = l.length + 1 := by
 simp only [List.length_append, List.length_take, List.length_cons, List.length_drop]
 omega
theorem take3 (A B D : List Value) (k : Nat) : (A ++ (B ++ D)).take (A.length + B.length + k) = A ++ (B ++ D.take k) := by
 rw [← List.append_assoc, show A.length + B.length = (A ++ B).length by simp, List.take_length_add_append, List.append_assoc]
theorem ins_row1 (C : List Value) (l : List Nd) (x : Nd) (m cap : Nat) (hC : C.length = cap * 4) (hr : l.length + 1 ≤ cap) (hm : m ≤ l.length) (h : C.take (m * 4) = nds (l.take m)) (C1 C2 : List Value)
 (e1 : C1 = C.take (m * 4) ++ (ndc x ++ C.drop (m * 4 + (ndc x).length))) (e2 : C2 = C1.take ((m + 1) * 4) ++ (nds (l.drop m) ++ C1.drop ((m + 1) * 4 + (nds (l.drop m)).length))) :
 C1.length = cap * 4 ∧ C2.length = cap * 4 ∧ C2.take ((l.length + 1) * 4) = nds (l.take m ++ x :: l.drop m) := by
 have hx : (ndc x).length = 4 := rfl
 have hd : (nds (l.drop m)).length = (l.length - m) * 4 := by rw [nds_length, List.length_drop]; omega
 have l1 : C1.length = cap * 4 := by rw [e1, written_len C (ndc x) (m * 4) (by rw [hx, hC]; omega), hC]
 have l2 : C2.length = cap * 4 := by rw [e2, written_len C1 _ ((m + 1) * 4) (by rw [hd, l1]; omega), l1]
 refine ⟨l1, l2, ?_⟩
 have t1 := written_more C (ndc x) (m * 4) (by rw [hx, hC]; omega)
 rw [← e1, hx, show m * 4 + 4 = (m + 1) * 4 by omega, h] at t1
 have t2 := written_more C1 (nds (l.drop m)) ((m + 1) * 4) (by rw [hd, l1]; omega)
 rw [← e2, hd, t1, show (m + 1) * 4 + (l.length - m) * 4 = (l.length + 1) * 4 by omega] at t2
 rw [t2, nds_ins, List.append_assoc]
theorem ins_row2 (C : List Value) (l : List Nd) (x : Nd) (m cap : Nat) (hC : C.length = cap * 4) (hr : l.length + 1 ≤ cap) (hm : m ≤ l.length) (h : C.take (m * 4) = nds (l.take m)) (C1 C2 : List Value)
 (e1 : C1 = C.take ((m + 1) * 4) ++ (nds (l.drop m) ++ C.drop ((m + 1) * 4 + (nds (l.drop m)).length))) (e2 : C2 = C1.take (m * 4) ++ (ndc x ++ C1.drop (m * 4 + (ndc x).length))) :
 C1.length = cap * 4 ∧ C2.length = cap * 4 ∧ C2.take ((l.length + 1) * 4) = nds (l.take m ++ x :: l.drop m) := by
 have hx : (ndc x).length = 4 := rfl
 have hd : (nds (l.drop m)).length = (l.length - m) * 4 := by rw [nds_length, List.length_drop]; omega
 have l1 : C1.length = cap * 4 := by rw [e1, written_len C _ ((m + 1) * 4) (by rw [hd, hC]; omega), hC]
 have l2 : C2.length = cap * 4 := by rw [e2, written_len C1 (ndc x) (m * 4) (by rw [hx, l1]; omega), l1]
 refine ⟨l1, l2, ?_⟩
 have t1 := written_more C (nds (l.drop m)) ((m + 1) * 4) (by rw [hd, hC]; omega)
 rw [← e1, hd] at t1
 have t0 : C1.take (m * 4) = nds (l.take m) := by
  have := congrArg (List.take (m * 4)) t1
  rw [List.take_take, Nat.min_eq_left (by omega), List.take_append_of_le_length (by rw [List.length_take]; omega), List.take_take, Nat.min_eq_left (by omega), h] at this
  exact this
 have t3 : (C1.drop (m * 4 + 4)).take ((l.length - m) * 4) = nds (l.drop m) := by
  have := congrArg (List.drop ((m + 1) * 4)) t1
  rw [List.drop_take, List.drop_left' (by rw [List.length_take]; omega)] at this
  rw [show (m + 1) * 4 + (l.length - m) * 4 - (m + 1) * 4 = (l.length - m) * 4 by omega, show (m + 1) * 4 = m * 4 + 4 by omega] at this
  exact this
 rw [e2, t0, nds_ins, hx]
 have hl0 : (nds (l.take m)).length = m * 4 := by rw [nds_length, List.length_take]; omega
 rw [show (l.length + 1) * 4 = (nds (l.take m)).length + (ndc x).length + (l.length - m) * 4 by rw [hl0, hx]; omega, take3, t3]
def insAt (l : List Nd) (x : Nd) (m : Nat) : List Nd := l.take m ++ x :: l.drop m
theorem insEnd_any (l : List Nd) (x : Nd) (base gv : Nat) (u : Value) (W : World) (hB : base ≤ W.heap.size) (ho : OwnNd 157 W base u l) (hl : l.length ≤ 100000) (hv : Blk W gv (ndc x) 157) :
 Calls Tryz.prog 208 #[u, .int .i64 (l.length : Int), .slice (some ⟨gv, 0, none⟩) 1 1] W (EditsTo base (insAt l x l.length) W) := by
 obtain ⟨i1, hJ, hy0, hy1, hy2⟩ := info_partsPN
 obtain ⟨A, cp, rfl, hc, hm⟩ := ho.rd.shape
 unfold maxLen at hm
 have HO := lhd ho
 have HL := lhd hl
 have HV := lhd hv
 have hR := RdNd.ofBlk hv
 have HR := lhd hR
 have HE : Hid (insAt l x l.length = l ++ [x]) := by
  show _ = _
  unfold insAt
  rw [List.take_length, List.drop_length]
 obtain ⟨n, hn⟩ : ∃ n, l.length = n := ⟨_, rfl⟩
 have HN := lhd hn
 obtain ⟨L, hL⟩ : ∃ L, insAt l x l.length = L := ⟨_, rfl⟩
 rw [hL] at HE ⊢
 rw [hn] at HO HL hc ⊢
 clear ho hl hv hR hn hL
 go_enter Tryz.func208, Tryz.ntmps208
 go_wp2_with (at_builtin; refine wpList_appNd rfl _ _ 39 rfl 157 i1 Tryz.underlying39 hJ hy0 hy1 hy2 base _ _ _ l [x] rfl HO.out rfl HR.out (by have := HL.out; have := HN.out; simp; omega) hB ?_)
 all_goals
  intro v' w' h1 h2 h3
  have H1 := lhd h1
  have H2 := lhd h2
  clear h1 h2 h3
  go_wp2
  go_ret
  rw [HE.out]
  exact ⟨_, rfl, H1.out, H2.out⟩
end Go.Proofs.YtgfobinklijkpaaGreatDoor
