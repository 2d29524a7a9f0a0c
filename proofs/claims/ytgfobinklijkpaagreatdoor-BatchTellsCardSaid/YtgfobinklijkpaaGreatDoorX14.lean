/-
  Texts NO.
-/
import Derived.Test.YtgfobinklijkpaaGreatDoorX01
import Derived.Test.YtgfobinklijkpaaGreatDoorX13
namespace Go.Proofs.YtgfobinklijkpaaGreatDoor
set_option maxRecDepth 100000
set_option maxHeartbeats 16000000
open Go.RowKit
theorem run_storeVar_cell {P : Program} (w : World) (g j : Nat) (t ty : TypeId) (cs : List Value) (v : Value) (hb : Blk w g cs t) (hi : (P.info? ty).map (·.size) = some 1) (hj : j < cs.length) (h1 : v.oneCell' = true) :
 (storeVar ty ⟨g, j, none⟩ v).run P w = .ok () (w.setCell ⟨g, j, none⟩ v) := by
 have hc : v.cells = #[v] := by cases v <;> first | rfl | (simp [Value.oneCell'] at h1)
 have hs : (store ⟨g, j, none⟩ v).run P w = .ok () (w.setCell ⟨g, j, none⟩ v) := by
  rw [run_store P w _ v _ h1, hb.cell j, List.getElem?_eq_getElem hj]
  simp only
  rw [hb.frozen j]
  rfl
 cases hq : P.info? ty with
 | none => simp [hq] at hi
 | some i =>
   have hsz : 1 = i.size := by simp [hq] at hi; omega
   have ha : (⟨g, j, none⟩ : Addr).add 0 = ⟨g, j, none⟩ := by unfold Addr.add; split <;> simp_all
   simp [storeVar, sizeOf, typeInfo, hq, hc, ← hsz, storeCells, ha, hs]
theorem wpList_store_fld {P : Program} {w : World} {ops : Array Oper} {rest : List Oper} {o : Oper} {a : Act} {Q : Exit → Act → World → Prop} (hg : o.guard = none) (t : TypeId) (x y : Operand) (ho : o.op = .store t x y) (g j : Nat) (cs : List Value) (v : Value) (u : TypeId)
 (hx : a.eval x = .pointer (some ⟨g, j, none⟩)) (hy : a.eval y = v) (hb : Blk w g cs u) (hi : (P.info? t).map (·.size) = some 1) (hj : j < cs.length) (h1 : v.oneCell' = true)
 (h : ∀ w', Blk w' g (cs.set j v) u → w'.heap.size = w.heap.size → Below g w w' → (∀ k, k ≠ g → w'.heap[k]? = w.heap[k]?) → wpList P ops Q rest (a.put o.dst undef) w') : wpList P ops Q (o :: rest) a w := by
 refine wpList_plain hg fun K hK => ?_
 unfold Oper.wp execOp
 simp only [ho, hx, hy, Instr.storeAt, Instr.sureAddr, Sem.run_bind, Sem.run_pure, Result.andThen_ok, run_storeVar_cell w g j u t cs v hb hi hj h1]
 exact hK _ _ (h _ (hb.set j v) (by simp [World.setCell]) ((Below.refl g w).setCell (p := ⟨g, j, none⟩) (Nat.le_refl _) _) (fun k hne => Below.heap_setCell _ _ _ _ hne))
theorem szStr : (Tryz.prog.info? 9).map (·.size) = some 1 := by kernel_rfl
theorem szInt1 : (Tryz.prog.info? 3).map (·.size) = some 1 := by kernel_rfl
def wuO (o : Or) : Or :=
 if oK o = 1 then (oC o, oQ o, oK o, [], [], oR o, 0, oT o)
 else if oK o = 3 then (oC o, oQ o, oK o, [], [], 0, oS o, oT o)
 else if oK o = 4 then (oC o, oQ o, oK o, [], oV o, 0, oS o, oT o)
 else if oK o = 2 ∨ oK o = 5 ∨ oK o = 10 ∨ oK o = 11 then (oC o, oQ o, oK o, [], oV o, oR o, oS o, oT o)
 else if oK o = 6 then (oC o, oQ o, oK o, oP o, oV o, oR o, 0, 0)
 else if oK o = 7 ∨ oK o = 8 then (oC o, oQ o, oK o, oP o, oV o, oR o, 0, oT o)
 else if oK o = 9 then (oC o, oQ o, oK o, oP o, oV o, oR o, oS o, 0)
 else o
theorem may_wu (o : Or) (hs : sizedO o = true) : mayO o = decide (wuO o = (oC o, oQ o, oK o, [], [], 0, 0, 0)) := by
 have hk : oK o = 0 ∨ oK o = 1 ∨ oK o = 2 ∨ oK o = 3 ∨ oK o = 4 ∨ oK o = 5 ∨ oK o = 6 ∨ oK o = 7 ∨ oK o = 8 ∨ oK o = 9 ∨ oK o = 10 ∨ oK o = 11 := by
  unfold sizedO at hs
  simp only [Bool.and_eq_true, decide_eq_true_eq] at hs
  omega
 unfold mayO
 rw [hs, Bool.true_and]
 obtain ⟨c, q, k, p, v, r, s, t⟩ := o
 change k = 0 ∨ k = 1 ∨ k = 2 ∨ k = 3 ∨ k = 4 ∨ k = 5 ∨ k = 6 ∨ k = 7 ∨ k = 8 ∨ k = 9 ∨ k = 10 ∨ k = 11 at hk
 unfold usedO wuO usesT oK oP oV oR oS oT oC oQ
 rcases hk with rfl | rfl | rfl | rfl | rfl | rfl | rfl | rfl | rfl | rfl | rfl | rfl <;> simp [Bool.and_assoc]
theorem wu_any (o : Or) (w : World) : Calls Tryz.prog 56 #[.agg (orc o).toArray] w (One (.agg (orc (wuO o)).toArray) w) := by
 obtain ⟨d30, hu30, hd30⟩ := rowOrP
 have HU := lhd hu30
 have HD := lhd hd30
 clear hu30 hd30
 obtain ⟨C, Q, K, P, V, R, S, T⟩ := o
 by_cases h1 : K = 1
 ·subst h1
  go_enter Tryz.func56, Tryz.ntmps56
  go_wp2_with (refine wpList_box_blk rfl 86 _ rfl (orc (C, Q, 1, P, V, R, S, T)) rfl ?_)
  intro w1 b1 b2 b3
  go_wp2_with (refine wpList_alloc_blk rfl 86 rfl (orc or0) zeroOrP ?_)
  intro w2 a1 a2 a3
  obtain ⟨g0, hg0⟩ : ∃ g, w.heap.size = g := ⟨_, rfl⟩
  obtain ⟨g1, hg1⟩ : ∃ g, w.heap.size + 1 = g := ⟨_, rfl⟩
  have X0 := lhd (b1.below a3 (by omega))
  have X1 := lhd a1
  have HB := lhd (b3.trans (a3.mono (by omega)))
  have hw1 : g0 ≤ g1 := by omega
  have hne : g1 ≠ g0 := by omega
  rw [hg1] at X1 ⊢
  rw [hg0] at X0 HB ⊢
  have c2 : w2.cell? ⟨g0, 2, none⟩ = some (.int .i64 1) := X0.out.at_ 2 _ rfl
  clear b1 b2 b3 a1 a2 a3
  go_wp2_with (refine wpList_store_fld rfl 9 _ _ rfl g0 3 (orc (C, Q, 1, P, V, R, S, T)) (txt []) 86 rfl rfl X0.out szStr (Nat.lt_of_lt_of_le (by decide) (Nat.le_refl 8)) rfl ?_)
  intro u0 e1 e2 e3 e4
  have X0 := lhd e1
  have X1 := lhd (show Blk _ _ _ _ from (e4 g1 hne).trans X1.out)
  have HB := lhd (HB.out.trans e3)
  clear e1 e2 e3 e4 c2
  go_wp2_with (refine wpList_store_fld rfl 9 _ _ rfl g0 4 ((orc (C, Q, 1, P, V, R, S, T)).set 3 (txt [])) (txt []) 86 rfl rfl X0.out szStr (Nat.lt_of_lt_of_le (by decide) (Nat.le_refl 8)) rfl ?_)
  intro u1 e1 e2 e3 e4
  have X0 := lhd e1
  have X1 := lhd (show Blk _ _ _ _ from (e4 g1 hne).trans X1.out)
  have HB := lhd (HB.out.trans e3)
  clear e1 e2 e3 e4
  go_wp2_with (refine wpList_store_fld rfl 3 _ _ rfl g0 6 (((orc (C, Q, 1, P, V, R, S, T)).set 3 (txt [])).set 4 (txt [])) (.int .i64 0) 86 rfl rfl X0.out szInt1 (Nat.lt_of_lt_of_le (by decide) (Nat.le_refl 8)) rfl ?_)
  intro u2 e1 e2 e3 e4
  have X0 := lhd e1
  have X1 := lhd (show Blk _ _ _ _ from (e4 g1 hne).trans X1.out)
  have HB := lhd (HB.out.trans e3)
  clear e1 e2 e3 e4
  have X0 : Hid (Blk _ g0 (orc (wuO (C, Q, 1, P, V, R, S, T))) 86) := X0.out
  have d0 := X0.out.at_ 0 _ rfl
  have d1 := X0.out.at_ 1 _ rfl
  have d2 := X0.out.at_ 2 _ rfl
  have d3 := X0.out.at_ 3 _ rfl
  have d4 := X0.out.at_ 4 _ rfl
  have d5 := X0.out.at_ 5 _ rfl
  have d6 := X0.out.at_ 6 _ rfl
  have d7 := X0.out.at_ 7 _ rfl
  obtain ⟨Z, hZ⟩ : ∃ Z, wuO (C, Q, 1, P, V, R, S, T) = Z := ⟨_, rfl⟩
  rw [hZ] at X0 d0 d1 d2 d3 d4 d5 d6 d7
  have HZ := lhd hZ
  clear hZ
  go_wp2_with (refine wpList_store_to rfl 86 _ _ rfl g1 (orc Z) (orc or0) 86 rfl rfl X1.out szOrP rfl (orc_all _) ?_)
  intro w20 e1 e2 e3 e4
  go_wp2
  refine bodyPost_ret (v := .agg (orc Z).toArray) ?_ rfl ?_
  ·exact ret_blkUL rfl _ _ g1 86 (orc Z) rfl e1 d30 HU.out HD.out szOrP
  ·refine ⟨by rw [HZ.out], ?_⟩
   rw [hg0]
   exact HB.out.trans (e3.mono hw1)
 have b1 : (K == 1) = false := by rw [beq_eq_false_iff_ne]; exact h1
 by_cases h3 : K = 3
 ·subst h3
  go_enter Tryz.func56, Tryz.ntmps56
  go_wp2_with (refine wpList_box_blk rfl 86 _ rfl (orc (C, Q, 3, P, V, R, S, T)) rfl ?_)
  intro w1 b1 b2 b3
  go_wp2_with (refine wpList_alloc_blk rfl 86 rfl (orc or0) zeroOrP ?_)
  intro w2 a1 a2 a3
  obtain ⟨g0, hg0⟩ : ∃ g, w.heap.size = g := ⟨_, rfl⟩
  obtain ⟨g1, hg1⟩ : ∃ g, w.heap.size + 1 = g := ⟨_, rfl⟩
  have X0 := lhd (b1.below a3 (by omega))
  have X1 := lhd a1
  have HB := lhd (b3.trans (a3.mono (by omega)))
  have hw1 : g0 ≤ g1 := by omega
  have hne : g1 ≠ g0 := by omega
  rw [hg1] at X1 ⊢
  rw [hg0] at X0 HB ⊢
  have c2 : w2.cell? ⟨g0, 2, none⟩ = some (.int .i64 3) := X0.out.at_ 2 _ rfl
  clear b1 b2 b3 a1 a2 a3
  go_wp2_with (refine wpList_store_fld rfl 9 _ _ rfl g0 4 (orc (C, Q, 3, P, V, R, S, T)) (txt []) 86 rfl rfl X0.out szStr (Nat.lt_of_lt_of_le (by decide) (Nat.le_refl 8)) rfl ?_)
  intro u0 e1 e2 e3 e4
  have X0 := lhd e1
  have X1 := lhd (show Blk _ _ _ _ from (e4 g1 hne).trans X1.out)
  have HB := lhd (HB.out.trans e3)
  clear e1 e2 e3 e4 c2
  go_wp2_with (refine wpList_store_fld rfl 3 _ _ rfl g0 5 ((orc (C, Q, 3, P, V, R, S, T)).set 4 (txt [])) (.int .i64 0) 86 rfl rfl X0.out szInt1 (Nat.lt_of_lt_of_le (by decide) (Nat.le_refl 8)) rfl ?_)
  intro u1 e1 e2 e3 e4
  have X0 := lhd e1
  have X1 := lhd (show Blk _ _ _ _ from (e4 g1 hne).trans X1.out)
  have HB := lhd (HB.out.trans e3)
  clear e1 e2 e3 e4
  go_wp2_with (refine wpList_store_fld rfl 9 _ _ rfl g0 3 (((orc (C, Q, 3, P, V, R, S, T)).set 4 (txt [])).set 5 (.int .i64 0)) (txt []) 86 rfl rfl X0.out szStr (Nat.lt_of_lt_of_le (by decide) (Nat.le_refl 8)) rfl ?_)
  intro u2 e1 e2 e3 e4
  have X0 := lhd e1
  have X1 := lhd (show Blk _ _ _ _ from (e4 g1 hne).trans X1.out)
  have HB := lhd (HB.out.trans e3)
  clear e1 e2 e3 e4
  have X0 : Hid (Blk _ g0 (orc (wuO (C, Q, 3, P, V, R, S, T))) 86) := X0.out
  have d0 := X0.out.at_ 0 _ rfl
  have d1 := X0.out.at_ 1 _ rfl
  have d2 := X0.out.at_ 2 _ rfl
  have d3 := X0.out.at_ 3 _ rfl
  have d4 := X0.out.at_ 4 _ rfl
  have d5 := X0.out.at_ 5 _ rfl
  have d6 := X0.out.at_ 6 _ rfl
  have d7 := X0.out.at_ 7 _ rfl
  obtain ⟨Z, hZ⟩ : ∃ Z, wuO (C, Q, 3, P, V, R, S, T) = Z := ⟨_, rfl⟩
  rw [hZ] at X0 d0 d1 d2 d3 d4 d5 d6 d7
  have HZ := lhd hZ
  clear hZ
  go_wp2_with (refine wpList_store_to rfl 86 _ _ rfl g1 (orc Z) (orc or0) 86 rfl rfl X1.out szOrP rfl (orc_all _) ?_)
  intro w20 e1 e2 e3 e4
  go_wp2
  refine bodyPost_ret (v := .agg (orc Z).toArray) ?_ rfl ?_
  ·exact ret_blkUL rfl _ _ g1 86 (orc Z) rfl e1 d30 HU.out HD.out szOrP
  ·refine ⟨by rw [HZ.out], ?_⟩
   rw [hg0]
   exact HB.out.trans (e3.mono hw1)
 have b3 : (K == 3) = false := by rw [beq_eq_false_iff_ne]; exact h3
 by_cases h4 : K = 4
 ·subst h4
  go_enter Tryz.func56, Tryz.ntmps56
  go_wp2_with (refine wpList_box_blk rfl 86 _ rfl (orc (C, Q, 4, P, V, R, S, T)) rfl ?_)
  intro w1 b1 b2 b3
  go_wp2_with (refine wpList_alloc_blk rfl 86 rfl (orc or0) zeroOrP ?_)
  intro w2 a1 a2 a3
  obtain ⟨g0, hg0⟩ : ∃ g, w.heap.size = g := ⟨_, rfl⟩
  obtain ⟨g1, hg1⟩ : ∃ g, w.heap.size + 1 = g := ⟨_, rfl⟩
  have X0 := lhd (b1.below a3 (by omega))
  have X1 := lhd a1
  have HB := lhd (b3.trans (a3.mono (by omega)))
  have hw1 : g0 ≤ g1 := by omega
  have hne : g1 ≠ g0 := by omega
  rw [hg1] at X1 ⊢
  rw [hg0] at X0 HB ⊢
  have c2 : w2.cell? ⟨g0, 2, none⟩ = some (.int .i64 4) := X0.out.at_ 2 _ rfl
  clear b1 b2 b3 a1 a2 a3
  go_wp2_with (refine wpList_store_fld rfl 3 _ _ rfl g0 5 (orc (C, Q, 4, P, V, R, S, T)) (.int .i64 0) 86 rfl rfl X0.out szInt1 (Nat.lt_of_lt_of_le (by decide) (Nat.le_refl 8)) rfl ?_)
  intro u0 e1 e2 e3 e4
  have X0 := lhd e1
  have X1 := lhd (show Blk _ _ _ _ from (e4 g1 hne).trans X1.out)
  have HB := lhd (HB.out.trans e3)
  clear e1 e2 e3 e4 c2
  go_wp2_with (refine wpList_store_fld rfl 9 _ _ rfl g0 3 ((orc (C, Q, 4, P, V, R, S, T)).set 5 (.int .i64 0)) (txt []) 86 rfl rfl X0.out szStr (Nat.lt_of_lt_of_le (by decide) (Nat.le_refl 8)) rfl ?_)
  intro u1 e1 e2 e3 e4
  have X0 := lhd e1
  have X1 := lhd (show Blk _ _ _ _ from (e4 g1 hne).trans X1.out)
  have HB := lhd (HB.out.trans e3)
  clear e1 e2 e3 e4
  have X0 : Hid (Blk _ g0 (orc (wuO (C, Q, 4, P, V, R, S, T))) 86) := X0.out
  have d0 := X0.out.at_ 0 _ rfl
  have d1 := X0.out.at_ 1 _ rfl
  have d2 := X0.out.at_ 2 _ rfl
  have d3 := X0.out.at_ 3 _ rfl
  have d4 := X0.out.at_ 4 _ rfl
  have d5 := X0.out.at_ 5 _ rfl
  have d6 := X0.out.at_ 6 _ rfl
  have d7 := X0.out.at_ 7 _ rfl
  obtain ⟨Z, hZ⟩ : ∃ Z, wuO (C, Q, 4, P, V, R, S, T) = Z := ⟨_, rfl⟩
  rw [hZ] at X0 d0 d1 d2 d3 d4 d5 d6 d7
  have HZ := lhd hZ
  clear hZ
  go_wp2_with (refine wpList_store_to rfl 86 _ _ rfl g1 (orc Z) (orc or0) 86 rfl rfl X1.out szOrP rfl (orc_all _) ?_)
  intro w20 e1 e2 e3 e4
  go_wp2
  refine bodyPost_ret (v := .agg (orc Z).toArray) ?_ rfl ?_
  ·exact ret_blkUL rfl _ _ g1 86 (orc Z) rfl e1 d30 HU.out HD.out szOrP
  ·refine ⟨by rw [HZ.out], ?_⟩
   rw [hg0]
   exact HB.out.trans (e3.mono hw1)
 have b4 : (K == 4) = false := by rw [beq_eq_false_iff_ne]; exact h4
 by_cases h2 : K = 2
 ·subst h2
  go_enter Tryz.func56, Tryz.ntmps56
  go_wp2_with (refine wpList_box_blk rfl 86 _ rfl (orc (C, Q, 2, P, V, R, S, T)) rfl ?_)
  intro w1 b1 b2 b3
  go_wp2_with (refine wpList_alloc_blk rfl 86 rfl (orc or0) zeroOrP ?_)
  intro w2 a1 a2 a3
  obtain ⟨g0, hg0⟩ : ∃ g, w.heap.size = g := ⟨_, rfl⟩
  obtain ⟨g1, hg1⟩ : ∃ g, w.heap.size + 1 = g := ⟨_, rfl⟩
  have X0 := lhd (b1.below a3 (by omega))
  have X1 := lhd a1
  have HB := lhd (b3.trans (a3.mono (by omega)))
  have hw1 : g0 ≤ g1 := by omega
  have hne : g1 ≠ g0 := by omega
  rw [hg1] at X1 ⊢
  rw [hg0] at X0 HB ⊢
  have c2 : w2.cell? ⟨g0, 2, none⟩ = some (.int .i64 2) := X0.out.at_ 2 _ rfl
  clear b1 b2 b3 a1 a2 a3
  go_wp2_with (refine wpList_store_fld rfl 9 _ _ rfl g0 3 (orc (C, Q, 2, P, V, R, S, T)) (txt []) 86 rfl rfl X0.out szStr (Nat.lt_of_lt_of_le (by decide) (Nat.le_refl 8)) rfl ?_)
  intro u0 e1 e2 e3 e4
  have X0 := lhd e1
  have X1 := lhd (show Blk _ _ _ _ from (e4 g1 hne).trans X1.out)
  have HB := lhd (HB.out.trans e3)
  clear e1 e2 e3 e4 c2
  have X0 : Hid (Blk _ g0 (orc (wuO (C, Q, 2, P, V, R, S, T))) 86) := X0.out
  have d0 := X0.out.at_ 0 _ rfl
  have d1 := X0.out.at_ 1 _ rfl
  have d2 := X0.out.at_ 2 _ rfl
  have d3 := X0.out.at_ 3 _ rfl
  have d4 := X0.out.at_ 4 _ rfl
  have d5 := X0.out.at_ 5 _ rfl
  have d6 := X0.out.at_ 6 _ rfl
  have d7 := X0.out.at_ 7 _ rfl
  obtain ⟨Z, hZ⟩ : ∃ Z, wuO (C, Q, 2, P, V, R, S, T) = Z := ⟨_, rfl⟩
  rw [hZ] at X0 d0 d1 d2 d3 d4 d5 d6 d7
  have HZ := lhd hZ
  clear hZ
  go_wp2_with (refine wpList_store_to rfl 86 _ _ rfl g1 (orc Z) (orc or0) 86 rfl rfl X1.out szOrP rfl (orc_all _) ?_)
  intro w20 e1 e2 e3 e4
  go_wp2
  refine bodyPost_ret (v := .agg (orc Z).toArray) ?_ rfl ?_
  ·exact ret_blkUL rfl _ _ g1 86 (orc Z) rfl e1 d30 HU.out HD.out szOrP
  ·refine ⟨by rw [HZ.out], ?_⟩
   rw [hg0]
   exact HB.out.trans (e3.mono hw1)
 have b2 : (K == 2) = false := by rw [beq_eq_false_iff_ne]; exact h2
 by_cases h5 : K = 5
 ·subst h5
  go_enter Tryz.func56, Tryz.ntmps56
  go_wp2_with (refine wpList_box_blk rfl 86 _ rfl (orc (C, Q, 5, P, V, R, S, T)) rfl ?_)
  intro w1 b1 b2 b3
  go_wp2_with (refine wpList_alloc_blk rfl 86 rfl (orc or0) zeroOrP ?_)
  intro w2 a1 a2 a3
  obtain ⟨g0, hg0⟩ : ∃ g, w.heap.size = g := ⟨_, rfl⟩
  obtain ⟨g1, hg1⟩ : ∃ g, w.heap.size + 1 = g := ⟨_, rfl⟩
  have X0 := lhd (b1.below a3 (by omega))
  have X1 := lhd a1
  have HB := lhd (b3.trans (a3.mono (by omega)))
  have hw1 : g0 ≤ g1 := by omega
  have hne : g1 ≠ g0 := by omega
  rw [hg1] at X1 ⊢
  rw [hg0] at X0 HB ⊢
  have c2 : w2.cell? ⟨g0, 2, none⟩ = some (.int .i64 5) := X0.out.at_ 2 _ rfl
  clear b1 b2 b3 a1 a2 a3
  go_wp2_with (refine wpList_store_fld rfl 9 _ _ rfl g0 3 (orc (C, Q, 5, P, V, R, S, T)) (txt []) 86 rfl rfl X0.out szStr (Nat.lt_of_lt_of_le (by decide) (Nat.le_refl 8)) rfl ?_)
  intro u0 e1 e2 e3 e4
  have X0 := lhd e1
  have X1 := lhd (show Blk _ _ _ _ from (e4 g1 hne).trans X1.out)
  have HB := lhd (HB.out.trans e3)
  clear e1 e2 e3 e4 c2
  have X0 : Hid (Blk _ g0 (orc (wuO (C, Q, 5, P, V, R, S, T))) 86) := X0.out
  have d0 := X0.out.at_ 0 _ rfl
  have d1 := X0.out.at_ 1 _ rfl
  have d2 := X0.out.at_ 2 _ rfl
  have d3 := X0.out.at_ 3 _ rfl
  have d4 := X0.out.at_ 4 _ rfl
  have d5 := X0.out.at_ 5 _ rfl
  have d6 := X0.out.at_ 6 _ rfl
  have d7 := X0.out.at_ 7 _ rfl
  obtain ⟨Z, hZ⟩ : ∃ Z, wuO (C, Q, 5, P, V, R, S, T) = Z := ⟨_, rfl⟩
  rw [hZ] at X0 d0 d1 d2 d3 d4 d5 d6 d7
  have HZ := lhd hZ
  clear hZ
  go_wp2_with (refine wpList_store_to rfl 86 _ _ rfl g1 (orc Z) (orc or0) 86 rfl rfl X1.out szOrP rfl (orc_all _) ?_)
  intro w20 e1 e2 e3 e4
  go_wp2
  refine bodyPost_ret (v := .agg (orc Z).toArray) ?_ rfl ?_
  ·exact ret_blkUL rfl _ _ g1 86 (orc Z) rfl e1 d30 HU.out HD.out szOrP
  ·refine ⟨by rw [HZ.out], ?_⟩
   rw [hg0]
   exact HB.out.trans (e3.mono hw1)
 have b5 : (K == 5) = false := by rw [beq_eq_false_iff_ne]; exact h5
 by_cases h10 : K = 10
 ·subst h10
  go_enter Tryz.func56, Tryz.ntmps56
  go_wp2_with (refine wpList_box_blk rfl 86 _ rfl (orc (C, Q, 10, P, V, R, S, T)) rfl ?_)
  intro w1 b1 b2 b3
  go_wp2_with (refine wpList_alloc_blk rfl 86 rfl (orc or0) zeroOrP ?_)
  intro w2 a1 a2 a3
  obtain ⟨g0, hg0⟩ : ∃ g, w.heap.size = g := ⟨_, rfl⟩
  obtain ⟨g1, hg1⟩ : ∃ g, w.heap.size + 1 = g := ⟨_, rfl⟩
  have X0 := lhd (b1.below a3 (by omega))
  have X1 := lhd a1
  have HB := lhd (b3.trans (a3.mono (by omega)))
  have hw1 : g0 ≤ g1 := by omega
  have hne : g1 ≠ g0 := by omega
  rw [hg1] at X1 ⊢
  rw [hg0] at X0 HB ⊢
  have c2 : w2.cell? ⟨g0, 2, none⟩ = some (.int .i64 10) := X0.out.at_ 2 _ rfl
  clear b1 b2 b3 a1 a2 a3
  go_wp2_with (refine wpList_store_fld rfl 9 _ _ rfl g0 3 (orc (C, Q, 10, P, V, R, S, T)) (txt []) 86 rfl rfl X0.out szStr (Nat.lt_of_lt_of_le (by decide) (Nat.le_refl 8)) rfl ?_)
  intro u0 e1 e2 e3 e4
  have X0 := lhd e1
  have X1 := lhd (show Blk _ _ _ _ from (e4 g1 hne).trans X1.out)
  have HB := lhd (HB.out.trans e3)
  clear e1 e2 e3 e4 c2
  have X0 : Hid (Blk _ g0 (orc (wuO (C, Q, 10, P, V, R, S, T))) 86) := X0.out
  have d0 := X0.out.at_ 0 _ rfl
  have d1 := X0.out.at_ 1 _ rfl
  have d2 := X0.out.at_ 2 _ rfl
  have d3 := X0.out.at_ 3 _ rfl
  have d4 := X0.out.at_ 4 _ rfl
  have d5 := X0.out.at_ 5 _ rfl
  have d6 := X0.out.at_ 6 _ rfl
  have d7 := X0.out.at_ 7 _ rfl
  obtain ⟨Z, hZ⟩ : ∃ Z, wuO (C, Q, 10, P, V, R, S, T) = Z := ⟨_, rfl⟩
  rw [hZ] at X0 d0 d1 d2 d3 d4 d5 d6 d7
  have HZ := lhd hZ
  clear hZ
  go_wp2_with (refine wpList_store_to rfl 86 _ _ rfl g1 (orc Z) (orc or0) 86 rfl rfl X1.out szOrP rfl (orc_all _) ?_)
  intro w20 e1 e2 e3 e4
  go_wp2
  refine bodyPost_ret (v := .agg (orc Z).toArray) ?_ rfl ?_
  ·exact ret_blkUL rfl _ _ g1 86 (orc Z) rfl e1 d30 HU.out HD.out szOrP
  ·refine ⟨by rw [HZ.out], ?_⟩
   rw [hg0]
   exact HB.out.trans (e3.mono hw1)
 have b10 : (K == 10) = false := by rw [beq_eq_false_iff_ne]; exact h10
 by_cases h11 : K = 11
 ·subst h11
  go_enter Tryz.func56, Tryz.ntmps56
  go_wp2_with (refine wpList_box_blk rfl 86 _ rfl (orc (C, Q, 11, P, V, R, S, T)) rfl ?_)
  intro w1 b1 b2 b3
  go_wp2_with (refine wpList_alloc_blk rfl 86 rfl (orc or0) zeroOrP ?_)
  intro w2 a1 a2 a3
  obtain ⟨g0, hg0⟩ : ∃ g, w.heap.size = g := ⟨_, rfl⟩
  obtain ⟨g1, hg1⟩ : ∃ g, w.heap.size + 1 = g := ⟨_, rfl⟩
  have X0 := lhd (b1.below a3 (by omega))
  have X1 := lhd a1
  have HB := lhd (b3.trans (a3.mono (by omega)))
  have hw1 : g0 ≤ g1 := by omega
  have hne : g1 ≠ g0 := by omega
  rw [hg1] at X1 ⊢
  rw [hg0] at X0 HB ⊢
  have c2 : w2.cell? ⟨g0, 2, none⟩ = some (.int .i64 11) := X0.out.at_ 2 _ rfl
  clear b1 b2 b3 a1 a2 a3
  go_wp2_with (refine wpList_store_fld rfl 9 _ _ rfl g0 3 (orc (C, Q, 11, P, V, R, S, T)) (txt []) 86 rfl rfl X0.out szStr (Nat.lt_of_lt_of_le (by decide) (Nat.le_refl 8)) rfl ?_)
  intro u0 e1 e2 e3 e4
  have X0 := lhd e1
  have X1 := lhd (show Blk _ _ _ _ from (e4 g1 hne).trans X1.out)
  have HB := lhd (HB.out.trans e3)
  clear e1 e2 e3 e4 c2
  have X0 : Hid (Blk _ g0 (orc (wuO (C, Q, 11, P, V, R, S, T))) 86) := X0.out
  have d0 := X0.out.at_ 0 _ rfl
  have d1 := X0.out.at_ 1 _ rfl
  have d2 := X0.out.at_ 2 _ rfl
  have d3 := X0.out.at_ 3 _ rfl
  have d4 := X0.out.at_ 4 _ rfl
  have d5 := X0.out.at_ 5 _ rfl
  have d6 := X0.out.at_ 6 _ rfl
  have d7 := X0.out.at_ 7 _ rfl
  obtain ⟨Z, hZ⟩ : ∃ Z, wuO (C, Q, 11, P, V, R, S, T) = Z := ⟨_, rfl⟩
  rw [hZ] at X0 d0 d1 d2 d3 d4 d5 d6 d7
  have HZ := lhd hZ
  clear hZ
  go_wp2_with (refine wpList_store_to rfl 86 _ _ rfl g1 (orc Z) (orc or0) 86 rfl rfl X1.out szOrP rfl (orc_all _) ?_)
  intro w20 e1 e2 e3 e4
  go_wp2
  refine bodyPost_ret (v := .agg (orc Z).toArray) ?_ rfl ?_
  ·exact ret_blkUL rfl _ _ g1 86 (orc Z) rfl e1 d30 HU.out HD.out szOrP
  ·refine ⟨by rw [HZ.out], ?_⟩
   rw [hg0]
   exact HB.out.trans (e3.mono hw1)
 have b11 : (K == 11) = false := by rw [beq_eq_false_iff_ne]; exact h11
 by_cases h6 : K = 6
 ·subst h6
  go_enter Tryz.func56, Tryz.ntmps56
  go_wp2_with (refine wpList_box_blk rfl 86 _ rfl (orc (C, Q, 6, P, V, R, S, T)) rfl ?_)
  intro w1 b1 b2 b3
  go_wp2_with (refine wpList_alloc_blk rfl 86 rfl (orc or0) zeroOrP ?_)
  intro w2 a1 a2 a3
  obtain ⟨g0, hg0⟩ : ∃ g, w.heap.size = g := ⟨_, rfl⟩
  obtain ⟨g1, hg1⟩ : ∃ g, w.heap.size + 1 = g := ⟨_, rfl⟩
  have X0 := lhd (b1.below a3 (by omega))
  have X1 := lhd a1
  have HB := lhd (b3.trans (a3.mono (by omega)))
  have hw1 : g0 ≤ g1 := by omega
  have hne : g1 ≠ g0 := by omega
  rw [hg1] at X1 ⊢
  rw [hg0] at X0 HB ⊢
  have c2 : w2.cell? ⟨g0, 2, none⟩ = some (.int .i64 6) := X0.out.at_ 2 _ rfl
  clear b1 b2 b3 a1 a2 a3
  go_wp2_with (refine wpList_store_fld rfl 3 _ _ rfl g0 7 (orc (C, Q, 6, P, V, R, S, T)) (.int .i64 0) 86 rfl rfl X0.out szInt1 (Nat.lt_of_lt_of_le (by decide) (Nat.le_refl 8)) rfl ?_)
  intro u0 e1 e2 e3 e4
  have X0 := lhd e1
  have X1 := lhd (show Blk _ _ _ _ from (e4 g1 hne).trans X1.out)
  have HB := lhd (HB.out.trans e3)
  clear e1 e2 e3 e4 c2
  go_wp2_with (refine wpList_store_fld rfl 3 _ _ rfl g0 6 ((orc (C, Q, 6, P, V, R, S, T)).set 7 (.int .i64 0)) (.int .i64 0) 86 rfl rfl X0.out szInt1 (Nat.lt_of_lt_of_le (by decide) (Nat.le_refl 8)) rfl ?_)
  intro u1 e1 e2 e3 e4
  have X0 := lhd e1
  have X1 := lhd (show Blk _ _ _ _ from (e4 g1 hne).trans X1.out)
  have HB := lhd (HB.out.trans e3)
  clear e1 e2 e3 e4
  have X0 : Hid (Blk _ g0 (orc (wuO (C, Q, 6, P, V, R, S, T))) 86) := X0.out
  have d0 := X0.out.at_ 0 _ rfl
  have d1 := X0.out.at_ 1 _ rfl
  have d2 := X0.out.at_ 2 _ rfl
  have d3 := X0.out.at_ 3 _ rfl
  have d4 := X0.out.at_ 4 _ rfl
  have d5 := X0.out.at_ 5 _ rfl
  have d6 := X0.out.at_ 6 _ rfl
  have d7 := X0.out.at_ 7 _ rfl
  obtain ⟨Z, hZ⟩ : ∃ Z, wuO (C, Q, 6, P, V, R, S, T) = Z := ⟨_, rfl⟩
  rw [hZ] at X0 d0 d1 d2 d3 d4 d5 d6 d7
  have HZ := lhd hZ
  clear hZ
  go_wp2_with (refine wpList_store_to rfl 86 _ _ rfl g1 (orc Z) (orc or0) 86 rfl rfl X1.out szOrP rfl (orc_all _) ?_)
  intro w20 e1 e2 e3 e4
  go_wp2
  refine bodyPost_ret (v := .agg (orc Z).toArray) ?_ rfl ?_
  ·exact ret_blkUL rfl _ _ g1 86 (orc Z) rfl e1 d30 HU.out HD.out szOrP
  ·refine ⟨by rw [HZ.out], ?_⟩
   rw [hg0]
   exact HB.out.trans (e3.mono hw1)
 have b6 : (K == 6) = false := by rw [beq_eq_false_iff_ne]; exact h6
 by_cases h7 : K = 7
 ·subst h7
  go_enter Tryz.func56, Tryz.ntmps56
  go_wp2_with (refine wpList_box_blk rfl 86 _ rfl (orc (C, Q, 7, P, V, R, S, T)) rfl ?_)
  intro w1 b1 b2 b3
  go_wp2_with (refine wpList_alloc_blk rfl 86 rfl (orc or0) zeroOrP ?_)
  intro w2 a1 a2 a3
  obtain ⟨g0, hg0⟩ : ∃ g, w.heap.size = g := ⟨_, rfl⟩
  obtain ⟨g1, hg1⟩ : ∃ g, w.heap.size + 1 = g := ⟨_, rfl⟩
  have X0 := lhd (b1.below a3 (by omega))
  have X1 := lhd a1
  have HB := lhd (b3.trans (a3.mono (by omega)))
  have hw1 : g0 ≤ g1 := by omega
  have hne : g1 ≠ g0 := by omega
  rw [hg1] at X1 ⊢
  rw [hg0] at X0 HB ⊢
  have c2 : w2.cell? ⟨g0, 2, none⟩ = some (.int .i64 7) := X0.out.at_ 2 _ rfl
  clear b1 b2 b3 a1 a2 a3
  go_wp2_with (refine wpList_store_fld rfl 3 _ _ rfl g0 6 (orc (C, Q, 7, P, V, R, S, T)) (.int .i64 0) 86 rfl rfl X0.out szInt1 (Nat.lt_of_lt_of_le (by decide) (Nat.le_refl 8)) rfl ?_)
  intro u0 e1 e2 e3 e4
  have X0 := lhd e1
  have X1 := lhd (show Blk _ _ _ _ from (e4 g1 hne).trans X1.out)
  have HB := lhd (HB.out.trans e3)
  clear e1 e2 e3 e4 c2
  have X0 : Hid (Blk _ g0 (orc (wuO (C, Q, 7, P, V, R, S, T))) 86) := X0.out
  have d0 := X0.out.at_ 0 _ rfl
  have d1 := X0.out.at_ 1 _ rfl
  have d2 := X0.out.at_ 2 _ rfl
  have d3 := X0.out.at_ 3 _ rfl
  have d4 := X0.out.at_ 4 _ rfl
  have d5 := X0.out.at_ 5 _ rfl
  have d6 := X0.out.at_ 6 _ rfl
  have d7 := X0.out.at_ 7 _ rfl
  obtain ⟨Z, hZ⟩ : ∃ Z, wuO (C, Q, 7, P, V, R, S, T) = Z := ⟨_, rfl⟩
  rw [hZ] at X0 d0 d1 d2 d3 d4 d5 d6 d7
  have HZ := lhd hZ
  clear hZ
  go_wp2_with (refine wpList_store_to rfl 86 _ _ rfl g1 (orc Z) (orc or0) 86 rfl rfl X1.out szOrP rfl (orc_all _) ?_)
  intro w20 e1 e2 e3 e4
  go_wp2
  refine bodyPost_ret (v := .agg (orc Z).toArray) ?_ rfl ?_
  ·exact ret_blkUL rfl _ _ g1 86 (orc Z) rfl e1 d30 HU.out HD.out szOrP
  ·refine ⟨by rw [HZ.out], ?_⟩
   rw [hg0]
   exact HB.out.trans (e3.mono hw1)
 have b7 : (K == 7) = false := by rw [beq_eq_false_iff_ne]; exact h7
 by_cases h8 : K = 8
 ·subst h8
  go_enter Tryz.func56, Tryz.ntmps56
  go_wp2_with (refine wpList_box_blk rfl 86 _ rfl (orc (C, Q, 8, P, V, R, S, T)) rfl ?_)
  intro w1 b1 b2 b3
  go_wp2_with (refine wpList_alloc_blk rfl 86 rfl (orc or0) zeroOrP ?_)
  intro w2 a1 a2 a3
  obtain ⟨g0, hg0⟩ : ∃ g, w.heap.size = g := ⟨_, rfl⟩
  obtain ⟨g1, hg1⟩ : ∃ g, w.heap.size + 1 = g := ⟨_, rfl⟩
  have X0 := lhd (b1.below a3 (by omega))
  have X1 := lhd a1
  have HB := lhd (b3.trans (a3.mono (by omega)))
  have hw1 : g0 ≤ g1 := by omega
  have hne : g1 ≠ g0 := by omega
  rw [hg1] at X1 ⊢
  rw [hg0] at X0 HB ⊢
  have c2 : w2.cell? ⟨g0, 2, none⟩ = some (.int .i64 8) := X0.out.at_ 2 _ rfl
  clear b1 b2 b3 a1 a2 a3
  go_wp2_with (refine wpList_store_fld rfl 3 _ _ rfl g0 6 (orc (C, Q, 8, P, V, R, S, T)) (.int .i64 0) 86 rfl rfl X0.out szInt1 (Nat.lt_of_lt_of_le (by decide) (Nat.le_refl 8)) rfl ?_)
  intro u0 e1 e2 e3 e4
  have X0 := lhd e1
  have X1 := lhd (show Blk _ _ _ _ from (e4 g1 hne).trans X1.out)
  have HB := lhd (HB.out.trans e3)
  clear e1 e2 e3 e4 c2
  have X0 : Hid (Blk _ g0 (orc (wuO (C, Q, 8, P, V, R, S, T))) 86) := X0.out
  have d0 := X0.out.at_ 0 _ rfl
  have d1 := X0.out.at_ 1 _ rfl
  have d2 := X0.out.at_ 2 _ rfl
  have d3 := X0.out.at_ 3 _ rfl
  have d4 := X0.out.at_ 4 _ rfl
  have d5 := X0.out.at_ 5 _ rfl
  have d6 := X0.out.at_ 6 _ rfl
  have d7 := X0.out.at_ 7 _ rfl
  obtain ⟨Z, hZ⟩ : ∃ Z, wuO (C, Q, 8, P, V, R, S, T) = Z := ⟨_, rfl⟩
  rw [hZ] at X0 d0 d1 d2 d3 d4 d5 d6 d7
  have HZ := lhd hZ
  clear hZ
  go_wp2_with (refine wpList_store_to rfl 86 _ _ rfl g1 (orc Z) (orc or0) 86 rfl rfl X1.out szOrP rfl (orc_all _) ?_)
  intro w20 e1 e2 e3 e4
  go_wp2
  refine bodyPost_ret (v := .agg (orc Z).toArray) ?_ rfl ?_
  ·exact ret_blkUL rfl _ _ g1 86 (orc Z) rfl e1 d30 HU.out HD.out szOrP
  ·refine ⟨by rw [HZ.out], ?_⟩
   rw [hg0]
   exact HB.out.trans (e3.mono hw1)
 have b8 : (K == 8) = false := by rw [beq_eq_false_iff_ne]; exact h8
 by_cases h9 : K = 9
 ·subst h9
  go_enter Tryz.func56, Tryz.ntmps56
  go_wp2_with (refine wpList_box_blk rfl 86 _ rfl (orc (C, Q, 9, P, V, R, S, T)) rfl ?_)
  intro w1 b1 b2 b3
  go_wp2_with (refine wpList_alloc_blk rfl 86 rfl (orc or0) zeroOrP ?_)
  intro w2 a1 a2 a3
  obtain ⟨g0, hg0⟩ : ∃ g, w.heap.size = g := ⟨_, rfl⟩
  obtain ⟨g1, hg1⟩ : ∃ g, w.heap.size + 1 = g := ⟨_, rfl⟩
  have X0 := lhd (b1.below a3 (by omega))
  have X1 := lhd a1
  have HB := lhd (b3.trans (a3.mono (by omega)))
  have hw1 : g0 ≤ g1 := by omega
  have hne : g1 ≠ g0 := by omega
  rw [hg1] at X1 ⊢
  rw [hg0] at X0 HB ⊢
  have c2 : w2.cell? ⟨g0, 2, none⟩ = some (.int .i64 9) := X0.out.at_ 2 _ rfl
  clear b1 b2 b3 a1 a2 a3
  go_wp2_with (refine wpList_store_fld rfl 3 _ _ rfl g0 7 (orc (C, Q, 9, P, V, R, S, T)) (.int .i64 0) 86 rfl rfl X0.out szInt1 (Nat.lt_of_lt_of_le (by decide) (Nat.le_refl 8)) rfl ?_)
  intro u0 e1 e2 e3 e4
  have X0 := lhd e1
  have X1 := lhd (show Blk _ _ _ _ from (e4 g1 hne).trans X1.out)
  have HB := lhd (HB.out.trans e3)
  clear e1 e2 e3 e4 c2
  have X0 : Hid (Blk _ g0 (orc (wuO (C, Q, 9, P, V, R, S, T))) 86) := X0.out
  have d0 := X0.out.at_ 0 _ rfl
  have d1 := X0.out.at_ 1 _ rfl
  have d2 := X0.out.at_ 2 _ rfl
  have d3 := X0.out.at_ 3 _ rfl
  have d4 := X0.out.at_ 4 _ rfl
  have d5 := X0.out.at_ 5 _ rfl
  have d6 := X0.out.at_ 6 _ rfl
  have d7 := X0.out.at_ 7 _ rfl
  obtain ⟨Z, hZ⟩ : ∃ Z, wuO (C, Q, 9, P, V, R, S, T) = Z := ⟨_, rfl⟩
  rw [hZ] at X0 d0 d1 d2 d3 d4 d5 d6 d7
  have HZ := lhd hZ
  clear hZ
  go_wp2_with (refine wpList_store_to rfl 86 _ _ rfl g1 (orc Z) (orc or0) 86 rfl rfl X1.out szOrP rfl (orc_all _) ?_)
  intro w20 e1 e2 e3 e4
  go_wp2
  refine bodyPost_ret (v := .agg (orc Z).toArray) ?_ rfl ?_
  ·exact ret_blkUL rfl _ _ g1 86 (orc Z) rfl e1 d30 HU.out HD.out szOrP
  ·refine ⟨by rw [HZ.out], ?_⟩
   rw [hg0]
   exact HB.out.trans (e3.mono hw1)
 have b9 : (K == 9) = false := by rw [beq_eq_false_iff_ne]; exact h9
 have HWU : Hid (wuO (C, Q, K, P, V, R, S, T) = (C, Q, K, P, V, R, S, T)) := by
  show _ = _
  unfold wuO
  simp [h1, h3, h4, h2, h5, h10, h11, h6, h7, h8, h9]
 clear h1 h3 h4 h2 h5 h10 h11 h6 h7 h8 h9
 go_enter Tryz.func56, Tryz.ntmps56
 go_wp2_with (refine wpList_box_blk rfl 86 _ rfl (orc (C, Q, K, P, V, R, S, T)) rfl ?_)
 intro w1 b1 b2 b3
 go_wp2_with (refine wpList_alloc_blk rfl 86 rfl (orc or0) zeroOrP ?_)
 intro w2 a1 a2 a3
 obtain ⟨g0, hg0⟩ : ∃ g, w.heap.size = g := ⟨_, rfl⟩
 obtain ⟨g1, hg1⟩ : ∃ g, w.heap.size + 1 = g := ⟨_, rfl⟩
 have X0 := lhd (b1.below a3 (by omega))
 have X1 := lhd a1
 have HB := lhd (b3.trans (a3.mono (by omega)))
 have hw1 : g0 ≤ g1 := by omega
 have hne : g1 ≠ g0 := by omega
 rw [hg1] at X1 ⊢
 rw [hg0] at X0 HB ⊢
 have c2 : w2.cell? ⟨g0, 2, none⟩ = some (.int .i64 K) := X0.out.at_ 2 _ rfl
 clear b1 b2 b3 a1 a2 a3
 clear c2
 have d0 := X0.out.at_ 0 _ rfl
 have d1 := X0.out.at_ 1 _ rfl
 have d3 := X0.out.at_ 3 _ rfl
 have d4 := X0.out.at_ 4 _ rfl
 have d5 := X0.out.at_ 5 _ rfl
 have d6 := X0.out.at_ 6 _ rfl
 have d7 := X0.out.at_ 7 _ rfl
 have d2 : w2.cell? ⟨g0, 2, none⟩ = some (.int .i64 K) := X0.out.at_ 2 _ rfl
 go_wp2_with (refine wpList_store_to rfl 86 _ _ rfl g1 (orc (C, Q, K, P, V, R, S, T)) (orc or0) 86 rfl rfl X1.out szOrP rfl (orc_all _) ?_)
 intro w20 e1 e2 e3 e4
 go_wp2
 refine bodyPost_ret (v := .agg (orc (C, Q, K, P, V, R, S, T)).toArray) ?_ rfl ?_
 ·exact ret_blkUL rfl _ _ g1 86 (orc (C, Q, K, P, V, R, S, T)) rfl e1 d30 HU.out HD.out szOrP
 ·refine ⟨by rw [HWU.out], ?_⟩
  rw [hg0]
  exact HB.out.trans (e3.mono hw1)
set_option maxRecDepth 1000000 in
theorem orMay_any (o : Or) (w : World) : Calls Tryz.prog 29 #[.agg (orc o).toArray] w (One (.bool (mayO o)) w) := by
 obtain ⟨B, hB⟩ : ∃ B, mayO o = B := ⟨_, rfl⟩
 have HB := lhd hB
 rw [hB]
 obtain ⟨kp, hkp⟩ : ∃ k, (oP o).length = k := ⟨_, rfl⟩
 have hkz : (⟨(oP o).toArray⟩ : ByteArray).size = kp := hkp
 obtain ⟨kv, hkv⟩ : ∃ k, (oV o).length = k := ⟨_, rfl⟩
 have hvz : (⟨(oV o).toArray⟩ : ByteArray).size = kv := hkv
 have HKP := lhd hkp
 have HKV := lhd hkv
 clear hB hkp hkv
 obtain ⟨d30, hu30, hd30⟩ := rowOrP
 have HU := lhd hu30
 have HD := lhd hd30
 clear hu30 hd30
 go_enter Tryz.func29, Tryz.ntmps29
 go_wp2_with (refine wpList_box_blk rfl 86 _ rfl (orc o) rfl ?_)
 intro y0 b1 b2 b3
 obtain ⟨gb0, hg⟩ : ∃ g, w.heap.size = g := ⟨_, rfl⟩
 have X0 := lhd b1
 have EB0 := lhd b3
 rw [hg] at X0 ⊢
 clear b1 b2 b3 hg
 have c_X0 := X0.out.at_ 0 _ rfl
 have c_X0_1 := X0.out.at_ 1 _ rfl
 have c_X0_2 := X0.out.at_ 2 _ rfl
 have c_X0_3 := X0.out.at_ 3 _ rfl
 have c_X0_4 := X0.out.at_ 4 _ rfl
 have c_X0_5 := X0.out.at_ 5 _ rfl
 have c_X0_6 := X0.out.at_ 6 _ rfl
 have c_X0_7 := X0.out.at_ 7 _ rfl
 by_cases h0 : oC o < 0
 ·have HF : Hid (B = false) := by
   show _ = _
   rw [← HB.out, Bool.eq_false_iff]
   intro hm
   obtain ⟨m1, m2, m3, m4, m5, m6, m7, m8⟩ := may_sized hm
   rw [HKP.out] at m7
   rw [HKV.out] at m8
   omega
  go_wp2
  go_ret
  exact ⟨by rw [HF.out]; rfl, EB0.out⟩
 by_cases h1 : (1000 : Int) < oC o
 ·have HF : Hid (B = false) := by
   show _ = _
   rw [← HB.out, Bool.eq_false_iff]
   intro hm
   obtain ⟨m1, m2, m3, m4, m5, m6, m7, m8⟩ := may_sized hm
   rw [HKP.out] at m7
   rw [HKV.out] at m8
   omega
  go_wp2
  go_ret
  exact ⟨by rw [HF.out]; rfl, EB0.out⟩
 by_cases h2 : oQ o < 1
 ·have HF : Hid (B = false) := by
   show _ = _
   rw [← HB.out, Bool.eq_false_iff]
   intro hm
   obtain ⟨m1, m2, m3, m4, m5, m6, m7, m8⟩ := may_sized hm
   rw [HKP.out] at m7
   rw [HKV.out] at m8
   omega
  go_wp2
  go_ret
  exact ⟨by rw [HF.out]; rfl, EB0.out⟩
 by_cases h3 : (1000000000 : Int) < oQ o
 ·have HF : Hid (B = false) := by
   show _ = _
   rw [← HB.out, Bool.eq_false_iff]
   intro hm
   obtain ⟨m1, m2, m3, m4, m5, m6, m7, m8⟩ := may_sized hm
   rw [HKP.out] at m7
   rw [HKV.out] at m8
   omega
  go_wp2
  go_ret
  exact ⟨by rw [HF.out]; rfl, EB0.out⟩
 by_cases h4 : oK o < 0
 ·have HF : Hid (B = false) := by
   show _ = _
   rw [← HB.out, Bool.eq_false_iff]
   intro hm
   obtain ⟨m1, m2, m3, m4, m5, m6, m7, m8⟩ := may_sized hm
   rw [HKP.out] at m7
   rw [HKV.out] at m8
   omega
  go_wp2
  go_ret
  exact ⟨by rw [HF.out]; rfl, EB0.out⟩
 by_cases h5 : (11 : Int) < oK o
 ·have HF : Hid (B = false) := by
   show _ = _
   rw [← HB.out, Bool.eq_false_iff]
   intro hm
   obtain ⟨m1, m2, m3, m4, m5, m6, m7, m8⟩ := may_sized hm
   rw [HKP.out] at m7
   rw [HKV.out] at m8
   omega
  go_wp2
  go_ret
  exact ⟨by rw [HF.out]; rfl, EB0.out⟩
 by_cases h6 : (100 : Int) < (kp : Int)
 ·have HF : Hid (B = false) := by
   show _ = _
   rw [← HB.out, Bool.eq_false_iff]
   intro hm
   obtain ⟨m1, m2, m3, m4, m5, m6, m7, m8⟩ := may_sized hm
   rw [HKP.out] at m7
   rw [HKV.out] at m8
   omega
  go_wp2
  go_ret
  exact ⟨by rw [HF.out]; rfl, EB0.out⟩
 by_cases h7 : (1000 : Int) < (kv : Int)
 ·have HF : Hid (B = false) := by
   show _ = _
   rw [← HB.out, Bool.eq_false_iff]
   intro hm
   obtain ⟨m1, m2, m3, m4, m5, m6, m7, m8⟩ := may_sized hm
   rw [HKP.out] at m7
   rw [HKV.out] at m8
   omega
  go_wp2
  go_ret
  exact ⟨by rw [HF.out]; rfl, EB0.out⟩
 have HBW : Hid (B = decide (wuO o = (oC o, oQ o, oK o, [], [], 0, 0, 0))) := by
  have h9 := HKP.out
  have h10 := HKV.out
  show _ = _
  rw [← HB.out]
  refine may_wu o ?_
  unfold sizedO
  simp only [Bool.and_eq_true, decide_eq_true_eq]
  omega
 go_wp2
 clear h0 h1 h2 h3 h4 h5 h6 h7
 clear c_X0 c_X0_1 c_X0_2 c_X0_3 c_X0_4 c_X0_5 c_X0_6 c_X0_7
 have ZX0 := lhd X0.out
 refine wp_region_rely2 11 0 (fun x => ⟨#[.agg (orc o).toArray, .pointer (some { block := gb0, off := 0 }), x 10, .pointer (some { block := gb0, off := 0 }), .int IntKind.i64 (oC o), .bool false, .bool false, .pointer (some { block := gb0, off := 0 }), .int IntKind.i64 (oC o), .bool false, .bool false, .bool false, .pointer (some { block := gb0, off := 1 }), .int IntKind.i64 (oQ o), .bool false, .bool false, .bool false, .pointer (some { block := gb0, off := 1 }), .int IntKind.i64 (oQ o), .bool false, .bool false, .pointer (some { block := gb0, off := 2 }), .int IntKind.i64 (oK o), .bool false, .bool false, .pointer (some { block := gb0, off := 2 }), .int IntKind.i64 (oK o), .bool false, .bool false, .pointer (some { block := gb0, off := 3 }), txt (oP o), .int IntKind.i64 (kp : Int), .bool false, .bool false, .pointer (some { block := gb0, off := 4 }), txt (oV o), .int IntKind.i64 (kv : Int), .bool false, .bool false, x 0, x 1, x 2, x 3, x 4, x 5, x 6, x 7, x 8, x 9], []⟩) (fun jj => ([eqV (.agg (orc o).toArray), (eqV (.agg (orc (wuO o)).toArray)), eqV (.pointer (some ⟨gb0, 0, none⟩)), eqV (.int .i64 (oC o)), eqV (.pointer (some ⟨gb0, 1, none⟩)), eqV (.int .i64 (oQ o)), eqV (.pointer (some ⟨gb0, 2, none⟩)), eqV (.int .i64 (oK o)), eqV (.agg (orc (oC o, oQ o, oK o, [], [], 0, 0, 0)).toArray), eqV (.bool B), eqV (.bool B)] : List (Value → World → Prop)).getD jj (fun _ _ => True)) rfl ⟨fun kk => [_, _, _, _, _, _, _, _, _, _, _].getD kk undef, rfl⟩ (by kernel_rfl) (by kernel_rfl) ?steps ?fin
 case steps =>
  refine StepsAt.val 0 (.agg (orc o).toArray) rfl (fun _ _ => rfl) rfl rfl (fun x wx hb hd => ?_) ?_
  ·have d0 := (ZX0.out.below hb ZX0.out.lt).at_ 0 _ rfl
   have d1 := (ZX0.out.below hb ZX0.out.lt).at_ 1 _ rfl
   have d2 := (ZX0.out.below hb ZX0.out.lt).at_ 2 _ rfl
   have d3 := (ZX0.out.below hb ZX0.out.lt).at_ 3 _ rfl
   have d4 := (ZX0.out.below hb ZX0.out.lt).at_ 4 _ rfl
   have d5 := (ZX0.out.below hb ZX0.out.lt).at_ 5 _ rfl
   have d6 := (ZX0.out.below hb ZX0.out.lt).at_ 6 _ rfl
   have d7 := (ZX0.out.below hb ZX0.out.lt).at_ 7 _ rfl
   (go_simp; try rfl)
  refine StepsAt.cons 1 (fun _ _ _ h hb => h) (fun _ _ => rfl) rfl rfl (fun x wx hb hd K hK => ?_) ?_
  ·have h0 : Hid (x 0 = .agg (orc o).toArray) := hd 0 (by kernel_rfl)
   go_simp
   refine calls_args (args2 := #[.agg (orc o).toArray]) (by rw [h0.out]) ?_
   refine (wu_any o _).mono ?_
   rintro e w99 ⟨rfl, hb99⟩
   exact hK.out _ _ hb99 rfl
  refine StepsAt.val 2 (.pointer (some ⟨gb0, 0, none⟩)) rfl (fun _ _ => rfl) rfl rfl (fun x wx hb hd => ?_) ?_
  ·(go_simp; try rfl)
  refine StepsAt.val 3 (.int .i64 (oC o)) rfl (fun _ _ => rfl) rfl rfl (fun x wx hb hd => ?_) ?_
  ·have h2 : x 2 = .pointer (some ⟨gb0, 0, none⟩) := hd 2 (by kernel_rfl)
   have cc := ((ZX0.out.below hb ZX0.out.lt).cell 0).trans (show _ = some (.int .i64 (oC o)) from rfl)
   rw [h2]
   (go_simp; try rfl)
  refine StepsAt.val 4 (.pointer (some ⟨gb0, 1, none⟩)) rfl (fun _ _ => rfl) rfl rfl (fun x wx hb hd => ?_) ?_
  ·(go_simp; try rfl)
  refine StepsAt.val 5 (.int .i64 (oQ o)) rfl (fun _ _ => rfl) rfl rfl (fun x wx hb hd => ?_) ?_
  ·have h4 : x 4 = .pointer (some ⟨gb0, 1, none⟩) := hd 4 (by kernel_rfl)
   have cc := ((ZX0.out.below hb ZX0.out.lt).cell 1).trans (show _ = some (.int .i64 (oQ o)) from rfl)
   rw [h4]
   (go_simp; try rfl)
  refine StepsAt.val 6 (.pointer (some ⟨gb0, 2, none⟩)) rfl (fun _ _ => rfl) rfl rfl (fun x wx hb hd => ?_) ?_
  ·(go_simp; try rfl)
  refine StepsAt.val 7 (.int .i64 (oK o)) rfl (fun _ _ => rfl) rfl rfl (fun x wx hb hd => ?_) ?_
  ·have h6 : x 6 = .pointer (some ⟨gb0, 2, none⟩) := hd 6 (by kernel_rfl)
   have cc := ((ZX0.out.below hb ZX0.out.lt).cell 2).trans (show _ = some (.int .i64 (oK o)) from rfl)
   rw [h6]
   (go_simp; try rfl)
  refine StepsAt.val 8 (.agg (orc (oC o, oQ o, oK o, [], [], 0, 0, 0)).toArray) rfl (fun _ _ => rfl) rfl rfl (fun x wx hb hd => ?_) ?_
  ·have h3 : x 3 = .int .i64 (oC o) := hd 3 (by kernel_rfl)
   have h5 : x 5 = .int .i64 (oQ o) := hd 5 (by kernel_rfl)
   have h7 : x 7 = .int .i64 (oK o) := hd 7 (by kernel_rfl)
   rw [h3, h5, h7]
   (go_simp; try rfl)
  refine StepsAt.val 9 (.bool B) rfl (fun _ _ => rfl) rfl rfl (fun x wx hb hd => ?_) ?_
  ·have h1 : x 1 = .agg (orc (wuO o)).toArray := hd 1 (by kernel_rfl)
   have h8 : x 8 = .agg (orc (oC o, oQ o, oK o, [], [], 0, 0, 0)).toArray := hd 8 (by kernel_rfl)
   have heq := run_eqlOrP (wuO o) (oC o, oQ o, oK o, [], [], 0, 0, 0)
   rw [← HBW.out] at heq
   have e1 : x 1 = .agg #[.int .i64 (oC (wuO o)), .int .i64 (oQ (wuO o)), .int .i64 (oK (wuO o)), txt (oP (wuO o)), txt (oV (wuO o)), .int .i64 (oR (wuO o)), .int .i64 (oS (wuO o)), .int .i64 (oT (wuO o))] := h1
   have e8 : x 8 = .agg #[.int .i64 (oC (oC o, oQ o, oK o, [], [], 0, 0, 0)), .int .i64 (oQ (oC o, oQ o, oK o, [], [], 0, 0, 0)), .int .i64 (oK (oC o, oQ o, oK o, [], [], 0, 0, 0)), txt (oP (oC o, oQ o, oK o, [], [], 0, 0, 0)), txt (oV (oC o, oQ o, oK o, [], [], 0, 0, 0)), .int .i64 (oR (oC o, oQ o, oK o, [], [], 0, 0, 0)), .int .i64 (oS (oC o, oQ o, oK o, [], [], 0, 0, 0)), .int .i64 (oT (oC o, oQ o, oK o, [], [], 0, 0, 0))] := h8
   rw [e1, e8]
   (go_simp; try rfl)
  refine StepsAt.val 10 (.bool B) rfl (fun _ _ => rfl) rfl rfl (fun x wx hb hd => ?_) ?_
  ·have h9 : x 9 = .bool B := hd 9 (by kernel_rfl)
   rw [h9]
   (go_simp; try rfl)
  exact StepsAt.done
 case fin =>
  intro x wx hb hd
  have hx0 : x 0 = .agg (orc o).toArray := hd 0 (by omega)
  have hx1 : x 1 = .agg (orc (wuO o)).toArray := hd 1 (by omega)
  have hx2 : x 2 = .pointer (some ⟨gb0, 0, none⟩) := hd 2 (by omega)
  have hx3 : x 3 = .int .i64 (oC o) := hd 3 (by omega)
  have hx4 : x 4 = .pointer (some ⟨gb0, 1, none⟩) := hd 4 (by omega)
  have hx5 : x 5 = .int .i64 (oQ o) := hd 5 (by omega)
  have hx6 : x 6 = .pointer (some ⟨gb0, 2, none⟩) := hd 6 (by omega)
  have hx7 : x 7 = .int .i64 (oK o) := hd 7 (by omega)
  have hx8 : x 8 = .agg (orc (oC o, oQ o, oK o, [], [], 0, 0, 0)).toArray := hd 8 (by omega)
  have hx9 : x 9 = .bool B := hd 9 (by omega)
  have hx10 : x 10 = .bool B := hd 10 (by omega)
  refine AnyTill.any (S := fun _ => True) (m := 11) _ _ _ _ ?_
  refine AnyTill.done (by kernel_rfl) ?_
  refine NoPanic.normal ?_
  try dsimp only
  rw [hx0, hx1, hx2, hx3, hx4, hx5, hx6, hx7, hx8, hx9, hx10]
  have EF := lhd hb
  clear hx0 hx1 hx2 hx3 hx4 hx5 hx6 hx7 hx8 hx9 hx10 hd hb
  have P1_w := lhd (EB0.out.trans (EF.out.mono EB0.out.size))
  go_wp2
  go_ret
  exact ⟨rfl, P1_w.out⟩
end Go.Proofs.YtgfobinklijkpaaGreatDoor
