/-
  The laws SizeQuorums and SizeTells, walked: they answer true for every size and all numbers.
-/
import Derived.Test.YtgabkeohihdenaaZB
namespace Go.Proofs.Ytgabkeohihdenaa
open Go.RowKit

theorem SFit.cases {f t : Nat} (h : SFit f t) : (f = 1 ∧ t = 0) ∨ (f = 1 ∧ t = 1) ∨ (f = 2 ∧ t = 0) ∨ (f = 2 ∧ t = 1) ∨ (f = 2 ∧ t = 2) ∨ (f = 3 ∧ t = 0) ∨ (f = 3 ∧ t = 1) ∨ (f = 3 ∧ t = 2) ∨ (f = 3 ∧ t = 3) ∨
    (f = 4 ∧ t = 0) ∨ (f = 4 ∧ t = 1) ∨ (f = 4 ∧ t = 2) ∨ (f = 4 ∧ t = 3) ∨ (f = 4 ∧ t = 4) ∨ (f = 5 ∧ t = 0) ∨ (f = 5 ∧ t = 1) ∨ (f = 5 ∧ t = 2) ∨ (f = 5 ∧ t = 3) ∨ (f = 5 ∧ t = 4) ∨ (f = 5 ∧ t = 5) := by
  obtain ⟨h1, h2, h3⟩ := h
  have hf : f = 1 ∨ f = 2 ∨ f = 3 ∨ f = 4 ∨ f = 5 := by omega
  have ht : t = 0 ∨ t = 1 ∨ t = 2 ∨ t = 3 ∨ t = 4 ∨ t = 5 := by omega
  rcases hf with rfl | rfl | rfl | rfl | rfl <;> rcases ht with rfl | rfl | rfl | rfl | rfl | rfl <;> first | (exfalso; omega) | simp
theorem quo_facts {f t : Nat} (h : SFit f t) : (f : Int) < mtI ((nN f t : Nat) : Int) ((nProof f t : Nat) : Int) ((nProof f t : Nat) : Int) ∧ (f : Int) < mtI ((nN f t : Nat) : Int) ((nFast f t : Nat) : Int) ((nProof f t : Nat) : Int) ∧
    ((nVouch f t : Nat) : Int) + f ≤ mtI ((nN f t : Nat) : Int) ((nMost f t : Nat) : Int) ((nFast f t : Nat) : Int) ∧ (t : Int) + 1 ≤ ((nMost f t : Nat) : Int) - f + ((nProof f t : Nat) : Int) - f - ((nMost f t : Nat) : Int) ∧ ((nMost f t : Nat) : Int) < 2 * ((nVouch f t : Nat) : Int) := by
  rcases h.cases with ⟨rfl, rfl⟩ | ⟨rfl, rfl⟩ | ⟨rfl, rfl⟩ | ⟨rfl, rfl⟩ | ⟨rfl, rfl⟩ | ⟨rfl, rfl⟩ | ⟨rfl, rfl⟩ | ⟨rfl, rfl⟩ | ⟨rfl, rfl⟩ | ⟨rfl, rfl⟩ | ⟨rfl, rfl⟩ | ⟨rfl, rfl⟩ | ⟨rfl, rfl⟩ | ⟨rfl, rfl⟩ | ⟨rfl, rfl⟩ | ⟨rfl, rfl⟩ | ⟨rfl, rfl⟩ | ⟨rfl, rfl⟩ | ⟨rfl, rfl⟩ | ⟨rfl, rfl⟩ <;> decide
theorem wpList_buildG {P : Program} {w : World} {ops : Array Oper} {rest : List Oper} {o : Oper} {a : Act} {Q : Exit → Act → World → Prop} (t : TypeId) (parts : Array (Nat × Operand)) (ho : o.op = .build t parts)
    (cells : Array Value) (hf : P.built t (parts.map fun (i, x) => (i, a.eval x)).toList = some cells) (hw : Region.wanted o (yielded ops a.tmps) = true)
    (h : wpList P ops Q rest (a.put o.dst (.agg cells)) w) : wpList P ops Q (o :: rest) a w :=
  wpList_runG (.agg cells) (by unfold execOp; simp only [ho, Sem.run_bind, run_build w t _ _ hf, Result.andThen_ok]; rfl) hw h

set_option maxRecDepth 100000 in
set_option maxHeartbeats 2000000 in
theorem quorums_no (f t : Int) (w : World) (hf : szB f t = false) : Calls Try.prog 5 #[.agg (szl f t).toArray] w (One (.bool true) w) := by
  have HY := Lib.hid hf
  clear hf
  obtain ⟨d, hud, hdd⟩ := rowSize
  have HUd := Lib.hid hud
  have HDd := Lib.hid hdd
  clear hud hdd
  go_enter Try.func5, Try.ntmps5
  go_wp2_with (refine wpList_box_blk rfl 23 _ rfl (szl f t) rfl ?_)
  intro w1 a1 a2 a3
  obtain ⟨g1, hg1⟩ : ∃ g, w.heap.size = g := ⟨_, rfl⟩
  have A1 : Hid (Blk w1 g1 (szl f t) 23) := by rw [← hg1]; exact a1
  have A3 := Lib.hid a3
  rw [hg1]
  clear a1 a2 a3 hg1
  go_wp2_with (refine wpList_load_blkU rfl 23 _ rfl g1 rfl (szl f t) 23 A1.out d HUd.out HDd.out (sSize _ _) ?_)
  refine (rightS_any _ _ _).mono ?_
  rintro e w2 ⟨rfl, hb⟩
  rw [HY.out]
  have B1 : Hid (Blk w2 g1 (szl f t) 23) := A1.out.below hb A1.out.lt
  have B3 : Hid (Below w.heap.size w w2) := A3.out.trans (hb.mono A3.out.size)
  clear hb A1 A3
  go_wp2_with fail
  refine (alive7_any _).mono ?_
  rintro e w3 ⟨rfl, hb⟩
  have Z3 : Hid (Below w.heap.size w w3) := B3.out.trans (hb.mono B3.out.size)
  clear hb
  go_wp2
  go_ret
  exact ⟨rfl, Z3.out⟩

set_option maxRecDepth 100000 in
set_option maxHeartbeats 2000000 in
theorem quorums_yes (f t : Nat) (w : World) (hf : SFit f t) : Calls Try.prog 5 #[.agg (szl (f : Int) (t : Int)).toArray] w (One (.bool true) w) := by
  have HF := Lib.hid hf
  have HY := Lib.hid hf.yes
  obtain ⟨f1, f5, tf⟩ := hf
  obtain ⟨N, hN⟩ : ∃ x : Int, ((nN f t : Nat) : Int) = x := ⟨_, rfl⟩
  obtain ⟨FA, hFA⟩ : ∃ x : Int, ((nFast f t : Nat) : Int) = x := ⟨_, rfl⟩
  obtain ⟨PR, hPR⟩ : ∃ x : Int, ((nProof f t : Nat) : Int) = x := ⟨_, rfl⟩
  obtain ⟨MO, hMO⟩ : ∃ x : Int, ((nMost f t : Nat) : Int) = x := ⟨_, rfl⟩
  obtain ⟨VO, hVO⟩ : ∃ x : Int, ((nVouch f t : Nat) : Int) = x := ⟨_, rfl⟩
  obtain ⟨WE, hWE⟩ : ∃ x : Int, ((nWeak f t : Nat) : Int) = x := ⟨_, rfl⟩
  have HN := Lib.hid hN
  have HFA := Lib.hid hFA
  have HPR := Lib.hid hPR
  have HMO := Lib.hid hMO
  have HVO := Lib.hid hVO
  have HWE := Lib.hid hWE
  obtain ⟨M1, hM1⟩ : ∃ x : Int, mtI N PR PR = x := ⟨_, rfl⟩
  obtain ⟨M2, hM2⟩ : ∃ x : Int, mtI N FA PR = x := ⟨_, rfl⟩
  obtain ⟨M3, hM3⟩ : ∃ x : Int, mtI N MO FA = x := ⟨_, rfl⟩
  have HM1 := Lib.hid hM1
  have HM2 := Lib.hid hM2
  have HM3 := Lib.hid hM3
  obtain ⟨S1, hS1⟩ : ∃ x : Int, VO + (f : Int) = x := ⟨_, rfl⟩
  obtain ⟨S2, hS2⟩ : ∃ x : Int, MO - (f : Int) = x := ⟨_, rfl⟩
  obtain ⟨S3, hS3⟩ : ∃ x : Int, S2 + PR = x := ⟨_, rfl⟩
  obtain ⟨S4, hS4⟩ : ∃ x : Int, S3 - (f : Int) = x := ⟨_, rfl⟩
  obtain ⟨S5, hS5⟩ : ∃ x : Int, S4 - MO = x := ⟨_, rfl⟩
  obtain ⟨S6, hS6⟩ : ∃ x : Int, (t : Int) + 1 = x := ⟨_, rfl⟩
  obtain ⟨S7, hS7⟩ : ∃ x : Int, 2 * VO = x := ⟨_, rfl⟩
  have ZZ : Hid ((f : Int) < M1 ∧ (f : Int) < M2 ∧ S1 ≤ M3 ∧ S6 ≤ S5 ∧ MO < S7) := by
    show _ ∧ _
    have QF := quo_facts ⟨f1, f5, tf⟩
    rw [hN, hFA, hPR, hMO, hVO, hM1, hM2, hM3, hS1, hS2, hS3, hS4, hS5, hS6, hS7] at QF
    exact QF
  have ZB : Hid ((0 ≤ S1 ∧ S1 ≤ 1000) ∧ (0 ≤ S2 ∧ S2 ≤ 1000) ∧ (0 ≤ S3 ∧ S3 ≤ 1000) ∧ (0 ≤ S4 ∧ S4 ≤ 1000) ∧ (0 ≤ S5 ∧ S5 ≤ 1000) ∧ (0 ≤ S6 ∧ S6 ≤ 1000) ∧ (0 ≤ S7 ∧ S7 ≤ 1000)) := by
    show _ ∧ _
    unfold nN at hN
    unfold nFast at hFA
    unfold nProof at hPR
    unfold nMost at hMO
    unfold nVouch at hVO
    omega
  have HS1 := Lib.hid hS1
  have HS2 := Lib.hid hS2
  have HS3 := Lib.hid hS3
  have HS4 := Lib.hid hS4
  have HS5 := Lib.hid hS5
  have HS6 := Lib.hid hS6
  have HS7 := Lib.hid hS7
  clear hN hFA hPR hMO hVO hWE hM1 hM2 hM3 hS1 hS2 hS3 hS4 hS5 hS6 hS7 f1 f5 tf
  obtain ⟨d, hud, hdd⟩ := rowSize
  have HUd := Lib.hid hud
  have HDd := Lib.hid hdd
  clear hud hdd
  go_enter Try.func5, Try.ntmps5
  go_wp2_with (refine wpList_box_blk rfl 23 _ rfl (szl (f : Int) (t : Int)) rfl ?_)
  intro w1 a1 a2 a3
  obtain ⟨g1, hg1⟩ : ∃ g, w.heap.size = g := ⟨_, rfl⟩
  have A1 : Hid (Blk w1 g1 (szl (f : Int) (t : Int)) 23) := by rw [← hg1]; exact a1
  have A3 := Lib.hid a3
  rw [hg1]
  clear a1 a2 a3 hg1
  go_wp2_with (refine wpList_load_blkU rfl 23 _ rfl g1 rfl (szl (f : Int) (t : Int)) 23 A1.out d HUd.out HDd.out (sSize _ _) ?_)
  refine (rightS_any _ _ _).mono ?_
  rintro e w2 ⟨rfl, hb⟩
  rw [HY.out]
  have B1 : Hid (Blk w2 g1 (szl (f : Int) (t : Int)) 23) := A1.out.below hb A1.out.lt
  have B3 : Hid (Below w.heap.size w w2) := A3.out.trans (hb.mono A3.out.size)
  clear hb A1 A3
  go_wp2_with fail
  refine wp_region_rely2 18 0 (fun x => ⟨#[Value.agg (szl ↑f ↑t).toArray, Value.pointer (some { block := g1, off := 0 }), Value.bool false, x 12, x 13, x 14, x 15, x 16, x 17, undef, undef, undef, Value.agg (szl ↑f ↑t).toArray, Value.bool true, Value.bool false, undef, x 0, x 1, x 2, x 3, x 4, x 5, x 6, x 7, x 8, x 9, x 10, x 11, undef, undef, undef, undef, undef, undef, undef, undef, undef, undef, undef, undef, undef, undef, undef, undef, undef, undef, undef, undef, undef, undef, undef, undef, undef, undef, undef, undef, undef, undef, undef, undef, undef, undef, undef, undef, undef, undef, undef, undef, undef, undef, undef, undef, undef, undef, undef, undef, undef, undef, undef, undef, undef, undef, undef, undef, undef, undef, undef, undef, undef, undef, undef, undef, undef, undef, undef, undef, undef, undef, undef, undef, undef, undef, undef, undef, undef, undef, undef, undef, undef, undef, undef, undef, undef, undef, undef, undef, undef, undef, undef, undef, undef, undef, undef, undef, undef, undef, undef, undef, undef, undef, undef, undef], []⟩) (fun jj => ([eqV (.agg (szl (f : Int) (t : Int)).toArray), (eqV (.int .i64 N)), eqV (.agg (szl (f : Int) (t : Int)).toArray), (eqV (.int .i64 FA)), eqV (.agg (szl (f : Int) (t : Int)).toArray), (eqV (.int .i64 PR)), eqV (.agg (szl (f : Int) (t : Int)).toArray), (eqV (.int .i64 MO)), eqV (.agg (szl (f : Int) (t : Int)).toArray), (eqV (.int .i64 VO)), eqV (.agg (szl (f : Int) (t : Int)).toArray), (eqV (.int .i64 WE)), eqV (.int .i64 N), eqV (.int .i64 FA), eqV (.int .i64 PR), eqV (.int .i64 MO), eqV (.int .i64 VO), eqV (.int .i64 WE)] : List (Value → World → Prop)).getD jj (fun _ _ => True)) rfl ⟨fun kk => [_, _, _, _, _, _, _, _, _, _, _, _, _, _, _, _, _, _].getD kk undef, rfl⟩ (by kernel_rfl) (by kernel_rfl) ?steps ?fin
  case steps =>
    refine StepsAt.val 0 (.agg (szl (f : Int) (t : Int)).toArray) rfl (fun _ _ => rfl) rfl rfl (fun x w3 hb hd => ?_) ?_
    · exact run_load_blkU 23 (.tmp 1) rfl g1 rfl (szl (f : Int) (t : Int)) 23 (B1.out.below hb B1.out.lt) d HUd.out HDd.out (sSize _ _)
    refine StepsAt.cons 1 (fun _ _ _ h hb => h) (fun _ _ => rfl) rfl rfl (fun x w3 hb hd K hK => ?_) ?_
    · have h0 : Hid (x 0 = .agg (szl (f : Int) (t : Int)).toArray) := hd 0 (by kernel_rfl)
      go_simp
      refine calls_args (args2 := #[.agg (szl (f : Int) (t : Int)).toArray]) (by rw [h0.out]) ?_
      refine (nN_any f t _ HF.out).mono ?_
      rintro e w99 ⟨rfl, hb99⟩
      rw [HN.out]
      exact hK.out _ _ hb99 rfl
    refine StepsAt.val 2 (.agg (szl (f : Int) (t : Int)).toArray) rfl (fun _ _ => rfl) rfl rfl (fun x w3 hb hd => ?_) ?_
    · exact run_load_blkU 23 (.tmp 1) rfl g1 rfl (szl (f : Int) (t : Int)) 23 (B1.out.below hb B1.out.lt) d HUd.out HDd.out (sSize _ _)
    refine StepsAt.cons 3 (fun _ _ _ h hb => h) (fun _ _ => rfl) rfl rfl (fun x w3 hb hd K hK => ?_) ?_
    · have h2 : Hid (x 2 = .agg (szl (f : Int) (t : Int)).toArray) := hd 2 (by kernel_rfl)
      go_simp
      refine calls_args (args2 := #[.agg (szl (f : Int) (t : Int)).toArray]) (by rw [h2.out]) ?_
      refine (nFast_any f t _ HF.out).mono ?_
      rintro e w99 ⟨rfl, hb99⟩
      rw [HFA.out]
      exact hK.out _ _ hb99 rfl
    refine StepsAt.val 4 (.agg (szl (f : Int) (t : Int)).toArray) rfl (fun _ _ => rfl) rfl rfl (fun x w3 hb hd => ?_) ?_
    · exact run_load_blkU 23 (.tmp 1) rfl g1 rfl (szl (f : Int) (t : Int)) 23 (B1.out.below hb B1.out.lt) d HUd.out HDd.out (sSize _ _)
    refine StepsAt.cons 5 (fun _ _ _ h hb => h) (fun _ _ => rfl) rfl rfl (fun x w3 hb hd K hK => ?_) ?_
    · have h4 : Hid (x 4 = .agg (szl (f : Int) (t : Int)).toArray) := hd 4 (by kernel_rfl)
      go_simp
      refine calls_args (args2 := #[.agg (szl (f : Int) (t : Int)).toArray]) (by rw [h4.out]) ?_
      refine (nProof_any f t _ HF.out).mono ?_
      rintro e w99 ⟨rfl, hb99⟩
      rw [HPR.out]
      exact hK.out _ _ hb99 rfl
    refine StepsAt.val 6 (.agg (szl (f : Int) (t : Int)).toArray) rfl (fun _ _ => rfl) rfl rfl (fun x w3 hb hd => ?_) ?_
    · exact run_load_blkU 23 (.tmp 1) rfl g1 rfl (szl (f : Int) (t : Int)) 23 (B1.out.below hb B1.out.lt) d HUd.out HDd.out (sSize _ _)
    refine StepsAt.cons 7 (fun _ _ _ h hb => h) (fun _ _ => rfl) rfl rfl (fun x w3 hb hd K hK => ?_) ?_
    · have h6 : Hid (x 6 = .agg (szl (f : Int) (t : Int)).toArray) := hd 6 (by kernel_rfl)
      go_simp
      refine calls_args (args2 := #[.agg (szl (f : Int) (t : Int)).toArray]) (by rw [h6.out]) ?_
      refine (nMost_any f t _ HF.out).mono ?_
      rintro e w99 ⟨rfl, hb99⟩
      rw [HMO.out]
      exact hK.out _ _ hb99 rfl
    refine StepsAt.val 8 (.agg (szl (f : Int) (t : Int)).toArray) rfl (fun _ _ => rfl) rfl rfl (fun x w3 hb hd => ?_) ?_
    · exact run_load_blkU 23 (.tmp 1) rfl g1 rfl (szl (f : Int) (t : Int)) 23 (B1.out.below hb B1.out.lt) d HUd.out HDd.out (sSize _ _)
    refine StepsAt.cons 9 (fun _ _ _ h hb => h) (fun _ _ => rfl) rfl rfl (fun x w3 hb hd K hK => ?_) ?_
    · have h8 : Hid (x 8 = .agg (szl (f : Int) (t : Int)).toArray) := hd 8 (by kernel_rfl)
      go_simp
      refine calls_args (args2 := #[.agg (szl (f : Int) (t : Int)).toArray]) (by rw [h8.out]) ?_
      refine (nVouch_any f t _ HF.out).mono ?_
      rintro e w99 ⟨rfl, hb99⟩
      rw [HVO.out]
      exact hK.out _ _ hb99 rfl
    refine StepsAt.val 10 (.agg (szl (f : Int) (t : Int)).toArray) rfl (fun _ _ => rfl) rfl rfl (fun x w3 hb hd => ?_) ?_
    · exact run_load_blkU 23 (.tmp 1) rfl g1 rfl (szl (f : Int) (t : Int)) 23 (B1.out.below hb B1.out.lt) d HUd.out HDd.out (sSize _ _)
    refine StepsAt.cons 11 (fun _ _ _ h hb => h) (fun _ _ => rfl) rfl rfl (fun x w3 hb hd K hK => ?_) ?_
    · have h10 : Hid (x 10 = .agg (szl (f : Int) (t : Int)).toArray) := hd 10 (by kernel_rfl)
      go_simp
      refine calls_args (args2 := #[.agg (szl (f : Int) (t : Int)).toArray]) (by rw [h10.out]) ?_
      refine (nWeak_any f t _ HF.out).mono ?_
      rintro e w99 ⟨rfl, hb99⟩
      rw [HWE.out]
      exact hK.out _ _ hb99 rfl
    refine StepsAt.val 12 (.int .i64 N) rfl (fun _ _ => rfl) rfl rfl (fun x w3 hb hd => ?_) ?_
    · have h1 : x 1 = .int .i64 N := hd 1 (by kernel_rfl)
      rw [h1]
      first | (go_simp; done) | (go_simp; rfl)
    refine StepsAt.val 13 (.int .i64 FA) rfl (fun _ _ => rfl) rfl rfl (fun x w3 hb hd => ?_) ?_
    · have h3 : x 3 = .int .i64 FA := hd 3 (by kernel_rfl)
      rw [h3]
      first | (go_simp; done) | (go_simp; rfl)
    refine StepsAt.val 14 (.int .i64 PR) rfl (fun _ _ => rfl) rfl rfl (fun x w3 hb hd => ?_) ?_
    · have h5 : x 5 = .int .i64 PR := hd 5 (by kernel_rfl)
      rw [h5]
      first | (go_simp; done) | (go_simp; rfl)
    refine StepsAt.val 15 (.int .i64 MO) rfl (fun _ _ => rfl) rfl rfl (fun x w3 hb hd => ?_) ?_
    · have h7 : x 7 = .int .i64 MO := hd 7 (by kernel_rfl)
      rw [h7]
      first | (go_simp; done) | (go_simp; rfl)
    refine StepsAt.val 16 (.int .i64 VO) rfl (fun _ _ => rfl) rfl rfl (fun x w3 hb hd => ?_) ?_
    · have h9 : x 9 = .int .i64 VO := hd 9 (by kernel_rfl)
      rw [h9]
      first | (go_simp; done) | (go_simp; rfl)
    refine StepsAt.val 17 (.int .i64 WE) rfl (fun _ _ => rfl) rfl rfl (fun x w3 hb hd => ?_) ?_
    · have h11 : x 11 = .int .i64 WE := hd 11 (by kernel_rfl)
      rw [h11]
      first | (go_simp; done) | (go_simp; rfl)
    exact StepsAt.done
  case fin =>
    intro x w3 hb hd
    have hx0 : x 0 = .agg (szl (f : Int) (t : Int)).toArray := hd 0 (by omega)
    have hx1 : x 1 = .int .i64 N := hd 1 (by omega)
    have hx2 : x 2 = .agg (szl (f : Int) (t : Int)).toArray := hd 2 (by omega)
    have hx3 : x 3 = .int .i64 FA := hd 3 (by omega)
    have hx4 : x 4 = .agg (szl (f : Int) (t : Int)).toArray := hd 4 (by omega)
    have hx5 : x 5 = .int .i64 PR := hd 5 (by omega)
    have hx6 : x 6 = .agg (szl (f : Int) (t : Int)).toArray := hd 6 (by omega)
    have hx7 : x 7 = .int .i64 MO := hd 7 (by omega)
    have hx8 : x 8 = .agg (szl (f : Int) (t : Int)).toArray := hd 8 (by omega)
    have hx9 : x 9 = .int .i64 VO := hd 9 (by omega)
    have hx10 : x 10 = .agg (szl (f : Int) (t : Int)).toArray := hd 10 (by omega)
    have hx11 : x 11 = .int .i64 WE := hd 11 (by omega)
    have hx12 : x 12 = .int .i64 N := hd 12 (by omega)
    have hx13 : x 13 = .int .i64 FA := hd 13 (by omega)
    have hx14 : x 14 = .int .i64 PR := hd 14 (by omega)
    have hx15 : x 15 = .int .i64 MO := hd 15 (by omega)
    have hx16 : x 16 = .int .i64 VO := hd 16 (by omega)
    have hx17 : x 17 = .int .i64 WE := hd 17 (by omega)
    refine AnyTill.any (S := fun _ => True) (m := 18) _ _ _ _ ?_
    refine AnyTill.done (by kernel_rfl) ?_
    refine NoPanic.normal ?_
    try dsimp only
    rw [hx0, hx1, hx2, hx3, hx4, hx5, hx6, hx7, hx8, hx9, hx10, hx11, hx12, hx13, hx14, hx15, hx16, hx17]
    have C1 : Hid (Blk w3 g1 (szl (f : Int) (t : Int)) 23) := B1.out.below hb B1.out.lt
    have C3 : Hid (Below w.heap.size w w3) := B3.out.trans (hb.mono B3.out.size)
    clear hd hb hx0 hx1 hx2 hx3 hx4 hx5 hx6 hx7 hx8 hx9 hx10 hx11 hx12 hx13 hx14 hx15 hx16 hx17 B1 B3 x
    go_wp2_with fail
    refine wp_region_rely2 17 0 (fun x => ⟨#[Value.agg (szl ↑f ↑t).toArray, Value.pointer (some { block := g1, off := 0 }), Value.bool false, Value.int IntKind.i64 N, Value.int IntKind.i64 FA, Value.int IntKind.i64 PR, Value.int IntKind.i64 MO, Value.int IntKind.i64 VO, Value.int IntKind.i64 WE, x 16, undef, undef, Value.agg (szl ↑f ↑t).toArray, Value.bool true, Value.bool false, undef, Value.agg (szl ↑f ↑t).toArray, Value.int IntKind.i64 N, Value.agg (szl ↑f ↑t).toArray, Value.int IntKind.i64 FA, Value.agg (szl ↑f ↑t).toArray, Value.int IntKind.i64 PR, Value.agg (szl ↑f ↑t).toArray, Value.int IntKind.i64 MO, Value.agg (szl ↑f ↑t).toArray, Value.int IntKind.i64 VO, Value.agg (szl ↑f ↑t).toArray, Value.int IntKind.i64 WE, x 0, x 1, x 2, x 3, x 4, x 5, x 6, x 7, x 8, x 9, x 10, x 11, x 12, x 13, x 14, x 15, undef, undef, undef, undef, undef, undef, undef, undef, undef, undef, undef, undef, undef, undef, undef, undef, undef, undef, undef, undef, undef, undef, undef, undef, undef, undef, undef, undef, undef, undef, undef, undef, undef, undef, undef, undef, undef, undef, undef, undef, undef, undef, undef, undef, undef, undef, undef, undef, undef, undef, undef, undef, undef, undef, undef, undef, undef, undef, undef, undef, undef, undef, undef, undef, undef, undef, undef, undef, undef, undef, undef, undef, undef, undef, undef, undef, undef, undef, undef, undef, undef, undef, undef, undef, undef, undef, undef, undef], []⟩) (fun jj => ([eqV (.agg (szl (f : Int) (t : Int)).toArray), eqV (Value.int IntKind.i64 PR), eqV (Value.int IntKind.i64 PR), (eqV (.int .i64 M1)), eqV (.pointer (some ⟨g1, 0, none⟩)), eqV (.int .i64 (f : Int)), eqV (.bool true), eqV (.bool true), eqV (.agg (szl (f : Int) (t : Int)).toArray), eqV (Value.int IntKind.i64 FA), eqV (Value.int IntKind.i64 PR), (eqV (.int .i64 M2)), eqV (.pointer (some ⟨g1, 0, none⟩)), eqV (.int .i64 (f : Int)), eqV (.bool true), eqV (.bool true), eqV (.bool true)] : List (Value → World → Prop)).getD jj (fun _ _ => True)) rfl ⟨fun kk => [_, _, _, _, _, _, _, _, _, _, _, _, _, _, _, _, _].getD kk undef, rfl⟩ (by kernel_rfl) (by kernel_rfl) ?steps ?fin
    case steps =>
      refine StepsAt.val 0 (.agg (szl (f : Int) (t : Int)).toArray) rfl (fun _ _ => rfl) rfl rfl (fun x w4 hb hd => ?_) ?_
      · exact run_load_blkU 23 (.tmp 1) rfl g1 rfl (szl (f : Int) (t : Int)) 23 (C1.out.below hb C1.out.lt) d HUd.out HDd.out (sSize _ _)
      refine StepsAt.val 1 (Value.int IntKind.i64 PR) rfl (fun _ _ => rfl) rfl rfl (fun x w4 hb hd => ?_) ?_
      · first | (go_simp; done) | (go_simp; rfl)
      refine StepsAt.val 2 (Value.int IntKind.i64 PR) rfl (fun _ _ => rfl) rfl rfl (fun x w4 hb hd => ?_) ?_
      · first | (go_simp; done) | (go_simp; rfl)
      refine StepsAt.cons 3 (fun _ _ _ h hb => h) (fun _ _ => rfl) rfl rfl (fun x w4 hb hd K hK => ?_) ?_
      · have h0 : Hid (x 0 = .agg (szl (f : Int) (t : Int)).toArray) := hd 0 (by kernel_rfl)
        have h1 : Hid (x 1 = Value.int IntKind.i64 PR) := hd 1 (by kernel_rfl)
        have h2 : Hid (x 2 = Value.int IntKind.i64 PR) := hd 2 (by kernel_rfl)
        go_simp
        refine calls_args (args2 := #[.agg (szl (f : Int) (t : Int)).toArray, .int .i64 PR, .int .i64 PR]) (by rw [h0.out, h1.out, h2.out]) ?_
        refine (meetS_any f t PR PR _ HF.out).mono ?_
        rintro e w99 ⟨rfl, hb99⟩
        rw [HN.out, HM1.out]
        exact hK.out _ _ hb99 rfl
      refine StepsAt.val 4 (.pointer (some ⟨g1, 0, none⟩)) rfl (fun _ _ => rfl) rfl rfl (fun x w4 hb hd => ?_) ?_
      · first | (go_simp; done) | (go_simp; rfl)
      refine StepsAt.val 5 (.int .i64 (f : Int)) rfl (fun _ _ => rfl) rfl rfl (fun x w4 hb hd => ?_) ?_
      · have h4 : x 4 = .pointer (some ⟨g1, 0, none⟩) := hd 4 (by kernel_rfl)
        have cc := ((C1.out.below hb C1.out.lt).cell 0).trans (show _ = some (.int .i64 (f : Int)) from rfl)
        rw [h4]
        first | (go_simp; done) | (go_simp; rfl)
      refine StepsAt.val 6 (.bool true) rfl (fun _ _ => rfl) rfl rfl (fun x w4 hb hd => ?_) ?_
      · have h3 : x 3 = .int .i64 M1 := hd 3 (by kernel_rfl)
        have h5 : x 5 = .int .i64 (f : Int) := hd 5 (by kernel_rfl)
        rw [h3, h5]
        have := ZZ.out
        first | (go_simp; done) | (go_simp; omega)
      refine StepsAt.val 7 (.bool true) rfl (fun _ _ => rfl) rfl rfl (fun x w4 hb hd => ?_) ?_
      · have h6 : x 6 = .bool true := hd 6 (by kernel_rfl)
        rw [h6]
        first | (go_simp; done) | (go_simp; rfl)
      refine StepsAt.valG 8 (.agg (szl (f : Int) (t : Int)).toArray) rfl (fun _ _ => rfl) rfl (fun x w4 hd => ?_) (fun x w4 hb hd => ?_) ?_
      · have hG : x 7 = .bool true := hd 7 (by kernel_rfl)
        simp [Region.wanted, yielded, hG]
      · exact run_load_blkU 23 (.tmp 1) rfl g1 rfl (szl (f : Int) (t : Int)) 23 (C1.out.below hb C1.out.lt) d HUd.out HDd.out (sSize _ _)
      refine StepsAt.valG 9 (Value.int IntKind.i64 FA) rfl (fun _ _ => rfl) rfl (fun x w4 hd => ?_) (fun x w4 hb hd => ?_) ?_
      · have hG : x 7 = .bool true := hd 7 (by kernel_rfl)
        simp [Region.wanted, yielded, hG]
      · first | (go_simp; done) | (go_simp; rfl)
      refine StepsAt.valG 10 (Value.int IntKind.i64 PR) rfl (fun _ _ => rfl) rfl (fun x w4 hd => ?_) (fun x w4 hb hd => ?_) ?_
      · have hG : x 7 = .bool true := hd 7 (by kernel_rfl)
        simp [Region.wanted, yielded, hG]
      · first | (go_simp; done) | (go_simp; rfl)
      refine StepsAt.consG 11 (fun _ _ _ h hb => h) (fun _ _ => rfl) rfl (fun x w4 hd => ?_) (fun x w4 hb hd K hK => ?_) ?_
      · have hG : x 7 = .bool true := hd 7 (by kernel_rfl)
        simp [Region.wanted, yielded, hG]
      · have h8 : Hid (x 8 = .agg (szl (f : Int) (t : Int)).toArray) := hd 8 (by kernel_rfl)
        have h9 : Hid (x 9 = Value.int IntKind.i64 FA) := hd 9 (by kernel_rfl)
        have h10 : Hid (x 10 = Value.int IntKind.i64 PR) := hd 10 (by kernel_rfl)
        go_simp
        refine calls_args (args2 := #[.agg (szl (f : Int) (t : Int)).toArray, .int .i64 FA, .int .i64 PR]) (by rw [h8.out, h9.out, h10.out]) ?_
        refine (meetS_any f t FA PR _ HF.out).mono ?_
        rintro e w99 ⟨rfl, hb99⟩
        rw [HN.out, HM2.out]
        exact hK.out _ _ hb99 rfl
      refine StepsAt.valG 12 (.pointer (some ⟨g1, 0, none⟩)) rfl (fun _ _ => rfl) rfl (fun x w4 hd => ?_) (fun x w4 hb hd => ?_) ?_
      · have hG : x 7 = .bool true := hd 7 (by kernel_rfl)
        simp [Region.wanted, yielded, hG]
      · first | (go_simp; done) | (go_simp; rfl)
      refine StepsAt.valG 13 (.int .i64 (f : Int)) rfl (fun _ _ => rfl) rfl (fun x w4 hd => ?_) (fun x w4 hb hd => ?_) ?_
      · have hG : x 7 = .bool true := hd 7 (by kernel_rfl)
        simp [Region.wanted, yielded, hG]
      · have h12 : x 12 = .pointer (some ⟨g1, 0, none⟩) := hd 12 (by kernel_rfl)
        have cc := ((C1.out.below hb C1.out.lt).cell 0).trans (show _ = some (.int .i64 (f : Int)) from rfl)
        rw [h12]
        first | (go_simp; done) | (go_simp; rfl)
      refine StepsAt.valG 14 (.bool true) rfl (fun _ _ => rfl) rfl (fun x w4 hd => ?_) (fun x w4 hb hd => ?_) ?_
      · have hG : x 7 = .bool true := hd 7 (by kernel_rfl)
        simp [Region.wanted, yielded, hG]
      · have h11 : x 11 = .int .i64 M2 := hd 11 (by kernel_rfl)
        have h13 : x 13 = .int .i64 (f : Int) := hd 13 (by kernel_rfl)
        rw [h11, h13]
        have := ZZ.out
        first | (go_simp; done) | (go_simp; omega)
      refine StepsAt.val 15 (.bool true) rfl (fun _ _ => rfl) rfl rfl (fun x w4 hb hd => ?_) ?_
      · have h7 : x 7 = .bool true := hd 7 (by kernel_rfl)
        have h14 : x 14 = .bool true := hd 14 (by kernel_rfl)
        rw [h7, h14]
        first | (go_simp; done) | (go_simp; rfl)
      refine StepsAt.val 16 (.bool true) rfl (fun _ _ => rfl) rfl rfl (fun x w4 hb hd => ?_) ?_
      · have h15 : x 15 = .bool true := hd 15 (by kernel_rfl)
        rw [h15]
        first | (go_simp; done) | (go_simp; rfl)
      exact StepsAt.done
    case fin =>
      intro x w4 hb hd
      have hx0 : x 0 = .agg (szl (f : Int) (t : Int)).toArray := hd 0 (by omega)
      have hx1 : x 1 = Value.int IntKind.i64 PR := hd 1 (by omega)
      have hx2 : x 2 = Value.int IntKind.i64 PR := hd 2 (by omega)
      have hx3 : x 3 = .int .i64 M1 := hd 3 (by omega)
      have hx4 : x 4 = .pointer (some ⟨g1, 0, none⟩) := hd 4 (by omega)
      have hx5 : x 5 = .int .i64 (f : Int) := hd 5 (by omega)
      have hx6 : x 6 = .bool true := hd 6 (by omega)
      have hx7 : x 7 = .bool true := hd 7 (by omega)
      have hx8 : x 8 = .agg (szl (f : Int) (t : Int)).toArray := hd 8 (by omega)
      have hx9 : x 9 = Value.int IntKind.i64 FA := hd 9 (by omega)
      have hx10 : x 10 = Value.int IntKind.i64 PR := hd 10 (by omega)
      have hx11 : x 11 = .int .i64 M2 := hd 11 (by omega)
      have hx12 : x 12 = .pointer (some ⟨g1, 0, none⟩) := hd 12 (by omega)
      have hx13 : x 13 = .int .i64 (f : Int) := hd 13 (by omega)
      have hx14 : x 14 = .bool true := hd 14 (by omega)
      have hx15 : x 15 = .bool true := hd 15 (by omega)
      have hx16 : x 16 = .bool true := hd 16 (by omega)
      refine AnyTill.any (S := fun _ => True) (m := 17) _ _ _ _ ?_
      refine AnyTill.done (by kernel_rfl) ?_
      refine NoPanic.normal ?_
      try dsimp only
      rw [hx0, hx1, hx2, hx3, hx4, hx5, hx6, hx7, hx8, hx9, hx10, hx11, hx12, hx13, hx14, hx15, hx16]
      have D1 : Hid (Blk w4 g1 (szl (f : Int) (t : Int)) 23) := C1.out.below hb C1.out.lt
      have D3 : Hid (Below w.heap.size w w4) := C3.out.trans (hb.mono C3.out.size)
      clear hd hb hx0 hx1 hx2 hx3 hx4 hx5 hx6 hx7 hx8 hx9 hx10 hx11 hx12 hx13 hx14 hx15 hx16 C1 C3 x
      go_wp2_with fail
      refine wp_region_rely2 33 0 (fun x => ⟨#[Value.agg (szl ↑f ↑t).toArray, Value.pointer (some { block := g1, off := 0 }), Value.bool false, Value.int IntKind.i64 N, Value.int IntKind.i64 FA, Value.int IntKind.i64 PR, Value.int IntKind.i64 MO, Value.int IntKind.i64 VO, Value.int IntKind.i64 WE, Value.bool true, x 32, undef, Value.agg (szl ↑f ↑t).toArray, Value.bool true, Value.bool false, undef, Value.agg (szl ↑f ↑t).toArray, Value.int IntKind.i64 N, Value.agg (szl ↑f ↑t).toArray, Value.int IntKind.i64 FA, Value.agg (szl ↑f ↑t).toArray, Value.int IntKind.i64 PR, Value.agg (szl ↑f ↑t).toArray, Value.int IntKind.i64 MO, Value.agg (szl ↑f ↑t).toArray, Value.int IntKind.i64 VO, Value.agg (szl ↑f ↑t).toArray, Value.int IntKind.i64 WE, Value.agg (szl ↑f ↑t).toArray, Value.int IntKind.i64 PR, Value.int IntKind.i64 PR, Value.int IntKind.i64 M1, Value.pointer (some { block := g1, off := 0 }), Value.int IntKind.i64 ↑f, Value.bool true, Value.bool true, Value.agg (szl ↑f ↑t).toArray, Value.int IntKind.i64 FA, Value.int IntKind.i64 PR, Value.int IntKind.i64 M2, Value.pointer (some { block := g1, off := 0 }), Value.int IntKind.i64 ↑f, Value.bool true, Value.bool true, x 0, x 1, x 2, x 3, x 4, x 5, x 6, x 7, x 8, x 9, x 10, x 11, x 12, x 13, x 14, x 15, x 16, x 17, x 18, x 19, x 20, x 21, x 22, x 23, x 24, x 25, x 26, x 27, x 28, x 29, x 30, x 31, undef, undef, undef, undef, undef, undef, undef, undef, undef, undef, undef, undef, undef, undef, undef, undef, undef, undef, undef, undef, undef, undef, undef, undef, undef, undef, undef, undef, undef, undef, undef, undef, undef, undef, undef, undef, undef, undef, undef, undef, undef, undef, undef, undef, undef, undef, undef, undef, undef, undef, undef, undef, undef, undef, undef, undef], []⟩) (fun jj => ([eqV (.agg (szl (f : Int) (t : Int)).toArray), eqV (Value.int IntKind.i64 MO), eqV (Value.int IntKind.i64 FA), (eqV (.int .i64 M3)), eqV (Value.int IntKind.i64 VO), eqV (.pointer (some ⟨g1, 0, none⟩)), eqV (.int .i64 (f : Int)), eqV (.int .i64 S1), eqV (.bool true), eqV (.bool true), eqV (Value.int IntKind.i64 MO), eqV (.pointer (some ⟨g1, 0, none⟩)), eqV (.int .i64 (f : Int)), eqV (.int .i64 S2), eqV (Value.int IntKind.i64 PR), eqV (.int .i64 S3), eqV (.pointer (some ⟨g1, 0, none⟩)), eqV (.int .i64 (f : Int)), eqV (.int .i64 S4), eqV (Value.int IntKind.i64 MO), eqV (.int .i64 S5), eqV (.pointer (some ⟨g1, 1, none⟩)), eqV (.int .i64 (t : Int)), eqV (.int .i64 S6), eqV (.bool true), eqV (.bool true), eqV (.bool true), eqV (Value.int IntKind.i64 VO), eqV (.int .i64 S7), eqV (Value.int IntKind.i64 MO), eqV (.bool true), eqV (.bool true), eqV (.bool true)] : List (Value → World → Prop)).getD jj (fun _ _ => True)) rfl ⟨fun kk => [_, _, _, _, _, _, _, _, _, _, _, _, _, _, _, _, _, _, _, _, _, _, _, _, _, _, _, _, _, _, _, _, _].getD kk undef, rfl⟩ (by kernel_rfl) (by kernel_rfl) ?steps ?fin
      case steps =>
        refine StepsAt.val 0 (.agg (szl (f : Int) (t : Int)).toArray) rfl (fun _ _ => rfl) rfl rfl (fun x w5 hb hd => ?_) ?_
        · exact run_load_blkU 23 (.tmp 1) rfl g1 rfl (szl (f : Int) (t : Int)) 23 (D1.out.below hb D1.out.lt) d HUd.out HDd.out (sSize _ _)
        refine StepsAt.val 1 (Value.int IntKind.i64 MO) rfl (fun _ _ => rfl) rfl rfl (fun x w5 hb hd => ?_) ?_
        · first | (go_simp; done) | (go_simp; rfl)
        refine StepsAt.val 2 (Value.int IntKind.i64 FA) rfl (fun _ _ => rfl) rfl rfl (fun x w5 hb hd => ?_) ?_
        · first | (go_simp; done) | (go_simp; rfl)
        refine StepsAt.cons 3 (fun _ _ _ h hb => h) (fun _ _ => rfl) rfl rfl (fun x w5 hb hd K hK => ?_) ?_
        · have h0 : Hid (x 0 = .agg (szl (f : Int) (t : Int)).toArray) := hd 0 (by kernel_rfl)
          have h1 : Hid (x 1 = Value.int IntKind.i64 MO) := hd 1 (by kernel_rfl)
          have h2 : Hid (x 2 = Value.int IntKind.i64 FA) := hd 2 (by kernel_rfl)
          go_simp
          refine calls_args (args2 := #[.agg (szl (f : Int) (t : Int)).toArray, .int .i64 MO, .int .i64 FA]) (by rw [h0.out, h1.out, h2.out]) ?_
          refine (meetS_any f t MO FA _ HF.out).mono ?_
          rintro e w99 ⟨rfl, hb99⟩
          rw [HN.out, HM3.out]
          exact hK.out _ _ hb99 rfl
        refine StepsAt.val 4 (Value.int IntKind.i64 VO) rfl (fun _ _ => rfl) rfl rfl (fun x w5 hb hd => ?_) ?_
        · first | (go_simp; done) | (go_simp; rfl)
        refine StepsAt.val 5 (.pointer (some ⟨g1, 0, none⟩)) rfl (fun _ _ => rfl) rfl rfl (fun x w5 hb hd => ?_) ?_
        · first | (go_simp; done) | (go_simp; rfl)
        refine StepsAt.val 6 (.int .i64 (f : Int)) rfl (fun _ _ => rfl) rfl rfl (fun x w5 hb hd => ?_) ?_
        · have h5 : x 5 = .pointer (some ⟨g1, 0, none⟩) := hd 5 (by kernel_rfl)
          have cc := ((D1.out.below hb D1.out.lt).cell 0).trans (show _ = some (.int .i64 (f : Int)) from rfl)
          rw [h5]
          first | (go_simp; done) | (go_simp; rfl)
        refine StepsAt.val 7 (.int .i64 S1) rfl (fun _ _ => rfl) rfl rfl (fun x w5 hb hd => ?_) ?_
        · have h4 : x 4 = Value.int IntKind.i64 VO := hd 4 (by kernel_rfl)
          have h6 : x 6 = .int .i64 (f : Int) := hd 6 (by kernel_rfl)
          rw [h4, h6]
          go_simp
          rw [HS1.out]
          have := ZB.out
          exact wrap_i64s _ (by omega) (by omega)
        refine StepsAt.val 8 (.bool true) rfl (fun _ _ => rfl) rfl rfl (fun x w5 hb hd => ?_) ?_
        · have h3 : x 3 = .int .i64 M3 := hd 3 (by kernel_rfl)
          have h7 : x 7 = .int .i64 S1 := hd 7 (by kernel_rfl)
          rw [h3, h7]
          have := ZZ.out
          first | (go_simp; done) | (go_simp; omega)
        refine StepsAt.val 9 (.bool true) rfl (fun _ _ => rfl) rfl rfl (fun x w5 hb hd => ?_) ?_
        · have h8 : x 8 = .bool true := hd 8 (by kernel_rfl)
          rw [h8]
          first | (go_simp; done) | (go_simp; rfl)
        refine StepsAt.valG 10 (Value.int IntKind.i64 MO) rfl (fun _ _ => rfl) rfl (fun x w5 hd => ?_) (fun x w5 hb hd => ?_) ?_
        · have hG : x 9 = .bool true := hd 9 (by kernel_rfl)
          simp [Region.wanted, yielded, hG]
        · first | (go_simp; done) | (go_simp; rfl)
        refine StepsAt.valG 11 (.pointer (some ⟨g1, 0, none⟩)) rfl (fun _ _ => rfl) rfl (fun x w5 hd => ?_) (fun x w5 hb hd => ?_) ?_
        · have hG : x 9 = .bool true := hd 9 (by kernel_rfl)
          simp [Region.wanted, yielded, hG]
        · first | (go_simp; done) | (go_simp; rfl)
        refine StepsAt.valG 12 (.int .i64 (f : Int)) rfl (fun _ _ => rfl) rfl (fun x w5 hd => ?_) (fun x w5 hb hd => ?_) ?_
        · have hG : x 9 = .bool true := hd 9 (by kernel_rfl)
          simp [Region.wanted, yielded, hG]
        · have h11 : x 11 = .pointer (some ⟨g1, 0, none⟩) := hd 11 (by kernel_rfl)
          have cc := ((D1.out.below hb D1.out.lt).cell 0).trans (show _ = some (.int .i64 (f : Int)) from rfl)
          rw [h11]
          first | (go_simp; done) | (go_simp; rfl)
        refine StepsAt.valG 13 (.int .i64 S2) rfl (fun _ _ => rfl) rfl (fun x w5 hd => ?_) (fun x w5 hb hd => ?_) ?_
        · have hG : x 9 = .bool true := hd 9 (by kernel_rfl)
          simp [Region.wanted, yielded, hG]
        · have h10 : x 10 = Value.int IntKind.i64 MO := hd 10 (by kernel_rfl)
          have h12 : x 12 = .int .i64 (f : Int) := hd 12 (by kernel_rfl)
          rw [h10, h12]
          go_simp
          rw [HS2.out]
          have := ZB.out
          exact wrap_i64s _ (by omega) (by omega)
        refine StepsAt.valG 14 (Value.int IntKind.i64 PR) rfl (fun _ _ => rfl) rfl (fun x w5 hd => ?_) (fun x w5 hb hd => ?_) ?_
        · have hG : x 9 = .bool true := hd 9 (by kernel_rfl)
          simp [Region.wanted, yielded, hG]
        · first | (go_simp; done) | (go_simp; rfl)
        refine StepsAt.valG 15 (.int .i64 S3) rfl (fun _ _ => rfl) rfl (fun x w5 hd => ?_) (fun x w5 hb hd => ?_) ?_
        · have hG : x 9 = .bool true := hd 9 (by kernel_rfl)
          simp [Region.wanted, yielded, hG]
        · have h13 : x 13 = .int .i64 S2 := hd 13 (by kernel_rfl)
          have h14 : x 14 = Value.int IntKind.i64 PR := hd 14 (by kernel_rfl)
          rw [h13, h14]
          go_simp
          rw [HS3.out]
          have := ZB.out
          exact wrap_i64s _ (by omega) (by omega)
        refine StepsAt.valG 16 (.pointer (some ⟨g1, 0, none⟩)) rfl (fun _ _ => rfl) rfl (fun x w5 hd => ?_) (fun x w5 hb hd => ?_) ?_
        · have hG : x 9 = .bool true := hd 9 (by kernel_rfl)
          simp [Region.wanted, yielded, hG]
        · first | (go_simp; done) | (go_simp; rfl)
        refine StepsAt.valG 17 (.int .i64 (f : Int)) rfl (fun _ _ => rfl) rfl (fun x w5 hd => ?_) (fun x w5 hb hd => ?_) ?_
        · have hG : x 9 = .bool true := hd 9 (by kernel_rfl)
          simp [Region.wanted, yielded, hG]
        · have h16 : x 16 = .pointer (some ⟨g1, 0, none⟩) := hd 16 (by kernel_rfl)
          have cc := ((D1.out.below hb D1.out.lt).cell 0).trans (show _ = some (.int .i64 (f : Int)) from rfl)
          rw [h16]
          first | (go_simp; done) | (go_simp; rfl)
        refine StepsAt.valG 18 (.int .i64 S4) rfl (fun _ _ => rfl) rfl (fun x w5 hd => ?_) (fun x w5 hb hd => ?_) ?_
        · have hG : x 9 = .bool true := hd 9 (by kernel_rfl)
          simp [Region.wanted, yielded, hG]
        · have h15 : x 15 = .int .i64 S3 := hd 15 (by kernel_rfl)
          have h17 : x 17 = .int .i64 (f : Int) := hd 17 (by kernel_rfl)
          rw [h15, h17]
          go_simp
          rw [HS4.out]
          have := ZB.out
          exact wrap_i64s _ (by omega) (by omega)
        refine StepsAt.valG 19 (Value.int IntKind.i64 MO) rfl (fun _ _ => rfl) rfl (fun x w5 hd => ?_) (fun x w5 hb hd => ?_) ?_
        · have hG : x 9 = .bool true := hd 9 (by kernel_rfl)
          simp [Region.wanted, yielded, hG]
        · first | (go_simp; done) | (go_simp; rfl)
        refine StepsAt.valG 20 (.int .i64 S5) rfl (fun _ _ => rfl) rfl (fun x w5 hd => ?_) (fun x w5 hb hd => ?_) ?_
        · have hG : x 9 = .bool true := hd 9 (by kernel_rfl)
          simp [Region.wanted, yielded, hG]
        · have h18 : x 18 = .int .i64 S4 := hd 18 (by kernel_rfl)
          have h19 : x 19 = Value.int IntKind.i64 MO := hd 19 (by kernel_rfl)
          rw [h18, h19]
          go_simp
          rw [HS5.out]
          have := ZB.out
          exact wrap_i64s _ (by omega) (by omega)
        refine StepsAt.valG 21 (.pointer (some ⟨g1, 1, none⟩)) rfl (fun _ _ => rfl) rfl (fun x w5 hd => ?_) (fun x w5 hb hd => ?_) ?_
        · have hG : x 9 = .bool true := hd 9 (by kernel_rfl)
          simp [Region.wanted, yielded, hG]
        · first | (go_simp; done) | (go_simp; rfl)
        refine StepsAt.valG 22 (.int .i64 (t : Int)) rfl (fun _ _ => rfl) rfl (fun x w5 hd => ?_) (fun x w5 hb hd => ?_) ?_
        · have hG : x 9 = .bool true := hd 9 (by kernel_rfl)
          simp [Region.wanted, yielded, hG]
        · have h21 : x 21 = .pointer (some ⟨g1, 1, none⟩) := hd 21 (by kernel_rfl)
          have cc := ((D1.out.below hb D1.out.lt).cell 1).trans (show _ = some (.int .i64 (t : Int)) from rfl)
          rw [h21]
          first | (go_simp; done) | (go_simp; rfl)
        refine StepsAt.valG 23 (.int .i64 S6) rfl (fun _ _ => rfl) rfl (fun x w5 hd => ?_) (fun x w5 hb hd => ?_) ?_
        · have hG : x 9 = .bool true := hd 9 (by kernel_rfl)
          simp [Region.wanted, yielded, hG]
        · have h22 : x 22 = .int .i64 (t : Int) := hd 22 (by kernel_rfl)
          rw [h22]
          go_simp
          rw [HS6.out]
          have := ZB.out
          exact wrap_i64s _ (by omega) (by omega)
        refine StepsAt.valG 24 (.bool true) rfl (fun _ _ => rfl) rfl (fun x w5 hd => ?_) (fun x w5 hb hd => ?_) ?_
        · have hG : x 9 = .bool true := hd 9 (by kernel_rfl)
          simp [Region.wanted, yielded, hG]
        · have h20 : x 20 = .int .i64 S5 := hd 20 (by kernel_rfl)
          have h23 : x 23 = .int .i64 S6 := hd 23 (by kernel_rfl)
          rw [h20, h23]
          have := ZZ.out
          first | (go_simp; done) | (go_simp; omega)
        refine StepsAt.val 25 (.bool true) rfl (fun _ _ => rfl) rfl rfl (fun x w5 hb hd => ?_) ?_
        · have h9 : x 9 = .bool true := hd 9 (by kernel_rfl)
          have h24 : x 24 = .bool true := hd 24 (by kernel_rfl)
          rw [h9, h24]
          first | (go_simp; done) | (go_simp; rfl)
        refine StepsAt.val 26 (.bool true) rfl (fun _ _ => rfl) rfl rfl (fun x w5 hb hd => ?_) ?_
        · have h25 : x 25 = .bool true := hd 25 (by kernel_rfl)
          rw [h25]
          first | (go_simp; done) | (go_simp; rfl)
        refine StepsAt.valG 27 (Value.int IntKind.i64 VO) rfl (fun _ _ => rfl) rfl (fun x w5 hd => ?_) (fun x w5 hb hd => ?_) ?_
        · have hG : x 26 = .bool true := hd 26 (by kernel_rfl)
          simp [Region.wanted, yielded, hG]
        · first | (go_simp; done) | (go_simp; rfl)
        refine StepsAt.valG 28 (.int .i64 S7) rfl (fun _ _ => rfl) rfl (fun x w5 hd => ?_) (fun x w5 hb hd => ?_) ?_
        · have hG : x 26 = .bool true := hd 26 (by kernel_rfl)
          simp [Region.wanted, yielded, hG]
        · have h27 : x 27 = Value.int IntKind.i64 VO := hd 27 (by kernel_rfl)
          rw [h27]
          go_simp
          rw [HS7.out]
          have := ZB.out
          exact wrap_i64s _ (by omega) (by omega)
        refine StepsAt.valG 29 (Value.int IntKind.i64 MO) rfl (fun _ _ => rfl) rfl (fun x w5 hd => ?_) (fun x w5 hb hd => ?_) ?_
        · have hG : x 26 = .bool true := hd 26 (by kernel_rfl)
          simp [Region.wanted, yielded, hG]
        · first | (go_simp; done) | (go_simp; rfl)
        refine StepsAt.valG 30 (.bool true) rfl (fun _ _ => rfl) rfl (fun x w5 hd => ?_) (fun x w5 hb hd => ?_) ?_
        · have hG : x 26 = .bool true := hd 26 (by kernel_rfl)
          simp [Region.wanted, yielded, hG]
        · have h28 : x 28 = .int .i64 S7 := hd 28 (by kernel_rfl)
          have h29 : x 29 = Value.int IntKind.i64 MO := hd 29 (by kernel_rfl)
          rw [h28, h29]
          have := ZZ.out
          first | (go_simp; done) | (go_simp; omega)
        refine StepsAt.val 31 (.bool true) rfl (fun _ _ => rfl) rfl rfl (fun x w5 hb hd => ?_) ?_
        · have h26 : x 26 = .bool true := hd 26 (by kernel_rfl)
          have h30 : x 30 = .bool true := hd 30 (by kernel_rfl)
          rw [h26, h30]
          first | (go_simp; done) | (go_simp; rfl)
        refine StepsAt.val 32 (.bool true) rfl (fun _ _ => rfl) rfl rfl (fun x w5 hb hd => ?_) ?_
        · have h31 : x 31 = .bool true := hd 31 (by kernel_rfl)
          rw [h31]
          first | (go_simp; done) | (go_simp; rfl)
        exact StepsAt.done
      case fin =>
        intro x w5 hb hd
        have hx0 : x 0 = .agg (szl (f : Int) (t : Int)).toArray := hd 0 (by omega)
        have hx1 : x 1 = Value.int IntKind.i64 MO := hd 1 (by omega)
        have hx2 : x 2 = Value.int IntKind.i64 FA := hd 2 (by omega)
        have hx3 : x 3 = .int .i64 M3 := hd 3 (by omega)
        have hx4 : x 4 = Value.int IntKind.i64 VO := hd 4 (by omega)
        have hx5 : x 5 = .pointer (some ⟨g1, 0, none⟩) := hd 5 (by omega)
        have hx6 : x 6 = .int .i64 (f : Int) := hd 6 (by omega)
        have hx7 : x 7 = .int .i64 S1 := hd 7 (by omega)
        have hx8 : x 8 = .bool true := hd 8 (by omega)
        have hx9 : x 9 = .bool true := hd 9 (by omega)
        have hx10 : x 10 = Value.int IntKind.i64 MO := hd 10 (by omega)
        have hx11 : x 11 = .pointer (some ⟨g1, 0, none⟩) := hd 11 (by omega)
        have hx12 : x 12 = .int .i64 (f : Int) := hd 12 (by omega)
        have hx13 : x 13 = .int .i64 S2 := hd 13 (by omega)
        have hx14 : x 14 = Value.int IntKind.i64 PR := hd 14 (by omega)
        have hx15 : x 15 = .int .i64 S3 := hd 15 (by omega)
        have hx16 : x 16 = .pointer (some ⟨g1, 0, none⟩) := hd 16 (by omega)
        have hx17 : x 17 = .int .i64 (f : Int) := hd 17 (by omega)
        have hx18 : x 18 = .int .i64 S4 := hd 18 (by omega)
        have hx19 : x 19 = Value.int IntKind.i64 MO := hd 19 (by omega)
        have hx20 : x 20 = .int .i64 S5 := hd 20 (by omega)
        have hx21 : x 21 = .pointer (some ⟨g1, 1, none⟩) := hd 21 (by omega)
        have hx22 : x 22 = .int .i64 (t : Int) := hd 22 (by omega)
        have hx23 : x 23 = .int .i64 S6 := hd 23 (by omega)
        have hx24 : x 24 = .bool true := hd 24 (by omega)
        have hx25 : x 25 = .bool true := hd 25 (by omega)
        have hx26 : x 26 = .bool true := hd 26 (by omega)
        have hx27 : x 27 = Value.int IntKind.i64 VO := hd 27 (by omega)
        have hx28 : x 28 = .int .i64 S7 := hd 28 (by omega)
        have hx29 : x 29 = Value.int IntKind.i64 MO := hd 29 (by omega)
        have hx30 : x 30 = .bool true := hd 30 (by omega)
        have hx31 : x 31 = .bool true := hd 31 (by omega)
        have hx32 : x 32 = .bool true := hd 32 (by omega)
        refine AnyTill.any (S := fun _ => True) (m := 33) _ _ _ _ ?_
        refine AnyTill.done (by kernel_rfl) ?_
        refine NoPanic.normal ?_
        try dsimp only
        rw [hx0, hx1, hx2, hx3, hx4, hx5, hx6, hx7, hx8, hx9, hx10, hx11, hx12, hx13, hx14, hx15, hx16, hx17, hx18, hx19, hx20, hx21, hx22, hx23, hx24, hx25, hx26, hx27, hx28, hx29, hx30, hx31, hx32]
        have E1 : Hid (Blk w5 g1 (szl (f : Int) (t : Int)) 23) := D1.out.below hb D1.out.lt
        have E3 : Hid (Below w.heap.size w w5) := D3.out.trans (hb.mono D3.out.size)
        clear hd hb hx0 hx1 hx2 hx3 hx4 hx5 hx6 hx7 hx8 hx9 hx10 hx11 hx12 hx13 hx14 hx15 hx16 hx17 hx18 hx19 hx20 hx21 hx22 hx23 hx24 hx25 hx26 hx27 hx28 hx29 hx30 hx31 hx32 D1 D3 x
        obtain rfl := HN.out
        obtain rfl := HFA.out
        obtain rfl := HPR.out
        obtain rfl := HMO.out
        obtain rfl := HVO.out
        obtain rfl := HWE.out
        clear HM1 HM2 HM3 HS1 HS2 HS3 HS4 HS5 HS6 HS7 ZZ ZB
        obtain ⟨d0, hd0⟩ : ∃ x : List Value, szl (f : Int) (t : Int) = x := ⟨_, rfl⟩
        have hk := SFit.cases HF.out
        rcases hk with ⟨rfl, rfl⟩ | ⟨rfl, rfl⟩ | ⟨rfl, rfl⟩ | ⟨rfl, rfl⟩ | ⟨rfl, rfl⟩ | ⟨rfl, rfl⟩ | ⟨rfl, rfl⟩ | ⟨rfl, rfl⟩ | ⟨rfl, rfl⟩ | ⟨rfl, rfl⟩ | ⟨rfl, rfl⟩ | ⟨rfl, rfl⟩ | ⟨rfl, rfl⟩ | ⟨rfl, rfl⟩ | ⟨rfl, rfl⟩ | ⟨rfl, rfl⟩ | ⟨rfl, rfl⟩ | ⟨rfl, rfl⟩ | ⟨rfl, rfl⟩ | ⟨rfl, rfl⟩
        all_goals
          simp only [nN, nFast, nProof, nMost, nVouch, nWeak]
          go_wp2_with fail
          refine (alive7_any _).mono ?_
          rintro e w6 ⟨rfl, hb⟩
          have F3 : Hid (Below w.heap.size w w6) := E3.out.trans (hb.mono E3.out.size)
          have cf := ((E1.out.below hb E1.out.lt).cell 0).trans (show _ = some _ from rfl)
          have ct := ((E1.out.below hb E1.out.lt).cell 1).trans (show _ = some _ from rfl)
          clear hb E1 E3
          go_wp2
          go_ret
          exact ⟨rfl, F3.out⟩

end Go.Proofs.Ytgabkeohihdenaa
