/-
  The program's orders: TakeReply. Each theorem states its own conditions.
-/
import Derived.Test.YtmlpiembglmggaaNX
namespace Go.Proofs.Ytmlpiembglmggaa
open Go.RowKit
set_option maxRecDepth 1000000 in
set_option maxHeartbeats 16000000 in
theorem orTakeR_any (v : Value) (l : List UInt8) (w : World) (hr : Rd w.heap.size w v l) (hl : l.length ≤ 1000000) : Calls Try.prog 22 #[v] w (TookR (takeR l) w) := by
  have HL := Lib.hid hl
  clear hl
  obtain ⟨d30, hu30, hd30⟩ := rowRpP
  have HU := Lib.hid hu30
  have HD := Lib.hid hd30
  obtain ⟨A, c, rfl, -, -⟩ := hr.shape
  have HR := Lib.hid hr
  clear hr hu30 hd30
  go_enter Try.func22, Try.ntmps22
  go_wp2_with (refine wpList_alloc_blk rfl 28 rfl (rpc rp0 (.slice none 0 0)) zeroRpP ?_)
  intro w1 a1 a2 a3
  obtain ⟨g, hg⟩ : ∃ g, w.heap.size = g := ⟨_, rfl⟩
  have X0 := Lib.hid a1
  have E1 := Lib.hid a3
  have hg1 : g < w1.heap.size := by omega
  have HG := Lib.hid hg
  rw [hg] at X0 E1 HR ⊢
  clear a1 a2 a3 hg
  go_wp2_with (refine wpList_alloc_blk rfl 66 rfl [.slice none 0 0, .int .i64 0] zeroPt ?_)
  intro w2 a1 a2 a3
  obtain ⟨gp, hgp⟩ : ∃ g, w1.heap.size = g := ⟨_, rfl⟩
  have AA := Lib.hid a1
  have A3 := Lib.hid a3
  rw [hgp] at AA A3 hg1 ⊢
  clear a1 a2 a3 hgp
  go_wp2_with (refine wpList_store_to rfl 66 _ _ rfl gp [.slice A l.length c, .int .i64 0] [.slice none 0 0, .int .i64 0] 66 rfl rfl AA.out szPt rfl (pt_all _ _ _) ?_)
  intro w3 e1 e2 e3 e4
  have XP := Lib.hid e1
  have E3 := Lib.hid (E1.out.trans ((A3.out.trans e3).mono (Nat.le_of_lt hg1)))
  have X0 := Lib.hid (X0.out.below (A3.out.trans e3) hg1)
  have hx3 := XP.out.lt
  have HR3 := Lib.hid ((HR.out.below E3.out).more (show w3.heap.size ≥ g by omega))
  clear hx3
  have hne6' : gp ≠ g := by omega
  have hnep : gp ≠ g := hne6'
  clear e1 e2 e3 e4 AA A3 HR E1
  go_wp2_with fail
  refine (partN_first gp (.slice A l.length c) l w3 XP.out HR3.out HL.out).mono ?_
  rintro e v0 ⟨rfl, hp, hb⟩
  obtain ⟨n0, s1, h9⟩ : ∃ a b, stN (l, 0) = (a, b) := ⟨_, _, rfl⟩
  have hl9 := stN_len (l, 0)
  rw [h9] at hl9
  rw [h9] at hp ⊢
  dsimp only at hp ⊢
  have HT0 := Lib.hid h9
  have HL1 : Hid (s1.1.length ≤ 1000000) := Nat.le_trans hl9 HL.out
  have HP' := Lib.hid hp
  have Ev0 := Lib.hid (E3.out.trans (hb.mono (Nat.le_of_lt hg1)))
  have X0 := Lib.hid (X0.out.below hb hg1)
  clear hp hb h9 hl9 E3 XP HR3
  have HP := HP'
  clear HP'
  go_wp2_with fail
  refine (partN_any gp s1 v0 HP.out HL1.out).mono ?_
  rintro e v1 ⟨rfl, hp, hb⟩
  obtain ⟨n1, s2, h9⟩ : ∃ a b, stN s1 = (a, b) := ⟨_, _, rfl⟩
  have hl9 := stN_len s1
  rw [h9] at hl9
  rw [h9] at hp ⊢
  dsimp only at hp ⊢
  have HT1 := Lib.hid h9
  have HL2 : Hid (s2.1.length ≤ 1000000) := Nat.le_trans hl9 HL1.out
  have HP' := Lib.hid hp
  have Ev1 := Lib.hid (Ev0.out.trans (hb.mono (Nat.le_of_lt hg1)))
  have X0 := Lib.hid (X0.out.below hb hg1)
  clear hp hb h9 hl9 Ev0 HP
  have HP := HP'
  clear HP'
  go_wp2_with fail
  refine (partN_any gp s2 v1 HP.out HL2.out).mono ?_
  rintro e v2 ⟨rfl, hp, hb⟩
  obtain ⟨n2, s3, h9⟩ : ∃ a b, stN s2 = (a, b) := ⟨_, _, rfl⟩
  have hl9 := stN_len s2
  rw [h9] at hl9
  rw [h9] at hp ⊢
  dsimp only at hp ⊢
  have HT2 := Lib.hid h9
  have HL3 : Hid (s3.1.length ≤ 1000000) := Nat.le_trans hl9 HL2.out
  have HP' := Lib.hid hp
  have Ev2 := Lib.hid (Ev1.out.trans (hb.mono (Nat.le_of_lt hg1)))
  have X0 := Lib.hid (X0.out.below hb hg1)
  clear hp hb h9 hl9 Ev1 HP
  have HP := HP'
  clear HP'
  go_wp2_with fail
  refine (partN_any gp s3 v2 HP.out HL3.out).mono ?_
  rintro e v3 ⟨rfl, hp, hb⟩
  obtain ⟨n3, s4, h9⟩ : ∃ a b, stN s3 = (a, b) := ⟨_, _, rfl⟩
  have hl9 := stN_len s3
  rw [h9] at hl9
  rw [h9] at hp ⊢
  dsimp only at hp ⊢
  have HT3 := Lib.hid h9
  have HL4 : Hid (s4.1.length ≤ 1000000) := Nat.le_trans hl9 HL3.out
  have HP' := Lib.hid hp
  have Ev3 := Lib.hid (Ev2.out.trans (hb.mono (Nat.le_of_lt hg1)))
  have X0 := Lib.hid (X0.out.below hb hg1)
  clear hp hb h9 hl9 Ev2 HP
  have HP := HP'
  clear HP'
  go_wp2_with fail
  refine (partS_any gp s4 1000 (by omega) (by omega) v3 HP.out HL4.out).mono ?_
  rintro e v4 ⟨rfl, hp, hb⟩
  obtain ⟨p4, s5, h9⟩ : ∃ a b, stS 1000 s4 = (a, b) := ⟨_, _, rfl⟩
  have hl9 := stS_len 1000 s4
  rw [h9] at hl9
  rw [h9] at hp ⊢
  dsimp only at hp ⊢
  have HT4 := Lib.hid h9
  have HL5 : Hid (s5.1.length ≤ 1000000) := Nat.le_trans hl9 HL4.out
  have HP' := Lib.hid hp
  have Ev4 := Lib.hid (Ev3.out.trans (hb.mono (Nat.le_of_lt hg1)))
  have X0 := Lib.hid (X0.out.below hb hg1)
  clear hp hb h9 hl9 Ev3 HP
  have HP := HP'
  clear HP'
  go_wp2_with fail
  refine (partL_any gp s5 200 1000 (by omega) (by omega) (by omega) (by omega) v4 HP.out HL5.out).mono ?_
  rintro e v5 ⟨nv, rfl, hnv, hp, hb⟩
  obtain ⟨ss, s6, h9⟩ : ∃ a b, stL 200 1000 s5 = (a, b) := ⟨_, _, rfl⟩
  rw [h9] at hp hnv
  dsimp only at hp hnv ⊢
  have HT5 := Lib.hid h9
  have HP' := Lib.hid hp
  have Ev5 := Lib.hid (Ev4.out.trans (hb.mono (Nat.le_of_lt hg1)))
  have X0 := Lib.hid (X0.out.below hb hg1)
  have HN := Lib.hid hnv
  clear hp hb h9 Ev4 HP hnv
  have HP := HP'
  clear HP'
  obtain ⟨vP, hP1, hP2⟩ := HP.out
  obtain ⟨rP, fP⟩ := s6
  dsimp only at hP1 hP2
  obtain ⟨AP, nP, cP, rfl⟩ := hP2.isSlice
  have XP := Lib.hid hP1
  have HO := Lib.hid hP2
  clear hP1 hP2 HP
  have HF := Lib.hid (takeR_st l (ns := [n0, n1, n2, n3]) (by simp only [numsOf, HT0.out, HT1.out, HT2.out, HT3.out]) HT4.out HT5.out)
  change Hid (takeR l = if fP ≠ 0 then (rp0, [], fP) else if n2 < 0 ∨ 16 < n2 then (rp0, [], 3) else ((n0, n1, n2, p4, n3, ss), rP, 0)) at HF
  obtain ⟨An, cn, hvn, -, -⟩ := HN.out.rd.shape
  subst hvn
  clear HT0 HT1 HT2 HT3 HT4 HT5 HL1 HL2 HL3 HL4 HL5
  go_wp2_with (refine wpList_alloc_blk rfl 28 rfl (rpc rp0 (.slice none 0 0)) zeroRpP ?_)
  intro u1 a1 a2 a3
  obtain ⟨g6, hg6⟩ : ∃ g, v5.heap.size = g := ⟨_, rfl⟩
  have AA := Lib.hid a1
  have A3 := Lib.hid a3
  have hgp6 : gp < g6 := by rw [← hg6]; exact XP.out.lt
  have hs6 := Lib.hid (Nat.le_of_eq hg6)
  rw [hg6] at AA A3 ⊢
  clear a1 a2 a3 hg6
  go_wp2_with (refine wpList_store_to rfl 28 _ _ rfl g6 (rpc (n0, n1, n2, p4, n3, ss) (.slice An ss.length cn)) (rpc rp0 (.slice none 0 0)) 28 rfl rfl AA.out szRpP rfl (rpc_all _ _ _ _) ?_)
  intro u2 e1 e2 e3 e4
  have X6 := Lib.hid e1
  have hb := A3.out.trans e3
  have XP := Lib.hid (XP.out.below hb hgp6)
  have X0 := Lib.hid (X0.out.below hb (by omega))
  have HO := Lib.hid (HO.out.below hb hs6.out)
  have HN := Lib.hid (HN.out.below hb hs6.out)
  have E := Lib.hid (Ev5.out.trans (hb.mono (by omega)))
  have hne6 : g6 ≠ g := by omega
  clear e1 e2 e3 e4 AA A3 hb Ev5 hs6
  obtain ⟨OO, hOO⟩ : ∃ o : Rp, (n0, n1, n2, p4, n3, ss) = o := ⟨_, rfl⟩
  have HEE : Hid (pE OO = n2) := by rw [← hOO]; rfl
  have HNN : Hid (pN OO = ss) := by rw [← hOO]; rfl
  rw [hOO] at X6 HF
  clear hOO
  have cp1 := XP.out.at_ 1 _ rfl
  by_cases hf : fP = 0
  case neg =>
    have hz : ((fP : Int) == 0) = false := by rw [beq_eq_false_iff_ne]; omega
    have hz2 : ((fP : Int) != 0) = true := by rw [bne_iff_ne]; omega
    rw [if_pos hf] at HF
    clear hf
    go_wp2
    have hst := Lib.hid (KeepT.start (n := 6) X0.out rfl)
    refine wp_region_relyY (KeepT g 6 28 u2) hst.out [] [3] (fun _ _ _ _ => True) (fun k => [undef, undef, undef, undef, .slice none 0 0, .int IntKind.i64 0].getD k undef) 6 0 (fun x => ⟨#[.slice A l.length c, undef, .pointer (some { block := g, off := 0 }), x 4, x 5, .pointer (some { block := gp, off := 0 }), .pointer (some { block := g6, off := 0 }), .slice A l.length c, .agg #[Value.slice A l.length c, Value.int IntKind.i64 0], .int IntKind.i64 n0, .int IntKind.i64 n1, .int IntKind.i64 n2, .int IntKind.i64 n3, txt p4, .slice An ss.length cn, .agg #[Value.int IntKind.i64 n0, Value.int IntKind.i64 n1, Value.int IntKind.i64 n2, txt p4, Value.int IntKind.i64 n3, Value.slice An ss.length cn], .pointer (some { block := gp, off := 1 }), .int IntKind.i64 (fP : Int), .bool false, .bool false, undef, undef, undef, undef, undef, undef, undef, undef, .bool false, undef, .pointer (some { block := gp, off := 1 }), .int IntKind.i64 (fP : Int), .bool true, x 0, x 1, x 2, undef, undef, undef], []⟩) (fun jj => ([fun x w => eqV (.agg (rpc rp0 (.slice none 0 0)).toArray) (x 0) w, fun x w => eqV (.pointer (some ⟨gp, 1, none⟩)) (x 1) w, fun x w => eqV (.int .i64 (fP : Int)) (x 2) w, fun x w => Blk w g (rpc rp0 (.slice none 0 0)) 28, fun x w => eqV (.slice none 0 0) (x 4) w, fun x w => eqV (.int .i64 (fP : Int)) (x 5) w] : List ((Nat → Value) → World → Prop)).getD jj (fun _ _ => True)) rfl rfl (by kernel_rfl) (by kernel_rfl) (by kernel_rfl) (fun p hp => by cases hp) ?steps ?fin
    case steps =>
      refine StepsY.val 0 (.agg (rpc rp0 (.slice none 0 0)).toArray) rfl (by decide) (fun _ _ => rfl) rfl rfl (fun x wx hI hd => ?_) ?_
      · first | (go_simp; done) | (go_simp; rfl)
      refine StepsY.val 1 (.pointer (some ⟨gp, 1, none⟩)) rfl (by decide) (fun _ _ => rfl) rfl rfl (fun x wx hI hd => ?_) ?_
      · first | (go_simp; done) | (go_simp; rfl)
      refine StepsY.val 2 (.int .i64 (fP : Int)) rfl (by decide) (fun _ _ => rfl) rfl rfl (fun x wx hI hd => ?_) ?_
      · have h1 : x 1 = .pointer (some ⟨gp, 1, none⟩) := hd 1 (by kernel_rfl)
        have cc := (hI.blk XP.out hnep).at_ 1 _ rfl
        rw [h1]
        first | (go_simp; done) | (go_simp; rfl)
      refine StepsY.cons 3 (fun x i vv w1 w2 hij hni h1 h2 h3 => ?_) (fun _ _ => rfl) rfl rfl (fun x wx hI hx hd hs9 K hK => ?_) ?_
      · change Blk w1 g (rpc rp0 (.slice none 0 0)) 28 at h1
        show Blk w2 g (rpc rp0 (.slice none 0 0)) 28
        unfold effX at h2
        rw [if_neg (by simpa using hij)] at h2
        exact h1.below h2 h1.lt
      · obtain ⟨cs9, k4, k5⟩ := hI.2.2.2
        have hv : x 0 = .agg (rpc rp0 (.slice none 0 0)).toArray := hd 0 (by kernel_rfl)
        refine wp_of_list rfl (wpList_store_to rfl 28 _ _ rfl g (rpc rp0 (.slice none 0 0)) cs9 28 rfl hv k5 szRpP k4 (rpc_all _ _ _ _) ?_)
        intro w8 e1 e2 e3 e4
        refine hK.out _ w8 (hI.store e1 e2 e3 e4 rfl) ?_ e1
        unfold effX
        rw [if_pos (by decide)]
        trivial
      refine StepsY.val 4 (.slice none 0 0) rfl (by decide) (fun _ _ => rfl) rfl rfl (fun x wx hI hd => ?_) ?_
      · first | (go_simp; done) | (go_simp; rfl)
      refine StepsY.val 5 (.int .i64 (fP : Int)) rfl (by decide) (fun _ _ => rfl) rfl rfl (fun x wx hI hd => ?_) ?_
      · have h2 : x 2 = .int .i64 (fP : Int) := hd 2 (by kernel_rfl)
        rw [h2]
        first | (go_simp; done) | (go_simp; rfl)
      exact StepsY.done
    case fin =>
      intro x wx hI hd
      have XG := Lib.hid (show Blk wx g (rpc rp0 (.slice none 0 0)) 28 from hd 3 (by omega))
      have hx0 : x 0 = .agg (rpc rp0 (.slice none 0 0)).toArray := hd 0 (by omega)
      have hx1 : x 1 = .pointer (some ⟨gp, 1, none⟩) := hd 1 (by omega)
      have hx2 : x 2 = .int .i64 (fP : Int) := hd 2 (by omega)
      have hx4 : x 4 = .slice none 0 0 := hd 4 (by omega)
      have hx5 : x 5 = .int .i64 (fP : Int) := hd 5 (by omega)
      refine AnyTill.any (S := fun _ => True) (m := 6) _ _ _ _ ?_
      refine AnyTill.done (by kernel_rfl) ?_
      refine NoPanic.normal ?_
      try dsimp only
      rw [hx0, hx1, hx2, hx4, hx5]
      have HI := Lib.hid hI
      clear hd hI hx0 hx1 hx2 hx4 hx5
      go_wp2
      refine bodyPost_ret (v := .tuple #[.agg (rpc rp0 (.slice none 0 0)).toArray, .slice none 0 0, .int .i64 (fP : Int)]) ?_ rfl ?_
      · exact ret_blk3O rfl _ _ g 28 (rpc rp0 (.slice none 0 0)) _ _ rfl rfl rfl XG.out d30 HU.out HD.out szRpP
      · rw [HF.out]
        exact ⟨_, _, rfl, RdS.nil _ _, Rd.nil _ _, by rw [HG.out]; exact E.out.trans HI.out.2.2.1⟩
  subst hf
  rw [if_neg (by simp)] at HF
  change u2.cell? ⟨gp, 1, none⟩ = some (.int .i64 0) at cp1
  have d2 : u2.cell? ⟨g6, 2, none⟩ = some (.int .i64 n2) := by
    rw [← HEE.out]
    exact X6.out.at_ 2 _ rfl
  by_cases h2 : n2 < 0
  case pos =>
    rw [if_pos (Or.inl h2)] at HF
    have hb3 : Blk u2 gp [.slice AP nP cP, .int .i64 0] 66 := XP.out
    have B3 := Lib.hid hb3
    clear hb3 XP
    go_wp2_with (refine wpList_store_fld rfl 25 _ _ rfl gp 1 [.slice AP nP cP, .int .i64 0] (.int .i64 3) 66 rfl rfl B3.out szErr1 (by show 1 < 2; decide) rfl ?_)
    intro u5 e1 e2 e3 e4
    have XP := Lib.hid (show Blk u5 gp [.slice AP nP cP, .int .i64 3] 66 from e1)
    have X0 := Lib.hid (X0.out.below e3 hg1)
    have EE := Lib.hid (E.out.trans (e3.mono (Nat.le_of_lt hg1)))
    clear e1 e2 e3 e4 B3 cp1 d2
    have cq1 := XP.out.at_ 1 _ rfl
    go_wp2
    have hst := Lib.hid (KeepT.start (n := 6) X0.out rfl)
    refine wp_region_relyY (KeepT g 6 28 u5) hst.out [] [3] (fun _ _ _ _ => True) (fun k => [undef, undef, undef, undef, .slice none 0 0, .int IntKind.i64 0].getD k undef) 6 0 (fun x => ⟨#[.slice A l.length c, undef, .pointer (some { block := g, off := 0 }), x 4, x 5, .pointer (some { block := gp, off := 0 }), .pointer (some { block := g6, off := 0 }), .slice A l.length c, .agg #[Value.slice A l.length c, Value.int IntKind.i64 0], .int IntKind.i64 n0, .int IntKind.i64 n1, .int IntKind.i64 n2, .int IntKind.i64 n3, txt p4, .slice An ss.length cn, .agg #[Value.int IntKind.i64 n0, Value.int IntKind.i64 n1, Value.int IntKind.i64 n2, txt p4, Value.int IntKind.i64 n3, Value.slice An ss.length cn], .pointer (some { block := gp, off := 1 }), .int IntKind.i64 0, .bool true, .bool true, .pointer (some { block := g6, off := 2 }), .int IntKind.i64 n2, .bool true, .bool true, undef, undef, undef, .bool true, .bool true, .pointer (some { block := gp, off := 1 }), .pointer (some { block := gp, off := 1 }), .int IntKind.i64 3, .bool true, x 0, x 1, x 2, undef, undef, undef], []⟩) (fun jj => ([fun x w => eqV (.agg (rpc rp0 (.slice none 0 0)).toArray) (x 0) w, fun x w => eqV (.pointer (some ⟨gp, 1, none⟩)) (x 1) w, fun x w => eqV (.int .i64 3) (x 2) w, fun x w => Blk w g (rpc rp0 (.slice none 0 0)) 28, fun x w => eqV (.slice none 0 0) (x 4) w, fun x w => eqV (.int .i64 3) (x 5) w] : List ((Nat → Value) → World → Prop)).getD jj (fun _ _ => True)) rfl rfl (by kernel_rfl) (by kernel_rfl) (by kernel_rfl) (fun p hp => by cases hp) ?steps ?fin
    case steps =>
      refine StepsY.val 0 (.agg (rpc rp0 (.slice none 0 0)).toArray) rfl (by decide) (fun _ _ => rfl) rfl rfl (fun x wx hI hd => ?_) ?_
      · first | (go_simp; done) | (go_simp; rfl)
      refine StepsY.val 1 (.pointer (some ⟨gp, 1, none⟩)) rfl (by decide) (fun _ _ => rfl) rfl rfl (fun x wx hI hd => ?_) ?_
      · first | (go_simp; done) | (go_simp; rfl)
      refine StepsY.val 2 (.int .i64 3) rfl (by decide) (fun _ _ => rfl) rfl rfl (fun x wx hI hd => ?_) ?_
      · have h1 : x 1 = .pointer (some ⟨gp, 1, none⟩) := hd 1 (by kernel_rfl)
        have cc := (hI.blk XP.out hnep).at_ 1 _ rfl
        rw [h1]
        first | (go_simp; done) | (go_simp; rfl)
      refine StepsY.cons 3 (fun x i vv w1 w2 hij hni h1 h2 h3 => ?_) (fun _ _ => rfl) rfl rfl (fun x wx hI hx hd hs9 K hK => ?_) ?_
      · change Blk w1 g (rpc rp0 (.slice none 0 0)) 28 at h1
        show Blk w2 g (rpc rp0 (.slice none 0 0)) 28
        unfold effX at h2
        rw [if_neg (by simpa using hij)] at h2
        exact h1.below h2 h1.lt
      · obtain ⟨cs9, k4, k5⟩ := hI.2.2.2
        have hv : x 0 = .agg (rpc rp0 (.slice none 0 0)).toArray := hd 0 (by kernel_rfl)
        refine wp_of_list rfl (wpList_store_to rfl 28 _ _ rfl g (rpc rp0 (.slice none 0 0)) cs9 28 rfl hv k5 szRpP k4 (rpc_all _ _ _ _) ?_)
        intro w8 e1 e2 e3 e4
        refine hK.out _ w8 (hI.store e1 e2 e3 e4 rfl) ?_ e1
        unfold effX
        rw [if_pos (by decide)]
        trivial
      refine StepsY.val 4 (.slice none 0 0) rfl (by decide) (fun _ _ => rfl) rfl rfl (fun x wx hI hd => ?_) ?_
      · first | (go_simp; done) | (go_simp; rfl)
      refine StepsY.val 5 (.int .i64 3) rfl (by decide) (fun _ _ => rfl) rfl rfl (fun x wx hI hd => ?_) ?_
      · have h2 : x 2 = .int .i64 3 := hd 2 (by kernel_rfl)
        rw [h2]
        first | (go_simp; done) | (go_simp; rfl)
      exact StepsY.done
    case fin =>
      intro x wx hI hd
      have XG := Lib.hid (show Blk wx g (rpc rp0 (.slice none 0 0)) 28 from hd 3 (by omega))
      have hx0 : x 0 = .agg (rpc rp0 (.slice none 0 0)).toArray := hd 0 (by omega)
      have hx1 : x 1 = .pointer (some ⟨gp, 1, none⟩) := hd 1 (by omega)
      have hx2 : x 2 = .int .i64 3 := hd 2 (by omega)
      have hx4 : x 4 = .slice none 0 0 := hd 4 (by omega)
      have hx5 : x 5 = .int .i64 3 := hd 5 (by omega)
      refine AnyTill.any (S := fun _ => True) (m := 6) _ _ _ _ ?_
      refine AnyTill.done (by kernel_rfl) ?_
      refine NoPanic.normal ?_
      try dsimp only
      rw [hx0, hx1, hx2, hx4, hx5]
      have HI := Lib.hid hI
      clear hd hI hx0 hx1 hx2 hx4 hx5
      go_wp2
      refine bodyPost_ret (v := .tuple #[.agg (rpc rp0 (.slice none 0 0)).toArray, .slice none 0 0, .int .i64 3]) ?_ rfl ?_
      · exact ret_blk3O rfl _ _ g 28 (rpc rp0 (.slice none 0 0)) _ _ rfl rfl rfl XG.out d30 HU.out HD.out szRpP
      · rw [HF.out]
        exact ⟨_, _, rfl, RdS.nil _ _, Rd.nil _ _, by rw [HG.out]; exact EE.out.trans HI.out.2.2.1⟩
  have h2a := h2
  clear h2
  by_cases h2 : (16 : Int) < n2
  case pos =>
    rw [if_pos (Or.inr h2)] at HF
    have hb3 : Blk u2 gp [.slice AP nP cP, .int .i64 0] 66 := XP.out
    have B3 := Lib.hid hb3
    clear hb3 XP
    go_wp2_with (refine wpList_store_fld rfl 25 _ _ rfl gp 1 [.slice AP nP cP, .int .i64 0] (.int .i64 3) 66 rfl rfl B3.out szErr1 (by show 1 < 2; decide) rfl ?_)
    intro u5 e1 e2 e3 e4
    have XP := Lib.hid (show Blk u5 gp [.slice AP nP cP, .int .i64 3] 66 from e1)
    have X0 := Lib.hid (X0.out.below e3 hg1)
    have EE := Lib.hid (E.out.trans (e3.mono (Nat.le_of_lt hg1)))
    clear e1 e2 e3 e4 B3 cp1 d2
    have cq1 := XP.out.at_ 1 _ rfl
    go_wp2
    have hst := Lib.hid (KeepT.start (n := 6) X0.out rfl)
    refine wp_region_relyY (KeepT g 6 28 u5) hst.out [] [3] (fun _ _ _ _ => True) (fun k => [undef, undef, undef, undef, .slice none 0 0, .int IntKind.i64 0].getD k undef) 6 0 (fun x => ⟨#[.slice A l.length c, undef, .pointer (some { block := g, off := 0 }), x 4, x 5, .pointer (some { block := gp, off := 0 }), .pointer (some { block := g6, off := 0 }), .slice A l.length c, .agg #[Value.slice A l.length c, Value.int IntKind.i64 0], .int IntKind.i64 n0, .int IntKind.i64 n1, .int IntKind.i64 n2, .int IntKind.i64 n3, txt p4, .slice An ss.length cn, .agg #[Value.int IntKind.i64 n0, Value.int IntKind.i64 n1, Value.int IntKind.i64 n2, txt p4, Value.int IntKind.i64 n3, Value.slice An ss.length cn], .pointer (some { block := gp, off := 1 }), .int IntKind.i64 0, .bool true, .bool true, .pointer (some { block := g6, off := 2 }), .int IntKind.i64 n2, .bool false, .bool false, .pointer (some { block := g6, off := 2 }), .int IntKind.i64 n2, .bool true, .bool true, .bool true, .pointer (some { block := gp, off := 1 }), .pointer (some { block := gp, off := 1 }), .int IntKind.i64 3, .bool true, x 0, x 1, x 2, undef, undef, undef], []⟩) (fun jj => ([fun x w => eqV (.agg (rpc rp0 (.slice none 0 0)).toArray) (x 0) w, fun x w => eqV (.pointer (some ⟨gp, 1, none⟩)) (x 1) w, fun x w => eqV (.int .i64 3) (x 2) w, fun x w => Blk w g (rpc rp0 (.slice none 0 0)) 28, fun x w => eqV (.slice none 0 0) (x 4) w, fun x w => eqV (.int .i64 3) (x 5) w] : List ((Nat → Value) → World → Prop)).getD jj (fun _ _ => True)) rfl rfl (by kernel_rfl) (by kernel_rfl) (by kernel_rfl) (fun p hp => by cases hp) ?steps ?fin
    case steps =>
      refine StepsY.val 0 (.agg (rpc rp0 (.slice none 0 0)).toArray) rfl (by decide) (fun _ _ => rfl) rfl rfl (fun x wx hI hd => ?_) ?_
      · first | (go_simp; done) | (go_simp; rfl)
      refine StepsY.val 1 (.pointer (some ⟨gp, 1, none⟩)) rfl (by decide) (fun _ _ => rfl) rfl rfl (fun x wx hI hd => ?_) ?_
      · first | (go_simp; done) | (go_simp; rfl)
      refine StepsY.val 2 (.int .i64 3) rfl (by decide) (fun _ _ => rfl) rfl rfl (fun x wx hI hd => ?_) ?_
      · have h1 : x 1 = .pointer (some ⟨gp, 1, none⟩) := hd 1 (by kernel_rfl)
        have cc := (hI.blk XP.out hnep).at_ 1 _ rfl
        rw [h1]
        first | (go_simp; done) | (go_simp; rfl)
      refine StepsY.cons 3 (fun x i vv w1 w2 hij hni h1 h2 h3 => ?_) (fun _ _ => rfl) rfl rfl (fun x wx hI hx hd hs9 K hK => ?_) ?_
      · change Blk w1 g (rpc rp0 (.slice none 0 0)) 28 at h1
        show Blk w2 g (rpc rp0 (.slice none 0 0)) 28
        unfold effX at h2
        rw [if_neg (by simpa using hij)] at h2
        exact h1.below h2 h1.lt
      · obtain ⟨cs9, k4, k5⟩ := hI.2.2.2
        have hv : x 0 = .agg (rpc rp0 (.slice none 0 0)).toArray := hd 0 (by kernel_rfl)
        refine wp_of_list rfl (wpList_store_to rfl 28 _ _ rfl g (rpc rp0 (.slice none 0 0)) cs9 28 rfl hv k5 szRpP k4 (rpc_all _ _ _ _) ?_)
        intro w8 e1 e2 e3 e4
        refine hK.out _ w8 (hI.store e1 e2 e3 e4 rfl) ?_ e1
        unfold effX
        rw [if_pos (by decide)]
        trivial
      refine StepsY.val 4 (.slice none 0 0) rfl (by decide) (fun _ _ => rfl) rfl rfl (fun x wx hI hd => ?_) ?_
      · first | (go_simp; done) | (go_simp; rfl)
      refine StepsY.val 5 (.int .i64 3) rfl (by decide) (fun _ _ => rfl) rfl rfl (fun x wx hI hd => ?_) ?_
      · have h2 : x 2 = .int .i64 3 := hd 2 (by kernel_rfl)
        rw [h2]
        first | (go_simp; done) | (go_simp; rfl)
      exact StepsY.done
    case fin =>
      intro x wx hI hd
      have XG := Lib.hid (show Blk wx g (rpc rp0 (.slice none 0 0)) 28 from hd 3 (by omega))
      have hx0 : x 0 = .agg (rpc rp0 (.slice none 0 0)).toArray := hd 0 (by omega)
      have hx1 : x 1 = .pointer (some ⟨gp, 1, none⟩) := hd 1 (by omega)
      have hx2 : x 2 = .int .i64 3 := hd 2 (by omega)
      have hx4 : x 4 = .slice none 0 0 := hd 4 (by omega)
      have hx5 : x 5 = .int .i64 3 := hd 5 (by omega)
      refine AnyTill.any (S := fun _ => True) (m := 6) _ _ _ _ ?_
      refine AnyTill.done (by kernel_rfl) ?_
      refine NoPanic.normal ?_
      try dsimp only
      rw [hx0, hx1, hx2, hx4, hx5]
      have HI := Lib.hid hI
      clear hd hI hx0 hx1 hx2 hx4 hx5
      go_wp2
      refine bodyPost_ret (v := .tuple #[.agg (rpc rp0 (.slice none 0 0)).toArray, .slice none 0 0, .int .i64 3]) ?_ rfl ?_
      · exact ret_blk3O rfl _ _ g 28 (rpc rp0 (.slice none 0 0)) _ _ rfl rfl rfl XG.out d30 HU.out HD.out szRpP
      · rw [HF.out]
        exact ⟨_, _, rfl, RdS.nil _ _, Rd.nil _ _, by rw [HG.out]; exact EE.out.trans HI.out.2.2.1⟩
  have h2b := h2
  clear h2
  rw [if_neg (by omega)] at HF
  go_wp2
  have hst := Lib.hid (KeepT.start (n := 6) X0.out rfl)
  refine wp_region_relyY (KeepT g 6 28 u2) hst.out [] [3] (fun _ _ _ _ => True) (fun k => [undef, undef, undef, undef, .slice none 0 0, .int IntKind.i64 0].getD k undef) 6 0 (fun x => ⟨#[.slice A l.length c, undef, .pointer (some { block := g, off := 0 }), x 4, x 5, .pointer (some { block := gp, off := 0 }), .pointer (some { block := g6, off := 0 }), .slice A l.length c, .agg #[Value.slice A l.length c, Value.int IntKind.i64 0], .int IntKind.i64 n0, .int IntKind.i64 n1, .int IntKind.i64 n2, .int IntKind.i64 n3, txt p4, .slice An ss.length cn, .agg #[Value.int IntKind.i64 n0, Value.int IntKind.i64 n1, Value.int IntKind.i64 n2, txt p4, Value.int IntKind.i64 n3, Value.slice An ss.length cn], .pointer (some { block := gp, off := 1 }), .int IntKind.i64 0, .bool true, .bool true, .pointer (some { block := g6, off := 2 }), .int IntKind.i64 n2, .bool false, .bool false, .pointer (some { block := g6, off := 2 }), .int IntKind.i64 n2, .bool false, .bool false, .bool false, undef, .pointer (some { block := gp, off := 1 }), .int IntKind.i64 0, .bool false, undef, undef, undef, x 0, x 1, x 2], []⟩) (fun jj => ([fun x w => eqV (.agg (rpc OO (.slice An ss.length cn)).toArray) (x 0) w, fun x w => eqV (.pointer (some ⟨gp, 0, none⟩)) (x 1) w, fun x w => eqV (.slice AP nP cP) (x 2) w, fun x w => Blk w g (rpc OO (.slice An ss.length cn)) 28, fun x w => eqV (.slice AP nP cP) (x 4) w, fun x w => eqV (.int .i64 0) (x 5) w] : List ((Nat → Value) → World → Prop)).getD jj (fun _ _ => True)) rfl rfl (by kernel_rfl) (by kernel_rfl) (by kernel_rfl) (fun p hp => by cases hp) ?steps ?fin
  case steps =>
    refine StepsY.val 0 (.agg (rpc OO (.slice An ss.length cn)).toArray) rfl (by decide) (fun _ _ => rfl) rfl rfl (fun x wx hI hd => ?_) ?_
    · have d0 := (hI.blk X6.out hne6).at_ 0 _ rfl
      have d1 := (hI.blk X6.out hne6).at_ 1 _ rfl
      have d2 := (hI.blk X6.out hne6).at_ 2 _ rfl
      have d3 := (hI.blk X6.out hne6).at_ 3 _ rfl
      have d4 := (hI.blk X6.out hne6).at_ 4 _ rfl
      have d5 := (hI.blk X6.out hne6).at_ 5 _ rfl
      first | (go_simp; done) | (go_simp; rfl)
    refine StepsY.val 1 (.pointer (some ⟨gp, 0, none⟩)) rfl (by decide) (fun _ _ => rfl) rfl rfl (fun x wx hI hd => ?_) ?_
    · first | (go_simp; done) | (go_simp; rfl)
    refine StepsY.val 2 (.slice AP nP cP) rfl (by decide) (fun _ _ => rfl) rfl rfl (fun x wx hI hd => ?_) ?_
    · have h1 : x 1 = .pointer (some ⟨gp, 0, none⟩) := hd 1 (by kernel_rfl)
      have cc := (hI.blk XP.out hnep).at_ 0 _ rfl
      rw [h1]
      first | (go_simp; done) | (go_simp; rfl)
    refine StepsY.cons 3 (fun x i vv w1 w2 hij hni h1 h2 h3 => ?_) (fun _ _ => rfl) rfl rfl (fun x wx hI hx hd hs9 K hK => ?_) ?_
    · change Blk w1 g (rpc OO (.slice An ss.length cn)) 28 at h1
      show Blk w2 g (rpc OO (.slice An ss.length cn)) 28
      unfold effX at h2
      rw [if_neg (by simpa using hij)] at h2
      exact h1.below h2 h1.lt
    · obtain ⟨cs9, k4, k5⟩ := hI.2.2.2
      have hv : x 0 = .agg (rpc OO (.slice An ss.length cn)).toArray := hd 0 (by kernel_rfl)
      refine wp_of_list rfl (wpList_store_to rfl 28 _ _ rfl g (rpc OO (.slice An ss.length cn)) cs9 28 rfl hv k5 szRpP k4 (rpc_all _ _ _ _) ?_)
      intro w8 e1 e2 e3 e4
      refine hK.out _ w8 (hI.store e1 e2 e3 e4 rfl) ?_ e1
      unfold effX
      rw [if_pos (by decide)]
      trivial
    refine StepsY.val 4 (.slice AP nP cP) rfl (by decide) (fun _ _ => rfl) rfl rfl (fun x wx hI hd => ?_) ?_
    · have h2 : x 2 = .slice AP nP cP := hd 2 (by kernel_rfl)
      rw [h2]
      first | (go_simp; done) | (go_simp; rfl)
    refine StepsY.val 5 (.int .i64 0) rfl (by decide) (fun _ _ => rfl) rfl rfl (fun x wx hI hd => ?_) ?_
    · first | (go_simp; done) | (go_simp; rfl)
    exact StepsY.done
  case fin =>
    intro x wx hI hd
    have XG := Lib.hid (show Blk wx g (rpc OO (.slice An ss.length cn)) 28 from hd 3 (by omega))
    have hx0 : x 0 = .agg (rpc OO (.slice An ss.length cn)).toArray := hd 0 (by omega)
    have hx1 : x 1 = .pointer (some ⟨gp, 0, none⟩) := hd 1 (by omega)
    have hx2 : x 2 = .slice AP nP cP := hd 2 (by omega)
    have hx4 : x 4 = .slice AP nP cP := hd 4 (by omega)
    have hx5 : x 5 = .int .i64 0 := hd 5 (by omega)
    refine AnyTill.any (S := fun _ => True) (m := 6) _ _ _ _ ?_
    refine AnyTill.done (by kernel_rfl) ?_
    refine NoPanic.normal ?_
    try dsimp only
    rw [hx0, hx1, hx2, hx4, hx5]
    have HI := Lib.hid hI
    clear hd hI hx0 hx1 hx2 hx4 hx5
    go_wp2
    refine bodyPost_ret (v := .tuple #[.agg (rpc OO (.slice An ss.length cn)).toArray, .slice AP nP cP, .int .i64 0]) ?_ rfl ?_
    · exact ret_blk3O rfl _ _ g 28 (rpc OO (.slice An ss.length cn)) _ _ rfl rfl rfl XG.out d30 HU.out HD.out szRpP
    · rw [HF.out]
      exact ⟨_, _, rfl, by rw [HNN.out]; exact (show OwnS 9 wx (gp + 1) (.slice An ss.length cn) ss from HI.out.own HN.out (by omega)).rd, (show Own 5 wx (gp + 1) (.slice AP nP cP) rP from HI.out.own HO.out (by omega)).rd, by rw [HG.out]; exact E.out.trans HI.out.2.2.1⟩
end Go.Proofs.Ytmlpiembglmggaa
