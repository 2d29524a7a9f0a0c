/-
  The statements on orders: OrderOnly.
-/
import Derived.Test.YtmlpiembglmggaaNS
import Derived.Test.YtmlpiembglmggaaRZ
namespace Go.Proofs.Ytmlpiembglmggaa
open Go.RowKit
theorem kindU8 : KindOf Try.prog 5 U8K 1 := kind_of (z := .int .u8 0) (by kernel_rfl) rfl
theorem takeO_back {b r : List UInt8} {o : Or} (h : takeO b = (o, r, 0)) : ([] ++ encO o) ++ r = b := by
  rw [List.nil_append]
  exact (takeO_only b o r h).2.1
theorem takeO_rest (b : List UInt8) : (takeO b).2.1.length ≤ b.length := by
  by_cases h : (takeO b).2.2 = 0
  · obtain ⟨_, h2, _⟩ := takeO_only b (takeO b).1 (takeO b).2.1 (by rw [← h])
    have h3 := congrArg List.length h2
    rw [List.length_append] at h3
    omega
  · have : (takeO b).2.1 = [] := by
      revert h
      unfold takeO
      repeat' split
      all_goals intro h
      all_goals first | rfl | exact absurd rfl h
    rw [this]
    exact Nat.zero_le _
theorem takeR_rest (b : List UInt8) : (takeR b).2.1.length ≤ b.length := by
  by_cases h : (takeR b).2.2 = 0
  · obtain ⟨h2, _⟩ := takeR_only b (takeR b).1 (takeR b).2.1 (by rw [← h])
    have h3 := congrArg List.length h2
    rw [List.length_append] at h3
    omega
  · have : (takeR b).2.1 = [] := by
      revert h
      unfold takeR
      repeat' split
      all_goals intro h
      all_goals first | rfl | exact absurd rfl h
    rw [this]
    exact Nat.zero_le _
theorem takes_rest {l RO RR : List UInt8} {OO : Or} {RP : Rp} {EO ER : Nat} (h1 : takeO l = (OO, RO, EO)) (h2 : takeR l = (RP, RR, ER)) (hl : l.length ≤ 4000) : RO.length ≤ 4000 ∧ RR.length ≤ 4000 := by
  have h3 := takeO_rest l
  have h4 := takeR_rest l
  rw [h1] at h3
  rw [h2] at h4
  exact ⟨Nat.le_trans h3 hl, Nat.le_trans h4 hl⟩
theorem orMayIs (o : Or) (b : Bool) (h : mayO o = b) (w : World) : Calls Try.prog 16 #[.agg (orc o).toArray] w (One (.bool b) w) := by
  rw [← h]
  exact orMay_any o w
theorem takeO_fit {b r : List UInt8} {o : Or} (h : takeO b = (o, r, 0)) : (∀ n ∈ nsO o, fit64 n) ∧ mayO o = true ∧ (oP o).length ≤ 100 ∧ (oV o).length ≤ 1000 := by
  obtain ⟨h1, _, h3, h4, h5⟩ := takeO_only b o r h
  obtain ⟨m1, m2, m3, m4, m5, m6, m7, m8⟩ := may_sized h1
  refine ⟨?_, h1, m7, m8⟩
  intro n hn
  simp only [nsO, List.mem_cons, List.not_mem_nil, or_false] at hn
  unfold fit64 at h3 h4 h5 ⊢
  rcases hn with rfl | rfl | rfl | rfl | rfl | rfl <;> constructor <;> omega
theorem takeR_back {b r : List UInt8} {p : Rp} (h : takeR b = (p, r, 0)) : ([] ++ encR p) ++ r = b := by
  rw [List.nil_append]
  exact (takeR_only b p r h).1
theorem takeR_fit {b r : List UInt8} {p : Rp} (h : takeR b = (p, r, 0)) : (∀ n ∈ nsR p, fit64 n) ∧ (pV p).length + (encs (pN p)).length ≤ b.length := by
  refine ⟨?_, ?_⟩
  · unfold takeR at h
    split at h
    · rename_i h1; injection h with q1 q2; injection q2 with q2 q3; exact absurd q3 h1
    rename_i h1
    split at h
    · rename_i h2; injection h with q1 q2; injection q2 with q2 q3; exact absurd q3 h2
    rename_i h2
    split at h
    · rename_i h3; injection h with q1 q2; injection q2 with q2 q3; exact absurd q3 h3
    rename_i h3
    split at h
    · injection h with q1 q2; injection q2 with q2 q3; cases q3
    rename_i h4
    injection h with q1 q2
    have e1 : (takeIs 4 b).2.2 = 0 := by simpa using h1
    obtain ⟨a1, a2, a3⟩ := takeIs_only 4 b (takeIs 4 b).1 (takeIs 4 b).2.1 (by rw [← e1])
    generalize hL : (takeIs 4 b).1 = L at *
    subst q1
    match L, a2, a3 with
    | [n0, n1, n2, n3], _, a3 =>
      intro n hn
      simp only [nsR, rpTaken, pC, pQ, pE, pR, List.getD_cons_zero, List.getD_cons_succ, List.mem_cons, List.not_mem_nil, or_false] at hn
      rcases hn with rfl | rfl | rfl | rfl <;> exact a3 _ (by simp)
  · obtain ⟨h1, _, _⟩ := takeR_only b p r h
    rw [← h1]
    have h2 : (pV p).length ≤ (encX (pV p)).length := by
      unfold encX
      rw [encS_length, ba_size]
      omega
    have h3 : (encs (pN p)).length ≤ (encL (pN p)).length := by
      unfold encL
      rw [List.length_append]
      omega
    simp only [encR, List.length_append]
    omega

set_option maxRecDepth 1000000 in
set_option maxHeartbeats 16000000 in
theorem onlyO_all (v : Value) (l : List UInt8) (w : World) (hr : Rd w.heap.size w v l) : Calls Try.prog 6 #[v] w (One (.bool true) w) := by
  obtain ⟨A, c, rfl, hc, hm⟩ := hr.shape
  unfold maxLen at hm
  obtain ⟨n, hn⟩ : ∃ n, l.length = n := ⟨_, rfl⟩
  have HN := Lib.hid hn
  have HR := Lib.hid hr
  rw [hn] at HR hc ⊢
  clear hr hn
  obtain ⟨dP, hu9, hd9⟩ := rowOrP
  have HUP := Lib.hid hu9
  have HDP := Lib.hid hd9
  clear hu9 hd9
  obtain ⟨dp, hu9, hd9⟩ := rowRpP
  have HUp := Lib.hid hu9
  have HDp := Lib.hid hd9
  clear hu9 hd9
  go_enter Try.func6, Try.ntmps6
  by_cases hk : (4000 : Int) < (n : Int)
  · go_wp2_with fail
    refine (alive12 w).mono ?_
    rintro e W1 ⟨rfl, hb⟩
    have E1 := Lib.hid hb
    clear hb
    go_wp2
    go_ret
    exact ⟨rfl, E1.out⟩
  have HL : Hid (l.length ≤ 4000) := by
    show _ ≤ _
    rw [HN.out]
    omega
  obtain ⟨OO, RO, EO, hTO⟩ : ∃ a b c, takeO l = (a, b, c) := ⟨_, _, _, rfl⟩
  have HTO := Lib.hid hTO
  obtain ⟨RP, RR, ER, hTR⟩ : ∃ a b c, takeR l = (a, b, c) := ⟨_, _, _, rfl⟩
  have HTR := Lib.hid hTR
  have HNM := Lib.hid (takeR_names l RP RR ER hTR HL.out)
  clear hTO hTR
  go_wp2_with fail
  refine (orTake_any (.slice A n c) l w HR.out (by have := HL.out; omega)).mono ?_
  rintro e va1 ⟨x1, rfl, hrd, hb⟩
  rw [HTO.out] at hrd ⊢
  dsimp only at hrd ⊢
  go_wp2_with (refine wpList_alloc_blk rfl 24 rfl (orc or0) zeroOrP ?_)
  intro vb1 a1 a2 a3
  obtain ⟨vg1, hg⟩ : ∃ g, va1.heap.size = g := ⟨_, rfl⟩
  have AA := Lib.hid a1
  have EB := Lib.hid (hb.trans (a3.mono hb.size))
  have A3 := Lib.hid a3
  have hbg : w.heap.size ≤ vg1 := by have := hb.size; omega
  have hgs : vg1 ≤ vb1.heap.size := by omega
  have HG := Lib.hid hg
  have RR0 := Lib.hid hrd
  rw [hg] at AA A3 RR0 ⊢
  clear a1 a2 a3 hb hg hrd
  go_wp2_with (refine wpList_store_to rfl 24 _ _ rfl vg1 (orc OO) (orc or0) 24 rfl rfl AA.out szOrP rfl (orc_all _) ?_)
  intro W1 e1 e2 e3 e4
  have X1 := Lib.hid e1
  have E1 := Lib.hid (EB.out.trans (e3.mono hbg))
  have RX1 := Lib.hid (((RR0.out.below A3.out).below e3).more (show vg1 ≤ W1.heap.size by omega))
  clear e1 e2 e3 e4 AA EB A3 hbg hgs HG RR0
  obtain ⟨A1, c1, hv1, -, -⟩ := RX1.out.shape
  subst hv1
  go_wp2_with fail
  refine (orTakeR_any (.slice A n c) l W1 ((HR.out.below E1.out).more E1.out.size) (by have := HL.out; omega)).mono ?_
  rintro e va2 ⟨n3, x3, rfl, hnn, hrd, hb⟩
  rw [HTR.out] at hrd hnn ⊢
  dsimp only at hrd hnn ⊢
  obtain ⟨A3n, c3n, hv3n, -, -⟩ := hnn.shape
  change n3 = .slice A3n (pN RP).length c3n at hv3n
  subst hv3n
  go_wp2_with (refine wpList_alloc_blk rfl 28 rfl (rpc rp0 (.slice none 0 0)) zeroRpP ?_)
  intro vb2 a1 a2 a3
  obtain ⟨vg2, hg⟩ : ∃ g, va2.heap.size = g := ⟨_, rfl⟩
  have AA := Lib.hid a1
  have EB := Lib.hid (hb.trans (a3.mono hb.size))
  have A3 := Lib.hid a3
  have hbg : W1.heap.size ≤ vg2 := by have := hb.size; omega
  have hgs : vg2 ≤ vb2.heap.size := by omega
  have HG := Lib.hid hg
  have RR0 := Lib.hid hrd
  have RR1 := Lib.hid hnn
  rw [hg] at AA A3 RR0 RR1 ⊢
  clear a1 a2 a3 hb hg hrd hnn
  go_wp2_with (refine wpList_store_to rfl 28 _ _ rfl vg2 (rpc RP (.slice A3n (pN RP).length c3n)) (rpc rp0 (.slice none 0 0)) 28 rfl rfl AA.out szRpP rfl (rpc_all _ _ _ _) ?_)
  intro W2 e1 e2 e3 e4
  have X3 := Lib.hid e1
  have E2 := Lib.hid (EB.out.trans (e3.mono hbg))
  have RX3 := Lib.hid (((RR0.out.below A3.out).below e3).more (show vg2 ≤ W2.heap.size by omega))
  have NX3 := Lib.hid (((RR1.out.below A3.out).below e3).more (show vg2 ≤ W2.heap.size by omega))
  clear e1 e2 e3 e4 AA EB A3 hbg hgs HG RR0 RR1
  have P2_w := Lib.hid (E1.out.trans (E2.out.mono E1.out.size))
  obtain ⟨A3, c3, hv3, -, -⟩ := RX3.out.shape
  subst hv3
  have HRL : Hid (RO.length ≤ 4000 ∧ RR.length ≤ 4000) := Lib.hid (takes_rest HTO.out HTR.out HL.out)
  by_cases he1 : EO = 0
  · subst he1
    have HF := Lib.hid (takeO_fit HTO.out)
    have HEQ := Lib.hid (takeO_back HTO.out)
    have ZX1 := Lib.hid (X1.out.below E2.out X1.out.lt)
    have ZRX1 := Lib.hid ((RX1.out.below E2.out).more E2.out.size)
    have ZHR := Lib.hid ((HR.out.below P2_w.out).more P2_w.out.size)
    go_wp2
    refine wp_region_relyZ [] [10] (fun _ x w w' => GrowB 5 W2.heap.size ([] ++ encO OO) (x 8) w w') (fun k => [undef, undef, undef, undef, undef, undef, undef, undef, undef, undef, undef, undef, undef, undef, undef, undef, undef].getD k undef) 17 0 (fun x => ⟨#[.slice A n c, undef, .bool false, .pointer (some { block := vg1, off := 0 }), .slice A1 RO.length c1, .int IntKind.i64 ↑0, .pointer (some { block := vg2, off := 0 }), .slice A3 RR.length c3, .int IntKind.i64 ↑ER, .slice A n c, .int IntKind.i64 ↑n, .bool false, undef, .tuple #[Value.agg (orc OO).toArray, Value.slice A1 RO.length c1, Value.int IntKind.i64 ↑0], .slice A n c, .tuple #[Value.agg (orc OO).toArray, Value.slice A1 RO.length c1, Value.int IntKind.i64 ↑0], .agg (orc OO).toArray, .slice A1 RO.length c1, .int IntKind.i64 ↑0, .tuple #[Value.agg (rpc RP (Value.slice A3n (pN RP).length c3n)).toArray, Value.slice A3 RR.length c3, Value.int IntKind.i64 ↑ER], .slice A n c, .tuple #[Value.agg (rpc RP (Value.slice A3n (pN RP).length c3n)).toArray, Value.slice A3 RR.length c3, Value.int IntKind.i64 ↑ER], .agg (rpc RP (Value.slice A3n (pN RP).length c3n)).toArray, .slice A3 RR.length c3, .int IntKind.i64 ↑ER, x 0, x 1, x 2, x 3, x 4, x 5, x 6, x 7, x 8, x 9, x 10, x 11, x 12, x 13, x 14, x 15, x 16, undef, undef, undef, undef, undef, undef, undef, undef, undef, undef, undef, undef, undef, undef, undef], []⟩) (fun jj => ([fun x w => eqV (.int IntKind.i64 ↑0) (x 0) w, fun x w => eqV (.bool true) (x 1) w, fun x w => eqV (.bool true) (x 2) w, fun x w => eqV (.agg (orc OO).toArray) (x 3) w, fun x w => eqV (.bool true) (x 4) w, fun x w => eqV (.bool false) (x 5) w, fun x w => eqV (.bool false) (x 6) w, fun x w => eqV (.agg (orc OO).toArray) (x 7) w, fun x w => RowB 5 W2.heap.size ([] ++ encO OO) (x 8) (x 10) w, fun x w => eqV (.slice A1 RO.length c1) (x 9) w, fun x w => BackB 5 W2.heap.size (l) (x 10) w, fun x w => eqV (txt (l)) (x 11) w, fun x w => eqV (.slice A n c) (x 12) w, fun x w => eqV (txt l) (x 13) w, fun x w => eqV (.bool false) (x 14) w, fun x w => eqV (.bool false) (x 15) w, fun x w => eqV (.bool false) (x 16) w] : List ((Nat → Value) → World → Prop)).getD jj (fun _ _ => True)) rfl rfl (by kernel_rfl) (by kernel_rfl) (by kernel_rfl) (fun p hp => by cases hp) ?steps ?fin
    case steps =>
      refine StepsZ.valW 0 (.int IntKind.i64 ↑0) rfl (by decide) (fun _ _ => rfl) rfl (fun _ _ _ => rfl) (fun x wx hb hd => ?_) ?_
      · first | (go_simp; done) | (go_simp; rfl)
      refine StepsZ.valW 1 (.bool true) rfl (by decide) (fun _ _ => rfl) rfl (fun _ _ _ => rfl) (fun x wx hb hd => ?_) ?_
      · have h0 : x 0 = .int IntKind.i64 ↑0 := hd 0 (by kernel_rfl)
        rw [h0]
        first | (go_simp; done) | (go_simp; rfl) | (go_simp; simp)
      refine StepsZ.valW 2 (.bool true) rfl (by decide) (fun _ _ => rfl) rfl (fun _ _ _ => rfl) (fun x wx hb hd => ?_) ?_
      · have h1 : x 1 = .bool true := hd 1 (by kernel_rfl)
        rw [h1]
        first | (go_simp; done) | (go_simp; rfl)
      refine StepsZ.valW 3 (.agg (orc OO).toArray) rfl (by decide) (fun _ _ => rfl) rfl (fun x wx hd => ?_) (fun x wx hb hd => ?_) ?_
      · have hG : x 2 = .bool true := hd 2 (by kernel_rfl)
        simp [Region.wanted, yielded, hG]
      · have d0 := (ZX1.out.below hb ZX1.out.lt).at_ 0 _ rfl
        have d1 := (ZX1.out.below hb ZX1.out.lt).at_ 1 _ rfl
        have d2 := (ZX1.out.below hb ZX1.out.lt).at_ 2 _ rfl
        have d3 := (ZX1.out.below hb ZX1.out.lt).at_ 3 _ rfl
        have d4 := (ZX1.out.below hb ZX1.out.lt).at_ 4 _ rfl
        have d5 := (ZX1.out.below hb ZX1.out.lt).at_ 5 _ rfl
        have d6 := (ZX1.out.below hb ZX1.out.lt).at_ 6 _ rfl
        have d7 := (ZX1.out.below hb ZX1.out.lt).at_ 7 _ rfl
        first | (go_simp; done) | (go_simp; rfl)
      refine StepsZ.rowW 4 (eqV (.bool true)) rfl (by decide) (fun _ _ _ h _ => h) (fun _ _ _ _ _ _ h _ => h) (fun _ _ => rfl) rfl (fun x wx hd => ?_) (fun x wx hb hd K hK => ?_) ?_
      · have hG : x 2 = .bool true := hd 2 (by kernel_rfl)
        simp [Region.wanted, yielded, hG]
      · have h3 : Hid (x 3 = .agg (orc OO).toArray) := hd 3 (by kernel_rfl)
        go_simp
        refine calls_args (args2 := #[.agg (orc OO).toArray]) (by rw [h3.out]) ?_
        refine (orMayIs OO true HF.out.2.1 _).mono ?_
        rintro e w99 ⟨rfl, hb99⟩
        refine hK.out _ _ hb99 ?_
        exact rfl
      refine StepsZ.valW 5 (.bool false) rfl (by decide) (fun _ _ => rfl) rfl (fun x wx hd => ?_) (fun x wx hb hd => ?_) ?_
      · have hG : x 2 = .bool true := hd 2 (by kernel_rfl)
        simp [Region.wanted, yielded, hG]
      · have h4 : x 4 = .bool true := hd 4 (by kernel_rfl)
        rw [h4]
        first | (go_simp; done) | (go_simp; rfl)
      refine StepsZ.valW 6 (.bool false) rfl (by decide) (fun _ _ => rfl) rfl (fun x wx hd => ?_) (fun x wx hb hd => ?_) ?_
      · have hG : x 2 = .bool true := hd 2 (by kernel_rfl)
        simp [Region.wanted, yielded, hG]
      · have h5 : x 5 = .bool false := hd 5 (by kernel_rfl)
        rw [h5]
        first | (go_simp; done) | (go_simp; rfl)
      refine StepsZ.valW 7 (.agg (orc OO).toArray) rfl (by decide) (fun _ _ => rfl) rfl (fun x wx hd => ?_) (fun x wx hb hd => ?_) ?_
      · have hG : x 6 = .bool false := hd 6 (by kernel_rfl)
        simp [Region.wanted, yielded, hG]
      · have d0 := (ZX1.out.below hb ZX1.out.lt).at_ 0 _ rfl
        have d1 := (ZX1.out.below hb ZX1.out.lt).at_ 1 _ rfl
        have d2 := (ZX1.out.below hb ZX1.out.lt).at_ 2 _ rfl
        have d3 := (ZX1.out.below hb ZX1.out.lt).at_ 3 _ rfl
        have d4 := (ZX1.out.below hb ZX1.out.lt).at_ 4 _ rfl
        have d5 := (ZX1.out.below hb ZX1.out.lt).at_ 5 _ rfl
        have d6 := (ZX1.out.below hb ZX1.out.lt).at_ 6 _ rfl
        have d7 := (ZX1.out.below hb ZX1.out.lt).at_ 7 _ rfl
        first | (go_simp; done) | (go_simp; rfl)
      refine StepsZ.consW 8 (fun x i vv w1 w2 hij hni h1 h2 h3 => ?_) (fun _ _ => rfl) rfl (fun x wx hd => ?_) (fun x wx hb hx hd hs9 K hK => ?_) ?_
      · change RowB 5 W2.heap.size ([] ++ encO OO) (x 8) (x 10) w1 at h1
        show RowB 5 W2.heap.size ([] ++ encO OO) (upd x i vv 8) (upd x i vv 10) w2
        rw [upd_ne _ _ _ _ (Ne.symm hij)]
        by_cases hnx : i = 10
        · subst hnx
          rw [upd_same]
          obtain ⟨A9, n9, c9, e9⟩ : ∃ A n c, upd x 10 vv 10 = .slice A n c := h3.1
          rw [upd_same] at e9
          exact ⟨h1.1, fun e => by rw [e9] at e; cases e⟩
        rw [upd_ne _ _ _ _ (Ne.symm hnx)]
        unfold effX at h2
        rw [if_neg (by simpa using hnx)] at h2
        exact ⟨h1.1, fun e => (h1.2 e).belowB h2 (Nat.le_refl _)⟩
      · have hG : x 6 = .bool false := hd 6 (by kernel_rfl)
        simp [Region.wanted, yielded, hG]
      · have h7 : Hid (x 7 = .agg (orc OO).toArray) := hd 7 (by kernel_rfl)
        go_simp
        refine calls_args (args2 := #[.slice none 0 0, .agg (orc OO).toArray]) (by rw [h7.out]) ?_
        refine (orPut_any (.slice none 0 0) [] OO _ (Rd.nil _ _) HF.out.1 (by have h1 := HF.out.2.2; simp; omega)).mono ?_
        rintro e w99 ⟨v99, rfl, hown, hb99⟩
        refine hK.out v99 w99 (hb99.mono hb.size) ?_ ?_
        · unfold effX
          rw [if_neg (by decide)]
          exact hb99
        · show RowB 5 W2.heap.size ([] ++ encO OO) (upd x 8 v99 8) (upd x 8 v99 10) w99
          rw [upd_same]
          exact ⟨hown.isSlice, fun _ => hown.base hb.size⟩
      refine StepsZ.valW 9 (.slice A1 RO.length c1) rfl (by decide) (fun _ _ => rfl) rfl (fun x wx hd => ?_) (fun x wx hb hd => ?_) ?_
      · have hG : x 6 = .bool false := hd 6 (by kernel_rfl)
        simp [Region.wanted, yielded, hG]
      · first | (go_simp; done) | (go_simp; rfl)
      refine StepsZ.consW 10 (fun x i vv w1 w2 hij hni h1 h2 h3 => ?_) (fun _ _ => rfl) rfl (fun x wx hd => ?_) (fun x wx hb hx hd hs9 K hK => ?_) ?_
      · change BackB 5 W2.heap.size (l) (x 10) w1 at h1
        show BackB 5 W2.heap.size (l) (upd x i vv 10) w2
        rw [upd_ne _ _ _ _ (Ne.symm hij)]
        unfold effX at h2
        rw [if_neg (by simpa using hij)] at h2
        exact h1.keep h2
      · have hG : x 6 = .bool false := hd 6 (by kernel_rfl)
        simp [Region.wanted, yielded, hG]
      · have h8 : RowB 5 W2.heap.size ([] ++ encO OO) (x 8) (x 10) wx := hd 8 (by kernel_rfl)
        have hq := Lib.hid (h8.2 hx)
        have h2 : x 9 = .slice A1 RO.length c1 := hd 9 (by kernel_rfl)
        have h4 := Lib.hid (((ZRX1.out.below hb).more hb.size))
        have h6 := Lib.hid hq.out.toE
        have h7 := Lib.hid h4.out.toE
        refine wp_appG (E := U8K) _ _ 22 rfl 5 1 Try.underlying22 kindU8 W2.heap.size _ (x 8) _ _ _ rfl h6.out h2 h7.out ?d1 ?d2 hb.size ?_
        case d1 => have h1 := encO_len OO; have h2 := HF.out.2.2; have h5 := HRL.out; simp only [List.nil_append]; omega
        case d2 => have h1 := encO_len OO; have h2 := HF.out.2.2; have h5 := HRL.out; simp only [List.nil_append]; omega
        intro v9 w9 h9 hb9 hg9
        have hl9 := Lib.hid h9.toB
        refine hK.out v9 w9 hb9 ?_ ?_
        · unfold effX
          rw [if_pos (by decide)]
          exact ⟨hq.out.isSlice, hq.out, hg9⟩
        · show BackB 5 W2.heap.size (l) (upd x 10 v9 10) w9
          rw [upd_same]
          have e9 : [] ++ encO OO ++ RO = l := HEQ.out
          rw [← e9]
          exact ⟨hl9.out.isSlice, hl9.out⟩
      refine StepsZ.valW 11 (txt (l)) rfl (by decide) (fun _ _ => rfl) rfl (fun x wx hd => ?_) (fun x wx hb hd => ?_) ?_
      · have hG : x 6 = .bool false := hd 6 (by kernel_rfl)
        simp [Region.wanted, yielded, hG]
      · obtain ⟨-, hq⟩ : BackB 5 W2.heap.size (l) (x 10) wx := hd 10 (by kernel_rfl)
        have hq2 := Lib.hid hq.rd
        obtain ⟨A9, c9, hv9, -, -⟩ := hq.rd.shape
        rw [hv9] at hq2 ⊢
        have cc := run_string_rd 22 9 5 Try.underlying22 Try.underlying5 Try.underlying9 hq2.out
        clear hd hq hv9
        first | (go_simp; done) | (go_simp; rfl)
      refine StepsZ.valW 12 (.slice A n c) rfl (by decide) (fun _ _ => rfl) rfl (fun x wx hd => ?_) (fun x wx hb hd => ?_) ?_
      · have hG : x 6 = .bool false := hd 6 (by kernel_rfl)
        simp [Region.wanted, yielded, hG]
      · first | (go_simp; done) | (go_simp; rfl)
      refine StepsZ.valW 13 (txt l) rfl (by decide) (fun _ _ => rfl) rfl (fun x wx hd => ?_) (fun x wx hb hd => ?_) ?_
      · have hG : x 6 = .bool false := hd 6 (by kernel_rfl)
        simp [Region.wanted, yielded, hG]
      · have h12 : x 12 = .slice A n c := hd 12 (by kernel_rfl)
        have cc := run_string_rd 22 9 5 Try.underlying22 Try.underlying5 Try.underlying9 (ZHR.out.below hb)
        rw [h12]
        first | (go_simp; done) | (go_simp; rfl)
      refine StepsZ.valW 14 (.bool false) rfl (by decide) (fun _ _ => rfl) rfl (fun x wx hd => ?_) (fun x wx hb hd => ?_) ?_
      · have hG : x 6 = .bool false := hd 6 (by kernel_rfl)
        simp [Region.wanted, yielded, hG]
      · have h11 : x 11 = txt (l) := hd 11 (by kernel_rfl)
        have h13 : x 13 = txt l := hd 13 (by kernel_rfl)
        rw [h11, h13]
        first | (go_simp; done) | (go_simp; rfl) | (go_simp; simp)
      refine StepsZ.valW 15 (.bool false) rfl (by decide) (fun _ _ => rfl) rfl (fun x wx hd => ?_) (fun x wx hb hd => ?_) ?_
      · have hG : x 2 = .bool true := hd 2 (by kernel_rfl)
        simp [Region.wanted, yielded, hG]
      · have h6 : x 6 = .bool false := hd 6 (by kernel_rfl)
        have h14 : x 14 = .bool false := hd 14 (by kernel_rfl)
        rw [h6, h14]
        first | (go_simp; done) | (go_simp; rfl)
      refine StepsZ.valW 16 (.bool false) rfl (by decide) (fun _ _ => rfl) rfl (fun _ _ _ => rfl) (fun x wx hb hd => ?_) ?_
      · have h2 : x 2 = .bool true := hd 2 (by kernel_rfl)
        have h15 : x 15 = .bool false := hd 15 (by kernel_rfl)
        rw [h2, h15]
        first | (go_simp; done) | (go_simp; rfl)
      exact StepsZ.done
    case fin =>
      intro x wx hb hd
      have hx0 : x 0 = .int IntKind.i64 ↑0 := hd 0 (by omega)
      have hx1 : x 1 = .bool true := hd 1 (by omega)
      have hx2 : x 2 = .bool true := hd 2 (by omega)
      have hx3 : x 3 = .agg (orc OO).toArray := hd 3 (by omega)
      have hx4 : x 4 = .bool true := hd 4 (by omega)
      have hx5 : x 5 = .bool false := hd 5 (by omega)
      have hx6 : x 6 = .bool false := hd 6 (by omega)
      have hx7 : x 7 = .agg (orc OO).toArray := hd 7 (by omega)
      obtain ⟨AEY, nEY, cEY, hx8⟩ := (show RowB 5 W2.heap.size ([] ++ encO OO) (x 8) (x 10) wx from hd 8 (by omega)).1
      have hx9 : x 9 = .slice A1 RO.length c1 := hd 9 (by omega)
      obtain ⟨AEYb, nEYb, cEYb, hx10⟩ := (show BackB 5 W2.heap.size (l) (x 10) wx from hd 10 (by omega)).1
      have hx11 : x 11 = txt (l) := hd 11 (by omega)
      have hx12 : x 12 = .slice A n c := hd 12 (by omega)
      have hx13 : x 13 = txt l := hd 13 (by omega)
      have hx14 : x 14 = .bool false := hd 14 (by omega)
      have hx15 : x 15 = .bool false := hd 15 (by omega)
      have hx16 : x 16 = .bool false := hd 16 (by omega)
      refine AnyTill.any (S := fun _ => True) (m := 17) _ _ _ _ ?_
      refine AnyTill.done (by kernel_rfl) ?_
      refine NoPanic.normal ?_
      try dsimp only
      rw [hx0, hx1, hx2, hx3, hx4, hx5, hx6, hx7, hx8, hx9, hx10, hx11, hx12, hx13, hx14, hx15, hx16]
      have EY := Lib.hid hb
      clear hd hb hx0 hx1 hx2 hx3 hx4 hx5 hx6 hx7 hx8 hx9 hx10 hx11 hx12 hx13 hx14 hx15 hx16
      have P3_w := Lib.hid (P2_w.out.trans (EY.out.mono P2_w.out.size))
      clear P2_w
      have P3_W1 := Lib.hid (E2.out.trans (EY.out.mono E2.out.size))
      clear HF HEQ
      by_cases he2 : ER = 0
      · subst he2
        have HF := Lib.hid (takeR_fit HTR.out)
        have HEQ := Lib.hid (takeR_back HTR.out)
        have YaX3 := Lib.hid (X3.out.below EY.out X3.out.lt)
        have YaRX3 := Lib.hid ((RX3.out.below EY.out).more EY.out.size)
        have YaNX3 := Lib.hid ((NX3.out.below EY.out).more EY.out.size)
        have YaHR := Lib.hid ((HR.out.below P3_w.out).more P3_w.out.size)
        go_wp2
        refine wp_region_relyZ [] [8] (fun _ x w w' => GrowB 5 wx.heap.size ([] ++ encR RP) (x 6) w w') (fun k => [undef, undef, undef, undef, undef, undef, undef, undef, undef, undef, undef, undef, undef, undef, undef, .bool false].getD k undef) 16 0 (fun x => ⟨#[.slice A n c, undef, x 15, .pointer (some { block := vg1, off := 0 }), .slice A1 RO.length c1, .int IntKind.i64 0, .pointer (some { block := vg2, off := 0 }), .slice A3 RR.length c3, .int IntKind.i64 ↑0, .slice A n c, .int IntKind.i64 ↑n, .bool false, undef, .tuple #[Value.agg (orc OO).toArray, Value.slice A1 RO.length c1, Value.int IntKind.i64 0], .slice A n c, .tuple #[Value.agg (orc OO).toArray, Value.slice A1 RO.length c1, Value.int IntKind.i64 0], .agg (orc OO).toArray, .slice A1 RO.length c1, .int IntKind.i64 0, .tuple #[Value.agg (rpc RP (Value.slice A3n (pN RP).length c3n)).toArray, Value.slice A3 RR.length c3, Value.int IntKind.i64 ↑0], .slice A n c, .tuple #[Value.agg (rpc RP (Value.slice A3n (pN RP).length c3n)).toArray, Value.slice A3 RR.length c3, Value.int IntKind.i64 ↑0], .agg (rpc RP (Value.slice A3n (pN RP).length c3n)).toArray, .slice A3 RR.length c3, .int IntKind.i64 ↑0, .int IntKind.i64 0, .bool true, .bool true, .agg (orc OO).toArray, .bool true, .bool false, .bool false, .agg (orc OO).toArray, .slice AEY nEY cEY, .slice A1 RO.length c1, .slice AEYb nEYb cEYb, txt l, .slice A n c, txt l, .bool false, .bool false, .bool false, x 0, x 1, x 2, x 3, x 4, x 5, x 6, x 7, x 8, x 9, x 10, x 11, x 12, x 13, x 14], []⟩) (fun jj => ([fun x w => eqV (.bool true) (x 0) w, fun x w => eqV (.bool true) (x 1) w, fun x w => eqV (.int IntKind.i64 ↑0) (x 2) w, fun x w => eqV (.bool false) (x 3) w, fun x w => eqV (.bool false) (x 4) w, fun x w => eqV (.agg (rpc RP (.slice A3n (pN RP).length c3n)).toArray) (x 5) w, fun x w => RowB 5 wx.heap.size ([] ++ encR RP) (x 6) (x 8) w, fun x w => eqV (.slice A3 RR.length c3) (x 7) w, fun x w => BackB 5 wx.heap.size (l) (x 8) w, fun x w => eqV (txt (l)) (x 9) w, fun x w => eqV (.slice A n c) (x 10) w, fun x w => eqV (txt l) (x 11) w, fun x w => eqV (.bool true) (x 12) w, fun x w => eqV (.bool true) (x 13) w, fun x w => eqV (.bool true) (x 14) w, fun x w => eqV (.bool true) (x 15) w] : List ((Nat → Value) → World → Prop)).getD jj (fun _ _ => True)) rfl rfl (by kernel_rfl) (by kernel_rfl) (by kernel_rfl) (fun p hp => by cases hp) ?steps ?fin
        case steps =>
          refine StepsZ.rowW 0 (eqV (.bool true)) rfl (by decide) (fun _ _ _ h _ => h) (fun _ _ _ _ _ _ h _ => h) (fun _ _ => rfl) rfl (fun _ _ _ => rfl) (fun x wza hb hd K hK => ?_) ?_
          · go_simp
            refine (alive12 _).mono ?_
            rintro e w99 ⟨rfl, hb99⟩
            refine hK.out _ _ hb99 ?_
            exact rfl
          refine StepsZ.valW 1 (.bool true) rfl (by decide) (fun _ _ => rfl) rfl (fun _ _ _ => rfl) (fun x wza hb hd => ?_) ?_
          · have h0 : x 0 = .bool true := hd 0 (by kernel_rfl)
            rw [h0]
            first | (go_simp; done) | (go_simp; rfl)
          refine StepsZ.valW 2 (.int IntKind.i64 ↑0) rfl (by decide) (fun _ _ => rfl) rfl (fun x wza hd => ?_) (fun x wza hb hd => ?_) ?_
          · have hG : x 1 = .bool true := hd 1 (by kernel_rfl)
            simp [Region.wanted, yielded, hG]
          · first | (go_simp; done) | (go_simp; rfl)
          refine StepsZ.valW 3 (.bool false) rfl (by decide) (fun _ _ => rfl) rfl (fun x wza hd => ?_) (fun x wza hb hd => ?_) ?_
          · have hG : x 1 = .bool true := hd 1 (by kernel_rfl)
            simp [Region.wanted, yielded, hG]
          · have h2 : x 2 = .int IntKind.i64 ↑0 := hd 2 (by kernel_rfl)
            rw [h2]
            first | (go_simp; done) | (go_simp; rfl) | (go_simp; simp)
          refine StepsZ.valW 4 (.bool false) rfl (by decide) (fun _ _ => rfl) rfl (fun x wza hd => ?_) (fun x wza hb hd => ?_) ?_
          · have hG : x 1 = .bool true := hd 1 (by kernel_rfl)
            simp [Region.wanted, yielded, hG]
          · have h3 : x 3 = .bool false := hd 3 (by kernel_rfl)
            rw [h3]
            first | (go_simp; done) | (go_simp; rfl)
          refine StepsZ.valW 5 (.agg (rpc RP (.slice A3n (pN RP).length c3n)).toArray) rfl (by decide) (fun _ _ => rfl) rfl (fun x wza hd => ?_) (fun x wza hb hd => ?_) ?_
          · have hG : x 4 = .bool false := hd 4 (by kernel_rfl)
            simp [Region.wanted, yielded, hG]
          · have d0 := (YaX3.out.below hb YaX3.out.lt).at_ 0 _ rfl
            have d1 := (YaX3.out.below hb YaX3.out.lt).at_ 1 _ rfl
            have d2 := (YaX3.out.below hb YaX3.out.lt).at_ 2 _ rfl
            have d3 := (YaX3.out.below hb YaX3.out.lt).at_ 3 _ rfl
            have d4 := (YaX3.out.below hb YaX3.out.lt).at_ 4 _ rfl
            have d5 := (YaX3.out.below hb YaX3.out.lt).at_ 5 _ rfl
            first | (go_simp; done) | (go_simp; rfl)
          refine StepsZ.consW 6 (fun x i vv w1 w2 hij hni h1 h2 h3 => ?_) (fun _ _ => rfl) rfl (fun x wza hd => ?_) (fun x wza hb hx hd hs9 K hK => ?_) ?_
          · change RowB 5 wx.heap.size ([] ++ encR RP) (x 6) (x 8) w1 at h1
            show RowB 5 wx.heap.size ([] ++ encR RP) (upd x i vv 6) (upd x i vv 8) w2
            rw [upd_ne _ _ _ _ (Ne.symm hij)]
            by_cases hnx : i = 8
            · subst hnx
              rw [upd_same]
              obtain ⟨A9, n9, c9, e9⟩ : ∃ A n c, upd x 8 vv 8 = .slice A n c := h3.1
              rw [upd_same] at e9
              exact ⟨h1.1, fun e => by rw [e9] at e; cases e⟩
            rw [upd_ne _ _ _ _ (Ne.symm hnx)]
            unfold effX at h2
            rw [if_neg (by simpa using hnx)] at h2
            exact ⟨h1.1, fun e => (h1.2 e).belowB h2 (Nat.le_refl _)⟩
          · have hG : x 4 = .bool false := hd 4 (by kernel_rfl)
            simp [Region.wanted, yielded, hG]
          · have h5 : Hid (x 5 = .agg (rpc RP (.slice A3n (pN RP).length c3n)).toArray) := hd 5 (by kernel_rfl)
            go_simp
            refine calls_args (args2 := #[.slice none 0 0, .agg (rpc RP (.slice A3n (pN RP).length c3n)).toArray]) (by rw [h5.out]) ?_
            refine (orPutR_any (.slice none 0 0) [] RP (.slice A3n (pN RP).length c3n) _ (Rd.nil _ _) ((YaNX3.out.below hb).more hb.size) HF.out.1 (by have h1 := HF.out.2; have h2 := HL.out; simp; omega) HNM.out).mono ?_
            rintro e w99 ⟨v99, rfl, hown, hb99⟩
            refine hK.out v99 w99 (hb99.mono hb.size) ?_ ?_
            · unfold effX
              rw [if_neg (by decide)]
              exact hb99
            · show RowB 5 wx.heap.size ([] ++ encR RP) (upd x 6 v99 6) (upd x 6 v99 8) w99
              rw [upd_same]
              exact ⟨hown.isSlice, fun _ => hown.base hb.size⟩
          refine StepsZ.valW 7 (.slice A3 RR.length c3) rfl (by decide) (fun _ _ => rfl) rfl (fun x wza hd => ?_) (fun x wza hb hd => ?_) ?_
          · have hG : x 4 = .bool false := hd 4 (by kernel_rfl)
            simp [Region.wanted, yielded, hG]
          · first | (go_simp; done) | (go_simp; rfl)
          refine StepsZ.consW 8 (fun x i vv w1 w2 hij hni h1 h2 h3 => ?_) (fun _ _ => rfl) rfl (fun x wza hd => ?_) (fun x wza hb hx hd hs9 K hK => ?_) ?_
          · change BackB 5 wx.heap.size (l) (x 8) w1 at h1
            show BackB 5 wx.heap.size (l) (upd x i vv 8) w2
            rw [upd_ne _ _ _ _ (Ne.symm hij)]
            unfold effX at h2
            rw [if_neg (by simpa using hij)] at h2
            exact h1.keep h2
          · have hG : x 4 = .bool false := hd 4 (by kernel_rfl)
            simp [Region.wanted, yielded, hG]
          · have h6 : RowB 5 wx.heap.size ([] ++ encR RP) (x 6) (x 8) wza := hd 6 (by kernel_rfl)
            have hq := Lib.hid (h6.2 hx)
            have h2 : x 7 = .slice A3 RR.length c3 := hd 7 (by kernel_rfl)
            have h4 := Lib.hid (((YaRX3.out.below hb).more hb.size))
            have h6 := Lib.hid hq.out.toE
            have h7 := Lib.hid h4.out.toE
            refine wp_appG (E := U8K) _ _ 22 rfl 5 1 Try.underlying22 kindU8 wx.heap.size _ (x 6) _ _ _ rfl h6.out h2 h7.out ?d1 ?d2 hb.size ?_
            case d1 => have h1 := encR_len RP; have h2 := HF.out.2; have h3 := HL.out; have h5 := HRL.out; simp only [List.nil_append]; omega
            case d2 => have h1 := encR_len RP; have h2 := HF.out.2; have h3 := HL.out; have h5 := HRL.out; simp only [List.nil_append]; omega
            intro v9 w9 h9 hb9 hg9
            have hl9 := Lib.hid h9.toB
            refine hK.out v9 w9 hb9 ?_ ?_
            · unfold effX
              rw [if_pos (by decide)]
              exact ⟨hq.out.isSlice, hq.out, hg9⟩
            · show BackB 5 wx.heap.size (l) (upd x 8 v9 8) w9
              rw [upd_same]
              have e9 : [] ++ encR RP ++ RR = l := HEQ.out
              rw [← e9]
              exact ⟨hl9.out.isSlice, hl9.out⟩
          refine StepsZ.valW 9 (txt (l)) rfl (by decide) (fun _ _ => rfl) rfl (fun x wza hd => ?_) (fun x wza hb hd => ?_) ?_
          · have hG : x 4 = .bool false := hd 4 (by kernel_rfl)
            simp [Region.wanted, yielded, hG]
          · obtain ⟨-, hq⟩ : BackB 5 wx.heap.size (l) (x 8) wza := hd 8 (by kernel_rfl)
            have hq2 := Lib.hid hq.rd
            obtain ⟨A9, c9, hv9, -, -⟩ := hq.rd.shape
            rw [hv9] at hq2 ⊢
            have cc := run_string_rd 22 9 5 Try.underlying22 Try.underlying5 Try.underlying9 hq2.out
            clear hd hq hv9
            first | (go_simp; done) | (go_simp; rfl)
          refine StepsZ.valW 10 (.slice A n c) rfl (by decide) (fun _ _ => rfl) rfl (fun x wza hd => ?_) (fun x wza hb hd => ?_) ?_
          · have hG : x 4 = .bool false := hd 4 (by kernel_rfl)
            simp [Region.wanted, yielded, hG]
          · first | (go_simp; done) | (go_simp; rfl)
          refine StepsZ.valW 11 (txt l) rfl (by decide) (fun _ _ => rfl) rfl (fun x wza hd => ?_) (fun x wza hb hd => ?_) ?_
          · have hG : x 4 = .bool false := hd 4 (by kernel_rfl)
            simp [Region.wanted, yielded, hG]
          · have h10 : x 10 = .slice A n c := hd 10 (by kernel_rfl)
            have cc := run_string_rd 22 9 5 Try.underlying22 Try.underlying5 Try.underlying9 (YaHR.out.below hb)
            rw [h10]
            first | (go_simp; done) | (go_simp; rfl)
          refine StepsZ.valW 12 (.bool true) rfl (by decide) (fun _ _ => rfl) rfl (fun x wza hd => ?_) (fun x wza hb hd => ?_) ?_
          · have hG : x 4 = .bool false := hd 4 (by kernel_rfl)
            simp [Region.wanted, yielded, hG]
          · have h9 : x 9 = txt (l) := hd 9 (by kernel_rfl)
            have h11 : x 11 = txt l := hd 11 (by kernel_rfl)
            rw [h9, h11]
            first | (go_simp; done) | (go_simp; rfl) | (go_simp; simp)
          refine StepsZ.valW 13 (.bool true) rfl (by decide) (fun _ _ => rfl) rfl (fun x wza hd => ?_) (fun x wza hb hd => ?_) ?_
          · have hG : x 1 = .bool true := hd 1 (by kernel_rfl)
            simp [Region.wanted, yielded, hG]
          · have h4 : x 4 = .bool false := hd 4 (by kernel_rfl)
            have h12 : x 12 = .bool true := hd 12 (by kernel_rfl)
            rw [h4, h12]
            first | (go_simp; done) | (go_simp; rfl)
          refine StepsZ.valW 14 (.bool true) rfl (by decide) (fun _ _ => rfl) rfl (fun _ _ _ => rfl) (fun x wza hb hd => ?_) ?_
          · have h1 : x 1 = .bool true := hd 1 (by kernel_rfl)
            have h13 : x 13 = .bool true := hd 13 (by kernel_rfl)
            rw [h1, h13]
            first | (go_simp; done) | (go_simp; rfl)
          refine StepsZ.valW 15 (.bool true) rfl (by decide) (fun _ _ => rfl) rfl (fun _ _ _ => rfl) (fun x wza hb hd => ?_) ?_
          · have h14 : x 14 = .bool true := hd 14 (by kernel_rfl)
            rw [h14]
            first | (go_simp; done) | (go_simp; rfl)
          exact StepsZ.done
        case fin =>
          intro x wza hb hd
          have hx0 : x 0 = .bool true := hd 0 (by omega)
          have hx1 : x 1 = .bool true := hd 1 (by omega)
          have hx2 : x 2 = .int IntKind.i64 ↑0 := hd 2 (by omega)
          have hx3 : x 3 = .bool false := hd 3 (by omega)
          have hx4 : x 4 = .bool false := hd 4 (by omega)
          have hx5 : x 5 = .agg (rpc RP (.slice A3n (pN RP).length c3n)).toArray := hd 5 (by omega)
          obtain ⟨AEZa, nEZa, cEZa, hx6⟩ := (show RowB 5 wx.heap.size ([] ++ encR RP) (x 6) (x 8) wza from hd 6 (by omega)).1
          have hx7 : x 7 = .slice A3 RR.length c3 := hd 7 (by omega)
          obtain ⟨AEZab, nEZab, cEZab, hx8⟩ := (show BackB 5 wx.heap.size (l) (x 8) wza from hd 8 (by omega)).1
          have hx9 : x 9 = txt (l) := hd 9 (by omega)
          have hx10 : x 10 = .slice A n c := hd 10 (by omega)
          have hx11 : x 11 = txt l := hd 11 (by omega)
          have hx12 : x 12 = .bool true := hd 12 (by omega)
          have hx13 : x 13 = .bool true := hd 13 (by omega)
          have hx14 : x 14 = .bool true := hd 14 (by omega)
          have hx15 : x 15 = .bool true := hd 15 (by omega)
          refine AnyTill.any (S := fun _ => True) (m := 16) _ _ _ _ ?_
          refine AnyTill.done (by kernel_rfl) ?_
          refine NoPanic.normal ?_
          try dsimp only
          rw [hx0, hx1, hx2, hx3, hx4, hx5, hx6, hx7, hx8, hx9, hx10, hx11, hx12, hx13, hx14, hx15]
          have EZa := Lib.hid hb
          clear hd hb hx0 hx1 hx2 hx3 hx4 hx5 hx6 hx7 hx8 hx9 hx10 hx11 hx12 hx13 hx14 hx15
          have P4_w := Lib.hid (P3_w.out.trans (EZa.out.mono P3_w.out.size))
          clear P3_w
          have P4_W1 := Lib.hid (P3_W1.out.trans (EZa.out.mono P3_W1.out.size))
          clear P3_W1
          have P4_W2 := Lib.hid (EY.out.trans (EZa.out.mono EY.out.size))
          go_wp2
          go_ret
          exact ⟨rfl, P4_w.out⟩
      · have hbz : ((ER : Int) != 0) = true := by rw [bne_iff_ne]; omega
        go_wp2
        refine wp_region_rely2 16 0 (fun x => ⟨#[.slice A n c, undef, x 15, .pointer (some { block := vg1, off := 0 }), .slice A1 RO.length c1, .int IntKind.i64 0, .pointer (some { block := vg2, off := 0 }), .slice A3 RR.length c3, .int IntKind.i64 ↑ER, .slice A n c, .int IntKind.i64 ↑n, .bool false, undef, .tuple #[Value.agg (orc OO).toArray, Value.slice A1 RO.length c1, Value.int IntKind.i64 0], .slice A n c, .tuple #[Value.agg (orc OO).toArray, Value.slice A1 RO.length c1, Value.int IntKind.i64 0], .agg (orc OO).toArray, .slice A1 RO.length c1, .int IntKind.i64 0, .tuple #[Value.agg (rpc RP (Value.slice A3n (pN RP).length c3n)).toArray, Value.slice A3 RR.length c3, Value.int IntKind.i64 ↑ER], .slice A n c, .tuple #[Value.agg (rpc RP (Value.slice A3n (pN RP).length c3n)).toArray, Value.slice A3 RR.length c3, Value.int IntKind.i64 ↑ER], .agg (rpc RP (Value.slice A3n (pN RP).length c3n)).toArray, .slice A3 RR.length c3, .int IntKind.i64 ↑ER, .int IntKind.i64 0, .bool true, .bool true, .agg (orc OO).toArray, .bool true, .bool false, .bool false, .agg (orc OO).toArray, .slice AEY nEY cEY, .slice A1 RO.length c1, .slice AEYb nEYb cEYb, txt l, .slice A n c, txt l, .bool false, .bool false, .bool false, x 0, x 1, x 2, x 3, x 4, x 5, x 6, x 7, x 8, x 9, x 10, x 11, x 12, x 13, x 14], []⟩) (fun jj => ([(eqV (.bool true)), eqV (.bool true), eqV (.int IntKind.i64 ↑ER), eqV (.bool true), eqV (.bool true), (eqV undef), (eqV undef), (eqV undef), (eqV undef), (eqV undef), (eqV undef), (eqV undef), (eqV undef), eqV (.bool true), eqV (.bool true), eqV (.bool true)] : List (Value → World → Prop)).getD jj (fun _ _ => True)) rfl ⟨fun kk => [_, _, _, _, _, _, _, _, _, _, _, _, _, _, _, _].getD kk undef, rfl⟩ (by kernel_rfl) (by kernel_rfl) ?steps ?fin
        case steps =>
          refine StepsAt.cons 0 (fun _ _ _ h hb => h) (fun _ _ => rfl) rfl rfl (fun x wva hb hd K hK => ?_) ?_
          · go_simp
            refine (alive12 _).mono ?_
            rintro e w99 ⟨rfl, hb99⟩
            exact hK.out _ _ hb99 rfl
          refine StepsAt.val 1 (.bool true) rfl (fun _ _ => rfl) rfl rfl (fun x wva hb hd => ?_) ?_
          · have h0 : x 0 = .bool true := hd 0 (by kernel_rfl)
            rw [h0]
            first | (go_simp; done) | (go_simp; rfl)
          refine StepsAt.valG 2 (.int IntKind.i64 ↑ER) rfl (fun _ _ => rfl) rfl (fun x wva hd => ?_) (fun x wva hb hd => ?_) ?_
          · have hG : x 1 = .bool true := hd 1 (by kernel_rfl)
            simp [Region.wanted, yielded, hG]
          · first | (go_simp; done) | (go_simp; rfl)
          refine StepsAt.valG 3 (.bool true) rfl (fun _ _ => rfl) rfl (fun x wva hd => ?_) (fun x wva hb hd => ?_) ?_
          · have hG : x 1 = .bool true := hd 1 (by kernel_rfl)
            simp [Region.wanted, yielded, hG]
          · have h2 : x 2 = .int IntKind.i64 ↑ER := hd 2 (by kernel_rfl)
            rw [h2]
            first | (go_simp; done) | (go_simp; rfl) | (go_simp; simp)
          refine StepsAt.valG 4 (.bool true) rfl (fun _ _ => rfl) rfl (fun x wva hd => ?_) (fun x wva hb hd => ?_) ?_
          · have hG : x 1 = .bool true := hd 1 (by kernel_rfl)
            simp [Region.wanted, yielded, hG]
          · have h3 : x 3 = .bool true := hd 3 (by kernel_rfl)
            rw [h3]
            first | (go_simp; done) | (go_simp; rfl)
          refine StepsAt.skip 5 rfl (fun _ _ => rfl) rfl (fun x wva hd => ?_) ?_
          · have hG : x 4 = .bool true := hd 4 (by kernel_rfl)
            simp [Region.wanted, yielded, hG]
          refine StepsAt.skip 6 rfl (fun _ _ => rfl) rfl (fun x wva hd => ?_) ?_
          · have hG : x 4 = .bool true := hd 4 (by kernel_rfl)
            simp [Region.wanted, yielded, hG]
          refine StepsAt.skip 7 rfl (fun _ _ => rfl) rfl (fun x wva hd => ?_) ?_
          · have hG : x 4 = .bool true := hd 4 (by kernel_rfl)
            simp [Region.wanted, yielded, hG]
          refine StepsAt.skip 8 rfl (fun _ _ => rfl) rfl (fun x wva hd => ?_) ?_
          · have hG : x 4 = .bool true := hd 4 (by kernel_rfl)
            simp [Region.wanted, yielded, hG]
          refine StepsAt.skip 9 rfl (fun _ _ => rfl) rfl (fun x wva hd => ?_) ?_
          · have hG : x 4 = .bool true := hd 4 (by kernel_rfl)
            simp [Region.wanted, yielded, hG]
          refine StepsAt.skip 10 rfl (fun _ _ => rfl) rfl (fun x wva hd => ?_) ?_
          · have hG : x 4 = .bool true := hd 4 (by kernel_rfl)
            simp [Region.wanted, yielded, hG]
          refine StepsAt.skip 11 rfl (fun _ _ => rfl) rfl (fun x wva hd => ?_) ?_
          · have hG : x 4 = .bool true := hd 4 (by kernel_rfl)
            simp [Region.wanted, yielded, hG]
          refine StepsAt.skip 12 rfl (fun _ _ => rfl) rfl (fun x wva hd => ?_) ?_
          · have hG : x 4 = .bool true := hd 4 (by kernel_rfl)
            simp [Region.wanted, yielded, hG]
          refine StepsAt.valG 13 (.bool true) rfl (fun _ _ => rfl) rfl (fun x wva hd => ?_) (fun x wva hb hd => ?_) ?_
          · have hG : x 1 = .bool true := hd 1 (by kernel_rfl)
            simp [Region.wanted, yielded, hG]
          · have h4 : x 4 = .bool true := hd 4 (by kernel_rfl)
            have h12 : x 12 = undef := hd 12 (by kernel_rfl)
            rw [h4, h12]
            first | (go_simp; done) | (go_simp; rfl)
          refine StepsAt.val 14 (.bool true) rfl (fun _ _ => rfl) rfl rfl (fun x wva hb hd => ?_) ?_
          · have h1 : x 1 = .bool true := hd 1 (by kernel_rfl)
            have h13 : x 13 = .bool true := hd 13 (by kernel_rfl)
            rw [h1, h13]
            first | (go_simp; done) | (go_simp; rfl)
          refine StepsAt.val 15 (.bool true) rfl (fun _ _ => rfl) rfl rfl (fun x wva hb hd => ?_) ?_
          · have h14 : x 14 = .bool true := hd 14 (by kernel_rfl)
            rw [h14]
            first | (go_simp; done) | (go_simp; rfl)
          exact StepsAt.done
        case fin =>
          intro x wva hb hd
          have hx0 : x 0 = .bool true := hd 0 (by omega)
          have hx1 : x 1 = .bool true := hd 1 (by omega)
          have hx2 : x 2 = .int IntKind.i64 ↑ER := hd 2 (by omega)
          have hx3 : x 3 = .bool true := hd 3 (by omega)
          have hx4 : x 4 = .bool true := hd 4 (by omega)
          have hx5 : x 5 = undef := hd 5 (by omega)
          have hx6 : x 6 = undef := hd 6 (by omega)
          have hx7 : x 7 = undef := hd 7 (by omega)
          have hx8 : x 8 = undef := hd 8 (by omega)
          have hx9 : x 9 = undef := hd 9 (by omega)
          have hx10 : x 10 = undef := hd 10 (by omega)
          have hx11 : x 11 = undef := hd 11 (by omega)
          have hx12 : x 12 = undef := hd 12 (by omega)
          have hx13 : x 13 = .bool true := hd 13 (by omega)
          have hx14 : x 14 = .bool true := hd 14 (by omega)
          have hx15 : x 15 = .bool true := hd 15 (by omega)
          refine AnyTill.any (S := fun _ => True) (m := 16) _ _ _ _ ?_
          refine AnyTill.done (by kernel_rfl) ?_
          refine NoPanic.normal ?_
          try dsimp only
          rw [hx0, hx1, hx2, hx3, hx4, hx5, hx6, hx7, hx8, hx9, hx10, hx11, hx12, hx13, hx14, hx15]
          have EVa := Lib.hid hb
          clear hx0 hx1 hx2 hx3 hx4 hx5 hx6 hx7 hx8 hx9 hx10 hx11 hx12 hx13 hx14 hx15 hd hb
          have P4_w := Lib.hid (P3_w.out.trans (EVa.out.mono P3_w.out.size))
          clear P3_w
          have P4_W1 := Lib.hid (P3_W1.out.trans (EVa.out.mono P3_W1.out.size))
          clear P3_W1
          have P4_W2 := Lib.hid (EY.out.trans (EVa.out.mono EY.out.size))
          go_wp2
          go_ret
          exact ⟨rfl, P4_w.out⟩
  · have hbo : ((EO : Int) == 0) = false := by rw [beq_eq_false_iff_ne]; omega
    go_wp2
    refine wp_region_rely2 17 0 (fun x => ⟨#[.slice A n c, undef, .bool false, .pointer (some { block := vg1, off := 0 }), .slice A1 RO.length c1, .int IntKind.i64 ↑EO, .pointer (some { block := vg2, off := 0 }), .slice A3 RR.length c3, .int IntKind.i64 ↑ER, .slice A n c, .int IntKind.i64 ↑n, .bool false, undef, .tuple #[Value.agg (orc OO).toArray, Value.slice A1 RO.length c1, Value.int IntKind.i64 ↑EO], .slice A n c, .tuple #[Value.agg (orc OO).toArray, Value.slice A1 RO.length c1, Value.int IntKind.i64 ↑EO], .agg (orc OO).toArray, .slice A1 RO.length c1, .int IntKind.i64 ↑EO, .tuple #[Value.agg (rpc RP (Value.slice A3n (pN RP).length c3n)).toArray, Value.slice A3 RR.length c3, Value.int IntKind.i64 ↑ER], .slice A n c, .tuple #[Value.agg (rpc RP (Value.slice A3n (pN RP).length c3n)).toArray, Value.slice A3 RR.length c3, Value.int IntKind.i64 ↑ER], .agg (rpc RP (Value.slice A3n (pN RP).length c3n)).toArray, .slice A3 RR.length c3, .int IntKind.i64 ↑ER, x 0, x 1, x 2, x 3, x 4, x 5, x 6, x 7, x 8, x 9, x 10, x 11, x 12, x 13, x 14, x 15, x 16, undef, undef, undef, undef, undef, undef, undef, undef, undef, undef, undef, undef, undef, undef, undef], []⟩) (fun jj => ([eqV (.int IntKind.i64 ↑EO), eqV (.bool false), eqV (.bool false), (eqV undef), (eqV undef), (eqV undef), (eqV undef), (eqV undef), (eqV undef), (eqV undef), (eqV undef), (eqV undef), (eqV undef), (eqV undef), (eqV undef), (eqV undef), eqV (.bool false)] : List (Value → World → Prop)).getD jj (fun _ _ => True)) rfl ⟨fun kk => [_, _, _, _, _, _, _, _, _, _, _, _, _, _, _, _, _].getD kk undef, rfl⟩ (by kernel_rfl) (by kernel_rfl) ?steps ?fin
    case steps =>
      refine StepsAt.val 0 (.int IntKind.i64 ↑EO) rfl (fun _ _ => rfl) rfl rfl (fun x wu hb hd => ?_) ?_
      · first | (go_simp; done) | (go_simp; rfl)
      refine StepsAt.val 1 (.bool false) rfl (fun _ _ => rfl) rfl rfl (fun x wu hb hd => ?_) ?_
      · have h0 : x 0 = .int IntKind.i64 ↑EO := hd 0 (by kernel_rfl)
        rw [h0]
        first | (go_simp; done) | (go_simp; rfl) | (go_simp; simp)
      refine StepsAt.val 2 (.bool false) rfl (fun _ _ => rfl) rfl rfl (fun x wu hb hd => ?_) ?_
      · have h1 : x 1 = .bool false := hd 1 (by kernel_rfl)
        rw [h1]
        first | (go_simp; done) | (go_simp; rfl)
      refine StepsAt.skip 3 rfl (fun _ _ => rfl) rfl (fun x wu hd => ?_) ?_
      · have hG : x 2 = .bool false := hd 2 (by kernel_rfl)
        simp [Region.wanted, yielded, hG]
      refine StepsAt.skip 4 rfl (fun _ _ => rfl) rfl (fun x wu hd => ?_) ?_
      · have hG : x 2 = .bool false := hd 2 (by kernel_rfl)
        simp [Region.wanted, yielded, hG]
      refine StepsAt.skip 5 rfl (fun _ _ => rfl) rfl (fun x wu hd => ?_) ?_
      · have hG : x 2 = .bool false := hd 2 (by kernel_rfl)
        simp [Region.wanted, yielded, hG]
      refine StepsAt.skip 6 rfl (fun _ _ => rfl) rfl (fun x wu hd => ?_) ?_
      · have hG : x 2 = .bool false := hd 2 (by kernel_rfl)
        simp [Region.wanted, yielded, hG]
      refine StepsAt.skip 7 rfl (fun _ _ => rfl) rfl (fun x wu hd => ?_) ?_
      · have hG : x 6 = undef := hd 6 (by kernel_rfl)
        simp [Region.wanted, yielded, hG, undef]
      refine StepsAt.skip 8 rfl (fun _ _ => rfl) rfl (fun x wu hd => ?_) ?_
      · have hG : x 6 = undef := hd 6 (by kernel_rfl)
        simp [Region.wanted, yielded, hG, undef]
      refine StepsAt.skip 9 rfl (fun _ _ => rfl) rfl (fun x wu hd => ?_) ?_
      · have hG : x 6 = undef := hd 6 (by kernel_rfl)
        simp [Region.wanted, yielded, hG, undef]
      refine StepsAt.skip 10 rfl (fun _ _ => rfl) rfl (fun x wu hd => ?_) ?_
      · have hG : x 6 = undef := hd 6 (by kernel_rfl)
        simp [Region.wanted, yielded, hG, undef]
      refine StepsAt.skip 11 rfl (fun _ _ => rfl) rfl (fun x wu hd => ?_) ?_
      · have hG : x 6 = undef := hd 6 (by kernel_rfl)
        simp [Region.wanted, yielded, hG, undef]
      refine StepsAt.skip 12 rfl (fun _ _ => rfl) rfl (fun x wu hd => ?_) ?_
      · have hG : x 6 = undef := hd 6 (by kernel_rfl)
        simp [Region.wanted, yielded, hG, undef]
      refine StepsAt.skip 13 rfl (fun _ _ => rfl) rfl (fun x wu hd => ?_) ?_
      · have hG : x 6 = undef := hd 6 (by kernel_rfl)
        simp [Region.wanted, yielded, hG, undef]
      refine StepsAt.skip 14 rfl (fun _ _ => rfl) rfl (fun x wu hd => ?_) ?_
      · have hG : x 6 = undef := hd 6 (by kernel_rfl)
        simp [Region.wanted, yielded, hG, undef]
      refine StepsAt.skip 15 rfl (fun _ _ => rfl) rfl (fun x wu hd => ?_) ?_
      · have hG : x 2 = .bool false := hd 2 (by kernel_rfl)
        simp [Region.wanted, yielded, hG]
      refine StepsAt.val 16 (.bool false) rfl (fun _ _ => rfl) rfl rfl (fun x wu hb hd => ?_) ?_
      · have h2 : x 2 = .bool false := hd 2 (by kernel_rfl)
        have h15 : x 15 = undef := hd 15 (by kernel_rfl)
        rw [h2, h15]
        first | (go_simp; done) | (go_simp; rfl)
      exact StepsAt.done
    case fin =>
      intro x wu hb hd
      have hx0 : x 0 = .int IntKind.i64 ↑EO := hd 0 (by omega)
      have hx1 : x 1 = .bool false := hd 1 (by omega)
      have hx2 : x 2 = .bool false := hd 2 (by omega)
      have hx3 : x 3 = undef := hd 3 (by omega)
      have hx4 : x 4 = undef := hd 4 (by omega)
      have hx5 : x 5 = undef := hd 5 (by omega)
      have hx6 : x 6 = undef := hd 6 (by omega)
      have hx7 : x 7 = undef := hd 7 (by omega)
      have hx8 : x 8 = undef := hd 8 (by omega)
      have hx9 : x 9 = undef := hd 9 (by omega)
      have hx10 : x 10 = undef := hd 10 (by omega)
      have hx11 : x 11 = undef := hd 11 (by omega)
      have hx12 : x 12 = undef := hd 12 (by omega)
      have hx13 : x 13 = undef := hd 13 (by omega)
      have hx14 : x 14 = undef := hd 14 (by omega)
      have hx15 : x 15 = undef := hd 15 (by omega)
      have hx16 : x 16 = .bool false := hd 16 (by omega)
      refine AnyTill.any (S := fun _ => True) (m := 17) _ _ _ _ ?_
      refine AnyTill.done (by kernel_rfl) ?_
      refine NoPanic.normal ?_
      try dsimp only
      rw [hx0, hx1, hx2, hx3, hx4, hx5, hx6, hx7, hx8, hx9, hx10, hx11, hx12, hx13, hx14, hx15, hx16]
      have EU := Lib.hid hb
      clear hx0 hx1 hx2 hx3 hx4 hx5 hx6 hx7 hx8 hx9 hx10 hx11 hx12 hx13 hx14 hx15 hx16 hd hb
      have P3_w := Lib.hid (P2_w.out.trans (EU.out.mono P2_w.out.size))
      clear P2_w
      have P3_W1 := Lib.hid (E2.out.trans (EU.out.mono E2.out.size))
      by_cases he2 : ER = 0
      · subst he2
        have HF := Lib.hid (takeR_fit HTR.out)
        have HEQ := Lib.hid (takeR_back HTR.out)
        have YbX3 := Lib.hid (X3.out.below EU.out X3.out.lt)
        have YbRX3 := Lib.hid ((RX3.out.below EU.out).more EU.out.size)
        have YbNX3 := Lib.hid ((NX3.out.below EU.out).more EU.out.size)
        have YbHR := Lib.hid ((HR.out.below P3_w.out).more P3_w.out.size)
        go_wp2
        refine wp_region_relyZ [] [8] (fun _ x w w' => GrowB 5 wu.heap.size ([] ++ encR RP) (x 6) w w') (fun k => [undef, undef, undef, undef, undef, undef, undef, undef, undef, undef, undef, undef, undef, undef, undef, .bool false].getD k undef) 16 0 (fun x => ⟨#[.slice A n c, undef, x 15, .pointer (some { block := vg1, off := 0 }), .slice A1 RO.length c1, .int IntKind.i64 ↑EO, .pointer (some { block := vg2, off := 0 }), .slice A3 RR.length c3, .int IntKind.i64 ↑0, .slice A n c, .int IntKind.i64 ↑n, .bool false, undef, .tuple #[Value.agg (orc OO).toArray, Value.slice A1 RO.length c1, Value.int IntKind.i64 ↑EO], .slice A n c, .tuple #[Value.agg (orc OO).toArray, Value.slice A1 RO.length c1, Value.int IntKind.i64 ↑EO], .agg (orc OO).toArray, .slice A1 RO.length c1, .int IntKind.i64 ↑EO, .tuple #[Value.agg (rpc RP (Value.slice A3n (pN RP).length c3n)).toArray, Value.slice A3 RR.length c3, Value.int IntKind.i64 ↑0], .slice A n c, .tuple #[Value.agg (rpc RP (Value.slice A3n (pN RP).length c3n)).toArray, Value.slice A3 RR.length c3, Value.int IntKind.i64 ↑0], .agg (rpc RP (Value.slice A3n (pN RP).length c3n)).toArray, .slice A3 RR.length c3, .int IntKind.i64 ↑0, .int IntKind.i64 ↑EO, .bool false, .bool false, undef, undef, undef, undef, undef, undef, undef, undef, undef, undef, undef, undef, undef, .bool false, x 0, x 1, x 2, x 3, x 4, x 5, x 6, x 7, x 8, x 9, x 10, x 11, x 12, x 13, x 14], []⟩) (fun jj => ([fun x w => eqV (.bool true) (x 0) w, fun x w => eqV (.bool true) (x 1) w, fun x w => eqV (.int IntKind.i64 ↑0) (x 2) w, fun x w => eqV (.bool false) (x 3) w, fun x w => eqV (.bool false) (x 4) w, fun x w => eqV (.agg (rpc RP (.slice A3n (pN RP).length c3n)).toArray) (x 5) w, fun x w => RowB 5 wu.heap.size ([] ++ encR RP) (x 6) (x 8) w, fun x w => eqV (.slice A3 RR.length c3) (x 7) w, fun x w => BackB 5 wu.heap.size (l) (x 8) w, fun x w => eqV (txt (l)) (x 9) w, fun x w => eqV (.slice A n c) (x 10) w, fun x w => eqV (txt l) (x 11) w, fun x w => eqV (.bool true) (x 12) w, fun x w => eqV (.bool true) (x 13) w, fun x w => eqV (.bool true) (x 14) w, fun x w => eqV (.bool true) (x 15) w] : List ((Nat → Value) → World → Prop)).getD jj (fun _ _ => True)) rfl rfl (by kernel_rfl) (by kernel_rfl) (by kernel_rfl) (fun p hp => by cases hp) ?steps ?fin
        case steps =>
          refine StepsZ.rowW 0 (eqV (.bool true)) rfl (by decide) (fun _ _ _ h _ => h) (fun _ _ _ _ _ _ h _ => h) (fun _ _ => rfl) rfl (fun _ _ _ => rfl) (fun x wzb hb hd K hK => ?_) ?_
          · go_simp
            refine (alive12 _).mono ?_
            rintro e w99 ⟨rfl, hb99⟩
            refine hK.out _ _ hb99 ?_
            exact rfl
          refine StepsZ.valW 1 (.bool true) rfl (by decide) (fun _ _ => rfl) rfl (fun _ _ _ => rfl) (fun x wzb hb hd => ?_) ?_
          · have h0 : x 0 = .bool true := hd 0 (by kernel_rfl)
            rw [h0]
            first | (go_simp; done) | (go_simp; rfl)
          refine StepsZ.valW 2 (.int IntKind.i64 ↑0) rfl (by decide) (fun _ _ => rfl) rfl (fun x wzb hd => ?_) (fun x wzb hb hd => ?_) ?_
          · have hG : x 1 = .bool true := hd 1 (by kernel_rfl)
            simp [Region.wanted, yielded, hG]
          · first | (go_simp; done) | (go_simp; rfl)
          refine StepsZ.valW 3 (.bool false) rfl (by decide) (fun _ _ => rfl) rfl (fun x wzb hd => ?_) (fun x wzb hb hd => ?_) ?_
          · have hG : x 1 = .bool true := hd 1 (by kernel_rfl)
            simp [Region.wanted, yielded, hG]
          · have h2 : x 2 = .int IntKind.i64 ↑0 := hd 2 (by kernel_rfl)
            rw [h2]
            first | (go_simp; done) | (go_simp; rfl) | (go_simp; simp)
          refine StepsZ.valW 4 (.bool false) rfl (by decide) (fun _ _ => rfl) rfl (fun x wzb hd => ?_) (fun x wzb hb hd => ?_) ?_
          · have hG : x 1 = .bool true := hd 1 (by kernel_rfl)
            simp [Region.wanted, yielded, hG]
          · have h3 : x 3 = .bool false := hd 3 (by kernel_rfl)
            rw [h3]
            first | (go_simp; done) | (go_simp; rfl)
          refine StepsZ.valW 5 (.agg (rpc RP (.slice A3n (pN RP).length c3n)).toArray) rfl (by decide) (fun _ _ => rfl) rfl (fun x wzb hd => ?_) (fun x wzb hb hd => ?_) ?_
          · have hG : x 4 = .bool false := hd 4 (by kernel_rfl)
            simp [Region.wanted, yielded, hG]
          · have d0 := (YbX3.out.below hb YbX3.out.lt).at_ 0 _ rfl
            have d1 := (YbX3.out.below hb YbX3.out.lt).at_ 1 _ rfl
            have d2 := (YbX3.out.below hb YbX3.out.lt).at_ 2 _ rfl
            have d3 := (YbX3.out.below hb YbX3.out.lt).at_ 3 _ rfl
            have d4 := (YbX3.out.below hb YbX3.out.lt).at_ 4 _ rfl
            have d5 := (YbX3.out.below hb YbX3.out.lt).at_ 5 _ rfl
            first | (go_simp; done) | (go_simp; rfl)
          refine StepsZ.consW 6 (fun x i vv w1 w2 hij hni h1 h2 h3 => ?_) (fun _ _ => rfl) rfl (fun x wzb hd => ?_) (fun x wzb hb hx hd hs9 K hK => ?_) ?_
          · change RowB 5 wu.heap.size ([] ++ encR RP) (x 6) (x 8) w1 at h1
            show RowB 5 wu.heap.size ([] ++ encR RP) (upd x i vv 6) (upd x i vv 8) w2
            rw [upd_ne _ _ _ _ (Ne.symm hij)]
            by_cases hnx : i = 8
            · subst hnx
              rw [upd_same]
              obtain ⟨A9, n9, c9, e9⟩ : ∃ A n c, upd x 8 vv 8 = .slice A n c := h3.1
              rw [upd_same] at e9
              exact ⟨h1.1, fun e => by rw [e9] at e; cases e⟩
            rw [upd_ne _ _ _ _ (Ne.symm hnx)]
            unfold effX at h2
            rw [if_neg (by simpa using hnx)] at h2
            exact ⟨h1.1, fun e => (h1.2 e).belowB h2 (Nat.le_refl _)⟩
          · have hG : x 4 = .bool false := hd 4 (by kernel_rfl)
            simp [Region.wanted, yielded, hG]
          · have h5 : Hid (x 5 = .agg (rpc RP (.slice A3n (pN RP).length c3n)).toArray) := hd 5 (by kernel_rfl)
            go_simp
            refine calls_args (args2 := #[.slice none 0 0, .agg (rpc RP (.slice A3n (pN RP).length c3n)).toArray]) (by rw [h5.out]) ?_
            refine (orPutR_any (.slice none 0 0) [] RP (.slice A3n (pN RP).length c3n) _ (Rd.nil _ _) ((YbNX3.out.below hb).more hb.size) HF.out.1 (by have h1 := HF.out.2; have h2 := HL.out; simp; omega) HNM.out).mono ?_
            rintro e w99 ⟨v99, rfl, hown, hb99⟩
            refine hK.out v99 w99 (hb99.mono hb.size) ?_ ?_
            · unfold effX
              rw [if_neg (by decide)]
              exact hb99
            · show RowB 5 wu.heap.size ([] ++ encR RP) (upd x 6 v99 6) (upd x 6 v99 8) w99
              rw [upd_same]
              exact ⟨hown.isSlice, fun _ => hown.base hb.size⟩
          refine StepsZ.valW 7 (.slice A3 RR.length c3) rfl (by decide) (fun _ _ => rfl) rfl (fun x wzb hd => ?_) (fun x wzb hb hd => ?_) ?_
          · have hG : x 4 = .bool false := hd 4 (by kernel_rfl)
            simp [Region.wanted, yielded, hG]
          · first | (go_simp; done) | (go_simp; rfl)
          refine StepsZ.consW 8 (fun x i vv w1 w2 hij hni h1 h2 h3 => ?_) (fun _ _ => rfl) rfl (fun x wzb hd => ?_) (fun x wzb hb hx hd hs9 K hK => ?_) ?_
          · change BackB 5 wu.heap.size (l) (x 8) w1 at h1
            show BackB 5 wu.heap.size (l) (upd x i vv 8) w2
            rw [upd_ne _ _ _ _ (Ne.symm hij)]
            unfold effX at h2
            rw [if_neg (by simpa using hij)] at h2
            exact h1.keep h2
          · have hG : x 4 = .bool false := hd 4 (by kernel_rfl)
            simp [Region.wanted, yielded, hG]
          · have h6 : RowB 5 wu.heap.size ([] ++ encR RP) (x 6) (x 8) wzb := hd 6 (by kernel_rfl)
            have hq := Lib.hid (h6.2 hx)
            have h2 : x 7 = .slice A3 RR.length c3 := hd 7 (by kernel_rfl)
            have h4 := Lib.hid (((YbRX3.out.below hb).more hb.size))
            have h6 := Lib.hid hq.out.toE
            have h7 := Lib.hid h4.out.toE
            refine wp_appG (E := U8K) _ _ 22 rfl 5 1 Try.underlying22 kindU8 wu.heap.size _ (x 6) _ _ _ rfl h6.out h2 h7.out ?d1 ?d2 hb.size ?_
            case d1 => have h1 := encR_len RP; have h2 := HF.out.2; have h3 := HL.out; have h5 := HRL.out; simp only [List.nil_append]; omega
            case d2 => have h1 := encR_len RP; have h2 := HF.out.2; have h3 := HL.out; have h5 := HRL.out; simp only [List.nil_append]; omega
            intro v9 w9 h9 hb9 hg9
            have hl9 := Lib.hid h9.toB
            refine hK.out v9 w9 hb9 ?_ ?_
            · unfold effX
              rw [if_pos (by decide)]
              exact ⟨hq.out.isSlice, hq.out, hg9⟩
            · show BackB 5 wu.heap.size (l) (upd x 8 v9 8) w9
              rw [upd_same]
              have e9 : [] ++ encR RP ++ RR = l := HEQ.out
              rw [← e9]
              exact ⟨hl9.out.isSlice, hl9.out⟩
          refine StepsZ.valW 9 (txt (l)) rfl (by decide) (fun _ _ => rfl) rfl (fun x wzb hd => ?_) (fun x wzb hb hd => ?_) ?_
          · have hG : x 4 = .bool false := hd 4 (by kernel_rfl)
            simp [Region.wanted, yielded, hG]
          · obtain ⟨-, hq⟩ : BackB 5 wu.heap.size (l) (x 8) wzb := hd 8 (by kernel_rfl)
            have hq2 := Lib.hid hq.rd
            obtain ⟨A9, c9, hv9, -, -⟩ := hq.rd.shape
            rw [hv9] at hq2 ⊢
            have cc := run_string_rd 22 9 5 Try.underlying22 Try.underlying5 Try.underlying9 hq2.out
            clear hd hq hv9
            first | (go_simp; done) | (go_simp; rfl)
          refine StepsZ.valW 10 (.slice A n c) rfl (by decide) (fun _ _ => rfl) rfl (fun x wzb hd => ?_) (fun x wzb hb hd => ?_) ?_
          · have hG : x 4 = .bool false := hd 4 (by kernel_rfl)
            simp [Region.wanted, yielded, hG]
          · first | (go_simp; done) | (go_simp; rfl)
          refine StepsZ.valW 11 (txt l) rfl (by decide) (fun _ _ => rfl) rfl (fun x wzb hd => ?_) (fun x wzb hb hd => ?_) ?_
          · have hG : x 4 = .bool false := hd 4 (by kernel_rfl)
            simp [Region.wanted, yielded, hG]
          · have h10 : x 10 = .slice A n c := hd 10 (by kernel_rfl)
            have cc := run_string_rd 22 9 5 Try.underlying22 Try.underlying5 Try.underlying9 (YbHR.out.below hb)
            rw [h10]
            first | (go_simp; done) | (go_simp; rfl)
          refine StepsZ.valW 12 (.bool true) rfl (by decide) (fun _ _ => rfl) rfl (fun x wzb hd => ?_) (fun x wzb hb hd => ?_) ?_
          · have hG : x 4 = .bool false := hd 4 (by kernel_rfl)
            simp [Region.wanted, yielded, hG]
          · have h9 : x 9 = txt (l) := hd 9 (by kernel_rfl)
            have h11 : x 11 = txt l := hd 11 (by kernel_rfl)
            rw [h9, h11]
            first | (go_simp; done) | (go_simp; rfl) | (go_simp; simp)
          refine StepsZ.valW 13 (.bool true) rfl (by decide) (fun _ _ => rfl) rfl (fun x wzb hd => ?_) (fun x wzb hb hd => ?_) ?_
          · have hG : x 1 = .bool true := hd 1 (by kernel_rfl)
            simp [Region.wanted, yielded, hG]
          · have h4 : x 4 = .bool false := hd 4 (by kernel_rfl)
            have h12 : x 12 = .bool true := hd 12 (by kernel_rfl)
            rw [h4, h12]
            first | (go_simp; done) | (go_simp; rfl)
          refine StepsZ.valW 14 (.bool true) rfl (by decide) (fun _ _ => rfl) rfl (fun _ _ _ => rfl) (fun x wzb hb hd => ?_) ?_
          · have h1 : x 1 = .bool true := hd 1 (by kernel_rfl)
            have h13 : x 13 = .bool true := hd 13 (by kernel_rfl)
            rw [h1, h13]
            first | (go_simp; done) | (go_simp; rfl)
          refine StepsZ.valW 15 (.bool true) rfl (by decide) (fun _ _ => rfl) rfl (fun _ _ _ => rfl) (fun x wzb hb hd => ?_) ?_
          · have h14 : x 14 = .bool true := hd 14 (by kernel_rfl)
            rw [h14]
            first | (go_simp; done) | (go_simp; rfl)
          exact StepsZ.done
        case fin =>
          intro x wzb hb hd
          have hx0 : x 0 = .bool true := hd 0 (by omega)
          have hx1 : x 1 = .bool true := hd 1 (by omega)
          have hx2 : x 2 = .int IntKind.i64 ↑0 := hd 2 (by omega)
          have hx3 : x 3 = .bool false := hd 3 (by omega)
          have hx4 : x 4 = .bool false := hd 4 (by omega)
          have hx5 : x 5 = .agg (rpc RP (.slice A3n (pN RP).length c3n)).toArray := hd 5 (by omega)
          obtain ⟨AEZb, nEZb, cEZb, hx6⟩ := (show RowB 5 wu.heap.size ([] ++ encR RP) (x 6) (x 8) wzb from hd 6 (by omega)).1
          have hx7 : x 7 = .slice A3 RR.length c3 := hd 7 (by omega)
          obtain ⟨AEZbb, nEZbb, cEZbb, hx8⟩ := (show BackB 5 wu.heap.size (l) (x 8) wzb from hd 8 (by omega)).1
          have hx9 : x 9 = txt (l) := hd 9 (by omega)
          have hx10 : x 10 = .slice A n c := hd 10 (by omega)
          have hx11 : x 11 = txt l := hd 11 (by omega)
          have hx12 : x 12 = .bool true := hd 12 (by omega)
          have hx13 : x 13 = .bool true := hd 13 (by omega)
          have hx14 : x 14 = .bool true := hd 14 (by omega)
          have hx15 : x 15 = .bool true := hd 15 (by omega)
          refine AnyTill.any (S := fun _ => True) (m := 16) _ _ _ _ ?_
          refine AnyTill.done (by kernel_rfl) ?_
          refine NoPanic.normal ?_
          try dsimp only
          rw [hx0, hx1, hx2, hx3, hx4, hx5, hx6, hx7, hx8, hx9, hx10, hx11, hx12, hx13, hx14, hx15]
          have EZb := Lib.hid hb
          clear hd hb hx0 hx1 hx2 hx3 hx4 hx5 hx6 hx7 hx8 hx9 hx10 hx11 hx12 hx13 hx14 hx15
          have P4_w := Lib.hid (P3_w.out.trans (EZb.out.mono P3_w.out.size))
          clear P3_w
          have P4_W1 := Lib.hid (P3_W1.out.trans (EZb.out.mono P3_W1.out.size))
          clear P3_W1
          have P4_W2 := Lib.hid (EU.out.trans (EZb.out.mono EU.out.size))
          go_wp2
          go_ret
          exact ⟨rfl, P4_w.out⟩
      · have hbz : ((ER : Int) != 0) = true := by rw [bne_iff_ne]; omega
        go_wp2
        refine wp_region_rely2 16 0 (fun x => ⟨#[.slice A n c, undef, x 15, .pointer (some { block := vg1, off := 0 }), .slice A1 RO.length c1, .int IntKind.i64 ↑EO, .pointer (some { block := vg2, off := 0 }), .slice A3 RR.length c3, .int IntKind.i64 ↑ER, .slice A n c, .int IntKind.i64 ↑n, .bool false, undef, .tuple #[Value.agg (orc OO).toArray, Value.slice A1 RO.length c1, Value.int IntKind.i64 ↑EO], .slice A n c, .tuple #[Value.agg (orc OO).toArray, Value.slice A1 RO.length c1, Value.int IntKind.i64 ↑EO], .agg (orc OO).toArray, .slice A1 RO.length c1, .int IntKind.i64 ↑EO, .tuple #[Value.agg (rpc RP (Value.slice A3n (pN RP).length c3n)).toArray, Value.slice A3 RR.length c3, Value.int IntKind.i64 ↑ER], .slice A n c, .tuple #[Value.agg (rpc RP (Value.slice A3n (pN RP).length c3n)).toArray, Value.slice A3 RR.length c3, Value.int IntKind.i64 ↑ER], .agg (rpc RP (Value.slice A3n (pN RP).length c3n)).toArray, .slice A3 RR.length c3, .int IntKind.i64 ↑ER, .int IntKind.i64 ↑EO, .bool false, .bool false, undef, undef, undef, undef, undef, undef, undef, undef, undef, undef, undef, undef, undef, .bool false, x 0, x 1, x 2, x 3, x 4, x 5, x 6, x 7, x 8, x 9, x 10, x 11, x 12, x 13, x 14], []⟩) (fun jj => ([(eqV (.bool true)), eqV (.bool true), eqV (.int IntKind.i64 ↑ER), eqV (.bool true), eqV (.bool true), (eqV undef), (eqV undef), (eqV undef), (eqV undef), (eqV undef), (eqV undef), (eqV undef), (eqV undef), eqV (.bool true), eqV (.bool true), eqV (.bool true)] : List (Value → World → Prop)).getD jj (fun _ _ => True)) rfl ⟨fun kk => [_, _, _, _, _, _, _, _, _, _, _, _, _, _, _, _].getD kk undef, rfl⟩ (by kernel_rfl) (by kernel_rfl) ?steps ?fin
        case steps =>
          refine StepsAt.cons 0 (fun _ _ _ h hb => h) (fun _ _ => rfl) rfl rfl (fun x wvb hb hd K hK => ?_) ?_
          · go_simp
            refine (alive12 _).mono ?_
            rintro e w99 ⟨rfl, hb99⟩
            exact hK.out _ _ hb99 rfl
          refine StepsAt.val 1 (.bool true) rfl (fun _ _ => rfl) rfl rfl (fun x wvb hb hd => ?_) ?_
          · have h0 : x 0 = .bool true := hd 0 (by kernel_rfl)
            rw [h0]
            first | (go_simp; done) | (go_simp; rfl)
          refine StepsAt.valG 2 (.int IntKind.i64 ↑ER) rfl (fun _ _ => rfl) rfl (fun x wvb hd => ?_) (fun x wvb hb hd => ?_) ?_
          · have hG : x 1 = .bool true := hd 1 (by kernel_rfl)
            simp [Region.wanted, yielded, hG]
          · first | (go_simp; done) | (go_simp; rfl)
          refine StepsAt.valG 3 (.bool true) rfl (fun _ _ => rfl) rfl (fun x wvb hd => ?_) (fun x wvb hb hd => ?_) ?_
          · have hG : x 1 = .bool true := hd 1 (by kernel_rfl)
            simp [Region.wanted, yielded, hG]
          · have h2 : x 2 = .int IntKind.i64 ↑ER := hd 2 (by kernel_rfl)
            rw [h2]
            first | (go_simp; done) | (go_simp; rfl) | (go_simp; simp)
          refine StepsAt.valG 4 (.bool true) rfl (fun _ _ => rfl) rfl (fun x wvb hd => ?_) (fun x wvb hb hd => ?_) ?_
          · have hG : x 1 = .bool true := hd 1 (by kernel_rfl)
            simp [Region.wanted, yielded, hG]
          · have h3 : x 3 = .bool true := hd 3 (by kernel_rfl)
            rw [h3]
            first | (go_simp; done) | (go_simp; rfl)
          refine StepsAt.skip 5 rfl (fun _ _ => rfl) rfl (fun x wvb hd => ?_) ?_
          · have hG : x 4 = .bool true := hd 4 (by kernel_rfl)
            simp [Region.wanted, yielded, hG]
          refine StepsAt.skip 6 rfl (fun _ _ => rfl) rfl (fun x wvb hd => ?_) ?_
          · have hG : x 4 = .bool true := hd 4 (by kernel_rfl)
            simp [Region.wanted, yielded, hG]
          refine StepsAt.skip 7 rfl (fun _ _ => rfl) rfl (fun x wvb hd => ?_) ?_
          · have hG : x 4 = .bool true := hd 4 (by kernel_rfl)
            simp [Region.wanted, yielded, hG]
          refine StepsAt.skip 8 rfl (fun _ _ => rfl) rfl (fun x wvb hd => ?_) ?_
          · have hG : x 4 = .bool true := hd 4 (by kernel_rfl)
            simp [Region.wanted, yielded, hG]
          refine StepsAt.skip 9 rfl (fun _ _ => rfl) rfl (fun x wvb hd => ?_) ?_
          · have hG : x 4 = .bool true := hd 4 (by kernel_rfl)
            simp [Region.wanted, yielded, hG]
          refine StepsAt.skip 10 rfl (fun _ _ => rfl) rfl (fun x wvb hd => ?_) ?_
          · have hG : x 4 = .bool true := hd 4 (by kernel_rfl)
            simp [Region.wanted, yielded, hG]
          refine StepsAt.skip 11 rfl (fun _ _ => rfl) rfl (fun x wvb hd => ?_) ?_
          · have hG : x 4 = .bool true := hd 4 (by kernel_rfl)
            simp [Region.wanted, yielded, hG]
          refine StepsAt.skip 12 rfl (fun _ _ => rfl) rfl (fun x wvb hd => ?_) ?_
          · have hG : x 4 = .bool true := hd 4 (by kernel_rfl)
            simp [Region.wanted, yielded, hG]
          refine StepsAt.valG 13 (.bool true) rfl (fun _ _ => rfl) rfl (fun x wvb hd => ?_) (fun x wvb hb hd => ?_) ?_
          · have hG : x 1 = .bool true := hd 1 (by kernel_rfl)
            simp [Region.wanted, yielded, hG]
          · have h4 : x 4 = .bool true := hd 4 (by kernel_rfl)
            have h12 : x 12 = undef := hd 12 (by kernel_rfl)
            rw [h4, h12]
            first | (go_simp; done) | (go_simp; rfl)
          refine StepsAt.val 14 (.bool true) rfl (fun _ _ => rfl) rfl rfl (fun x wvb hb hd => ?_) ?_
          · have h1 : x 1 = .bool true := hd 1 (by kernel_rfl)
            have h13 : x 13 = .bool true := hd 13 (by kernel_rfl)
            rw [h1, h13]
            first | (go_simp; done) | (go_simp; rfl)
          refine StepsAt.val 15 (.bool true) rfl (fun _ _ => rfl) rfl rfl (fun x wvb hb hd => ?_) ?_
          · have h14 : x 14 = .bool true := hd 14 (by kernel_rfl)
            rw [h14]
            first | (go_simp; done) | (go_simp; rfl)
          exact StepsAt.done
        case fin =>
          intro x wvb hb hd
          have hx0 : x 0 = .bool true := hd 0 (by omega)
          have hx1 : x 1 = .bool true := hd 1 (by omega)
          have hx2 : x 2 = .int IntKind.i64 ↑ER := hd 2 (by omega)
          have hx3 : x 3 = .bool true := hd 3 (by omega)
          have hx4 : x 4 = .bool true := hd 4 (by omega)
          have hx5 : x 5 = undef := hd 5 (by omega)
          have hx6 : x 6 = undef := hd 6 (by omega)
          have hx7 : x 7 = undef := hd 7 (by omega)
          have hx8 : x 8 = undef := hd 8 (by omega)
          have hx9 : x 9 = undef := hd 9 (by omega)
          have hx10 : x 10 = undef := hd 10 (by omega)
          have hx11 : x 11 = undef := hd 11 (by omega)
          have hx12 : x 12 = undef := hd 12 (by omega)
          have hx13 : x 13 = .bool true := hd 13 (by omega)
          have hx14 : x 14 = .bool true := hd 14 (by omega)
          have hx15 : x 15 = .bool true := hd 15 (by omega)
          refine AnyTill.any (S := fun _ => True) (m := 16) _ _ _ _ ?_
          refine AnyTill.done (by kernel_rfl) ?_
          refine NoPanic.normal ?_
          try dsimp only
          rw [hx0, hx1, hx2, hx3, hx4, hx5, hx6, hx7, hx8, hx9, hx10, hx11, hx12, hx13, hx14, hx15]
          have EVb := Lib.hid hb
          clear hx0 hx1 hx2 hx3 hx4 hx5 hx6 hx7 hx8 hx9 hx10 hx11 hx12 hx13 hx14 hx15 hd hb
          have P4_w := Lib.hid (P3_w.out.trans (EVb.out.mono P3_w.out.size))
          clear P3_w
          have P4_W1 := Lib.hid (P3_W1.out.trans (EVb.out.mono P3_W1.out.size))
          clear P3_W1
          have P4_W2 := Lib.hid (EU.out.trans (EVb.out.mono EU.out.size))
          go_wp2
          go_ret
          exact ⟨rfl, P4_w.out⟩
end Go.Proofs.Ytmlpiembglmggaa
