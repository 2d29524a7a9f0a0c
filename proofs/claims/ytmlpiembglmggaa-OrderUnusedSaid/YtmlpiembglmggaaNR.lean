/-
  The statements on orders: OrderUnused.
-/
import Derived.Test.YtmlpiembglmggaaNQ
import Derived.Test.YtmlpiembglmggaaRZ
namespace Go.Proofs.Ytmlpiembglmggaa
open Go.RowKit
def withR (o : Or) (n : Int) : Or := (oC o, oQ o, oK o, oP o, oV o, n, oS o, oT o)
def withS (o : Or) (n : Int) : Or := (oC o, oQ o, oK o, oP o, oV o, oR o, n, oT o)
def withT (o : Or) (n : Int) : Or := (oC o, oQ o, oK o, oP o, oV o, oR o, oS o, n)
def withP (o : Or) (p : List UInt8) : Or := (oC o, oQ o, oK o, p, oV o, oR o, oS o, oT o)
theorem may_with (o : Or) (n : Int) (hm : mayO o = true) (hn : n ≠ 0) :
    mayO (withR o n) = (decide (oK o = 3) || decide (oK o = 4)) ∧ mayO (withS o n) = (decide (oK o = 1) || decide (oK o = 6) || decide (oK o = 7) || decide (oK o = 8)) ∧ mayO (withT o n) = (decide (oK o = 6) || decide (oK o = 9)) ∧
    mayO (withP o [47]) = (decide (1 ≤ oK o) && decide (oK o ≤ 5) || decide (oK o = 10) || decide (oK o = 11)) := by
  have hs := may_sized hm
  obtain ⟨c, q, k, p, v, r, s, t⟩ := o
  simp only [oC, oQ, oK, oP, oV, oR, oS, oT, withR, withS, withT, withP] at *
  obtain ⟨h1, h2, h3, h4, h5, h6, h7, h8⟩ := hs
  have hk : k = 0 ∨ k = 1 ∨ k = 2 ∨ k = 3 ∨ k = 4 ∨ k = 5 ∨ k = 6 ∨ k = 7 ∨ k = 8 ∨ k = 9 ∨ k = 10 ∨ k = 11 := by omega
  have e1 : ∀ p' v' r' s' t', sizedO (c, q, k, p', v', r', s', t') = (decide (p'.length ≤ 100) && decide (v'.length ≤ 1000)) := by
    intro p' v' r' s' t'
    unfold sizedO
    simp only [oC, oQ, oK, oP, oV]
    rw [decide_eq_true h1, decide_eq_true h2, decide_eq_true h3, decide_eq_true h4, decide_eq_true h5, decide_eq_true h6]
    rfl
  simp only [mayO, e1] at hm ⊢
  have e7 : decide (p.length ≤ 100) = true := decide_eq_true h7
  have e8 : decide (v.length ≤ 1000) = true := decide_eq_true h8
  simp only [e7, e8, Bool.true_and] at hm ⊢
  clear e1 e7 e8 h1 h2 h3 h4 h5 h6 h7 h8
  rcases hk with rfl | rfl | rfl | rfl | rfl | rfl | rfl | rfl | rfl | rfl | rfl | rfl <;> simp_all [usedO, usesT, oK, oP, oV, oR, oS, oT]

/-- What a store of an order in a box does. -/
def StoreU (o : Or) (i : Nat) (x : Nat → Value) (w w' : World) : Prop := ∃ g, x (i - 4) = .pointer (some ⟨g, 0, none⟩) ∧ Blk w' g (orc o) 24 ∧ w'.heap.size = w.heap.size ∧ ∀ k, k ≠ g → w'.heap[k]? = w.heap[k]?
/-- A box, apart from the others. -/
def BoxU (B : Nat) (j : Nat) (x : Nat → Value) (w : World) : Prop := ∃ g cs, x j = .pointer (some ⟨g, 0, none⟩) ∧ B ≤ g ∧ Blk w g cs 24 ∧ cs.length = 8 ∧ ∀ i, 4 ≤ i → i < 8 → i ≠ j → x i ≠ x j
/-- A box that holds the order. -/
def DoneU (B : Nat) (o : Or) (j : Nat) (x : Nat → Value) (w : World) : Prop := ∃ g, x j = .pointer (some ⟨g, 0, none⟩) ∧ B ≤ g ∧ Blk w g (orc o) 24 ∧ ∀ i, 4 ≤ i → i < 8 → i ≠ j → x i ≠ x j
theorem StoreU.block {o : Or} {i g : Nat} {x : Nat → Value} {w w' : World} (h : StoreU o i x w w') {p : Value} (hp : p = .pointer (some ⟨g, 0, none⟩)) (hne : x (i - 4) ≠ p) : w'.heap[g]? = w.heap[g]? := by
  obtain ⟨g', h1, _, _, h4⟩ := h
  refine h4 g (fun e => hne ?_)
  rw [h1, hp, e]
theorem upd_apart {x : Nat → Value} {i j : Nat} {v : Value} (hij : i ≠ j) (hd : ∀ k, 4 ≤ k → k < 8 → k ≠ j → x k ≠ x j) (hv : 4 ≤ i → i < 8 → v ≠ x j) : ∀ k, 4 ≤ k → k < 8 → k ≠ j → upd x i v k ≠ upd x i v j := by
  intro k h1 h2 h3
  rw [upd_ne _ _ _ _ (Ne.symm hij)]
  by_cases hk : k = i
  · subst hk
    rw [upd_same]
    exact hv h1 h2
  · rw [upd_ne _ _ _ _ hk]
    exact hd k h1 h2 h3
theorem BoxU.keep {B i j : Nat} {o : Or} {x : Nat → Value} {v : Value} {w w' : World} (h : BoxU B j x w) (hj : 4 ≤ j) (hj8 : j < 8) (hij : i ≠ j) (he : effX [8, 9, 10, 11] (StoreU o) i x w w') (hi : 4 ≤ i → i < 8 → BoxU B i (upd x i v) w') : BoxU B j (upd x i v) w' := by
  obtain ⟨g, cs, h1, h2, h3, h4, h5⟩ := h
  have hx : upd x i v j = x j := upd_ne _ _ _ _ (Ne.symm hij)
  have hap : ∀ k, 4 ≤ k → k < 8 → k ≠ j → upd x i v k ≠ upd x i v j := by
    refine upd_apart hij h5 (fun a b e => ?_)
    obtain ⟨_, _, _, _, _, _, q5⟩ := hi a b
    have := q5 j hj hj8 (Ne.symm hij)
    rw [upd_same, hx] at this
    exact this e.symm
  unfold effX at he
  split at he
  · by_cases hq : i - 4 = j
    · obtain ⟨g', q1, q2, _, _⟩ := he
      rw [hq, h1] at q1
      injection q1 with q1
      injection q1 with q1
      injection q1 with q1
      subst q1
      exact ⟨g, orc o, hx.trans h1, h2, q2, rfl, hap⟩
    · have hsp : i = 8 ∨ i = 9 ∨ i = 10 ∨ i = 11 := by rename_i hsp; simpa using hsp
      exact ⟨g, cs, hx.trans h1, h2, h3.same (he.block rfl (fun e => h5 (i - 4) (by omega) (by omega) hq (e.trans h1.symm))), h4, hap⟩
  · exact ⟨g, cs, hx.trans h1, h2, h3.below he h3.lt, h4, hap⟩
theorem DoneU.keep {B i j : Nat} {o : Or} {x : Nat → Value} {v : Value} {w w' : World} (h : DoneU B o j x w) (hj : 4 ≤ j) (hj8 : j < 8) (hij : i ≠ j) (he : effX [8, 9, 10, 11] (StoreU o) i x w w') (hi : 4 ≤ i → i < 8 → BoxU B i (upd x i v) w') : DoneU B o j (upd x i v) w' := by
  obtain ⟨g, h1, h2, h3, h5⟩ := h
  have hx : upd x i v j = x j := upd_ne _ _ _ _ (Ne.symm hij)
  have hap : ∀ k, 4 ≤ k → k < 8 → k ≠ j → upd x i v k ≠ upd x i v j := by
    refine upd_apart hij h5 (fun a b e => ?_)
    obtain ⟨_, _, _, _, _, _, q5⟩ := hi a b
    have := q5 j hj hj8 (Ne.symm hij)
    rw [upd_same, hx] at this
    exact this e.symm
  unfold effX at he
  split at he
  · by_cases hq : i - 4 = j
    · obtain ⟨g', q1, q2, _, _⟩ := he
      rw [hq, h1] at q1
      injection q1 with q1
      injection q1 with q1
      injection q1 with q1
      subst q1
      exact ⟨g, hx.trans h1, h2, q2, hap⟩
    · have hsp : i = 8 ∨ i = 9 ∨ i = 10 ∨ i = 11 := by rename_i hsp; simpa using hsp
      exact ⟨g, hx.trans h1, h2, h3.same (he.block rfl (fun e => h5 (i - 4) (by omega) (by omega) hq (e.trans h1.symm))), hap⟩
  · exact ⟨g, hx.trans h1, h2, h3.below he h3.lt, hap⟩

set_option maxRecDepth 1000000 in
set_option maxHeartbeats 16000000 in
theorem unusedO_all (o : Or) (n : Int) (w : World) : Calls Try.prog 7 #[.agg (orc o).toArray, .int .i64 n] w (One (.bool true) w) := by
  go_enter Try.func7, Try.ntmps7
  go_wp2_with (refine wpList_box_blk rfl 24 _ rfl (orc o) rfl ?_)
  intro y0 b1 b2 b3
  obtain ⟨gb0, hg⟩ : ∃ g, w.heap.size = g := ⟨_, rfl⟩
  have X0 := Lib.hid b1
  have EB0 := Lib.hid b3
  rw [hg] at X0 ⊢
  clear b1 b2 b3 hg
  have c_X0 := X0.out.at_ 0 _ rfl
  have c_X0_1 := X0.out.at_ 1 _ rfl
  have c_X0_2 := X0.out.at_ 2 _ rfl
  have c_X0_3 := X0.out.at_ 3 _ rfl
  have c_X0_4 := X0.out.at_ 4 _ rfl
  have c_X0_5 := X0.out.at_ 5 _ rfl
  have c_X0_6 := X0.out.at_ 6 _ rfl
  have c_X0_7 := X0.out.at_ 7 _ rfl
  go_wp2_with fail
  refine (orMay_any o y0).mono ?_
  rintro e W1 ⟨rfl, hb⟩
  have E1 := Lib.hid hb
  clear hb c_X0 c_X0_1 c_X0_2 c_X0_3 c_X0_4 c_X0_5 c_X0_6 c_X0_7
  have P1_w := Lib.hid (EB0.out.trans (E1.out.mono EB0.out.size))
  cases hM : mayO o
  · clear hM
    go_wp2_with fail
    refine (alive12 W1).mono ?_
    rintro e W2 ⟨rfl, hb⟩
    have E2 := Lib.hid hb
    clear hb
    have P2_w := Lib.hid (P1_w.out.trans (E2.out.mono P1_w.out.size))
    clear P1_w
    have P2_y0 := Lib.hid (E1.out.trans (E2.out.mono E1.out.size))
    go_wp2
    go_ret
    exact ⟨rfl, P2_w.out⟩
  by_cases hn : n = 0
  · subst hn
    go_wp2_with fail
    refine (alive12 W1).mono ?_
    rintro e W2 ⟨rfl, hb⟩
    have E2 := Lib.hid hb
    clear hb
    have P2_w := Lib.hid (P1_w.out.trans (E2.out.mono P1_w.out.size))
    clear P1_w
    have P2_y0 := Lib.hid (E1.out.trans (E2.out.mono E1.out.size))
    go_wp2
    go_ret
    exact ⟨rfl, P2_w.out⟩
  have HW := Lib.hid (may_with o n hM hn)
  have HKK : Hid (oK o = 0 ∨ oK o = 1 ∨ oK o = 2 ∨ oK o = 3 ∨ oK o = 4 ∨ oK o = 5 ∨ oK o = 6 ∨ oK o = 7 ∨ oK o = 8 ∨ oK o = 9 ∨ oK o = 10 ∨ oK o = 11) := by
    have hs := may_sized hM
    show _ ∨ _
    omega
  clear hM
  go_wp2
  have ZX := Lib.hid (X0.out.below E1.out X0.out.lt)
  refine wp_region_relyZ [] [8, 9, 10, 11] (StoreU o) (fun _ => undef) 12 0 (fun x => ⟨#[.agg (orc o).toArray, .int IntKind.i64 n, .pointer (some { block := gb0, off := 0 }), undef, .bool false, x 4, x 5, x 6, x 7, undef, undef, undef, undef, undef, .agg #[Value.int IntKind.i64 (oC o), Value.int IntKind.i64 (oQ o), Value.int IntKind.i64 (oK o), txt (oP o), txt (oV o), Value.int IntKind.i64 (oR o), Value.int IntKind.i64 (oS o), Value.int IntKind.i64 (oT o)], .bool true, .bool false, .bool false, .int IntKind.i64 n, .bool (n == 0), .bool (n == 0), undef, x 0, x 1, x 2, x 3, undef, undef, undef, undef, undef, undef, undef, undef, undef, undef, undef, undef, undef, undef, undef, undef, undef, undef, undef, undef, undef, undef, undef, undef, undef, undef, undef, undef, undef, undef, undef, undef, undef, undef, undef, undef, undef, undef, undef, undef, undef, undef, undef, undef, undef, undef, undef, undef, undef, undef, undef, undef, undef, undef, undef, undef, undef, undef, undef, undef, undef, undef, undef, undef, undef, undef, undef, undef, undef, undef, undef, undef, undef, undef], []⟩) (fun jj => ([fun x w => eqV (.agg (orc o).toArray) (x 0) w, fun x w => eqV (.agg (orc o).toArray) (x 1) w, fun x w => eqV (.agg (orc o).toArray) (x 2) w, fun x w => eqV (.agg (orc o).toArray) (x 3) w, BoxU W1.heap.size 4, BoxU W1.heap.size 5, BoxU W1.heap.size 6, BoxU W1.heap.size 7, DoneU W1.heap.size o 4, DoneU W1.heap.size o 5, DoneU W1.heap.size o 6, DoneU W1.heap.size o 7] : List ((Nat → Value) → World → Prop)).getD jj (fun _ _ => True)) rfl rfl (by kernel_rfl) (by kernel_rfl) (by kernel_rfl) (fun p hp => by cases hp) ?steps ?fin
  case steps =>
    refine StepsZ.val 0 (.agg (orc o).toArray) rfl (by decide) (fun _ _ => rfl) rfl rfl (fun x wx hb hd => ?_) ?_
    · have XX := Lib.hid (ZX.out.below hb ZX.out.lt)
      have d0 := XX.out.at_ 0 _ rfl
      have d1 := XX.out.at_ 1 _ rfl
      have d2 := XX.out.at_ 2 _ rfl
      have d3 := XX.out.at_ 3 _ rfl
      have d4 := XX.out.at_ 4 _ rfl
      have d5 := XX.out.at_ 5 _ rfl
      have d6 := XX.out.at_ 6 _ rfl
      have d7 := XX.out.at_ 7 _ rfl
      clear hd
      first | (go_simp; done) | (go_simp; rfl)
    refine StepsZ.val 1 (.agg (orc o).toArray) rfl (by decide) (fun _ _ => rfl) rfl rfl (fun x wx hb hd => ?_) ?_
    · have XX := Lib.hid (ZX.out.below hb ZX.out.lt)
      have d0 := XX.out.at_ 0 _ rfl
      have d1 := XX.out.at_ 1 _ rfl
      have d2 := XX.out.at_ 2 _ rfl
      have d3 := XX.out.at_ 3 _ rfl
      have d4 := XX.out.at_ 4 _ rfl
      have d5 := XX.out.at_ 5 _ rfl
      have d6 := XX.out.at_ 6 _ rfl
      have d7 := XX.out.at_ 7 _ rfl
      clear hd
      first | (go_simp; done) | (go_simp; rfl)
    refine StepsZ.val 2 (.agg (orc o).toArray) rfl (by decide) (fun _ _ => rfl) rfl rfl (fun x wx hb hd => ?_) ?_
    · have XX := Lib.hid (ZX.out.below hb ZX.out.lt)
      have d0 := XX.out.at_ 0 _ rfl
      have d1 := XX.out.at_ 1 _ rfl
      have d2 := XX.out.at_ 2 _ rfl
      have d3 := XX.out.at_ 3 _ rfl
      have d4 := XX.out.at_ 4 _ rfl
      have d5 := XX.out.at_ 5 _ rfl
      have d6 := XX.out.at_ 6 _ rfl
      have d7 := XX.out.at_ 7 _ rfl
      clear hd
      first | (go_simp; done) | (go_simp; rfl)
    refine StepsZ.val 3 (.agg (orc o).toArray) rfl (by decide) (fun _ _ => rfl) rfl rfl (fun x wx hb hd => ?_) ?_
    · have XX := Lib.hid (ZX.out.below hb ZX.out.lt)
      have d0 := XX.out.at_ 0 _ rfl
      have d1 := XX.out.at_ 1 _ rfl
      have d2 := XX.out.at_ 2 _ rfl
      have d3 := XX.out.at_ 3 _ rfl
      have d4 := XX.out.at_ 4 _ rfl
      have d5 := XX.out.at_ 5 _ rfl
      have d6 := XX.out.at_ 6 _ rfl
      have d7 := XX.out.at_ 7 _ rfl
      clear hd
      first | (go_simp; done) | (go_simp; rfl)
    refine StepsZ.cons 4 (fun x i vv w1 w2 hij hni h1 h2 h3 => ?_) (fun _ _ => rfl) rfl rfl (fun x wx hb hx hd hs9 K hK => ?_) ?_
    · refine BoxU.keep (show BoxU _ _ _ _ from h1) (by omega) (by omega) hij h2 (fun a b => ?_)
      have hq : i = 4 ∨ i = 5 ∨ i = 6 ∨ i = 7 := by omega
      rcases hq with rfl | rfl | rfl | rfl <;> exact h3
    · refine wp_of_list rfl (wpList_alloc_blk rfl 24 rfl (orc or0) zeroOrP ?_)
      intro w8 a1 a2 a3
      refine hK.out _ w8 (a3.mono hb.size) ?_ ?_
      · unfold effX
        rw [if_neg (by decide)]
        exact a3
      · refine ⟨_, orc or0, upd_same _ _ _, hb.size, a1, rfl, ?_⟩
        intro i q1 q2 q3 e
        rw [upd_same, upd_ne _ _ _ _ q3] at e
        have hq : i = 4 ∨ i = 5 ∨ i = 6 ∨ i = 7 := by omega
        have hz : x i = undef ∨ BoxU W1.heap.size i x wx := by
          rcases hq with rfl | rfl | rfl | rfl
          · exact hs9 4 (by decide)
          · exact hs9 5 (by decide)
          · exact hs9 6 (by decide)
          · exact hs9 7 (by decide)
        rcases hz with hz | ⟨g, cs, z1, _, z3, _, _⟩
        · rw [hz] at e
          cases e
        · rw [z1] at e
          injection e with e
          injection e with e
          injection e with e
          exact absurd z3.lt (by omega)
    refine StepsZ.cons 5 (fun x i vv w1 w2 hij hni h1 h2 h3 => ?_) (fun _ _ => rfl) rfl rfl (fun x wx hb hx hd hs9 K hK => ?_) ?_
    · refine BoxU.keep (show BoxU _ _ _ _ from h1) (by omega) (by omega) hij h2 (fun a b => ?_)
      have hq : i = 4 ∨ i = 5 ∨ i = 6 ∨ i = 7 := by omega
      rcases hq with rfl | rfl | rfl | rfl <;> exact h3
    · refine wp_of_list rfl (wpList_alloc_blk rfl 24 rfl (orc or0) zeroOrP ?_)
      intro w8 a1 a2 a3
      refine hK.out _ w8 (a3.mono hb.size) ?_ ?_
      · unfold effX
        rw [if_neg (by decide)]
        exact a3
      · refine ⟨_, orc or0, upd_same _ _ _, hb.size, a1, rfl, ?_⟩
        intro i q1 q2 q3 e
        rw [upd_same, upd_ne _ _ _ _ q3] at e
        have hq : i = 4 ∨ i = 5 ∨ i = 6 ∨ i = 7 := by omega
        have hz : x i = undef ∨ BoxU W1.heap.size i x wx := by
          rcases hq with rfl | rfl | rfl | rfl
          · exact hs9 4 (by decide)
          · exact hs9 5 (by decide)
          · exact hs9 6 (by decide)
          · exact hs9 7 (by decide)
        rcases hz with hz | ⟨g, cs, z1, _, z3, _, _⟩
        · rw [hz] at e
          cases e
        · rw [z1] at e
          injection e with e
          injection e with e
          injection e with e
          exact absurd z3.lt (by omega)
    refine StepsZ.cons 6 (fun x i vv w1 w2 hij hni h1 h2 h3 => ?_) (fun _ _ => rfl) rfl rfl (fun x wx hb hx hd hs9 K hK => ?_) ?_
    · refine BoxU.keep (show BoxU _ _ _ _ from h1) (by omega) (by omega) hij h2 (fun a b => ?_)
      have hq : i = 4 ∨ i = 5 ∨ i = 6 ∨ i = 7 := by omega
      rcases hq with rfl | rfl | rfl | rfl <;> exact h3
    · refine wp_of_list rfl (wpList_alloc_blk rfl 24 rfl (orc or0) zeroOrP ?_)
      intro w8 a1 a2 a3
      refine hK.out _ w8 (a3.mono hb.size) ?_ ?_
      · unfold effX
        rw [if_neg (by decide)]
        exact a3
      · refine ⟨_, orc or0, upd_same _ _ _, hb.size, a1, rfl, ?_⟩
        intro i q1 q2 q3 e
        rw [upd_same, upd_ne _ _ _ _ q3] at e
        have hq : i = 4 ∨ i = 5 ∨ i = 6 ∨ i = 7 := by omega
        have hz : x i = undef ∨ BoxU W1.heap.size i x wx := by
          rcases hq with rfl | rfl | rfl | rfl
          · exact hs9 4 (by decide)
          · exact hs9 5 (by decide)
          · exact hs9 6 (by decide)
          · exact hs9 7 (by decide)
        rcases hz with hz | ⟨g, cs, z1, _, z3, _, _⟩
        · rw [hz] at e
          cases e
        · rw [z1] at e
          injection e with e
          injection e with e
          injection e with e
          exact absurd z3.lt (by omega)
    refine StepsZ.cons 7 (fun x i vv w1 w2 hij hni h1 h2 h3 => ?_) (fun _ _ => rfl) rfl rfl (fun x wx hb hx hd hs9 K hK => ?_) ?_
    · refine BoxU.keep (show BoxU _ _ _ _ from h1) (by omega) (by omega) hij h2 (fun a b => ?_)
      have hq : i = 4 ∨ i = 5 ∨ i = 6 ∨ i = 7 := by omega
      rcases hq with rfl | rfl | rfl | rfl <;> exact h3
    · refine wp_of_list rfl (wpList_alloc_blk rfl 24 rfl (orc or0) zeroOrP ?_)
      intro w8 a1 a2 a3
      refine hK.out _ w8 (a3.mono hb.size) ?_ ?_
      · unfold effX
        rw [if_neg (by decide)]
        exact a3
      · refine ⟨_, orc or0, upd_same _ _ _, hb.size, a1, rfl, ?_⟩
        intro i q1 q2 q3 e
        rw [upd_same, upd_ne _ _ _ _ q3] at e
        have hq : i = 4 ∨ i = 5 ∨ i = 6 ∨ i = 7 := by omega
        have hz : x i = undef ∨ BoxU W1.heap.size i x wx := by
          rcases hq with rfl | rfl | rfl | rfl
          · exact hs9 4 (by decide)
          · exact hs9 5 (by decide)
          · exact hs9 6 (by decide)
          · exact hs9 7 (by decide)
        rcases hz with hz | ⟨g, cs, z1, _, z3, _, _⟩
        · rw [hz] at e
          cases e
        · rw [z1] at e
          injection e with e
          injection e with e
          injection e with e
          exact absurd z3.lt (by omega)
    refine StepsZ.cons 8 (fun x i vv w1 w2 hij hni h1 h2 h3 => ?_) (fun _ _ => rfl) rfl rfl (fun x wx hb hx hd hs9 K hK => ?_) ?_
    · refine DoneU.keep (show DoneU _ _ _ _ _ from h1) (by omega) (by omega) (fun e => ?_) h2 (fun a b => ?_)
      · subst e
        exact absurd (by kernel_rfl : (clos _ _ (depsOf _ 8)).contains 4 = true) (by simpa using hni)
      · have hq : i = 4 ∨ i = 5 ∨ i = 6 ∨ i = 7 := by omega
        rcases hq with rfl | rfl | rfl | rfl <;> exact h3
    · obtain ⟨g, cs, z1, z2, z3, z4, z5⟩ : BoxU W1.heap.size 4 x wx := hd 4 (by kernel_rfl)
      have zv : x 0 = .agg (orc o).toArray := hd 0 (by kernel_rfl)
      refine wp_of_list rfl (wpList_store_to rfl 24 _ _ rfl g (orc o) cs 24 z1 zv z3 szOrP z4 (orc_all o) ?_)
      intro w8 e1 e2 e3 e4
      refine hK.out _ w8 (e3.mono z2) ?_ ?_
      · unfold effX
        rw [if_pos (by decide)]
        exact ⟨g, z1, e1, e2, e4⟩
      · refine ⟨g, ?_, z2, e1, ?_⟩
        · rw [upd_ne _ _ _ _ (by decide)]
          exact z1
        · intro i q1 q2 q3
          rw [upd_ne _ _ _ _ (by omega), upd_ne _ _ _ _ (by decide)]
          exact z5 i q1 q2 q3
    refine StepsZ.cons 9 (fun x i vv w1 w2 hij hni h1 h2 h3 => ?_) (fun _ _ => rfl) rfl rfl (fun x wx hb hx hd hs9 K hK => ?_) ?_
    · refine DoneU.keep (show DoneU _ _ _ _ _ from h1) (by omega) (by omega) (fun e => ?_) h2 (fun a b => ?_)
      · subst e
        exact absurd (by kernel_rfl : (clos _ _ (depsOf _ 9)).contains 5 = true) (by simpa using hni)
      · have hq : i = 4 ∨ i = 5 ∨ i = 6 ∨ i = 7 := by omega
        rcases hq with rfl | rfl | rfl | rfl <;> exact h3
    · obtain ⟨g, cs, z1, z2, z3, z4, z5⟩ : BoxU W1.heap.size 5 x wx := hd 5 (by kernel_rfl)
      have zv : x 1 = .agg (orc o).toArray := hd 1 (by kernel_rfl)
      refine wp_of_list rfl (wpList_store_to rfl 24 _ _ rfl g (orc o) cs 24 z1 zv z3 szOrP z4 (orc_all o) ?_)
      intro w8 e1 e2 e3 e4
      refine hK.out _ w8 (e3.mono z2) ?_ ?_
      · unfold effX
        rw [if_pos (by decide)]
        exact ⟨g, z1, e1, e2, e4⟩
      · refine ⟨g, ?_, z2, e1, ?_⟩
        · rw [upd_ne _ _ _ _ (by decide)]
          exact z1
        · intro i q1 q2 q3
          rw [upd_ne _ _ _ _ (by omega), upd_ne _ _ _ _ (by decide)]
          exact z5 i q1 q2 q3
    refine StepsZ.cons 10 (fun x i vv w1 w2 hij hni h1 h2 h3 => ?_) (fun _ _ => rfl) rfl rfl (fun x wx hb hx hd hs9 K hK => ?_) ?_
    · refine DoneU.keep (show DoneU _ _ _ _ _ from h1) (by omega) (by omega) (fun e => ?_) h2 (fun a b => ?_)
      · subst e
        exact absurd (by kernel_rfl : (clos _ _ (depsOf _ 10)).contains 6 = true) (by simpa using hni)
      · have hq : i = 4 ∨ i = 5 ∨ i = 6 ∨ i = 7 := by omega
        rcases hq with rfl | rfl | rfl | rfl <;> exact h3
    · obtain ⟨g, cs, z1, z2, z3, z4, z5⟩ : BoxU W1.heap.size 6 x wx := hd 6 (by kernel_rfl)
      have zv : x 2 = .agg (orc o).toArray := hd 2 (by kernel_rfl)
      refine wp_of_list rfl (wpList_store_to rfl 24 _ _ rfl g (orc o) cs 24 z1 zv z3 szOrP z4 (orc_all o) ?_)
      intro w8 e1 e2 e3 e4
      refine hK.out _ w8 (e3.mono z2) ?_ ?_
      · unfold effX
        rw [if_pos (by decide)]
        exact ⟨g, z1, e1, e2, e4⟩
      · refine ⟨g, ?_, z2, e1, ?_⟩
        · rw [upd_ne _ _ _ _ (by decide)]
          exact z1
        · intro i q1 q2 q3
          rw [upd_ne _ _ _ _ (by omega), upd_ne _ _ _ _ (by decide)]
          exact z5 i q1 q2 q3
    refine StepsZ.cons 11 (fun x i vv w1 w2 hij hni h1 h2 h3 => ?_) (fun _ _ => rfl) rfl rfl (fun x wx hb hx hd hs9 K hK => ?_) ?_
    · refine DoneU.keep (show DoneU _ _ _ _ _ from h1) (by omega) (by omega) (fun e => ?_) h2 (fun a b => ?_)
      · subst e
        exact absurd (by kernel_rfl : (clos _ _ (depsOf _ 11)).contains 7 = true) (by simpa using hni)
      · have hq : i = 4 ∨ i = 5 ∨ i = 6 ∨ i = 7 := by omega
        rcases hq with rfl | rfl | rfl | rfl <;> exact h3
    · obtain ⟨g, cs, z1, z2, z3, z4, z5⟩ : BoxU W1.heap.size 7 x wx := hd 7 (by kernel_rfl)
      have zv : x 3 = .agg (orc o).toArray := hd 3 (by kernel_rfl)
      refine wp_of_list rfl (wpList_store_to rfl 24 _ _ rfl g (orc o) cs 24 z1 zv z3 szOrP z4 (orc_all o) ?_)
      intro w8 e1 e2 e3 e4
      refine hK.out _ w8 (e3.mono z2) ?_ ?_
      · unfold effX
        rw [if_pos (by decide)]
        exact ⟨g, z1, e1, e2, e4⟩
      · refine ⟨g, ?_, z2, e1, ?_⟩
        · rw [upd_ne _ _ _ _ (by decide)]
          exact z1
        · intro i q1 q2 q3
          rw [upd_ne _ _ _ _ (by omega), upd_ne _ _ _ _ (by decide)]
          exact z5 i q1 q2 q3
    exact StepsZ.done
  case fin =>
    intro x wx hb hd
    have hv0 : x 0 = .agg (orc o).toArray := hd 0 (by omega)
    have hv1 : x 1 = .agg (orc o).toArray := hd 1 (by omega)
    have hv2 : x 2 = .agg (orc o).toArray := hd 2 (by omega)
    have hv3 : x 3 = .agg (orc o).toArray := hd 3 (by omega)
    obtain ⟨g0, p0, b0, B0, D0⟩ : DoneU W1.heap.size o 4 x wx := hd 8 (by omega)
    obtain ⟨g1, p1, b1, B1, D1⟩ : DoneU W1.heap.size o 5 x wx := hd 9 (by omega)
    obtain ⟨g2, p2, b2, B2, D2⟩ : DoneU W1.heap.size o 6 x wx := hd 10 (by omega)
    obtain ⟨g3, p3, b3, B3, D3⟩ : DoneU W1.heap.size o 7 x wx := hd 11 (by omega)
    have n01 : g0 ≠ g1 := fun e => D0 5 (by omega) (by omega) (by omega) (by rw [p0, p1, e])
    have n02 : g0 ≠ g2 := fun e => D0 6 (by omega) (by omega) (by omega) (by rw [p0, p2, e])
    have n03 : g0 ≠ g3 := fun e => D0 7 (by omega) (by omega) (by omega) (by rw [p0, p3, e])
    have n12 : g1 ≠ g2 := fun e => D1 6 (by omega) (by omega) (by omega) (by rw [p1, p2, e])
    have n13 : g1 ≠ g3 := fun e => D1 7 (by omega) (by omega) (by omega) (by rw [p1, p3, e])
    have n23 : g2 ≠ g3 := fun e => D2 7 (by omega) (by omega) (by omega) (by rw [p2, p3, e])
    have EX := Lib.hid hb
    have XB0 := Lib.hid B0
    have XB1 := Lib.hid B1
    have XB2 := Lib.hid B2
    have XB3 := Lib.hid B3
    refine AnyTill.any (S := fun _ => True) (m := 12) _ _ _ _ ?_
    refine AnyTill.done (by kernel_rfl) ?_
    refine NoPanic.normal ?_
    try dsimp only
    rw [hv0, hv1, hv2, hv3, p0, p1, p2, p3]
    clear hd hb hv0 hv1 hv2 hv3 p0 p1 p2 p3 D0 D1 D2 D3 B0 B1 B2 B3 x
    obtain ⟨W9, hW9⟩ : ∃ W, (((wx.setCell ⟨g0, 5, none⟩ (.int .i64 n)).setCell ⟨g1, 6, none⟩ (.int .i64 n)).setCell ⟨g2, 7, none⟩ (.int .i64 n)).setCell ⟨g3, 3, none⟩ (.string ⟨#[47]⟩) = W := ⟨_, rfl⟩
    have ES : Hid (Below W1.heap.size W1 W9) := by
      rw [← hW9]
      exact ((((EX.out.setCell (p := ⟨g0, 5, none⟩) b0 _).setCell (p := ⟨g1, 6, none⟩) b1 _).setCell (p := ⟨g2, 7, none⟩) b2 _).setCell (p := ⟨g3, 3, none⟩) b3 _)
    have Z0 : Hid (Blk W9 g0 (orc (withR o n)) 24) := by
      rw [← hW9]
      exact (((XB0.out.set 5 _).setOther ⟨g1, 6, none⟩ _ n01).setOther ⟨g2, 7, none⟩ _ n02).setOther ⟨g3, 3, none⟩ _ n03
    have Z1 : Hid (Blk W9 g1 (orc (withS o n)) 24) := by
      rw [← hW9]
      exact (((XB1.out.setOther ⟨g0, 5, none⟩ _ n01.symm).set 6 _).setOther ⟨g2, 7, none⟩ _ n12).setOther ⟨g3, 3, none⟩ _ n13
    have Z2 : Hid (Blk W9 g2 (orc (withT o n)) 24) := by
      rw [← hW9]
      exact (((XB2.out.setOther ⟨g0, 5, none⟩ _ n02.symm).setOther ⟨g1, 6, none⟩ _ n12.symm).set 7 _).setOther ⟨g3, 3, none⟩ _ n23
    have Z3 : Hid (Blk W9 g3 (orc (withP o [47])) 24) := by
      rw [← hW9]
      exact (((XB3.out.setOther ⟨g0, 5, none⟩ _ n03.symm).setOther ⟨g1, 6, none⟩ _ n13.symm).setOther ⟨g2, 7, none⟩ _ n23.symm).set 3 _
    have HW9 := Lib.hid hW9
    clear hW9
    have f0 := XB0.out.frozen 5
    have f1 := XB1.out.frozen 6
    have f2 := XB2.out.frozen 7
    have f3 := XB3.out.frozen 3
    have XW := Lib.hid (ZX.out.below EX.out ZX.out.lt)
    have c_XW_0 := XW.out.at_ 0 _ rfl
    have c_XW_1 := XW.out.at_ 1 _ rfl
    have c_XW_2 := XW.out.at_ 2 _ rfl
    have c_XW_3 := XW.out.at_ 3 _ rfl
    have c_XW_4 := XW.out.at_ 4 _ rfl
    have c_XW_5 := XW.out.at_ 5 _ rfl
    have c_XW_6 := XW.out.at_ 6 _ rfl
    have c_XW_7 := XW.out.at_ 7 _ rfl
    have c_XB0_0 := XB0.out.at_ 0 _ rfl
    have c_XB0_1 := XB0.out.at_ 1 _ rfl
    have c_XB0_2 := XB0.out.at_ 2 _ rfl
    have c_XB0_3 := XB0.out.at_ 3 _ rfl
    have c_XB0_4 := XB0.out.at_ 4 _ rfl
    have c_XB0_5 := XB0.out.at_ 5 _ rfl
    have c_XB0_6 := XB0.out.at_ 6 _ rfl
    have c_XB0_7 := XB0.out.at_ 7 _ rfl
    have c_XB1_0 := XB1.out.at_ 0 _ rfl
    have c_XB1_1 := XB1.out.at_ 1 _ rfl
    have c_XB1_2 := XB1.out.at_ 2 _ rfl
    have c_XB1_3 := XB1.out.at_ 3 _ rfl
    have c_XB1_4 := XB1.out.at_ 4 _ rfl
    have c_XB1_5 := XB1.out.at_ 5 _ rfl
    have c_XB1_6 := XB1.out.at_ 6 _ rfl
    have c_XB1_7 := XB1.out.at_ 7 _ rfl
    have c_XB2_0 := XB2.out.at_ 0 _ rfl
    have c_XB2_1 := XB2.out.at_ 1 _ rfl
    have c_XB2_2 := XB2.out.at_ 2 _ rfl
    have c_XB2_3 := XB2.out.at_ 3 _ rfl
    have c_XB2_4 := XB2.out.at_ 4 _ rfl
    have c_XB2_5 := XB2.out.at_ 5 _ rfl
    have c_XB2_6 := XB2.out.at_ 6 _ rfl
    have c_XB2_7 := XB2.out.at_ 7 _ rfl
    have c_XB3_0 := XB3.out.at_ 0 _ rfl
    have c_XB3_1 := XB3.out.at_ 1 _ rfl
    have c_XB3_2 := XB3.out.at_ 2 _ rfl
    have c_XB3_3 := XB3.out.at_ 3 _ rfl
    have c_XB3_4 := XB3.out.at_ 4 _ rfl
    have c_XB3_5 := XB3.out.at_ 5 _ rfl
    have c_XB3_6 := XB3.out.at_ 6 _ rfl
    have c_XB3_7 := XB3.out.at_ 7 _ rfl
    have hkk : oK o = 0 ∨ oK o = 1 ∨ oK o = 2 ∨ oK o = 3 ∨ oK o = 4 ∨ oK o = 5 ∨ oK o = 6 ∨ oK o = 7 ∨ oK o = 8 ∨ oK o = 9 ∨ oK o = 10 ∨ oK o = 11 := HKK.out
    obtain ⟨m0, m1, m2, m3⟩ := HW.out
    clear HW HKK
    rcases hkk with e | e | e | e | e | e | e | e | e | e | e | e <;> (
      rw [e] at m0 m1 m2 m3 c_XW_2
      clear e
      simp at m0 m1 m2 m3
      go_wp2_with fail
      rw [show (((wx.setCell ⟨g0, 5, none⟩ (.int .i64 n)).setCell ⟨g1, 6, none⟩ (.int .i64 n)).setCell ⟨g2, 7, none⟩ (.int .i64 n)).setCell ⟨g3, 3, none⟩ (.string ⟨#[47]⟩) = W9 from HW9.out]
      clear f0 f1 f2 f3 c_XW_0 c_XW_1 c_XW_2 c_XW_3 c_XW_4 c_XW_5 c_XW_6 c_XW_7 c_XB0_0 c_XB0_1 c_XB0_2 c_XB0_3 c_XB0_4 c_XB0_5 c_XB0_6 c_XB0_7 c_XB1_0 c_XB1_1 c_XB1_2 c_XB1_3 c_XB1_4 c_XB1_5 c_XB1_6 c_XB1_7 c_XB2_0 c_XB2_1 c_XB2_2 c_XB2_3 c_XB2_4 c_XB2_5 c_XB2_6 c_XB2_7 c_XB3_0 c_XB3_1 c_XB3_2 c_XB3_3 c_XB3_4 c_XB3_5 c_XB3_6 c_XB3_7
      clear XB0 XB1 XB2 XB3 XW HW9 EX b0 b1 b2 b3 n01 n02 n03 n12 n13 n23
      have P2_w := Lib.hid (P1_w.out.trans (ES.out.mono P1_w.out.size))
      clear P1_w
      have P2_y0 := Lib.hid (E1.out.trans (ES.out.mono E1.out.size))
      refine (alive12 W9).mono ?_
      rintro e W3 ⟨rfl, hb⟩
      have E3 := Lib.hid hb
      clear hb
      have P3_w := Lib.hid (P2_w.out.trans (E3.out.mono P2_w.out.size))
      clear P2_w
      have P3_y0 := Lib.hid (P2_y0.out.trans (E3.out.mono P2_y0.out.size))
      clear P2_y0
      have P3_W1 := Lib.hid (ES.out.trans (E3.out.mono ES.out.size))
      have c_Z0 := (Z0.out.below E3.out Z0.out.lt).at_ 0 _ rfl
      have c_Z0_1 := (Z0.out.below E3.out Z0.out.lt).at_ 1 _ rfl
      have c_Z0_2 := (Z0.out.below E3.out Z0.out.lt).at_ 2 _ rfl
      have c_Z0_3 := (Z0.out.below E3.out Z0.out.lt).at_ 3 _ rfl
      have c_Z0_4 := (Z0.out.below E3.out Z0.out.lt).at_ 4 _ rfl
      have c_Z0_5 := (Z0.out.below E3.out Z0.out.lt).at_ 5 _ rfl
      have c_Z0_6 := (Z0.out.below E3.out Z0.out.lt).at_ 6 _ rfl
      have c_Z0_7 := (Z0.out.below E3.out Z0.out.lt).at_ 7 _ rfl
      go_wp2_with fail
      refine (orMay_any (withR o n) W3).mono ?_
      rintro e W4 ⟨rfl, hb⟩
      have E4 := Lib.hid hb
      clear hb c_Z0 c_Z0_1 c_Z0_2 c_Z0_3 c_Z0_4 c_Z0_5 c_Z0_6 c_Z0_7
      have P4_w := Lib.hid (P3_w.out.trans (E4.out.mono P3_w.out.size))
      clear P3_w
      have P4_y0 := Lib.hid (P3_y0.out.trans (E4.out.mono P3_y0.out.size))
      clear P3_y0
      have P4_W1 := Lib.hid (P3_W1.out.trans (E4.out.mono P3_W1.out.size))
      clear P3_W1
      have P4_W9 := Lib.hid (E3.out.trans (E4.out.mono E3.out.size))
      rw [m0]
      have c_Z1 := (Z1.out.below P4_W9.out Z1.out.lt).at_ 0 _ rfl
      have c_Z1_1 := (Z1.out.below P4_W9.out Z1.out.lt).at_ 1 _ rfl
      have c_Z1_2 := (Z1.out.below P4_W9.out Z1.out.lt).at_ 2 _ rfl
      have c_Z1_3 := (Z1.out.below P4_W9.out Z1.out.lt).at_ 3 _ rfl
      have c_Z1_4 := (Z1.out.below P4_W9.out Z1.out.lt).at_ 4 _ rfl
      have c_Z1_5 := (Z1.out.below P4_W9.out Z1.out.lt).at_ 5 _ rfl
      have c_Z1_6 := (Z1.out.below P4_W9.out Z1.out.lt).at_ 6 _ rfl
      have c_Z1_7 := (Z1.out.below P4_W9.out Z1.out.lt).at_ 7 _ rfl
      go_wp2_with fail
      refine (orMay_any (withS o n) W4).mono ?_
      rintro e W5 ⟨rfl, hb⟩
      have E5 := Lib.hid hb
      clear hb c_Z1 c_Z1_1 c_Z1_2 c_Z1_3 c_Z1_4 c_Z1_5 c_Z1_6 c_Z1_7
      have P5_w := Lib.hid (P4_w.out.trans (E5.out.mono P4_w.out.size))
      clear P4_w
      have P5_y0 := Lib.hid (P4_y0.out.trans (E5.out.mono P4_y0.out.size))
      clear P4_y0
      have P5_W1 := Lib.hid (P4_W1.out.trans (E5.out.mono P4_W1.out.size))
      clear P4_W1
      have P5_W9 := Lib.hid (P4_W9.out.trans (E5.out.mono P4_W9.out.size))
      clear P4_W9
      have P5_W3 := Lib.hid (E4.out.trans (E5.out.mono E4.out.size))
      rw [m1]
      have c_Z2 := (Z2.out.below P5_W9.out Z2.out.lt).at_ 0 _ rfl
      have c_Z2_1 := (Z2.out.below P5_W9.out Z2.out.lt).at_ 1 _ rfl
      have c_Z2_2 := (Z2.out.below P5_W9.out Z2.out.lt).at_ 2 _ rfl
      have c_Z2_3 := (Z2.out.below P5_W9.out Z2.out.lt).at_ 3 _ rfl
      have c_Z2_4 := (Z2.out.below P5_W9.out Z2.out.lt).at_ 4 _ rfl
      have c_Z2_5 := (Z2.out.below P5_W9.out Z2.out.lt).at_ 5 _ rfl
      have c_Z2_6 := (Z2.out.below P5_W9.out Z2.out.lt).at_ 6 _ rfl
      have c_Z2_7 := (Z2.out.below P5_W9.out Z2.out.lt).at_ 7 _ rfl
      go_wp2_with fail
      refine (orMay_any (withT o n) W5).mono ?_
      rintro e W6 ⟨rfl, hb⟩
      have E6 := Lib.hid hb
      clear hb c_Z2 c_Z2_1 c_Z2_2 c_Z2_3 c_Z2_4 c_Z2_5 c_Z2_6 c_Z2_7
      have P6_w := Lib.hid (P5_w.out.trans (E6.out.mono P5_w.out.size))
      clear P5_w
      have P6_y0 := Lib.hid (P5_y0.out.trans (E6.out.mono P5_y0.out.size))
      clear P5_y0
      have P6_W1 := Lib.hid (P5_W1.out.trans (E6.out.mono P5_W1.out.size))
      clear P5_W1
      have P6_W9 := Lib.hid (P5_W9.out.trans (E6.out.mono P5_W9.out.size))
      clear P5_W9
      have P6_W3 := Lib.hid (P5_W3.out.trans (E6.out.mono P5_W3.out.size))
      clear P5_W3
      have P6_W4 := Lib.hid (E5.out.trans (E6.out.mono E5.out.size))
      rw [m2]
      have c_Z3 := (Z3.out.below P6_W9.out Z3.out.lt).at_ 0 _ rfl
      have c_Z3_1 := (Z3.out.below P6_W9.out Z3.out.lt).at_ 1 _ rfl
      have c_Z3_2 := (Z3.out.below P6_W9.out Z3.out.lt).at_ 2 _ rfl
      have c_Z3_3 := (Z3.out.below P6_W9.out Z3.out.lt).at_ 3 _ rfl
      have c_Z3_4 := (Z3.out.below P6_W9.out Z3.out.lt).at_ 4 _ rfl
      have c_Z3_5 := (Z3.out.below P6_W9.out Z3.out.lt).at_ 5 _ rfl
      have c_Z3_6 := (Z3.out.below P6_W9.out Z3.out.lt).at_ 6 _ rfl
      have c_Z3_7 := (Z3.out.below P6_W9.out Z3.out.lt).at_ 7 _ rfl
      go_wp2_with fail
      refine (orMay_any (withP o [47]) W6).mono ?_
      rintro e W7 ⟨rfl, hb⟩
      have E7 := Lib.hid hb
      clear hb c_Z3 c_Z3_1 c_Z3_2 c_Z3_3 c_Z3_4 c_Z3_5 c_Z3_6 c_Z3_7
      have P7_w := Lib.hid (P6_w.out.trans (E7.out.mono P6_w.out.size))
      clear P6_w
      have P7_y0 := Lib.hid (P6_y0.out.trans (E7.out.mono P6_y0.out.size))
      clear P6_y0
      have P7_W1 := Lib.hid (P6_W1.out.trans (E7.out.mono P6_W1.out.size))
      clear P6_W1
      have P7_W9 := Lib.hid (P6_W9.out.trans (E7.out.mono P6_W9.out.size))
      clear P6_W9
      have P7_W3 := Lib.hid (P6_W3.out.trans (E7.out.mono P6_W3.out.size))
      clear P6_W3
      have P7_W4 := Lib.hid (P6_W4.out.trans (E7.out.mono P6_W4.out.size))
      clear P6_W4
      have P7_W5 := Lib.hid (E6.out.trans (E7.out.mono E6.out.size))
      rw [m3]
      go_wp2
      go_ret
      exact ⟨rfl, P7_w.out⟩)
end Go.Proofs.Ytmlpiembglmggaa
