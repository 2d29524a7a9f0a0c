/-
  The statements on shelves: ShelfMay.
-/
import Derived.Test.YtlpakfaoaodaiaaDoorTB
import Derived.Test.YtlpakfaoaodaiaaDoorGR
namespace Go.Proofs.YtlpakfaoaodaiaaDoor
open Go.RowKit
theorem shRightIs (l : List Nd) (b : Bool) (h : rightN l = b) (v : Value) (w : World) (hr : RdNd w.heap.size w v l) : Calls Tryd.prog 11 #[.agg #[v]] w (One (.bool b) w) := by
  rw [← h]
  exact shRight_any l v w hr
theorem rfRightIs (l : List Nd) (b : Bool) (h : rightN l = b) (v : Value) (w : World) (hr : RdNd w.heap.size w v l) : Calls Tryd.prog 12 #[.agg #[v]] w (One (.bool b) w) := by
  rw [← h]
  exact rfRightN_any l v w hr
theorem shSameIs (l m : List Nd) (b : Bool) (h : decide (l = m) = b) (v u : Value) (w : World) (hr : RdNd w.heap.size w v l) (hr2 : RdNd w.heap.size w u m) : Calls Tryd.prog 14 #[.agg #[v], .agg #[u]] w (One (.bool b) w) := by
  rw [← h]
  exact shSame_any l m v u w hr hr2
theorem rfSameIs (l m : List Nd) (b : Bool) (h : decide (l = m) = b) (v u : Value) (w : World) (hr : RdNd w.heap.size w v l) (hr2 : RdNd w.heap.size w u m) : Calls Tryd.prog 15 #[.agg #[v], .agg #[u]] w (One (.bool b) w) := by
  rw [← h]
  exact rfSame_any l m v u w hr hr2

set_option maxRecDepth 1000000 in
set_option maxHeartbeats 16000000 in
theorem may_all (v : Value) (l : List Nd) (v' : Value) (m : List Nd) (w : World) (hr : RdNd w.heap.size w v l) (_hb : ∀ n ∈ l, fitI (nR n) ∧ fitI (nO n)) (hr' : RdNd w.heap.size w v' m) (_hb' : ∀ n ∈ m, fitI (nR n) ∧ fitI (nO n)) : Calls Tryd.prog 3 #[.agg #[v], .agg #[v']] w (One (.bool true) w) := by
  clear _hb _hb'
  have HR := Lib.hid hr
  have HS := Lib.hid hr'
  obtain ⟨RL, hRL⟩ : ∃ b, rightN l = b := ⟨_, rfl⟩
  obtain ⟨SM, hSM⟩ : ∃ b, decide (l = m) = b := ⟨_, rfl⟩
  have HRL := Lib.hid hRL
  have HSM := Lib.hid hSM
  clear hr hr' hRL hSM
  go_enter Tryd.func3, Tryd.ntmps3
  go_wp2_with (refine wpList_box_blk rfl 24 _ rfl [v] rfl ?_)
  intro y0 b1 b2 b3
  obtain ⟨gb0, hg⟩ : ∃ g, w.heap.size = g := ⟨_, rfl⟩
  have X0 := Lib.hid b1
  have EB0 := Lib.hid b3
  rw [hg] at X0 ⊢
  clear b1 b2 b3 hg
  go_wp2_with (refine wpList_box_blk rfl 24 _ rfl [v'] rfl ?_)
  intro y1 b1 b2 b3
  obtain ⟨gb1, hg⟩ : ∃ g, y0.heap.size = g := ⟨_, rfl⟩
  have X1 := Lib.hid b1
  have EB1 := Lib.hid b3
  rw [hg] at X1 ⊢
  clear b1 b2 b3 hg
  have P0_w := Lib.hid (EB0.out.trans (EB1.out.mono EB0.out.size))
  have c_X0 := (X0.out.below EB1.out X0.out.lt).cell 0
  go_wp2_with fail
  refine (few_any l v y1 ((HR.out.below P0_w.out).more P0_w.out.size)).mono ?_
  rintro e W1 ⟨rfl, hb⟩
  have E1 := Lib.hid hb
  clear hb c_X0
  have P1_w := Lib.hid (P0_w.out.trans (E1.out.mono P0_w.out.size))
  clear P0_w
  have P1_y0 := Lib.hid (EB1.out.trans (E1.out.mono EB1.out.size))
  cases hF : fewN l
  · clear hF
    go_wp2_with fail
    refine (alive9 W1).mono ?_
    rintro e W2 ⟨rfl, hb⟩
    have E2 := Lib.hid hb
    clear hb
    have P2_w := Lib.hid (P1_w.out.trans (E2.out.mono P1_w.out.size))
    clear P1_w
    have P2_y0 := Lib.hid (P1_y0.out.trans (E2.out.mono P1_y0.out.size))
    clear P1_y0
    have P2_y1 := Lib.hid (E1.out.trans (E2.out.mono E1.out.size))
    go_wp2
    go_ret
    exact ⟨rfl, P2_w.out⟩
  have HL := Lib.hid (few_len l hF)
  clear hF
  have c_X1 := (X1.out.below E1.out X1.out.lt).cell 0
  go_wp2_with fail
  refine (few_any m v' W1 ((HS.out.below P1_w.out).more P1_w.out.size)).mono ?_
  rintro e W2 ⟨rfl, hb⟩
  have E2 := Lib.hid hb
  clear hb c_X1
  have P2_w := Lib.hid (P1_w.out.trans (E2.out.mono P1_w.out.size))
  clear P1_w
  have P2_y0 := Lib.hid (P1_y0.out.trans (E2.out.mono P1_y0.out.size))
  clear P1_y0
  have P2_y1 := Lib.hid (E1.out.trans (E2.out.mono E1.out.size))
  cases hF : fewN m
  · clear hF
    go_wp2_with fail
    refine (alive9 W2).mono ?_
    rintro e W3 ⟨rfl, hb⟩
    have E3 := Lib.hid hb
    clear hb
    have P3_w := Lib.hid (P2_w.out.trans (E3.out.mono P2_w.out.size))
    clear P2_w
    have P3_y0 := Lib.hid (P2_y0.out.trans (E3.out.mono P2_y0.out.size))
    clear P2_y0
    have P3_y1 := Lib.hid (P2_y1.out.trans (E3.out.mono P2_y1.out.size))
    clear P2_y1
    have P3_W1 := Lib.hid (E2.out.trans (E3.out.mono E2.out.size))
    go_wp2
    go_ret
    exact ⟨rfl, P3_w.out⟩
  have HM := Lib.hid (few_len m hF)
  clear hF
  go_wp2
  have ZX0 := Lib.hid (X0.out.below P2_y0.out X0.out.lt)
  have ZX1 := Lib.hid (X1.out.below P2_y1.out X1.out.lt)
  have ZHR := Lib.hid ((HR.out.below P2_w.out).more P2_w.out.size)
  have ZHS := Lib.hid ((HS.out.below P2_w.out).more P2_w.out.size)
  refine wp_region_rely2 27 0 (fun x => ⟨#[.agg #[v], .agg #[v'], .pointer (some { block := gb0, off := 0 }), .pointer (some { block := gb1, off := 0 }), x 26, .agg #[v], .bool true, .bool false, .bool false, .agg #[v'], .bool true, .bool false, .bool false, undef, x 0, x 1, x 2, x 3, x 4, x 5, x 6, x 7, x 8, x 9, x 10, x 11, x 12, x 13, x 14, x 15, x 16, x 17, x 18, x 19, x 20, x 21, x 22, x 23, x 24, x 25], []⟩) (fun jj => ([(eqV (.bool true)), eqV (.bool true), eqV (.agg #[v]), (eqV (.bool RL)), eqV (.agg #[v]), (PlainP l), (eqV (.bool RL)), eqV (.bool true), eqV (.bool true), eqV (.bool true), eqV (.agg #[v]), eqV (.agg #[v']), (eqV (.bool SM)), eqV (.agg #[v]), (PlainP l), eqV (.agg #[v']), (PlainP m), (eqV (.bool SM)), eqV (.bool true), eqV (.bool true), eqV (.bool true), (PlainP [rootN]), (PlainP [rootN]), (PlainP [rootN]), (eqV (.bool true)), eqV (.bool true), eqV (.bool true)] : List (Value → World → Prop)).getD jj (fun _ _ => True)) rfl ⟨fun kk => [_, _, _, _, _, _, _, _, _, _, _, _, _, _, _, _, _, _, _, _, _, _, _, _, _, _, _].getD kk undef, rfl⟩ (by kernel_rfl) (by kernel_rfl) ?steps ?fin
  case steps =>
    refine StepsAt.cons 0 (fun _ _ _ h hb => h) (fun _ _ => rfl) rfl rfl (fun x wx hb hd K hK => ?_) ?_
    · go_simp
      refine (alive9 _).mono ?_
      rintro e w99 ⟨rfl, hb99⟩
      exact hK.out _ _ hb99 rfl
    refine StepsAt.val 1 (.bool true) rfl (fun _ _ => rfl) rfl rfl (fun x wx hb hd => ?_) ?_
    · have h0 : x 0 = .bool true := hd 0 (by kernel_rfl)
      rw [h0]
      first | (go_simp; done) | (go_simp; rfl)
    refine StepsAt.valG 2 (.agg #[v]) rfl (fun _ _ => rfl) rfl (fun x wx hd => ?_) (fun x wx hb hd => ?_) ?_
    · have hG : x 1 = .bool true := hd 1 (by kernel_rfl)
      simp [Region.wanted, yielded, hG]
    · have cc := ((ZX0.out.below hb ZX0.out.lt).cell 0).trans (show _ = some (v) from rfl)
      first | (go_simp; done) | (go_simp; rfl)
    refine StepsAt.consG 3 (fun _ _ _ h hb => h) (fun _ _ => rfl) rfl (fun x wx hd => ?_) (fun x wx hb hd K hK => ?_) ?_
    · have hG : x 1 = .bool true := hd 1 (by kernel_rfl)
      simp [Region.wanted, yielded, hG]
    · have h2 : Hid (x 2 = .agg #[v]) := hd 2 (by kernel_rfl)
      go_simp
      refine calls_args (args2 := #[.agg #[v]]) (by rw [h2.out]) ?_
      refine (shRightIs l RL HRL.out v _ ((ZHR.out.below hb).more hb.size)).mono ?_
      rintro e w99 ⟨rfl, hb99⟩
      exact hK.out _ _ hb99 rfl
    refine StepsAt.valG 4 (.agg #[v]) rfl (fun _ _ => rfl) rfl (fun x wx hd => ?_) (fun x wx hb hd => ?_) ?_
    · have hG : x 1 = .bool true := hd 1 (by kernel_rfl)
      simp [Region.wanted, yielded, hG]
    · have cc := ((ZX0.out.below hb ZX0.out.lt).cell 0).trans (show _ = some (v) from rfl)
      first | (go_simp; done) | (go_simp; rfl)
    refine StepsAt.consG 5 (fun _ _ _ h hb => h.keep hb) (fun _ _ => rfl) rfl (fun x wx hd => ?_) (fun x wx hb hd K hK => ?_) ?_
    · have hG : x 1 = .bool true := hd 1 (by kernel_rfl)
      simp [Region.wanted, yielded, hG]
    · have h4 : Hid (x 4 = .agg #[v]) := hd 4 (by kernel_rfl)
      go_simp
      refine calls_args (args2 := #[.agg #[v]]) (by rw [h4.out]) ?_
      refine (plain_any l v _ ((ZHR.out.below hb).more hb.size) (by have := HL.out; omega)).mono ?_
      rintro e w99 ⟨v99, rfl, hrd, hb99⟩
      exact hK.out _ _ hb99 ⟨v99, rfl, hrd⟩
    refine StepsAt.consG 6 (fun _ _ _ h hb => h) (fun _ _ => rfl) rfl (fun x wx hd => ?_) (fun x wx hb hd K hK => ?_) ?_
    · have hG : x 1 = .bool true := hd 1 (by kernel_rfl)
      simp [Region.wanted, yielded, hG]
    · have h5 : PlainP l (x 5) wx := hd 5 (by kernel_rfl)
      go_simp
      obtain ⟨v99, hv99, hr99⟩ := h5
      refine calls_args (args2 := #[.agg #[v99]]) (by rw [hv99]) ?_
      refine (rfRightIs l RL HRL.out v99 _ hr99).mono ?_
      rintro e w99 ⟨rfl, hb99⟩
      exact hK.out _ _ hb99 rfl
    refine StepsAt.valG 7 (.bool true) rfl (fun _ _ => rfl) rfl (fun x wx hd => ?_) (fun x wx hb hd => ?_) ?_
    · have hG : x 1 = .bool true := hd 1 (by kernel_rfl)
      simp [Region.wanted, yielded, hG]
    · have h3 : x 3 = .bool RL := hd 3 (by kernel_rfl)
      have h6 : x 6 = .bool RL := hd 6 (by kernel_rfl)
      rw [h3, h6]
      first | (go_simp; done) | (go_simp; rfl) | (go_simp; simp)
    refine StepsAt.val 8 (.bool true) rfl (fun _ _ => rfl) rfl rfl (fun x wx hb hd => ?_) ?_
    · have h1 : x 1 = .bool true := hd 1 (by kernel_rfl)
      have h7 : x 7 = .bool true := hd 7 (by kernel_rfl)
      rw [h1, h7]
      first | (go_simp; done) | (go_simp; rfl)
    refine StepsAt.val 9 (.bool true) rfl (fun _ _ => rfl) rfl rfl (fun x wx hb hd => ?_) ?_
    · have h8 : x 8 = .bool true := hd 8 (by kernel_rfl)
      rw [h8]
      first | (go_simp; done) | (go_simp; rfl)
    refine StepsAt.valG 10 (.agg #[v]) rfl (fun _ _ => rfl) rfl (fun x wx hd => ?_) (fun x wx hb hd => ?_) ?_
    · have hG : x 9 = .bool true := hd 9 (by kernel_rfl)
      simp [Region.wanted, yielded, hG]
    · have cc := ((ZX0.out.below hb ZX0.out.lt).cell 0).trans (show _ = some (v) from rfl)
      first | (go_simp; done) | (go_simp; rfl)
    refine StepsAt.valG 11 (.agg #[v']) rfl (fun _ _ => rfl) rfl (fun x wx hd => ?_) (fun x wx hb hd => ?_) ?_
    · have hG : x 9 = .bool true := hd 9 (by kernel_rfl)
      simp [Region.wanted, yielded, hG]
    · have cc := ((ZX1.out.below hb ZX1.out.lt).cell 0).trans (show _ = some (v') from rfl)
      first | (go_simp; done) | (go_simp; rfl)
    refine StepsAt.consG 12 (fun _ _ _ h hb => h) (fun _ _ => rfl) rfl (fun x wx hd => ?_) (fun x wx hb hd K hK => ?_) ?_
    · have hG : x 9 = .bool true := hd 9 (by kernel_rfl)
      simp [Region.wanted, yielded, hG]
    · have h10 : Hid (x 10 = .agg #[v]) := hd 10 (by kernel_rfl)
      have h11 : Hid (x 11 = .agg #[v']) := hd 11 (by kernel_rfl)
      go_simp
      refine calls_args (args2 := #[.agg #[v], .agg #[v']]) (by rw [h10.out, h11.out]) ?_
      refine (shSameIs l m SM HSM.out v v' _ ((ZHR.out.below hb).more hb.size) ((ZHS.out.below hb).more hb.size)).mono ?_
      rintro e w99 ⟨rfl, hb99⟩
      exact hK.out _ _ hb99 rfl
    refine StepsAt.valG 13 (.agg #[v]) rfl (fun _ _ => rfl) rfl (fun x wx hd => ?_) (fun x wx hb hd => ?_) ?_
    · have hG : x 9 = .bool true := hd 9 (by kernel_rfl)
      simp [Region.wanted, yielded, hG]
    · have cc := ((ZX0.out.below hb ZX0.out.lt).cell 0).trans (show _ = some (v) from rfl)
      first | (go_simp; done) | (go_simp; rfl)
    refine StepsAt.consG 14 (fun _ _ _ h hb => h.keep hb) (fun _ _ => rfl) rfl (fun x wx hd => ?_) (fun x wx hb hd K hK => ?_) ?_
    · have hG : x 9 = .bool true := hd 9 (by kernel_rfl)
      simp [Region.wanted, yielded, hG]
    · have h13 : Hid (x 13 = .agg #[v]) := hd 13 (by kernel_rfl)
      go_simp
      refine calls_args (args2 := #[.agg #[v]]) (by rw [h13.out]) ?_
      refine (plain_any l v _ ((ZHR.out.below hb).more hb.size) (by have := HL.out; omega)).mono ?_
      rintro e w99 ⟨v99, rfl, hrd, hb99⟩
      exact hK.out _ _ hb99 ⟨v99, rfl, hrd⟩
    refine StepsAt.valG 15 (.agg #[v']) rfl (fun _ _ => rfl) rfl (fun x wx hd => ?_) (fun x wx hb hd => ?_) ?_
    · have hG : x 9 = .bool true := hd 9 (by kernel_rfl)
      simp [Region.wanted, yielded, hG]
    · have cc := ((ZX1.out.below hb ZX1.out.lt).cell 0).trans (show _ = some (v') from rfl)
      first | (go_simp; done) | (go_simp; rfl)
    refine StepsAt.consG 16 (fun _ _ _ h hb => h.keep hb) (fun _ _ => rfl) rfl (fun x wx hd => ?_) (fun x wx hb hd K hK => ?_) ?_
    · have hG : x 9 = .bool true := hd 9 (by kernel_rfl)
      simp [Region.wanted, yielded, hG]
    · have h15 : Hid (x 15 = .agg #[v']) := hd 15 (by kernel_rfl)
      go_simp
      refine calls_args (args2 := #[.agg #[v']]) (by rw [h15.out]) ?_
      refine (plain_any m v' _ ((ZHS.out.below hb).more hb.size) (by have := HM.out; omega)).mono ?_
      rintro e w99 ⟨v99, rfl, hrd, hb99⟩
      exact hK.out _ _ hb99 ⟨v99, rfl, hrd⟩
    refine StepsAt.consG 17 (fun _ _ _ h hb => h) (fun _ _ => rfl) rfl (fun x wx hd => ?_) (fun x wx hb hd K hK => ?_) ?_
    · have hG : x 9 = .bool true := hd 9 (by kernel_rfl)
      simp [Region.wanted, yielded, hG]
    · have h14 : PlainP l (x 14) wx := hd 14 (by kernel_rfl)
      have h16 : PlainP m (x 16) wx := hd 16 (by kernel_rfl)
      go_simp
      obtain ⟨v98, hv98, hr98⟩ := h14
      obtain ⟨v99, hv99, hr99⟩ := h16
      refine calls_args (args2 := #[.agg #[v98], .agg #[v99]]) (by rw [hv98, hv99]) ?_
      refine (rfSameIs l m SM HSM.out v98 v99 _ hr98 hr99).mono ?_
      rintro e w99 ⟨rfl, hb99⟩
      exact hK.out _ _ hb99 rfl
    refine StepsAt.valG 18 (.bool true) rfl (fun _ _ => rfl) rfl (fun x wx hd => ?_) (fun x wx hb hd => ?_) ?_
    · have hG : x 9 = .bool true := hd 9 (by kernel_rfl)
      simp [Region.wanted, yielded, hG]
    · have h12 : x 12 = .bool SM := hd 12 (by kernel_rfl)
      have h17 : x 17 = .bool SM := hd 17 (by kernel_rfl)
      rw [h12, h17]
      first | (go_simp; done) | (go_simp; rfl) | (go_simp; simp)
    refine StepsAt.val 19 (.bool true) rfl (fun _ _ => rfl) rfl rfl (fun x wx hb hd => ?_) ?_
    · have h9 : x 9 = .bool true := hd 9 (by kernel_rfl)
      have h18 : x 18 = .bool true := hd 18 (by kernel_rfl)
      rw [h9, h18]
      first | (go_simp; done) | (go_simp; rfl)
    refine StepsAt.val 20 (.bool true) rfl (fun _ _ => rfl) rfl rfl (fun x wx hb hd => ?_) ?_
    · have h19 : x 19 = .bool true := hd 19 (by kernel_rfl)
      rw [h19]
      first | (go_simp; done) | (go_simp; rfl)
    refine StepsAt.consG 21 (fun _ _ _ h hb => h.keep hb) (fun _ _ => rfl) rfl (fun x wx hd => ?_) (fun x wx hb hd K hK => ?_) ?_
    · have hG : x 20 = .bool true := hd 20 (by kernel_rfl)
      simp [Region.wanted, yielded, hG]
    · go_simp
      refine (shNew_any _).mono ?_
      rintro e w99 ⟨v99, rfl, hrd, hb99⟩
      exact hK.out _ _ hb99 ⟨v99, rfl, hrd⟩
    refine StepsAt.consG 22 (fun _ _ _ h hb => h.keep hb) (fun _ _ => rfl) rfl (fun x wx hd => ?_) (fun x wx hb hd K hK => ?_) ?_
    · have hG : x 20 = .bool true := hd 20 (by kernel_rfl)
      simp [Region.wanted, yielded, hG]
    · have h21 : PlainP [rootN] (x 21) wx := hd 21 (by kernel_rfl)
      go_simp
      obtain ⟨v98, hv98, hr98⟩ := h21
      refine calls_args (args2 := #[.agg #[v98]]) (by rw [hv98]) ?_
      refine (plain_any [rootN] v98 _ hr98 (by decide)).mono ?_
      rintro e w99 ⟨v99, rfl, hrd, hb99⟩
      exact hK.out _ _ hb99 ⟨v99, rfl, hrd⟩
    refine StepsAt.consG 23 (fun _ _ _ h hb => h.keep hb) (fun _ _ => rfl) rfl (fun x wx hd => ?_) (fun x wx hb hd K hK => ?_) ?_
    · have hG : x 20 = .bool true := hd 20 (by kernel_rfl)
      simp [Region.wanted, yielded, hG]
    · go_simp
      refine (rfNew_any _).mono ?_
      rintro e w99 ⟨v99, rfl, hrd, hb99⟩
      exact hK.out _ _ hb99 ⟨v99, rfl, hrd⟩
    refine StepsAt.consG 24 (fun _ _ _ h hb => h) (fun _ _ => rfl) rfl (fun x wx hd => ?_) (fun x wx hb hd K hK => ?_) ?_
    · have hG : x 20 = .bool true := hd 20 (by kernel_rfl)
      simp [Region.wanted, yielded, hG]
    · have h22 : PlainP [rootN] (x 22) wx := hd 22 (by kernel_rfl)
      have h23 : PlainP [rootN] (x 23) wx := hd 23 (by kernel_rfl)
      go_simp
      obtain ⟨v98, hv98, hr98⟩ := h22
      obtain ⟨v99, hv99, hr99⟩ := h23
      refine calls_args (args2 := #[.agg #[v98], .agg #[v99]]) (by rw [hv98, hv99]) ?_
      refine (rfSame_yes [rootN] v98 v99 _ hr98 hr99).mono ?_
      rintro e w99 ⟨rfl, hb99⟩
      exact hK.out _ _ hb99 rfl
    refine StepsAt.val 25 (.bool true) rfl (fun _ _ => rfl) rfl rfl (fun x wx hb hd => ?_) ?_
    · have h20 : x 20 = .bool true := hd 20 (by kernel_rfl)
      have h24 : x 24 = .bool true := hd 24 (by kernel_rfl)
      rw [h20, h24]
      first | (go_simp; done) | (go_simp; rfl)
    refine StepsAt.val 26 (.bool true) rfl (fun _ _ => rfl) rfl rfl (fun x wx hb hd => ?_) ?_
    · have h25 : x 25 = .bool true := hd 25 (by kernel_rfl)
      rw [h25]
      first | (go_simp; done) | (go_simp; rfl)
    exact StepsAt.done
  case fin =>
    intro x wx hb hd
    have hx0 : x 0 = .bool true := hd 0 (by omega)
    have hx1 : x 1 = .bool true := hd 1 (by omega)
    have hx2 : x 2 = .agg #[v] := hd 2 (by omega)
    have hx3 : x 3 = .bool RL := hd 3 (by omega)
    have hx4 : x 4 = .agg #[v] := hd 4 (by omega)
    have hx6 : x 6 = .bool RL := hd 6 (by omega)
    have hx7 : x 7 = .bool true := hd 7 (by omega)
    have hx8 : x 8 = .bool true := hd 8 (by omega)
    have hx9 : x 9 = .bool true := hd 9 (by omega)
    have hx10 : x 10 = .agg #[v] := hd 10 (by omega)
    have hx11 : x 11 = .agg #[v'] := hd 11 (by omega)
    have hx12 : x 12 = .bool SM := hd 12 (by omega)
    have hx13 : x 13 = .agg #[v] := hd 13 (by omega)
    have hx15 : x 15 = .agg #[v'] := hd 15 (by omega)
    have hx17 : x 17 = .bool SM := hd 17 (by omega)
    have hx18 : x 18 = .bool true := hd 18 (by omega)
    have hx19 : x 19 = .bool true := hd 19 (by omega)
    have hx20 : x 20 = .bool true := hd 20 (by omega)
    have hx24 : x 24 = .bool true := hd 24 (by omega)
    have hx25 : x 25 = .bool true := hd 25 (by omega)
    have hx26 : x 26 = .bool true := hd 26 (by omega)
    refine AnyTill.any (S := fun _ => True) (m := 27) _ _ _ _ ?_
    refine AnyTill.done (by kernel_rfl) ?_
    refine NoPanic.normal ?_
    try dsimp only
    rw [hx0, hx1, hx2, hx3, hx4, hx6, hx7, hx8, hx9, hx10, hx11, hx12, hx13, hx15, hx17, hx18, hx19, hx20, hx24, hx25, hx26]
    have EW := Lib.hid hb
    clear hx0 hx1 hx2 hx3 hx4 hx6 hx7 hx8 hx9 hx10 hx11 hx12 hx13 hx15 hx17 hx18 hx19 hx20 hx24 hx25 hx26 hd hb
    have P3_w := Lib.hid (P2_w.out.trans (EW.out.mono P2_w.out.size))
    clear P2_w
    have P3_y0 := Lib.hid (P2_y0.out.trans (EW.out.mono P2_y0.out.size))
    clear P2_y0
    have P3_y1 := Lib.hid (P2_y1.out.trans (EW.out.mono P2_y1.out.size))
    clear P2_y1
    have P3_W1 := Lib.hid (E2.out.trans (EW.out.mono E2.out.size))
    go_wp2
    go_ret
    exact ⟨rfl, P3_w.out⟩
end Go.Proofs.YtlpakfaoaodaiaaDoor
