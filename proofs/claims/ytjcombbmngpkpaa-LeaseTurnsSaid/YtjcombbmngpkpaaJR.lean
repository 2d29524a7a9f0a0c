/-
  The statements on books: LeaseMay.
-/
import Derived.Test.YtjcombbmngpkpaaJQ
import Derived.Test.YtjcombbmngpkpaaRel4
namespace Go.Proofs.Ytjcombbmngpkpaa
open Go.RowKit
/-- A book as the document's, as a value. -/
def PlainB (t : Int) (l : List Se) (u : Value) (w : World) : Prop := ∃ v, u = .agg #[.int .i64 t, v] ∧ RdE SeK w.heap.size w v l
theorem PlainB.keep {t : Int} {l : List Se} {u : Value} {w w' : World} (h : PlainB t l u w) (hb : Below w.heap.size w w') : PlainB t l u w' := by
  obtain ⟨v, h1, h2⟩ := h
  exact ⟨v, h1, (h2.below hb).more hb.size⟩
theorem bkRightIs (t : Int) (l : List Se) (b : Bool) (h : rightS t l = b) (v : Value) (w : World) (hr : RdE SeK w.heap.size w v l) (hl : l.length ≤ 60) : Calls Try.prog 9 #[.agg #[.int .i64 t, v]] w (One (.bool b) w) := by
  rw [← h]
  exact bkRight_any t l v w hr hl
theorem rfRightBIs (t : Int) (l : List Se) (b : Bool) (h : rightS t l = b) (v : Value) (w : World) (hr : RdE SeK w.heap.size w v l) : Calls Try.prog 10 #[.agg #[.int .i64 t, v]] w (One (.bool b) w) := by
  rw [← h]
  exact rfRightB_any t l v w hr
theorem bkSameIs (t s : Int) (l m : List Se) (b : Bool) (h : sameB t s l m = b) (v u : Value) (w : World) (hr : RdE SeK w.heap.size w v l) (hr2 : RdE SeK w.heap.size w u m) (hl : l.length ≤ 60) (hm : m.length ≤ 60) : Calls Try.prog 12 #[.agg #[.int .i64 t, v], .agg #[.int .i64 s, u]] w (One (.bool b) w) := by
  rw [← h]
  exact bkSame_any t s l m v u w hr hr2 hl hm
theorem rfSameBIs (t s : Int) (l m : List Se) (b : Bool) (h : sameB t s l m = b) (v u : Value) (w : World) (hr : RdE SeK w.heap.size w v l) (hr2 : RdE SeK w.heap.size w u m) : Calls Try.prog 13 #[.agg #[.int .i64 t, v], .agg #[.int .i64 s, u]] w (One (.bool b) w) := by
  rw [← h]
  exact rfSameB_any t s l m v u w hr hr2
theorem sameB_self (t : Int) (l : List Se) : sameB t t l l = true := by
  unfold sameB
  rw [decide_eq_true rfl, decide_eq_true rfl]
  rfl

set_option maxRecDepth 1000000 in
set_option maxHeartbeats 16000000 in
theorem mayB_all (t : Int) (v : Value) (l : List Se) (s : Int) (v' : Value) (m : List Se) (w : World) (hr : RdE SeK w.heap.size w v l) (hr' : RdE SeK w.heap.size w v' m) : Calls Try.prog 3 #[.agg #[.int .i64 t, v], .agg #[.int .i64 s, v']] w (One (.bool true) w) := by
  obtain ⟨A, cp, rfl, hc, hm⟩ := hr.shape
  obtain ⟨A2, cp2, rfl, hc2, hm2⟩ := hr'.shape
  unfold maxLen at hm hm2
  have HR := Lib.hid hr
  have HS := Lib.hid hr'
  obtain ⟨n, hn⟩ : ∃ n, l.length = n := ⟨_, rfl⟩
  obtain ⟨k, hk⟩ : ∃ n, m.length = n := ⟨_, rfl⟩
  have HN := Lib.hid hn
  have HK := Lib.hid hk
  rw [hn] at HR hc ⊢
  rw [hk] at HS hc2 ⊢
  obtain ⟨RL, hRL⟩ : ∃ b, rightS t l = b := ⟨_, rfl⟩
  obtain ⟨SM, hSM⟩ : ∃ b, sameB t s l m = b := ⟨_, rfl⟩
  have HRL := Lib.hid hRL
  have HSM := Lib.hid hSM
  clear hr hr' hRL hSM hn hk
  go_enter Try.func3, Try.ntmps3
  go_wp2_with (refine wpList_box_blk rfl 24 _ rfl [.int .i64 t, .slice A n cp] rfl ?_)
  intro y0 b1 b2 b3
  obtain ⟨gb0, hg⟩ : ∃ g, w.heap.size = g := ⟨_, rfl⟩
  have X0 := Lib.hid b1
  have EB0 := Lib.hid b3
  rw [hg] at X0 ⊢
  clear b1 b2 b3 hg
  go_wp2_with (refine wpList_box_blk rfl 24 _ rfl [.int .i64 s, .slice A2 k cp2] rfl ?_)
  intro y1 b1 b2 b3
  obtain ⟨gb1, hg⟩ : ∃ g, y0.heap.size = g := ⟨_, rfl⟩
  have X1 := Lib.hid b1
  have EB1 := Lib.hid b3
  rw [hg] at X1 ⊢
  clear b1 b2 b3 hg
  have P0_w := Lib.hid (EB0.out.trans (EB1.out.mono EB0.out.size))
  have c_X0 := (X0.out.below EB1.out X0.out.lt).cell 0
  have c_X0_1 := (X0.out.below EB1.out X0.out.lt).at_ 1 _ rfl
  have c_X1 := X1.out.cell 0
  have c_X1_1 := X1.out.at_ 1 _ rfl
  by_cases h1 : 60 < (n : Int)
  · go_wp2_with fail
    refine (alive10 y1).mono ?_
    rintro e W1 ⟨rfl, hb⟩
    have E1 := Lib.hid hb
    clear hb c_X0 c_X0_1 c_X1 c_X1_1
    have P1_w := Lib.hid (P0_w.out.trans (E1.out.mono P0_w.out.size))
    clear P0_w
    have P1_y0 := Lib.hid (EB1.out.trans (E1.out.mono EB1.out.size))
    go_wp2
    go_ret
    exact ⟨rfl, P1_w.out⟩
  by_cases h2 : 60 < (k : Int)
  · go_wp2_with fail
    refine (alive10 y1).mono ?_
    rintro e W1 ⟨rfl, hb⟩
    have E1 := Lib.hid hb
    clear hb c_X0 c_X0_1 c_X1 c_X1_1
    have P1_w := Lib.hid (P0_w.out.trans (E1.out.mono P0_w.out.size))
    clear P0_w
    have P1_y0 := Lib.hid (EB1.out.trans (E1.out.mono EB1.out.size))
    go_wp2
    go_ret
    exact ⟨rfl, P1_w.out⟩
  by_cases h3 : 10000000000 < t
  · go_wp2_with fail
    refine (alive10 y1).mono ?_
    rintro e W1 ⟨rfl, hb⟩
    have E1 := Lib.hid hb
    clear hb c_X0 c_X0_1 c_X1 c_X1_1
    have P1_w := Lib.hid (P0_w.out.trans (E1.out.mono P0_w.out.size))
    clear P0_w
    have P1_y0 := Lib.hid (EB1.out.trans (E1.out.mono EB1.out.size))
    go_wp2
    go_ret
    exact ⟨rfl, P1_w.out⟩
  have HL : Hid (l.length ≤ 60) := by
    show _ ≤ _
    rw [HN.out]
    omega
  have HM : Hid (m.length ≤ 60) := by
    show _ ≤ _
    rw [HK.out]
    omega
  go_wp2
  clear c_X0 c_X0_1 c_X1 c_X1_1
  have ZX0 := Lib.hid (X0.out.below EB1.out X0.out.lt)
  have ZX1 := Lib.hid X1.out
  have ZHR := Lib.hid ((HR.out.below P0_w.out).more P0_w.out.size)
  have ZHS := Lib.hid ((HS.out.below P0_w.out).more P0_w.out.size)
  refine wp_region_rely2 27 0 (fun x => ⟨#[.agg #[Value.int IntKind.i64 t, Value.slice A n cp], .agg #[Value.int IntKind.i64 s, Value.slice A2 k cp2], .pointer (some { block := gb0, off := 0 }), .pointer (some { block := gb1, off := 0 }), x 26, .pointer (some { block := gb0, off := 1 }), .slice A n cp, .int IntKind.i64 ↑n, .bool false, .bool false, .pointer (some { block := gb1, off := 1 }), .slice A2 k cp2, .int IntKind.i64 ↑k, .bool false, .bool false, .bool false, .pointer (some { block := gb0, off := 0 }), .int IntKind.i64 t, .bool false, .bool false, undef, x 0, x 1, x 2, x 3, x 4, x 5, x 6, x 7, x 8, x 9, x 10, x 11, x 12, x 13, x 14, x 15, x 16, x 17, x 18, x 19, x 20, x 21, x 22, x 23, x 24, x 25], []⟩) (fun jj => ([(eqV (.bool true)), eqV (.bool true), eqV (.agg #[.int .i64 t, (.slice A n cp)]), (eqV (.bool RL)), eqV (.agg #[.int .i64 t, (.slice A n cp)]), (PlainB t l), (eqV (.bool RL)), eqV (.bool true), eqV (.bool true), eqV (.bool true), eqV (.agg #[.int .i64 t, (.slice A n cp)]), eqV (.agg #[.int .i64 s, (.slice A2 k cp2)]), (eqV (.bool SM)), eqV (.agg #[.int .i64 t, (.slice A n cp)]), (PlainB t l), eqV (.agg #[.int .i64 s, (.slice A2 k cp2)]), (PlainB s m), (eqV (.bool SM)), eqV (.bool true), eqV (.bool true), eqV (.bool true), (PlainB 0 []), (PlainB 0 []), eqV (.agg #[.int .i64 0, .slice none 0 0]), (eqV (.bool true)), eqV (.bool true), eqV (.bool true)] : List (Value → World → Prop)).getD jj (fun _ _ => True)) rfl ⟨fun kk => [_, _, _, _, _, _, _, _, _, _, _, _, _, _, _, _, _, _, _, _, _, _, _, _, _, _, _].getD kk undef, rfl⟩ (by kernel_rfl) (by kernel_rfl) ?steps ?fin
  case steps =>
    refine StepsAt.cons 0 (fun _ _ _ h hb => h) (fun _ _ => rfl) rfl rfl (fun x wx hb hd K hK => ?_) ?_
    · go_simp
      refine (alive10 _).mono ?_
      rintro e w99 ⟨rfl, hb99⟩
      exact hK.out _ _ hb99 rfl
    refine StepsAt.val 1 (.bool true) rfl (fun _ _ => rfl) rfl rfl (fun x wx hb hd => ?_) ?_
    · have h0 : x 0 = .bool true := hd 0 (by kernel_rfl)
      rw [h0]
      first | (go_simp; done) | (go_simp; rfl)
    refine StepsAt.valG 2 (.agg #[.int .i64 t, (.slice A n cp)]) rfl (fun _ _ => rfl) rfl (fun x wx hd => ?_) (fun x wx hb hd => ?_) ?_
    · have hG : x 1 = .bool true := hd 1 (by kernel_rfl)
      simp [Region.wanted, yielded, hG]
    · have cc := ((ZX0.out.below hb ZX0.out.lt).cell 0).trans (show _ = some (.int .i64 t) from rfl)
      have cd := ((ZX0.out.below hb ZX0.out.lt).at_ 1 _ (show _ = some ((.slice A n cp)) from rfl))
      first | (go_simp; done) | (go_simp; rfl)
    refine StepsAt.consG 3 (fun _ _ _ h hb => h) (fun _ _ => rfl) rfl (fun x wx hd => ?_) (fun x wx hb hd K hK => ?_) ?_
    · have hG : x 1 = .bool true := hd 1 (by kernel_rfl)
      simp [Region.wanted, yielded, hG]
    · have h2 : Hid (x 2 = .agg #[.int .i64 t, (.slice A n cp)]) := hd 2 (by kernel_rfl)
      go_simp
      refine calls_args (args2 := #[.agg #[.int .i64 t, (.slice A n cp)]]) (by rw [h2.out]) ?_
      refine (bkRightIs t l RL HRL.out (.slice A n cp) _ ((ZHR.out.below hb).more hb.size) HL.out).mono ?_
      rintro e w99 ⟨rfl, hb99⟩
      exact hK.out _ _ hb99 rfl
    refine StepsAt.valG 4 (.agg #[.int .i64 t, (.slice A n cp)]) rfl (fun _ _ => rfl) rfl (fun x wx hd => ?_) (fun x wx hb hd => ?_) ?_
    · have hG : x 1 = .bool true := hd 1 (by kernel_rfl)
      simp [Region.wanted, yielded, hG]
    · have cc := ((ZX0.out.below hb ZX0.out.lt).cell 0).trans (show _ = some (.int .i64 t) from rfl)
      have cd := ((ZX0.out.below hb ZX0.out.lt).at_ 1 _ (show _ = some ((.slice A n cp)) from rfl))
      first | (go_simp; done) | (go_simp; rfl)
    refine StepsAt.consG 5 (fun _ _ _ h hb => h.keep hb) (fun _ _ => rfl) rfl (fun x wx hd => ?_) (fun x wx hb hd K hK => ?_) ?_
    · have hG : x 1 = .bool true := hd 1 (by kernel_rfl)
      simp [Region.wanted, yielded, hG]
    · have h4 : Hid (x 4 = .agg #[.int .i64 t, (.slice A n cp)]) := hd 4 (by kernel_rfl)
      go_simp
      refine calls_args (args2 := #[.agg #[.int .i64 t, (.slice A n cp)]]) (by rw [h4.out]) ?_
      refine (plainB_any t l (.slice A n cp) _ ((ZHR.out.below hb).more hb.size) (by have := HL.out; omega)).mono ?_
      rintro e w99 ⟨v99, rfl, hrd, hb99⟩
      exact hK.out _ _ hb99 ⟨v99, rfl, hrd⟩
    refine StepsAt.consG 6 (fun _ _ _ h hb => h) (fun _ _ => rfl) rfl (fun x wx hd => ?_) (fun x wx hb hd K hK => ?_) ?_
    · have hG : x 1 = .bool true := hd 1 (by kernel_rfl)
      simp [Region.wanted, yielded, hG]
    · have h5 : PlainB t l (x 5) wx := hd 5 (by kernel_rfl)
      go_simp
      obtain ⟨v95, hv95, hr95⟩ := h5
      refine calls_args (args2 := #[.agg #[.int .i64 t, v95]]) (by rw [hv95]) ?_
      refine (rfRightBIs t l RL HRL.out v95 _ hr95).mono ?_
      rintro e w99 ⟨rfl, hb99⟩
      exact hK.out _ _ hb99 rfl
    refine StepsAt.valG 7 (.bool true) rfl (fun _ _ => rfl) rfl (fun x wx hd => ?_) (fun x wx hb hd => ?_) ?_
    · have hG : x 1 = .bool true := hd 1 (by kernel_rfl)
      simp [Region.wanted, yielded, hG]
    · have h3 : x 3 = .bool RL := hd 3 (by kernel_rfl)
      have h6 : x 6 = .bool RL := hd 6 (by kernel_rfl)
      rw [h3, h6]
      first | (go_simp; done) | (go_simp; rfl) | (go_simp; simp)
    refine StepsAt.val 8 (.bool true) rfl (fun _ _ => rfl) rfl rfl (fun x wx hb hd => ?_) ?_
    · have h1 : x 1 = .bool true := hd 1 (by kernel_rfl)
      have h7 : x 7 = .bool true := hd 7 (by kernel_rfl)
      rw [h1, h7]
      first | (go_simp; done) | (go_simp; rfl)
    refine StepsAt.val 9 (.bool true) rfl (fun _ _ => rfl) rfl rfl (fun x wx hb hd => ?_) ?_
    · have h8 : x 8 = .bool true := hd 8 (by kernel_rfl)
      rw [h8]
      first | (go_simp; done) | (go_simp; rfl)
    refine StepsAt.valG 10 (.agg #[.int .i64 t, (.slice A n cp)]) rfl (fun _ _ => rfl) rfl (fun x wx hd => ?_) (fun x wx hb hd => ?_) ?_
    · have hG : x 9 = .bool true := hd 9 (by kernel_rfl)
      simp [Region.wanted, yielded, hG]
    · have cc := ((ZX0.out.below hb ZX0.out.lt).cell 0).trans (show _ = some (.int .i64 t) from rfl)
      have cd := ((ZX0.out.below hb ZX0.out.lt).at_ 1 _ (show _ = some ((.slice A n cp)) from rfl))
      first | (go_simp; done) | (go_simp; rfl)
    refine StepsAt.valG 11 (.agg #[.int .i64 s, (.slice A2 k cp2)]) rfl (fun _ _ => rfl) rfl (fun x wx hd => ?_) (fun x wx hb hd => ?_) ?_
    · have hG : x 9 = .bool true := hd 9 (by kernel_rfl)
      simp [Region.wanted, yielded, hG]
    · have cc := ((ZX1.out.below hb ZX1.out.lt).cell 0).trans (show _ = some (.int .i64 s) from rfl)
      have cd := ((ZX1.out.below hb ZX1.out.lt).at_ 1 _ (show _ = some ((.slice A2 k cp2)) from rfl))
      first | (go_simp; done) | (go_simp; rfl)
    refine StepsAt.consG 12 (fun _ _ _ h hb => h) (fun _ _ => rfl) rfl (fun x wx hd => ?_) (fun x wx hb hd K hK => ?_) ?_
    · have hG : x 9 = .bool true := hd 9 (by kernel_rfl)
      simp [Region.wanted, yielded, hG]
    · have h10 : Hid (x 10 = .agg #[.int .i64 t, (.slice A n cp)]) := hd 10 (by kernel_rfl)
      have h11 : Hid (x 11 = .agg #[.int .i64 s, (.slice A2 k cp2)]) := hd 11 (by kernel_rfl)
      go_simp
      refine calls_args (args2 := #[.agg #[.int .i64 t, (.slice A n cp)], .agg #[.int .i64 s, (.slice A2 k cp2)]]) (by rw [h10.out, h11.out]) ?_
      refine (bkSameIs t s l m SM HSM.out (.slice A n cp) (.slice A2 k cp2) _ ((ZHR.out.below hb).more hb.size) ((ZHS.out.below hb).more hb.size) HL.out HM.out).mono ?_
      rintro e w99 ⟨rfl, hb99⟩
      exact hK.out _ _ hb99 rfl
    refine StepsAt.valG 13 (.agg #[.int .i64 t, (.slice A n cp)]) rfl (fun _ _ => rfl) rfl (fun x wx hd => ?_) (fun x wx hb hd => ?_) ?_
    · have hG : x 9 = .bool true := hd 9 (by kernel_rfl)
      simp [Region.wanted, yielded, hG]
    · have cc := ((ZX0.out.below hb ZX0.out.lt).cell 0).trans (show _ = some (.int .i64 t) from rfl)
      have cd := ((ZX0.out.below hb ZX0.out.lt).at_ 1 _ (show _ = some ((.slice A n cp)) from rfl))
      first | (go_simp; done) | (go_simp; rfl)
    refine StepsAt.consG 14 (fun _ _ _ h hb => h.keep hb) (fun _ _ => rfl) rfl (fun x wx hd => ?_) (fun x wx hb hd K hK => ?_) ?_
    · have hG : x 9 = .bool true := hd 9 (by kernel_rfl)
      simp [Region.wanted, yielded, hG]
    · have h13 : Hid (x 13 = .agg #[.int .i64 t, (.slice A n cp)]) := hd 13 (by kernel_rfl)
      go_simp
      refine calls_args (args2 := #[.agg #[.int .i64 t, (.slice A n cp)]]) (by rw [h13.out]) ?_
      refine (plainB_any t l (.slice A n cp) _ ((ZHR.out.below hb).more hb.size) (by have := HL.out; omega)).mono ?_
      rintro e w99 ⟨v99, rfl, hrd, hb99⟩
      exact hK.out _ _ hb99 ⟨v99, rfl, hrd⟩
    refine StepsAt.valG 15 (.agg #[.int .i64 s, (.slice A2 k cp2)]) rfl (fun _ _ => rfl) rfl (fun x wx hd => ?_) (fun x wx hb hd => ?_) ?_
    · have hG : x 9 = .bool true := hd 9 (by kernel_rfl)
      simp [Region.wanted, yielded, hG]
    · have cc := ((ZX1.out.below hb ZX1.out.lt).cell 0).trans (show _ = some (.int .i64 s) from rfl)
      have cd := ((ZX1.out.below hb ZX1.out.lt).at_ 1 _ (show _ = some ((.slice A2 k cp2)) from rfl))
      first | (go_simp; done) | (go_simp; rfl)
    refine StepsAt.consG 16 (fun _ _ _ h hb => h.keep hb) (fun _ _ => rfl) rfl (fun x wx hd => ?_) (fun x wx hb hd K hK => ?_) ?_
    · have hG : x 9 = .bool true := hd 9 (by kernel_rfl)
      simp [Region.wanted, yielded, hG]
    · have h15 : Hid (x 15 = .agg #[.int .i64 s, (.slice A2 k cp2)]) := hd 15 (by kernel_rfl)
      go_simp
      refine calls_args (args2 := #[.agg #[.int .i64 s, (.slice A2 k cp2)]]) (by rw [h15.out]) ?_
      refine (plainB_any s m (.slice A2 k cp2) _ ((ZHS.out.below hb).more hb.size) (by have := HM.out; omega)).mono ?_
      rintro e w99 ⟨v99, rfl, hrd, hb99⟩
      exact hK.out _ _ hb99 ⟨v99, rfl, hrd⟩
    refine StepsAt.consG 17 (fun _ _ _ h hb => h) (fun _ _ => rfl) rfl (fun x wx hd => ?_) (fun x wx hb hd K hK => ?_) ?_
    · have hG : x 9 = .bool true := hd 9 (by kernel_rfl)
      simp [Region.wanted, yielded, hG]
    · have h14 : PlainB t l (x 14) wx := hd 14 (by kernel_rfl)
      have h16 : PlainB s m (x 16) wx := hd 16 (by kernel_rfl)
      go_simp
      obtain ⟨v98, hv98, hr98⟩ := h14
      obtain ⟨v99, hv99, hr99⟩ := h16
      refine calls_args (args2 := #[.agg #[.int .i64 t, v98], .agg #[.int .i64 s, v99]]) (by rw [hv98, hv99]) ?_
      refine (rfSameBIs t s l m SM HSM.out v98 v99 _ hr98 hr99).mono ?_
      rintro e w99 ⟨rfl, hb99⟩
      exact hK.out _ _ hb99 rfl
    refine StepsAt.valG 18 (.bool true) rfl (fun _ _ => rfl) rfl (fun x wx hd => ?_) (fun x wx hb hd => ?_) ?_
    · have hG : x 9 = .bool true := hd 9 (by kernel_rfl)
      simp [Region.wanted, yielded, hG]
    · have h12 : x 12 = .bool SM := hd 12 (by kernel_rfl)
      have h17 : x 17 = .bool SM := hd 17 (by kernel_rfl)
      rw [h12, h17]
      first | (go_simp; done) | (go_simp; rfl) | (go_simp; simp)
    refine StepsAt.val 19 (.bool true) rfl (fun _ _ => rfl) rfl rfl (fun x wx hb hd => ?_) ?_
    · have h9 : x 9 = .bool true := hd 9 (by kernel_rfl)
      have h18 : x 18 = .bool true := hd 18 (by kernel_rfl)
      rw [h9, h18]
      first | (go_simp; done) | (go_simp; rfl)
    refine StepsAt.val 20 (.bool true) rfl (fun _ _ => rfl) rfl rfl (fun x wx hb hd => ?_) ?_
    · have h19 : x 19 = .bool true := hd 19 (by kernel_rfl)
      rw [h19]
      first | (go_simp; done) | (go_simp; rfl)
    refine StepsAt.consG 21 (fun _ _ _ h hb => h.keep hb) (fun _ _ => rfl) rfl (fun x wx hd => ?_) (fun x wx hb hd K hK => ?_) ?_
    · have hG : x 20 = .bool true := hd 20 (by kernel_rfl)
      simp [Region.wanted, yielded, hG]
    · go_simp
      refine (bkNew_any _).mono ?_
      rintro e w99 ⟨v99, rfl, hrd, hb99⟩
      exact hK.out _ _ hb99 ⟨v99, rfl, hrd⟩
    refine StepsAt.consG 22 (fun _ _ _ h hb => h.keep hb) (fun _ _ => rfl) rfl (fun x wx hd => ?_) (fun x wx hb hd K hK => ?_) ?_
    · have hG : x 20 = .bool true := hd 20 (by kernel_rfl)
      simp [Region.wanted, yielded, hG]
    · have h21 : PlainB 0 [] (x 21) wx := hd 21 (by kernel_rfl)
      go_simp
      obtain ⟨v98, hv98, hr98⟩ := h21
      refine calls_args (args2 := #[.agg #[.int .i64 0, v98]]) (by rw [hv98]) ?_
      refine (plainB_any 0 [] v98 _ hr98 (by decide)).mono ?_
      rintro e w99 ⟨v99, rfl, hrd, hb99⟩
      exact hK.out _ _ hb99 ⟨v99, rfl, hrd⟩
    refine StepsAt.valG 23 (.agg #[.int .i64 0, .slice none 0 0]) rfl (fun _ _ => rfl) rfl (fun x wx hd => ?_) (fun x wx hb hd => ?_) ?_
    · have hG : x 20 = .bool true := hd 20 (by kernel_rfl)
      simp [Region.wanted, yielded, hG]
    · first | (go_simp; done) | (go_simp; rfl)
    refine StepsAt.consG 24 (fun _ _ _ h hb => h) (fun _ _ => rfl) rfl (fun x wx hd => ?_) (fun x wx hb hd K hK => ?_) ?_
    · have hG : x 20 = .bool true := hd 20 (by kernel_rfl)
      simp [Region.wanted, yielded, hG]
    · have h22 : PlainB 0 [] (x 22) wx := hd 22 (by kernel_rfl)
      have h23 : Hid (x 23 = .agg #[.int .i64 0, .slice none 0 0]) := hd 23 (by kernel_rfl)
      go_simp
      obtain ⟨v98, hv98, hr98⟩ := h22
      refine calls_args (args2 := #[.agg #[.int .i64 0, v98], .agg #[.int .i64 0, .slice none 0 0]]) (by rw [hv98, h23.out]) ?_
      refine (rfSameBIs 0 0 [] [] true (sameB_self 0 []) v98 (.slice none 0 0) _ hr98 (RdE.nil _ _)).mono ?_
      rintro e w99 ⟨rfl, hb99⟩
      exact hK.out _ _ hb99 rfl
    refine StepsAt.val 25 (.bool true) rfl (fun _ _ => rfl) rfl rfl (fun x wx hb hd => ?_) ?_
    · have h20 : x 20 = .bool true := hd 20 (by kernel_rfl)
      have h24 : x 24 = .bool true := hd 24 (by kernel_rfl)
      rw [h20, h24]
      first | (go_simp; done) | (go_simp; rfl)
    refine StepsAt.val 26 (.bool true) rfl (fun _ _ => rfl) rfl rfl (fun x wx hb hd => ?_) ?_
    · have h25 : x 25 = .bool true := hd 25 (by kernel_rfl)
      rw [h25]
      first | (go_simp; done) | (go_simp; rfl)
    exact StepsAt.done
  case fin =>
    intro x wx hb hd
    have hx0 : x 0 = .bool true := hd 0 (by omega)
    have hx1 : x 1 = .bool true := hd 1 (by omega)
    have hx2 : x 2 = .agg #[.int .i64 t, (.slice A n cp)] := hd 2 (by omega)
    have hx3 : x 3 = .bool RL := hd 3 (by omega)
    have hx4 : x 4 = .agg #[.int .i64 t, (.slice A n cp)] := hd 4 (by omega)
    have hx6 : x 6 = .bool RL := hd 6 (by omega)
    have hx7 : x 7 = .bool true := hd 7 (by omega)
    have hx8 : x 8 = .bool true := hd 8 (by omega)
    have hx9 : x 9 = .bool true := hd 9 (by omega)
    have hx10 : x 10 = .agg #[.int .i64 t, (.slice A n cp)] := hd 10 (by omega)
    have hx11 : x 11 = .agg #[.int .i64 s, (.slice A2 k cp2)] := hd 11 (by omega)
    have hx12 : x 12 = .bool SM := hd 12 (by omega)
    have hx13 : x 13 = .agg #[.int .i64 t, (.slice A n cp)] := hd 13 (by omega)
    have hx15 : x 15 = .agg #[.int .i64 s, (.slice A2 k cp2)] := hd 15 (by omega)
    have hx17 : x 17 = .bool SM := hd 17 (by omega)
    have hx18 : x 18 = .bool true := hd 18 (by omega)
    have hx19 : x 19 = .bool true := hd 19 (by omega)
    have hx20 : x 20 = .bool true := hd 20 (by omega)
    have hx23 : x 23 = .agg #[.int .i64 0, .slice none 0 0] := hd 23 (by omega)
    have hx24 : x 24 = .bool true := hd 24 (by omega)
    have hx25 : x 25 = .bool true := hd 25 (by omega)
    have hx26 : x 26 = .bool true := hd 26 (by omega)
    refine AnyTill.any (S := fun _ => True) (m := 27) _ _ _ _ ?_
    refine AnyTill.done (by kernel_rfl) ?_
    refine NoPanic.normal ?_
    try dsimp only
    rw [hx0, hx1, hx2, hx3, hx4, hx6, hx7, hx8, hx9, hx10, hx11, hx12, hx13, hx15, hx17, hx18, hx19, hx20, hx23, hx24, hx25, hx26]
    have EW := Lib.hid hb
    clear hx0 hx1 hx2 hx3 hx4 hx6 hx7 hx8 hx9 hx10 hx11 hx12 hx13 hx15 hx17 hx18 hx19 hx20 hx23 hx24 hx25 hx26 hd hb
    have P1_w := Lib.hid (P0_w.out.trans (EW.out.mono P0_w.out.size))
    clear P0_w
    have P1_y0 := Lib.hid (EB1.out.trans (EW.out.mono EB1.out.size))
    go_wp2
    go_ret
    exact ⟨rfl, P1_w.out⟩
end Go.Proofs.Ytjcombbmngpkpaa
