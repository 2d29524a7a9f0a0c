/-
  The statements on tables: WatchMay.
-/
import Derived.Test.YtmiomfonglmfjaaUQ
namespace Go.Proofs.Ytmiomfonglmfjaa
open Go.RowKit
/-- A table as the document's, as a value. -/
def PlainW (l : List Wa) (u : Value) (w : World) : Prop := ∃ v, u = .agg #[v] ∧ RdE WaK w.heap.size w v l
theorem PlainW.keep {l : List Wa} {u : Value} {w w' : World} (h : PlainW l u w) (hb : Below w.heap.size w w') : PlainW l u w' := by
  obtain ⟨v, h1, h2⟩ := h
  exact ⟨v, h1, (h2.below hb).more hb.size⟩
theorem waTouchIs (c : Ch) (x : Wa) (b : Bool) (h : touchB c x = b) (w : World) : Calls Try.prog 10 #[.agg (chc c).toArray, .agg (wac x).toArray] w (One (.bool b) w) := by
  rw [← h]
  exact waTouches_any c x w
theorem waRightIs (l : List Wa) (b : Bool) (h : rightW l = b) (v : Value) (w : World) (hr : RdE WaK w.heap.size w v l) (hl : l.length ≤ 60) : Calls Try.prog 13 #[.agg #[v]] w (One (.bool b) w) := by
  rw [← h]
  exact waRight_any l v w hr hl
theorem rfRightWIs (l : List Wa) (b : Bool) (h : rightW l = b) (v : Value) (w : World) (hr : RdE WaK w.heap.size w v l) : Calls Try.prog 14 #[.agg #[v]] w (One (.bool b) w) := by
  rw [← h]
  exact rfRightW_any l v w hr
theorem waSameIs (l m : List Wa) (b : Bool) (h : decide (l = m) = b) (v u : Value) (w : World) (hr : RdE WaK w.heap.size w v l) (hr2 : RdE WaK w.heap.size w u m) (hl : l.length ≤ 60) (hm : m.length ≤ 60) : Calls Try.prog 16 #[.agg #[v], .agg #[u]] w (One (.bool b) w) := by
  rw [← h]
  exact waSame_any l m v u w hr hr2 hl hm
theorem rfSameWIs (l m : List Wa) (b : Bool) (h : decide (l = m) = b) (v u : Value) (w : World) (hr : RdE WaK w.heap.size w v l) (hr2 : RdE WaK w.heap.size w u m) : Calls Try.prog 17 #[.agg #[v], .agg #[u]] w (One (.bool b) w) := by
  rw [← h]
  exact rfSameW_any l m v u w hr hr2
theorem few_len {l : List Wa} (h : fewB l = true) : l.length ≤ 60 := by
  unfold fewB at h
  rw [Bool.and_eq_true, decide_eq_true_eq] at h
  exact h.1

set_option maxRecDepth 1000000 in
set_option maxHeartbeats 16000000 in
theorem mayW_all (v : Value) (l : List Wa) (v' : Value) (m : List Wa) (c : Ch) (w : World) (hr : RdE WaK w.heap.size w v l) (hr' : RdE WaK w.heap.size w v' m) : Calls Try.prog 3 #[.agg #[v], .agg #[v'], .agg (chc c).toArray] w (One (.bool true) w) := by
  obtain ⟨A, cp, rfl, hc, hm⟩ := hr.shape
  obtain ⟨A2, cp2, rfl, hc2, hm2⟩ := hr'.shape
  unfold maxLen at hm hm2
  have HR := Lib.hid hr
  have HS := Lib.hid hr'
  obtain ⟨n, hn⟩ : ∃ n, l.length = n := ⟨_, rfl⟩
  obtain ⟨k, hk⟩ : ∃ n, m.length = n := ⟨_, rfl⟩
  have HN := Lib.hid hn
  have HK := Lib.hid hk
  rw [hn] at HR hc ⊢
  rw [hk] at HS hc2 ⊢
  obtain ⟨RL, hRL⟩ : ∃ b, rightW l = b := ⟨_, rfl⟩
  obtain ⟨SM, hSM⟩ : ∃ b, decide (l = m) = b := ⟨_, rfl⟩
  have HRL := Lib.hid hRL
  have HSM := Lib.hid hSM
  obtain ⟨kp, hkp⟩ : ∃ k, (cP c).length = k := ⟨_, rfl⟩
  have hkz : (⟨(cP c).toArray⟩ : ByteArray).size = kp := hkp
  clear hr hr' hRL hSM hn hk hkp
  go_enter Try.func3, Try.ntmps3
  go_wp2_with (refine wpList_box_blk rfl 24 _ rfl [.slice A n cp] rfl ?_)
  intro y0 b1 b2 b3
  obtain ⟨gb0, hg⟩ : ∃ g, w.heap.size = g := ⟨_, rfl⟩
  have X0 := Lib.hid b1
  have EB0 := Lib.hid b3
  rw [hg] at X0 ⊢
  clear b1 b2 b3 hg
  go_wp2_with (refine wpList_box_blk rfl 24 _ rfl [.slice A2 k cp2] rfl ?_)
  intro y1 b1 b2 b3
  obtain ⟨gb1, hg⟩ : ∃ g, y0.heap.size = g := ⟨_, rfl⟩
  have X1 := Lib.hid b1
  have EB1 := Lib.hid b3
  rw [hg] at X1 ⊢
  clear b1 b2 b3 hg
  have P0_w := Lib.hid (EB0.out.trans (EB1.out.mono EB0.out.size))
  go_wp2_with (refine wpList_box_blk rfl 26 _ rfl (chc c) rfl ?_)
  intro y2 b1 b2 b3
  obtain ⟨gb2, hg⟩ : ∃ g, y1.heap.size = g := ⟨_, rfl⟩
  have X2 := Lib.hid b1
  have EB2 := Lib.hid b3
  rw [hg] at X2 ⊢
  clear b1 b2 b3 hg
  have P1_w := Lib.hid (P0_w.out.trans (EB2.out.mono P0_w.out.size))
  clear P0_w
  have P1_y0 := Lib.hid (EB1.out.trans (EB2.out.mono EB1.out.size))
  have c_X0 := (X0.out.below P1_y0.out X0.out.lt).cell 0
  go_wp2_with fail
  refine (fewW_any l (.slice A n cp) y2 ((HR.out.below P1_w.out).more P1_w.out.size)).mono ?_
  rintro e W2 ⟨rfl, hb⟩
  have E2 := Lib.hid hb
  clear hb c_X0
  have P2_w := Lib.hid (P1_w.out.trans (E2.out.mono P1_w.out.size))
  clear P1_w
  have P2_y0 := Lib.hid (P1_y0.out.trans (E2.out.mono P1_y0.out.size))
  clear P1_y0
  have P2_y1 := Lib.hid (EB2.out.trans (E2.out.mono EB2.out.size))
  cases hF : fewB l
  · clear hF
    go_wp2_with fail
    refine (alive11 W2).mono ?_
    rintro e W3 ⟨rfl, hb⟩
    have E3 := Lib.hid hb
    clear hb
    have P3_w := Lib.hid (P2_w.out.trans (E3.out.mono P2_w.out.size))
    clear P2_w
    have P3_y0 := Lib.hid (P2_y0.out.trans (E3.out.mono P2_y0.out.size))
    clear P2_y0
    have P3_y1 := Lib.hid (P2_y1.out.trans (E3.out.mono P2_y1.out.size))
    clear P2_y1
    have P3_y2 := Lib.hid (E2.out.trans (E3.out.mono E2.out.size))
    go_wp2
    go_ret
    exact ⟨rfl, P3_w.out⟩
  have HL := Lib.hid (few_len hF)
  clear hF
  have c_X1 := (X1.out.below P2_y1.out X1.out.lt).cell 0
  go_wp2_with fail
  refine (fewW_any m (.slice A2 k cp2) W2 ((HS.out.below P2_w.out).more P2_w.out.size)).mono ?_
  rintro e W3 ⟨rfl, hb⟩
  have E3 := Lib.hid hb
  clear hb c_X1
  have P3_w := Lib.hid (P2_w.out.trans (E3.out.mono P2_w.out.size))
  clear P2_w
  have P3_y0 := Lib.hid (P2_y0.out.trans (E3.out.mono P2_y0.out.size))
  clear P2_y0
  have P3_y1 := Lib.hid (P2_y1.out.trans (E3.out.mono P2_y1.out.size))
  clear P2_y1
  have P3_y2 := Lib.hid (E2.out.trans (E3.out.mono E2.out.size))
  cases hF : fewB m
  · clear hF
    go_wp2_with fail
    refine (alive11 W3).mono ?_
    rintro e W4 ⟨rfl, hb⟩
    have E4 := Lib.hid hb
    clear hb
    have P4_w := Lib.hid (P3_w.out.trans (E4.out.mono P3_w.out.size))
    clear P3_w
    have P4_y0 := Lib.hid (P3_y0.out.trans (E4.out.mono P3_y0.out.size))
    clear P3_y0
    have P4_y1 := Lib.hid (P3_y1.out.trans (E4.out.mono P3_y1.out.size))
    clear P3_y1
    have P4_y2 := Lib.hid (P3_y2.out.trans (E4.out.mono P3_y2.out.size))
    clear P3_y2
    have P4_W2 := Lib.hid (E3.out.trans (E4.out.mono E3.out.size))
    go_wp2
    go_ret
    exact ⟨rfl, P4_w.out⟩
  have HM := Lib.hid (few_len hF)
  clear hF
  have c_X2 := (X2.out.below P3_y2.out X2.out.lt).cell 0
  have c_X2_1 := (X2.out.below P3_y2.out X2.out.lt).at_ 1 _ rfl
  by_cases hkl : (300 : Int) < (kp : Int)
  · go_wp2_with fail
    refine (alive11 W3).mono ?_
    rintro e W4 ⟨rfl, hb⟩
    have E4 := Lib.hid hb
    clear hb c_X2 c_X2_1
    have P4_w := Lib.hid (P3_w.out.trans (E4.out.mono P3_w.out.size))
    clear P3_w
    have P4_y0 := Lib.hid (P3_y0.out.trans (E4.out.mono P3_y0.out.size))
    clear P3_y0
    have P4_y1 := Lib.hid (P3_y1.out.trans (E4.out.mono P3_y1.out.size))
    clear P3_y1
    have P4_y2 := Lib.hid (P3_y2.out.trans (E4.out.mono P3_y2.out.size))
    clear P3_y2
    have P4_W2 := Lib.hid (E3.out.trans (E4.out.mono E3.out.size))
    go_wp2
    go_ret
    exact ⟨rfl, P4_w.out⟩
  have hn60 : n ≤ 60 := by
    have h1 := HL.out
    rw [HN.out] at h1
    exact h1
  go_wp2
  clear c_X2 c_X2_1
  have ZX0 := Lib.hid (X0.out.below P3_y0.out X0.out.lt)
  have ZX1 := Lib.hid (X1.out.below P3_y1.out X1.out.lt)
  have ZX2 := Lib.hid (X2.out.below P3_y2.out X2.out.lt)
  have ZHR := Lib.hid ((HR.out.below P3_w.out).more P3_w.out.size)
  have ZHS := Lib.hid ((HS.out.below P3_w.out).more P3_w.out.size)
  go_loopw [7] (fun x wr => ∃ i : Nat, i ≤ n ∧ x = .int .i64 (i : Int) ∧ Hid (Below W3.heap.size W3 wr)) (fun x _ => n - (intOf x).toNat)
  case atStart => exact ⟨0, by omega, rfl, Below.refl _ _⟩
  case round =>
    obtain ⟨i, hi, rfl, EL⟩ := hrel
    have P4_w := Lib.hid (P3_w.out.trans (EL.out.mono P3_w.out.size))
    clear P3_w
    have P4_y0 := Lib.hid (P3_y0.out.trans (EL.out.mono P3_y0.out.size))
    clear P3_y0
    have P4_y1 := Lib.hid (P3_y1.out.trans (EL.out.mono P3_y1.out.size))
    clear P3_y1
    have P4_y2 := Lib.hid (P3_y2.out.trans (EL.out.mono P3_y2.out.size))
    clear P3_y2
    have P4_W2 := Lib.hid (E3.out.trans (EL.out.mono E3.out.size))
    have YZX0 := Lib.hid (ZX0.out.below EL.out ZX0.out.lt)
    have YZX1 := Lib.hid (ZX1.out.below EL.out ZX1.out.lt)
    have YZX2 := Lib.hid (ZX2.out.below EL.out ZX2.out.lt)
    have YZHR := Lib.hid ((ZHR.out.below EL.out).more EL.out.size)
    have YZHS := Lib.hid ((ZHS.out.below EL.out).more EL.out.size)
    have ca := YZX0.out.cell 0
    by_cases hi2 : i < n
    · have zi : (i : Int) < (n : Int) := by omega
      obtain ⟨a, hA, c0, c1, c2⟩ := YZHR.out.atWa i (by rw [HN.out]; exact hi2)
      subst hA
      clear c0 c1 c2
      obtain ⟨x9, hx⟩ : ∃ x, l.getD i wa0 = x := ⟨_, rfl⟩
      have HX := Lib.hid hx
      obtain ⟨B, hB⟩ : ∃ B, touchB c x9 = B := ⟨_, rfl⟩
      have HBB := Lib.hid hB
      clear hx hB
      go_wp2
      clear ca
      refine wp_region_rely2 20 0 (fun x => ⟨#[.agg #[Value.slice (some a) n cp], .agg #[Value.slice A2 k cp2], .agg (chc c).toArray, .pointer (some { block := gb0, off := 0 }), .pointer (some { block := gb1, off := 0 }), .pointer (some { block := gb2, off := 0 }), u6, .int IntKind.i64 ↑i, .agg #[Value.slice (some a) n cp], .bool true, .bool false, .bool false, .agg #[Value.slice A2 k cp2], .bool true, .bool false, .bool false, .bool false, .pointer (some { block := gb2, off := 1 }), txt (cP c), .int IntKind.i64 ↑kp, .bool (decide ((300 : Int) < (kp : Int))), .bool (decide ((300 : Int) < (kp : Int))), undef, .int IntKind.i64 ↑i, .pointer (some { block := gb0, off := 0 }), .slice (some a) n cp, .int IntKind.i64 ↑n, .bool true, u28, u29, x 0, x 1, x 2, x 3, x 4, x 5, x 6, x 7, x 8, x 9, x 10, x 11, x 12, x 13, x 14, x 15, x 16, x 17, x 18, x 19, undef, undef, undef, undef, undef, undef, undef, undef, undef, undef, undef, undef, undef, undef, undef, undef, undef, undef, undef, undef], []⟩) (fun jj => ([eqV (.agg (chc c).toArray), eqV (.pointer (some ⟨gb0, 0, none⟩)), eqV (.slice (some a) n cp), eqV (.int IntKind.i64 ↑i), eqV (.pointer (some (a.add (i * 3)))), eqV (.agg (wac x9).toArray), (eqV (.bool B)), eqV (.pointer (some ⟨gb2, 0, none⟩)), eqV (.int .i64 (cK c)), eqV (.pointer (some ⟨gb2, 1, none⟩)), eqV (txt (cP c)), eqV (.agg (chc c).toArray), eqV (.pointer (some ⟨gb0, 0, none⟩)), eqV (.slice (some a) n cp), eqV (.int IntKind.i64 ↑i), eqV (.pointer (some (a.add (i * 3)))), eqV (.agg (wac x9).toArray), (eqV (.agg (wac x9).toArray)), (eqV (.bool B)), eqV (.bool false)] : List (Value → World → Prop)).getD jj (fun _ _ => True)) rfl ⟨fun kk => [_, _, _, _, _, _, _, _, _, _, _, _, _, _, _, _, _, _, _, _].getD kk undef, rfl⟩ (by kernel_rfl) (by kernel_rfl) ?steps ?fin
      case steps =>
        refine StepsAt.val 0 (.agg (chc c).toArray) rfl (fun _ _ => rfl) rfl rfl (fun x wx hb hd => ?_) ?_
        · have cc := ((YZX2.out.below hb YZX2.out.lt).at_ 0 _ rfl)
          have cd := ((YZX2.out.below hb YZX2.out.lt).at_ 1 _ rfl)
          first | (go_simp; done) | (go_simp; rfl)
        refine StepsAt.val 1 (.pointer (some ⟨gb0, 0, none⟩)) rfl (fun _ _ => rfl) rfl rfl (fun x wx hb hd => ?_) ?_
        · first | (go_simp; done) | (go_simp; rfl)
        refine StepsAt.val 2 (.slice (some a) n cp) rfl (fun _ _ => rfl) rfl rfl (fun x wx hb hd => ?_) ?_
        · have h1 : x 1 = .pointer (some ⟨gb0, 0, none⟩) := hd 1 (by kernel_rfl)
          have cc := ((YZX0.out.below hb YZX0.out.lt).cell 0).trans (show _ = some (.slice (some a) n cp) from rfl)
          rw [h1]
          first | (go_simp; done) | (go_simp; rfl)
        refine StepsAt.val 3 (.int IntKind.i64 ↑i) rfl (fun _ _ => rfl) rfl rfl (fun x wx hb hd => ?_) ?_
        · first | (go_simp; done) | (go_simp; rfl)
        refine StepsAt.val 4 (.pointer (some (a.add (i * 3)))) rfl (fun _ _ => rfl) rfl rfl (fun x wx hb hd => ?_) ?_
        · have h2 : x 2 = .slice (some a) n cp := hd 2 (by kernel_rfl)
          have h3 : x 3 = .int IntKind.i64 ↑i := hd 3 (by kernel_rfl)
          rw [h2, h3]
          first | (go_simp; done) | (go_simp; rfl)
        refine StepsAt.val 5 (.agg (wac x9).toArray) rfl (fun _ _ => rfl) rfl rfl (fun x wx hb hd => ?_) ?_
        · have h4 : x 4 = .pointer (some (a.add (i * 3))) := hd 4 (by kernel_rfl)
          obtain ⟨a9, hA9, cc0, cc1, cc2⟩ := (YZHR.out.below hb).atWa i (by rw [HN.out]; exact hi2)
          obtain rfl : a = a9 := Option.some.inj hA9
          rw [HX.out] at cc0 cc1 cc2
          rw [h4]
          first | (go_simp; done) | (go_simp; rfl)
        refine StepsAt.cons 6 (fun _ _ _ h hb => h) (fun _ _ => rfl) rfl rfl (fun x wx hb hd K hK => ?_) ?_
        · have h0 : Hid (x 0 = .agg (chc c).toArray) := hd 0 (by kernel_rfl)
          have h5 : Hid (x 5 = .agg (wac x9).toArray) := hd 5 (by kernel_rfl)
          go_simp
          refine calls_args (args2 := #[.agg (chc c).toArray, .agg (wac x9).toArray]) (by rw [h0.out, h5.out]) ?_
          refine (waTouchIs c x9 B HBB.out _).mono ?_
          rintro e w99 ⟨rfl, hb99⟩
          exact hK.out _ _ hb99 rfl
        refine StepsAt.val 7 (.pointer (some ⟨gb2, 0, none⟩)) rfl (fun _ _ => rfl) rfl rfl (fun x wx hb hd => ?_) ?_
        · first | (go_simp; done) | (go_simp; rfl)
        refine StepsAt.val 8 (.int .i64 (cK c)) rfl (fun _ _ => rfl) rfl rfl (fun x wx hb hd => ?_) ?_
        · have h7 : x 7 = .pointer (some ⟨gb2, 0, none⟩) := hd 7 (by kernel_rfl)
          have cc := ((YZX2.out.below hb YZX2.out.lt).at_ 0 _ rfl)
          have cd := ((YZX2.out.below hb YZX2.out.lt).at_ 1 _ rfl)
          rw [h7]
          first | (go_simp; done) | (go_simp; rfl)
        refine StepsAt.val 9 (.pointer (some ⟨gb2, 1, none⟩)) rfl (fun _ _ => rfl) rfl rfl (fun x wx hb hd => ?_) ?_
        · first | (go_simp; done) | (go_simp; rfl)
        refine StepsAt.val 10 (txt (cP c)) rfl (fun _ _ => rfl) rfl rfl (fun x wx hb hd => ?_) ?_
        · have h9 : x 9 = .pointer (some ⟨gb2, 1, none⟩) := hd 9 (by kernel_rfl)
          have cc := ((YZX2.out.below hb YZX2.out.lt).at_ 0 _ rfl)
          have cd := ((YZX2.out.below hb YZX2.out.lt).at_ 1 _ rfl)
          rw [h9]
          first | (go_simp; done) | (go_simp; rfl)
        refine StepsAt.val 11 (.agg (chc c).toArray) rfl (fun _ _ => rfl) rfl rfl (fun x wx hb hd => ?_) ?_
        · have h8 : x 8 = .int .i64 (cK c) := hd 8 (by kernel_rfl)
          have h10 : x 10 = txt (cP c) := hd 10 (by kernel_rfl)
          rw [h8, h10]
          first | (go_simp; done) | (go_simp; rfl)
        refine StepsAt.val 12 (.pointer (some ⟨gb0, 0, none⟩)) rfl (fun _ _ => rfl) rfl rfl (fun x wx hb hd => ?_) ?_
        · first | (go_simp; done) | (go_simp; rfl)
        refine StepsAt.val 13 (.slice (some a) n cp) rfl (fun _ _ => rfl) rfl rfl (fun x wx hb hd => ?_) ?_
        · have h12 : x 12 = .pointer (some ⟨gb0, 0, none⟩) := hd 12 (by kernel_rfl)
          have cc := ((YZX0.out.below hb YZX0.out.lt).cell 0).trans (show _ = some (.slice (some a) n cp) from rfl)
          rw [h12]
          first | (go_simp; done) | (go_simp; rfl)
        refine StepsAt.val 14 (.int IntKind.i64 ↑i) rfl (fun _ _ => rfl) rfl rfl (fun x wx hb hd => ?_) ?_
        · first | (go_simp; done) | (go_simp; rfl)
        refine StepsAt.val 15 (.pointer (some (a.add (i * 3)))) rfl (fun _ _ => rfl) rfl rfl (fun x wx hb hd => ?_) ?_
        · have h13 : x 13 = .slice (some a) n cp := hd 13 (by kernel_rfl)
          have h14 : x 14 = .int IntKind.i64 ↑i := hd 14 (by kernel_rfl)
          rw [h13, h14]
          first | (go_simp; done) | (go_simp; rfl)
        refine StepsAt.val 16 (.agg (wac x9).toArray) rfl (fun _ _ => rfl) rfl rfl (fun x wx hb hd => ?_) ?_
        · have h15 : x 15 = .pointer (some (a.add (i * 3))) := hd 15 (by kernel_rfl)
          obtain ⟨a9, hA9, cc0, cc1, cc2⟩ := (YZHR.out.below hb).atWa i (by rw [HN.out]; exact hi2)
          obtain rfl : a = a9 := Option.some.inj hA9
          rw [HX.out] at cc0 cc1 cc2
          rw [h15]
          first | (go_simp; done) | (go_simp; rfl)
        refine StepsAt.cons 17 (fun _ _ _ h hb => h) (fun _ _ => rfl) rfl rfl (fun x wx hb hd K hK => ?_) ?_
        · have h16 : Hid (x 16 = .agg (wac x9).toArray) := hd 16 (by kernel_rfl)
          go_simp
          refine calls_args (args2 := #[.agg (wac x9).toArray]) (by rw [h16.out]) ?_
          refine (oneW_any x9 _).mono ?_
          rintro e w99 ⟨rfl, hb99⟩
          exact hK.out _ _ hb99 rfl
        refine StepsAt.cons 18 (fun _ _ _ h hb => h) (fun _ _ => rfl) rfl rfl (fun x wx hb hd K hK => ?_) ?_
        · have h11 : Hid (x 11 = .agg (chc c).toArray) := hd 11 (by kernel_rfl)
          have h17 : Hid (x 17 = .agg (wac x9).toArray) := hd 17 (by kernel_rfl)
          go_simp
          refine calls_args (args2 := #[.agg (chc c).toArray, .agg (wac x9).toArray]) (by rw [h11.out, h17.out]) ?_
          refine (touchIs c x9 B HBB.out _).mono ?_
          rintro e w99 ⟨rfl, hb99⟩
          exact hK.out _ _ hb99 rfl
        refine StepsAt.val 19 (.bool false) rfl (fun _ _ => rfl) rfl rfl (fun x wx hb hd => ?_) ?_
        · have h6 : x 6 = .bool B := hd 6 (by kernel_rfl)
          have h18 : x 18 = .bool B := hd 18 (by kernel_rfl)
          rw [h6, h18]
          first | (go_simp; done) | (go_simp; rfl) | (go_simp; simp)
        exact StepsAt.done
      case fin =>
        intro x wx hb hd
        have hx0 : x 0 = .agg (chc c).toArray := hd 0 (by omega)
        have hx1 : x 1 = .pointer (some ⟨gb0, 0, none⟩) := hd 1 (by omega)
        have hx2 : x 2 = .slice (some a) n cp := hd 2 (by omega)
        have hx3 : x 3 = .int IntKind.i64 ↑i := hd 3 (by omega)
        have hx4 : x 4 = .pointer (some (a.add (i * 3))) := hd 4 (by omega)
        have hx5 : x 5 = .agg (wac x9).toArray := hd 5 (by omega)
        have hx6 : x 6 = .bool B := hd 6 (by omega)
        have hx7 : x 7 = .pointer (some ⟨gb2, 0, none⟩) := hd 7 (by omega)
        have hx8 : x 8 = .int .i64 (cK c) := hd 8 (by omega)
        have hx9 : x 9 = .pointer (some ⟨gb2, 1, none⟩) := hd 9 (by omega)
        have hx10 : x 10 = txt (cP c) := hd 10 (by omega)
        have hx11 : x 11 = .agg (chc c).toArray := hd 11 (by omega)
        have hx12 : x 12 = .pointer (some ⟨gb0, 0, none⟩) := hd 12 (by omega)
        have hx13 : x 13 = .slice (some a) n cp := hd 13 (by omega)
        have hx14 : x 14 = .int IntKind.i64 ↑i := hd 14 (by omega)
        have hx15 : x 15 = .pointer (some (a.add (i * 3))) := hd 15 (by omega)
        have hx16 : x 16 = .agg (wac x9).toArray := hd 16 (by omega)
        have hx17 : x 17 = .agg (wac x9).toArray := hd 17 (by omega)
        have hx18 : x 18 = .bool B := hd 18 (by omega)
        have hx19 : x 19 = .bool false := hd 19 (by omega)
        refine AnyTill.any (S := fun _ => True) (m := 20) _ _ _ _ ?_
        refine AnyTill.done (by kernel_rfl) ?_
        refine NoPanic.normal ?_
        try dsimp only
        rw [hx0, hx1, hx2, hx3, hx4, hx5, hx6, hx7, hx8, hx9, hx10, hx11, hx12, hx13, hx14, hx15, hx16, hx17, hx18, hx19]
        have ER6 := Lib.hid hb
        clear hx0 hx1 hx2 hx3 hx4 hx5 hx6 hx7 hx8 hx9 hx10 hx11 hx12 hx13 hx14 hx15 hx16 hx17 hx18 hx19 hd hb
        have EL2 : Hid (Below W3.heap.size W3 wx) := EL.out.trans (ER6.out.mono EL.out.size)
        go_wp2
        go_roundw
        case rel => exact ⟨i + 1, by omega, by go_num, EL2⟩
        case measure => simp [intOf]; omega
    have hE : i = n := by omega
    subst hE
    go_wp2
    clear ca
    refine wp_region_rely2 21 0 (fun x => ⟨#[.agg #[Value.slice A i cp], .agg #[Value.slice A2 k cp2], .agg (chc c).toArray, .pointer (some { block := gb0, off := 0 }), .pointer (some { block := gb1, off := 0 }), .pointer (some { block := gb2, off := 0 }), x 20, .int IntKind.i64 ↑i, .agg #[Value.slice A i cp], .bool true, .bool false, .bool false, .agg #[Value.slice A2 k cp2], .bool true, .bool false, .bool false, .bool false, .pointer (some { block := gb2, off := 1 }), txt (cP c), .int IntKind.i64 ↑kp, .bool (decide ((300 : Int) < (kp : Int))), .bool (decide ((300 : Int) < (kp : Int))), undef, .int IntKind.i64 ↑i, .pointer (some { block := gb0, off := 0 }), .slice A i cp, .int IntKind.i64 ↑i, .bool false, u28, u29, u30, u31, u32, u33, u34, u35, u36, u37, u38, u39, u40, u41, u42, u43, u44, u45, u46, u47, u48, u49, x 0, x 1, x 2, x 3, x 4, x 5, x 6, x 7, x 8, x 9, x 10, x 11, x 12, x 13, x 14, x 15, x 16, x 17, x 18, x 19], []⟩) (fun jj => ([(eqV (.bool true)), eqV (.bool true), eqV (.agg #[(.slice A i cp)]), (eqV (.bool RL)), eqV (.agg #[(.slice A i cp)]), (PlainW l), (eqV (.bool RL)), eqV (.bool true), eqV (.bool true), eqV (.bool true), eqV (.agg #[(.slice A i cp)]), eqV (.agg #[(.slice A2 k cp2)]), (eqV (.bool SM)), eqV (.agg #[(.slice A i cp)]), (PlainW l), eqV (.agg #[(.slice A2 k cp2)]), (PlainW m), (eqV (.bool SM)), eqV (.bool true), eqV (.bool true), eqV (.bool true)] : List (Value → World → Prop)).getD jj (fun _ _ => True)) rfl ⟨fun kk => [_, _, _, _, _, _, _, _, _, _, _, _, _, _, _, _, _, _, _, _, _].getD kk undef, rfl⟩ (by kernel_rfl) (by kernel_rfl) ?steps ?fin
    case steps =>
      refine StepsAt.cons 0 (fun _ _ _ h hb => h) (fun _ _ => rfl) rfl rfl (fun x wy hb hd K hK => ?_) ?_
      · go_simp
        refine (alive11 _).mono ?_
        rintro e w99 ⟨rfl, hb99⟩
        exact hK.out _ _ hb99 rfl
      refine StepsAt.val 1 (.bool true) rfl (fun _ _ => rfl) rfl rfl (fun x wy hb hd => ?_) ?_
      · have h0 : x 0 = .bool true := hd 0 (by kernel_rfl)
        rw [h0]
        first | (go_simp; done) | (go_simp; rfl)
      refine StepsAt.valG 2 (.agg #[(.slice A i cp)]) rfl (fun _ _ => rfl) rfl (fun x wy hd => ?_) (fun x wy hb hd => ?_) ?_
      · have hG : x 1 = .bool true := hd 1 (by kernel_rfl)
        simp [Region.wanted, yielded, hG]
      · have cc := ((YZX0.out.below hb YZX0.out.lt).cell 0).trans (show _ = some ((.slice A i cp)) from rfl)
        first | (go_simp; done) | (go_simp; rfl)
      refine StepsAt.consG 3 (fun _ _ _ h hb => h) (fun _ _ => rfl) rfl (fun x wy hd => ?_) (fun x wy hb hd K hK => ?_) ?_
      · have hG : x 1 = .bool true := hd 1 (by kernel_rfl)
        simp [Region.wanted, yielded, hG]
      · have h2 : Hid (x 2 = .agg #[(.slice A i cp)]) := hd 2 (by kernel_rfl)
        go_simp
        refine calls_args (args2 := #[.agg #[(.slice A i cp)]]) (by rw [h2.out]) ?_
        refine (waRightIs l RL HRL.out (.slice A i cp) _ ((YZHR.out.below hb).more hb.size) HL.out).mono ?_
        rintro e w99 ⟨rfl, hb99⟩
        exact hK.out _ _ hb99 rfl
      refine StepsAt.valG 4 (.agg #[(.slice A i cp)]) rfl (fun _ _ => rfl) rfl (fun x wy hd => ?_) (fun x wy hb hd => ?_) ?_
      · have hG : x 1 = .bool true := hd 1 (by kernel_rfl)
        simp [Region.wanted, yielded, hG]
      · have cc := ((YZX0.out.below hb YZX0.out.lt).cell 0).trans (show _ = some ((.slice A i cp)) from rfl)
        first | (go_simp; done) | (go_simp; rfl)
      refine StepsAt.consG 5 (fun _ _ _ h hb => h.keep hb) (fun _ _ => rfl) rfl (fun x wy hd => ?_) (fun x wy hb hd K hK => ?_) ?_
      · have hG : x 1 = .bool true := hd 1 (by kernel_rfl)
        simp [Region.wanted, yielded, hG]
      · have h4 : Hid (x 4 = .agg #[(.slice A i cp)]) := hd 4 (by kernel_rfl)
        go_simp
        refine calls_args (args2 := #[.agg #[(.slice A i cp)]]) (by rw [h4.out]) ?_
        refine (plainW_any l (.slice A i cp) _ ((YZHR.out.below hb).more hb.size) (by have := HL.out; omega)).mono ?_
        rintro e w99 ⟨v99, rfl, hrd, hb99⟩
        exact hK.out _ _ hb99 ⟨v99, rfl, hrd⟩
      refine StepsAt.consG 6 (fun _ _ _ h hb => h) (fun _ _ => rfl) rfl (fun x wy hd => ?_) (fun x wy hb hd K hK => ?_) ?_
      · have hG : x 1 = .bool true := hd 1 (by kernel_rfl)
        simp [Region.wanted, yielded, hG]
      · have h5 : PlainW l (x 5) wy := hd 5 (by kernel_rfl)
        go_simp
        obtain ⟨v95, hv95, hr95⟩ := h5
        refine calls_args (args2 := #[.agg #[v95]]) (by rw [hv95]) ?_
        refine (rfRightWIs l RL HRL.out v95 _ hr95).mono ?_
        rintro e w99 ⟨rfl, hb99⟩
        exact hK.out _ _ hb99 rfl
      refine StepsAt.valG 7 (.bool true) rfl (fun _ _ => rfl) rfl (fun x wy hd => ?_) (fun x wy hb hd => ?_) ?_
      · have hG : x 1 = .bool true := hd 1 (by kernel_rfl)
        simp [Region.wanted, yielded, hG]
      · have h3 : x 3 = .bool RL := hd 3 (by kernel_rfl)
        have h6 : x 6 = .bool RL := hd 6 (by kernel_rfl)
        rw [h3, h6]
        first | (go_simp; done) | (go_simp; rfl) | (go_simp; simp)
      refine StepsAt.val 8 (.bool true) rfl (fun _ _ => rfl) rfl rfl (fun x wy hb hd => ?_) ?_
      · have h1 : x 1 = .bool true := hd 1 (by kernel_rfl)
        have h7 : x 7 = .bool true := hd 7 (by kernel_rfl)
        rw [h1, h7]
        first | (go_simp; done) | (go_simp; rfl)
      refine StepsAt.val 9 (.bool true) rfl (fun _ _ => rfl) rfl rfl (fun x wy hb hd => ?_) ?_
      · have h8 : x 8 = .bool true := hd 8 (by kernel_rfl)
        rw [h8]
        first | (go_simp; done) | (go_simp; rfl)
      refine StepsAt.valG 10 (.agg #[(.slice A i cp)]) rfl (fun _ _ => rfl) rfl (fun x wy hd => ?_) (fun x wy hb hd => ?_) ?_
      · have hG : x 9 = .bool true := hd 9 (by kernel_rfl)
        simp [Region.wanted, yielded, hG]
      · have cc := ((YZX0.out.below hb YZX0.out.lt).cell 0).trans (show _ = some ((.slice A i cp)) from rfl)
        first | (go_simp; done) | (go_simp; rfl)
      refine StepsAt.valG 11 (.agg #[(.slice A2 k cp2)]) rfl (fun _ _ => rfl) rfl (fun x wy hd => ?_) (fun x wy hb hd => ?_) ?_
      · have hG : x 9 = .bool true := hd 9 (by kernel_rfl)
        simp [Region.wanted, yielded, hG]
      · have cc := ((YZX1.out.below hb YZX1.out.lt).cell 0).trans (show _ = some ((.slice A2 k cp2)) from rfl)
        first | (go_simp; done) | (go_simp; rfl)
      refine StepsAt.consG 12 (fun _ _ _ h hb => h) (fun _ _ => rfl) rfl (fun x wy hd => ?_) (fun x wy hb hd K hK => ?_) ?_
      · have hG : x 9 = .bool true := hd 9 (by kernel_rfl)
        simp [Region.wanted, yielded, hG]
      · have h10 : Hid (x 10 = .agg #[(.slice A i cp)]) := hd 10 (by kernel_rfl)
        have h11 : Hid (x 11 = .agg #[(.slice A2 k cp2)]) := hd 11 (by kernel_rfl)
        go_simp
        refine calls_args (args2 := #[.agg #[(.slice A i cp)], .agg #[(.slice A2 k cp2)]]) (by rw [h10.out, h11.out]) ?_
        refine (waSameIs l m SM HSM.out (.slice A i cp) (.slice A2 k cp2) _ ((YZHR.out.below hb).more hb.size) ((YZHS.out.below hb).more hb.size) HL.out HM.out).mono ?_
        rintro e w99 ⟨rfl, hb99⟩
        exact hK.out _ _ hb99 rfl
      refine StepsAt.valG 13 (.agg #[(.slice A i cp)]) rfl (fun _ _ => rfl) rfl (fun x wy hd => ?_) (fun x wy hb hd => ?_) ?_
      · have hG : x 9 = .bool true := hd 9 (by kernel_rfl)
        simp [Region.wanted, yielded, hG]
      · have cc := ((YZX0.out.below hb YZX0.out.lt).cell 0).trans (show _ = some ((.slice A i cp)) from rfl)
        first | (go_simp; done) | (go_simp; rfl)
      refine StepsAt.consG 14 (fun _ _ _ h hb => h.keep hb) (fun _ _ => rfl) rfl (fun x wy hd => ?_) (fun x wy hb hd K hK => ?_) ?_
      · have hG : x 9 = .bool true := hd 9 (by kernel_rfl)
        simp [Region.wanted, yielded, hG]
      · have h13 : Hid (x 13 = .agg #[(.slice A i cp)]) := hd 13 (by kernel_rfl)
        go_simp
        refine calls_args (args2 := #[.agg #[(.slice A i cp)]]) (by rw [h13.out]) ?_
        refine (plainW_any l (.slice A i cp) _ ((YZHR.out.below hb).more hb.size) (by have := HL.out; omega)).mono ?_
        rintro e w99 ⟨v99, rfl, hrd, hb99⟩
        exact hK.out _ _ hb99 ⟨v99, rfl, hrd⟩
      refine StepsAt.valG 15 (.agg #[(.slice A2 k cp2)]) rfl (fun _ _ => rfl) rfl (fun x wy hd => ?_) (fun x wy hb hd => ?_) ?_
      · have hG : x 9 = .bool true := hd 9 (by kernel_rfl)
        simp [Region.wanted, yielded, hG]
      · have cc := ((YZX1.out.below hb YZX1.out.lt).cell 0).trans (show _ = some ((.slice A2 k cp2)) from rfl)
        first | (go_simp; done) | (go_simp; rfl)
      refine StepsAt.consG 16 (fun _ _ _ h hb => h.keep hb) (fun _ _ => rfl) rfl (fun x wy hd => ?_) (fun x wy hb hd K hK => ?_) ?_
      · have hG : x 9 = .bool true := hd 9 (by kernel_rfl)
        simp [Region.wanted, yielded, hG]
      · have h15 : Hid (x 15 = .agg #[(.slice A2 k cp2)]) := hd 15 (by kernel_rfl)
        go_simp
        refine calls_args (args2 := #[.agg #[(.slice A2 k cp2)]]) (by rw [h15.out]) ?_
        refine (plainW_any m (.slice A2 k cp2) _ ((YZHS.out.below hb).more hb.size) (by have := HM.out; omega)).mono ?_
        rintro e w99 ⟨v99, rfl, hrd, hb99⟩
        exact hK.out _ _ hb99 ⟨v99, rfl, hrd⟩
      refine StepsAt.consG 17 (fun _ _ _ h hb => h) (fun _ _ => rfl) rfl (fun x wy hd => ?_) (fun x wy hb hd K hK => ?_) ?_
      · have hG : x 9 = .bool true := hd 9 (by kernel_rfl)
        simp [Region.wanted, yielded, hG]
      · have h14 : PlainW l (x 14) wy := hd 14 (by kernel_rfl)
        have h16 : PlainW m (x 16) wy := hd 16 (by kernel_rfl)
        go_simp
        obtain ⟨v98, hv98, hr98⟩ := h14
        obtain ⟨v99, hv99, hr99⟩ := h16
        refine calls_args (args2 := #[.agg #[v98], .agg #[v99]]) (by rw [hv98, hv99]) ?_
        refine (rfSameWIs l m SM HSM.out v98 v99 _ hr98 hr99).mono ?_
        rintro e w99 ⟨rfl, hb99⟩
        exact hK.out _ _ hb99 rfl
      refine StepsAt.valG 18 (.bool true) rfl (fun _ _ => rfl) rfl (fun x wy hd => ?_) (fun x wy hb hd => ?_) ?_
      · have hG : x 9 = .bool true := hd 9 (by kernel_rfl)
        simp [Region.wanted, yielded, hG]
      · have h12 : x 12 = .bool SM := hd 12 (by kernel_rfl)
        have h17 : x 17 = .bool SM := hd 17 (by kernel_rfl)
        rw [h12, h17]
        first | (go_simp; done) | (go_simp; rfl) | (go_simp; simp)
      refine StepsAt.val 19 (.bool true) rfl (fun _ _ => rfl) rfl rfl (fun x wy hb hd => ?_) ?_
      · have h9 : x 9 = .bool true := hd 9 (by kernel_rfl)
        have h18 : x 18 = .bool true := hd 18 (by kernel_rfl)
        rw [h9, h18]
        first | (go_simp; done) | (go_simp; rfl)
      refine StepsAt.val 20 (.bool true) rfl (fun _ _ => rfl) rfl rfl (fun x wy hb hd => ?_) ?_
      · have h19 : x 19 = .bool true := hd 19 (by kernel_rfl)
        rw [h19]
        first | (go_simp; done) | (go_simp; rfl)
      exact StepsAt.done
    case fin =>
      intro x wy hb hd
      have hx0 : x 0 = .bool true := hd 0 (by omega)
      have hx1 : x 1 = .bool true := hd 1 (by omega)
      have hx2 : x 2 = .agg #[(.slice A i cp)] := hd 2 (by omega)
      have hx3 : x 3 = .bool RL := hd 3 (by omega)
      have hx4 : x 4 = .agg #[(.slice A i cp)] := hd 4 (by omega)
      have hx6 : x 6 = .bool RL := hd 6 (by omega)
      have hx7 : x 7 = .bool true := hd 7 (by omega)
      have hx8 : x 8 = .bool true := hd 8 (by omega)
      have hx9 : x 9 = .bool true := hd 9 (by omega)
      have hx10 : x 10 = .agg #[(.slice A i cp)] := hd 10 (by omega)
      have hx11 : x 11 = .agg #[(.slice A2 k cp2)] := hd 11 (by omega)
      have hx12 : x 12 = .bool SM := hd 12 (by omega)
      have hx13 : x 13 = .agg #[(.slice A i cp)] := hd 13 (by omega)
      have hx15 : x 15 = .agg #[(.slice A2 k cp2)] := hd 15 (by omega)
      have hx17 : x 17 = .bool SM := hd 17 (by omega)
      have hx18 : x 18 = .bool true := hd 18 (by omega)
      have hx19 : x 19 = .bool true := hd 19 (by omega)
      have hx20 : x 20 = .bool true := hd 20 (by omega)
      refine AnyTill.any (S := fun _ => True) (m := 21) _ _ _ _ ?_
      refine AnyTill.done (by kernel_rfl) ?_
      refine NoPanic.normal ?_
      try dsimp only
      rw [hx0, hx1, hx2, hx3, hx4, hx6, hx7, hx8, hx9, hx10, hx11, hx12, hx13, hx15, hx17, hx18, hx19, hx20]
      have ER8 := Lib.hid hb
      clear hx0 hx1 hx2 hx3 hx4 hx6 hx7 hx8 hx9 hx10 hx11 hx12 hx13 hx15 hx17 hx18 hx19 hx20 hd hb
      have P5_w := Lib.hid (P4_w.out.trans (ER8.out.mono P4_w.out.size))
      clear P4_w
      have P5_y0 := Lib.hid (P4_y0.out.trans (ER8.out.mono P4_y0.out.size))
      clear P4_y0
      have P5_y1 := Lib.hid (P4_y1.out.trans (ER8.out.mono P4_y1.out.size))
      clear P4_y1
      have P5_y2 := Lib.hid (P4_y2.out.trans (ER8.out.mono P4_y2.out.size))
      clear P4_y2
      have P5_W2 := Lib.hid (P4_W2.out.trans (ER8.out.mono P4_W2.out.size))
      clear P4_W2
      have P5_W3 := Lib.hid (EL.out.trans (ER8.out.mono EL.out.size))
      go_wp2
      go_ret
      exact ⟨rfl, P5_w.out⟩
end Go.Proofs.Ytmiomfonglmfjaa
