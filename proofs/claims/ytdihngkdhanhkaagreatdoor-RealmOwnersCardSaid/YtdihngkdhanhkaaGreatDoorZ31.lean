/-
  Texts JN.
-/
import Derived.Test.YtdihngkdhanhkaaGreatDoorZ03
import Derived.Test.YtdihngkdhanhkaaGreatDoorZ16
namespace Go.Proofs.YtdihngkdhanhkaaGreatDoor
open Go.RowKit

theorem rowBP : ∃ d, Tryz.prog.underlying 27 = some d ∧ d.isRow = true := ⟨_, Tryz.underlying27, rfl⟩
theorem sBP : (Tryz.prog.info? 27).map (·.size) = some 2 := by kernel_rfl
theorem zBP : (Tryz.prog.info? 27).map (·.zero) = some (some (.agg [Value.int .i64 0, .slice none 0 0].toArray)) := by kernel_rfl

set_option maxRecDepth 100000 in
set_option maxHeartbeats 2000000 in
theorem bkNew_any (w : World) : Calls Tryz.prog 49 #[] w (Book1 0 [] w) := by
  obtain ⟨d30, hu30, hd30⟩ := rowBP
  have HU := Lib.hid hu30
  have HD := Lib.hid hd30
  clear hu30 hd30
  go_enter Tryz.func49, Tryz.ntmps49
  go_wp2_with (refine wpList_alloc_blk rfl 27 rfl [.int .i64 0, .slice none 0 0] zBP ?_)
  intro w1 a1 a2 a3
  obtain ⟨g0, hg0⟩ : ∃ g, w.heap.size = g := ⟨_, rfl⟩
  have X0 := Lib.hid a1
  have HB := Lib.hid a3
  rw [hg0] at X0 ⊢
  clear a1 a2 a3
  go_wp2_with (refine wpList_store_to rfl 27 _ _ rfl g0 [.int .i64 0, .slice none 0 0] [.int .i64 0, .slice none 0 0] 27 rfl rfl X0.out sBP rfl (book_one _ _ _ _) ?_)
  intro w2 e1 e2 e3 e4
  go_wp2
  refine bodyPost_ret (v := .agg [Value.int .i64 0, .slice none 0 0].toArray) ?_ rfl ?_
  · exact ret_blkUL rfl _ _ g0 27 [.int .i64 0, .slice none 0 0] rfl e1 d30 HU.out HD.out sBP
  · exact ⟨_, rfl, RdE.nil _ _, HB.out.trans (e3.mono (by omega))⟩

/-- A book whose row is its own. -/
def Own1 (t : Int) (l : List Se) (w : World) (e : Ending) (w' : World) : Prop := ∃ u, e = .returned (.agg #[.int .i64 t, u]) ∧ OwnE SeK 105 w' w.heap.size u l ∧ Below w.heap.size w w'
def OwnV (l : List Se) (B : Nat) (u : Value) (w : World) : Prop := OwnE SeK 105 w B u l
def OwnA (t : Int) (l : List Se) (B : Nat) (v : Value) (w : World) : Prop := ∃ u, v = .agg #[.int .i64 t, u] ∧ OwnE SeK 105 w B u l

set_option maxRecDepth 100000 in
set_option maxHeartbeats 4000000 in
theorem bkClone_any (t : Int) (l : List Se) (v : Value) (w : World) (hr : RdE SeK w.heap.size w v l) (hl : l.length ≤ 100000) : Calls Tryz.prog 193 #[.agg #[.int .i64 t, v]] w (Own1 t l w) := by
  obtain ⟨d30, hu30, hd30⟩ := rowBP
  have HU := Lib.hid hu30
  have HD := Lib.hid hd30
  have HR := Lib.hid hr
  have HL := Lib.hid hl
  clear hr hl hu30 hd30
  go_enter Tryz.func193, Tryz.ntmps193
  go_wp2_with (refine wpList_box_blk rfl 27 _ rfl [.int .i64 t, v] rfl ?_)
  intro w1 b1 b2 b3
  go_wp2_with (refine wpList_alloc_blk rfl 27 rfl [.int .i64 0, .slice none 0 0] zBP ?_)
  intro W a1 a2 a3
  obtain ⟨g0, hg0⟩ : ∃ g, w.heap.size = g := ⟨_, rfl⟩
  obtain ⟨g1, hg1⟩ : ∃ g, w.heap.size + 1 = g := ⟨_, rfl⟩
  have X0 := Lib.hid (b1.below a3 (by omega))
  have X1 := Lib.hid a1
  have HB := Lib.hid (b3.trans (a3.mono (by omega)))
  have HR2 := Lib.hid ((HR.out.below HB.out).more HB.out.size)
  have hgW : g1 < W.heap.size := by omega
  have hg0W : g0 < W.heap.size := by omega
  have hwg : w.heap.size ≤ g1 := by omega
  rw [hg1] at X1 ⊢
  rw [hg0] at X0 ⊢
  clear b1 b2 b3 a1 a2 a3 hg0 hg1 HR
  go_wp2
  refine wp_region_rely3 6 1 (fun x => ⟨#[.agg #[Value.int IntKind.i64 t, v], .pointer (some { block := g0, off := 0 }), .pointer (some { block := g1, off := 0 }), x 0, x 1, x 2, x 3, x 4, x 5], []⟩) (fun jj => ([eqV (.pointer (some ⟨g0, 0, none⟩)), eqV (.int .i64 t), eqV (.pointer (some ⟨g0, 1, none⟩)), eqV (v), (OwnV l W.heap.size), (OwnA t l W.heap.size)] : List (Value → World → Prop)).getD jj (fun _ _ => True)) rfl ⟨fun kk => [_, _, _, _, _, _].getD kk undef, rfl⟩ (by kernel_rfl) (by kernel_rfl) ?steps ?fin
  case steps =>
    refine StepsAt.val 0 (.pointer (some ⟨g0, 0, none⟩)) rfl (fun _ _ => rfl) rfl rfl (fun x wx hb hd => ?_) ?_
    · first | (go_simp; done) | (go_simp; rfl)
    refine StepsAt.val 1 (.int .i64 t) rfl (fun _ _ => rfl) rfl rfl (fun x wx hb hd => ?_) ?_
    · have h0 : x 0 = .pointer (some ⟨g0, 0, none⟩) := hd 0 (by kernel_rfl)
      have cc := (hb.cell hg0W).trans (X0.out.at_ 0 _ rfl)
      rw [h0]
      first | (go_simp; done) | (go_simp; rfl)
    refine StepsAt.val 2 (.pointer (some ⟨g0, 1, none⟩)) rfl (fun _ _ => rfl) rfl rfl (fun x wx hb hd => ?_) ?_
    · first | (go_simp; done) | (go_simp; rfl)
    refine StepsAt.val 3 (v) rfl (fun _ _ => rfl) rfl rfl (fun x wx hb hd => ?_) ?_
    · have h2 : x 2 = .pointer (some ⟨g0, 1, none⟩) := hd 2 (by kernel_rfl)
      have cc := (hb.cell hg0W).trans (X0.out.at_ 1 _ rfl)
      rw [h2]
      first | (go_simp; done) | (go_simp; rfl)
    refine StepsAt.cons 4 (fun _ _ _ h hb => OwnE.below h hb (Nat.le_refl _)) (fun _ _ => rfl) rfl rfl (fun x wx hb hd K hK => ?_) ?_
    · have h3 : Hid (x 3 = v) := hd 3 (by kernel_rfl)
      go_simp
      refine calls_args (args2 := #[v]) (by rw [h3.out]) ?_
      refine (clone_anySe l v _ ((HR2.out.below hb).more hb.size) HL.out).mono ?_
      rintro e w99 ⟨u, rfl, ho, hb99⟩
      exact hK.out _ _ hb99 (OwnE.base ho hb.size)
    refine StepsAt.cons 5 (fun _ _ _ h hb => (by obtain ⟨u, h1, h2⟩ := h; exact ⟨u, h1, OwnE.below h2 hb (Nat.le_refl _)⟩)) (fun _ _ => rfl) rfl rfl (fun x wx hb hd K hK => ?_) ?_
    · have h1 : Hid (x 1 = .int .i64 t) := hd 1 (by kernel_rfl)
      have h4 : OwnV l W.heap.size (x 4) wx := hd 4 (by kernel_rfl)
      obtain ⟨A, c, hu, -, -⟩ := (OwnE.rd h4).shape
      obtain ⟨LL, hLL⟩ : ∃ LL, l.length = LL := ⟨_, rfl⟩
      rw [hLL] at hu
      have h9 : OwnE SeK 105 wx W.heap.size (.slice A LL c) l := by rw [← hu]; exact h4
      have HO9 := Lib.hid h9
      have e1 := h1.out
      rw [e1, hu] at hK ⊢
      clear h9 h4 hLL hd e1 h1 hu
      go_simp
      exact hK.out _ _ (Below.refl _ _) ⟨_, rfl, HO9.out⟩
    exact StepsAt.done
  case fin =>
    intro x wx hb hd
    obtain ⟨u, hx5, ho⟩ : OwnA t l W.heap.size (x 5) wx := hd 5 (by omega)
    obtain ⟨A, c, hu, -, -⟩ := ho.rd.shape
    obtain ⟨LL, hLL⟩ : ∃ LL, l.length = LL := ⟨_, rfl⟩
    rw [hLL] at hu
    subst hu
    have HO := Lib.hid ho
    have HBx := Lib.hid hb
    have Xx := Lib.hid (X1.out.below hb hgW)
    rw [hx5]
    clear hd hb hx5 ho hLL
    refine AnyTill.any (S := fun _ => True) (m := 7) _ _ _ _ ?_
    refine AnyTill.one (i := 6) (by kernel_rfl) rfl (by rfl) (fun K hK => ?_)
    refine wp_of_list rfl (wpList_store_to rfl 27 _ _ rfl g1 [.int .i64 t, .slice A LL c] [.int .i64 0, .slice none 0 0] 27 rfl rfl Xx.out sBP rfl (book_one _ _ _ _) ?_)
    intro w9 e1 e2 e3 e4
    refine hK.out _ _ (.inr trivial) ?_
    clear hK K
    refine AnyTill.done (by kernel_rfl) ?_
    refine NoPanic.normal ?_
    try dsimp only
    have HO9 : Hid (OwnE SeK 105 w9 W.heap.size (.slice A LL c) l) := ownsRow_same HO.out (fun k hk => e4 k (by omega))
    have HB9 := Lib.hid (HB.out.trans ((HBx.out.mono HB.out.size).trans (e3.mono hwg)))
    go_wp2
    refine bodyPost_ret (v := .agg [Value.int .i64 t, .slice A LL c].toArray) ?_ rfl ?_
    · exact ret_blkUL rfl _ _ g1 27 [.int .i64 t, .slice A LL c] rfl e1 d30 HU.out HD.out sBP
    · exact ⟨_, rfl, OwnE.base HO9.out HB.out.size, HB9.out⟩

set_option maxRecDepth 100000 in
set_option maxHeartbeats 4000000 in
theorem bkSame_anyL (t s : Int) (l m : List Se) (v u : Value) (w : World) (hr : RdE SeK w.heap.size w v l) (hr2 : RdE SeK w.heap.size w u m) (_hl : l.length ≤ 1000) (_hm : m.length ≤ 1000) : Calls Tryz.prog 52 #[.agg #[.int .i64 t, v], .agg #[.int .i64 s, u]] w (One (.bool (sameB t s l m)) w) := by
  have HR := Lib.hid hr
  have HR2 := Lib.hid hr2
  clear hr hr2
  go_enter Tryz.func52, Tryz.ntmps52
  go_wp2_with (refine wpList_box_blk rfl 27 _ rfl [.int .i64 t, v] rfl ?_)
  intro w1 b1 b2 b3
  go_wp2_with (refine wpList_box_blk rfl 27 _ rfl [.int .i64 s, u] rfl ?_)
  intro w2 a1 a2 a3
  obtain ⟨g0, hg0⟩ : ∃ g, w.heap.size = g := ⟨_, rfl⟩
  obtain ⟨g1, hg1⟩ : ∃ g, w.heap.size + 1 = g := ⟨_, rfl⟩
  have X0 := Lib.hid (b1.below a3 (by omega))
  have HB := Lib.hid (b3.trans (a3.mono (by omega)))
  have hw2 : w.heap.size ≤ w2.heap.size := by omega
  have HRa := Lib.hid ((HR.out.below HB.out).more hw2)
  have HRb := Lib.hid ((HR2.out.below HB.out).more hw2)
  have X1 := Lib.hid a1
  rw [hg1] at X1 ⊢
  rw [hg0] at X0 ⊢
  have ca := X0.out.at_ 0 _ rfl
  have cb := X1.out.at_ 0 _ rfl
  have ca1 := X0.out.at_ 1 _ rfl
  have cb1 := X1.out.at_ 1 _ rfl
  clear b1 b2 b3 a1 a2 a3 HR HR2
  by_cases hts : t = s
  rotate_left
  · have HF : Hid (sameB t s l m = false) := by
      show _ = _
      unfold sameB
      rw [decide_eq_false hts]; rfl
    have hz : (t == s) = false := by rw [beq_eq_false_iff_ne]; exact hts
    clear hts
    go_wp2
    go_ret
    exact ⟨by rw [HF.out]; rfl, HB.out⟩
  have HE : Hid (sameB t s l m = decide (l = m)) := by
    show _ = _
    unfold sameB
    rw [decide_eq_true hts]; rfl
  have hzt : (t == s) = true := by rw [hts]; simp
  clear hts
  go_wp2_with fail
  refine (eqFunc_anySe l m v u w2 HRa.out HRb.out).mono ?_
  rintro e w3 ⟨rfl, hb⟩
  have HB3 := Lib.hid (HB.out.trans (hb.mono hw2))
  clear hb ca cb ca1 cb1
  go_wp2
  go_ret
  exact ⟨by rw [HE.out]; rfl, HB3.out⟩

/-- The number that the next one must be above. -/
def lastS (l : List Se) (i : Nat) : Int := if i = 0 then 0 else sI (l.getD (i - 1) se0)
theorem lastS_zero (l : List Se) : lastS l 0 = 0 := rfl
theorem lastS_next (l : List Se) (i : Nat) : lastS l (i + 1) = sI (l.getD i se0) := by unfold lastS; rw [if_neg (by omega), Nat.add_sub_cancel]
theorem okS_step (t : Int) (l : List Se) (i : Nat) (h : ∀ j, j < i → okS t l j = true) : okS t l i = (decide (lastS l i < sI (l.getD i se0)) && (decide (1 ≤ sP (l.getD i se0)) && decide (sP (l.getD i se0) ≤ 1000)) && decide (t < sU (l.getD i se0)) && decide (sU (l.getD i se0) ≤ t + sP (l.getD i se0))) := by
  unfold okS fineS lastS
  rw [Bool.eq_iff_iff]
  simp only [Bool.and_eq_true, Bool.or_eq_true, decide_eq_true_eq]
  by_cases h0 : i = 0
  · subst h0
    rw [if_pos rfl]
    constructor
    · rintro ⟨⟨⟨⟨⟨a, b⟩, c⟩, d⟩, e⟩, -⟩
      exact ⟨⟨⟨by omega, b, c⟩, d⟩, e⟩
    · rintro ⟨⟨⟨a, b, c⟩, d⟩, e⟩
      exact ⟨⟨⟨⟨⟨by omega, b⟩, c⟩, d⟩, e⟩, .inl rfl⟩
  · rw [if_neg h0]
    have h1 := h (i - 1) (by omega)
    unfold okS fineS at h1
    simp only [Bool.and_eq_true, decide_eq_true_eq] at h1
    have h2 := h1.1.1.1.1.1
    constructor
    · rintro ⟨⟨⟨⟨⟨a, b⟩, c⟩, d⟩, e⟩, f⟩
      exact ⟨⟨⟨f.resolve_left h0, b, c⟩, d⟩, e⟩
    · rintro ⟨⟨⟨a, b, c⟩, d⟩, e⟩
      exact ⟨⟨⟨⟨⟨by omega, b⟩, c⟩, d⟩, e⟩, .inr a⟩

set_option maxRecDepth 100000 in
set_option maxHeartbeats 8000000 in
theorem bkRight_anyL (t : Int) (l : List Se) (v : Value) (w : World) (hr : RdE SeK w.heap.size w v l) (hl : l.length ≤ 1000) : Calls Tryz.prog 60 #[.agg #[.int .i64 t, v]] w (One (.bool (rightS t l)) w) := by
  obtain ⟨A, cp, rfl, hc, hm⟩ := hr.shape
  unfold maxLen at hm
  obtain ⟨n, hn⟩ : ∃ n, l.length = n := ⟨_, rfl⟩
  have HN := Lib.hid hn
  have HR := Lib.hid hr
  rw [hn] at hc HR hl ⊢
  clear hr hn
  go_enter Tryz.func60, Tryz.ntmps60
  go_wp2_with (refine wpList_box_blk rfl 27 _ rfl [.int .i64 t, .slice A n cp] rfl ?_)
  intro w1 b1 b2 b3
  obtain ⟨g0, hg0⟩ : ∃ g, w.heap.size = g := ⟨_, rfl⟩
  have X0 := Lib.hid b1
  have HB := Lib.hid b3
  have hw1 : w.heap.size ≤ w1.heap.size := by omega
  have hg1 : g0 < w1.heap.size := by omega
  rw [hg0] at X0 ⊢
  have ca := X0.out.at_ 0 _ rfl
  have cb := X0.out.at_ 1 _ rfl
  clear b1 b2 b3
  by_cases h1 : t < 0
  · have HF := Lib.hid (rightS_head t l (.inl h1))
    go_wp2
    go_ret
    exact ⟨by rw [HF.out]; rfl, HB.out⟩
  by_cases h2 : 1000000000 < t
  · have HF := Lib.hid (rightS_head t l (.inr (.inl h2)))
    go_wp2
    go_ret
    exact ⟨by rw [HF.out]; rfl, HB.out⟩
  by_cases h3 : (50 : Int) < (n : Int)
  · have HF := Lib.hid (rightS_head t l (.inr (.inr (by rw [HN.out]; omega))))
    go_wp2
    go_ret
    exact ⟨by rw [HF.out]; rfl, HB.out⟩
  have ht1 : 0 ≤ t := by omega
  have ht2 : t ≤ 1000000000 := by omega
  have hn3 : n ≤ 50 := by omega
  go_wp2
  go_loopw [3, 23] (fun x y wr => ∃ i : Nat, i ≤ n ∧ x = .int .i64 (lastS l i) ∧ y = .int .i64 (i : Int) ∧ Hid (∀ j, j < i → okS t l j = true) ∧ Hid (Below w1.heap.size w1 wr)) (fun _ y _ => n - (intOf y).toNat)
  case atStart => exact ⟨0, by omega, by rw [lastS_zero], rfl, fun j hj => by omega, Below.refl _ _⟩
  case round =>
    obtain ⟨i, hi, rfl, rfl, HA, HW⟩ := hrel
    clear ca cb
    by_cases hi2 : i < n
    · have zi : (i : Int) < (n : Int) := by omega
      obtain ⟨a, hA, c0, c1, c2⟩ := (HR.out.below (HB.out.trans (HW.out.mono hw1))).at3 i (by rw [HN.out]; exact hi2)
      subst hA
      have hok := okS_step t l i HA.out
      have hnx := lastS_next l i
      obtain ⟨x, hx⟩ : ∃ x, l.getD i se0 = x := ⟨_, rfl⟩
      obtain ⟨la, hla⟩ : ∃ z, lastS l i = z := ⟨_, rfl⟩
      rw [hx] at c0 c1 c2 hok hnx
      rw [hla] at hok ⊢
      have HOK := Lib.hid hok
      have HNX := Lib.hid hnx
      clear hx hla hok hnx
      have hwr := HW.out.size
      go_wp2_with (refine wpList_alloc_blk rfl 105 rfl (sec se0) zSeL ?_)
      intro wa a1 a2 a3
      obtain ⟨gA, hgA⟩ : ∃ g, wr.heap.size = g := ⟨_, rfl⟩
      have A1 := Lib.hid a1
      have HWa := Lib.hid (HW.out.trans (a3.mono hwr))
      have hgA1 : w1.heap.size ≤ gA := by omega
      rw [hgA] at A1 ⊢
      clear a1 a3 HW c0 c1 c2 hgA
      go_wp2_with (refine wpList_store_to rfl 105 _ _ rfl gA (sec x) (sec se0) 105 rfl rfl A1.out sSeL rfl (sec_all _) ?_)
      intro wb e1 e2 e3 e4
      have HWb := Lib.hid (HWa.out.trans (e3.mono hgA1))
      have E1 := Lib.hid e1
      have d0 := e1.at_ 0 _ rfl
      have d1 := e1.at_ 1 _ rfl
      have d2 := e1.at_ 2 _ rfl
      have X0b := Lib.hid (X0.out.below HWb.out hg1)
      have ca := X0b.out.at_ 0 _ rfl
      have hwb := HWb.out.size
      clear e1 e2 e3 e4 a2 A1 HWa
      by_cases q1 : sI x ≤ la
      · have HK : Hid (okS t l i = false) := by
          show _ = _
          rw [HOK.out, decide_eq_false (show ¬ la < sI x by omega)]; simp
        have HF := Lib.hid (okS_not t l i (by rw [HN.out]; exact hi2) HK.out)
        go_wp2
        go_ret
        exact ⟨by rw [HF.out]; rfl, HB.out.trans (HWb.out.mono hw1)⟩
      have hsp := isSpan_any (sP x) wb
      obtain ⟨B, hB⟩ : ∃ B, (decide (1 ≤ sP x) && decide (sP x ≤ 1000)) = B := ⟨_, rfl⟩
      rw [hB] at hsp
      have HSP := Lib.hid hsp
      have HBB := Lib.hid hB
      clear hsp hB
      go_wp2_with fail
      refine HSP.out.mono ?_
      rintro e w5 ⟨rfl, hb⟩
      have X5 := Lib.hid (X0b.out.below hb (by omega))
      have E5 := Lib.hid (E1.out.below hb E1.out.lt)
      have HW5 := Lib.hid (HWb.out.trans (hb.mono hwb))
      clear hb d0 d1 d2 ca X0b E1 HWb hwb
      have d0 := E5.out.at_ 0 _ rfl
      have d1 := E5.out.at_ 1 _ rfl
      have d2 := E5.out.at_ 2 _ rfl
      have ca := X5.out.at_ 0 _ rfl
      cases B
      · have HK : Hid (okS t l i = false) := by
          show _ = _
          rw [HOK.out, HBB.out]; simp
        have HF := Lib.hid (okS_not t l i (by rw [HN.out]; exact hi2) HK.out)
        go_wp2
        go_ret
        exact ⟨by rw [HF.out]; rfl, HB.out.trans (HW5.out.mono hw1)⟩
      have hbb := HBB.out
      rw [Bool.and_eq_true, decide_eq_true_eq, decide_eq_true_eq] at hbb
      obtain ⟨p1, p2⟩ := hbb
      by_cases q2 : sU x ≤ t
      · have HK : Hid (okS t l i = false) := by
          show _ = _
          rw [HOK.out, decide_eq_false (show ¬ t < sU x by omega)]; simp
        have HF := Lib.hid (okS_not t l i (by rw [HN.out]; exact hi2) HK.out)
        go_wp2
        go_ret
        exact ⟨by rw [HF.out]; rfl, HB.out.trans (HW5.out.mono hw1)⟩
      have hwp : IntKind.i64.wrap (t + sP x) = t + sP x := by rw [IntKind.wrap_i64]; omega
      have hwp2 : wrap64 (t + sP x) = t + sP x := by unfold wrap64; omega
      by_cases q3 : t + sP x < sU x
      · have HK : Hid (okS t l i = false) := by
          show _ = _
          rw [HOK.out, decide_eq_false (show ¬ sU x ≤ t + sP x by omega)]; simp
        have HF := Lib.hid (okS_not t l i (by rw [HN.out]; exact hi2) HK.out)
        go_wp2
        go_ret
        exact ⟨by rw [HF.out]; rfl, HB.out.trans (HW5.out.mono hw1)⟩
      have HA2 : Hid (∀ j, j < i + 1 → okS t l j = true) := by
        intro j hj
        by_cases h : j < i
        · exact HA.out j h
        · have : j = i := by omega
          subst this
          rw [HOK.out, HBB.out, decide_eq_true (show la < sI x by omega), decide_eq_true (show t < sU x by omega), decide_eq_true (show sU x ≤ t + sP x by omega)]; rfl
      go_wp2
      go_roundw
      case rel => exact ⟨i + 1, by omega, by rw [HNX.out], by go_num, HA2, HW5⟩
      case measure => simp [intOf]; omega
    · have hE : i = n := by omega
      subst hE
      have HF := Lib.hid (rightS_end t l ht1 ht2 (by rw [HN.out]; exact hn3) (by rw [HN.out]; exact HA.out))
      go_wp2
      go_ret
      exact ⟨by rw [HF.out]; rfl, HB.out.trans (HW.out.mono hw1)⟩
end Go.Proofs.YtdihngkdhanhkaaGreatDoor
