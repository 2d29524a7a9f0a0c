/-
  Texts GR.
-/
import Derived.Test.YtdihngkdhanhkaaGreatDoorZ46
namespace Go.Proofs.YtdihngkdhanhkaaGreatDoor
open Go.RowKit
theorem limIs (x : Nd) (b : Bool) (h : limB x = b) (w : World) : Calls Tryz.prog 97 #[.agg (ndc x).toArray] w (One (.bool b) w) := by
  rw [← h]
  exact shLim_any x w
theorem folIs (l : List Nd) (p : List UInt8) (b : Bool) (h : folB l p = b) (v : Value) (w : World) (hr : RdNd w.heap.size w v l) (hl : 1 ≤ l.length) : Calls Tryz.prog 98 #[v, txt p] w (One (.bool b) w) := by
  rw [← h]
  exact shFollows_any l p v w hr hl

set_option maxRecDepth 100000 in
set_option maxHeartbeats 16000000 in
theorem shRight_any (l : List Nd) (v : Value) (w : World) (hr : RdNd w.heap.size w v l) : Calls Tryz.prog 59 #[.agg #[v]] w (One (.bool (rightN l)) w) := by
  obtain ⟨A, cp, rfl, hc, hm⟩ := hr.shape
  unfold maxLen at hm
  obtain ⟨n, hn⟩ : ∃ n, l.length = n := ⟨_, rfl⟩
  have HN := Lib.hid hn
  have HR := Lib.hid hr
  rw [hn] at hc HR ⊢
  clear hr hn
  obtain ⟨d56, hu56, hd56⟩ := rowPN
  have HU := Lib.hid hu56
  have HD := Lib.hid hd56
  clear hu56 hd56
  go_enter Tryz.func59, Tryz.ntmps59
  go_wp2_with (refine wpList_box_blk rfl 24 _ rfl [.slice A n cp] rfl ?_)
  intro w1 b1 b2 b3
  obtain ⟨g0, hg0⟩ : ∃ g, w.heap.size = g := ⟨_, rfl⟩
  have X0 := Lib.hid b1
  have HB := Lib.hid b3
  have hg1 : g0 < w1.heap.size := by omega
  have hw1 : w.heap.size ≤ w1.heap.size := by omega
  rw [hg0] at X0 ⊢
  have ca := X0.out.cell 0
  clear b1 b2 b3 hg0
  by_cases hlo : (n : Int) < 1
  · have HF := Lib.hid (rightN_len l (by rw [HN.out]; omega))
    go_wp2
    go_ret
    exact ⟨by rw [HF.out]; rfl, HB.out⟩
  by_cases hhi : 200 < (n : Int)
  · have HF := Lib.hid (rightN_len l (by rw [HN.out]; omega))
    go_wp2
    go_ret
    exact ⟨by rw [HF.out]; rfl, HB.out⟩
  have z0 : (0 : Int) < (n : Int) := by omega
  obtain ⟨a, hA, c0, -, -, c3⟩ := (HR.out.below HB.out).at_ 0 (by rw [HN.out]; omega)
  subst hA
  obtain ⟨q, hq⟩ : ∃ q, nP (l.getD 0 nd0) = q := ⟨_, rfl⟩
  obtain ⟨y, hy⟩ : ∃ y, nO (l.getD 0 nd0) = y := ⟨_, rfl⟩
  rw [hq] at c0
  rw [hy] at c3
  have HQ := Lib.hid hq
  have HY := Lib.hid hy
  clear hq hy
  rw [show a.add (0 * 4) = a from by cases a; rfl] at c0 c3
  by_cases h47 : q = [47]
  rotate_left
  · have HF := Lib.hid (root_not l (.inl (by rw [HQ.out]; exact h47)))
    have hqb : (q == [47]) = false := txt_ne q [47] h47
    clear h47
    go_wp2
    go_ret
    exact ⟨by rw [HF.out]; rfl, HB.out⟩
  subst h47
  have hqb : (([47] : List UInt8) == [47]) = true := rfl
  by_cases hy0 : y = 0
  rotate_left
  · have HF := Lib.hid (root_not l (.inr (by rw [HY.out]; exact hy0)))
    have hyb : (y == 0) = false := by rw [beq_eq_false_iff_ne]; exact hy0
    clear hy0
    go_wp2
    go_ret
    exact ⟨by rw [HF.out]; rfl, HB.out⟩
  subst hy0
  go_wp2
  clear c0 c3 hqb
  go_loopw [34] (fun x wr => ∃ i : Nat, i ≤ n ∧ x = .int .i64 (i : Int) ∧ Hid (∀ j, j < i → pokN l j = true) ∧ Hid (Below w1.heap.size w1 wr)) (fun x _ => n - (intOf x).toNat)
  case atStart => exact ⟨0, by omega, rfl, fun j hj => by omega, Below.refl _ _⟩
  case round =>
    obtain ⟨i, hi, rfl, HA, HW⟩ := hrel
    have hwr := HW.out.size
    clear ca
    by_cases hi2 : i < n
    · have zi : (i : Int) < (n : Int) := by omega
      obtain ⟨a9, hA, c0, c1, c2, c3⟩ := (HR.out.below (HB.out.trans (HW.out.mono hw1))).at_ i (by rw [HN.out]; exact hi2)
      obtain rfl : a = a9 := Option.some.inj hA
      obtain ⟨nd, hx⟩ : ∃ x, l.getD i nd0 = x := ⟨_, rfl⟩
      have HX := Lib.hid hx
      rw [hx] at c0 c1 c2 c3
      clear hx hA
      go_wp2_with (refine wpList_alloc_blk rfl 91 rfl (ndc nd0) zPN ?_)
      intro wa a1 a2 a3
      obtain ⟨gX, hgX⟩ : ∃ g, wr.heap.size = g := ⟨_, rfl⟩
      have A1 := Lib.hid a1
      have HWa := Lib.hid (HW.out.trans (a3.mono hwr))
      have hwX : w1.heap.size ≤ gX := by omega
      rw [hgX] at A1 ⊢
      clear a1 a2 a3 HW c0 c1 c2 c3 hgX
      go_wp2_with (refine wpList_store_to rfl 91 _ _ rfl gX (ndc nd) (ndc nd0) 91 rfl rfl A1.out sPN rfl (ndc_one _) ?_)
      intro wb e1 e2 e3 e4
      have XB := Lib.hid e1
      have HWb := Lib.hid (HWa.out.trans (e3.mono hwX))
      have hsb : w1.heap.size ≤ wb.heap.size := HWb.out.size
      clear e1 e2 e3 e4 A1 HWa
      obtain ⟨pa, hpa⟩ : ∃ p, nP nd = p := ⟨_, rfl⟩
      have HPA := Lib.hid hpa
      have XG := Lib.hid ((X0.out.below HWb.out hg1))
      clear hpa
      go_wp2
      have XB2 : Hid (Blk wb gX [txt pa, txt (nV nd), .int .i64 (nR nd), .int .i64 (nO nd)] 91) := by
        show Blk _ _ _ _
        have h := XB.out
        unfold ndc at h
        rw [HPA.out] at h
        exact h
      have OK : Hid (pokN l i = (limB nd && (decide (i = 0) || folB (l.take i) pa))) := by
        show _ = _
        unfold pokN
        rw [HX.out, HPA.out]
      have HA3 : Hid (pokN l i = true → ∀ j, j < i + 1 → pokN l j = true) := by
        intro h j hj
        by_cases h2 : j < i
        · exact HA.out j h2
        · have : j = i := by omega
          rw [this]; exact h
      cases hlm : limB nd
      · have HLM := Lib.hid hlm
        have HF := Lib.hid (pok_not l i (by rw [HN.out]; exact hi2) (by rw [OK.out, hlm]; rfl))
        clear hlm
        refine wp_region_rely2 17 0 (fun x => ⟨#[.agg #[Value.slice (some a) n cp], .pointer (some { block := g0, off := 0 }), u2, .int IntKind.i64 ↑i, .pointer (some { block := gX, off := 0 }), .pointer (some { block := g0, off := 0 }), .slice (some a) n cp, .int IntKind.i64 ↑n, .bool false, .bool false, .pointer (some { block := g0, off := 0 }), .slice (some a) n cp, .int IntKind.i64 ↑n, .bool false, .bool false, .bool false, .pointer (some { block := g0, off := 0 }), .slice (some a) n cp, .pointer (some a), .pointer (some a), txt [47], .bool false, .bool false, .bool false, .pointer (some { block := g0, off := 0 }), .slice (some a) n cp, .pointer (some a), .pointer (some { block := a.block, off := a.off + 3 }), .int IntKind.i64 0, .bool false, .bool false, .pointer (some { block := g0, off := 0 }), .slice (some a) n cp, .int IntKind.i64 ↑n, .int IntKind.i64 ↑i, .bool true, .int IntKind.i64 ↑i, .pointer (some (a.add (i * 4))), .agg #[txt (nP nd), txt (nV nd), Value.int IntKind.i64 (nR nd), Value.int IntKind.i64 (nO nd)], x 0, x 1, x 2, x 3, x 4, x 5, x 6, x 7, x 8, x 9, x 10, x 11, x 12, x 13, x 14, x 15, x 16, u56], []⟩) (fun jj => ([eqV (.agg (ndc nd).toArray), (eqV (.bool false)), eqV (.bool true), eqV (.bool true), (eqV undef), (eqV undef), (eqV undef), (eqV undef), (eqV undef), (eqV undef), (eqV undef), (eqV undef), (eqV undef), (eqV undef), (eqV undef), (eqV undef), eqV (.bool true)] : List (Value → World → Prop)).getD jj (fun _ _ => True)) rfl ⟨fun kk => [_, _, _, _, _, _, _, _, _, _, _, _, _, _, _, _, _].getD kk undef, rfl⟩ (by kernel_rfl) (by kernel_rfl) ?steps ?fin
        case steps =>
          refine StepsAt.val 0 (.agg (ndc nd).toArray) rfl (fun _ _ => rfl) rfl rfl (fun x wc hb hd => ?_) ?_
          · exact run_load_blkU 91 (.tmp 4) rfl gX rfl (ndc nd) 91 (XB.out.below hb XB.out.lt) d56 HU.out HD.out sPN
          refine StepsAt.cons 1 (fun _ _ _ h hb => h) (fun _ _ => rfl) rfl rfl (fun x wc hb hd K hK => ?_) ?_
          · have h0 : Hid (x 0 = .agg (ndc nd).toArray) := hd 0 (by kernel_rfl)
            go_simp
            refine calls_args (args2 := #[.agg (ndc nd).toArray]) (by rw [h0.out]) ?_
            refine (limIs nd false HLM.out _).mono ?_
            rintro e w99 ⟨rfl, hb99⟩
            exact hK.out _ _ hb99 rfl
          refine StepsAt.val 2 (.bool true) rfl (fun _ _ => rfl) rfl rfl (fun x wc hb hd => ?_) ?_
          · have h1 : x 1 = .bool false := hd 1 (by kernel_rfl)
            rw [h1]
            first | (go_simp; done) | (go_simp; rfl)
          refine StepsAt.val 3 (.bool true) rfl (fun _ _ => rfl) rfl rfl (fun x wc hb hd => ?_) ?_
          · have h2 : x 2 = .bool true := hd 2 (by kernel_rfl)
            rw [h2]
            first | (go_simp; done) | (go_simp; rfl)
          refine StepsAt.skip 4 rfl (fun _ _ => rfl) rfl (fun x wc hd => ?_) ?_
          · have hG : x 3 = .bool true := hd 3 (by kernel_rfl)
            simp [Region.wanted, yielded, hG]
          refine StepsAt.skip 5 rfl (fun _ _ => rfl) rfl (fun x wc hd => ?_) ?_
          · have hG : x 3 = .bool true := hd 3 (by kernel_rfl)
            simp [Region.wanted, yielded, hG]
          refine StepsAt.skip 6 rfl (fun _ _ => rfl) rfl (fun x wc hd => ?_) ?_
          · have hG : x 3 = .bool true := hd 3 (by kernel_rfl)
            simp [Region.wanted, yielded, hG]
          refine StepsAt.skip 7 rfl (fun _ _ => rfl) rfl (fun x wc hd => ?_) ?_
          · have hG : x 6 = undef := hd 6 (by kernel_rfl)
            simp [Region.wanted, yielded, hG, undef]
          refine StepsAt.skip 8 rfl (fun _ _ => rfl) rfl (fun x wc hd => ?_) ?_
          · have hG : x 6 = undef := hd 6 (by kernel_rfl)
            simp [Region.wanted, yielded, hG, undef]
          refine StepsAt.skip 9 rfl (fun _ _ => rfl) rfl (fun x wc hd => ?_) ?_
          · have hG : x 6 = undef := hd 6 (by kernel_rfl)
            simp [Region.wanted, yielded, hG, undef]
          refine StepsAt.skip 10 rfl (fun _ _ => rfl) rfl (fun x wc hd => ?_) ?_
          · have hG : x 6 = undef := hd 6 (by kernel_rfl)
            simp [Region.wanted, yielded, hG, undef]
          refine StepsAt.skip 11 rfl (fun _ _ => rfl) rfl (fun x wc hd => ?_) ?_
          · have hG : x 6 = undef := hd 6 (by kernel_rfl)
            simp [Region.wanted, yielded, hG, undef]
          refine StepsAt.skip 12 rfl (fun _ _ => rfl) rfl (fun x wc hd => ?_) ?_
          · have hG : x 6 = undef := hd 6 (by kernel_rfl)
            simp [Region.wanted, yielded, hG, undef]
          refine StepsAt.skip 13 rfl (fun _ _ => rfl) rfl (fun x wc hd => ?_) ?_
          · have hG : x 6 = undef := hd 6 (by kernel_rfl)
            simp [Region.wanted, yielded, hG, undef]
          refine StepsAt.skip 14 rfl (fun _ _ => rfl) rfl (fun x wc hd => ?_) ?_
          · have hG : x 6 = undef := hd 6 (by kernel_rfl)
            simp [Region.wanted, yielded, hG, undef]
          refine StepsAt.skip 15 rfl (fun _ _ => rfl) rfl (fun x wc hd => ?_) ?_
          · have hG : x 3 = .bool true := hd 3 (by kernel_rfl)
            simp [Region.wanted, yielded, hG]
          refine StepsAt.val 16 (.bool true) rfl (fun _ _ => rfl) rfl rfl (fun x wc hb hd => ?_) ?_
          · have h3 : x 3 = .bool true := hd 3 (by kernel_rfl)
            have h15 : x 15 = undef := hd 15 (by kernel_rfl)
            rw [h3, h15]
            first | (go_simp; done) | (go_simp; rfl)
          exact StepsAt.done
        case fin =>
          intro x wc hb hd
          have hx0 : x 0 = .agg (ndc nd).toArray := hd 0 (by omega)
          have hx1 : x 1 = .bool false := hd 1 (by omega)
          have hx2 : x 2 = .bool true := hd 2 (by omega)
          have hx3 : x 3 = .bool true := hd 3 (by omega)
          have hx4 : x 4 = undef := hd 4 (by omega)
          have hx5 : x 5 = undef := hd 5 (by omega)
          have hx6 : x 6 = undef := hd 6 (by omega)
          have hx7 : x 7 = undef := hd 7 (by omega)
          have hx8 : x 8 = undef := hd 8 (by omega)
          have hx9 : x 9 = undef := hd 9 (by omega)
          have hx10 : x 10 = undef := hd 10 (by omega)
          have hx11 : x 11 = undef := hd 11 (by omega)
          have hx12 : x 12 = undef := hd 12 (by omega)
          have hx13 : x 13 = undef := hd 13 (by omega)
          have hx14 : x 14 = undef := hd 14 (by omega)
          have hx15 : x 15 = undef := hd 15 (by omega)
          have hx16 : x 16 = .bool true := hd 16 (by omega)
          refine AnyTill.any (S := fun _ => True) (m := 17) _ _ _ _ ?_
          refine AnyTill.done (by kernel_rfl) ?_
          refine NoPanic.normal ?_
          try dsimp only
          rw [hx0, hx1, hx2, hx3, hx4, hx5, hx6, hx7, hx8, hx9, hx10, hx11, hx12, hx13, hx14, hx15, hx16]
          have HWc := Lib.hid (HWb.out.trans (hb.mono hsb))
          clear hx0 hx1 hx2 hx3 hx4 hx5 hx6 hx7 hx8 hx9 hx10 hx11 hx12 hx13 hx14 hx15 hx16 hd hb XB XB2 XG HWb
          go_wp2
          go_ret
          exact ⟨by rw [HF.out]; rfl, HB.out.trans (HWc.out.mono hw1)⟩
      have HLM := Lib.hid hlm
      by_cases h0 : i = 0
      · have d5 : decide ((0 : Int) < (i : Int)) = false := decide_eq_false (by omega)
        have HA2 := Lib.hid (HA3.out (by rw [OK.out, hlm, decide_eq_true h0]; rfl))
        have hi0 : ¬ 0 < i := by omega
        clear hlm h0
        refine wp_region_rely2 17 0 (fun x => ⟨#[.agg #[Value.slice (some a) n cp], .pointer (some { block := g0, off := 0 }), u2, .int IntKind.i64 ↑i, .pointer (some { block := gX, off := 0 }), .pointer (some { block := g0, off := 0 }), .slice (some a) n cp, .int IntKind.i64 ↑n, .bool false, .bool false, .pointer (some { block := g0, off := 0 }), .slice (some a) n cp, .int IntKind.i64 ↑n, .bool false, .bool false, .bool false, .pointer (some { block := g0, off := 0 }), .slice (some a) n cp, .pointer (some a), .pointer (some a), txt [47], .bool false, .bool false, .bool false, .pointer (some { block := g0, off := 0 }), .slice (some a) n cp, .pointer (some a), .pointer (some { block := a.block, off := a.off + 3 }), .int IntKind.i64 0, .bool false, .bool false, .pointer (some { block := g0, off := 0 }), .slice (some a) n cp, .int IntKind.i64 ↑n, .int IntKind.i64 ↑i, .bool true, .int IntKind.i64 ↑i, .pointer (some (a.add (i * 4))), .agg #[txt (nP nd), txt (nV nd), Value.int IntKind.i64 (nR nd), Value.int IntKind.i64 (nO nd)], x 0, x 1, x 2, x 3, x 4, x 5, x 6, x 7, x 8, x 9, x 10, x 11, x 12, x 13, x 14, x 15, x 16, u56], []⟩) (fun jj => ([eqV (.agg (ndc nd).toArray), (eqV (.bool true)), eqV (.bool false), eqV (.bool false), eqV (.int IntKind.i64 ↑i), eqV (.bool false), eqV (.bool false), (eqV undef), (eqV undef), (eqV undef), (eqV undef), (eqV undef), (eqV undef), (eqV undef), (eqV undef), eqV (.bool false), eqV (.bool false)] : List (Value → World → Prop)).getD jj (fun _ _ => True)) rfl ⟨fun kk => [_, _, _, _, _, _, _, _, _, _, _, _, _, _, _, _, _].getD kk undef, rfl⟩ (by kernel_rfl) (by kernel_rfl) ?steps ?fin
        case steps =>
          refine StepsAt.val 0 (.agg (ndc nd).toArray) rfl (fun _ _ => rfl) rfl rfl (fun x wc hb hd => ?_) ?_
          · exact run_load_blkU 91 (.tmp 4) rfl gX rfl (ndc nd) 91 (XB.out.below hb XB.out.lt) d56 HU.out HD.out sPN
          refine StepsAt.cons 1 (fun _ _ _ h hb => h) (fun _ _ => rfl) rfl rfl (fun x wc hb hd K hK => ?_) ?_
          · have h0 : Hid (x 0 = .agg (ndc nd).toArray) := hd 0 (by kernel_rfl)
            go_simp
            refine calls_args (args2 := #[.agg (ndc nd).toArray]) (by rw [h0.out]) ?_
            refine (limIs nd true HLM.out _).mono ?_
            rintro e w99 ⟨rfl, hb99⟩
            exact hK.out _ _ hb99 rfl
          refine StepsAt.val 2 (.bool false) rfl (fun _ _ => rfl) rfl rfl (fun x wc hb hd => ?_) ?_
          · have h1 : x 1 = .bool true := hd 1 (by kernel_rfl)
            rw [h1]
            first | (go_simp; done) | (go_simp; rfl)
          refine StepsAt.val 3 (.bool false) rfl (fun _ _ => rfl) rfl rfl (fun x wc hb hd => ?_) ?_
          · have h2 : x 2 = .bool false := hd 2 (by kernel_rfl)
            rw [h2]
            first | (go_simp; done) | (go_simp; rfl)
          refine StepsAt.valG 4 (.int IntKind.i64 ↑i) rfl (fun _ _ => rfl) rfl (fun x wc hd => ?_) (fun x wc hb hd => ?_) ?_
          · have hG : x 3 = .bool false := hd 3 (by kernel_rfl)
            simp [Region.wanted, yielded, hG]
          · first | (go_simp; done) | (go_simp; rfl)
          refine StepsAt.valG 5 (.bool false) rfl (fun _ _ => rfl) rfl (fun x wc hd => ?_) (fun x wc hb hd => ?_) ?_
          · have hG : x 3 = .bool false := hd 3 (by kernel_rfl)
            simp [Region.wanted, yielded, hG]
          · have h4 : x 4 = .int IntKind.i64 ↑i := hd 4 (by kernel_rfl)
            rw [h4]
            first | (go_simp; done) | (go_simp; rfl)
          refine StepsAt.valG 6 (.bool false) rfl (fun _ _ => rfl) rfl (fun x wc hd => ?_) (fun x wc hb hd => ?_) ?_
          · have hG : x 3 = .bool false := hd 3 (by kernel_rfl)
            simp [Region.wanted, yielded, hG]
          · have h5 : x 5 = .bool false := hd 5 (by kernel_rfl)
            rw [h5]
            first | (go_simp; done) | (go_simp; rfl)
          refine StepsAt.skip 7 rfl (fun _ _ => rfl) rfl (fun x wc hd => ?_) ?_
          · have hG : x 6 = .bool false := hd 6 (by kernel_rfl)
            simp [Region.wanted, yielded, hG]
          refine StepsAt.skip 8 rfl (fun _ _ => rfl) rfl (fun x wc hd => ?_) ?_
          · have hG : x 6 = .bool false := hd 6 (by kernel_rfl)
            simp [Region.wanted, yielded, hG]
          refine StepsAt.skip 9 rfl (fun _ _ => rfl) rfl (fun x wc hd => ?_) ?_
          · have hG : x 6 = .bool false := hd 6 (by kernel_rfl)
            simp [Region.wanted, yielded, hG]
          refine StepsAt.skip 10 rfl (fun _ _ => rfl) rfl (fun x wc hd => ?_) ?_
          · have hG : x 6 = .bool false := hd 6 (by kernel_rfl)
            simp [Region.wanted, yielded, hG]
          refine StepsAt.skip 11 rfl (fun _ _ => rfl) rfl (fun x wc hd => ?_) ?_
          · have hG : x 6 = .bool false := hd 6 (by kernel_rfl)
            simp [Region.wanted, yielded, hG]
          refine StepsAt.skip 12 rfl (fun _ _ => rfl) rfl (fun x wc hd => ?_) ?_
          · have hG : x 6 = .bool false := hd 6 (by kernel_rfl)
            simp [Region.wanted, yielded, hG]
          refine StepsAt.skip 13 rfl (fun _ _ => rfl) rfl (fun x wc hd => ?_) ?_
          · have hG : x 6 = .bool false := hd 6 (by kernel_rfl)
            simp [Region.wanted, yielded, hG]
          refine StepsAt.skip 14 rfl (fun _ _ => rfl) rfl (fun x wc hd => ?_) ?_
          · have hG : x 6 = .bool false := hd 6 (by kernel_rfl)
            simp [Region.wanted, yielded, hG]
          refine StepsAt.valG 15 (.bool false) rfl (fun _ _ => rfl) rfl (fun x wc hd => ?_) (fun x wc hb hd => ?_) ?_
          · have hG : x 3 = .bool false := hd 3 (by kernel_rfl)
            simp [Region.wanted, yielded, hG]
          · have h6 : x 6 = .bool false := hd 6 (by kernel_rfl)
            have h14 : x 14 = undef := hd 14 (by kernel_rfl)
            rw [h6, h14]
            first | (go_simp; done) | (go_simp; rfl)
          refine StepsAt.val 16 (.bool false) rfl (fun _ _ => rfl) rfl rfl (fun x wc hb hd => ?_) ?_
          · have h3 : x 3 = .bool false := hd 3 (by kernel_rfl)
            have h15 : x 15 = .bool false := hd 15 (by kernel_rfl)
            rw [h3, h15]
            first | (go_simp; done) | (go_simp; rfl)
          exact StepsAt.done
        case fin =>
          intro x wc hb hd
          have hx0 : x 0 = .agg (ndc nd).toArray := hd 0 (by omega)
          have hx1 : x 1 = .bool true := hd 1 (by omega)
          have hx2 : x 2 = .bool false := hd 2 (by omega)
          have hx3 : x 3 = .bool false := hd 3 (by omega)
          have hx4 : x 4 = .int IntKind.i64 ↑i := hd 4 (by omega)
          have hx5 : x 5 = .bool false := hd 5 (by omega)
          have hx6 : x 6 = .bool false := hd 6 (by omega)
          have hx7 : x 7 = undef := hd 7 (by omega)
          have hx8 : x 8 = undef := hd 8 (by omega)
          have hx9 : x 9 = undef := hd 9 (by omega)
          have hx10 : x 10 = undef := hd 10 (by omega)
          have hx11 : x 11 = undef := hd 11 (by omega)
          have hx12 : x 12 = undef := hd 12 (by omega)
          have hx13 : x 13 = undef := hd 13 (by omega)
          have hx14 : x 14 = undef := hd 14 (by omega)
          have hx15 : x 15 = .bool false := hd 15 (by omega)
          have hx16 : x 16 = .bool false := hd 16 (by omega)
          refine AnyTill.any (S := fun _ => True) (m := 17) _ _ _ _ ?_
          refine AnyTill.done (by kernel_rfl) ?_
          refine NoPanic.normal ?_
          try dsimp only
          rw [hx0, hx1, hx2, hx3, hx4, hx5, hx6, hx7, hx8, hx9, hx10, hx11, hx12, hx13, hx14, hx15, hx16]
          have HWc := Lib.hid (HWb.out.trans (hb.mono hsb))
          clear hx0 hx1 hx2 hx3 hx4 hx5 hx6 hx7 hx8 hx9 hx10 hx11 hx12 hx13 hx14 hx15 hx16 hd hb XB XB2 XG HWb
          have XGc := Lib.hid (X0.out.below HWc.out hg1)
          have ca := XGc.out.cell 0
          go_wp2
          go_roundw
          case rel => exact ⟨i + 1, by omega, by go_num, HA2, HWc⟩
          case measure => simp [intOf]; omega
      have d5 : decide ((0 : Int) < (i : Int)) = true := decide_eq_true (by omega)
      have hi0 : 0 < i := by omega
      have zc : (i : Int) ≤ (cp : Int) := by omega
      have zc2 : i ≤ cp := by omega
      cases hfo : folB (l.take i) pa
      · have HFO := Lib.hid hfo
        have HF := Lib.hid (pok_not l i (by rw [HN.out]; exact hi2) (by rw [OK.out, hlm, decide_eq_false h0, hfo]; rfl))
        clear hlm h0 hfo
        refine wp_region_rely2 17 0 (fun x => ⟨#[.agg #[Value.slice (some a) n cp], .pointer (some { block := g0, off := 0 }), u2, .int IntKind.i64 ↑i, .pointer (some { block := gX, off := 0 }), .pointer (some { block := g0, off := 0 }), .slice (some a) n cp, .int IntKind.i64 ↑n, .bool false, .bool false, .pointer (some { block := g0, off := 0 }), .slice (some a) n cp, .int IntKind.i64 ↑n, .bool false, .bool false, .bool false, .pointer (some { block := g0, off := 0 }), .slice (some a) n cp, .pointer (some a), .pointer (some a), txt [47], .bool false, .bool false, .bool false, .pointer (some { block := g0, off := 0 }), .slice (some a) n cp, .pointer (some a), .pointer (some { block := a.block, off := a.off + 3 }), .int IntKind.i64 0, .bool false, .bool false, .pointer (some { block := g0, off := 0 }), .slice (some a) n cp, .int IntKind.i64 ↑n, .int IntKind.i64 ↑i, .bool true, .int IntKind.i64 ↑i, .pointer (some (a.add (i * 4))), .agg #[txt (nP nd), txt (nV nd), Value.int IntKind.i64 (nR nd), Value.int IntKind.i64 (nO nd)], x 0, x 1, x 2, x 3, x 4, x 5, x 6, x 7, x 8, x 9, x 10, x 11, x 12, x 13, x 14, x 15, x 16, u56], []⟩) (fun jj => ([eqV (.agg (ndc nd).toArray), (eqV (.bool true)), eqV (.bool false), eqV (.bool false), eqV (.int IntKind.i64 ↑i), eqV (.bool true), eqV (.bool true), eqV (.pointer (some ⟨g0, 0, none⟩)), eqV (.slice (some a) n cp), eqV (.int IntKind.i64 ↑i), eqV (.slice (some a) i cp), eqV (.pointer (some ⟨gX, 0, none⟩)), eqV (txt pa), (eqV (.bool false)), eqV (.bool true), eqV (.bool true), eqV (.bool true)] : List (Value → World → Prop)).getD jj (fun _ _ => True)) rfl ⟨fun kk => [_, _, _, _, _, _, _, _, _, _, _, _, _, _, _, _, _].getD kk undef, rfl⟩ (by kernel_rfl) (by kernel_rfl) ?steps ?fin
        case steps =>
          refine StepsAt.val 0 (.agg (ndc nd).toArray) rfl (fun _ _ => rfl) rfl rfl (fun x wc hb hd => ?_) ?_
          · exact run_load_blkU 91 (.tmp 4) rfl gX rfl (ndc nd) 91 (XB.out.below hb XB.out.lt) d56 HU.out HD.out sPN
          refine StepsAt.cons 1 (fun _ _ _ h hb => h) (fun _ _ => rfl) rfl rfl (fun x wc hb hd K hK => ?_) ?_
          · have h0 : Hid (x 0 = .agg (ndc nd).toArray) := hd 0 (by kernel_rfl)
            go_simp
            refine calls_args (args2 := #[.agg (ndc nd).toArray]) (by rw [h0.out]) ?_
            refine (limIs nd true HLM.out _).mono ?_
            rintro e w99 ⟨rfl, hb99⟩
            exact hK.out _ _ hb99 rfl
          refine StepsAt.val 2 (.bool false) rfl (fun _ _ => rfl) rfl rfl (fun x wc hb hd => ?_) ?_
          · have h1 : x 1 = .bool true := hd 1 (by kernel_rfl)
            rw [h1]
            first | (go_simp; done) | (go_simp; rfl)
          refine StepsAt.val 3 (.bool false) rfl (fun _ _ => rfl) rfl rfl (fun x wc hb hd => ?_) ?_
          · have h2 : x 2 = .bool false := hd 2 (by kernel_rfl)
            rw [h2]
            first | (go_simp; done) | (go_simp; rfl)
          refine StepsAt.valG 4 (.int IntKind.i64 ↑i) rfl (fun _ _ => rfl) rfl (fun x wc hd => ?_) (fun x wc hb hd => ?_) ?_
          · have hG : x 3 = .bool false := hd 3 (by kernel_rfl)
            simp [Region.wanted, yielded, hG]
          · first | (go_simp; done) | (go_simp; rfl)
          refine StepsAt.valG 5 (.bool true) rfl (fun _ _ => rfl) rfl (fun x wc hd => ?_) (fun x wc hb hd => ?_) ?_
          · have hG : x 3 = .bool false := hd 3 (by kernel_rfl)
            simp [Region.wanted, yielded, hG]
          · have h4 : x 4 = .int IntKind.i64 ↑i := hd 4 (by kernel_rfl)
            rw [h4]
            first | (go_simp; done) | (go_simp; rfl)
          refine StepsAt.valG 6 (.bool true) rfl (fun _ _ => rfl) rfl (fun x wc hd => ?_) (fun x wc hb hd => ?_) ?_
          · have hG : x 3 = .bool false := hd 3 (by kernel_rfl)
            simp [Region.wanted, yielded, hG]
          · have h5 : x 5 = .bool true := hd 5 (by kernel_rfl)
            rw [h5]
            first | (go_simp; done) | (go_simp; rfl)
          refine StepsAt.valG 7 (.pointer (some ⟨g0, 0, none⟩)) rfl (fun _ _ => rfl) rfl (fun x wc hd => ?_) (fun x wc hb hd => ?_) ?_
          · have hG : x 6 = .bool true := hd 6 (by kernel_rfl)
            simp [Region.wanted, yielded, hG]
          · first | (go_simp; done) | (go_simp; rfl)
          refine StepsAt.valG 8 (.slice (some a) n cp) rfl (fun _ _ => rfl) rfl (fun x wc hd => ?_) (fun x wc hb hd => ?_) ?_
          · have hG : x 6 = .bool true := hd 6 (by kernel_rfl)
            simp [Region.wanted, yielded, hG]
          · have h7 : x 7 = .pointer (some ⟨g0, 0, none⟩) := hd 7 (by kernel_rfl)
            have cc := ((XG.out.below hb XG.out.lt).cell 0).trans (show _ = some (.slice (some a) n cp) from rfl)
            rw [h7]
            first | (go_simp; done) | (go_simp; rfl)
          refine StepsAt.valG 9 (.int IntKind.i64 ↑i) rfl (fun _ _ => rfl) rfl (fun x wc hd => ?_) (fun x wc hb hd => ?_) ?_
          · have hG : x 6 = .bool true := hd 6 (by kernel_rfl)
            simp [Region.wanted, yielded, hG]
          · first | (go_simp; done) | (go_simp; rfl)
          refine StepsAt.valG 10 (.slice (some a) i cp) rfl (fun _ _ => rfl) rfl (fun x wc hd => ?_) (fun x wc hb hd => ?_) ?_
          · have hG : x 6 = .bool true := hd 6 (by kernel_rfl)
            simp [Region.wanted, yielded, hG]
          · have h8 : x 8 = .slice (some a) n cp := hd 8 (by kernel_rfl)
            have h9 : x 9 = .int IntKind.i64 ↑i := hd 9 (by kernel_rfl)
            rw [h8, h9]
            first | (go_simp; done) | (go_simp; rfl)
          refine StepsAt.valG 11 (.pointer (some ⟨gX, 0, none⟩)) rfl (fun _ _ => rfl) rfl (fun x wc hd => ?_) (fun x wc hb hd => ?_) ?_
          · have hG : x 6 = .bool true := hd 6 (by kernel_rfl)
            simp [Region.wanted, yielded, hG]
          · first | (go_simp; done) | (go_simp; rfl)
          refine StepsAt.valG 12 (txt pa) rfl (fun _ _ => rfl) rfl (fun x wc hd => ?_) (fun x wc hb hd => ?_) ?_
          · have hG : x 6 = .bool true := hd 6 (by kernel_rfl)
            simp [Region.wanted, yielded, hG]
          · have h11 : x 11 = .pointer (some ⟨gX, 0, none⟩) := hd 11 (by kernel_rfl)
            have cc := ((XB2.out.below hb XB2.out.lt).cell 0).trans (show _ = some (txt pa) from rfl)
            rw [h11]
            first | (go_simp; done) | (go_simp; rfl)
          refine StepsAt.consG 13 (fun _ _ _ h hb => h) (fun _ _ => rfl) rfl (fun x wc hd => ?_) (fun x wc hb hd K hK => ?_) ?_
          · have hG : x 6 = .bool true := hd 6 (by kernel_rfl)
            simp [Region.wanted, yielded, hG]
          · have h10 : Hid (x 10 = .slice (some a) i cp) := hd 10 (by kernel_rfl)
            have h12 : Hid (x 12 = txt pa) := hd 12 (by kernel_rfl)
            go_simp
            refine calls_args (args2 := #[.slice (some a) i cp, txt pa]) (by rw [h10.out, h12.out]) ?_
            refine (folIs (l.take i) pa false HFO.out _ _ (((HR.out.below (HB.out.trans ((HWb.out.trans (hb.mono hsb)).mono hw1))).take i (by omega)).more (HB.out.trans ((HWb.out.trans (hb.mono hsb)).mono hw1)).size) (by rw [len_take' l i (by rw [HN.out]; omega)]; omega)).mono ?_
            rintro e w99 ⟨rfl, hb99⟩
            exact hK.out _ _ hb99 rfl
          refine StepsAt.valG 14 (.bool true) rfl (fun _ _ => rfl) rfl (fun x wc hd => ?_) (fun x wc hb hd => ?_) ?_
          · have hG : x 6 = .bool true := hd 6 (by kernel_rfl)
            simp [Region.wanted, yielded, hG]
          · have h13 : x 13 = .bool false := hd 13 (by kernel_rfl)
            rw [h13]
            first | (go_simp; done) | (go_simp; rfl)
          refine StepsAt.valG 15 (.bool true) rfl (fun _ _ => rfl) rfl (fun x wc hd => ?_) (fun x wc hb hd => ?_) ?_
          · have hG : x 3 = .bool false := hd 3 (by kernel_rfl)
            simp [Region.wanted, yielded, hG]
          · have h6 : x 6 = .bool true := hd 6 (by kernel_rfl)
            have h14 : x 14 = .bool true := hd 14 (by kernel_rfl)
            rw [h6, h14]
            first | (go_simp; done) | (go_simp; rfl)
          refine StepsAt.val 16 (.bool true) rfl (fun _ _ => rfl) rfl rfl (fun x wc hb hd => ?_) ?_
          · have h3 : x 3 = .bool false := hd 3 (by kernel_rfl)
            have h15 : x 15 = .bool true := hd 15 (by kernel_rfl)
            rw [h3, h15]
            first | (go_simp; done) | (go_simp; rfl)
          exact StepsAt.done
        case fin =>
          intro x wc hb hd
          have hx0 : x 0 = .agg (ndc nd).toArray := hd 0 (by omega)
          have hx1 : x 1 = .bool true := hd 1 (by omega)
          have hx2 : x 2 = .bool false := hd 2 (by omega)
          have hx3 : x 3 = .bool false := hd 3 (by omega)
          have hx4 : x 4 = .int IntKind.i64 ↑i := hd 4 (by omega)
          have hx5 : x 5 = .bool true := hd 5 (by omega)
          have hx6 : x 6 = .bool true := hd 6 (by omega)
          have hx7 : x 7 = .pointer (some ⟨g0, 0, none⟩) := hd 7 (by omega)
          have hx8 : x 8 = .slice (some a) n cp := hd 8 (by omega)
          have hx9 : x 9 = .int IntKind.i64 ↑i := hd 9 (by omega)
          have hx10 : x 10 = .slice (some a) i cp := hd 10 (by omega)
          have hx11 : x 11 = .pointer (some ⟨gX, 0, none⟩) := hd 11 (by omega)
          have hx12 : x 12 = txt pa := hd 12 (by omega)
          have hx13 : x 13 = .bool false := hd 13 (by omega)
          have hx14 : x 14 = .bool true := hd 14 (by omega)
          have hx15 : x 15 = .bool true := hd 15 (by omega)
          have hx16 : x 16 = .bool true := hd 16 (by omega)
          refine AnyTill.any (S := fun _ => True) (m := 17) _ _ _ _ ?_
          refine AnyTill.done (by kernel_rfl) ?_
          refine NoPanic.normal ?_
          try dsimp only
          rw [hx0, hx1, hx2, hx3, hx4, hx5, hx6, hx7, hx8, hx9, hx10, hx11, hx12, hx13, hx14, hx15, hx16]
          have HWc := Lib.hid (HWb.out.trans (hb.mono hsb))
          clear hx0 hx1 hx2 hx3 hx4 hx5 hx6 hx7 hx8 hx9 hx10 hx11 hx12 hx13 hx14 hx15 hx16 hd hb XB XB2 XG HWb
          go_wp2
          go_ret
          exact ⟨by rw [HF.out]; rfl, HB.out.trans (HWc.out.mono hw1)⟩
      have HFO := Lib.hid hfo
      have HA2 := Lib.hid (HA3.out (by rw [OK.out, hlm, hfo]; simp))
      clear hlm h0 hfo
      refine wp_region_rely2 17 0 (fun x => ⟨#[.agg #[Value.slice (some a) n cp], .pointer (some { block := g0, off := 0 }), u2, .int IntKind.i64 ↑i, .pointer (some { block := gX, off := 0 }), .pointer (some { block := g0, off := 0 }), .slice (some a) n cp, .int IntKind.i64 ↑n, .bool false, .bool false, .pointer (some { block := g0, off := 0 }), .slice (some a) n cp, .int IntKind.i64 ↑n, .bool false, .bool false, .bool false, .pointer (some { block := g0, off := 0 }), .slice (some a) n cp, .pointer (some a), .pointer (some a), txt [47], .bool false, .bool false, .bool false, .pointer (some { block := g0, off := 0 }), .slice (some a) n cp, .pointer (some a), .pointer (some { block := a.block, off := a.off + 3 }), .int IntKind.i64 0, .bool false, .bool false, .pointer (some { block := g0, off := 0 }), .slice (some a) n cp, .int IntKind.i64 ↑n, .int IntKind.i64 ↑i, .bool true, .int IntKind.i64 ↑i, .pointer (some (a.add (i * 4))), .agg #[txt (nP nd), txt (nV nd), Value.int IntKind.i64 (nR nd), Value.int IntKind.i64 (nO nd)], x 0, x 1, x 2, x 3, x 4, x 5, x 6, x 7, x 8, x 9, x 10, x 11, x 12, x 13, x 14, x 15, x 16, u56], []⟩) (fun jj => ([eqV (.agg (ndc nd).toArray), (eqV (.bool true)), eqV (.bool false), eqV (.bool false), eqV (.int IntKind.i64 ↑i), eqV (.bool true), eqV (.bool true), eqV (.pointer (some ⟨g0, 0, none⟩)), eqV (.slice (some a) n cp), eqV (.int IntKind.i64 ↑i), eqV (.slice (some a) i cp), eqV (.pointer (some ⟨gX, 0, none⟩)), eqV (txt pa), (eqV (.bool true)), eqV (.bool false), eqV (.bool false), eqV (.bool false)] : List (Value → World → Prop)).getD jj (fun _ _ => True)) rfl ⟨fun kk => [_, _, _, _, _, _, _, _, _, _, _, _, _, _, _, _, _].getD kk undef, rfl⟩ (by kernel_rfl) (by kernel_rfl) ?steps ?fin
      case steps =>
        refine StepsAt.val 0 (.agg (ndc nd).toArray) rfl (fun _ _ => rfl) rfl rfl (fun x wc hb hd => ?_) ?_
        · exact run_load_blkU 91 (.tmp 4) rfl gX rfl (ndc nd) 91 (XB.out.below hb XB.out.lt) d56 HU.out HD.out sPN
        refine StepsAt.cons 1 (fun _ _ _ h hb => h) (fun _ _ => rfl) rfl rfl (fun x wc hb hd K hK => ?_) ?_
        · have h0 : Hid (x 0 = .agg (ndc nd).toArray) := hd 0 (by kernel_rfl)
          go_simp
          refine calls_args (args2 := #[.agg (ndc nd).toArray]) (by rw [h0.out]) ?_
          refine (limIs nd true HLM.out _).mono ?_
          rintro e w99 ⟨rfl, hb99⟩
          exact hK.out _ _ hb99 rfl
        refine StepsAt.val 2 (.bool false) rfl (fun _ _ => rfl) rfl rfl (fun x wc hb hd => ?_) ?_
        · have h1 : x 1 = .bool true := hd 1 (by kernel_rfl)
          rw [h1]
          first | (go_simp; done) | (go_simp; rfl)
        refine StepsAt.val 3 (.bool false) rfl (fun _ _ => rfl) rfl rfl (fun x wc hb hd => ?_) ?_
        · have h2 : x 2 = .bool false := hd 2 (by kernel_rfl)
          rw [h2]
          first | (go_simp; done) | (go_simp; rfl)
        refine StepsAt.valG 4 (.int IntKind.i64 ↑i) rfl (fun _ _ => rfl) rfl (fun x wc hd => ?_) (fun x wc hb hd => ?_) ?_
        · have hG : x 3 = .bool false := hd 3 (by kernel_rfl)
          simp [Region.wanted, yielded, hG]
        · first | (go_simp; done) | (go_simp; rfl)
        refine StepsAt.valG 5 (.bool true) rfl (fun _ _ => rfl) rfl (fun x wc hd => ?_) (fun x wc hb hd => ?_) ?_
        · have hG : x 3 = .bool false := hd 3 (by kernel_rfl)
          simp [Region.wanted, yielded, hG]
        · have h4 : x 4 = .int IntKind.i64 ↑i := hd 4 (by kernel_rfl)
          rw [h4]
          first | (go_simp; done) | (go_simp; rfl)
        refine StepsAt.valG 6 (.bool true) rfl (fun _ _ => rfl) rfl (fun x wc hd => ?_) (fun x wc hb hd => ?_) ?_
        · have hG : x 3 = .bool false := hd 3 (by kernel_rfl)
          simp [Region.wanted, yielded, hG]
        · have h5 : x 5 = .bool true := hd 5 (by kernel_rfl)
          rw [h5]
          first | (go_simp; done) | (go_simp; rfl)
        refine StepsAt.valG 7 (.pointer (some ⟨g0, 0, none⟩)) rfl (fun _ _ => rfl) rfl (fun x wc hd => ?_) (fun x wc hb hd => ?_) ?_
        · have hG : x 6 = .bool true := hd 6 (by kernel_rfl)
          simp [Region.wanted, yielded, hG]
        · first | (go_simp; done) | (go_simp; rfl)
        refine StepsAt.valG 8 (.slice (some a) n cp) rfl (fun _ _ => rfl) rfl (fun x wc hd => ?_) (fun x wc hb hd => ?_) ?_
        · have hG : x 6 = .bool true := hd 6 (by kernel_rfl)
          simp [Region.wanted, yielded, hG]
        · have h7 : x 7 = .pointer (some ⟨g0, 0, none⟩) := hd 7 (by kernel_rfl)
          have cc := ((XG.out.below hb XG.out.lt).cell 0).trans (show _ = some (.slice (some a) n cp) from rfl)
          rw [h7]
          first | (go_simp; done) | (go_simp; rfl)
        refine StepsAt.valG 9 (.int IntKind.i64 ↑i) rfl (fun _ _ => rfl) rfl (fun x wc hd => ?_) (fun x wc hb hd => ?_) ?_
        · have hG : x 6 = .bool true := hd 6 (by kernel_rfl)
          simp [Region.wanted, yielded, hG]
        · first | (go_simp; done) | (go_simp; rfl)
        refine StepsAt.valG 10 (.slice (some a) i cp) rfl (fun _ _ => rfl) rfl (fun x wc hd => ?_) (fun x wc hb hd => ?_) ?_
        · have hG : x 6 = .bool true := hd 6 (by kernel_rfl)
          simp [Region.wanted, yielded, hG]
        · have h8 : x 8 = .slice (some a) n cp := hd 8 (by kernel_rfl)
          have h9 : x 9 = .int IntKind.i64 ↑i := hd 9 (by kernel_rfl)
          rw [h8, h9]
          first | (go_simp; done) | (go_simp; rfl)
        refine StepsAt.valG 11 (.pointer (some ⟨gX, 0, none⟩)) rfl (fun _ _ => rfl) rfl (fun x wc hd => ?_) (fun x wc hb hd => ?_) ?_
        · have hG : x 6 = .bool true := hd 6 (by kernel_rfl)
          simp [Region.wanted, yielded, hG]
        · first | (go_simp; done) | (go_simp; rfl)
        refine StepsAt.valG 12 (txt pa) rfl (fun _ _ => rfl) rfl (fun x wc hd => ?_) (fun x wc hb hd => ?_) ?_
        · have hG : x 6 = .bool true := hd 6 (by kernel_rfl)
          simp [Region.wanted, yielded, hG]
        · have h11 : x 11 = .pointer (some ⟨gX, 0, none⟩) := hd 11 (by kernel_rfl)
          have cc := ((XB2.out.below hb XB2.out.lt).cell 0).trans (show _ = some (txt pa) from rfl)
          rw [h11]
          first | (go_simp; done) | (go_simp; rfl)
        refine StepsAt.consG 13 (fun _ _ _ h hb => h) (fun _ _ => rfl) rfl (fun x wc hd => ?_) (fun x wc hb hd K hK => ?_) ?_
        · have hG : x 6 = .bool true := hd 6 (by kernel_rfl)
          simp [Region.wanted, yielded, hG]
        · have h10 : Hid (x 10 = .slice (some a) i cp) := hd 10 (by kernel_rfl)
          have h12 : Hid (x 12 = txt pa) := hd 12 (by kernel_rfl)
          go_simp
          refine calls_args (args2 := #[.slice (some a) i cp, txt pa]) (by rw [h10.out, h12.out]) ?_
          refine (folIs (l.take i) pa true HFO.out _ _ (((HR.out.below (HB.out.trans ((HWb.out.trans (hb.mono hsb)).mono hw1))).take i (by omega)).more (HB.out.trans ((HWb.out.trans (hb.mono hsb)).mono hw1)).size) (by rw [len_take' l i (by rw [HN.out]; omega)]; omega)).mono ?_
          rintro e w99 ⟨rfl, hb99⟩
          exact hK.out _ _ hb99 rfl
        refine StepsAt.valG 14 (.bool false) rfl (fun _ _ => rfl) rfl (fun x wc hd => ?_) (fun x wc hb hd => ?_) ?_
        · have hG : x 6 = .bool true := hd 6 (by kernel_rfl)
          simp [Region.wanted, yielded, hG]
        · have h13 : x 13 = .bool true := hd 13 (by kernel_rfl)
          rw [h13]
          first | (go_simp; done) | (go_simp; rfl)
        refine StepsAt.valG 15 (.bool false) rfl (fun _ _ => rfl) rfl (fun x wc hd => ?_) (fun x wc hb hd => ?_) ?_
        · have hG : x 3 = .bool false := hd 3 (by kernel_rfl)
          simp [Region.wanted, yielded, hG]
        · have h6 : x 6 = .bool true := hd 6 (by kernel_rfl)
          have h14 : x 14 = .bool false := hd 14 (by kernel_rfl)
          rw [h6, h14]
          first | (go_simp; done) | (go_simp; rfl)
        refine StepsAt.val 16 (.bool false) rfl (fun _ _ => rfl) rfl rfl (fun x wc hb hd => ?_) ?_
        · have h3 : x 3 = .bool false := hd 3 (by kernel_rfl)
          have h15 : x 15 = .bool false := hd 15 (by kernel_rfl)
          rw [h3, h15]
          first | (go_simp; done) | (go_simp; rfl)
        exact StepsAt.done
      case fin =>
        intro x wc hb hd
        have hx0 : x 0 = .agg (ndc nd).toArray := hd 0 (by omega)
        have hx1 : x 1 = .bool true := hd 1 (by omega)
        have hx2 : x 2 = .bool false := hd 2 (by omega)
        have hx3 : x 3 = .bool false := hd 3 (by omega)
        have hx4 : x 4 = .int IntKind.i64 ↑i := hd 4 (by omega)
        have hx5 : x 5 = .bool true := hd 5 (by omega)
        have hx6 : x 6 = .bool true := hd 6 (by omega)
        have hx7 : x 7 = .pointer (some ⟨g0, 0, none⟩) := hd 7 (by omega)
        have hx8 : x 8 = .slice (some a) n cp := hd 8 (by omega)
        have hx9 : x 9 = .int IntKind.i64 ↑i := hd 9 (by omega)
        have hx10 : x 10 = .slice (some a) i cp := hd 10 (by omega)
        have hx11 : x 11 = .pointer (some ⟨gX, 0, none⟩) := hd 11 (by omega)
        have hx12 : x 12 = txt pa := hd 12 (by omega)
        have hx13 : x 13 = .bool true := hd 13 (by omega)
        have hx14 : x 14 = .bool false := hd 14 (by omega)
        have hx15 : x 15 = .bool false := hd 15 (by omega)
        have hx16 : x 16 = .bool false := hd 16 (by omega)
        refine AnyTill.any (S := fun _ => True) (m := 17) _ _ _ _ ?_
        refine AnyTill.done (by kernel_rfl) ?_
        refine NoPanic.normal ?_
        try dsimp only
        rw [hx0, hx1, hx2, hx3, hx4, hx5, hx6, hx7, hx8, hx9, hx10, hx11, hx12, hx13, hx14, hx15, hx16]
        have HWc := Lib.hid (HWb.out.trans (hb.mono hsb))
        clear hx0 hx1 hx2 hx3 hx4 hx5 hx6 hx7 hx8 hx9 hx10 hx11 hx12 hx13 hx14 hx15 hx16 hd hb XB XB2 XG HWb
        have XGc := Lib.hid (X0.out.below HWc.out hg1)
        have ca := XGc.out.cell 0
        go_wp2
        go_roundw
        case rel => exact ⟨i + 1, by omega, by go_num, HA2, HWc⟩
        case measure => simp [intOf]; omega
    · have hE : i = n := by omega
      subst hE
      have HF := Lib.hid (pok_right l (by rw [HN.out]; omega) (by rw [HN.out]; omega) HQ.out HY.out (by rw [HN.out]; exact HA.out))
      go_wp2
      go_ret
      exact ⟨by rw [HF.out]; rfl, HB.out.trans (HW.out.mono hw1)⟩
end Go.Proofs.YtdihngkdhanhkaaGreatDoor
