/-
  The document's shelves: Right.
-/
import Derived.Test.YtlpakfaoaodaiaaDoorHF
import Derived.Test.YtlpakfaoaodaiaaDoorRel4
namespace Go.Proofs.YtlpakfaoaodaiaaDoor
open Go.RowKit

theorem rightIs (s : List UInt8) (b : Bool) (h : rightB s = b) (w : World) : Calls Tryd.prog 35 #[txt s] w (One (.bool b) w) := by
  rw [← h]
  exact rfRight_any s w
theorem aheadIs (p q : List UInt8) (b : Bool) (h : aheadB p q = b) (w : World) : Calls Tryd.prog 36 #[txt p, txt q] w (One (.bool b) w) := by
  rw [← h]
  exact rfAhead_any p q w
theorem okN_not (l : List Nd) (i : Nat) (hi : i < l.length) (h : okN l i = false) : rightN l = false := by
  unfold rightN
  have : (List.range l.length).all (okN l) = false := by
    rw [List.all_eq_false]
    exact ⟨i, List.mem_range.2 hi, by rw [h]; simp⟩
  rw [this]
  simp
theorem rightN_end (l : List Nd) (h1 : 1 ≤ l.length) (h2 : l.length ≤ 200) (h : ∀ i, i < l.length → okN l i = true) : rightN l = decide (placeN l [47] = 0) := by
  unfold rightN
  have : (List.range l.length).all (okN l) = true := by
    rw [List.all_eq_true]
    intro i hi
    exact h i (List.mem_range.1 hi)
  rw [this]
  simp [h1, h2]
theorem rightN_len (l : List Nd) (h : l.length < 1 ∨ 200 < l.length) : rightN l = false := by
  unfold rightN
  rcases h with h | h
  · have : decide (1 ≤ l.length) = false := decide_eq_false (by omega)
    rw [this]; rfl
  · have : decide (l.length ≤ 200) = false := decide_eq_false (by omega)
    rw [this]; simp

set_option maxRecDepth 100000 in
set_option maxHeartbeats 16000000 in
theorem rfRightN_any (l : List Nd) (v : Value) (w : World) (hr : RdNd w.heap.size w v l) : Calls Tryd.prog 12 #[.agg #[v]] w (One (.bool (rightN l)) w) := by
  obtain ⟨A, cp, rfl, hc, hm⟩ := hr.shape
  unfold maxLen at hm
  obtain ⟨n, hn⟩ : ∃ n, l.length = n := ⟨_, rfl⟩
  have HN := Lib.hid hn
  have HR := Lib.hid hr
  rw [hn] at hc HR ⊢
  clear hr hn
  go_enter Tryd.func12, Tryd.ntmps12
  go_wp2_with (refine wpList_box_blk rfl 30 _ rfl [.slice A n cp] rfl ?_)
  intro w1 b1 b2 b3
  obtain ⟨g0, hg0⟩ : ∃ g, w.heap.size = g := ⟨_, rfl⟩
  have X0 := Lib.hid b1
  have HB := Lib.hid b3
  have hg1 : g0 < w1.heap.size := by omega
  have hw1 : w.heap.size ≤ w1.heap.size := by omega
  rw [hg0] at X0 ⊢
  have ca := X0.out.cell 0
  clear b1 b2 b3 hg0
  by_cases hlo : (n : Int) < 1
  · have HF := Lib.hid (rightN_len l (by rw [HN.out]; omega))
    go_wp2
    go_ret
    exact ⟨by rw [HF.out]; rfl, HB.out⟩
  by_cases hhi : 200 < (n : Int)
  · have HF := Lib.hid (rightN_len l (by rw [HN.out]; omega))
    go_wp2
    go_ret
    exact ⟨by rw [HF.out]; rfl, HB.out⟩
  go_wp2
  go_loopw [3] (fun x wr => ∃ i : Nat, i ≤ n ∧ x = .int .i64 (i : Int) ∧ Hid (∀ j, j < i → okN l j = true) ∧ Hid (Below w1.heap.size w1 wr)) (fun x _ => n - (intOf x).toNat)
  case atStart => exact ⟨0, by omega, rfl, fun j hj => by omega, Below.refl _ _⟩
  case round =>
    obtain ⟨i, hi, rfl, HA, HW⟩ := hrel
    have hwr := HW.out.size
    clear ca
    have ca := (X0.out.below HW.out hg1).cell 0
    by_cases hi2 : i < n
    · have zi : (i : Int) < (n : Int) := by omega
      obtain ⟨a, hA, c0, c1, c2, c3⟩ := (HR.out.below (HB.out.trans (HW.out.mono hw1))).at_ i (by rw [HN.out]; exact hi2)
      subst hA
      obtain ⟨nd, hx⟩ : ∃ x, l.getD i nd0 = x := ⟨_, rfl⟩
      have HX := Lib.hid hx
      rw [hx] at c0 c1 c2 c3
      clear hx
      go_wp2_with (refine wpList_alloc_blk rfl 56 rfl (ndc nd0) zND ?_)
      intro wa a1 a2 a3
      obtain ⟨gX, hgX⟩ : ∃ g, wr.heap.size = g := ⟨_, rfl⟩
      have A1 := Lib.hid a1
      have HWa := Lib.hid (HW.out.trans (a3.mono hwr))
      have hwX : w1.heap.size ≤ gX := by omega
      rw [hgX] at A1 ⊢
      clear a1 a2 a3 HW c0 c1 c2 c3 ca hgX
      go_wp2_with (refine wpList_store_to rfl 56 _ _ rfl gX (ndc nd) (ndc nd0) 56 rfl rfl A1.out sND rfl (ndc_one _) ?_)
      intro wb e1 e2 e3 e4
      have XB := Lib.hid e1
      have HWb := Lib.hid (HWa.out.trans (e3.mono hwX))
      have hsb : w1.heap.size ≤ wb.heap.size := HWb.out.size
      clear e1 e2 e3 e4 A1 HWa
      obtain ⟨pa, hpa⟩ : ∃ p, nP nd = p := ⟨_, rfl⟩
      obtain ⟨va, hva⟩ : ∃ p, nV nd = p := ⟨_, rfl⟩
      obtain ⟨k, hk⟩ : ∃ k, va.length = k := ⟨_, rfl⟩
      have hkz : (⟨va.toArray⟩ : ByteArray).size = k := hk
      have HPA := Lib.hid hpa
      have HVA := Lib.hid hva
      have HK := Lib.hid hk
      have XG := Lib.hid ((X0.out.below HWb.out hg1))
      clear hpa hva hk
      go_wp2
      obtain ⟨r, hrr⟩ : ∃ r, nR nd = r := ⟨_, rfl⟩
      obtain ⟨oo, hoo⟩ : ∃ r, nO nd = r := ⟨_, rfl⟩
      have XB2 : Hid (Blk wb gX [txt pa, txt va, .int .i64 r, .int .i64 oo] 56) := by
        show Blk _ _ _ _
        have h := XB.out
        unfold ndc at h
        rw [HPA.out, HVA.out, hrr, hoo] at h
        exact h
      have HRR := Lib.hid hrr
      have HOO := Lib.hid hoo
      clear hrr hoo XB
      have OK : Hid (okN l i = (rightB pa && decide (k ≤ 1000) && decide (0 ≤ r) && decide (r ≤ 1000000000) && decide (0 ≤ oo) && (decide (i = 0) || aheadB (nP (l.getD (i - 1) nd0)) pa) && upN l nd)) := by
        show _ = _
        unfold okN fineN
        rw [HX.out, HPA.out, HVA.out, HK.out, HRR.out, HOO.out]
      cases hrb : rightB pa
      · have HRB := Lib.hid hrb
        have HF := Lib.hid (okN_not l i (by rw [HN.out]; exact hi2) (by rw [OK.out]; rw [hrb]; simp))
        clear hrb
        refine wp_region_rely2 42 0 (fun x => ⟨#[.agg #[Value.slice (some a) n cp], .pointer (some { block := g0, off := 0 }), u2, .int IntKind.i64 ↑i, .pointer (some { block := gX, off := 0 }), u5, u6, u7, .pointer (some { block := g0, off := 0 }), .slice (some a) n cp, .int IntKind.i64 ↑n, .bool false, .bool false, .pointer (some { block := g0, off := 0 }), .slice (some a) n cp, .int IntKind.i64 ↑n, .bool false, .bool false, .int IntKind.i64 ↑i, .pointer (some { block := g0, off := 0 }), .slice (some a) n cp, .int IntKind.i64 ↑n, .bool true, u23, u24, .pointer (some { block := g0, off := 0 }), .slice (some a) n cp, .int IntKind.i64 ↑i, .pointer (some (a.add (i * 4))), .agg #[txt (nP nd), txt (nV nd), Value.int IntKind.i64 (nR nd), Value.int IntKind.i64 (nO nd)], x 0, x 1, x 2, x 3, x 4, x 5, x 6, x 7, x 8, x 9, x 10, x 11, x 12, x 13, x 14, x 15, x 16, x 17, x 18, x 19, x 20, x 21, x 22, x 23, x 24, x 25, x 26, x 27, x 28, x 29, x 30, x 31, x 32, x 33, x 34, x 35, x 36, x 37, x 38, x 39, x 40, x 41, u72, u73, u74, u75, u76, u77, u78, u79, u80, u81, u82, u83, u84, u85, u86, u87, u88, u89, u90, u91, u92, u93, u94, u95, u96, undef, undef, undef], []⟩) (fun jj => ([eqV (.pointer (some ⟨gX, 0, none⟩)), eqV (txt pa), (eqV (.bool false)), eqV (.bool true), eqV (.bool true), (eqV undef), (eqV undef), (eqV undef), (eqV undef), eqV (.bool true), eqV (.bool true), (eqV undef), (eqV undef), (eqV undef), eqV (.bool true), eqV (.bool true), (eqV undef), (eqV undef), (eqV undef), eqV (.bool true), eqV (.bool true), (eqV undef), (eqV undef), (eqV undef), eqV (.bool true), eqV (.bool true), (eqV undef), (eqV undef), (eqV undef), (eqV undef), (eqV undef), (eqV undef), (eqV undef), (eqV undef), (eqV undef), (eqV undef), (eqV undef), (eqV undef), (eqV undef), (eqV undef), (eqV undef), eqV (.bool true)] : List (Value → World → Prop)).getD jj (fun _ _ => True)) rfl ⟨fun kk => [_, _, _, _, _, _, _, _, _, _, _, _, _, _, _, _, _, _, _, _, _, _, _, _, _, _, _, _, _, _, _, _, _, _, _, _, _, _, _, _, _, _].getD kk undef, rfl⟩ (by kernel_rfl) (by kernel_rfl) ?steps ?fin
        case steps =>
          refine StepsAt.val 0 (.pointer (some ⟨gX, 0, none⟩)) rfl (fun _ _ => rfl) rfl rfl (fun x wc hb hd => ?_) ?_
          · first | (go_simp; done) | (go_simp; rfl)
          refine StepsAt.val 1 (txt pa) rfl (fun _ _ => rfl) rfl rfl (fun x wc hb hd => ?_) ?_
          · have h0 : x 0 = .pointer (some ⟨gX, 0, none⟩) := hd 0 (by kernel_rfl)
            have cc := ((XB2.out.below hb XB2.out.lt).cell 0).trans (show _ = some (txt pa) from rfl)
            rw [h0]
            first | (go_simp; done) | (go_simp; rfl)
          refine StepsAt.cons 2 (fun _ _ _ h hb => h) (fun _ _ => rfl) rfl rfl (fun x wc hb hd K hK => ?_) ?_
          · have h1 : Hid (x 1 = txt pa) := hd 1 (by kernel_rfl)
            go_simp
            refine calls_args (args2 := #[txt pa]) (by rw [h1.out]) ?_
            refine (rightIs pa false HRB.out _).mono ?_
            rintro e w99 ⟨rfl, hb99⟩
            exact hK.out _ _ hb99 rfl
          refine StepsAt.val 3 (.bool true) rfl (fun _ _ => rfl) rfl rfl (fun x wc hb hd => ?_) ?_
          · have h2 : x 2 = .bool false := hd 2 (by kernel_rfl)
            rw [h2]
            first | (go_simp; done) | (go_simp; rfl)
          refine StepsAt.val 4 (.bool true) rfl (fun _ _ => rfl) rfl rfl (fun x wc hb hd => ?_) ?_
          · have h3 : x 3 = .bool true := hd 3 (by kernel_rfl)
            rw [h3]
            first | (go_simp; done) | (go_simp; rfl)
          refine StepsAt.skip 5 rfl (fun _ _ => rfl) rfl (fun x wc hd => ?_) ?_
          · have hG : x 4 = .bool true := hd 4 (by kernel_rfl)
            simp [Region.wanted, yielded, hG]
          refine StepsAt.skip 6 rfl (fun _ _ => rfl) rfl (fun x wc hd => ?_) ?_
          · have hG : x 4 = .bool true := hd 4 (by kernel_rfl)
            simp [Region.wanted, yielded, hG]
          refine StepsAt.skip 7 rfl (fun _ _ => rfl) rfl (fun x wc hd => ?_) ?_
          · have hG : x 4 = .bool true := hd 4 (by kernel_rfl)
            simp [Region.wanted, yielded, hG]
          refine StepsAt.skip 8 rfl (fun _ _ => rfl) rfl (fun x wc hd => ?_) ?_
          · have hG : x 4 = .bool true := hd 4 (by kernel_rfl)
            simp [Region.wanted, yielded, hG]
          refine StepsAt.val 9 (.bool true) rfl (fun _ _ => rfl) rfl rfl (fun x wc hb hd => ?_) ?_
          · have h4 : x 4 = .bool true := hd 4 (by kernel_rfl)
            have h8 : x 8 = undef := hd 8 (by kernel_rfl)
            rw [h4, h8]
            first | (go_simp; done) | (go_simp; rfl)
          refine StepsAt.val 10 (.bool true) rfl (fun _ _ => rfl) rfl rfl (fun x wc hb hd => ?_) ?_
          · have h9 : x 9 = .bool true := hd 9 (by kernel_rfl)
            rw [h9]
            first | (go_simp; done) | (go_simp; rfl)
          refine StepsAt.skip 11 rfl (fun _ _ => rfl) rfl (fun x wc hd => ?_) ?_
          · have hG : x 10 = .bool true := hd 10 (by kernel_rfl)
            simp [Region.wanted, yielded, hG]
          refine StepsAt.skip 12 rfl (fun _ _ => rfl) rfl (fun x wc hd => ?_) ?_
          · have hG : x 10 = .bool true := hd 10 (by kernel_rfl)
            simp [Region.wanted, yielded, hG]
          refine StepsAt.skip 13 rfl (fun _ _ => rfl) rfl (fun x wc hd => ?_) ?_
          · have hG : x 10 = .bool true := hd 10 (by kernel_rfl)
            simp [Region.wanted, yielded, hG]
          refine StepsAt.val 14 (.bool true) rfl (fun _ _ => rfl) rfl rfl (fun x wc hb hd => ?_) ?_
          · have h10 : x 10 = .bool true := hd 10 (by kernel_rfl)
            have h13 : x 13 = undef := hd 13 (by kernel_rfl)
            rw [h10, h13]
            first | (go_simp; done) | (go_simp; rfl)
          refine StepsAt.val 15 (.bool true) rfl (fun _ _ => rfl) rfl rfl (fun x wc hb hd => ?_) ?_
          · have h14 : x 14 = .bool true := hd 14 (by kernel_rfl)
            rw [h14]
            first | (go_simp; done) | (go_simp; rfl)
          refine StepsAt.skip 16 rfl (fun _ _ => rfl) rfl (fun x wc hd => ?_) ?_
          · have hG : x 15 = .bool true := hd 15 (by kernel_rfl)
            simp [Region.wanted, yielded, hG]
          refine StepsAt.skip 17 rfl (fun _ _ => rfl) rfl (fun x wc hd => ?_) ?_
          · have hG : x 15 = .bool true := hd 15 (by kernel_rfl)
            simp [Region.wanted, yielded, hG]
          refine StepsAt.skip 18 rfl (fun _ _ => rfl) rfl (fun x wc hd => ?_) ?_
          · have hG : x 15 = .bool true := hd 15 (by kernel_rfl)
            simp [Region.wanted, yielded, hG]
          refine StepsAt.val 19 (.bool true) rfl (fun _ _ => rfl) rfl rfl (fun x wc hb hd => ?_) ?_
          · have h15 : x 15 = .bool true := hd 15 (by kernel_rfl)
            have h18 : x 18 = undef := hd 18 (by kernel_rfl)
            rw [h15, h18]
            first | (go_simp; done) | (go_simp; rfl)
          refine StepsAt.val 20 (.bool true) rfl (fun _ _ => rfl) rfl rfl (fun x wc hb hd => ?_) ?_
          · have h19 : x 19 = .bool true := hd 19 (by kernel_rfl)
            rw [h19]
            first | (go_simp; done) | (go_simp; rfl)
          refine StepsAt.skip 21 rfl (fun _ _ => rfl) rfl (fun x wc hd => ?_) ?_
          · have hG : x 20 = .bool true := hd 20 (by kernel_rfl)
            simp [Region.wanted, yielded, hG]
          refine StepsAt.skip 22 rfl (fun _ _ => rfl) rfl (fun x wc hd => ?_) ?_
          · have hG : x 20 = .bool true := hd 20 (by kernel_rfl)
            simp [Region.wanted, yielded, hG]
          refine StepsAt.skip 23 rfl (fun _ _ => rfl) rfl (fun x wc hd => ?_) ?_
          · have hG : x 20 = .bool true := hd 20 (by kernel_rfl)
            simp [Region.wanted, yielded, hG]
          refine StepsAt.val 24 (.bool true) rfl (fun _ _ => rfl) rfl rfl (fun x wc hb hd => ?_) ?_
          · have h20 : x 20 = .bool true := hd 20 (by kernel_rfl)
            have h23 : x 23 = undef := hd 23 (by kernel_rfl)
            rw [h20, h23]
            first | (go_simp; done) | (go_simp; rfl)
          refine StepsAt.val 25 (.bool true) rfl (fun _ _ => rfl) rfl rfl (fun x wc hb hd => ?_) ?_
          · have h24 : x 24 = .bool true := hd 24 (by kernel_rfl)
            rw [h24]
            first | (go_simp; done) | (go_simp; rfl)
          refine StepsAt.skip 26 rfl (fun _ _ => rfl) rfl (fun x wc hd => ?_) ?_
          · have hG : x 25 = .bool true := hd 25 (by kernel_rfl)
            simp [Region.wanted, yielded, hG]
          refine StepsAt.skip 27 rfl (fun _ _ => rfl) rfl (fun x wc hd => ?_) ?_
          · have hG : x 25 = .bool true := hd 25 (by kernel_rfl)
            simp [Region.wanted, yielded, hG]
          refine StepsAt.skip 28 rfl (fun _ _ => rfl) rfl (fun x wc hd => ?_) ?_
          · have hG : x 25 = .bool true := hd 25 (by kernel_rfl)
            simp [Region.wanted, yielded, hG]
          refine StepsAt.skip 29 rfl (fun _ _ => rfl) rfl (fun x wc hd => ?_) ?_
          · have hG : x 28 = undef := hd 28 (by kernel_rfl)
            simp [Region.wanted, yielded, hG, undef]
          refine StepsAt.skip 30 rfl (fun _ _ => rfl) rfl (fun x wc hd => ?_) ?_
          · have hG : x 28 = undef := hd 28 (by kernel_rfl)
            simp [Region.wanted, yielded, hG, undef]
          refine StepsAt.skip 31 rfl (fun _ _ => rfl) rfl (fun x wc hd => ?_) ?_
          · have hG : x 28 = undef := hd 28 (by kernel_rfl)
            simp [Region.wanted, yielded, hG, undef]
          refine StepsAt.skip 32 rfl (fun _ _ => rfl) rfl (fun x wc hd => ?_) ?_
          · have hG : x 28 = undef := hd 28 (by kernel_rfl)
            simp [Region.wanted, yielded, hG, undef]
          refine StepsAt.skip 33 rfl (fun _ _ => rfl) rfl (fun x wc hd => ?_) ?_
          · have hG : x 28 = undef := hd 28 (by kernel_rfl)
            simp [Region.wanted, yielded, hG, undef]
          refine StepsAt.skip 34 rfl (fun _ _ => rfl) rfl (fun x wc hd => ?_) ?_
          · have hG : x 28 = undef := hd 28 (by kernel_rfl)
            simp [Region.wanted, yielded, hG, undef]
          refine StepsAt.skip 35 rfl (fun _ _ => rfl) rfl (fun x wc hd => ?_) ?_
          · have hG : x 28 = undef := hd 28 (by kernel_rfl)
            simp [Region.wanted, yielded, hG, undef]
          refine StepsAt.skip 36 rfl (fun _ _ => rfl) rfl (fun x wc hd => ?_) ?_
          · have hG : x 28 = undef := hd 28 (by kernel_rfl)
            simp [Region.wanted, yielded, hG, undef]
          refine StepsAt.skip 37 rfl (fun _ _ => rfl) rfl (fun x wc hd => ?_) ?_
          · have hG : x 28 = undef := hd 28 (by kernel_rfl)
            simp [Region.wanted, yielded, hG, undef]
          refine StepsAt.skip 38 rfl (fun _ _ => rfl) rfl (fun x wc hd => ?_) ?_
          · have hG : x 28 = undef := hd 28 (by kernel_rfl)
            simp [Region.wanted, yielded, hG, undef]
          refine StepsAt.skip 39 rfl (fun _ _ => rfl) rfl (fun x wc hd => ?_) ?_
          · have hG : x 28 = undef := hd 28 (by kernel_rfl)
            simp [Region.wanted, yielded, hG, undef]
          refine StepsAt.skip 40 rfl (fun _ _ => rfl) rfl (fun x wc hd => ?_) ?_
          · have hG : x 25 = .bool true := hd 25 (by kernel_rfl)
            simp [Region.wanted, yielded, hG]
          refine StepsAt.val 41 (.bool true) rfl (fun _ _ => rfl) rfl rfl (fun x wc hb hd => ?_) ?_
          · have h25 : x 25 = .bool true := hd 25 (by kernel_rfl)
            have h40 : x 40 = undef := hd 40 (by kernel_rfl)
            rw [h25, h40]
            first | (go_simp; done) | (go_simp; rfl)
          exact StepsAt.done
        case fin =>
          intro x wc hb hd
          have hx0 : x 0 = .pointer (some ⟨gX, 0, none⟩) := hd 0 (by omega)
          have hx1 : x 1 = txt pa := hd 1 (by omega)
          have hx2 : x 2 = .bool false := hd 2 (by omega)
          have hx3 : x 3 = .bool true := hd 3 (by omega)
          have hx4 : x 4 = .bool true := hd 4 (by omega)
          have hx5 : x 5 = undef := hd 5 (by omega)
          have hx6 : x 6 = undef := hd 6 (by omega)
          have hx7 : x 7 = undef := hd 7 (by omega)
          have hx8 : x 8 = undef := hd 8 (by omega)
          have hx9 : x 9 = .bool true := hd 9 (by omega)
          have hx10 : x 10 = .bool true := hd 10 (by omega)
          have hx11 : x 11 = undef := hd 11 (by omega)
          have hx12 : x 12 = undef := hd 12 (by omega)
          have hx13 : x 13 = undef := hd 13 (by omega)
          have hx14 : x 14 = .bool true := hd 14 (by omega)
          have hx15 : x 15 = .bool true := hd 15 (by omega)
          have hx16 : x 16 = undef := hd 16 (by omega)
          have hx17 : x 17 = undef := hd 17 (by omega)
          have hx18 : x 18 = undef := hd 18 (by omega)
          have hx19 : x 19 = .bool true := hd 19 (by omega)
          have hx20 : x 20 = .bool true := hd 20 (by omega)
          have hx21 : x 21 = undef := hd 21 (by omega)
          have hx22 : x 22 = undef := hd 22 (by omega)
          have hx23 : x 23 = undef := hd 23 (by omega)
          have hx24 : x 24 = .bool true := hd 24 (by omega)
          have hx25 : x 25 = .bool true := hd 25 (by omega)
          have hx26 : x 26 = undef := hd 26 (by omega)
          have hx27 : x 27 = undef := hd 27 (by omega)
          have hx28 : x 28 = undef := hd 28 (by omega)
          have hx29 : x 29 = undef := hd 29 (by omega)
          have hx30 : x 30 = undef := hd 30 (by omega)
          have hx31 : x 31 = undef := hd 31 (by omega)
          have hx32 : x 32 = undef := hd 32 (by omega)
          have hx33 : x 33 = undef := hd 33 (by omega)
          have hx34 : x 34 = undef := hd 34 (by omega)
          have hx35 : x 35 = undef := hd 35 (by omega)
          have hx36 : x 36 = undef := hd 36 (by omega)
          have hx37 : x 37 = undef := hd 37 (by omega)
          have hx38 : x 38 = undef := hd 38 (by omega)
          have hx39 : x 39 = undef := hd 39 (by omega)
          have hx40 : x 40 = undef := hd 40 (by omega)
          have hx41 : x 41 = .bool true := hd 41 (by omega)
          refine AnyTill.any (S := fun _ => True) (m := 42) _ _ _ _ ?_
          refine AnyTill.done (by kernel_rfl) ?_
          refine NoPanic.normal ?_
          try dsimp only
          rw [hx0, hx1, hx2, hx3, hx4, hx5, hx6, hx7, hx8, hx9, hx10, hx11, hx12, hx13, hx14, hx15, hx16, hx17, hx18, hx19, hx20, hx21, hx22, hx23, hx24, hx25, hx26, hx27, hx28, hx29, hx30, hx31, hx32, hx33, hx34, hx35, hx36, hx37, hx38, hx39, hx40, hx41]
          have HWc := Lib.hid (HWb.out.trans (hb.mono hsb))
          have XC := Lib.hid (XB2.out.below hb XB2.out.lt)
          have XGc := Lib.hid (XG.out.below hb XG.out.lt)
          clear hx0 hx1 hx2 hx3 hx4 hx5 hx6 hx7 hx8 hx9 hx10 hx11 hx12 hx13 hx14 hx15 hx16 hx17 hx18 hx19 hx20 hx21 hx22 hx23 hx24 hx25 hx26 hx27 hx28 hx29 hx30 hx31 hx32 hx33 hx34 hx35 hx36 hx37 hx38 hx39 hx40 hx41 hd hb XB2 XG HWb x
          go_wp2
          go_ret
          exact ⟨by rw [HF.out]; rfl, HB.out.trans (HWc.out.mono hw1)⟩
      have HRB := Lib.hid hrb
      clear hrb
      by_cases h8 : 1000 < k
      · have d8 : decide ((1000 : Int) < (k : Int)) = true := decide_eq_true (by omega)
        have HF := Lib.hid (okN_not l i (by rw [HN.out]; exact hi2) (by rw [OK.out]; (have : decide (k ≤ 1000) = false := decide_eq_false (by omega)); rw [this]; simp))
        clear h8
        refine wp_region_rely2 42 0 (fun x => ⟨#[.agg #[Value.slice (some a) n cp], .pointer (some { block := g0, off := 0 }), u2, .int IntKind.i64 ↑i, .pointer (some { block := gX, off := 0 }), u5, u6, u7, .pointer (some { block := g0, off := 0 }), .slice (some a) n cp, .int IntKind.i64 ↑n, .bool false, .bool false, .pointer (some { block := g0, off := 0 }), .slice (some a) n cp, .int IntKind.i64 ↑n, .bool false, .bool false, .int IntKind.i64 ↑i, .pointer (some { block := g0, off := 0 }), .slice (some a) n cp, .int IntKind.i64 ↑n, .bool true, u23, u24, .pointer (some { block := g0, off := 0 }), .slice (some a) n cp, .int IntKind.i64 ↑i, .pointer (some (a.add (i * 4))), .agg #[txt (nP nd), txt (nV nd), Value.int IntKind.i64 (nR nd), Value.int IntKind.i64 (nO nd)], x 0, x 1, x 2, x 3, x 4, x 5, x 6, x 7, x 8, x 9, x 10, x 11, x 12, x 13, x 14, x 15, x 16, x 17, x 18, x 19, x 20, x 21, x 22, x 23, x 24, x 25, x 26, x 27, x 28, x 29, x 30, x 31, x 32, x 33, x 34, x 35, x 36, x 37, x 38, x 39, x 40, x 41, u72, u73, u74, u75, u76, u77, u78, u79, u80, u81, u82, u83, u84, u85, u86, u87, u88, u89, u90, u91, u92, u93, u94, u95, u96, undef, undef, undef], []⟩) (fun jj => ([eqV (.pointer (some ⟨gX, 0, none⟩)), eqV (txt pa), (eqV (.bool true)), eqV (.bool false), eqV (.bool false), eqV (.pointer (some ⟨gX, 1, none⟩)), eqV (txt va), eqV (.int .i64 (k : Int)), eqV (.bool true), eqV (.bool true), eqV (.bool true), (eqV undef), (eqV undef), (eqV undef), eqV (.bool true), eqV (.bool true), (eqV undef), (eqV undef), (eqV undef), eqV (.bool true), eqV (.bool true), (eqV undef), (eqV undef), (eqV undef), eqV (.bool true), eqV (.bool true), (eqV undef), (eqV undef), (eqV undef), (eqV undef), (eqV undef), (eqV undef), (eqV undef), (eqV undef), (eqV undef), (eqV undef), (eqV undef), (eqV undef), (eqV undef), (eqV undef), (eqV undef), eqV (.bool true)] : List (Value → World → Prop)).getD jj (fun _ _ => True)) rfl ⟨fun kk => [_, _, _, _, _, _, _, _, _, _, _, _, _, _, _, _, _, _, _, _, _, _, _, _, _, _, _, _, _, _, _, _, _, _, _, _, _, _, _, _, _, _].getD kk undef, rfl⟩ (by kernel_rfl) (by kernel_rfl) ?steps ?fin
        case steps =>
          refine StepsAt.val 0 (.pointer (some ⟨gX, 0, none⟩)) rfl (fun _ _ => rfl) rfl rfl (fun x wc hb hd => ?_) ?_
          · first | (go_simp; done) | (go_simp; rfl)
          refine StepsAt.val 1 (txt pa) rfl (fun _ _ => rfl) rfl rfl (fun x wc hb hd => ?_) ?_
          · have h0 : x 0 = .pointer (some ⟨gX, 0, none⟩) := hd 0 (by kernel_rfl)
            have cc := ((XB2.out.below hb XB2.out.lt).cell 0).trans (show _ = some (txt pa) from rfl)
            rw [h0]
            first | (go_simp; done) | (go_simp; rfl)
          refine StepsAt.cons 2 (fun _ _ _ h hb => h) (fun _ _ => rfl) rfl rfl (fun x wc hb hd K hK => ?_) ?_
          · have h1 : Hid (x 1 = txt pa) := hd 1 (by kernel_rfl)
            go_simp
            refine calls_args (args2 := #[txt pa]) (by rw [h1.out]) ?_
            refine (rightIs pa true HRB.out _).mono ?_
            rintro e w99 ⟨rfl, hb99⟩
            exact hK.out _ _ hb99 rfl
          refine StepsAt.val 3 (.bool false) rfl (fun _ _ => rfl) rfl rfl (fun x wc hb hd => ?_) ?_
          · have h2 : x 2 = .bool true := hd 2 (by kernel_rfl)
            rw [h2]
            first | (go_simp; done) | (go_simp; rfl)
          refine StepsAt.val 4 (.bool false) rfl (fun _ _ => rfl) rfl rfl (fun x wc hb hd => ?_) ?_
          · have h3 : x 3 = .bool false := hd 3 (by kernel_rfl)
            rw [h3]
            first | (go_simp; done) | (go_simp; rfl)
          refine StepsAt.valG 5 (.pointer (some ⟨gX, 1, none⟩)) rfl (fun _ _ => rfl) rfl (fun x wc hd => ?_) (fun x wc hb hd => ?_) ?_
          · have hG : x 4 = .bool false := hd 4 (by kernel_rfl)
            simp [Region.wanted, yielded, hG]
          · first | (go_simp; done) | (go_simp; rfl)
          refine StepsAt.valG 6 (txt va) rfl (fun _ _ => rfl) rfl (fun x wc hd => ?_) (fun x wc hb hd => ?_) ?_
          · have hG : x 4 = .bool false := hd 4 (by kernel_rfl)
            simp [Region.wanted, yielded, hG]
          · have h5 : x 5 = .pointer (some ⟨gX, 1, none⟩) := hd 5 (by kernel_rfl)
            have cc := ((XB2.out.below hb XB2.out.lt).cell 1).trans (show _ = some (txt va) from rfl)
            rw [h5]
            first | (go_simp; done) | (go_simp; rfl)
          refine StepsAt.valG 7 (.int .i64 (k : Int)) rfl (fun _ _ => rfl) rfl (fun x wc hd => ?_) (fun x wc hb hd => ?_) ?_
          · have hG : x 4 = .bool false := hd 4 (by kernel_rfl)
            simp [Region.wanted, yielded, hG]
          · have h6 : x 6 = txt va := hd 6 (by kernel_rfl)
            rw [h6]
            first | (go_simp; done) | (go_simp; rfl)
          refine StepsAt.valG 8 (.bool true) rfl (fun _ _ => rfl) rfl (fun x wc hd => ?_) (fun x wc hb hd => ?_) ?_
          · have hG : x 4 = .bool false := hd 4 (by kernel_rfl)
            simp [Region.wanted, yielded, hG]
          · have h7 : x 7 = .int .i64 (k : Int) := hd 7 (by kernel_rfl)
            rw [h7]
            first | (go_simp; done) | (go_simp; rfl)
          refine StepsAt.val 9 (.bool true) rfl (fun _ _ => rfl) rfl rfl (fun x wc hb hd => ?_) ?_
          · have h4 : x 4 = .bool false := hd 4 (by kernel_rfl)
            have h8 : x 8 = .bool true := hd 8 (by kernel_rfl)
            rw [h4, h8]
            first | (go_simp; done) | (go_simp; rfl)
          refine StepsAt.val 10 (.bool true) rfl (fun _ _ => rfl) rfl rfl (fun x wc hb hd => ?_) ?_
          · have h9 : x 9 = .bool true := hd 9 (by kernel_rfl)
            rw [h9]
            first | (go_simp; done) | (go_simp; rfl)
          refine StepsAt.skip 11 rfl (fun _ _ => rfl) rfl (fun x wc hd => ?_) ?_
          · have hG : x 10 = .bool true := hd 10 (by kernel_rfl)
            simp [Region.wanted, yielded, hG]
          refine StepsAt.skip 12 rfl (fun _ _ => rfl) rfl (fun x wc hd => ?_) ?_
          · have hG : x 10 = .bool true := hd 10 (by kernel_rfl)
            simp [Region.wanted, yielded, hG]
          refine StepsAt.skip 13 rfl (fun _ _ => rfl) rfl (fun x wc hd => ?_) ?_
          · have hG : x 10 = .bool true := hd 10 (by kernel_rfl)
            simp [Region.wanted, yielded, hG]
          refine StepsAt.val 14 (.bool true) rfl (fun _ _ => rfl) rfl rfl (fun x wc hb hd => ?_) ?_
          · have h10 : x 10 = .bool true := hd 10 (by kernel_rfl)
            have h13 : x 13 = undef := hd 13 (by kernel_rfl)
            rw [h10, h13]
            first | (go_simp; done) | (go_simp; rfl)
          refine StepsAt.val 15 (.bool true) rfl (fun _ _ => rfl) rfl rfl (fun x wc hb hd => ?_) ?_
          · have h14 : x 14 = .bool true := hd 14 (by kernel_rfl)
            rw [h14]
            first | (go_simp; done) | (go_simp; rfl)
          refine StepsAt.skip 16 rfl (fun _ _ => rfl) rfl (fun x wc hd => ?_) ?_
          · have hG : x 15 = .bool true := hd 15 (by kernel_rfl)
            simp [Region.wanted, yielded, hG]
          refine StepsAt.skip 17 rfl (fun _ _ => rfl) rfl (fun x wc hd => ?_) ?_
          · have hG : x 15 = .bool true := hd 15 (by kernel_rfl)
            simp [Region.wanted, yielded, hG]
          refine StepsAt.skip 18 rfl (fun _ _ => rfl) rfl (fun x wc hd => ?_) ?_
          · have hG : x 15 = .bool true := hd 15 (by kernel_rfl)
            simp [Region.wanted, yielded, hG]
          refine StepsAt.val 19 (.bool true) rfl (fun _ _ => rfl) rfl rfl (fun x wc hb hd => ?_) ?_
          · have h15 : x 15 = .bool true := hd 15 (by kernel_rfl)
            have h18 : x 18 = undef := hd 18 (by kernel_rfl)
            rw [h15, h18]
            first | (go_simp; done) | (go_simp; rfl)
          refine StepsAt.val 20 (.bool true) rfl (fun _ _ => rfl) rfl rfl (fun x wc hb hd => ?_) ?_
          · have h19 : x 19 = .bool true := hd 19 (by kernel_rfl)
            rw [h19]
            first | (go_simp; done) | (go_simp; rfl)
          refine StepsAt.skip 21 rfl (fun _ _ => rfl) rfl (fun x wc hd => ?_) ?_
          · have hG : x 20 = .bool true := hd 20 (by kernel_rfl)
            simp [Region.wanted, yielded, hG]
          refine StepsAt.skip 22 rfl (fun _ _ => rfl) rfl (fun x wc hd => ?_) ?_
          · have hG : x 20 = .bool true := hd 20 (by kernel_rfl)
            simp [Region.wanted, yielded, hG]
          refine StepsAt.skip 23 rfl (fun _ _ => rfl) rfl (fun x wc hd => ?_) ?_
          · have hG : x 20 = .bool true := hd 20 (by kernel_rfl)
            simp [Region.wanted, yielded, hG]
          refine StepsAt.val 24 (.bool true) rfl (fun _ _ => rfl) rfl rfl (fun x wc hb hd => ?_) ?_
          · have h20 : x 20 = .bool true := hd 20 (by kernel_rfl)
            have h23 : x 23 = undef := hd 23 (by kernel_rfl)
            rw [h20, h23]
            first | (go_simp; done) | (go_simp; rfl)
          refine StepsAt.val 25 (.bool true) rfl (fun _ _ => rfl) rfl rfl (fun x wc hb hd => ?_) ?_
          · have h24 : x 24 = .bool true := hd 24 (by kernel_rfl)
            rw [h24]
            first | (go_simp; done) | (go_simp; rfl)
          refine StepsAt.skip 26 rfl (fun _ _ => rfl) rfl (fun x wc hd => ?_) ?_
          · have hG : x 25 = .bool true := hd 25 (by kernel_rfl)
            simp [Region.wanted, yielded, hG]
          refine StepsAt.skip 27 rfl (fun _ _ => rfl) rfl (fun x wc hd => ?_) ?_
          · have hG : x 25 = .bool true := hd 25 (by kernel_rfl)
            simp [Region.wanted, yielded, hG]
          refine StepsAt.skip 28 rfl (fun _ _ => rfl) rfl (fun x wc hd => ?_) ?_
          · have hG : x 25 = .bool true := hd 25 (by kernel_rfl)
            simp [Region.wanted, yielded, hG]
          refine StepsAt.skip 29 rfl (fun _ _ => rfl) rfl (fun x wc hd => ?_) ?_
          · have hG : x 28 = undef := hd 28 (by kernel_rfl)
            simp [Region.wanted, yielded, hG, undef]
          refine StepsAt.skip 30 rfl (fun _ _ => rfl) rfl (fun x wc hd => ?_) ?_
          · have hG : x 28 = undef := hd 28 (by kernel_rfl)
            simp [Region.wanted, yielded, hG, undef]
          refine StepsAt.skip 31 rfl (fun _ _ => rfl) rfl (fun x wc hd => ?_) ?_
          · have hG : x 28 = undef := hd 28 (by kernel_rfl)
            simp [Region.wanted, yielded, hG, undef]
          refine StepsAt.skip 32 rfl (fun _ _ => rfl) rfl (fun x wc hd => ?_) ?_
          · have hG : x 28 = undef := hd 28 (by kernel_rfl)
            simp [Region.wanted, yielded, hG, undef]
          refine StepsAt.skip 33 rfl (fun _ _ => rfl) rfl (fun x wc hd => ?_) ?_
          · have hG : x 28 = undef := hd 28 (by kernel_rfl)
            simp [Region.wanted, yielded, hG, undef]
          refine StepsAt.skip 34 rfl (fun _ _ => rfl) rfl (fun x wc hd => ?_) ?_
          · have hG : x 28 = undef := hd 28 (by kernel_rfl)
            simp [Region.wanted, yielded, hG, undef]
          refine StepsAt.skip 35 rfl (fun _ _ => rfl) rfl (fun x wc hd => ?_) ?_
          · have hG : x 28 = undef := hd 28 (by kernel_rfl)
            simp [Region.wanted, yielded, hG, undef]
          refine StepsAt.skip 36 rfl (fun _ _ => rfl) rfl (fun x wc hd => ?_) ?_
          · have hG : x 28 = undef := hd 28 (by kernel_rfl)
            simp [Region.wanted, yielded, hG, undef]
          refine StepsAt.skip 37 rfl (fun _ _ => rfl) rfl (fun x wc hd => ?_) ?_
          · have hG : x 28 = undef := hd 28 (by kernel_rfl)
            simp [Region.wanted, yielded, hG, undef]
          refine StepsAt.skip 38 rfl (fun _ _ => rfl) rfl (fun x wc hd => ?_) ?_
          · have hG : x 28 = undef := hd 28 (by kernel_rfl)
            simp [Region.wanted, yielded, hG, undef]
          refine StepsAt.skip 39 rfl (fun _ _ => rfl) rfl (fun x wc hd => ?_) ?_
          · have hG : x 28 = undef := hd 28 (by kernel_rfl)
            simp [Region.wanted, yielded, hG, undef]
          refine StepsAt.skip 40 rfl (fun _ _ => rfl) rfl (fun x wc hd => ?_) ?_
          · have hG : x 25 = .bool true := hd 25 (by kernel_rfl)
            simp [Region.wanted, yielded, hG]
          refine StepsAt.val 41 (.bool true) rfl (fun _ _ => rfl) rfl rfl (fun x wc hb hd => ?_) ?_
          · have h25 : x 25 = .bool true := hd 25 (by kernel_rfl)
            have h40 : x 40 = undef := hd 40 (by kernel_rfl)
            rw [h25, h40]
            first | (go_simp; done) | (go_simp; rfl)
          exact StepsAt.done
        case fin =>
          intro x wc hb hd
          have hx0 : x 0 = .pointer (some ⟨gX, 0, none⟩) := hd 0 (by omega)
          have hx1 : x 1 = txt pa := hd 1 (by omega)
          have hx2 : x 2 = .bool true := hd 2 (by omega)
          have hx3 : x 3 = .bool false := hd 3 (by omega)
          have hx4 : x 4 = .bool false := hd 4 (by omega)
          have hx5 : x 5 = .pointer (some ⟨gX, 1, none⟩) := hd 5 (by omega)
          have hx6 : x 6 = txt va := hd 6 (by omega)
          have hx7 : x 7 = .int .i64 (k : Int) := hd 7 (by omega)
          have hx8 : x 8 = .bool true := hd 8 (by omega)
          have hx9 : x 9 = .bool true := hd 9 (by omega)
          have hx10 : x 10 = .bool true := hd 10 (by omega)
          have hx11 : x 11 = undef := hd 11 (by omega)
          have hx12 : x 12 = undef := hd 12 (by omega)
          have hx13 : x 13 = undef := hd 13 (by omega)
          have hx14 : x 14 = .bool true := hd 14 (by omega)
          have hx15 : x 15 = .bool true := hd 15 (by omega)
          have hx16 : x 16 = undef := hd 16 (by omega)
          have hx17 : x 17 = undef := hd 17 (by omega)
          have hx18 : x 18 = undef := hd 18 (by omega)
          have hx19 : x 19 = .bool true := hd 19 (by omega)
          have hx20 : x 20 = .bool true := hd 20 (by omega)
          have hx21 : x 21 = undef := hd 21 (by omega)
          have hx22 : x 22 = undef := hd 22 (by omega)
          have hx23 : x 23 = undef := hd 23 (by omega)
          have hx24 : x 24 = .bool true := hd 24 (by omega)
          have hx25 : x 25 = .bool true := hd 25 (by omega)
          have hx26 : x 26 = undef := hd 26 (by omega)
          have hx27 : x 27 = undef := hd 27 (by omega)
          have hx28 : x 28 = undef := hd 28 (by omega)
          have hx29 : x 29 = undef := hd 29 (by omega)
          have hx30 : x 30 = undef := hd 30 (by omega)
          have hx31 : x 31 = undef := hd 31 (by omega)
          have hx32 : x 32 = undef := hd 32 (by omega)
          have hx33 : x 33 = undef := hd 33 (by omega)
          have hx34 : x 34 = undef := hd 34 (by omega)
          have hx35 : x 35 = undef := hd 35 (by omega)
          have hx36 : x 36 = undef := hd 36 (by omega)
          have hx37 : x 37 = undef := hd 37 (by omega)
          have hx38 : x 38 = undef := hd 38 (by omega)
          have hx39 : x 39 = undef := hd 39 (by omega)
          have hx40 : x 40 = undef := hd 40 (by omega)
          have hx41 : x 41 = .bool true := hd 41 (by omega)
          refine AnyTill.any (S := fun _ => True) (m := 42) _ _ _ _ ?_
          refine AnyTill.done (by kernel_rfl) ?_
          refine NoPanic.normal ?_
          try dsimp only
          rw [hx0, hx1, hx2, hx3, hx4, hx5, hx6, hx7, hx8, hx9, hx10, hx11, hx12, hx13, hx14, hx15, hx16, hx17, hx18, hx19, hx20, hx21, hx22, hx23, hx24, hx25, hx26, hx27, hx28, hx29, hx30, hx31, hx32, hx33, hx34, hx35, hx36, hx37, hx38, hx39, hx40, hx41]
          have HWc := Lib.hid (HWb.out.trans (hb.mono hsb))
          have XC := Lib.hid (XB2.out.below hb XB2.out.lt)
          have XGc := Lib.hid (XG.out.below hb XG.out.lt)
          clear hx0 hx1 hx2 hx3 hx4 hx5 hx6 hx7 hx8 hx9 hx10 hx11 hx12 hx13 hx14 hx15 hx16 hx17 hx18 hx19 hx20 hx21 hx22 hx23 hx24 hx25 hx26 hx27 hx28 hx29 hx30 hx31 hx32 hx33 hx34 hx35 hx36 hx37 hx38 hx39 hx40 hx41 hd hb XB2 XG HWb x
          go_wp2
          go_ret
          exact ⟨by rw [HF.out]; rfl, HB.out.trans (HWc.out.mono hw1)⟩
      have d8 : decide ((1000 : Int) < (k : Int)) = false := decide_eq_false (by omega)
      by_cases h13 : r < 0
      · have d13 : decide (r < 0) = true := decide_eq_true (by omega)
        have HF := Lib.hid (okN_not l i (by rw [HN.out]; exact hi2) (by rw [OK.out]; (have : decide (0 ≤ r) = false := decide_eq_false (by omega)); rw [this]; simp))
        clear h13 h8
        refine wp_region_rely2 42 0 (fun x => ⟨#[.agg #[Value.slice (some a) n cp], .pointer (some { block := g0, off := 0 }), u2, .int IntKind.i64 ↑i, .pointer (some { block := gX, off := 0 }), u5, u6, u7, .pointer (some { block := g0, off := 0 }), .slice (some a) n cp, .int IntKind.i64 ↑n, .bool false, .bool false, .pointer (some { block := g0, off := 0 }), .slice (some a) n cp, .int IntKind.i64 ↑n, .bool false, .bool false, .int IntKind.i64 ↑i, .pointer (some { block := g0, off := 0 }), .slice (some a) n cp, .int IntKind.i64 ↑n, .bool true, u23, u24, .pointer (some { block := g0, off := 0 }), .slice (some a) n cp, .int IntKind.i64 ↑i, .pointer (some (a.add (i * 4))), .agg #[txt (nP nd), txt (nV nd), Value.int IntKind.i64 (nR nd), Value.int IntKind.i64 (nO nd)], x 0, x 1, x 2, x 3, x 4, x 5, x 6, x 7, x 8, x 9, x 10, x 11, x 12, x 13, x 14, x 15, x 16, x 17, x 18, x 19, x 20, x 21, x 22, x 23, x 24, x 25, x 26, x 27, x 28, x 29, x 30, x 31, x 32, x 33, x 34, x 35, x 36, x 37, x 38, x 39, x 40, x 41, u72, u73, u74, u75, u76, u77, u78, u79, u80, u81, u82, u83, u84, u85, u86, u87, u88, u89, u90, u91, u92, u93, u94, u95, u96, undef, undef, undef], []⟩) (fun jj => ([eqV (.pointer (some ⟨gX, 0, none⟩)), eqV (txt pa), (eqV (.bool true)), eqV (.bool false), eqV (.bool false), eqV (.pointer (some ⟨gX, 1, none⟩)), eqV (txt va), eqV (.int .i64 (k : Int)), eqV (.bool false), eqV (.bool false), eqV (.bool false), eqV (.pointer (some ⟨gX, 2, none⟩)), eqV (.int .i64 r), eqV (.bool true), eqV (.bool true), eqV (.bool true), (eqV undef), (eqV undef), (eqV undef), eqV (.bool true), eqV (.bool true), (eqV undef), (eqV undef), (eqV undef), eqV (.bool true), eqV (.bool true), (eqV undef), (eqV undef), (eqV undef), (eqV undef), (eqV undef), (eqV undef), (eqV undef), (eqV undef), (eqV undef), (eqV undef), (eqV undef), (eqV undef), (eqV undef), (eqV undef), (eqV undef), eqV (.bool true)] : List (Value → World → Prop)).getD jj (fun _ _ => True)) rfl ⟨fun kk => [_, _, _, _, _, _, _, _, _, _, _, _, _, _, _, _, _, _, _, _, _, _, _, _, _, _, _, _, _, _, _, _, _, _, _, _, _, _, _, _, _, _].getD kk undef, rfl⟩ (by kernel_rfl) (by kernel_rfl) ?steps ?fin
        case steps =>
          refine StepsAt.val 0 (.pointer (some ⟨gX, 0, none⟩)) rfl (fun _ _ => rfl) rfl rfl (fun x wc hb hd => ?_) ?_
          · first | (go_simp; done) | (go_simp; rfl)
          refine StepsAt.val 1 (txt pa) rfl (fun _ _ => rfl) rfl rfl (fun x wc hb hd => ?_) ?_
          · have h0 : x 0 = .pointer (some ⟨gX, 0, none⟩) := hd 0 (by kernel_rfl)
            have cc := ((XB2.out.below hb XB2.out.lt).cell 0).trans (show _ = some (txt pa) from rfl)
            rw [h0]
            first | (go_simp; done) | (go_simp; rfl)
          refine StepsAt.cons 2 (fun _ _ _ h hb => h) (fun _ _ => rfl) rfl rfl (fun x wc hb hd K hK => ?_) ?_
          · have h1 : Hid (x 1 = txt pa) := hd 1 (by kernel_rfl)
            go_simp
            refine calls_args (args2 := #[txt pa]) (by rw [h1.out]) ?_
            refine (rightIs pa true HRB.out _).mono ?_
            rintro e w99 ⟨rfl, hb99⟩
            exact hK.out _ _ hb99 rfl
          refine StepsAt.val 3 (.bool false) rfl (fun _ _ => rfl) rfl rfl (fun x wc hb hd => ?_) ?_
          · have h2 : x 2 = .bool true := hd 2 (by kernel_rfl)
            rw [h2]
            first | (go_simp; done) | (go_simp; rfl)
          refine StepsAt.val 4 (.bool false) rfl (fun _ _ => rfl) rfl rfl (fun x wc hb hd => ?_) ?_
          · have h3 : x 3 = .bool false := hd 3 (by kernel_rfl)
            rw [h3]
            first | (go_simp; done) | (go_simp; rfl)
          refine StepsAt.valG 5 (.pointer (some ⟨gX, 1, none⟩)) rfl (fun _ _ => rfl) rfl (fun x wc hd => ?_) (fun x wc hb hd => ?_) ?_
          · have hG : x 4 = .bool false := hd 4 (by kernel_rfl)
            simp [Region.wanted, yielded, hG]
          · first | (go_simp; done) | (go_simp; rfl)
          refine StepsAt.valG 6 (txt va) rfl (fun _ _ => rfl) rfl (fun x wc hd => ?_) (fun x wc hb hd => ?_) ?_
          · have hG : x 4 = .bool false := hd 4 (by kernel_rfl)
            simp [Region.wanted, yielded, hG]
          · have h5 : x 5 = .pointer (some ⟨gX, 1, none⟩) := hd 5 (by kernel_rfl)
            have cc := ((XB2.out.below hb XB2.out.lt).cell 1).trans (show _ = some (txt va) from rfl)
            rw [h5]
            first | (go_simp; done) | (go_simp; rfl)
          refine StepsAt.valG 7 (.int .i64 (k : Int)) rfl (fun _ _ => rfl) rfl (fun x wc hd => ?_) (fun x wc hb hd => ?_) ?_
          · have hG : x 4 = .bool false := hd 4 (by kernel_rfl)
            simp [Region.wanted, yielded, hG]
          · have h6 : x 6 = txt va := hd 6 (by kernel_rfl)
            rw [h6]
            first | (go_simp; done) | (go_simp; rfl)
          refine StepsAt.valG 8 (.bool false) rfl (fun _ _ => rfl) rfl (fun x wc hd => ?_) (fun x wc hb hd => ?_) ?_
          · have hG : x 4 = .bool false := hd 4 (by kernel_rfl)
            simp [Region.wanted, yielded, hG]
          · have h7 : x 7 = .int .i64 (k : Int) := hd 7 (by kernel_rfl)
            rw [h7]
            first | (go_simp; done) | (go_simp; rfl)
          refine StepsAt.val 9 (.bool false) rfl (fun _ _ => rfl) rfl rfl (fun x wc hb hd => ?_) ?_
          · have h4 : x 4 = .bool false := hd 4 (by kernel_rfl)
            have h8 : x 8 = .bool false := hd 8 (by kernel_rfl)
            rw [h4, h8]
            first | (go_simp; done) | (go_simp; rfl)
          refine StepsAt.val 10 (.bool false) rfl (fun _ _ => rfl) rfl rfl (fun x wc hb hd => ?_) ?_
          · have h9 : x 9 = .bool false := hd 9 (by kernel_rfl)
            rw [h9]
            first | (go_simp; done) | (go_simp; rfl)
          refine StepsAt.valG 11 (.pointer (some ⟨gX, 2, none⟩)) rfl (fun _ _ => rfl) rfl (fun x wc hd => ?_) (fun x wc hb hd => ?_) ?_
          · have hG : x 10 = .bool false := hd 10 (by kernel_rfl)
            simp [Region.wanted, yielded, hG]
          · first | (go_simp; done) | (go_simp; rfl)
          refine StepsAt.valG 12 (.int .i64 r) rfl (fun _ _ => rfl) rfl (fun x wc hd => ?_) (fun x wc hb hd => ?_) ?_
          · have hG : x 10 = .bool false := hd 10 (by kernel_rfl)
            simp [Region.wanted, yielded, hG]
          · have h11 : x 11 = .pointer (some ⟨gX, 2, none⟩) := hd 11 (by kernel_rfl)
            have cc := ((XB2.out.below hb XB2.out.lt).cell 2).trans (show _ = some (.int .i64 r) from rfl)
            rw [h11]
            first | (go_simp; done) | (go_simp; rfl)
          refine StepsAt.valG 13 (.bool true) rfl (fun _ _ => rfl) rfl (fun x wc hd => ?_) (fun x wc hb hd => ?_) ?_
          · have hG : x 10 = .bool false := hd 10 (by kernel_rfl)
            simp [Region.wanted, yielded, hG]
          · have h12 : x 12 = .int .i64 r := hd 12 (by kernel_rfl)
            rw [h12]
            first | (go_simp; done) | (go_simp; rfl)
          refine StepsAt.val 14 (.bool true) rfl (fun _ _ => rfl) rfl rfl (fun x wc hb hd => ?_) ?_
          · have h10 : x 10 = .bool false := hd 10 (by kernel_rfl)
            have h13 : x 13 = .bool true := hd 13 (by kernel_rfl)
            rw [h10, h13]
            first | (go_simp; done) | (go_simp; rfl)
          refine StepsAt.val 15 (.bool true) rfl (fun _ _ => rfl) rfl rfl (fun x wc hb hd => ?_) ?_
          · have h14 : x 14 = .bool true := hd 14 (by kernel_rfl)
            rw [h14]
            first | (go_simp; done) | (go_simp; rfl)
          refine StepsAt.skip 16 rfl (fun _ _ => rfl) rfl (fun x wc hd => ?_) ?_
          · have hG : x 15 = .bool true := hd 15 (by kernel_rfl)
            simp [Region.wanted, yielded, hG]
          refine StepsAt.skip 17 rfl (fun _ _ => rfl) rfl (fun x wc hd => ?_) ?_
          · have hG : x 15 = .bool true := hd 15 (by kernel_rfl)
            simp [Region.wanted, yielded, hG]
          refine StepsAt.skip 18 rfl (fun _ _ => rfl) rfl (fun x wc hd => ?_) ?_
          · have hG : x 15 = .bool true := hd 15 (by kernel_rfl)
            simp [Region.wanted, yielded, hG]
          refine StepsAt.val 19 (.bool true) rfl (fun _ _ => rfl) rfl rfl (fun x wc hb hd => ?_) ?_
          · have h15 : x 15 = .bool true := hd 15 (by kernel_rfl)
            have h18 : x 18 = undef := hd 18 (by kernel_rfl)
            rw [h15, h18]
            first | (go_simp; done) | (go_simp; rfl)
          refine StepsAt.val 20 (.bool true) rfl (fun _ _ => rfl) rfl rfl (fun x wc hb hd => ?_) ?_
          · have h19 : x 19 = .bool true := hd 19 (by kernel_rfl)
            rw [h19]
            first | (go_simp; done) | (go_simp; rfl)
          refine StepsAt.skip 21 rfl (fun _ _ => rfl) rfl (fun x wc hd => ?_) ?_
          · have hG : x 20 = .bool true := hd 20 (by kernel_rfl)
            simp [Region.wanted, yielded, hG]
          refine StepsAt.skip 22 rfl (fun _ _ => rfl) rfl (fun x wc hd => ?_) ?_
          · have hG : x 20 = .bool true := hd 20 (by kernel_rfl)
            simp [Region.wanted, yielded, hG]
          refine StepsAt.skip 23 rfl (fun _ _ => rfl) rfl (fun x wc hd => ?_) ?_
          · have hG : x 20 = .bool true := hd 20 (by kernel_rfl)
            simp [Region.wanted, yielded, hG]
          refine StepsAt.val 24 (.bool true) rfl (fun _ _ => rfl) rfl rfl (fun x wc hb hd => ?_) ?_
          · have h20 : x 20 = .bool true := hd 20 (by kernel_rfl)
            have h23 : x 23 = undef := hd 23 (by kernel_rfl)
            rw [h20, h23]
            first | (go_simp; done) | (go_simp; rfl)
          refine StepsAt.val 25 (.bool true) rfl (fun _ _ => rfl) rfl rfl (fun x wc hb hd => ?_) ?_
          · have h24 : x 24 = .bool true := hd 24 (by kernel_rfl)
            rw [h24]
            first | (go_simp; done) | (go_simp; rfl)
          refine StepsAt.skip 26 rfl (fun _ _ => rfl) rfl (fun x wc hd => ?_) ?_
          · have hG : x 25 = .bool true := hd 25 (by kernel_rfl)
            simp [Region.wanted, yielded, hG]
          refine StepsAt.skip 27 rfl (fun _ _ => rfl) rfl (fun x wc hd => ?_) ?_
          · have hG : x 25 = .bool true := hd 25 (by kernel_rfl)
            simp [Region.wanted, yielded, hG]
          refine StepsAt.skip 28 rfl (fun _ _ => rfl) rfl (fun x wc hd => ?_) ?_
          · have hG : x 25 = .bool true := hd 25 (by kernel_rfl)
            simp [Region.wanted, yielded, hG]
          refine StepsAt.skip 29 rfl (fun _ _ => rfl) rfl (fun x wc hd => ?_) ?_
          · have hG : x 28 = undef := hd 28 (by kernel_rfl)
            simp [Region.wanted, yielded, hG, undef]
          refine StepsAt.skip 30 rfl (fun _ _ => rfl) rfl (fun x wc hd => ?_) ?_
          · have hG : x 28 = undef := hd 28 (by kernel_rfl)
            simp [Region.wanted, yielded, hG, undef]
          refine StepsAt.skip 31 rfl (fun _ _ => rfl) rfl (fun x wc hd => ?_) ?_
          · have hG : x 28 = undef := hd 28 (by kernel_rfl)
            simp [Region.wanted, yielded, hG, undef]
          refine StepsAt.skip 32 rfl (fun _ _ => rfl) rfl (fun x wc hd => ?_) ?_
          · have hG : x 28 = undef := hd 28 (by kernel_rfl)
            simp [Region.wanted, yielded, hG, undef]
          refine StepsAt.skip 33 rfl (fun _ _ => rfl) rfl (fun x wc hd => ?_) ?_
          · have hG : x 28 = undef := hd 28 (by kernel_rfl)
            simp [Region.wanted, yielded, hG, undef]
          refine StepsAt.skip 34 rfl (fun _ _ => rfl) rfl (fun x wc hd => ?_) ?_
          · have hG : x 28 = undef := hd 28 (by kernel_rfl)
            simp [Region.wanted, yielded, hG, undef]
          refine StepsAt.skip 35 rfl (fun _ _ => rfl) rfl (fun x wc hd => ?_) ?_
          · have hG : x 28 = undef := hd 28 (by kernel_rfl)
            simp [Region.wanted, yielded, hG, undef]
          refine StepsAt.skip 36 rfl (fun _ _ => rfl) rfl (fun x wc hd => ?_) ?_
          · have hG : x 28 = undef := hd 28 (by kernel_rfl)
            simp [Region.wanted, yielded, hG, undef]
          refine StepsAt.skip 37 rfl (fun _ _ => rfl) rfl (fun x wc hd => ?_) ?_
          · have hG : x 28 = undef := hd 28 (by kernel_rfl)
            simp [Region.wanted, yielded, hG, undef]
          refine StepsAt.skip 38 rfl (fun _ _ => rfl) rfl (fun x wc hd => ?_) ?_
          · have hG : x 28 = undef := hd 28 (by kernel_rfl)
            simp [Region.wanted, yielded, hG, undef]
          refine StepsAt.skip 39 rfl (fun _ _ => rfl) rfl (fun x wc hd => ?_) ?_
          · have hG : x 28 = undef := hd 28 (by kernel_rfl)
            simp [Region.wanted, yielded, hG, undef]
          refine StepsAt.skip 40 rfl (fun _ _ => rfl) rfl (fun x wc hd => ?_) ?_
          · have hG : x 25 = .bool true := hd 25 (by kernel_rfl)
            simp [Region.wanted, yielded, hG]
          refine StepsAt.val 41 (.bool true) rfl (fun _ _ => rfl) rfl rfl (fun x wc hb hd => ?_) ?_
          · have h25 : x 25 = .bool true := hd 25 (by kernel_rfl)
            have h40 : x 40 = undef := hd 40 (by kernel_rfl)
            rw [h25, h40]
            first | (go_simp; done) | (go_simp; rfl)
          exact StepsAt.done
        case fin =>
          intro x wc hb hd
          have hx0 : x 0 = .pointer (some ⟨gX, 0, none⟩) := hd 0 (by omega)
          have hx1 : x 1 = txt pa := hd 1 (by omega)
          have hx2 : x 2 = .bool true := hd 2 (by omega)
          have hx3 : x 3 = .bool false := hd 3 (by omega)
          have hx4 : x 4 = .bool false := hd 4 (by omega)
          have hx5 : x 5 = .pointer (some ⟨gX, 1, none⟩) := hd 5 (by omega)
          have hx6 : x 6 = txt va := hd 6 (by omega)
          have hx7 : x 7 = .int .i64 (k : Int) := hd 7 (by omega)
          have hx8 : x 8 = .bool false := hd 8 (by omega)
          have hx9 : x 9 = .bool false := hd 9 (by omega)
          have hx10 : x 10 = .bool false := hd 10 (by omega)
          have hx11 : x 11 = .pointer (some ⟨gX, 2, none⟩) := hd 11 (by omega)
          have hx12 : x 12 = .int .i64 r := hd 12 (by omega)
          have hx13 : x 13 = .bool true := hd 13 (by omega)
          have hx14 : x 14 = .bool true := hd 14 (by omega)
          have hx15 : x 15 = .bool true := hd 15 (by omega)
          have hx16 : x 16 = undef := hd 16 (by omega)
          have hx17 : x 17 = undef := hd 17 (by omega)
          have hx18 : x 18 = undef := hd 18 (by omega)
          have hx19 : x 19 = .bool true := hd 19 (by omega)
          have hx20 : x 20 = .bool true := hd 20 (by omega)
          have hx21 : x 21 = undef := hd 21 (by omega)
          have hx22 : x 22 = undef := hd 22 (by omega)
          have hx23 : x 23 = undef := hd 23 (by omega)
          have hx24 : x 24 = .bool true := hd 24 (by omega)
          have hx25 : x 25 = .bool true := hd 25 (by omega)
          have hx26 : x 26 = undef := hd 26 (by omega)
          have hx27 : x 27 = undef := hd 27 (by omega)
          have hx28 : x 28 = undef := hd 28 (by omega)
          have hx29 : x 29 = undef := hd 29 (by omega)
          have hx30 : x 30 = undef := hd 30 (by omega)
          have hx31 : x 31 = undef := hd 31 (by omega)
          have hx32 : x 32 = undef := hd 32 (by omega)
          have hx33 : x 33 = undef := hd 33 (by omega)
          have hx34 : x 34 = undef := hd 34 (by omega)
          have hx35 : x 35 = undef := hd 35 (by omega)
          have hx36 : x 36 = undef := hd 36 (by omega)
          have hx37 : x 37 = undef := hd 37 (by omega)
          have hx38 : x 38 = undef := hd 38 (by omega)
          have hx39 : x 39 = undef := hd 39 (by omega)
          have hx40 : x 40 = undef := hd 40 (by omega)
          have hx41 : x 41 = .bool true := hd 41 (by omega)
          refine AnyTill.any (S := fun _ => True) (m := 42) _ _ _ _ ?_
          refine AnyTill.done (by kernel_rfl) ?_
          refine NoPanic.normal ?_
          try dsimp only
          rw [hx0, hx1, hx2, hx3, hx4, hx5, hx6, hx7, hx8, hx9, hx10, hx11, hx12, hx13, hx14, hx15, hx16, hx17, hx18, hx19, hx20, hx21, hx22, hx23, hx24, hx25, hx26, hx27, hx28, hx29, hx30, hx31, hx32, hx33, hx34, hx35, hx36, hx37, hx38, hx39, hx40, hx41]
          have HWc := Lib.hid (HWb.out.trans (hb.mono hsb))
          have XC := Lib.hid (XB2.out.below hb XB2.out.lt)
          have XGc := Lib.hid (XG.out.below hb XG.out.lt)
          clear hx0 hx1 hx2 hx3 hx4 hx5 hx6 hx7 hx8 hx9 hx10 hx11 hx12 hx13 hx14 hx15 hx16 hx17 hx18 hx19 hx20 hx21 hx22 hx23 hx24 hx25 hx26 hx27 hx28 hx29 hx30 hx31 hx32 hx33 hx34 hx35 hx36 hx37 hx38 hx39 hx40 hx41 hd hb XB2 XG HWb x
          go_wp2
          go_ret
          exact ⟨by rw [HF.out]; rfl, HB.out.trans (HWc.out.mono hw1)⟩
      have d13 : decide (r < 0) = false := decide_eq_false (by omega)
      by_cases h18 : 1000000000 < r
      · have d18 : decide (1000000000 < r) = true := decide_eq_true (by omega)
        have HF := Lib.hid (okN_not l i (by rw [HN.out]; exact hi2) (by rw [OK.out]; (have : decide (r ≤ 1000000000) = false := decide_eq_false (by omega)); rw [this]; simp))
        clear h18 h13 h8
        refine wp_region_rely2 42 0 (fun x => ⟨#[.agg #[Value.slice (some a) n cp], .pointer (some { block := g0, off := 0 }), u2, .int IntKind.i64 ↑i, .pointer (some { block := gX, off := 0 }), u5, u6, u7, .pointer (some { block := g0, off := 0 }), .slice (some a) n cp, .int IntKind.i64 ↑n, .bool false, .bool false, .pointer (some { block := g0, off := 0 }), .slice (some a) n cp, .int IntKind.i64 ↑n, .bool false, .bool false, .int IntKind.i64 ↑i, .pointer (some { block := g0, off := 0 }), .slice (some a) n cp, .int IntKind.i64 ↑n, .bool true, u23, u24, .pointer (some { block := g0, off := 0 }), .slice (some a) n cp, .int IntKind.i64 ↑i, .pointer (some (a.add (i * 4))), .agg #[txt (nP nd), txt (nV nd), Value.int IntKind.i64 (nR nd), Value.int IntKind.i64 (nO nd)], x 0, x 1, x 2, x 3, x 4, x 5, x 6, x 7, x 8, x 9, x 10, x 11, x 12, x 13, x 14, x 15, x 16, x 17, x 18, x 19, x 20, x 21, x 22, x 23, x 24, x 25, x 26, x 27, x 28, x 29, x 30, x 31, x 32, x 33, x 34, x 35, x 36, x 37, x 38, x 39, x 40, x 41, u72, u73, u74, u75, u76, u77, u78, u79, u80, u81, u82, u83, u84, u85, u86, u87, u88, u89, u90, u91, u92, u93, u94, u95, u96, undef, undef, undef], []⟩) (fun jj => ([eqV (.pointer (some ⟨gX, 0, none⟩)), eqV (txt pa), (eqV (.bool true)), eqV (.bool false), eqV (.bool false), eqV (.pointer (some ⟨gX, 1, none⟩)), eqV (txt va), eqV (.int .i64 (k : Int)), eqV (.bool false), eqV (.bool false), eqV (.bool false), eqV (.pointer (some ⟨gX, 2, none⟩)), eqV (.int .i64 r), eqV (.bool false), eqV (.bool false), eqV (.bool false), eqV (.pointer (some ⟨gX, 2, none⟩)), eqV (.int .i64 r), eqV (.bool true), eqV (.bool true), eqV (.bool true), (eqV undef), (eqV undef), (eqV undef), eqV (.bool true), eqV (.bool true), (eqV undef), (eqV undef), (eqV undef), (eqV undef), (eqV undef), (eqV undef), (eqV undef), (eqV undef), (eqV undef), (eqV undef), (eqV undef), (eqV undef), (eqV undef), (eqV undef), (eqV undef), eqV (.bool true)] : List (Value → World → Prop)).getD jj (fun _ _ => True)) rfl ⟨fun kk => [_, _, _, _, _, _, _, _, _, _, _, _, _, _, _, _, _, _, _, _, _, _, _, _, _, _, _, _, _, _, _, _, _, _, _, _, _, _, _, _, _, _].getD kk undef, rfl⟩ (by kernel_rfl) (by kernel_rfl) ?steps ?fin
        case steps =>
          refine StepsAt.val 0 (.pointer (some ⟨gX, 0, none⟩)) rfl (fun _ _ => rfl) rfl rfl (fun x wc hb hd => ?_) ?_
          · first | (go_simp; done) | (go_simp; rfl)
          refine StepsAt.val 1 (txt pa) rfl (fun _ _ => rfl) rfl rfl (fun x wc hb hd => ?_) ?_
          · have h0 : x 0 = .pointer (some ⟨gX, 0, none⟩) := hd 0 (by kernel_rfl)
            have cc := ((XB2.out.below hb XB2.out.lt).cell 0).trans (show _ = some (txt pa) from rfl)
            rw [h0]
            first | (go_simp; done) | (go_simp; rfl)
          refine StepsAt.cons 2 (fun _ _ _ h hb => h) (fun _ _ => rfl) rfl rfl (fun x wc hb hd K hK => ?_) ?_
          · have h1 : Hid (x 1 = txt pa) := hd 1 (by kernel_rfl)
            go_simp
            refine calls_args (args2 := #[txt pa]) (by rw [h1.out]) ?_
            refine (rightIs pa true HRB.out _).mono ?_
            rintro e w99 ⟨rfl, hb99⟩
            exact hK.out _ _ hb99 rfl
          refine StepsAt.val 3 (.bool false) rfl (fun _ _ => rfl) rfl rfl (fun x wc hb hd => ?_) ?_
          · have h2 : x 2 = .bool true := hd 2 (by kernel_rfl)
            rw [h2]
            first | (go_simp; done) | (go_simp; rfl)
          refine StepsAt.val 4 (.bool false) rfl (fun _ _ => rfl) rfl rfl (fun x wc hb hd => ?_) ?_
          · have h3 : x 3 = .bool false := hd 3 (by kernel_rfl)
            rw [h3]
            first | (go_simp; done) | (go_simp; rfl)
          refine StepsAt.valG 5 (.pointer (some ⟨gX, 1, none⟩)) rfl (fun _ _ => rfl) rfl (fun x wc hd => ?_) (fun x wc hb hd => ?_) ?_
          · have hG : x 4 = .bool false := hd 4 (by kernel_rfl)
            simp [Region.wanted, yielded, hG]
          · first | (go_simp; done) | (go_simp; rfl)
          refine StepsAt.valG 6 (txt va) rfl (fun _ _ => rfl) rfl (fun x wc hd => ?_) (fun x wc hb hd => ?_) ?_
          · have hG : x 4 = .bool false := hd 4 (by kernel_rfl)
            simp [Region.wanted, yielded, hG]
          · have h5 : x 5 = .pointer (some ⟨gX, 1, none⟩) := hd 5 (by kernel_rfl)
            have cc := ((XB2.out.below hb XB2.out.lt).cell 1).trans (show _ = some (txt va) from rfl)
            rw [h5]
            first | (go_simp; done) | (go_simp; rfl)
          refine StepsAt.valG 7 (.int .i64 (k : Int)) rfl (fun _ _ => rfl) rfl (fun x wc hd => ?_) (fun x wc hb hd => ?_) ?_
          · have hG : x 4 = .bool false := hd 4 (by kernel_rfl)
            simp [Region.wanted, yielded, hG]
          · have h6 : x 6 = txt va := hd 6 (by kernel_rfl)
            rw [h6]
            first | (go_simp; done) | (go_simp; rfl)
          refine StepsAt.valG 8 (.bool false) rfl (fun _ _ => rfl) rfl (fun x wc hd => ?_) (fun x wc hb hd => ?_) ?_
          · have hG : x 4 = .bool false := hd 4 (by kernel_rfl)
            simp [Region.wanted, yielded, hG]
          · have h7 : x 7 = .int .i64 (k : Int) := hd 7 (by kernel_rfl)
            rw [h7]
            first | (go_simp; done) | (go_simp; rfl)
          refine StepsAt.val 9 (.bool false) rfl (fun _ _ => rfl) rfl rfl (fun x wc hb hd => ?_) ?_
          · have h4 : x 4 = .bool false := hd 4 (by kernel_rfl)
            have h8 : x 8 = .bool false := hd 8 (by kernel_rfl)
            rw [h4, h8]
            first | (go_simp; done) | (go_simp; rfl)
          refine StepsAt.val 10 (.bool false) rfl (fun _ _ => rfl) rfl rfl (fun x wc hb hd => ?_) ?_
          · have h9 : x 9 = .bool false := hd 9 (by kernel_rfl)
            rw [h9]
            first | (go_simp; done) | (go_simp; rfl)
          refine StepsAt.valG 11 (.pointer (some ⟨gX, 2, none⟩)) rfl (fun _ _ => rfl) rfl (fun x wc hd => ?_) (fun x wc hb hd => ?_) ?_
          · have hG : x 10 = .bool false := hd 10 (by kernel_rfl)
            simp [Region.wanted, yielded, hG]
          · first | (go_simp; done) | (go_simp; rfl)
          refine StepsAt.valG 12 (.int .i64 r) rfl (fun _ _ => rfl) rfl (fun x wc hd => ?_) (fun x wc hb hd => ?_) ?_
          · have hG : x 10 = .bool false := hd 10 (by kernel_rfl)
            simp [Region.wanted, yielded, hG]
          · have h11 : x 11 = .pointer (some ⟨gX, 2, none⟩) := hd 11 (by kernel_rfl)
            have cc := ((XB2.out.below hb XB2.out.lt).cell 2).trans (show _ = some (.int .i64 r) from rfl)
            rw [h11]
            first | (go_simp; done) | (go_simp; rfl)
          refine StepsAt.valG 13 (.bool false) rfl (fun _ _ => rfl) rfl (fun x wc hd => ?_) (fun x wc hb hd => ?_) ?_
          · have hG : x 10 = .bool false := hd 10 (by kernel_rfl)
            simp [Region.wanted, yielded, hG]
          · have h12 : x 12 = .int .i64 r := hd 12 (by kernel_rfl)
            rw [h12]
            first | (go_simp; done) | (go_simp; rfl)
          refine StepsAt.val 14 (.bool false) rfl (fun _ _ => rfl) rfl rfl (fun x wc hb hd => ?_) ?_
          · have h10 : x 10 = .bool false := hd 10 (by kernel_rfl)
            have h13 : x 13 = .bool false := hd 13 (by kernel_rfl)
            rw [h10, h13]
            first | (go_simp; done) | (go_simp; rfl)
          refine StepsAt.val 15 (.bool false) rfl (fun _ _ => rfl) rfl rfl (fun x wc hb hd => ?_) ?_
          · have h14 : x 14 = .bool false := hd 14 (by kernel_rfl)
            rw [h14]
            first | (go_simp; done) | (go_simp; rfl)
          refine StepsAt.valG 16 (.pointer (some ⟨gX, 2, none⟩)) rfl (fun _ _ => rfl) rfl (fun x wc hd => ?_) (fun x wc hb hd => ?_) ?_
          · have hG : x 15 = .bool false := hd 15 (by kernel_rfl)
            simp [Region.wanted, yielded, hG]
          · first | (go_simp; done) | (go_simp; rfl)
          refine StepsAt.valG 17 (.int .i64 r) rfl (fun _ _ => rfl) rfl (fun x wc hd => ?_) (fun x wc hb hd => ?_) ?_
          · have hG : x 15 = .bool false := hd 15 (by kernel_rfl)
            simp [Region.wanted, yielded, hG]
          · have h16 : x 16 = .pointer (some ⟨gX, 2, none⟩) := hd 16 (by kernel_rfl)
            have cc := ((XB2.out.below hb XB2.out.lt).cell 2).trans (show _ = some (.int .i64 r) from rfl)
            rw [h16]
            first | (go_simp; done) | (go_simp; rfl)
          refine StepsAt.valG 18 (.bool true) rfl (fun _ _ => rfl) rfl (fun x wc hd => ?_) (fun x wc hb hd => ?_) ?_
          · have hG : x 15 = .bool false := hd 15 (by kernel_rfl)
            simp [Region.wanted, yielded, hG]
          · have h17 : x 17 = .int .i64 r := hd 17 (by kernel_rfl)
            rw [h17]
            first | (go_simp; done) | (go_simp; rfl)
          refine StepsAt.val 19 (.bool true) rfl (fun _ _ => rfl) rfl rfl (fun x wc hb hd => ?_) ?_
          · have h15 : x 15 = .bool false := hd 15 (by kernel_rfl)
            have h18 : x 18 = .bool true := hd 18 (by kernel_rfl)
            rw [h15, h18]
            first | (go_simp; done) | (go_simp; rfl)
          refine StepsAt.val 20 (.bool true) rfl (fun _ _ => rfl) rfl rfl (fun x wc hb hd => ?_) ?_
          · have h19 : x 19 = .bool true := hd 19 (by kernel_rfl)
            rw [h19]
            first | (go_simp; done) | (go_simp; rfl)
          refine StepsAt.skip 21 rfl (fun _ _ => rfl) rfl (fun x wc hd => ?_) ?_
          · have hG : x 20 = .bool true := hd 20 (by kernel_rfl)
            simp [Region.wanted, yielded, hG]
          refine StepsAt.skip 22 rfl (fun _ _ => rfl) rfl (fun x wc hd => ?_) ?_
          · have hG : x 20 = .bool true := hd 20 (by kernel_rfl)
            simp [Region.wanted, yielded, hG]
          refine StepsAt.skip 23 rfl (fun _ _ => rfl) rfl (fun x wc hd => ?_) ?_
          · have hG : x 20 = .bool true := hd 20 (by kernel_rfl)
            simp [Region.wanted, yielded, hG]
          refine StepsAt.val 24 (.bool true) rfl (fun _ _ => rfl) rfl rfl (fun x wc hb hd => ?_) ?_
          · have h20 : x 20 = .bool true := hd 20 (by kernel_rfl)
            have h23 : x 23 = undef := hd 23 (by kernel_rfl)
            rw [h20, h23]
            first | (go_simp; done) | (go_simp; rfl)
          refine StepsAt.val 25 (.bool true) rfl (fun _ _ => rfl) rfl rfl (fun x wc hb hd => ?_) ?_
          · have h24 : x 24 = .bool true := hd 24 (by kernel_rfl)
            rw [h24]
            first | (go_simp; done) | (go_simp; rfl)
          refine StepsAt.skip 26 rfl (fun _ _ => rfl) rfl (fun x wc hd => ?_) ?_
          · have hG : x 25 = .bool true := hd 25 (by kernel_rfl)
            simp [Region.wanted, yielded, hG]
          refine StepsAt.skip 27 rfl (fun _ _ => rfl) rfl (fun x wc hd => ?_) ?_
          · have hG : x 25 = .bool true := hd 25 (by kernel_rfl)
            simp [Region.wanted, yielded, hG]
          refine StepsAt.skip 28 rfl (fun _ _ => rfl) rfl (fun x wc hd => ?_) ?_
          · have hG : x 25 = .bool true := hd 25 (by kernel_rfl)
            simp [Region.wanted, yielded, hG]
          refine StepsAt.skip 29 rfl (fun _ _ => rfl) rfl (fun x wc hd => ?_) ?_
          · have hG : x 28 = undef := hd 28 (by kernel_rfl)
            simp [Region.wanted, yielded, hG, undef]
          refine StepsAt.skip 30 rfl (fun _ _ => rfl) rfl (fun x wc hd => ?_) ?_
          · have hG : x 28 = undef := hd 28 (by kernel_rfl)
            simp [Region.wanted, yielded, hG, undef]
          refine StepsAt.skip 31 rfl (fun _ _ => rfl) rfl (fun x wc hd => ?_) ?_
          · have hG : x 28 = undef := hd 28 (by kernel_rfl)
            simp [Region.wanted, yielded, hG, undef]
          refine StepsAt.skip 32 rfl (fun _ _ => rfl) rfl (fun x wc hd => ?_) ?_
          · have hG : x 28 = undef := hd 28 (by kernel_rfl)
            simp [Region.wanted, yielded, hG, undef]
          refine StepsAt.skip 33 rfl (fun _ _ => rfl) rfl (fun x wc hd => ?_) ?_
          · have hG : x 28 = undef := hd 28 (by kernel_rfl)
            simp [Region.wanted, yielded, hG, undef]
          refine StepsAt.skip 34 rfl (fun _ _ => rfl) rfl (fun x wc hd => ?_) ?_
          · have hG : x 28 = undef := hd 28 (by kernel_rfl)
            simp [Region.wanted, yielded, hG, undef]
          refine StepsAt.skip 35 rfl (fun _ _ => rfl) rfl (fun x wc hd => ?_) ?_
          · have hG : x 28 = undef := hd 28 (by kernel_rfl)
            simp [Region.wanted, yielded, hG, undef]
          refine StepsAt.skip 36 rfl (fun _ _ => rfl) rfl (fun x wc hd => ?_) ?_
          · have hG : x 28 = undef := hd 28 (by kernel_rfl)
            simp [Region.wanted, yielded, hG, undef]
          refine StepsAt.skip 37 rfl (fun _ _ => rfl) rfl (fun x wc hd => ?_) ?_
          · have hG : x 28 = undef := hd 28 (by kernel_rfl)
            simp [Region.wanted, yielded, hG, undef]
          refine StepsAt.skip 38 rfl (fun _ _ => rfl) rfl (fun x wc hd => ?_) ?_
          · have hG : x 28 = undef := hd 28 (by kernel_rfl)
            simp [Region.wanted, yielded, hG, undef]
          refine StepsAt.skip 39 rfl (fun _ _ => rfl) rfl (fun x wc hd => ?_) ?_
          · have hG : x 28 = undef := hd 28 (by kernel_rfl)
            simp [Region.wanted, yielded, hG, undef]
          refine StepsAt.skip 40 rfl (fun _ _ => rfl) rfl (fun x wc hd => ?_) ?_
          · have hG : x 25 = .bool true := hd 25 (by kernel_rfl)
            simp [Region.wanted, yielded, hG]
          refine StepsAt.val 41 (.bool true) rfl (fun _ _ => rfl) rfl rfl (fun x wc hb hd => ?_) ?_
          · have h25 : x 25 = .bool true := hd 25 (by kernel_rfl)
            have h40 : x 40 = undef := hd 40 (by kernel_rfl)
            rw [h25, h40]
            first | (go_simp; done) | (go_simp; rfl)
          exact StepsAt.done
        case fin =>
          intro x wc hb hd
          have hx0 : x 0 = .pointer (some ⟨gX, 0, none⟩) := hd 0 (by omega)
          have hx1 : x 1 = txt pa := hd 1 (by omega)
          have hx2 : x 2 = .bool true := hd 2 (by omega)
          have hx3 : x 3 = .bool false := hd 3 (by omega)
          have hx4 : x 4 = .bool false := hd 4 (by omega)
          have hx5 : x 5 = .pointer (some ⟨gX, 1, none⟩) := hd 5 (by omega)
          have hx6 : x 6 = txt va := hd 6 (by omega)
          have hx7 : x 7 = .int .i64 (k : Int) := hd 7 (by omega)
          have hx8 : x 8 = .bool false := hd 8 (by omega)
          have hx9 : x 9 = .bool false := hd 9 (by omega)
          have hx10 : x 10 = .bool false := hd 10 (by omega)
          have hx11 : x 11 = .pointer (some ⟨gX, 2, none⟩) := hd 11 (by omega)
          have hx12 : x 12 = .int .i64 r := hd 12 (by omega)
          have hx13 : x 13 = .bool false := hd 13 (by omega)
          have hx14 : x 14 = .bool false := hd 14 (by omega)
          have hx15 : x 15 = .bool false := hd 15 (by omega)
          have hx16 : x 16 = .pointer (some ⟨gX, 2, none⟩) := hd 16 (by omega)
          have hx17 : x 17 = .int .i64 r := hd 17 (by omega)
          have hx18 : x 18 = .bool true := hd 18 (by omega)
          have hx19 : x 19 = .bool true := hd 19 (by omega)
          have hx20 : x 20 = .bool true := hd 20 (by omega)
          have hx21 : x 21 = undef := hd 21 (by omega)
          have hx22 : x 22 = undef := hd 22 (by omega)
          have hx23 : x 23 = undef := hd 23 (by omega)
          have hx24 : x 24 = .bool true := hd 24 (by omega)
          have hx25 : x 25 = .bool true := hd 25 (by omega)
          have hx26 : x 26 = undef := hd 26 (by omega)
          have hx27 : x 27 = undef := hd 27 (by omega)
          have hx28 : x 28 = undef := hd 28 (by omega)
          have hx29 : x 29 = undef := hd 29 (by omega)
          have hx30 : x 30 = undef := hd 30 (by omega)
          have hx31 : x 31 = undef := hd 31 (by omega)
          have hx32 : x 32 = undef := hd 32 (by omega)
          have hx33 : x 33 = undef := hd 33 (by omega)
          have hx34 : x 34 = undef := hd 34 (by omega)
          have hx35 : x 35 = undef := hd 35 (by omega)
          have hx36 : x 36 = undef := hd 36 (by omega)
          have hx37 : x 37 = undef := hd 37 (by omega)
          have hx38 : x 38 = undef := hd 38 (by omega)
          have hx39 : x 39 = undef := hd 39 (by omega)
          have hx40 : x 40 = undef := hd 40 (by omega)
          have hx41 : x 41 = .bool true := hd 41 (by omega)
          refine AnyTill.any (S := fun _ => True) (m := 42) _ _ _ _ ?_
          refine AnyTill.done (by kernel_rfl) ?_
          refine NoPanic.normal ?_
          try dsimp only
          rw [hx0, hx1, hx2, hx3, hx4, hx5, hx6, hx7, hx8, hx9, hx10, hx11, hx12, hx13, hx14, hx15, hx16, hx17, hx18, hx19, hx20, hx21, hx22, hx23, hx24, hx25, hx26, hx27, hx28, hx29, hx30, hx31, hx32, hx33, hx34, hx35, hx36, hx37, hx38, hx39, hx40, hx41]
          have HWc := Lib.hid (HWb.out.trans (hb.mono hsb))
          have XC := Lib.hid (XB2.out.below hb XB2.out.lt)
          have XGc := Lib.hid (XG.out.below hb XG.out.lt)
          clear hx0 hx1 hx2 hx3 hx4 hx5 hx6 hx7 hx8 hx9 hx10 hx11 hx12 hx13 hx14 hx15 hx16 hx17 hx18 hx19 hx20 hx21 hx22 hx23 hx24 hx25 hx26 hx27 hx28 hx29 hx30 hx31 hx32 hx33 hx34 hx35 hx36 hx37 hx38 hx39 hx40 hx41 hd hb XB2 XG HWb x
          go_wp2
          go_ret
          exact ⟨by rw [HF.out]; rfl, HB.out.trans (HWc.out.mono hw1)⟩
      have d18 : decide (1000000000 < r) = false := decide_eq_false (by omega)
      by_cases h23 : oo < 0
      · have d23 : decide (oo < 0) = true := decide_eq_true (by omega)
        have HF := Lib.hid (okN_not l i (by rw [HN.out]; exact hi2) (by rw [OK.out]; (have : decide (0 ≤ oo) = false := decide_eq_false (by omega)); rw [this]; simp))
        clear h23 h18 h13 h8
        refine wp_region_rely2 42 0 (fun x => ⟨#[.agg #[Value.slice (some a) n cp], .pointer (some { block := g0, off := 0 }), u2, .int IntKind.i64 ↑i, .pointer (some { block := gX, off := 0 }), u5, u6, u7, .pointer (some { block := g0, off := 0 }), .slice (some a) n cp, .int IntKind.i64 ↑n, .bool false, .bool false, .pointer (some { block := g0, off := 0 }), .slice (some a) n cp, .int IntKind.i64 ↑n, .bool false, .bool false, .int IntKind.i64 ↑i, .pointer (some { block := g0, off := 0 }), .slice (some a) n cp, .int IntKind.i64 ↑n, .bool true, u23, u24, .pointer (some { block := g0, off := 0 }), .slice (some a) n cp, .int IntKind.i64 ↑i, .pointer (some (a.add (i * 4))), .agg #[txt (nP nd), txt (nV nd), Value.int IntKind.i64 (nR nd), Value.int IntKind.i64 (nO nd)], x 0, x 1, x 2, x 3, x 4, x 5, x 6, x 7, x 8, x 9, x 10, x 11, x 12, x 13, x 14, x 15, x 16, x 17, x 18, x 19, x 20, x 21, x 22, x 23, x 24, x 25, x 26, x 27, x 28, x 29, x 30, x 31, x 32, x 33, x 34, x 35, x 36, x 37, x 38, x 39, x 40, x 41, u72, u73, u74, u75, u76, u77, u78, u79, u80, u81, u82, u83, u84, u85, u86, u87, u88, u89, u90, u91, u92, u93, u94, u95, u96, undef, undef, undef], []⟩) (fun jj => ([eqV (.pointer (some ⟨gX, 0, none⟩)), eqV (txt pa), (eqV (.bool true)), eqV (.bool false), eqV (.bool false), eqV (.pointer (some ⟨gX, 1, none⟩)), eqV (txt va), eqV (.int .i64 (k : Int)), eqV (.bool false), eqV (.bool false), eqV (.bool false), eqV (.pointer (some ⟨gX, 2, none⟩)), eqV (.int .i64 r), eqV (.bool false), eqV (.bool false), eqV (.bool false), eqV (.pointer (some ⟨gX, 2, none⟩)), eqV (.int .i64 r), eqV (.bool false), eqV (.bool false), eqV (.bool false), eqV (.pointer (some ⟨gX, 3, none⟩)), eqV (.int .i64 oo), eqV (.bool true), eqV (.bool true), eqV (.bool true), (eqV undef), (eqV undef), (eqV undef), (eqV undef), (eqV undef), (eqV undef), (eqV undef), (eqV undef), (eqV undef), (eqV undef), (eqV undef), (eqV undef), (eqV undef), (eqV undef), (eqV undef), eqV (.bool true)] : List (Value → World → Prop)).getD jj (fun _ _ => True)) rfl ⟨fun kk => [_, _, _, _, _, _, _, _, _, _, _, _, _, _, _, _, _, _, _, _, _, _, _, _, _, _, _, _, _, _, _, _, _, _, _, _, _, _, _, _, _, _].getD kk undef, rfl⟩ (by kernel_rfl) (by kernel_rfl) ?steps ?fin
        case steps =>
          refine StepsAt.val 0 (.pointer (some ⟨gX, 0, none⟩)) rfl (fun _ _ => rfl) rfl rfl (fun x wc hb hd => ?_) ?_
          · first | (go_simp; done) | (go_simp; rfl)
          refine StepsAt.val 1 (txt pa) rfl (fun _ _ => rfl) rfl rfl (fun x wc hb hd => ?_) ?_
          · have h0 : x 0 = .pointer (some ⟨gX, 0, none⟩) := hd 0 (by kernel_rfl)
            have cc := ((XB2.out.below hb XB2.out.lt).cell 0).trans (show _ = some (txt pa) from rfl)
            rw [h0]
            first | (go_simp; done) | (go_simp; rfl)
          refine StepsAt.cons 2 (fun _ _ _ h hb => h) (fun _ _ => rfl) rfl rfl (fun x wc hb hd K hK => ?_) ?_
          · have h1 : Hid (x 1 = txt pa) := hd 1 (by kernel_rfl)
            go_simp
            refine calls_args (args2 := #[txt pa]) (by rw [h1.out]) ?_
            refine (rightIs pa true HRB.out _).mono ?_
            rintro e w99 ⟨rfl, hb99⟩
            exact hK.out _ _ hb99 rfl
          refine StepsAt.val 3 (.bool false) rfl (fun _ _ => rfl) rfl rfl (fun x wc hb hd => ?_) ?_
          · have h2 : x 2 = .bool true := hd 2 (by kernel_rfl)
            rw [h2]
            first | (go_simp; done) | (go_simp; rfl)
          refine StepsAt.val 4 (.bool false) rfl (fun _ _ => rfl) rfl rfl (fun x wc hb hd => ?_) ?_
          · have h3 : x 3 = .bool false := hd 3 (by kernel_rfl)
            rw [h3]
            first | (go_simp; done) | (go_simp; rfl)
          refine StepsAt.valG 5 (.pointer (some ⟨gX, 1, none⟩)) rfl (fun _ _ => rfl) rfl (fun x wc hd => ?_) (fun x wc hb hd => ?_) ?_
          · have hG : x 4 = .bool false := hd 4 (by kernel_rfl)
            simp [Region.wanted, yielded, hG]
          · first | (go_simp; done) | (go_simp; rfl)
          refine StepsAt.valG 6 (txt va) rfl (fun _ _ => rfl) rfl (fun x wc hd => ?_) (fun x wc hb hd => ?_) ?_
          · have hG : x 4 = .bool false := hd 4 (by kernel_rfl)
            simp [Region.wanted, yielded, hG]
          · have h5 : x 5 = .pointer (some ⟨gX, 1, none⟩) := hd 5 (by kernel_rfl)
            have cc := ((XB2.out.below hb XB2.out.lt).cell 1).trans (show _ = some (txt va) from rfl)
            rw [h5]
            first | (go_simp; done) | (go_simp; rfl)
          refine StepsAt.valG 7 (.int .i64 (k : Int)) rfl (fun _ _ => rfl) rfl (fun x wc hd => ?_) (fun x wc hb hd => ?_) ?_
          · have hG : x 4 = .bool false := hd 4 (by kernel_rfl)
            simp [Region.wanted, yielded, hG]
          · have h6 : x 6 = txt va := hd 6 (by kernel_rfl)
            rw [h6]
            first | (go_simp; done) | (go_simp; rfl)
          refine StepsAt.valG 8 (.bool false) rfl (fun _ _ => rfl) rfl (fun x wc hd => ?_) (fun x wc hb hd => ?_) ?_
          · have hG : x 4 = .bool false := hd 4 (by kernel_rfl)
            simp [Region.wanted, yielded, hG]
          · have h7 : x 7 = .int .i64 (k : Int) := hd 7 (by kernel_rfl)
            rw [h7]
            first | (go_simp; done) | (go_simp; rfl)
          refine StepsAt.val 9 (.bool false) rfl (fun _ _ => rfl) rfl rfl (fun x wc hb hd => ?_) ?_
          · have h4 : x 4 = .bool false := hd 4 (by kernel_rfl)
            have h8 : x 8 = .bool false := hd 8 (by kernel_rfl)
            rw [h4, h8]
            first | (go_simp; done) | (go_simp; rfl)
          refine StepsAt.val 10 (.bool false) rfl (fun _ _ => rfl) rfl rfl (fun x wc hb hd => ?_) ?_
          · have h9 : x 9 = .bool false := hd 9 (by kernel_rfl)
            rw [h9]
            first | (go_simp; done) | (go_simp; rfl)
          refine StepsAt.valG 11 (.pointer (some ⟨gX, 2, none⟩)) rfl (fun _ _ => rfl) rfl (fun x wc hd => ?_) (fun x wc hb hd => ?_) ?_
          · have hG : x 10 = .bool false := hd 10 (by kernel_rfl)
            simp [Region.wanted, yielded, hG]
          · first | (go_simp; done) | (go_simp; rfl)
          refine StepsAt.valG 12 (.int .i64 r) rfl (fun _ _ => rfl) rfl (fun x wc hd => ?_) (fun x wc hb hd => ?_) ?_
          · have hG : x 10 = .bool false := hd 10 (by kernel_rfl)
            simp [Region.wanted, yielded, hG]
          · have h11 : x 11 = .pointer (some ⟨gX, 2, none⟩) := hd 11 (by kernel_rfl)
            have cc := ((XB2.out.below hb XB2.out.lt).cell 2).trans (show _ = some (.int .i64 r) from rfl)
            rw [h11]
            first | (go_simp; done) | (go_simp; rfl)
          refine StepsAt.valG 13 (.bool false) rfl (fun _ _ => rfl) rfl (fun x wc hd => ?_) (fun x wc hb hd => ?_) ?_
          · have hG : x 10 = .bool false := hd 10 (by kernel_rfl)
            simp [Region.wanted, yielded, hG]
          · have h12 : x 12 = .int .i64 r := hd 12 (by kernel_rfl)
            rw [h12]
            first | (go_simp; done) | (go_simp; rfl)
          refine StepsAt.val 14 (.bool false) rfl (fun _ _ => rfl) rfl rfl (fun x wc hb hd => ?_) ?_
          · have h10 : x 10 = .bool false := hd 10 (by kernel_rfl)
            have h13 : x 13 = .bool false := hd 13 (by kernel_rfl)
            rw [h10, h13]
            first | (go_simp; done) | (go_simp; rfl)
          refine StepsAt.val 15 (.bool false) rfl (fun _ _ => rfl) rfl rfl (fun x wc hb hd => ?_) ?_
          · have h14 : x 14 = .bool false := hd 14 (by kernel_rfl)
            rw [h14]
            first | (go_simp; done) | (go_simp; rfl)
          refine StepsAt.valG 16 (.pointer (some ⟨gX, 2, none⟩)) rfl (fun _ _ => rfl) rfl (fun x wc hd => ?_) (fun x wc hb hd => ?_) ?_
          · have hG : x 15 = .bool false := hd 15 (by kernel_rfl)
            simp [Region.wanted, yielded, hG]
          · first | (go_simp; done) | (go_simp; rfl)
          refine StepsAt.valG 17 (.int .i64 r) rfl (fun _ _ => rfl) rfl (fun x wc hd => ?_) (fun x wc hb hd => ?_) ?_
          · have hG : x 15 = .bool false := hd 15 (by kernel_rfl)
            simp [Region.wanted, yielded, hG]
          · have h16 : x 16 = .pointer (some ⟨gX, 2, none⟩) := hd 16 (by kernel_rfl)
            have cc := ((XB2.out.below hb XB2.out.lt).cell 2).trans (show _ = some (.int .i64 r) from rfl)
            rw [h16]
            first | (go_simp; done) | (go_simp; rfl)
          refine StepsAt.valG 18 (.bool false) rfl (fun _ _ => rfl) rfl (fun x wc hd => ?_) (fun x wc hb hd => ?_) ?_
          · have hG : x 15 = .bool false := hd 15 (by kernel_rfl)
            simp [Region.wanted, yielded, hG]
          · have h17 : x 17 = .int .i64 r := hd 17 (by kernel_rfl)
            rw [h17]
            first | (go_simp; done) | (go_simp; rfl)
          refine StepsAt.val 19 (.bool false) rfl (fun _ _ => rfl) rfl rfl (fun x wc hb hd => ?_) ?_
          · have h15 : x 15 = .bool false := hd 15 (by kernel_rfl)
            have h18 : x 18 = .bool false := hd 18 (by kernel_rfl)
            rw [h15, h18]
            first | (go_simp; done) | (go_simp; rfl)
          refine StepsAt.val 20 (.bool false) rfl (fun _ _ => rfl) rfl rfl (fun x wc hb hd => ?_) ?_
          · have h19 : x 19 = .bool false := hd 19 (by kernel_rfl)
            rw [h19]
            first | (go_simp; done) | (go_simp; rfl)
          refine StepsAt.valG 21 (.pointer (some ⟨gX, 3, none⟩)) rfl (fun _ _ => rfl) rfl (fun x wc hd => ?_) (fun x wc hb hd => ?_) ?_
          · have hG : x 20 = .bool false := hd 20 (by kernel_rfl)
            simp [Region.wanted, yielded, hG]
          · first | (go_simp; done) | (go_simp; rfl)
          refine StepsAt.valG 22 (.int .i64 oo) rfl (fun _ _ => rfl) rfl (fun x wc hd => ?_) (fun x wc hb hd => ?_) ?_
          · have hG : x 20 = .bool false := hd 20 (by kernel_rfl)
            simp [Region.wanted, yielded, hG]
          · have h21 : x 21 = .pointer (some ⟨gX, 3, none⟩) := hd 21 (by kernel_rfl)
            have cc := ((XB2.out.below hb XB2.out.lt).cell 3).trans (show _ = some (.int .i64 oo) from rfl)
            rw [h21]
            first | (go_simp; done) | (go_simp; rfl)
          refine StepsAt.valG 23 (.bool true) rfl (fun _ _ => rfl) rfl (fun x wc hd => ?_) (fun x wc hb hd => ?_) ?_
          · have hG : x 20 = .bool false := hd 20 (by kernel_rfl)
            simp [Region.wanted, yielded, hG]
          · have h22 : x 22 = .int .i64 oo := hd 22 (by kernel_rfl)
            rw [h22]
            first | (go_simp; done) | (go_simp; rfl)
          refine StepsAt.val 24 (.bool true) rfl (fun _ _ => rfl) rfl rfl (fun x wc hb hd => ?_) ?_
          · have h20 : x 20 = .bool false := hd 20 (by kernel_rfl)
            have h23 : x 23 = .bool true := hd 23 (by kernel_rfl)
            rw [h20, h23]
            first | (go_simp; done) | (go_simp; rfl)
          refine StepsAt.val 25 (.bool true) rfl (fun _ _ => rfl) rfl rfl (fun x wc hb hd => ?_) ?_
          · have h24 : x 24 = .bool true := hd 24 (by kernel_rfl)
            rw [h24]
            first | (go_simp; done) | (go_simp; rfl)
          refine StepsAt.skip 26 rfl (fun _ _ => rfl) rfl (fun x wc hd => ?_) ?_
          · have hG : x 25 = .bool true := hd 25 (by kernel_rfl)
            simp [Region.wanted, yielded, hG]
          refine StepsAt.skip 27 rfl (fun _ _ => rfl) rfl (fun x wc hd => ?_) ?_
          · have hG : x 25 = .bool true := hd 25 (by kernel_rfl)
            simp [Region.wanted, yielded, hG]
          refine StepsAt.skip 28 rfl (fun _ _ => rfl) rfl (fun x wc hd => ?_) ?_
          · have hG : x 25 = .bool true := hd 25 (by kernel_rfl)
            simp [Region.wanted, yielded, hG]
          refine StepsAt.skip 29 rfl (fun _ _ => rfl) rfl (fun x wc hd => ?_) ?_
          · have hG : x 28 = undef := hd 28 (by kernel_rfl)
            simp [Region.wanted, yielded, hG, undef]
          refine StepsAt.skip 30 rfl (fun _ _ => rfl) rfl (fun x wc hd => ?_) ?_
          · have hG : x 28 = undef := hd 28 (by kernel_rfl)
            simp [Region.wanted, yielded, hG, undef]
          refine StepsAt.skip 31 rfl (fun _ _ => rfl) rfl (fun x wc hd => ?_) ?_
          · have hG : x 28 = undef := hd 28 (by kernel_rfl)
            simp [Region.wanted, yielded, hG, undef]
          refine StepsAt.skip 32 rfl (fun _ _ => rfl) rfl (fun x wc hd => ?_) ?_
          · have hG : x 28 = undef := hd 28 (by kernel_rfl)
            simp [Region.wanted, yielded, hG, undef]
          refine StepsAt.skip 33 rfl (fun _ _ => rfl) rfl (fun x wc hd => ?_) ?_
          · have hG : x 28 = undef := hd 28 (by kernel_rfl)
            simp [Region.wanted, yielded, hG, undef]
          refine StepsAt.skip 34 rfl (fun _ _ => rfl) rfl (fun x wc hd => ?_) ?_
          · have hG : x 28 = undef := hd 28 (by kernel_rfl)
            simp [Region.wanted, yielded, hG, undef]
          refine StepsAt.skip 35 rfl (fun _ _ => rfl) rfl (fun x wc hd => ?_) ?_
          · have hG : x 28 = undef := hd 28 (by kernel_rfl)
            simp [Region.wanted, yielded, hG, undef]
          refine StepsAt.skip 36 rfl (fun _ _ => rfl) rfl (fun x wc hd => ?_) ?_
          · have hG : x 28 = undef := hd 28 (by kernel_rfl)
            simp [Region.wanted, yielded, hG, undef]
          refine StepsAt.skip 37 rfl (fun _ _ => rfl) rfl (fun x wc hd => ?_) ?_
          · have hG : x 28 = undef := hd 28 (by kernel_rfl)
            simp [Region.wanted, yielded, hG, undef]
          refine StepsAt.skip 38 rfl (fun _ _ => rfl) rfl (fun x wc hd => ?_) ?_
          · have hG : x 28 = undef := hd 28 (by kernel_rfl)
            simp [Region.wanted, yielded, hG, undef]
          refine StepsAt.skip 39 rfl (fun _ _ => rfl) rfl (fun x wc hd => ?_) ?_
          · have hG : x 28 = undef := hd 28 (by kernel_rfl)
            simp [Region.wanted, yielded, hG, undef]
          refine StepsAt.skip 40 rfl (fun _ _ => rfl) rfl (fun x wc hd => ?_) ?_
          · have hG : x 25 = .bool true := hd 25 (by kernel_rfl)
            simp [Region.wanted, yielded, hG]
          refine StepsAt.val 41 (.bool true) rfl (fun _ _ => rfl) rfl rfl (fun x wc hb hd => ?_) ?_
          · have h25 : x 25 = .bool true := hd 25 (by kernel_rfl)
            have h40 : x 40 = undef := hd 40 (by kernel_rfl)
            rw [h25, h40]
            first | (go_simp; done) | (go_simp; rfl)
          exact StepsAt.done
        case fin =>
          intro x wc hb hd
          have hx0 : x 0 = .pointer (some ⟨gX, 0, none⟩) := hd 0 (by omega)
          have hx1 : x 1 = txt pa := hd 1 (by omega)
          have hx2 : x 2 = .bool true := hd 2 (by omega)
          have hx3 : x 3 = .bool false := hd 3 (by omega)
          have hx4 : x 4 = .bool false := hd 4 (by omega)
          have hx5 : x 5 = .pointer (some ⟨gX, 1, none⟩) := hd 5 (by omega)
          have hx6 : x 6 = txt va := hd 6 (by omega)
          have hx7 : x 7 = .int .i64 (k : Int) := hd 7 (by omega)
          have hx8 : x 8 = .bool false := hd 8 (by omega)
          have hx9 : x 9 = .bool false := hd 9 (by omega)
          have hx10 : x 10 = .bool false := hd 10 (by omega)
          have hx11 : x 11 = .pointer (some ⟨gX, 2, none⟩) := hd 11 (by omega)
          have hx12 : x 12 = .int .i64 r := hd 12 (by omega)
          have hx13 : x 13 = .bool false := hd 13 (by omega)
          have hx14 : x 14 = .bool false := hd 14 (by omega)
          have hx15 : x 15 = .bool false := hd 15 (by omega)
          have hx16 : x 16 = .pointer (some ⟨gX, 2, none⟩) := hd 16 (by omega)
          have hx17 : x 17 = .int .i64 r := hd 17 (by omega)
          have hx18 : x 18 = .bool false := hd 18 (by omega)
          have hx19 : x 19 = .bool false := hd 19 (by omega)
          have hx20 : x 20 = .bool false := hd 20 (by omega)
          have hx21 : x 21 = .pointer (some ⟨gX, 3, none⟩) := hd 21 (by omega)
          have hx22 : x 22 = .int .i64 oo := hd 22 (by omega)
          have hx23 : x 23 = .bool true := hd 23 (by omega)
          have hx24 : x 24 = .bool true := hd 24 (by omega)
          have hx25 : x 25 = .bool true := hd 25 (by omega)
          have hx26 : x 26 = undef := hd 26 (by omega)
          have hx27 : x 27 = undef := hd 27 (by omega)
          have hx28 : x 28 = undef := hd 28 (by omega)
          have hx29 : x 29 = undef := hd 29 (by omega)
          have hx30 : x 30 = undef := hd 30 (by omega)
          have hx31 : x 31 = undef := hd 31 (by omega)
          have hx32 : x 32 = undef := hd 32 (by omega)
          have hx33 : x 33 = undef := hd 33 (by omega)
          have hx34 : x 34 = undef := hd 34 (by omega)
          have hx35 : x 35 = undef := hd 35 (by omega)
          have hx36 : x 36 = undef := hd 36 (by omega)
          have hx37 : x 37 = undef := hd 37 (by omega)
          have hx38 : x 38 = undef := hd 38 (by omega)
          have hx39 : x 39 = undef := hd 39 (by omega)
          have hx40 : x 40 = undef := hd 40 (by omega)
          have hx41 : x 41 = .bool true := hd 41 (by omega)
          refine AnyTill.any (S := fun _ => True) (m := 42) _ _ _ _ ?_
          refine AnyTill.done (by kernel_rfl) ?_
          refine NoPanic.normal ?_
          try dsimp only
          rw [hx0, hx1, hx2, hx3, hx4, hx5, hx6, hx7, hx8, hx9, hx10, hx11, hx12, hx13, hx14, hx15, hx16, hx17, hx18, hx19, hx20, hx21, hx22, hx23, hx24, hx25, hx26, hx27, hx28, hx29, hx30, hx31, hx32, hx33, hx34, hx35, hx36, hx37, hx38, hx39, hx40, hx41]
          have HWc := Lib.hid (HWb.out.trans (hb.mono hsb))
          have XC := Lib.hid (XB2.out.below hb XB2.out.lt)
          have XGc := Lib.hid (XG.out.below hb XG.out.lt)
          clear hx0 hx1 hx2 hx3 hx4 hx5 hx6 hx7 hx8 hx9 hx10 hx11 hx12 hx13 hx14 hx15 hx16 hx17 hx18 hx19 hx20 hx21 hx22 hx23 hx24 hx25 hx26 hx27 hx28 hx29 hx30 hx31 hx32 hx33 hx34 hx35 hx36 hx37 hx38 hx39 hx40 hx41 hd hb XB2 XG HWb x
          go_wp2
          go_ret
          exact ⟨by rw [HF.out]; rfl, HB.out.trans (HWc.out.mono hw1)⟩
      have d23 : decide (oo < 0) = false := decide_eq_false (by omega)
      have OK2 : Hid (okN l i = ((decide (i = 0) || aheadB (nP (l.getD (i - 1) nd0)) pa) && upN l nd)) := by
        show _ = _
        have e1 : k ≤ 1000 := by omega
        have e2 : 0 ≤ r := by omega
        have e3 : r ≤ 1000000000 := by omega
        have e4 : 0 ≤ oo := by omega
        rw [OK.out, HRB.out]
        simp [e1, e2, e3, e4]
      clear h8 h13 h18 h23 OK
      by_cases h27 : i = 0
      · have d27 : decide ((0 : Int) < (i : Int)) = false := decide_eq_false (by omega)
        have hi0 : ¬ 0 < i := by omega
        have OKU : Hid (okN l i = upN l nd) := by
          show _ = _
          rw [OK2.out]; simp [h27]
        clear OK2 h27
        refine wp_region_rely2 42 0 (fun x => ⟨#[.agg #[Value.slice (some a) n cp], .pointer (some { block := g0, off := 0 }), u2, .int IntKind.i64 ↑i, .pointer (some { block := gX, off := 0 }), u5, u6, u7, .pointer (some { block := g0, off := 0 }), .slice (some a) n cp, .int IntKind.i64 ↑n, .bool false, .bool false, .pointer (some { block := g0, off := 0 }), .slice (some a) n cp, .int IntKind.i64 ↑n, .bool false, .bool false, .int IntKind.i64 ↑i, .pointer (some { block := g0, off := 0 }), .slice (some a) n cp, .int IntKind.i64 ↑n, .bool true, u23, u24, .pointer (some { block := g0, off := 0 }), .slice (some a) n cp, .int IntKind.i64 ↑i, .pointer (some (a.add (i * 4))), .agg #[txt (nP nd), txt (nV nd), Value.int IntKind.i64 (nR nd), Value.int IntKind.i64 (nO nd)], x 0, x 1, x 2, x 3, x 4, x 5, x 6, x 7, x 8, x 9, x 10, x 11, x 12, x 13, x 14, x 15, x 16, x 17, x 18, x 19, x 20, x 21, x 22, x 23, x 24, x 25, x 26, x 27, x 28, x 29, x 30, x 31, x 32, x 33, x 34, x 35, x 36, x 37, x 38, x 39, x 40, x 41, u72, u73, u74, u75, u76, u77, u78, u79, u80, u81, u82, u83, u84, u85, u86, u87, u88, u89, u90, u91, u92, u93, u94, u95, u96, undef, undef, undef], []⟩) (fun jj => ([eqV (.pointer (some ⟨gX, 0, none⟩)), eqV (txt pa), (eqV (.bool true)), eqV (.bool false), eqV (.bool false), eqV (.pointer (some ⟨gX, 1, none⟩)), eqV (txt va), eqV (.int .i64 (k : Int)), eqV (.bool false), eqV (.bool false), eqV (.bool false), eqV (.pointer (some ⟨gX, 2, none⟩)), eqV (.int .i64 r), eqV (.bool false), eqV (.bool false), eqV (.bool false), eqV (.pointer (some ⟨gX, 2, none⟩)), eqV (.int .i64 r), eqV (.bool false), eqV (.bool false), eqV (.bool false), eqV (.pointer (some ⟨gX, 3, none⟩)), eqV (.int .i64 oo), eqV (.bool false), eqV (.bool false), eqV (.bool false), eqV (.int IntKind.i64 ↑i), eqV (.bool false), eqV (.bool false), (eqV undef), (eqV undef), (eqV undef), (eqV undef), (eqV undef), (eqV undef), (eqV undef), (eqV undef), (eqV undef), (eqV undef), (eqV undef), eqV (.bool false), eqV (.bool false)] : List (Value → World → Prop)).getD jj (fun _ _ => True)) rfl ⟨fun kk => [_, _, _, _, _, _, _, _, _, _, _, _, _, _, _, _, _, _, _, _, _, _, _, _, _, _, _, _, _, _, _, _, _, _, _, _, _, _, _, _, _, _].getD kk undef, rfl⟩ (by kernel_rfl) (by kernel_rfl) ?steps ?fin
        case steps =>
          refine StepsAt.val 0 (.pointer (some ⟨gX, 0, none⟩)) rfl (fun _ _ => rfl) rfl rfl (fun x wc hb hd => ?_) ?_
          · first | (go_simp; done) | (go_simp; rfl)
          refine StepsAt.val 1 (txt pa) rfl (fun _ _ => rfl) rfl rfl (fun x wc hb hd => ?_) ?_
          · have h0 : x 0 = .pointer (some ⟨gX, 0, none⟩) := hd 0 (by kernel_rfl)
            have cc := ((XB2.out.below hb XB2.out.lt).cell 0).trans (show _ = some (txt pa) from rfl)
            rw [h0]
            first | (go_simp; done) | (go_simp; rfl)
          refine StepsAt.cons 2 (fun _ _ _ h hb => h) (fun _ _ => rfl) rfl rfl (fun x wc hb hd K hK => ?_) ?_
          · have h1 : Hid (x 1 = txt pa) := hd 1 (by kernel_rfl)
            go_simp
            refine calls_args (args2 := #[txt pa]) (by rw [h1.out]) ?_
            refine (rightIs pa true HRB.out _).mono ?_
            rintro e w99 ⟨rfl, hb99⟩
            exact hK.out _ _ hb99 rfl
          refine StepsAt.val 3 (.bool false) rfl (fun _ _ => rfl) rfl rfl (fun x wc hb hd => ?_) ?_
          · have h2 : x 2 = .bool true := hd 2 (by kernel_rfl)
            rw [h2]
            first | (go_simp; done) | (go_simp; rfl)
          refine StepsAt.val 4 (.bool false) rfl (fun _ _ => rfl) rfl rfl (fun x wc hb hd => ?_) ?_
          · have h3 : x 3 = .bool false := hd 3 (by kernel_rfl)
            rw [h3]
            first | (go_simp; done) | (go_simp; rfl)
          refine StepsAt.valG 5 (.pointer (some ⟨gX, 1, none⟩)) rfl (fun _ _ => rfl) rfl (fun x wc hd => ?_) (fun x wc hb hd => ?_) ?_
          · have hG : x 4 = .bool false := hd 4 (by kernel_rfl)
            simp [Region.wanted, yielded, hG]
          · first | (go_simp; done) | (go_simp; rfl)
          refine StepsAt.valG 6 (txt va) rfl (fun _ _ => rfl) rfl (fun x wc hd => ?_) (fun x wc hb hd => ?_) ?_
          · have hG : x 4 = .bool false := hd 4 (by kernel_rfl)
            simp [Region.wanted, yielded, hG]
          · have h5 : x 5 = .pointer (some ⟨gX, 1, none⟩) := hd 5 (by kernel_rfl)
            have cc := ((XB2.out.below hb XB2.out.lt).cell 1).trans (show _ = some (txt va) from rfl)
            rw [h5]
            first | (go_simp; done) | (go_simp; rfl)
          refine StepsAt.valG 7 (.int .i64 (k : Int)) rfl (fun _ _ => rfl) rfl (fun x wc hd => ?_) (fun x wc hb hd => ?_) ?_
          · have hG : x 4 = .bool false := hd 4 (by kernel_rfl)
            simp [Region.wanted, yielded, hG]
          · have h6 : x 6 = txt va := hd 6 (by kernel_rfl)
            rw [h6]
            first | (go_simp; done) | (go_simp; rfl)
          refine StepsAt.valG 8 (.bool false) rfl (fun _ _ => rfl) rfl (fun x wc hd => ?_) (fun x wc hb hd => ?_) ?_
          · have hG : x 4 = .bool false := hd 4 (by kernel_rfl)
            simp [Region.wanted, yielded, hG]
          · have h7 : x 7 = .int .i64 (k : Int) := hd 7 (by kernel_rfl)
            rw [h7]
            first | (go_simp; done) | (go_simp; rfl)
          refine StepsAt.val 9 (.bool false) rfl (fun _ _ => rfl) rfl rfl (fun x wc hb hd => ?_) ?_
          · have h4 : x 4 = .bool false := hd 4 (by kernel_rfl)
            have h8 : x 8 = .bool false := hd 8 (by kernel_rfl)
            rw [h4, h8]
            first | (go_simp; done) | (go_simp; rfl)
          refine StepsAt.val 10 (.bool false) rfl (fun _ _ => rfl) rfl rfl (fun x wc hb hd => ?_) ?_
          · have h9 : x 9 = .bool false := hd 9 (by kernel_rfl)
            rw [h9]
            first | (go_simp; done) | (go_simp; rfl)
          refine StepsAt.valG 11 (.pointer (some ⟨gX, 2, none⟩)) rfl (fun _ _ => rfl) rfl (fun x wc hd => ?_) (fun x wc hb hd => ?_) ?_
          · have hG : x 10 = .bool false := hd 10 (by kernel_rfl)
            simp [Region.wanted, yielded, hG]
          · first | (go_simp; done) | (go_simp; rfl)
          refine StepsAt.valG 12 (.int .i64 r) rfl (fun _ _ => rfl) rfl (fun x wc hd => ?_) (fun x wc hb hd => ?_) ?_
          · have hG : x 10 = .bool false := hd 10 (by kernel_rfl)
            simp [Region.wanted, yielded, hG]
          · have h11 : x 11 = .pointer (some ⟨gX, 2, none⟩) := hd 11 (by kernel_rfl)
            have cc := ((XB2.out.below hb XB2.out.lt).cell 2).trans (show _ = some (.int .i64 r) from rfl)
            rw [h11]
            first | (go_simp; done) | (go_simp; rfl)
          refine StepsAt.valG 13 (.bool false) rfl (fun _ _ => rfl) rfl (fun x wc hd => ?_) (fun x wc hb hd => ?_) ?_
          · have hG : x 10 = .bool false := hd 10 (by kernel_rfl)
            simp [Region.wanted, yielded, hG]
          · have h12 : x 12 = .int .i64 r := hd 12 (by kernel_rfl)
            rw [h12]
            first | (go_simp; done) | (go_simp; rfl)
          refine StepsAt.val 14 (.bool false) rfl (fun _ _ => rfl) rfl rfl (fun x wc hb hd => ?_) ?_
          · have h10 : x 10 = .bool false := hd 10 (by kernel_rfl)
            have h13 : x 13 = .bool false := hd 13 (by kernel_rfl)
            rw [h10, h13]
            first | (go_simp; done) | (go_simp; rfl)
          refine StepsAt.val 15 (.bool false) rfl (fun _ _ => rfl) rfl rfl (fun x wc hb hd => ?_) ?_
          · have h14 : x 14 = .bool false := hd 14 (by kernel_rfl)
            rw [h14]
            first | (go_simp; done) | (go_simp; rfl)
          refine StepsAt.valG 16 (.pointer (some ⟨gX, 2, none⟩)) rfl (fun _ _ => rfl) rfl (fun x wc hd => ?_) (fun x wc hb hd => ?_) ?_
          · have hG : x 15 = .bool false := hd 15 (by kernel_rfl)
            simp [Region.wanted, yielded, hG]
          · first | (go_simp; done) | (go_simp; rfl)
          refine StepsAt.valG 17 (.int .i64 r) rfl (fun _ _ => rfl) rfl (fun x wc hd => ?_) (fun x wc hb hd => ?_) ?_
          · have hG : x 15 = .bool false := hd 15 (by kernel_rfl)
            simp [Region.wanted, yielded, hG]
          · have h16 : x 16 = .pointer (some ⟨gX, 2, none⟩) := hd 16 (by kernel_rfl)
            have cc := ((XB2.out.below hb XB2.out.lt).cell 2).trans (show _ = some (.int .i64 r) from rfl)
            rw [h16]
            first | (go_simp; done) | (go_simp; rfl)
          refine StepsAt.valG 18 (.bool false) rfl (fun _ _ => rfl) rfl (fun x wc hd => ?_) (fun x wc hb hd => ?_) ?_
          · have hG : x 15 = .bool false := hd 15 (by kernel_rfl)
            simp [Region.wanted, yielded, hG]
          · have h17 : x 17 = .int .i64 r := hd 17 (by kernel_rfl)
            rw [h17]
            first | (go_simp; done) | (go_simp; rfl)
          refine StepsAt.val 19 (.bool false) rfl (fun _ _ => rfl) rfl rfl (fun x wc hb hd => ?_) ?_
          · have h15 : x 15 = .bool false := hd 15 (by kernel_rfl)
            have h18 : x 18 = .bool false := hd 18 (by kernel_rfl)
            rw [h15, h18]
            first | (go_simp; done) | (go_simp; rfl)
          refine StepsAt.val 20 (.bool false) rfl (fun _ _ => rfl) rfl rfl (fun x wc hb hd => ?_) ?_
          · have h19 : x 19 = .bool false := hd 19 (by kernel_rfl)
            rw [h19]
            first | (go_simp; done) | (go_simp; rfl)
          refine StepsAt.valG 21 (.pointer (some ⟨gX, 3, none⟩)) rfl (fun _ _ => rfl) rfl (fun x wc hd => ?_) (fun x wc hb hd => ?_) ?_
          · have hG : x 20 = .bool false := hd 20 (by kernel_rfl)
            simp [Region.wanted, yielded, hG]
          · first | (go_simp; done) | (go_simp; rfl)
          refine StepsAt.valG 22 (.int .i64 oo) rfl (fun _ _ => rfl) rfl (fun x wc hd => ?_) (fun x wc hb hd => ?_) ?_
          · have hG : x 20 = .bool false := hd 20 (by kernel_rfl)
            simp [Region.wanted, yielded, hG]
          · have h21 : x 21 = .pointer (some ⟨gX, 3, none⟩) := hd 21 (by kernel_rfl)
            have cc := ((XB2.out.below hb XB2.out.lt).cell 3).trans (show _ = some (.int .i64 oo) from rfl)
            rw [h21]
            first | (go_simp; done) | (go_simp; rfl)
          refine StepsAt.valG 23 (.bool false) rfl (fun _ _ => rfl) rfl (fun x wc hd => ?_) (fun x wc hb hd => ?_) ?_
          · have hG : x 20 = .bool false := hd 20 (by kernel_rfl)
            simp [Region.wanted, yielded, hG]
          · have h22 : x 22 = .int .i64 oo := hd 22 (by kernel_rfl)
            rw [h22]
            first | (go_simp; done) | (go_simp; rfl)
          refine StepsAt.val 24 (.bool false) rfl (fun _ _ => rfl) rfl rfl (fun x wc hb hd => ?_) ?_
          · have h20 : x 20 = .bool false := hd 20 (by kernel_rfl)
            have h23 : x 23 = .bool false := hd 23 (by kernel_rfl)
            rw [h20, h23]
            first | (go_simp; done) | (go_simp; rfl)
          refine StepsAt.val 25 (.bool false) rfl (fun _ _ => rfl) rfl rfl (fun x wc hb hd => ?_) ?_
          · have h24 : x 24 = .bool false := hd 24 (by kernel_rfl)
            rw [h24]
            first | (go_simp; done) | (go_simp; rfl)
          refine StepsAt.valG 26 (.int IntKind.i64 ↑i) rfl (fun _ _ => rfl) rfl (fun x wc hd => ?_) (fun x wc hb hd => ?_) ?_
          · have hG : x 25 = .bool false := hd 25 (by kernel_rfl)
            simp [Region.wanted, yielded, hG]
          · first | (go_simp; done) | (go_simp; rfl)
          refine StepsAt.valG 27 (.bool false) rfl (fun _ _ => rfl) rfl (fun x wc hd => ?_) (fun x wc hb hd => ?_) ?_
          · have hG : x 25 = .bool false := hd 25 (by kernel_rfl)
            simp [Region.wanted, yielded, hG]
          · have h26 : x 26 = .int IntKind.i64 ↑i := hd 26 (by kernel_rfl)
            rw [h26]
            first | (go_simp; done) | (go_simp; rfl)
          refine StepsAt.valG 28 (.bool false) rfl (fun _ _ => rfl) rfl (fun x wc hd => ?_) (fun x wc hb hd => ?_) ?_
          · have hG : x 25 = .bool false := hd 25 (by kernel_rfl)
            simp [Region.wanted, yielded, hG]
          · have h27 : x 27 = .bool false := hd 27 (by kernel_rfl)
            rw [h27]
            first | (go_simp; done) | (go_simp; rfl)
          refine StepsAt.skip 29 rfl (fun _ _ => rfl) rfl (fun x wc hd => ?_) ?_
          · have hG : x 28 = .bool false := hd 28 (by kernel_rfl)
            simp [Region.wanted, yielded, hG]
          refine StepsAt.skip 30 rfl (fun _ _ => rfl) rfl (fun x wc hd => ?_) ?_
          · have hG : x 28 = .bool false := hd 28 (by kernel_rfl)
            simp [Region.wanted, yielded, hG]
          refine StepsAt.skip 31 rfl (fun _ _ => rfl) rfl (fun x wc hd => ?_) ?_
          · have hG : x 28 = .bool false := hd 28 (by kernel_rfl)
            simp [Region.wanted, yielded, hG]
          refine StepsAt.skip 32 rfl (fun _ _ => rfl) rfl (fun x wc hd => ?_) ?_
          · have hG : x 28 = .bool false := hd 28 (by kernel_rfl)
            simp [Region.wanted, yielded, hG]
          refine StepsAt.skip 33 rfl (fun _ _ => rfl) rfl (fun x wc hd => ?_) ?_
          · have hG : x 28 = .bool false := hd 28 (by kernel_rfl)
            simp [Region.wanted, yielded, hG]
          refine StepsAt.skip 34 rfl (fun _ _ => rfl) rfl (fun x wc hd => ?_) ?_
          · have hG : x 28 = .bool false := hd 28 (by kernel_rfl)
            simp [Region.wanted, yielded, hG]
          refine StepsAt.skip 35 rfl (fun _ _ => rfl) rfl (fun x wc hd => ?_) ?_
          · have hG : x 28 = .bool false := hd 28 (by kernel_rfl)
            simp [Region.wanted, yielded, hG]
          refine StepsAt.skip 36 rfl (fun _ _ => rfl) rfl (fun x wc hd => ?_) ?_
          · have hG : x 28 = .bool false := hd 28 (by kernel_rfl)
            simp [Region.wanted, yielded, hG]
          refine StepsAt.skip 37 rfl (fun _ _ => rfl) rfl (fun x wc hd => ?_) ?_
          · have hG : x 28 = .bool false := hd 28 (by kernel_rfl)
            simp [Region.wanted, yielded, hG]
          refine StepsAt.skip 38 rfl (fun _ _ => rfl) rfl (fun x wc hd => ?_) ?_
          · have hG : x 28 = .bool false := hd 28 (by kernel_rfl)
            simp [Region.wanted, yielded, hG]
          refine StepsAt.skip 39 rfl (fun _ _ => rfl) rfl (fun x wc hd => ?_) ?_
          · have hG : x 28 = .bool false := hd 28 (by kernel_rfl)
            simp [Region.wanted, yielded, hG]
          refine StepsAt.valG 40 (.bool false) rfl (fun _ _ => rfl) rfl (fun x wc hd => ?_) (fun x wc hb hd => ?_) ?_
          · have hG : x 25 = .bool false := hd 25 (by kernel_rfl)
            simp [Region.wanted, yielded, hG]
          · have h28 : x 28 = .bool false := hd 28 (by kernel_rfl)
            have h39 : x 39 = undef := hd 39 (by kernel_rfl)
            rw [h28, h39]
            first | (go_simp; done) | (go_simp; rfl)
          refine StepsAt.val 41 (.bool false) rfl (fun _ _ => rfl) rfl rfl (fun x wc hb hd => ?_) ?_
          · have h25 : x 25 = .bool false := hd 25 (by kernel_rfl)
            have h40 : x 40 = .bool false := hd 40 (by kernel_rfl)
            rw [h25, h40]
            first | (go_simp; done) | (go_simp; rfl)
          exact StepsAt.done
        case fin =>
          intro x wc hb hd
          have hx0 : x 0 = .pointer (some ⟨gX, 0, none⟩) := hd 0 (by omega)
          have hx1 : x 1 = txt pa := hd 1 (by omega)
          have hx2 : x 2 = .bool true := hd 2 (by omega)
          have hx3 : x 3 = .bool false := hd 3 (by omega)
          have hx4 : x 4 = .bool false := hd 4 (by omega)
          have hx5 : x 5 = .pointer (some ⟨gX, 1, none⟩) := hd 5 (by omega)
          have hx6 : x 6 = txt va := hd 6 (by omega)
          have hx7 : x 7 = .int .i64 (k : Int) := hd 7 (by omega)
          have hx8 : x 8 = .bool false := hd 8 (by omega)
          have hx9 : x 9 = .bool false := hd 9 (by omega)
          have hx10 : x 10 = .bool false := hd 10 (by omega)
          have hx11 : x 11 = .pointer (some ⟨gX, 2, none⟩) := hd 11 (by omega)
          have hx12 : x 12 = .int .i64 r := hd 12 (by omega)
          have hx13 : x 13 = .bool false := hd 13 (by omega)
          have hx14 : x 14 = .bool false := hd 14 (by omega)
          have hx15 : x 15 = .bool false := hd 15 (by omega)
          have hx16 : x 16 = .pointer (some ⟨gX, 2, none⟩) := hd 16 (by omega)
          have hx17 : x 17 = .int .i64 r := hd 17 (by omega)
          have hx18 : x 18 = .bool false := hd 18 (by omega)
          have hx19 : x 19 = .bool false := hd 19 (by omega)
          have hx20 : x 20 = .bool false := hd 20 (by omega)
          have hx21 : x 21 = .pointer (some ⟨gX, 3, none⟩) := hd 21 (by omega)
          have hx22 : x 22 = .int .i64 oo := hd 22 (by omega)
          have hx23 : x 23 = .bool false := hd 23 (by omega)
          have hx24 : x 24 = .bool false := hd 24 (by omega)
          have hx25 : x 25 = .bool false := hd 25 (by omega)
          have hx26 : x 26 = .int IntKind.i64 ↑i := hd 26 (by omega)
          have hx27 : x 27 = .bool false := hd 27 (by omega)
          have hx28 : x 28 = .bool false := hd 28 (by omega)
          have hx29 : x 29 = undef := hd 29 (by omega)
          have hx30 : x 30 = undef := hd 30 (by omega)
          have hx31 : x 31 = undef := hd 31 (by omega)
          have hx32 : x 32 = undef := hd 32 (by omega)
          have hx33 : x 33 = undef := hd 33 (by omega)
          have hx34 : x 34 = undef := hd 34 (by omega)
          have hx35 : x 35 = undef := hd 35 (by omega)
          have hx36 : x 36 = undef := hd 36 (by omega)
          have hx37 : x 37 = undef := hd 37 (by omega)
          have hx38 : x 38 = undef := hd 38 (by omega)
          have hx39 : x 39 = undef := hd 39 (by omega)
          have hx40 : x 40 = .bool false := hd 40 (by omega)
          have hx41 : x 41 = .bool false := hd 41 (by omega)
          refine AnyTill.any (S := fun _ => True) (m := 42) _ _ _ _ ?_
          refine AnyTill.done (by kernel_rfl) ?_
          refine NoPanic.normal ?_
          try dsimp only
          rw [hx0, hx1, hx2, hx3, hx4, hx5, hx6, hx7, hx8, hx9, hx10, hx11, hx12, hx13, hx14, hx15, hx16, hx17, hx18, hx19, hx20, hx21, hx22, hx23, hx24, hx25, hx26, hx27, hx28, hx29, hx30, hx31, hx32, hx33, hx34, hx35, hx36, hx37, hx38, hx39, hx40, hx41]
          have HWc := Lib.hid (HWb.out.trans (hb.mono hsb))
          have XC := Lib.hid (XB2.out.below hb XB2.out.lt)
          have XGc := Lib.hid (XG.out.below hb XG.out.lt)
          clear hx0 hx1 hx2 hx3 hx4 hx5 hx6 hx7 hx8 hx9 hx10 hx11 hx12 hx13 hx14 hx15 hx16 hx17 hx18 hx19 hx20 hx21 hx22 hx23 hx24 hx25 hx26 hx27 hx28 hx29 hx30 hx31 hx32 hx33 hx34 hx35 hx36 hx37 hx38 hx39 hx40 hx41 hd hb XB2 XG HWb x
          have d0 := XC.out.at_ 0 _ rfl
          go_wp2_with fail
          refine (rfParent_any pa wc).mono ?_
          rintro e wd ⟨rfl, hb⟩
          have XD := Lib.hid (XC.out.below hb XC.out.lt)
          have XGd := Lib.hid (XGc.out.below hb XGc.out.lt)
          have HWd := Lib.hid (HWc.out.trans (hb.mono HWc.out.size))
          have d3 := XD.out.at_ 3 _ rfl
          have ca := XGd.out.cell 0
          clear hb XC XGc HWc d0
          have HUPN : Hid (upN l nd = if parentE pa = 0 then hasN l (parentS pa) && decide (nO (nodeN l (parentS pa)) = 0) else decide (oo = 0)) := by
            show _ = _
            unfold upN
            rw [HPA.out, HOO.out]
          obtain ⟨up, hup⟩ : ∃ up, parentS pa = up := ⟨_, rfl⟩
          obtain ⟨pf, hpf⟩ : ∃ f, parentE pa = f := ⟨_, rfl⟩
          rw [hup, hpf] at HUPN
          rw [hup, hpf]
          clear hup hpf
          by_cases hf0 : pf = 0
          · subst hf0
            go_wp2_with fail
            refine (rfAt_any l up _ wd ((HR.out.below (HB.out.trans (HWd.out.mono hw1))).more (HB.out.trans (HWd.out.mono hw1)).size)).mono ?_
            rintro e we ⟨rfl, hb⟩
            have XGe := Lib.hid (XGd.out.below hb XGd.out.lt)
            have HWe := Lib.hid (HWd.out.trans (hb.mono HWd.out.size))
            clear hb ca d3 XD XGd HWd
            have ca := XGe.out.cell 0
            rcases atI_or l up with ⟨h1, h2, h3⟩ | ⟨h1, h2⟩
            · rw [h2]
              rw [HN.out] at h3
              obtain ⟨q, hq⟩ : ∃ q, placeN l up = q := ⟨_, rfl⟩
              rw [hq] at h3 ⊢
              have zq : (q : Int) < (n : Int) := by omega
              obtain ⟨a9, hA9, -, -, -, c3⟩ := (HR.out.below (HB.out.trans (HWe.out.mono hw1))).at_ q (by rw [HN.out]; exact h3)
              obtain rfl : a = a9 := Option.some.inj hA9
              have hnq : nodeN l up = l.getD q nd0 := by unfold nodeN; rw [hq]
              obtain ⟨y, hy⟩ : ∃ y, nO (l.getD q nd0) = y := ⟨_, rfl⟩
              rw [hy] at c3
              have HUV : Hid (upN l nd = decide (y = 0)) := by
                show _ = _
                rw [HUPN.out, h1, hnq, hy]; simp
              clear hA9 h1 h2 hq hnq hy
              by_cases hy0 : y = 0
              · have HA2 : Hid (∀ j, j < i + 1 → okN l j = true) := by
                  intro j hj
                  by_cases h : j < i
                  · exact HA.out j h
                  · have : j = i := by omega
                    subst this
                    rw [OKU.out, HUV.out]; simp [hy0]
                subst hy0
                go_wp2
                go_roundw
                case rel => exact ⟨i + 1, by omega, by go_num, HA2, HWe⟩
                case measure => simp [intOf]; omega
              · have hyb : (y != 0) = true := by rw [bne_iff_ne]; exact hy0
                have HF := Lib.hid (okN_not l i (by rw [HN.out]; exact hi2) (by rw [OKU.out, HUV.out]; simp [hy0]))
                clear hy0
                go_wp2
                go_ret
                exact ⟨by rw [HF.out]; rfl, HB.out.trans (HWe.out.mono hw1)⟩
            · rw [h2]
              have HF := Lib.hid (okN_not l i (by rw [HN.out]; exact hi2) (by rw [OKU.out, HUPN.out, h1]; simp))
              clear h1 h2
              go_wp2
              go_ret
              exact ⟨by rw [HF.out]; rfl, HB.out.trans (HWe.out.mono hw1)⟩
          · have hfb : ((pf : Int) != 0) = true := by
              rw [bne_iff_ne]
              omega
            have HUV : Hid (upN l nd = decide (oo = 0)) := by
              show _ = _
              rw [HUPN.out, if_neg hf0]
            clear hf0
            by_cases hy0 : oo = 0
            · have HA2 : Hid (∀ j, j < i + 1 → okN l j = true) := by
                intro j hj
                by_cases h : j < i
                · exact HA.out j h
                · have : j = i := by omega
                  subst this
                  rw [OKU.out, HUV.out]; simp [hy0]
              have hyb : (oo != 0) = false := by rw [hy0]; rfl
              clear hy0
              go_wp2
              go_roundw
              case rel => exact ⟨i + 1, by omega, by go_num, HA2, HWd⟩
              case measure => simp [intOf]; omega
            · have hyb : (oo != 0) = true := by rw [bne_iff_ne]; exact hy0
              have HF := Lib.hid (okN_not l i (by rw [HN.out]; exact hi2) (by rw [OKU.out, HUV.out]; simp [hy0]))
              clear hy0
              go_wp2
              go_ret
              exact ⟨by rw [HF.out]; rfl, HB.out.trans (HWd.out.mono hw1)⟩
      obtain ⟨j, hj⟩ : ∃ j, i = j + 1 := ⟨i - 1, by omega⟩
      have d27 : decide ((0 : Int) < (i : Int)) = true := decide_eq_true (by omega)
      have hi0 : 0 < i := by omega
      have zj : (j : Int) < (n : Int) := by omega
      have c5 : IntKind.i64.wrap ((i : Int) - 1) = (j : Int) := by rw [IntKind.wrap_i64]; omega
      obtain ⟨pj, hpj⟩ : ∃ p, nP (l.getD j nd0) = p := ⟨_, rfl⟩
      have HPJ := Lib.hid hpj
      have OK3 : Hid (okN l i = (aheadB pj pa && upN l nd)) := by
        show _ = _
        rw [OK2.out, hj, Nat.add_sub_cancel, hpj]; simp
      clear OK2 hpj h27
      have HJ := Lib.hid hj
      clear hj
      cases hab : aheadB pj pa
      · have HAB := Lib.hid hab
        have HF := Lib.hid (okN_not l i (by rw [HN.out]; exact hi2) (by rw [OK3.out, hab]; rfl))
        clear hab
        refine wp_region_rely2 42 0 (fun x => ⟨#[.agg #[Value.slice (some a) n cp], .pointer (some { block := g0, off := 0 }), u2, .int IntKind.i64 ↑i, .pointer (some { block := gX, off := 0 }), u5, u6, u7, .pointer (some { block := g0, off := 0 }), .slice (some a) n cp, .int IntKind.i64 ↑n, .bool false, .bool false, .pointer (some { block := g0, off := 0 }), .slice (some a) n cp, .int IntKind.i64 ↑n, .bool false, .bool false, .int IntKind.i64 ↑i, .pointer (some { block := g0, off := 0 }), .slice (some a) n cp, .int IntKind.i64 ↑n, .bool true, u23, u24, .pointer (some { block := g0, off := 0 }), .slice (some a) n cp, .int IntKind.i64 ↑i, .pointer (some (a.add (i * 4))), .agg #[txt (nP nd), txt (nV nd), Value.int IntKind.i64 (nR nd), Value.int IntKind.i64 (nO nd)], x 0, x 1, x 2, x 3, x 4, x 5, x 6, x 7, x 8, x 9, x 10, x 11, x 12, x 13, x 14, x 15, x 16, x 17, x 18, x 19, x 20, x 21, x 22, x 23, x 24, x 25, x 26, x 27, x 28, x 29, x 30, x 31, x 32, x 33, x 34, x 35, x 36, x 37, x 38, x 39, x 40, x 41, u72, u73, u74, u75, u76, u77, u78, u79, u80, u81, u82, u83, u84, u85, u86, u87, u88, u89, u90, u91, u92, u93, u94, u95, u96, undef, undef, undef], []⟩) (fun jj => ([eqV (.pointer (some ⟨gX, 0, none⟩)), eqV (txt pa), (eqV (.bool true)), eqV (.bool false), eqV (.bool false), eqV (.pointer (some ⟨gX, 1, none⟩)), eqV (txt va), eqV (.int .i64 (k : Int)), eqV (.bool false), eqV (.bool false), eqV (.bool false), eqV (.pointer (some ⟨gX, 2, none⟩)), eqV (.int .i64 r), eqV (.bool false), eqV (.bool false), eqV (.bool false), eqV (.pointer (some ⟨gX, 2, none⟩)), eqV (.int .i64 r), eqV (.bool false), eqV (.bool false), eqV (.bool false), eqV (.pointer (some ⟨gX, 3, none⟩)), eqV (.int .i64 oo), eqV (.bool false), eqV (.bool false), eqV (.bool false), eqV (.int IntKind.i64 ↑i), eqV (.bool true), eqV (.bool true), eqV (.pointer (some ⟨g0, 0, none⟩)), eqV (.slice (some a) n cp), eqV (.int IntKind.i64 ↑i), eqV (.int .i64 (j : Int)), eqV (.pointer (some (a.add (j * 4)))), eqV (.pointer (some (a.add (j * 4)))), eqV (txt pj), eqV (.pointer (some ⟨gX, 0, none⟩)), eqV (txt pa), (eqV (.bool false)), eqV (.bool true), eqV (.bool true), eqV (.bool true)] : List (Value → World → Prop)).getD jj (fun _ _ => True)) rfl ⟨fun kk => [_, _, _, _, _, _, _, _, _, _, _, _, _, _, _, _, _, _, _, _, _, _, _, _, _, _, _, _, _, _, _, _, _, _, _, _, _, _, _, _, _, _].getD kk undef, rfl⟩ (by kernel_rfl) (by kernel_rfl) ?steps ?fin
        case steps =>
          refine StepsAt.val 0 (.pointer (some ⟨gX, 0, none⟩)) rfl (fun _ _ => rfl) rfl rfl (fun x wc hb hd => ?_) ?_
          · first | (go_simp; done) | (go_simp; rfl)
          refine StepsAt.val 1 (txt pa) rfl (fun _ _ => rfl) rfl rfl (fun x wc hb hd => ?_) ?_
          · have h0 : x 0 = .pointer (some ⟨gX, 0, none⟩) := hd 0 (by kernel_rfl)
            have cc := ((XB2.out.below hb XB2.out.lt).cell 0).trans (show _ = some (txt pa) from rfl)
            rw [h0]
            first | (go_simp; done) | (go_simp; rfl)
          refine StepsAt.cons 2 (fun _ _ _ h hb => h) (fun _ _ => rfl) rfl rfl (fun x wc hb hd K hK => ?_) ?_
          · have h1 : Hid (x 1 = txt pa) := hd 1 (by kernel_rfl)
            go_simp
            refine calls_args (args2 := #[txt pa]) (by rw [h1.out]) ?_
            refine (rightIs pa true HRB.out _).mono ?_
            rintro e w99 ⟨rfl, hb99⟩
            exact hK.out _ _ hb99 rfl
          refine StepsAt.val 3 (.bool false) rfl (fun _ _ => rfl) rfl rfl (fun x wc hb hd => ?_) ?_
          · have h2 : x 2 = .bool true := hd 2 (by kernel_rfl)
            rw [h2]
            first | (go_simp; done) | (go_simp; rfl)
          refine StepsAt.val 4 (.bool false) rfl (fun _ _ => rfl) rfl rfl (fun x wc hb hd => ?_) ?_
          · have h3 : x 3 = .bool false := hd 3 (by kernel_rfl)
            rw [h3]
            first | (go_simp; done) | (go_simp; rfl)
          refine StepsAt.valG 5 (.pointer (some ⟨gX, 1, none⟩)) rfl (fun _ _ => rfl) rfl (fun x wc hd => ?_) (fun x wc hb hd => ?_) ?_
          · have hG : x 4 = .bool false := hd 4 (by kernel_rfl)
            simp [Region.wanted, yielded, hG]
          · first | (go_simp; done) | (go_simp; rfl)
          refine StepsAt.valG 6 (txt va) rfl (fun _ _ => rfl) rfl (fun x wc hd => ?_) (fun x wc hb hd => ?_) ?_
          · have hG : x 4 = .bool false := hd 4 (by kernel_rfl)
            simp [Region.wanted, yielded, hG]
          · have h5 : x 5 = .pointer (some ⟨gX, 1, none⟩) := hd 5 (by kernel_rfl)
            have cc := ((XB2.out.below hb XB2.out.lt).cell 1).trans (show _ = some (txt va) from rfl)
            rw [h5]
            first | (go_simp; done) | (go_simp; rfl)
          refine StepsAt.valG 7 (.int .i64 (k : Int)) rfl (fun _ _ => rfl) rfl (fun x wc hd => ?_) (fun x wc hb hd => ?_) ?_
          · have hG : x 4 = .bool false := hd 4 (by kernel_rfl)
            simp [Region.wanted, yielded, hG]
          · have h6 : x 6 = txt va := hd 6 (by kernel_rfl)
            rw [h6]
            first | (go_simp; done) | (go_simp; rfl)
          refine StepsAt.valG 8 (.bool false) rfl (fun _ _ => rfl) rfl (fun x wc hd => ?_) (fun x wc hb hd => ?_) ?_
          · have hG : x 4 = .bool false := hd 4 (by kernel_rfl)
            simp [Region.wanted, yielded, hG]
          · have h7 : x 7 = .int .i64 (k : Int) := hd 7 (by kernel_rfl)
            rw [h7]
            first | (go_simp; done) | (go_simp; rfl)
          refine StepsAt.val 9 (.bool false) rfl (fun _ _ => rfl) rfl rfl (fun x wc hb hd => ?_) ?_
          · have h4 : x 4 = .bool false := hd 4 (by kernel_rfl)
            have h8 : x 8 = .bool false := hd 8 (by kernel_rfl)
            rw [h4, h8]
            first | (go_simp; done) | (go_simp; rfl)
          refine StepsAt.val 10 (.bool false) rfl (fun _ _ => rfl) rfl rfl (fun x wc hb hd => ?_) ?_
          · have h9 : x 9 = .bool false := hd 9 (by kernel_rfl)
            rw [h9]
            first | (go_simp; done) | (go_simp; rfl)
          refine StepsAt.valG 11 (.pointer (some ⟨gX, 2, none⟩)) rfl (fun _ _ => rfl) rfl (fun x wc hd => ?_) (fun x wc hb hd => ?_) ?_
          · have hG : x 10 = .bool false := hd 10 (by kernel_rfl)
            simp [Region.wanted, yielded, hG]
          · first | (go_simp; done) | (go_simp; rfl)
          refine StepsAt.valG 12 (.int .i64 r) rfl (fun _ _ => rfl) rfl (fun x wc hd => ?_) (fun x wc hb hd => ?_) ?_
          · have hG : x 10 = .bool false := hd 10 (by kernel_rfl)
            simp [Region.wanted, yielded, hG]
          · have h11 : x 11 = .pointer (some ⟨gX, 2, none⟩) := hd 11 (by kernel_rfl)
            have cc := ((XB2.out.below hb XB2.out.lt).cell 2).trans (show _ = some (.int .i64 r) from rfl)
            rw [h11]
            first | (go_simp; done) | (go_simp; rfl)
          refine StepsAt.valG 13 (.bool false) rfl (fun _ _ => rfl) rfl (fun x wc hd => ?_) (fun x wc hb hd => ?_) ?_
          · have hG : x 10 = .bool false := hd 10 (by kernel_rfl)
            simp [Region.wanted, yielded, hG]
          · have h12 : x 12 = .int .i64 r := hd 12 (by kernel_rfl)
            rw [h12]
            first | (go_simp; done) | (go_simp; rfl)
          refine StepsAt.val 14 (.bool false) rfl (fun _ _ => rfl) rfl rfl (fun x wc hb hd => ?_) ?_
          · have h10 : x 10 = .bool false := hd 10 (by kernel_rfl)
            have h13 : x 13 = .bool false := hd 13 (by kernel_rfl)
            rw [h10, h13]
            first | (go_simp; done) | (go_simp; rfl)
          refine StepsAt.val 15 (.bool false) rfl (fun _ _ => rfl) rfl rfl (fun x wc hb hd => ?_) ?_
          · have h14 : x 14 = .bool false := hd 14 (by kernel_rfl)
            rw [h14]
            first | (go_simp; done) | (go_simp; rfl)
          refine StepsAt.valG 16 (.pointer (some ⟨gX, 2, none⟩)) rfl (fun _ _ => rfl) rfl (fun x wc hd => ?_) (fun x wc hb hd => ?_) ?_
          · have hG : x 15 = .bool false := hd 15 (by kernel_rfl)
            simp [Region.wanted, yielded, hG]
          · first | (go_simp; done) | (go_simp; rfl)
          refine StepsAt.valG 17 (.int .i64 r) rfl (fun _ _ => rfl) rfl (fun x wc hd => ?_) (fun x wc hb hd => ?_) ?_
          · have hG : x 15 = .bool false := hd 15 (by kernel_rfl)
            simp [Region.wanted, yielded, hG]
          · have h16 : x 16 = .pointer (some ⟨gX, 2, none⟩) := hd 16 (by kernel_rfl)
            have cc := ((XB2.out.below hb XB2.out.lt).cell 2).trans (show _ = some (.int .i64 r) from rfl)
            rw [h16]
            first | (go_simp; done) | (go_simp; rfl)
          refine StepsAt.valG 18 (.bool false) rfl (fun _ _ => rfl) rfl (fun x wc hd => ?_) (fun x wc hb hd => ?_) ?_
          · have hG : x 15 = .bool false := hd 15 (by kernel_rfl)
            simp [Region.wanted, yielded, hG]
          · have h17 : x 17 = .int .i64 r := hd 17 (by kernel_rfl)
            rw [h17]
            first | (go_simp; done) | (go_simp; rfl)
          refine StepsAt.val 19 (.bool false) rfl (fun _ _ => rfl) rfl rfl (fun x wc hb hd => ?_) ?_
          · have h15 : x 15 = .bool false := hd 15 (by kernel_rfl)
            have h18 : x 18 = .bool false := hd 18 (by kernel_rfl)
            rw [h15, h18]
            first | (go_simp; done) | (go_simp; rfl)
          refine StepsAt.val 20 (.bool false) rfl (fun _ _ => rfl) rfl rfl (fun x wc hb hd => ?_) ?_
          · have h19 : x 19 = .bool false := hd 19 (by kernel_rfl)
            rw [h19]
            first | (go_simp; done) | (go_simp; rfl)
          refine StepsAt.valG 21 (.pointer (some ⟨gX, 3, none⟩)) rfl (fun _ _ => rfl) rfl (fun x wc hd => ?_) (fun x wc hb hd => ?_) ?_
          · have hG : x 20 = .bool false := hd 20 (by kernel_rfl)
            simp [Region.wanted, yielded, hG]
          · first | (go_simp; done) | (go_simp; rfl)
          refine StepsAt.valG 22 (.int .i64 oo) rfl (fun _ _ => rfl) rfl (fun x wc hd => ?_) (fun x wc hb hd => ?_) ?_
          · have hG : x 20 = .bool false := hd 20 (by kernel_rfl)
            simp [Region.wanted, yielded, hG]
          · have h21 : x 21 = .pointer (some ⟨gX, 3, none⟩) := hd 21 (by kernel_rfl)
            have cc := ((XB2.out.below hb XB2.out.lt).cell 3).trans (show _ = some (.int .i64 oo) from rfl)
            rw [h21]
            first | (go_simp; done) | (go_simp; rfl)
          refine StepsAt.valG 23 (.bool false) rfl (fun _ _ => rfl) rfl (fun x wc hd => ?_) (fun x wc hb hd => ?_) ?_
          · have hG : x 20 = .bool false := hd 20 (by kernel_rfl)
            simp [Region.wanted, yielded, hG]
          · have h22 : x 22 = .int .i64 oo := hd 22 (by kernel_rfl)
            rw [h22]
            first | (go_simp; done) | (go_simp; rfl)
          refine StepsAt.val 24 (.bool false) rfl (fun _ _ => rfl) rfl rfl (fun x wc hb hd => ?_) ?_
          · have h20 : x 20 = .bool false := hd 20 (by kernel_rfl)
            have h23 : x 23 = .bool false := hd 23 (by kernel_rfl)
            rw [h20, h23]
            first | (go_simp; done) | (go_simp; rfl)
          refine StepsAt.val 25 (.bool false) rfl (fun _ _ => rfl) rfl rfl (fun x wc hb hd => ?_) ?_
          · have h24 : x 24 = .bool false := hd 24 (by kernel_rfl)
            rw [h24]
            first | (go_simp; done) | (go_simp; rfl)
          refine StepsAt.valG 26 (.int IntKind.i64 ↑i) rfl (fun _ _ => rfl) rfl (fun x wc hd => ?_) (fun x wc hb hd => ?_) ?_
          · have hG : x 25 = .bool false := hd 25 (by kernel_rfl)
            simp [Region.wanted, yielded, hG]
          · first | (go_simp; done) | (go_simp; rfl)
          refine StepsAt.valG 27 (.bool true) rfl (fun _ _ => rfl) rfl (fun x wc hd => ?_) (fun x wc hb hd => ?_) ?_
          · have hG : x 25 = .bool false := hd 25 (by kernel_rfl)
            simp [Region.wanted, yielded, hG]
          · have h26 : x 26 = .int IntKind.i64 ↑i := hd 26 (by kernel_rfl)
            rw [h26]
            first | (go_simp; done) | (go_simp; rfl)
          refine StepsAt.valG 28 (.bool true) rfl (fun _ _ => rfl) rfl (fun x wc hd => ?_) (fun x wc hb hd => ?_) ?_
          · have hG : x 25 = .bool false := hd 25 (by kernel_rfl)
            simp [Region.wanted, yielded, hG]
          · have h27 : x 27 = .bool true := hd 27 (by kernel_rfl)
            rw [h27]
            first | (go_simp; done) | (go_simp; rfl)
          refine StepsAt.valG 29 (.pointer (some ⟨g0, 0, none⟩)) rfl (fun _ _ => rfl) rfl (fun x wc hd => ?_) (fun x wc hb hd => ?_) ?_
          · have hG : x 28 = .bool true := hd 28 (by kernel_rfl)
            simp [Region.wanted, yielded, hG]
          · first | (go_simp; done) | (go_simp; rfl)
          refine StepsAt.valG 30 (.slice (some a) n cp) rfl (fun _ _ => rfl) rfl (fun x wc hd => ?_) (fun x wc hb hd => ?_) ?_
          · have hG : x 28 = .bool true := hd 28 (by kernel_rfl)
            simp [Region.wanted, yielded, hG]
          · have h29 : x 29 = .pointer (some ⟨g0, 0, none⟩) := hd 29 (by kernel_rfl)
            have cc := ((XG.out.below hb XG.out.lt).cell 0).trans (show _ = some (.slice (some a) n cp) from rfl)
            rw [h29]
            first | (go_simp; done) | (go_simp; rfl)
          refine StepsAt.valG 31 (.int IntKind.i64 ↑i) rfl (fun _ _ => rfl) rfl (fun x wc hd => ?_) (fun x wc hb hd => ?_) ?_
          · have hG : x 28 = .bool true := hd 28 (by kernel_rfl)
            simp [Region.wanted, yielded, hG]
          · first | (go_simp; done) | (go_simp; rfl)
          refine StepsAt.valG 32 (.int .i64 (j : Int)) rfl (fun _ _ => rfl) rfl (fun x wc hd => ?_) (fun x wc hb hd => ?_) ?_
          · have hG : x 28 = .bool true := hd 28 (by kernel_rfl)
            simp [Region.wanted, yielded, hG]
          · have h31 : x 31 = .int IntKind.i64 ↑i := hd 31 (by kernel_rfl)
            rw [h31]
            first | (go_simp; done) | (go_simp; rfl)
          refine StepsAt.valG 33 (.pointer (some (a.add (j * 4)))) rfl (fun _ _ => rfl) rfl (fun x wc hd => ?_) (fun x wc hb hd => ?_) ?_
          · have hG : x 28 = .bool true := hd 28 (by kernel_rfl)
            simp [Region.wanted, yielded, hG]
          · have h30 : x 30 = .slice (some a) n cp := hd 30 (by kernel_rfl)
            have h32 : x 32 = .int .i64 (j : Int) := hd 32 (by kernel_rfl)
            rw [h30, h32]
            first | (go_simp; done) | (go_simp; rfl)
          refine StepsAt.valG 34 (.pointer (some (a.add (j * 4)))) rfl (fun _ _ => rfl) rfl (fun x wc hd => ?_) (fun x wc hb hd => ?_) ?_
          · have hG : x 28 = .bool true := hd 28 (by kernel_rfl)
            simp [Region.wanted, yielded, hG]
          · have h33 : x 33 = .pointer (some (a.add (j * 4))) := hd 33 (by kernel_rfl)
            rw [h33]
            first | (go_simp; done) | (go_simp; rfl)
          refine StepsAt.valG 35 (txt pj) rfl (fun _ _ => rfl) rfl (fun x wc hd => ?_) (fun x wc hb hd => ?_) ?_
          · have hG : x 28 = .bool true := hd 28 (by kernel_rfl)
            simp [Region.wanted, yielded, hG]
          · have h34 : x 34 = .pointer (some (a.add (j * 4))) := hd 34 (by kernel_rfl)
            obtain ⟨a9, hA9, cc, -⟩ := (HR.out.below (HB.out.trans ((HWb.out.trans (hb.mono hsb)).mono hw1))).at_ j (by rw [HN.out]; omega)
            obtain rfl : a = a9 := Option.some.inj hA9
            rw [HPJ.out] at cc
            rw [h34]
            first | (go_simp; done) | (go_simp; rfl)
          refine StepsAt.valG 36 (.pointer (some ⟨gX, 0, none⟩)) rfl (fun _ _ => rfl) rfl (fun x wc hd => ?_) (fun x wc hb hd => ?_) ?_
          · have hG : x 28 = .bool true := hd 28 (by kernel_rfl)
            simp [Region.wanted, yielded, hG]
          · first | (go_simp; done) | (go_simp; rfl)
          refine StepsAt.valG 37 (txt pa) rfl (fun _ _ => rfl) rfl (fun x wc hd => ?_) (fun x wc hb hd => ?_) ?_
          · have hG : x 28 = .bool true := hd 28 (by kernel_rfl)
            simp [Region.wanted, yielded, hG]
          · have h36 : x 36 = .pointer (some ⟨gX, 0, none⟩) := hd 36 (by kernel_rfl)
            have cc := ((XB2.out.below hb XB2.out.lt).cell 0).trans (show _ = some (txt pa) from rfl)
            rw [h36]
            first | (go_simp; done) | (go_simp; rfl)
          refine StepsAt.consG 38 (fun _ _ _ h hb => h) (fun _ _ => rfl) rfl (fun x wc hd => ?_) (fun x wc hb hd K hK => ?_) ?_
          · have hG : x 28 = .bool true := hd 28 (by kernel_rfl)
            simp [Region.wanted, yielded, hG]
          · have h35 : Hid (x 35 = txt pj) := hd 35 (by kernel_rfl)
            have h37 : Hid (x 37 = txt pa) := hd 37 (by kernel_rfl)
            go_simp
            refine calls_args (args2 := #[txt pj, txt pa]) (by rw [h35.out, h37.out]) ?_
            refine (aheadIs pj pa false HAB.out _).mono ?_
            rintro e w99 ⟨rfl, hb99⟩
            exact hK.out _ _ hb99 rfl
          refine StepsAt.valG 39 (.bool true) rfl (fun _ _ => rfl) rfl (fun x wc hd => ?_) (fun x wc hb hd => ?_) ?_
          · have hG : x 28 = .bool true := hd 28 (by kernel_rfl)
            simp [Region.wanted, yielded, hG]
          · have h38 : x 38 = .bool false := hd 38 (by kernel_rfl)
            rw [h38]
            first | (go_simp; done) | (go_simp; rfl)
          refine StepsAt.valG 40 (.bool true) rfl (fun _ _ => rfl) rfl (fun x wc hd => ?_) (fun x wc hb hd => ?_) ?_
          · have hG : x 25 = .bool false := hd 25 (by kernel_rfl)
            simp [Region.wanted, yielded, hG]
          · have h28 : x 28 = .bool true := hd 28 (by kernel_rfl)
            have h39 : x 39 = .bool true := hd 39 (by kernel_rfl)
            rw [h28, h39]
            first | (go_simp; done) | (go_simp; rfl)
          refine StepsAt.val 41 (.bool true) rfl (fun _ _ => rfl) rfl rfl (fun x wc hb hd => ?_) ?_
          · have h25 : x 25 = .bool false := hd 25 (by kernel_rfl)
            have h40 : x 40 = .bool true := hd 40 (by kernel_rfl)
            rw [h25, h40]
            first | (go_simp; done) | (go_simp; rfl)
          exact StepsAt.done
        case fin =>
          intro x wc hb hd
          have hx0 : x 0 = .pointer (some ⟨gX, 0, none⟩) := hd 0 (by omega)
          have hx1 : x 1 = txt pa := hd 1 (by omega)
          have hx2 : x 2 = .bool true := hd 2 (by omega)
          have hx3 : x 3 = .bool false := hd 3 (by omega)
          have hx4 : x 4 = .bool false := hd 4 (by omega)
          have hx5 : x 5 = .pointer (some ⟨gX, 1, none⟩) := hd 5 (by omega)
          have hx6 : x 6 = txt va := hd 6 (by omega)
          have hx7 : x 7 = .int .i64 (k : Int) := hd 7 (by omega)
          have hx8 : x 8 = .bool false := hd 8 (by omega)
          have hx9 : x 9 = .bool false := hd 9 (by omega)
          have hx10 : x 10 = .bool false := hd 10 (by omega)
          have hx11 : x 11 = .pointer (some ⟨gX, 2, none⟩) := hd 11 (by omega)
          have hx12 : x 12 = .int .i64 r := hd 12 (by omega)
          have hx13 : x 13 = .bool false := hd 13 (by omega)
          have hx14 : x 14 = .bool false := hd 14 (by omega)
          have hx15 : x 15 = .bool false := hd 15 (by omega)
          have hx16 : x 16 = .pointer (some ⟨gX, 2, none⟩) := hd 16 (by omega)
          have hx17 : x 17 = .int .i64 r := hd 17 (by omega)
          have hx18 : x 18 = .bool false := hd 18 (by omega)
          have hx19 : x 19 = .bool false := hd 19 (by omega)
          have hx20 : x 20 = .bool false := hd 20 (by omega)
          have hx21 : x 21 = .pointer (some ⟨gX, 3, none⟩) := hd 21 (by omega)
          have hx22 : x 22 = .int .i64 oo := hd 22 (by omega)
          have hx23 : x 23 = .bool false := hd 23 (by omega)
          have hx24 : x 24 = .bool false := hd 24 (by omega)
          have hx25 : x 25 = .bool false := hd 25 (by omega)
          have hx26 : x 26 = .int IntKind.i64 ↑i := hd 26 (by omega)
          have hx27 : x 27 = .bool true := hd 27 (by omega)
          have hx28 : x 28 = .bool true := hd 28 (by omega)
          have hx29 : x 29 = .pointer (some ⟨g0, 0, none⟩) := hd 29 (by omega)
          have hx30 : x 30 = .slice (some a) n cp := hd 30 (by omega)
          have hx31 : x 31 = .int IntKind.i64 ↑i := hd 31 (by omega)
          have hx32 : x 32 = .int .i64 (j : Int) := hd 32 (by omega)
          have hx33 : x 33 = .pointer (some (a.add (j * 4))) := hd 33 (by omega)
          have hx34 : x 34 = .pointer (some (a.add (j * 4))) := hd 34 (by omega)
          have hx35 : x 35 = txt pj := hd 35 (by omega)
          have hx36 : x 36 = .pointer (some ⟨gX, 0, none⟩) := hd 36 (by omega)
          have hx37 : x 37 = txt pa := hd 37 (by omega)
          have hx38 : x 38 = .bool false := hd 38 (by omega)
          have hx39 : x 39 = .bool true := hd 39 (by omega)
          have hx40 : x 40 = .bool true := hd 40 (by omega)
          have hx41 : x 41 = .bool true := hd 41 (by omega)
          refine AnyTill.any (S := fun _ => True) (m := 42) _ _ _ _ ?_
          refine AnyTill.done (by kernel_rfl) ?_
          refine NoPanic.normal ?_
          try dsimp only
          rw [hx0, hx1, hx2, hx3, hx4, hx5, hx6, hx7, hx8, hx9, hx10, hx11, hx12, hx13, hx14, hx15, hx16, hx17, hx18, hx19, hx20, hx21, hx22, hx23, hx24, hx25, hx26, hx27, hx28, hx29, hx30, hx31, hx32, hx33, hx34, hx35, hx36, hx37, hx38, hx39, hx40, hx41]
          have HWc := Lib.hid (HWb.out.trans (hb.mono hsb))
          have XC := Lib.hid (XB2.out.below hb XB2.out.lt)
          have XGc := Lib.hid (XG.out.below hb XG.out.lt)
          clear hx0 hx1 hx2 hx3 hx4 hx5 hx6 hx7 hx8 hx9 hx10 hx11 hx12 hx13 hx14 hx15 hx16 hx17 hx18 hx19 hx20 hx21 hx22 hx23 hx24 hx25 hx26 hx27 hx28 hx29 hx30 hx31 hx32 hx33 hx34 hx35 hx36 hx37 hx38 hx39 hx40 hx41 hd hb XB2 XG HWb x
          go_wp2
          go_ret
          exact ⟨by rw [HF.out]; rfl, HB.out.trans (HWc.out.mono hw1)⟩
      have HAB := Lib.hid hab
      have OKU : Hid (okN l i = upN l nd) := by
        show _ = _
        rw [OK3.out, hab]; rfl
      clear hab OK3
      refine wp_region_rely2 42 0 (fun x => ⟨#[.agg #[Value.slice (some a) n cp], .pointer (some { block := g0, off := 0 }), u2, .int IntKind.i64 ↑i, .pointer (some { block := gX, off := 0 }), u5, u6, u7, .pointer (some { block := g0, off := 0 }), .slice (some a) n cp, .int IntKind.i64 ↑n, .bool false, .bool false, .pointer (some { block := g0, off := 0 }), .slice (some a) n cp, .int IntKind.i64 ↑n, .bool false, .bool false, .int IntKind.i64 ↑i, .pointer (some { block := g0, off := 0 }), .slice (some a) n cp, .int IntKind.i64 ↑n, .bool true, u23, u24, .pointer (some { block := g0, off := 0 }), .slice (some a) n cp, .int IntKind.i64 ↑i, .pointer (some (a.add (i * 4))), .agg #[txt (nP nd), txt (nV nd), Value.int IntKind.i64 (nR nd), Value.int IntKind.i64 (nO nd)], x 0, x 1, x 2, x 3, x 4, x 5, x 6, x 7, x 8, x 9, x 10, x 11, x 12, x 13, x 14, x 15, x 16, x 17, x 18, x 19, x 20, x 21, x 22, x 23, x 24, x 25, x 26, x 27, x 28, x 29, x 30, x 31, x 32, x 33, x 34, x 35, x 36, x 37, x 38, x 39, x 40, x 41, u72, u73, u74, u75, u76, u77, u78, u79, u80, u81, u82, u83, u84, u85, u86, u87, u88, u89, u90, u91, u92, u93, u94, u95, u96, undef, undef, undef], []⟩) (fun jj => ([eqV (.pointer (some ⟨gX, 0, none⟩)), eqV (txt pa), (eqV (.bool true)), eqV (.bool false), eqV (.bool false), eqV (.pointer (some ⟨gX, 1, none⟩)), eqV (txt va), eqV (.int .i64 (k : Int)), eqV (.bool false), eqV (.bool false), eqV (.bool false), eqV (.pointer (some ⟨gX, 2, none⟩)), eqV (.int .i64 r), eqV (.bool false), eqV (.bool false), eqV (.bool false), eqV (.pointer (some ⟨gX, 2, none⟩)), eqV (.int .i64 r), eqV (.bool false), eqV (.bool false), eqV (.bool false), eqV (.pointer (some ⟨gX, 3, none⟩)), eqV (.int .i64 oo), eqV (.bool false), eqV (.bool false), eqV (.bool false), eqV (.int IntKind.i64 ↑i), eqV (.bool true), eqV (.bool true), eqV (.pointer (some ⟨g0, 0, none⟩)), eqV (.slice (some a) n cp), eqV (.int IntKind.i64 ↑i), eqV (.int .i64 (j : Int)), eqV (.pointer (some (a.add (j * 4)))), eqV (.pointer (some (a.add (j * 4)))), eqV (txt pj), eqV (.pointer (some ⟨gX, 0, none⟩)), eqV (txt pa), (eqV (.bool true)), eqV (.bool false), eqV (.bool false), eqV (.bool false)] : List (Value → World → Prop)).getD jj (fun _ _ => True)) rfl ⟨fun kk => [_, _, _, _, _, _, _, _, _, _, _, _, _, _, _, _, _, _, _, _, _, _, _, _, _, _, _, _, _, _, _, _, _, _, _, _, _, _, _, _, _, _].getD kk undef, rfl⟩ (by kernel_rfl) (by kernel_rfl) ?steps ?fin
      case steps =>
        refine StepsAt.val 0 (.pointer (some ⟨gX, 0, none⟩)) rfl (fun _ _ => rfl) rfl rfl (fun x wc hb hd => ?_) ?_
        · first | (go_simp; done) | (go_simp; rfl)
        refine StepsAt.val 1 (txt pa) rfl (fun _ _ => rfl) rfl rfl (fun x wc hb hd => ?_) ?_
        · have h0 : x 0 = .pointer (some ⟨gX, 0, none⟩) := hd 0 (by kernel_rfl)
          have cc := ((XB2.out.below hb XB2.out.lt).cell 0).trans (show _ = some (txt pa) from rfl)
          rw [h0]
          first | (go_simp; done) | (go_simp; rfl)
        refine StepsAt.cons 2 (fun _ _ _ h hb => h) (fun _ _ => rfl) rfl rfl (fun x wc hb hd K hK => ?_) ?_
        · have h1 : Hid (x 1 = txt pa) := hd 1 (by kernel_rfl)
          go_simp
          refine calls_args (args2 := #[txt pa]) (by rw [h1.out]) ?_
          refine (rightIs pa true HRB.out _).mono ?_
          rintro e w99 ⟨rfl, hb99⟩
          exact hK.out _ _ hb99 rfl
        refine StepsAt.val 3 (.bool false) rfl (fun _ _ => rfl) rfl rfl (fun x wc hb hd => ?_) ?_
        · have h2 : x 2 = .bool true := hd 2 (by kernel_rfl)
          rw [h2]
          first | (go_simp; done) | (go_simp; rfl)
        refine StepsAt.val 4 (.bool false) rfl (fun _ _ => rfl) rfl rfl (fun x wc hb hd => ?_) ?_
        · have h3 : x 3 = .bool false := hd 3 (by kernel_rfl)
          rw [h3]
          first | (go_simp; done) | (go_simp; rfl)
        refine StepsAt.valG 5 (.pointer (some ⟨gX, 1, none⟩)) rfl (fun _ _ => rfl) rfl (fun x wc hd => ?_) (fun x wc hb hd => ?_) ?_
        · have hG : x 4 = .bool false := hd 4 (by kernel_rfl)
          simp [Region.wanted, yielded, hG]
        · first | (go_simp; done) | (go_simp; rfl)
        refine StepsAt.valG 6 (txt va) rfl (fun _ _ => rfl) rfl (fun x wc hd => ?_) (fun x wc hb hd => ?_) ?_
        · have hG : x 4 = .bool false := hd 4 (by kernel_rfl)
          simp [Region.wanted, yielded, hG]
        · have h5 : x 5 = .pointer (some ⟨gX, 1, none⟩) := hd 5 (by kernel_rfl)
          have cc := ((XB2.out.below hb XB2.out.lt).cell 1).trans (show _ = some (txt va) from rfl)
          rw [h5]
          first | (go_simp; done) | (go_simp; rfl)
        refine StepsAt.valG 7 (.int .i64 (k : Int)) rfl (fun _ _ => rfl) rfl (fun x wc hd => ?_) (fun x wc hb hd => ?_) ?_
        · have hG : x 4 = .bool false := hd 4 (by kernel_rfl)
          simp [Region.wanted, yielded, hG]
        · have h6 : x 6 = txt va := hd 6 (by kernel_rfl)
          rw [h6]
          first | (go_simp; done) | (go_simp; rfl)
        refine StepsAt.valG 8 (.bool false) rfl (fun _ _ => rfl) rfl (fun x wc hd => ?_) (fun x wc hb hd => ?_) ?_
        · have hG : x 4 = .bool false := hd 4 (by kernel_rfl)
          simp [Region.wanted, yielded, hG]
        · have h7 : x 7 = .int .i64 (k : Int) := hd 7 (by kernel_rfl)
          rw [h7]
          first | (go_simp; done) | (go_simp; rfl)
        refine StepsAt.val 9 (.bool false) rfl (fun _ _ => rfl) rfl rfl (fun x wc hb hd => ?_) ?_
        · have h4 : x 4 = .bool false := hd 4 (by kernel_rfl)
          have h8 : x 8 = .bool false := hd 8 (by kernel_rfl)
          rw [h4, h8]
          first | (go_simp; done) | (go_simp; rfl)
        refine StepsAt.val 10 (.bool false) rfl (fun _ _ => rfl) rfl rfl (fun x wc hb hd => ?_) ?_
        · have h9 : x 9 = .bool false := hd 9 (by kernel_rfl)
          rw [h9]
          first | (go_simp; done) | (go_simp; rfl)
        refine StepsAt.valG 11 (.pointer (some ⟨gX, 2, none⟩)) rfl (fun _ _ => rfl) rfl (fun x wc hd => ?_) (fun x wc hb hd => ?_) ?_
        · have hG : x 10 = .bool false := hd 10 (by kernel_rfl)
          simp [Region.wanted, yielded, hG]
        · first | (go_simp; done) | (go_simp; rfl)
        refine StepsAt.valG 12 (.int .i64 r) rfl (fun _ _ => rfl) rfl (fun x wc hd => ?_) (fun x wc hb hd => ?_) ?_
        · have hG : x 10 = .bool false := hd 10 (by kernel_rfl)
          simp [Region.wanted, yielded, hG]
        · have h11 : x 11 = .pointer (some ⟨gX, 2, none⟩) := hd 11 (by kernel_rfl)
          have cc := ((XB2.out.below hb XB2.out.lt).cell 2).trans (show _ = some (.int .i64 r) from rfl)
          rw [h11]
          first | (go_simp; done) | (go_simp; rfl)
        refine StepsAt.valG 13 (.bool false) rfl (fun _ _ => rfl) rfl (fun x wc hd => ?_) (fun x wc hb hd => ?_) ?_
        · have hG : x 10 = .bool false := hd 10 (by kernel_rfl)
          simp [Region.wanted, yielded, hG]
        · have h12 : x 12 = .int .i64 r := hd 12 (by kernel_rfl)
          rw [h12]
          first | (go_simp; done) | (go_simp; rfl)
        refine StepsAt.val 14 (.bool false) rfl (fun _ _ => rfl) rfl rfl (fun x wc hb hd => ?_) ?_
        · have h10 : x 10 = .bool false := hd 10 (by kernel_rfl)
          have h13 : x 13 = .bool false := hd 13 (by kernel_rfl)
          rw [h10, h13]
          first | (go_simp; done) | (go_simp; rfl)
        refine StepsAt.val 15 (.bool false) rfl (fun _ _ => rfl) rfl rfl (fun x wc hb hd => ?_) ?_
        · have h14 : x 14 = .bool false := hd 14 (by kernel_rfl)
          rw [h14]
          first | (go_simp; done) | (go_simp; rfl)
        refine StepsAt.valG 16 (.pointer (some ⟨gX, 2, none⟩)) rfl (fun _ _ => rfl) rfl (fun x wc hd => ?_) (fun x wc hb hd => ?_) ?_
        · have hG : x 15 = .bool false := hd 15 (by kernel_rfl)
          simp [Region.wanted, yielded, hG]
        · first | (go_simp; done) | (go_simp; rfl)
        refine StepsAt.valG 17 (.int .i64 r) rfl (fun _ _ => rfl) rfl (fun x wc hd => ?_) (fun x wc hb hd => ?_) ?_
        · have hG : x 15 = .bool false := hd 15 (by kernel_rfl)
          simp [Region.wanted, yielded, hG]
        · have h16 : x 16 = .pointer (some ⟨gX, 2, none⟩) := hd 16 (by kernel_rfl)
          have cc := ((XB2.out.below hb XB2.out.lt).cell 2).trans (show _ = some (.int .i64 r) from rfl)
          rw [h16]
          first | (go_simp; done) | (go_simp; rfl)
        refine StepsAt.valG 18 (.bool false) rfl (fun _ _ => rfl) rfl (fun x wc hd => ?_) (fun x wc hb hd => ?_) ?_
        · have hG : x 15 = .bool false := hd 15 (by kernel_rfl)
          simp [Region.wanted, yielded, hG]
        · have h17 : x 17 = .int .i64 r := hd 17 (by kernel_rfl)
          rw [h17]
          first | (go_simp; done) | (go_simp; rfl)
        refine StepsAt.val 19 (.bool false) rfl (fun _ _ => rfl) rfl rfl (fun x wc hb hd => ?_) ?_
        · have h15 : x 15 = .bool false := hd 15 (by kernel_rfl)
          have h18 : x 18 = .bool false := hd 18 (by kernel_rfl)
          rw [h15, h18]
          first | (go_simp; done) | (go_simp; rfl)
        refine StepsAt.val 20 (.bool false) rfl (fun _ _ => rfl) rfl rfl (fun x wc hb hd => ?_) ?_
        · have h19 : x 19 = .bool false := hd 19 (by kernel_rfl)
          rw [h19]
          first | (go_simp; done) | (go_simp; rfl)
        refine StepsAt.valG 21 (.pointer (some ⟨gX, 3, none⟩)) rfl (fun _ _ => rfl) rfl (fun x wc hd => ?_) (fun x wc hb hd => ?_) ?_
        · have hG : x 20 = .bool false := hd 20 (by kernel_rfl)
          simp [Region.wanted, yielded, hG]
        · first | (go_simp; done) | (go_simp; rfl)
        refine StepsAt.valG 22 (.int .i64 oo) rfl (fun _ _ => rfl) rfl (fun x wc hd => ?_) (fun x wc hb hd => ?_) ?_
        · have hG : x 20 = .bool false := hd 20 (by kernel_rfl)
          simp [Region.wanted, yielded, hG]
        · have h21 : x 21 = .pointer (some ⟨gX, 3, none⟩) := hd 21 (by kernel_rfl)
          have cc := ((XB2.out.below hb XB2.out.lt).cell 3).trans (show _ = some (.int .i64 oo) from rfl)
          rw [h21]
          first | (go_simp; done) | (go_simp; rfl)
        refine StepsAt.valG 23 (.bool false) rfl (fun _ _ => rfl) rfl (fun x wc hd => ?_) (fun x wc hb hd => ?_) ?_
        · have hG : x 20 = .bool false := hd 20 (by kernel_rfl)
          simp [Region.wanted, yielded, hG]
        · have h22 : x 22 = .int .i64 oo := hd 22 (by kernel_rfl)
          rw [h22]
          first | (go_simp; done) | (go_simp; rfl)
        refine StepsAt.val 24 (.bool false) rfl (fun _ _ => rfl) rfl rfl (fun x wc hb hd => ?_) ?_
        · have h20 : x 20 = .bool false := hd 20 (by kernel_rfl)
          have h23 : x 23 = .bool false := hd 23 (by kernel_rfl)
          rw [h20, h23]
          first | (go_simp; done) | (go_simp; rfl)
        refine StepsAt.val 25 (.bool false) rfl (fun _ _ => rfl) rfl rfl (fun x wc hb hd => ?_) ?_
        · have h24 : x 24 = .bool false := hd 24 (by kernel_rfl)
          rw [h24]
          first | (go_simp; done) | (go_simp; rfl)
        refine StepsAt.valG 26 (.int IntKind.i64 ↑i) rfl (fun _ _ => rfl) rfl (fun x wc hd => ?_) (fun x wc hb hd => ?_) ?_
        · have hG : x 25 = .bool false := hd 25 (by kernel_rfl)
          simp [Region.wanted, yielded, hG]
        · first | (go_simp; done) | (go_simp; rfl)
        refine StepsAt.valG 27 (.bool true) rfl (fun _ _ => rfl) rfl (fun x wc hd => ?_) (fun x wc hb hd => ?_) ?_
        · have hG : x 25 = .bool false := hd 25 (by kernel_rfl)
          simp [Region.wanted, yielded, hG]
        · have h26 : x 26 = .int IntKind.i64 ↑i := hd 26 (by kernel_rfl)
          rw [h26]
          first | (go_simp; done) | (go_simp; rfl)
        refine StepsAt.valG 28 (.bool true) rfl (fun _ _ => rfl) rfl (fun x wc hd => ?_) (fun x wc hb hd => ?_) ?_
        · have hG : x 25 = .bool false := hd 25 (by kernel_rfl)
          simp [Region.wanted, yielded, hG]
        · have h27 : x 27 = .bool true := hd 27 (by kernel_rfl)
          rw [h27]
          first | (go_simp; done) | (go_simp; rfl)
        refine StepsAt.valG 29 (.pointer (some ⟨g0, 0, none⟩)) rfl (fun _ _ => rfl) rfl (fun x wc hd => ?_) (fun x wc hb hd => ?_) ?_
        · have hG : x 28 = .bool true := hd 28 (by kernel_rfl)
          simp [Region.wanted, yielded, hG]
        · first | (go_simp; done) | (go_simp; rfl)
        refine StepsAt.valG 30 (.slice (some a) n cp) rfl (fun _ _ => rfl) rfl (fun x wc hd => ?_) (fun x wc hb hd => ?_) ?_
        · have hG : x 28 = .bool true := hd 28 (by kernel_rfl)
          simp [Region.wanted, yielded, hG]
        · have h29 : x 29 = .pointer (some ⟨g0, 0, none⟩) := hd 29 (by kernel_rfl)
          have cc := ((XG.out.below hb XG.out.lt).cell 0).trans (show _ = some (.slice (some a) n cp) from rfl)
          rw [h29]
          first | (go_simp; done) | (go_simp; rfl)
        refine StepsAt.valG 31 (.int IntKind.i64 ↑i) rfl (fun _ _ => rfl) rfl (fun x wc hd => ?_) (fun x wc hb hd => ?_) ?_
        · have hG : x 28 = .bool true := hd 28 (by kernel_rfl)
          simp [Region.wanted, yielded, hG]
        · first | (go_simp; done) | (go_simp; rfl)
        refine StepsAt.valG 32 (.int .i64 (j : Int)) rfl (fun _ _ => rfl) rfl (fun x wc hd => ?_) (fun x wc hb hd => ?_) ?_
        · have hG : x 28 = .bool true := hd 28 (by kernel_rfl)
          simp [Region.wanted, yielded, hG]
        · have h31 : x 31 = .int IntKind.i64 ↑i := hd 31 (by kernel_rfl)
          rw [h31]
          first | (go_simp; done) | (go_simp; rfl)
        refine StepsAt.valG 33 (.pointer (some (a.add (j * 4)))) rfl (fun _ _ => rfl) rfl (fun x wc hd => ?_) (fun x wc hb hd => ?_) ?_
        · have hG : x 28 = .bool true := hd 28 (by kernel_rfl)
          simp [Region.wanted, yielded, hG]
        · have h30 : x 30 = .slice (some a) n cp := hd 30 (by kernel_rfl)
          have h32 : x 32 = .int .i64 (j : Int) := hd 32 (by kernel_rfl)
          rw [h30, h32]
          first | (go_simp; done) | (go_simp; rfl)
        refine StepsAt.valG 34 (.pointer (some (a.add (j * 4)))) rfl (fun _ _ => rfl) rfl (fun x wc hd => ?_) (fun x wc hb hd => ?_) ?_
        · have hG : x 28 = .bool true := hd 28 (by kernel_rfl)
          simp [Region.wanted, yielded, hG]
        · have h33 : x 33 = .pointer (some (a.add (j * 4))) := hd 33 (by kernel_rfl)
          rw [h33]
          first | (go_simp; done) | (go_simp; rfl)
        refine StepsAt.valG 35 (txt pj) rfl (fun _ _ => rfl) rfl (fun x wc hd => ?_) (fun x wc hb hd => ?_) ?_
        · have hG : x 28 = .bool true := hd 28 (by kernel_rfl)
          simp [Region.wanted, yielded, hG]
        · have h34 : x 34 = .pointer (some (a.add (j * 4))) := hd 34 (by kernel_rfl)
          obtain ⟨a9, hA9, cc, -⟩ := (HR.out.below (HB.out.trans ((HWb.out.trans (hb.mono hsb)).mono hw1))).at_ j (by rw [HN.out]; omega)
          obtain rfl : a = a9 := Option.some.inj hA9
          rw [HPJ.out] at cc
          rw [h34]
          first | (go_simp; done) | (go_simp; rfl)
        refine StepsAt.valG 36 (.pointer (some ⟨gX, 0, none⟩)) rfl (fun _ _ => rfl) rfl (fun x wc hd => ?_) (fun x wc hb hd => ?_) ?_
        · have hG : x 28 = .bool true := hd 28 (by kernel_rfl)
          simp [Region.wanted, yielded, hG]
        · first | (go_simp; done) | (go_simp; rfl)
        refine StepsAt.valG 37 (txt pa) rfl (fun _ _ => rfl) rfl (fun x wc hd => ?_) (fun x wc hb hd => ?_) ?_
        · have hG : x 28 = .bool true := hd 28 (by kernel_rfl)
          simp [Region.wanted, yielded, hG]
        · have h36 : x 36 = .pointer (some ⟨gX, 0, none⟩) := hd 36 (by kernel_rfl)
          have cc := ((XB2.out.below hb XB2.out.lt).cell 0).trans (show _ = some (txt pa) from rfl)
          rw [h36]
          first | (go_simp; done) | (go_simp; rfl)
        refine StepsAt.consG 38 (fun _ _ _ h hb => h) (fun _ _ => rfl) rfl (fun x wc hd => ?_) (fun x wc hb hd K hK => ?_) ?_
        · have hG : x 28 = .bool true := hd 28 (by kernel_rfl)
          simp [Region.wanted, yielded, hG]
        · have h35 : Hid (x 35 = txt pj) := hd 35 (by kernel_rfl)
          have h37 : Hid (x 37 = txt pa) := hd 37 (by kernel_rfl)
          go_simp
          refine calls_args (args2 := #[txt pj, txt pa]) (by rw [h35.out, h37.out]) ?_
          refine (aheadIs pj pa true HAB.out _).mono ?_
          rintro e w99 ⟨rfl, hb99⟩
          exact hK.out _ _ hb99 rfl
        refine StepsAt.valG 39 (.bool false) rfl (fun _ _ => rfl) rfl (fun x wc hd => ?_) (fun x wc hb hd => ?_) ?_
        · have hG : x 28 = .bool true := hd 28 (by kernel_rfl)
          simp [Region.wanted, yielded, hG]
        · have h38 : x 38 = .bool true := hd 38 (by kernel_rfl)
          rw [h38]
          first | (go_simp; done) | (go_simp; rfl)
        refine StepsAt.valG 40 (.bool false) rfl (fun _ _ => rfl) rfl (fun x wc hd => ?_) (fun x wc hb hd => ?_) ?_
        · have hG : x 25 = .bool false := hd 25 (by kernel_rfl)
          simp [Region.wanted, yielded, hG]
        · have h28 : x 28 = .bool true := hd 28 (by kernel_rfl)
          have h39 : x 39 = .bool false := hd 39 (by kernel_rfl)
          rw [h28, h39]
          first | (go_simp; done) | (go_simp; rfl)
        refine StepsAt.val 41 (.bool false) rfl (fun _ _ => rfl) rfl rfl (fun x wc hb hd => ?_) ?_
        · have h25 : x 25 = .bool false := hd 25 (by kernel_rfl)
          have h40 : x 40 = .bool false := hd 40 (by kernel_rfl)
          rw [h25, h40]
          first | (go_simp; done) | (go_simp; rfl)
        exact StepsAt.done
      case fin =>
        intro x wc hb hd
        have hx0 : x 0 = .pointer (some ⟨gX, 0, none⟩) := hd 0 (by omega)
        have hx1 : x 1 = txt pa := hd 1 (by omega)
        have hx2 : x 2 = .bool true := hd 2 (by omega)
        have hx3 : x 3 = .bool false := hd 3 (by omega)
        have hx4 : x 4 = .bool false := hd 4 (by omega)
        have hx5 : x 5 = .pointer (some ⟨gX, 1, none⟩) := hd 5 (by omega)
        have hx6 : x 6 = txt va := hd 6 (by omega)
        have hx7 : x 7 = .int .i64 (k : Int) := hd 7 (by omega)
        have hx8 : x 8 = .bool false := hd 8 (by omega)
        have hx9 : x 9 = .bool false := hd 9 (by omega)
        have hx10 : x 10 = .bool false := hd 10 (by omega)
        have hx11 : x 11 = .pointer (some ⟨gX, 2, none⟩) := hd 11 (by omega)
        have hx12 : x 12 = .int .i64 r := hd 12 (by omega)
        have hx13 : x 13 = .bool false := hd 13 (by omega)
        have hx14 : x 14 = .bool false := hd 14 (by omega)
        have hx15 : x 15 = .bool false := hd 15 (by omega)
        have hx16 : x 16 = .pointer (some ⟨gX, 2, none⟩) := hd 16 (by omega)
        have hx17 : x 17 = .int .i64 r := hd 17 (by omega)
        have hx18 : x 18 = .bool false := hd 18 (by omega)
        have hx19 : x 19 = .bool false := hd 19 (by omega)
        have hx20 : x 20 = .bool false := hd 20 (by omega)
        have hx21 : x 21 = .pointer (some ⟨gX, 3, none⟩) := hd 21 (by omega)
        have hx22 : x 22 = .int .i64 oo := hd 22 (by omega)
        have hx23 : x 23 = .bool false := hd 23 (by omega)
        have hx24 : x 24 = .bool false := hd 24 (by omega)
        have hx25 : x 25 = .bool false := hd 25 (by omega)
        have hx26 : x 26 = .int IntKind.i64 ↑i := hd 26 (by omega)
        have hx27 : x 27 = .bool true := hd 27 (by omega)
        have hx28 : x 28 = .bool true := hd 28 (by omega)
        have hx29 : x 29 = .pointer (some ⟨g0, 0, none⟩) := hd 29 (by omega)
        have hx30 : x 30 = .slice (some a) n cp := hd 30 (by omega)
        have hx31 : x 31 = .int IntKind.i64 ↑i := hd 31 (by omega)
        have hx32 : x 32 = .int .i64 (j : Int) := hd 32 (by omega)
        have hx33 : x 33 = .pointer (some (a.add (j * 4))) := hd 33 (by omega)
        have hx34 : x 34 = .pointer (some (a.add (j * 4))) := hd 34 (by omega)
        have hx35 : x 35 = txt pj := hd 35 (by omega)
        have hx36 : x 36 = .pointer (some ⟨gX, 0, none⟩) := hd 36 (by omega)
        have hx37 : x 37 = txt pa := hd 37 (by omega)
        have hx38 : x 38 = .bool true := hd 38 (by omega)
        have hx39 : x 39 = .bool false := hd 39 (by omega)
        have hx40 : x 40 = .bool false := hd 40 (by omega)
        have hx41 : x 41 = .bool false := hd 41 (by omega)
        refine AnyTill.any (S := fun _ => True) (m := 42) _ _ _ _ ?_
        refine AnyTill.done (by kernel_rfl) ?_
        refine NoPanic.normal ?_
        try dsimp only
        rw [hx0, hx1, hx2, hx3, hx4, hx5, hx6, hx7, hx8, hx9, hx10, hx11, hx12, hx13, hx14, hx15, hx16, hx17, hx18, hx19, hx20, hx21, hx22, hx23, hx24, hx25, hx26, hx27, hx28, hx29, hx30, hx31, hx32, hx33, hx34, hx35, hx36, hx37, hx38, hx39, hx40, hx41]
        have HWc := Lib.hid (HWb.out.trans (hb.mono hsb))
        have XC := Lib.hid (XB2.out.below hb XB2.out.lt)
        have XGc := Lib.hid (XG.out.below hb XG.out.lt)
        clear hx0 hx1 hx2 hx3 hx4 hx5 hx6 hx7 hx8 hx9 hx10 hx11 hx12 hx13 hx14 hx15 hx16 hx17 hx18 hx19 hx20 hx21 hx22 hx23 hx24 hx25 hx26 hx27 hx28 hx29 hx30 hx31 hx32 hx33 hx34 hx35 hx36 hx37 hx38 hx39 hx40 hx41 hd hb XB2 XG HWb x
        have d0 := XC.out.at_ 0 _ rfl
        go_wp2_with fail
        refine (rfParent_any pa wc).mono ?_
        rintro e wd ⟨rfl, hb⟩
        have XD := Lib.hid (XC.out.below hb XC.out.lt)
        have XGd := Lib.hid (XGc.out.below hb XGc.out.lt)
        have HWd := Lib.hid (HWc.out.trans (hb.mono HWc.out.size))
        have d3 := XD.out.at_ 3 _ rfl
        have ca := XGd.out.cell 0
        clear hb XC XGc HWc d0
        have HUPN : Hid (upN l nd = if parentE pa = 0 then hasN l (parentS pa) && decide (nO (nodeN l (parentS pa)) = 0) else decide (oo = 0)) := by
          show _ = _
          unfold upN
          rw [HPA.out, HOO.out]
        obtain ⟨up, hup⟩ : ∃ up, parentS pa = up := ⟨_, rfl⟩
        obtain ⟨pf, hpf⟩ : ∃ f, parentE pa = f := ⟨_, rfl⟩
        rw [hup, hpf] at HUPN
        rw [hup, hpf]
        clear hup hpf
        by_cases hf0 : pf = 0
        · subst hf0
          go_wp2_with fail
          refine (rfAt_any l up _ wd ((HR.out.below (HB.out.trans (HWd.out.mono hw1))).more (HB.out.trans (HWd.out.mono hw1)).size)).mono ?_
          rintro e we ⟨rfl, hb⟩
          have XGe := Lib.hid (XGd.out.below hb XGd.out.lt)
          have HWe := Lib.hid (HWd.out.trans (hb.mono HWd.out.size))
          clear hb ca d3 XD XGd HWd
          have ca := XGe.out.cell 0
          rcases atI_or l up with ⟨h1, h2, h3⟩ | ⟨h1, h2⟩
          · rw [h2]
            rw [HN.out] at h3
            obtain ⟨q, hq⟩ : ∃ q, placeN l up = q := ⟨_, rfl⟩
            rw [hq] at h3 ⊢
            have zq : (q : Int) < (n : Int) := by omega
            obtain ⟨a9, hA9, -, -, -, c3⟩ := (HR.out.below (HB.out.trans (HWe.out.mono hw1))).at_ q (by rw [HN.out]; exact h3)
            obtain rfl : a = a9 := Option.some.inj hA9
            have hnq : nodeN l up = l.getD q nd0 := by unfold nodeN; rw [hq]
            obtain ⟨y, hy⟩ : ∃ y, nO (l.getD q nd0) = y := ⟨_, rfl⟩
            rw [hy] at c3
            have HUV : Hid (upN l nd = decide (y = 0)) := by
              show _ = _
              rw [HUPN.out, h1, hnq, hy]; simp
            clear hA9 h1 h2 hq hnq hy
            by_cases hy0 : y = 0
            · have HA2 : Hid (∀ j, j < i + 1 → okN l j = true) := by
                intro j hj
                by_cases h : j < i
                · exact HA.out j h
                · have : j = i := by omega
                  subst this
                  rw [OKU.out, HUV.out]; simp [hy0]
              subst hy0
              go_wp2
              go_roundw
              case rel => exact ⟨i + 1, by omega, by go_num, HA2, HWe⟩
              case measure => simp [intOf]; omega
            · have hyb : (y != 0) = true := by rw [bne_iff_ne]; exact hy0
              have HF := Lib.hid (okN_not l i (by rw [HN.out]; exact hi2) (by rw [OKU.out, HUV.out]; simp [hy0]))
              clear hy0
              go_wp2
              go_ret
              exact ⟨by rw [HF.out]; rfl, HB.out.trans (HWe.out.mono hw1)⟩
          · rw [h2]
            have HF := Lib.hid (okN_not l i (by rw [HN.out]; exact hi2) (by rw [OKU.out, HUPN.out, h1]; simp))
            clear h1 h2
            go_wp2
            go_ret
            exact ⟨by rw [HF.out]; rfl, HB.out.trans (HWe.out.mono hw1)⟩
        · have hfb : ((pf : Int) != 0) = true := by
            rw [bne_iff_ne]
            omega
          have HUV : Hid (upN l nd = decide (oo = 0)) := by
            show _ = _
            rw [HUPN.out, if_neg hf0]
          clear hf0
          by_cases hy0 : oo = 0
          · have HA2 : Hid (∀ j, j < i + 1 → okN l j = true) := by
              intro j hj
              by_cases h : j < i
              · exact HA.out j h
              · have : j = i := by omega
                subst this
                rw [OKU.out, HUV.out]; simp [hy0]
            have hyb : (oo != 0) = false := by rw [hy0]; rfl
            clear hy0
            go_wp2
            go_roundw
            case rel => exact ⟨i + 1, by omega, by go_num, HA2, HWd⟩
            case measure => simp [intOf]; omega
          · have hyb : (oo != 0) = true := by rw [bne_iff_ne]; exact hy0
            have HF := Lib.hid (okN_not l i (by rw [HN.out]; exact hi2) (by rw [OKU.out, HUV.out]; simp [hy0]))
            clear hy0
            go_wp2
            go_ret
            exact ⟨by rw [HF.out]; rfl, HB.out.trans (HWd.out.mono hw1)⟩

    · have hE : i = n := by omega
      subst hE
      have HE := Lib.hid (rightN_end l (by rw [HN.out]; omega) (by rw [HN.out]; omega) (by rw [HN.out]; exact HA.out))
      go_wp2_with fail
      refine (rfAt_any l [47] _ wr ((HR.out.below (HB.out.trans (HW.out.mono hw1))).more (HB.out.trans (HW.out.mono hw1)).size)).mono ?_
      rintro e we ⟨rfl, hb⟩
      have HWe := Lib.hid (HW.out.trans (hb.mono hwr))
      clear hb ca
      rcases atI_or l [47] with ⟨h1, h2, h3⟩ | ⟨h1, h2⟩
      · rw [h2]
        have hEQ : (decide (placeN l [47] = 0)) = ((placeN l [47] : Int) == 0) := by
          by_cases h : placeN l [47] = 0
          · rw [h]; rfl
          · have e2 : ((placeN l [47] : Int) == 0) = false := by
              rw [beq_eq_false_iff_ne]
              omega
            rw [e2]; simp [h]
        have HF : Hid (rightN l = ((placeN l [47] : Int) == 0)) := by
          show _ = _
          rw [HE.out, hEQ]
        clear h1 h2 h3 hEQ
        go_wp2
        go_ret
        exact ⟨by rw [HF.out]; rfl, HB.out.trans (HWe.out.mono hw1)⟩
      · rw [h2]
        have HF : Hid (rightN l = false) := by
          show _ = _
          rw [HE.out]
          unfold hasN at h1
          rw [decide_eq_false_iff_not] at h1 ⊢
          rw [HN.out] at h1
          omega
        clear h1 h2
        go_wp2
        go_ret
        exact ⟨by rw [HF.out]; rfl, HB.out.trans (HWe.out.mono hw1)⟩
end Go.Proofs.YtlpakfaoaodaiaaDoor
