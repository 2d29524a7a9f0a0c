/-
  Texts HG.
-/
import Derived.Test.YtdihngkdhanhkaaGreatDoorV01
import Derived.Test.YtdihngkdhanhkaaGreatDoorV19
import Derived.Test.YtdihngkdhanhkaaGreatDoorV21
namespace Go.Proofs.YtdihngkdhanhkaaGreatDoor
set_option maxRecDepth 100000
set_option maxHeartbeats 16000000
open Go.RowKit
theorem rightIs (s : List UInt8) (b : Bool) (h : rightB s = b) (w : World) : Calls Tryz.prog 64 #[txt s] w (One (.bool b) w) := by
 rw [← h]
 exact rfRight_any s w
theorem aheadIs (p q : List UInt8) (b : Bool) (h : aheadB p q = b) (w : World) : Calls Tryz.prog 65 #[txt p, txt q] w (One (.bool b) w) := by
 rw [← h]
 exact rfAhead_any p q w
theorem okN_not (l : List Nd) (i : Nat) (hi : i < l.length) (h : okN l i = false) : rightN l = false := by
 unfold rightN
 have : (List.range l.length).all (okN l) = false := by
  rw [List.all_eq_false]
  exact ⟨i, List.mem_range.2 hi, by rw [h]; simp⟩
 rw [this]
 simp
theorem rightN_end (l : List Nd) (h1 : 1 ≤ l.length) (h2 : l.length ≤ 200) (h : ∀ i, i < l.length → okN l i = true) : rightN l = decide (placeN l [47] = 0) := by
 unfold rightN
 have : (List.range l.length).all (okN l) = true := by
  rw [List.all_eq_true]
  intro i hi
  exact h i (List.mem_range.1 hi)
 rw [this]
 simp [h1, h2]
theorem rightN_len (l : List Nd) (h : l.length < 1 ∨ 200 < l.length) : rightN l = false := by
 unfold rightN
 rcases h with h | h
 ·have : decide (1 ≤ l.length) = false := decide_eq_false (by omega)
  rw [this]; rfl
 ·have : decide (l.length ≤ 200) = false := decide_eq_false (by omega)
  rw [this]; simp
theorem rfRightN_any (l : List Nd) (v : Value) (w : World) (hr : RdNd w.heap.size w v l) : Calls Tryz.prog 35 #[.agg #[v]] w (One (.bool (rightN l)) w) := by
 obtain ⟨A, cp, rfl, hc, hm⟩ := hr.shape
 unfold maxLen at hm
 obtain ⟨n, hn⟩ : ∃ n, l.length = n := ⟨_, rfl⟩
 have HN := lhd hn
 have HR := lhd hr
 rw [hn] at hc HR ⊢
 clear hr hn
 go_enter Tryz.func35, Tryz.ntmps35
 go_wp2_with (refine wpList_box_blk rfl 42 _ rfl [.slice A n cp] rfl ?_)
 intro w1 b1 b2 b3
 obtain ⟨g0, hg0⟩ : ∃ g, w.heap.size = g := ⟨_, rfl⟩
 have X0 := lhd b1
 have HB := lhd b3
 have hg1 : g0 < w1.heap.size := by omega
 have hw1 : w.heap.size ≤ w1.heap.size := by omega
 rw [hg0] at X0 ⊢
 have ca := X0.out.cell 0
 clear b1 b2 b3 hg0
 by_cases hlo : (n : Int) < 1
 ·have HF := lhd (rightN_len l (by rw [HN.out]; omega))
  go_wp2
  go_ret
  exact ⟨by rw [HF.out]; rfl, HB.out⟩
 by_cases hhi : 200 < (n : Int)
 ·have HF := lhd (rightN_len l (by rw [HN.out]; omega))
  go_wp2
  go_ret
  exact ⟨by rw [HF.out]; rfl, HB.out⟩
 go_wp2
 go_loopw [3] (fun x wr => ∃ i : Nat, i ≤ n ∧ x = .int .i64 (i : Int) ∧ Hid (∀ j, j < i → okN l j = true) ∧ Hid (Below w1.heap.size w1 wr)) (fun x _ => n - (intOf x).toNat)
 case atStart => exact ⟨0, by omega, rfl, fun j hj => by omega, Below.refl _ _⟩
 case round =>
  obtain ⟨i, hi, rfl, HA, HW⟩ := hrel
  have hwr := HW.out.size
  clear ca
  have ca := (X0.out.below HW.out hg1).cell 0
  by_cases hi2 : i < n
  ·have zi : (i : Int) < (n : Int) := by omega
   obtain ⟨a, hA, c0, c1, c2, c3⟩ := (HR.out.below (HB.out.trans (HW.out.mono hw1))).at_ i (by rw [HN.out]; exact hi2)
   subst hA
   obtain ⟨nd, hx⟩ : ∃ x, l.getD i nd0 = x := ⟨_, rfl⟩
   have HX := lhd hx
   rw [hx] at c0 c1 c2 c3
   clear hx
   go_wp2_with (refine wpList_alloc_blk rfl 103 rfl (ndc nd0) zND ?_)
   intro wa a1 a2 a3
   obtain ⟨gX, hgX⟩ : ∃ g, wr.heap.size = g := ⟨_, rfl⟩
   have A1 := lhd a1
   have HWa := lhd (HW.out.trans (a3.mono hwr))
   have hwX : w1.heap.size ≤ gX := by omega
   rw [hgX] at A1 ⊢
   clear a1 a2 a3 HW c0 c1 c2 c3 ca hgX
   go_wp2_with (refine wpList_store_to rfl 103 _ _ rfl gX (ndc nd) (ndc nd0) 103 rfl rfl A1.out sND rfl (ndc_one _) ?_)
   intro wb e1 e2 e3 e4
   have XB := lhd e1
   have HWb := lhd (HWa.out.trans (e3.mono hwX))
   have hsb : w1.heap.size ≤ wb.heap.size := HWb.out.size
   clear e1 e2 e3 e4 A1 HWa
   obtain ⟨pa, hpa⟩ : ∃ p, nP nd = p := ⟨_, rfl⟩
   obtain ⟨va, hva⟩ : ∃ p, nV nd = p := ⟨_, rfl⟩
   obtain ⟨k, hk⟩ : ∃ k, va.length = k := ⟨_, rfl⟩
   have hkz : (⟨va.toArray⟩ : ByteArray).size = k := hk
   have HPA := lhd hpa
   have HVA := lhd hva
   have HK := lhd hk
   have XG := lhd ((X0.out.below HWb.out hg1))
   clear hpa hva hk
   go_wp2
   obtain ⟨r, hrr⟩ : ∃ r, nR nd = r := ⟨_, rfl⟩
   obtain ⟨oo, hoo⟩ : ∃ r, nO nd = r := ⟨_, rfl⟩
   have XB2 : Hid (Blk wb gX [txt pa, txt va, .int .i64 r, .int .i64 oo] 103) := by
    show Blk _ _ _ _
    have h := XB.out
    unfold ndc at h
    rw [HPA.out, HVA.out, hrr, hoo] at h
    exact h
   have HRR := lhd hrr
   have HOO := lhd hoo
   clear hrr hoo XB
   have OK : Hid (okN l i = (rightB pa && decide (k ≤ 1000) && decide (0 ≤ r) && decide (r ≤ 1000000000) && decide (0 ≤ oo) && (decide (i = 0) || aheadB (nP (l.getD (i - 1) nd0)) pa) && upN l nd)) := by
    show _ = _
    unfold okN fineN
    rw [HX.out, HPA.out, HVA.out, HK.out, HRR.out, HOO.out]
   obtain ⟨rb, hrb⟩ : ∃ b, rightB pa = b := ⟨_, rfl⟩
   have HRB := lhd hrb
   obtain ⟨e1, he1⟩ : ∃ b, decide ((1000 : Int) < (k : Int)) = b := ⟨_, rfl⟩
   have HE1 := lhd he1
   obtain ⟨e2, he2⟩ : ∃ b, decide (r < 0) = b := ⟨_, rfl⟩
   have HE2 := lhd he2
   obtain ⟨e3, he3⟩ : ∃ b, decide (1000000000 < r) = b := ⟨_, rfl⟩
   have HE3 := lhd he3
   obtain ⟨e4, he4⟩ : ∃ b, decide (oo < 0) = b := ⟨_, rfl⟩
   have HE4 := lhd he4
   obtain ⟨e5, he5⟩ : ∃ b, decide ((0 : Int) < (i : Int)) = b := ⟨_, rfl⟩
   have HE5 := lhd he5
   obtain ⟨j, hj⟩ : ∃ j, i - 1 = j := ⟨_, rfl⟩
   obtain ⟨pj, hpj⟩ : ∃ q, nP (l.getD j nd0) = q := ⟨_, rfl⟩
   obtain ⟨ab, hab⟩ : ∃ b, aheadB pj pa = b := ⟨_, rfl⟩
   have HJ := lhd hj
   have HPJ := lhd hpj
   have HAB := lhd hab
   obtain ⟨s0, hs0⟩ : ∃ b, (!rb) = b := ⟨_, rfl⟩
   have HS0 := lhd hs0
   obtain ⟨s1, hs1⟩ : ∃ b, (s0 || e1) = b := ⟨_, rfl⟩
   have HS1 := lhd hs1
   obtain ⟨s2, hs2⟩ : ∃ b, (s1 || e2) = b := ⟨_, rfl⟩
   have HS2 := lhd hs2
   obtain ⟨s3, hs3⟩ : ∃ b, (s2 || e3) = b := ⟨_, rfl⟩
   have HS3 := lhd hs3
   obtain ⟨s4, hs4⟩ : ∃ b, (s3 || e4) = b := ⟨_, rfl⟩
   have HS4 := lhd hs4
   obtain ⟨e6, he6⟩ : ∃ b, (!ab) = b := ⟨_, rfl⟩
   have HE6 := lhd he6
   obtain ⟨s5, hs5⟩ : ∃ b, (e5 && e6) = b := ⟨_, rfl⟩
   have HS5 := lhd hs5
   obtain ⟨s6, hs6⟩ : ∃ b, (s4 || s5) = b := ⟨_, rfl⟩
   have HS6 := lhd hs6
   have HOK : Hid (okN l i = (!s6 && upN l nd)) := by
    show _ = _
    have f1 : decide (k ≤ 1000) = !e1 := by
     rw [← he1]
     by_cases h : (1000 : Int) < (k : Int)
     ·rw [decide_eq_true h, decide_eq_false (by omega)]; rfl
     ·rw [decide_eq_false h, decide_eq_true (by omega)]; rfl
    have f2 : decide (0 ≤ r) = !e2 := by
     rw [← he2]
     by_cases h : r < 0
     ·rw [decide_eq_true h, decide_eq_false (by omega)]; rfl
     ·rw [decide_eq_false h, decide_eq_true (by omega)]; rfl
    have f3 : decide (r ≤ 1000000000) = !e3 := by
     rw [← he3]
     by_cases h : 1000000000 < r
     ·rw [decide_eq_true h, decide_eq_false (by omega)]; rfl
     ·rw [decide_eq_false h, decide_eq_true (by omega)]; rfl
    have f4 : decide (0 ≤ oo) = !e4 := by
     rw [← he4]
     by_cases h : oo < 0
     ·rw [decide_eq_true h, decide_eq_false (by omega)]; rfl
     ·rw [decide_eq_false h, decide_eq_true (by omega)]; rfl
    have f5 : (decide (i = 0) || aheadB (nP (l.getD (i - 1) nd0)) pa) = !s5 := by
     rw [hj, hpj, hab, ← hs5, ← he5, ← he6]
     by_cases h : i = 0
     ·rw [decide_eq_true h, decide_eq_false (by omega)]; rfl
     ·rw [decide_eq_false h, decide_eq_true (by omega)]; simp
    rw [OK.out, hrb, f1, f2, f3, f4, f5, ← hs6, ← hs4, ← hs3, ← hs2, ← hs1, ← hs0]
    cases rb <;> cases e1 <;> cases e2 <;> cases e3 <;> cases e4 <;> cases s5 <;> rfl
   clear hrb he1 he2 he3 he4 he5 hj hpj hab hs0 hs1 hs2 hs3 hs4 he6 hs5 hs6 OK
   refine wp_region_rely2 42 0 (fun x => ⟨#[.agg #[Value.slice (some a) n cp], .pointer (some { block := g0, off := 0 }), u2, .int IntKind.i64 (i : Int), .pointer (some { block := gX, off := 0 }), u5, u6, u7, .pointer (some { block := g0, off := 0 }), .slice (some a) n cp, .int IntKind.i64 (n : Int), .bool false, .bool false, .pointer (some { block := g0, off := 0 }), .slice (some a) n cp, .int IntKind.i64 (n : Int), .bool false, .bool false, .int IntKind.i64 (i : Int), .pointer (some { block := g0, off := 0 }), .slice (some a) n cp, .int IntKind.i64 (n : Int), .bool true, u23, u24, .pointer (some { block := g0, off := 0 }), .slice (some a) n cp, .int IntKind.i64 (i : Int), .pointer (some (a.add (i * 4))), .agg #[txt (nP nd), txt (nV nd), Value.int IntKind.i64 (nR nd), Value.int IntKind.i64 (nO nd)], x 0, x 1, x 2, x 3, x 4, x 5, x 6, x 7, x 8, x 9, x 10, x 11, x 12, x 13, x 14, x 15, x 16, x 17, x 18, x 19, x 20, x 21, x 22, x 23, x 24, x 25, x 26, x 27, x 28, x 29, x 30, x 31, x 32, x 33, x 34, x 35, x 36, x 37, x 38, x 39, x 40, x 41, u72, u73, u74, u75, u76, u77, u78, u79, u80, u81, u82, u83, u84, u85, u86, u87, u88, u89, u90, u91, u92, u93, u94, u95, u96, undef, undef, undef], []⟩) (fun jj => ([eqV (.pointer (some ⟨gX, 0, none⟩)), eqV (txt pa), eqV (.bool rb), eqV (.bool s0), eqV (.bool s0), eqV (if (!s0) = true then .pointer (some ⟨gX, 1, none⟩) else undef), eqV (if (!s0) = true then txt va else undef), eqV (if (!s0) = true then .int .i64 (k : Int) else undef), eqV (if (!s0) = true then .bool e1 else undef), eqV (.bool s1), eqV (.bool s1), eqV (if (!s1) = true then .pointer (some ⟨gX, 2, none⟩) else undef), eqV (if (!s1) = true then .int .i64 r else undef), eqV (if (!s1) = true then .bool e2 else undef), eqV (.bool s2), eqV (.bool s2), eqV (if (!s2) = true then .pointer (some ⟨gX, 2, none⟩) else undef), eqV (if (!s2) = true then .int .i64 r else undef), eqV (if (!s2) = true then .bool e3 else undef), eqV (.bool s3), eqV (.bool s3), eqV (if (!s3) = true then .pointer (some ⟨gX, 3, none⟩) else undef), eqV (if (!s3) = true then .int .i64 oo else undef), eqV (if (!s3) = true then .bool e4 else undef), eqV (.bool s4), eqV (.bool s4), eqV (if (!s4) = true then .int .i64 (i : Int) else undef), eqV (if (!s4) = true then .bool e5 else undef), eqV (if (!s4) = true then .bool e5 else undef), eqV (if (!s4 && e5) = true then .pointer (some ⟨g0, 0, none⟩) else undef), eqV (if (!s4 && e5) = true then .slice (some a) n cp else undef), eqV (if (!s4 && e5) = true then .int .i64 (i : Int) else undef), eqV (if (!s4 && e5) = true then .int .i64 (j : Int) else undef), eqV (if (!s4 && e5) = true then .pointer (some (a.add (j * 4))) else undef), eqV (if (!s4 && e5) = true then .pointer (some (a.add (j * 4))) else undef), eqV (if (!s4 && e5) = true then txt pj else undef), eqV (if (!s4 && e5) = true then .pointer (some ⟨gX, 0, none⟩) else undef), eqV (if (!s4 && e5) = true then txt pa else undef), eqV (if (!s4 && e5) = true then .bool ab else undef), eqV (if (!s4 && e5) = true then .bool e6 else undef), eqV (if (!s4) = true then .bool s5 else undef), eqV (.bool s6)] : List (Value → World → Prop)).getD jj (fun _ _ => True)) rfl ⟨fun kk => [_, _, _, _, _, _, _, _, _, _, _, _, _, _, _, _, _, _, _, _, _, _, _, _, _, _, _, _, _, _, _, _, _, _, _, _, _, _, _, _, _, _].getD kk undef, rfl⟩ (by kernel_rfl) (by kernel_rfl) ?steps ?fin
   case steps =>
    refine StepsAt.val 0 (.pointer (some ⟨gX, 0, none⟩)) rfl (fun _ _ => rfl) rfl rfl (fun x wc hb hd => ?_) ?_
    ·(go_simp; try rfl)
    refine StepsAt.val 1 (txt pa) rfl (fun _ _ => rfl) rfl rfl (fun x wc hb hd => ?_) ?_
    ·have h0 : x 0 = .pointer (some ⟨gX, 0, none⟩) := hd 0 (by kernel_rfl)
     have cc := ((XB2.out.below hb XB2.out.lt).cell 0).trans (show _ = some (txt pa) from rfl)
     rw [h0]
     (go_simp; try rfl)
    refine StepsAt.cons 2 (fun _ _ _ h hb => h) (fun _ _ => rfl) rfl rfl (fun x wc hb hd K hK => ?_) ?_
    ·have h1 : Hid (x 1 = txt pa) := hd 1 (by kernel_rfl)
     go_simp
     refine calls_args (args2 := #[txt pa]) (by rw [h1.out]) ?_
     refine (rightIs pa rb HRB.out _).mono ?_
     rintro e w99 ⟨rfl, hb99⟩
     exact hK.out _ _ hb99 rfl
    refine StepsAt.val 3 (.bool s0) rfl (fun _ _ => rfl) rfl rfl (fun x wc hb hd => ?_) ?_
    ·have h2 : x 2 = .bool rb := hd 2 (by kernel_rfl)
     have hq := HS0.out
     rw [h2]
     rw [← hq]
     (go_simp; try rfl)
    refine StepsAt.val 4 (.bool s0) rfl (fun _ _ => rfl) rfl rfl (fun x wc hb hd => ?_) ?_
    ·have h3 : x 3 = .bool s0 := hd 3 (by kernel_rfl)
     rw [h3]
     (go_simp; try rfl)
    refine StepsAt.condV 5 (!s0) (.pointer (some ⟨gX, 1, none⟩)) rfl (fun _ _ => rfl) rfl (fun x wc hd => ?_) (fun hc x wc hb hd => ?_) ?_
    ·have hG : x 4 = .bool s0 := hd 4 (by kernel_rfl)
     cases s0 <;> simp [Region.wanted, yielded, hG]
    ·(go_simp; try rfl)
    refine StepsAt.condV 6 (!s0) (txt va) rfl (fun _ _ => rfl) rfl (fun x wc hd => ?_) (fun hc x wc hb hd => ?_) ?_
    ·have hG : x 4 = .bool s0 := hd 4 (by kernel_rfl)
     cases s0 <;> simp [Region.wanted, yielded, hG]
    ·have h5 : x 5 = .pointer (some ⟨gX, 1, none⟩) := (show x 5 = (if (!s0) = true then .pointer (some ⟨gX, 1, none⟩) else undef) from hd 5 (by kernel_rfl)).trans (if_pos hc)
     have cc := ((XB2.out.below hb XB2.out.lt).cell 1).trans (show _ = some (txt va) from rfl)
     rw [h5]
     (go_simp; try rfl)
    refine StepsAt.condV 7 (!s0) (.int .i64 (k : Int)) rfl (fun _ _ => rfl) rfl (fun x wc hd => ?_) (fun hc x wc hb hd => ?_) ?_
    ·have hG : x 4 = .bool s0 := hd 4 (by kernel_rfl)
     cases s0 <;> simp [Region.wanted, yielded, hG]
    ·have h6 : x 6 = txt va := (show x 6 = (if (!s0) = true then txt va else undef) from hd 6 (by kernel_rfl)).trans (if_pos hc)
     rw [h6]
     (go_simp; try rfl)
    refine StepsAt.condV 8 (!s0) (.bool e1) rfl (fun _ _ => rfl) rfl (fun x wc hd => ?_) (fun hc x wc hb hd => ?_) ?_
    ·have hG : x 4 = .bool s0 := hd 4 (by kernel_rfl)
     cases s0 <;> simp [Region.wanted, yielded, hG]
    ·have h7 : x 7 = .int .i64 (k : Int) := (show x 7 = (if (!s0) = true then .int .i64 (k : Int) else undef) from hd 7 (by kernel_rfl)).trans (if_pos hc)
     have hq := HE1.out
     rw [h7]
     rw [← hq]
     (go_simp; try rfl)
    refine StepsAt.val 9 (.bool s1) rfl (fun _ _ => rfl) rfl rfl (fun x wc hb hd => ?_) ?_
    ·have h4 : x 4 = .bool s0 := hd 4 (by kernel_rfl)
     have h8 : x 8 = (if (!s0) = true then .bool e1 else undef) := hd 8 (by kernel_rfl)
     have hq := HS1.out
     cases s0 with
     | true =>
       have h8 : x 8 = undef := h8
       rw [← hq, h4, h8]
       clear hq
       (go_simp; try rfl)
     | false =>
       have h8 : x 8 = .bool e1 := h8
       rw [← hq, h4, h8]
       clear hq
       (go_simp; try rfl)
    refine StepsAt.val 10 (.bool s1) rfl (fun _ _ => rfl) rfl rfl (fun x wc hb hd => ?_) ?_
    ·have h9 : x 9 = .bool s1 := hd 9 (by kernel_rfl)
     rw [h9]
     (go_simp; try rfl)
    refine StepsAt.condV 11 (!s1) (.pointer (some ⟨gX, 2, none⟩)) rfl (fun _ _ => rfl) rfl (fun x wc hd => ?_) (fun hc x wc hb hd => ?_) ?_
    ·have hG : x 10 = .bool s1 := hd 10 (by kernel_rfl)
     cases s1 <;> simp [Region.wanted, yielded, hG]
    ·(go_simp; try rfl)
    refine StepsAt.condV 12 (!s1) (.int .i64 r) rfl (fun _ _ => rfl) rfl (fun x wc hd => ?_) (fun hc x wc hb hd => ?_) ?_
    ·have hG : x 10 = .bool s1 := hd 10 (by kernel_rfl)
     cases s1 <;> simp [Region.wanted, yielded, hG]
    ·have h11 : x 11 = .pointer (some ⟨gX, 2, none⟩) := (show x 11 = (if (!s1) = true then .pointer (some ⟨gX, 2, none⟩) else undef) from hd 11 (by kernel_rfl)).trans (if_pos hc)
     have cc := ((XB2.out.below hb XB2.out.lt).cell 2).trans (show _ = some (.int .i64 r) from rfl)
     rw [h11]
     (go_simp; try rfl)
    refine StepsAt.condV 13 (!s1) (.bool e2) rfl (fun _ _ => rfl) rfl (fun x wc hd => ?_) (fun hc x wc hb hd => ?_) ?_
    ·have hG : x 10 = .bool s1 := hd 10 (by kernel_rfl)
     cases s1 <;> simp [Region.wanted, yielded, hG]
    ·have h12 : x 12 = .int .i64 r := (show x 12 = (if (!s1) = true then .int .i64 r else undef) from hd 12 (by kernel_rfl)).trans (if_pos hc)
     have hq := HE2.out
     rw [h12]
     rw [← hq]
     (go_simp; try rfl)
    refine StepsAt.val 14 (.bool s2) rfl (fun _ _ => rfl) rfl rfl (fun x wc hb hd => ?_) ?_
    ·have h10 : x 10 = .bool s1 := hd 10 (by kernel_rfl)
     have h13 : x 13 = (if (!s1) = true then .bool e2 else undef) := hd 13 (by kernel_rfl)
     have hq := HS2.out
     cases s1 with
     | true =>
       have h13 : x 13 = undef := h13
       rw [← hq, h10, h13]
       clear hq
       (go_simp; try rfl)
     | false =>
       have h13 : x 13 = .bool e2 := h13
       rw [← hq, h10, h13]
       clear hq
       (go_simp; try rfl)
    refine StepsAt.val 15 (.bool s2) rfl (fun _ _ => rfl) rfl rfl (fun x wc hb hd => ?_) ?_
    ·have h14 : x 14 = .bool s2 := hd 14 (by kernel_rfl)
     rw [h14]
     (go_simp; try rfl)
    refine StepsAt.condV 16 (!s2) (.pointer (some ⟨gX, 2, none⟩)) rfl (fun _ _ => rfl) rfl (fun x wc hd => ?_) (fun hc x wc hb hd => ?_) ?_
    ·have hG : x 15 = .bool s2 := hd 15 (by kernel_rfl)
     cases s2 <;> simp [Region.wanted, yielded, hG]
    ·(go_simp; try rfl)
    refine StepsAt.condV 17 (!s2) (.int .i64 r) rfl (fun _ _ => rfl) rfl (fun x wc hd => ?_) (fun hc x wc hb hd => ?_) ?_
    ·have hG : x 15 = .bool s2 := hd 15 (by kernel_rfl)
     cases s2 <;> simp [Region.wanted, yielded, hG]
    ·have h16 : x 16 = .pointer (some ⟨gX, 2, none⟩) := (show x 16 = (if (!s2) = true then .pointer (some ⟨gX, 2, none⟩) else undef) from hd 16 (by kernel_rfl)).trans (if_pos hc)
     have cc := ((XB2.out.below hb XB2.out.lt).cell 2).trans (show _ = some (.int .i64 r) from rfl)
     rw [h16]
     (go_simp; try rfl)
    refine StepsAt.condV 18 (!s2) (.bool e3) rfl (fun _ _ => rfl) rfl (fun x wc hd => ?_) (fun hc x wc hb hd => ?_) ?_
    ·have hG : x 15 = .bool s2 := hd 15 (by kernel_rfl)
     cases s2 <;> simp [Region.wanted, yielded, hG]
    ·have h17 : x 17 = .int .i64 r := (show x 17 = (if (!s2) = true then .int .i64 r else undef) from hd 17 (by kernel_rfl)).trans (if_pos hc)
     have hq := HE3.out
     rw [h17]
     rw [← hq]
     (go_simp; try rfl)
    refine StepsAt.val 19 (.bool s3) rfl (fun _ _ => rfl) rfl rfl (fun x wc hb hd => ?_) ?_
    ·have h15 : x 15 = .bool s2 := hd 15 (by kernel_rfl)
     have h18 : x 18 = (if (!s2) = true then .bool e3 else undef) := hd 18 (by kernel_rfl)
     have hq := HS3.out
     cases s2 with
     | true =>
       have h18 : x 18 = undef := h18
       rw [← hq, h15, h18]
       clear hq
       (go_simp; try rfl)
     | false =>
       have h18 : x 18 = .bool e3 := h18
       rw [← hq, h15, h18]
       clear hq
       (go_simp; try rfl)
    refine StepsAt.val 20 (.bool s3) rfl (fun _ _ => rfl) rfl rfl (fun x wc hb hd => ?_) ?_
    ·have h19 : x 19 = .bool s3 := hd 19 (by kernel_rfl)
     rw [h19]
     (go_simp; try rfl)
    refine StepsAt.condV 21 (!s3) (.pointer (some ⟨gX, 3, none⟩)) rfl (fun _ _ => rfl) rfl (fun x wc hd => ?_) (fun hc x wc hb hd => ?_) ?_
    ·have hG : x 20 = .bool s3 := hd 20 (by kernel_rfl)
     cases s3 <;> simp [Region.wanted, yielded, hG]
    ·(go_simp; try rfl)
    refine StepsAt.condV 22 (!s3) (.int .i64 oo) rfl (fun _ _ => rfl) rfl (fun x wc hd => ?_) (fun hc x wc hb hd => ?_) ?_
    ·have hG : x 20 = .bool s3 := hd 20 (by kernel_rfl)
     cases s3 <;> simp [Region.wanted, yielded, hG]
    ·have h21 : x 21 = .pointer (some ⟨gX, 3, none⟩) := (show x 21 = (if (!s3) = true then .pointer (some ⟨gX, 3, none⟩) else undef) from hd 21 (by kernel_rfl)).trans (if_pos hc)
     have cc := ((XB2.out.below hb XB2.out.lt).cell 3).trans (show _ = some (.int .i64 oo) from rfl)
     rw [h21]
     (go_simp; try rfl)
    refine StepsAt.condV 23 (!s3) (.bool e4) rfl (fun _ _ => rfl) rfl (fun x wc hd => ?_) (fun hc x wc hb hd => ?_) ?_
    ·have hG : x 20 = .bool s3 := hd 20 (by kernel_rfl)
     cases s3 <;> simp [Region.wanted, yielded, hG]
    ·have h22 : x 22 = .int .i64 oo := (show x 22 = (if (!s3) = true then .int .i64 oo else undef) from hd 22 (by kernel_rfl)).trans (if_pos hc)
     have hq := HE4.out
     rw [h22]
     rw [← hq]
     (go_simp; try rfl)
    refine StepsAt.val 24 (.bool s4) rfl (fun _ _ => rfl) rfl rfl (fun x wc hb hd => ?_) ?_
    ·have h20 : x 20 = .bool s3 := hd 20 (by kernel_rfl)
     have h23 : x 23 = (if (!s3) = true then .bool e4 else undef) := hd 23 (by kernel_rfl)
     have hq := HS4.out
     cases s3 with
     | true =>
       have h23 : x 23 = undef := h23
       rw [← hq, h20, h23]
       clear hq
       (go_simp; try rfl)
     | false =>
       have h23 : x 23 = .bool e4 := h23
       rw [← hq, h20, h23]
       clear hq
       (go_simp; try rfl)
    refine StepsAt.val 25 (.bool s4) rfl (fun _ _ => rfl) rfl rfl (fun x wc hb hd => ?_) ?_
    ·have h24 : x 24 = .bool s4 := hd 24 (by kernel_rfl)
     rw [h24]
     (go_simp; try rfl)
    refine StepsAt.condV 26 (!s4) (.int .i64 (i : Int)) rfl (fun _ _ => rfl) rfl (fun x wc hd => ?_) (fun hc x wc hb hd => ?_) ?_
    ·have hG : x 25 = .bool s4 := hd 25 (by kernel_rfl)
     cases s4 <;> simp [Region.wanted, yielded, hG]
    ·(go_simp; try rfl)
    refine StepsAt.condV 27 (!s4) (.bool e5) rfl (fun _ _ => rfl) rfl (fun x wc hd => ?_) (fun hc x wc hb hd => ?_) ?_
    ·have hG : x 25 = .bool s4 := hd 25 (by kernel_rfl)
     cases s4 <;> simp [Region.wanted, yielded, hG]
    ·have h26 : x 26 = .int .i64 (i : Int) := (show x 26 = (if (!s4) = true then .int .i64 (i : Int) else undef) from hd 26 (by kernel_rfl)).trans (if_pos hc)
     have hq := HE5.out
     rw [h26]
     rw [← hq]
     (go_simp; try rfl)
    refine StepsAt.condV 28 (!s4) (.bool e5) rfl (fun _ _ => rfl) rfl (fun x wc hd => ?_) (fun hc x wc hb hd => ?_) ?_
    ·have hG : x 25 = .bool s4 := hd 25 (by kernel_rfl)
     cases s4 <;> simp [Region.wanted, yielded, hG]
    ·have h27 : x 27 = .bool e5 := (show x 27 = (if (!s4) = true then .bool e5 else undef) from hd 27 (by kernel_rfl)).trans (if_pos hc)
     rw [h27]
     (go_simp; try rfl)
    refine StepsAt.condV 29 (!s4 && e5) (.pointer (some ⟨g0, 0, none⟩)) rfl (fun _ _ => rfl) rfl (fun x wc hd => ?_) (fun hc x wc hb hd => ?_) ?_
    ·have hG : x 28 = (if (!s4) = true then .bool e5 else undef) := hd 28 (by kernel_rfl)
     cases s4 <;> cases e5 <;> simp [Region.wanted, yielded, hG, undef]
    ·(go_simp; try rfl)
    refine StepsAt.condV 30 (!s4 && e5) (.slice (some a) n cp) rfl (fun _ _ => rfl) rfl (fun x wc hd => ?_) (fun hc x wc hb hd => ?_) ?_
    ·have hG : x 28 = (if (!s4) = true then .bool e5 else undef) := hd 28 (by kernel_rfl)
     cases s4 <;> cases e5 <;> simp [Region.wanted, yielded, hG, undef]
    ·have h29 : x 29 = .pointer (some ⟨g0, 0, none⟩) := (show x 29 = (if (!s4 && e5) = true then .pointer (some ⟨g0, 0, none⟩) else undef) from hd 29 (by kernel_rfl)).trans (if_pos hc)
     have cc := ((XG.out.below hb XG.out.lt).cell 0).trans (show _ = some (.slice (some a) n cp) from rfl)
     rw [h29]
     (go_simp; try rfl)
    refine StepsAt.condV 31 (!s4 && e5) (.int .i64 (i : Int)) rfl (fun _ _ => rfl) rfl (fun x wc hd => ?_) (fun hc x wc hb hd => ?_) ?_
    ·have hG : x 28 = (if (!s4) = true then .bool e5 else undef) := hd 28 (by kernel_rfl)
     cases s4 <;> cases e5 <;> simp [Region.wanted, yielded, hG, undef]
    ·(go_simp; try rfl)
    refine StepsAt.condV 32 (!s4 && e5) (.int .i64 (j : Int)) rfl (fun _ _ => rfl) rfl (fun x wc hd => ?_) (fun hc x wc hb hd => ?_) ?_
    ·have hG : x 28 = (if (!s4) = true then .bool e5 else undef) := hd 28 (by kernel_rfl)
     cases s4 <;> cases e5 <;> simp [Region.wanted, yielded, hG, undef]
    ·have h31 : x 31 = .int .i64 (i : Int) := (show x 31 = (if (!s4 && e5) = true then .int .i64 (i : Int) else undef) from hd 31 (by kernel_rfl)).trans (if_pos hc)
     have hi1 : 0 < i := by have := HE5.out; cases e5 <;> simp at hc this ⊢ <;> omega
     have c5 : IntKind.i64.wrap ((i : Int) - 1) = (j : Int) := by rw [IntKind.wrap_i64]; have := HJ.out; omega
     rw [h31]
     (go_simp; try rfl)
    refine StepsAt.condV 33 (!s4 && e5) (.pointer (some (a.add (j * 4)))) rfl (fun _ _ => rfl) rfl (fun x wc hd => ?_) (fun hc x wc hb hd => ?_) ?_
    ·have hG : x 28 = (if (!s4) = true then .bool e5 else undef) := hd 28 (by kernel_rfl)
     cases s4 <;> cases e5 <;> simp [Region.wanted, yielded, hG, undef]
    ·have h30 : x 30 = .slice (some a) n cp := (show x 30 = (if (!s4 && e5) = true then .slice (some a) n cp else undef) from hd 30 (by kernel_rfl)).trans (if_pos hc)
     have h32 : x 32 = .int .i64 (j : Int) := (show x 32 = (if (!s4 && e5) = true then .int .i64 (j : Int) else undef) from hd 32 (by kernel_rfl)).trans (if_pos hc)
     have hi1 : 0 < i := by have := HE5.out; cases e5 <;> simp at hc this ⊢ <;> omega
     have zj : (j : Int) < (n : Int) := by have := HJ.out; omega
     rw [h30, h32]
     (go_simp; try rfl)
    refine StepsAt.condV 34 (!s4 && e5) (.pointer (some (a.add (j * 4)))) rfl (fun _ _ => rfl) rfl (fun x wc hd => ?_) (fun hc x wc hb hd => ?_) ?_
    ·have hG : x 28 = (if (!s4) = true then .bool e5 else undef) := hd 28 (by kernel_rfl)
     cases s4 <;> cases e5 <;> simp [Region.wanted, yielded, hG, undef]
    ·have h33 : x 33 = .pointer (some (a.add (j * 4))) := (show x 33 = (if (!s4 && e5) = true then .pointer (some (a.add (j * 4))) else undef) from hd 33 (by kernel_rfl)).trans (if_pos hc)
     rw [h33]
     (go_simp; try rfl)
    refine StepsAt.condV 35 (!s4 && e5) (txt pj) rfl (fun _ _ => rfl) rfl (fun x wc hd => ?_) (fun hc x wc hb hd => ?_) ?_
    ·have hG : x 28 = (if (!s4) = true then .bool e5 else undef) := hd 28 (by kernel_rfl)
     cases s4 <;> cases e5 <;> simp [Region.wanted, yielded, hG, undef]
    ·have h34 : x 34 = .pointer (some (a.add (j * 4))) := (show x 34 = (if (!s4 && e5) = true then .pointer (some (a.add (j * 4))) else undef) from hd 34 (by kernel_rfl)).trans (if_pos hc)
     have hi1 : 0 < i := by have := HE5.out; cases e5 <;> simp at hc this ⊢ <;> omega
     obtain ⟨a9, hA9, cc, -⟩ := (HR.out.below (HB.out.trans ((HWb.out.trans (hb.mono hsb)).mono hw1))).at_ j (by rw [HN.out]; have := HJ.out; omega)
     obtain rfl : a = a9 := Option.some.inj hA9
     rw [HPJ.out] at cc
     rw [h34]
     (go_simp; try rfl)
    refine StepsAt.condV 36 (!s4 && e5) (.pointer (some ⟨gX, 0, none⟩)) rfl (fun _ _ => rfl) rfl (fun x wc hd => ?_) (fun hc x wc hb hd => ?_) ?_
    ·have hG : x 28 = (if (!s4) = true then .bool e5 else undef) := hd 28 (by kernel_rfl)
     cases s4 <;> cases e5 <;> simp [Region.wanted, yielded, hG, undef]
    ·(go_simp; try rfl)
    refine StepsAt.condV 37 (!s4 && e5) (txt pa) rfl (fun _ _ => rfl) rfl (fun x wc hd => ?_) (fun hc x wc hb hd => ?_) ?_
    ·have hG : x 28 = (if (!s4) = true then .bool e5 else undef) := hd 28 (by kernel_rfl)
     cases s4 <;> cases e5 <;> simp [Region.wanted, yielded, hG, undef]
    ·have h36 : x 36 = .pointer (some ⟨gX, 0, none⟩) := (show x 36 = (if (!s4 && e5) = true then .pointer (some ⟨gX, 0, none⟩) else undef) from hd 36 (by kernel_rfl)).trans (if_pos hc)
     have cc := ((XB2.out.below hb XB2.out.lt).cell 0).trans (show _ = some (txt pa) from rfl)
     rw [h36]
     (go_simp; try rfl)
    refine StepsAt.condC 38 (!s4 && e5) (.bool ab) rfl (fun _ _ => rfl) rfl (fun x wc hd => ?_) (fun hc x wc hb hd K hK => ?_) ?_
    ·have hG : x 28 = (if (!s4) = true then .bool e5 else undef) := hd 28 (by kernel_rfl)
     cases s4 <;> cases e5 <;> simp [Region.wanted, yielded, hG, undef]
    ·have h35 : Hid (x 35 = txt pj) := (show x 35 = (if (!s4 && e5) = true then txt pj else undef) from hd 35 (by kernel_rfl)).trans (if_pos hc)
     have h37 : Hid (x 37 = txt pa) := (show x 37 = (if (!s4 && e5) = true then txt pa else undef) from hd 37 (by kernel_rfl)).trans (if_pos hc)
     go_simp
     refine calls_args (args2 := #[txt pj, txt pa]) (by rw [h35.out, h37.out]) ?_
     refine (aheadIs pj pa ab HAB.out _).mono ?_
     rintro e w99 ⟨rfl, hb99⟩
     exact hK.out _ _ hb99 rfl
    refine StepsAt.condV 39 (!s4 && e5) (.bool e6) rfl (fun _ _ => rfl) rfl (fun x wc hd => ?_) (fun hc x wc hb hd => ?_) ?_
    ·have hG : x 28 = (if (!s4) = true then .bool e5 else undef) := hd 28 (by kernel_rfl)
     cases s4 <;> cases e5 <;> simp [Region.wanted, yielded, hG, undef]
    ·have h38 : x 38 = .bool ab := (show x 38 = (if (!s4 && e5) = true then .bool ab else undef) from hd 38 (by kernel_rfl)).trans (if_pos hc)
     have hq := HE6.out
     rw [h38]
     rw [← hq]
     (go_simp; try rfl)
    refine StepsAt.condV 40 (!s4) (.bool s5) rfl (fun _ _ => rfl) rfl (fun x wc hd => ?_) (fun hc x wc hb hd => ?_) ?_
    ·have hG : x 25 = .bool s4 := hd 25 (by kernel_rfl)
     cases s4 <;> simp [Region.wanted, yielded, hG]
    ·have h28 : x 28 = .bool e5 := (show x 28 = (if (!s4) = true then .bool e5 else undef) from hd 28 (by kernel_rfl)).trans (if_pos hc)
     have h39 : x 39 = (if (!s4 && e5) = true then .bool e6 else undef) := hd 39 (by kernel_rfl)
     have hq := HS5.out
     cases e5 with
     | true =>
       have h39 : x 39 = .bool e6 := h39.trans (if_pos (by rw [hc]; rfl))
       rw [← hq, h28, h39]
       clear hq
       (go_simp; try rfl)
     | false =>
       have h39 : x 39 = undef := h39.trans (if_neg (by simp))
       rw [← hq, h28, h39]
       clear hq
       (go_simp; try rfl)
    refine StepsAt.val 41 (.bool s6) rfl (fun _ _ => rfl) rfl rfl (fun x wc hb hd => ?_) ?_
    ·have h25 : x 25 = .bool s4 := hd 25 (by kernel_rfl)
     have h40 : x 40 = (if (!s4) = true then .bool s5 else undef) := hd 40 (by kernel_rfl)
     have hq := HS6.out
     cases s4 with
     | true =>
       have h40 : x 40 = undef := h40
       rw [← hq, h25, h40]
       clear hq
       (go_simp; try rfl)
     | false =>
       have h40 : x 40 = .bool s5 := h40
       rw [← hq, h25, h40]
       clear hq
       (go_simp; try rfl)
    exact StepsAt.done
   case fin =>
    intro x wc hb hd
    have hx0 : x 0 = .pointer (some ⟨gX, 0, none⟩) := hd 0 (by omega)
    have hx1 : x 1 = txt pa := hd 1 (by omega)
    have hx2 : x 2 = .bool rb := hd 2 (by omega)
    have hx3 : x 3 = .bool s0 := hd 3 (by omega)
    have hx4 : x 4 = .bool s0 := hd 4 (by omega)
    have hx5 : x 5 = (if (!s0) = true then .pointer (some ⟨gX, 1, none⟩) else undef) := hd 5 (by omega)
    have hx6 : x 6 = (if (!s0) = true then txt va else undef) := hd 6 (by omega)
    have hx7 : x 7 = (if (!s0) = true then .int .i64 (k : Int) else undef) := hd 7 (by omega)
    have hx8 : x 8 = (if (!s0) = true then .bool e1 else undef) := hd 8 (by omega)
    have hx9 : x 9 = .bool s1 := hd 9 (by omega)
    have hx10 : x 10 = .bool s1 := hd 10 (by omega)
    have hx11 : x 11 = (if (!s1) = true then .pointer (some ⟨gX, 2, none⟩) else undef) := hd 11 (by omega)
    have hx12 : x 12 = (if (!s1) = true then .int .i64 r else undef) := hd 12 (by omega)
    have hx13 : x 13 = (if (!s1) = true then .bool e2 else undef) := hd 13 (by omega)
    have hx14 : x 14 = .bool s2 := hd 14 (by omega)
    have hx15 : x 15 = .bool s2 := hd 15 (by omega)
    have hx16 : x 16 = (if (!s2) = true then .pointer (some ⟨gX, 2, none⟩) else undef) := hd 16 (by omega)
    have hx17 : x 17 = (if (!s2) = true then .int .i64 r else undef) := hd 17 (by omega)
    have hx18 : x 18 = (if (!s2) = true then .bool e3 else undef) := hd 18 (by omega)
    have hx19 : x 19 = .bool s3 := hd 19 (by omega)
    have hx20 : x 20 = .bool s3 := hd 20 (by omega)
    have hx21 : x 21 = (if (!s3) = true then .pointer (some ⟨gX, 3, none⟩) else undef) := hd 21 (by omega)
    have hx22 : x 22 = (if (!s3) = true then .int .i64 oo else undef) := hd 22 (by omega)
    have hx23 : x 23 = (if (!s3) = true then .bool e4 else undef) := hd 23 (by omega)
    have hx24 : x 24 = .bool s4 := hd 24 (by omega)
    have hx25 : x 25 = .bool s4 := hd 25 (by omega)
    have hx26 : x 26 = (if (!s4) = true then .int .i64 (i : Int) else undef) := hd 26 (by omega)
    have hx27 : x 27 = (if (!s4) = true then .bool e5 else undef) := hd 27 (by omega)
    have hx28 : x 28 = (if (!s4) = true then .bool e5 else undef) := hd 28 (by omega)
    have hx29 : x 29 = (if (!s4 && e5) = true then .pointer (some ⟨g0, 0, none⟩) else undef) := hd 29 (by omega)
    have hx30 : x 30 = (if (!s4 && e5) = true then .slice (some a) n cp else undef) := hd 30 (by omega)
    have hx31 : x 31 = (if (!s4 && e5) = true then .int .i64 (i : Int) else undef) := hd 31 (by omega)
    have hx32 : x 32 = (if (!s4 && e5) = true then .int .i64 (j : Int) else undef) := hd 32 (by omega)
    have hx33 : x 33 = (if (!s4 && e5) = true then .pointer (some (a.add (j * 4))) else undef) := hd 33 (by omega)
    have hx34 : x 34 = (if (!s4 && e5) = true then .pointer (some (a.add (j * 4))) else undef) := hd 34 (by omega)
    have hx35 : x 35 = (if (!s4 && e5) = true then txt pj else undef) := hd 35 (by omega)
    have hx36 : x 36 = (if (!s4 && e5) = true then .pointer (some ⟨gX, 0, none⟩) else undef) := hd 36 (by omega)
    have hx37 : x 37 = (if (!s4 && e5) = true then txt pa else undef) := hd 37 (by omega)
    have hx38 : x 38 = (if (!s4 && e5) = true then .bool ab else undef) := hd 38 (by omega)
    have hx39 : x 39 = (if (!s4 && e5) = true then .bool e6 else undef) := hd 39 (by omega)
    have hx40 : x 40 = (if (!s4) = true then .bool s5 else undef) := hd 40 (by omega)
    have hx41 : x 41 = .bool s6 := hd 41 (by omega)
    refine AnyTill.any (S := fun _ => True) (m := 42) _ _ _ _ ?_
    refine AnyTill.done (by kernel_rfl) ?_
    refine NoPanic.normal ?_
    try dsimp only
    rw [hx41]
    have HWc := lhd (HWb.out.trans (hb.mono hsb))
    have XC := lhd (XB2.out.below hb XB2.out.lt)
    have XGc := lhd (XG.out.below hb XG.out.lt)
    clear hx0 hx1 hx2 hx3 hx4 hx5 hx6 hx7 hx8 hx9 hx10 hx11 hx12 hx13 hx14 hx15 hx16 hx17 hx18 hx19 hx20 hx21 hx22 hx23 hx24 hx25 hx26 hx27 hx28 hx29 hx30 hx31 hx32 hx33 hx34 hx35 hx36 hx37 hx38 hx39 hx40 hx41 hd hb XB2 XG HWb
    cases s6 with
    | true =>
      have HF := lhd (okN_not l i (by rw [HN.out]; exact hi2) (by rw [HOK.out]; rfl))
      go_wp2
      go_ret
      exact ⟨by rw [HF.out]; rfl, HB.out.trans (HWc.out.mono hw1)⟩
    | false =>
      have OKU : Hid (okN l i = upN l nd) := HOK.out
      clear HOK
      have d0 := XC.out.at_ 0 _ rfl
      go_wp2_with fail
      refine (rfParent_any pa wc).mono ?_
      rintro e wd ⟨rfl, hb⟩
      have XD := lhd (XC.out.below hb XC.out.lt)
      have XGd := lhd (XGc.out.below hb XGc.out.lt)
      have HWd := lhd (HWc.out.trans (hb.mono HWc.out.size))
      have d3 := XD.out.at_ 3 _ rfl
      have ca := XGd.out.cell 0
      clear hb XC XGc HWc d0
      have HUPN : Hid (upN l nd = if parentE pa = 0 then hasN l (parentS pa) && decide (nO (nodeN l (parentS pa)) = 0) else decide (oo = 0)) := by
       show _ = _
       unfold upN
       rw [HPA.out, HOO.out]
      obtain ⟨up, hup⟩ : ∃ up, parentS pa = up := ⟨_, rfl⟩
      obtain ⟨pf, hpf⟩ : ∃ f, parentE pa = f := ⟨_, rfl⟩
      rw [hup, hpf] at HUPN
      rw [hup, hpf]
      clear hup hpf
      by_cases hf0 : pf = 0
      ·subst hf0
       go_wp2_with fail
       refine (rfAt_any l up _ wd ((HR.out.below (HB.out.trans (HWd.out.mono hw1))).more (HB.out.trans (HWd.out.mono hw1)).size)).mono ?_
       rintro e we ⟨rfl, hb⟩
       have XGe := lhd (XGd.out.below hb XGd.out.lt)
       have HWe := lhd (HWd.out.trans (hb.mono HWd.out.size))
       clear hb ca d3 XD XGd HWd
       have ca := XGe.out.cell 0
       rcases atI_or l up with ⟨h1, h2, h3⟩ | ⟨h1, h2⟩
       ·rw [h2]
        rw [HN.out] at h3
        obtain ⟨q, hq⟩ : ∃ q, placeN l up = q := ⟨_, rfl⟩
        rw [hq] at h3 ⊢
        have zq : (q : Int) < (n : Int) := by omega
        obtain ⟨a9, hA9, -, -, -, c3⟩ := (HR.out.below (HB.out.trans (HWe.out.mono hw1))).at_ q (by rw [HN.out]; exact h3)
        obtain rfl : a = a9 := Option.some.inj hA9
        have hnq : nodeN l up = l.getD q nd0 := by unfold nodeN; rw [hq]
        obtain ⟨y, hy⟩ : ∃ y, nO (l.getD q nd0) = y := ⟨_, rfl⟩
        rw [hy] at c3
        have HUV : Hid (upN l nd = decide (y = 0)) := by
         show _ = _
         rw [HUPN.out, h1, hnq, hy]; simp
        clear hA9 h1 h2 hq hnq hy
        by_cases hy0 : y = 0
        ·have HA2 : Hid (∀ j, j < i + 1 → okN l j = true) := by
          intro j hj
          by_cases h : j < i
          ·exact HA.out j h
          ·have : j = i := by omega
           subst this
           rw [OKU.out, HUV.out]; simp [hy0]
         subst hy0
         go_wp2
         go_roundw
         case rel => exact ⟨i + 1, by omega, by go_num, HA2, HWe⟩
         case measure => simp [intOf]; omega
        ·have hyb : (y != 0) = true := by rw [bne_iff_ne]; exact hy0
         have HF := lhd (okN_not l i (by rw [HN.out]; exact hi2) (by rw [OKU.out, HUV.out]; simp [hy0]))
         clear hy0
         go_wp2
         go_ret
         exact ⟨by rw [HF.out]; rfl, HB.out.trans (HWe.out.mono hw1)⟩
       ·rw [h2]
        have HF := lhd (okN_not l i (by rw [HN.out]; exact hi2) (by rw [OKU.out, HUPN.out, h1]; simp))
        clear h1 h2
        go_wp2
        go_ret
        exact ⟨by rw [HF.out]; rfl, HB.out.trans (HWe.out.mono hw1)⟩
      ·have hfb : ((pf : Int) != 0) = true := by
        rw [bne_iff_ne]
        omega
       have HUV : Hid (upN l nd = decide (oo = 0)) := by
        show _ = _
        rw [HUPN.out, if_neg hf0]
       clear hf0
       by_cases hy0 : oo = 0
       ·have HA2 : Hid (∀ j, j < i + 1 → okN l j = true) := by
         intro j hj
         by_cases h : j < i
         ·exact HA.out j h
         ·have : j = i := by omega
          subst this
          rw [OKU.out, HUV.out]; simp [hy0]
        have hyb : (oo != 0) = false := by rw [hy0]; rfl
        clear hy0
        go_wp2
        go_roundw
        case rel => exact ⟨i + 1, by omega, by go_num, HA2, HWd⟩
        case measure => simp [intOf]; omega
       ·have hyb : (oo != 0) = true := by rw [bne_iff_ne]; exact hy0
        have HF := lhd (okN_not l i (by rw [HN.out]; exact hi2) (by rw [OKU.out, HUV.out]; simp [hy0]))
        clear hy0
        go_wp2
        go_ret
        exact ⟨by rw [HF.out]; rfl, HB.out.trans (HWd.out.mono hw1)⟩
  ·have hE : i = n := by omega
   subst hE
   have HE := lhd (rightN_end l (by rw [HN.out]; omega) (by rw [HN.out]; omega) (by rw [HN.out]; exact HA.out))
   go_wp2_with fail
   refine (rfAt_any l [47] _ wr ((HR.out.below (HB.out.trans (HW.out.mono hw1))).more (HB.out.trans (HW.out.mono hw1)).size)).mono ?_
   rintro e we ⟨rfl, hb⟩
   have HWe := lhd (HW.out.trans (hb.mono hwr))
   clear hb ca
   rcases atI_or l [47] with ⟨h1, h2, h3⟩ | ⟨h1, h2⟩
   ·rw [h2]
    have hEQ : (decide (placeN l [47] = 0)) = ((placeN l [47] : Int) == 0) := by
     by_cases h : placeN l [47] = 0
     ·rw [h]; rfl
     ·have e2 : ((placeN l [47] : Int) == 0) = false := by
       rw [beq_eq_false_iff_ne]
       omega
      rw [e2]; simp [h]
    have HF : Hid (rightN l = ((placeN l [47] : Int) == 0)) := by
     show _ = _
     rw [HE.out, hEQ]
    clear h1 h2 h3 hEQ
    go_wp2
    go_ret
    exact ⟨by rw [HF.out]; rfl, HB.out.trans (HWe.out.mono hw1)⟩
   ·rw [h2]
    have HF : Hid (rightN l = false) := by
     show _ = _
     rw [HE.out]
     unfold hasN at h1
     rw [decide_eq_false_iff_not] at h1 ⊢
     rw [HN.out] at h1
     omega
    clear h1 h2
    go_wp2
    go_ret
    exact ⟨by rw [HF.out]; rfl, HB.out.trans (HWe.out.mono hw1)⟩
end Go.Proofs.YtdihngkdhanhkaaGreatDoor
