/-
  The document's books: Right.
-/
import Derived.Test.YtjcombbmngpkpaaJA
import Derived.Deep.QuietTactic
import Derived.BigQuiet
namespace Go.Proofs.Ytjcombbmngpkpaa
open Go.RowKit

theorem zSe10 : (Try.prog.info? 58).map (·.zero) = some (some (.agg (sec se0).toArray)) := by kernel_rfl
theorem sSe10 : (Try.prog.info? 58).map (·.size) = some 3 := by kernel_rfl

set_option maxRecDepth 100000 in
set_option maxHeartbeats 16000000 in
theorem rfRightB_any (t : Int) (l : List Se) (v : Value) (w : World) (hr : RdE SeK w.heap.size w v l) : Calls Try.prog 10 #[.agg #[.int .i64 t, v]] w (One (.bool (rightS t l)) w) := by
  obtain ⟨A, cp, rfl, hc, hm⟩ := hr.shape
  unfold maxLen at hm
  obtain ⟨n, hn⟩ : ∃ n, l.length = n := ⟨_, rfl⟩
  have HN := Lib.hid hn
  have HR := Lib.hid hr
  rw [hn] at hc HR ⊢
  clear hr hn
  go_enter Try.func10, Try.ntmps10
  go_wp2_with (refine wpList_box_blk rfl 30 _ rfl [.int .i64 t, .slice A n cp] rfl ?_)
  intro w1 b1 b2 b3
  obtain ⟨g0, hg0⟩ : ∃ g, w.heap.size = g := ⟨_, rfl⟩
  have X0 := Lib.hid b1
  have HB := Lib.hid b3
  have hg1 : g0 < w1.heap.size := by omega
  have hw1 : w.heap.size ≤ w1.heap.size := by omega
  rw [hg0] at X0 ⊢
  have ca := X0.out.cell 0
  have cb := X0.out.at_ 1 _ rfl
  clear b1 b2 b3 hg0
  by_cases ht1 : t < 0
  · have HF := Lib.hid (rightS_head t l (.inl ht1))
    go_wp2
    go_ret
    exact ⟨by rw [HF.out]; rfl, HB.out⟩
  by_cases ht2 : 1000000000 < t
  · have HF := Lib.hid (rightS_head t l (.inr (.inl ht2)))
    go_wp2
    go_ret
    exact ⟨by rw [HF.out]; rfl, HB.out⟩
  by_cases hhi : 50 < (n : Int)
  · have HF := Lib.hid (rightS_head t l (.inr (.inr (by rw [HN.out]; omega))))
    go_wp2
    go_ret
    exact ⟨by rw [HF.out]; rfl, HB.out⟩
  go_wp2
  go_loopw [3] (fun x wr => ∃ i : Nat, i ≤ n ∧ x = .int .i64 (i : Int) ∧ Hid (∀ j, j < i → okS t l j = true) ∧ Hid (Below w1.heap.size w1 wr)) (fun x _ => n - (intOf x).toNat)
  case atStart => exact ⟨0, by omega, rfl, fun j hj => by omega, Below.refl _ _⟩
  case round =>
    obtain ⟨i, hi, rfl, HA, HW⟩ := hrel
    have hwr := HW.out.size
    clear ca cb
    have cb := (X0.out.below HW.out hg1).at_ 1 _ rfl
    by_cases hi2 : i < n
    · have zi : (i : Int) < (n : Int) := by omega
      obtain ⟨a, hA, c0, c1, c2⟩ := (HR.out.below (HB.out.trans (HW.out.mono hw1))).at3 i (by rw [HN.out]; exact hi2)
      subst hA
      obtain ⟨nd, hx⟩ : ∃ x, l.getD i se0 = x := ⟨_, rfl⟩
      have HX := Lib.hid hx
      rw [hx] at c0 c1 c2
      clear hx
      go_wp2_with (refine wpList_alloc_blk rfl 58 rfl (sec se0) zSe10 ?_)
      intro wa a1 a2 a3
      obtain ⟨gX, hgX⟩ : ∃ g, wr.heap.size = g := ⟨_, rfl⟩
      have A1 := Lib.hid a1
      have HWa := Lib.hid (HW.out.trans (a3.mono hwr))
      have hwX : w1.heap.size ≤ gX := by omega
      rw [hgX] at A1 ⊢
      clear a1 a2 a3 HW c0 c1 c2 cb hgX
      go_wp2_with (refine wpList_store_to rfl 58 _ _ rfl gX (sec nd) (sec se0) 58 rfl rfl A1.out sSe10 rfl (sec_all _) ?_)
      intro wb e1 e2 e3 e4
      have XB := Lib.hid e1
      have HWb := Lib.hid (HWa.out.trans (e3.mono hwX))
      have hsb : w1.heap.size ≤ wb.heap.size := HWb.out.size
      clear e1 e2 e3 e4 A1 HWa
      have HFI0 : fineS t nd = (decide (1 ≤ sI nd) && decide (1 ≤ sP nd) && decide (sP nd ≤ 1000) && decide (t < sU nd) && decide (sU nd ≤ t + sP nd)) := rfl
      have OK : Hid (okS t l i = (fineS t nd && (decide (i = 0) || decide (sI (l.getD (i - 1) se0) < sI nd)))) := by
        show _ = _
        unfold okS
        rw [HX.out]
      obtain ⟨d, hd⟩ : ∃ z, sI nd = z := ⟨_, rfl⟩
      obtain ⟨p, hp⟩ : ∃ z, sP nd = z := ⟨_, rfl⟩
      obtain ⟨u, hu⟩ : ∃ z, sU nd = z := ⟨_, rfl⟩
      have XX := XB.out
      unfold sec at XX
      rw [hd, hp, hu] at HFI0 XX
      rw [hd] at OK
      have HFI := Lib.hid HFI0
      have d0 := XX.at_ 0 _ rfl
      have d1 := XX.at_ 1 _ rfl
      have d2 := XX.at_ 2 _ rfl
      have ca := (X0.out.below HWb.out hg1).cell 0
      have cb := (X0.out.below HWb.out hg1).at_ 1 _ rfl
      clear HFI0 XX hd hp hu XB
      by_cases h1 : d < 1
      · have HF := Lib.hid (okS_not t l i (by rw [HN.out]; exact hi2) (by rw [OK.out, HFI.out]; rw [decide_eq_false (show ¬ 1 ≤ d by omega)]; simp))
        go_wp2
        refine wp_region_quiet_lit (by kernel_rfl) (by kernel_rfl) ?_
        repeat (first | go_big_quiet_step (fail) | quiet_step (fail))
        refine wpQuiet_nil ?_
        intro _ hw'
        obtain ⟨nq, hw''⟩ := hw'
        subst hw''
        have HWc : Hid (Below w1.heap.size w1 (wb.drewN nq)) := Below.drewN' HWb.out
        go_wp2
        go_ret
        exact ⟨by rw [HF.out]; rfl, HB.out.trans (HWc.out.mono hw1)⟩
      by_cases h2 : p < 1
      · have HF := Lib.hid (okS_not t l i (by rw [HN.out]; exact hi2) (by rw [OK.out, HFI.out]; rw [decide_eq_false (show ¬ 1 ≤ p by omega)]; simp))
        go_wp2
        refine wp_region_quiet_lit (by kernel_rfl) (by kernel_rfl) ?_
        repeat (first | go_big_quiet_step (fail) | quiet_step (fail))
        refine wpQuiet_nil ?_
        intro _ hw'
        obtain ⟨nq, hw''⟩ := hw'
        subst hw''
        have HWc : Hid (Below w1.heap.size w1 (wb.drewN nq)) := Below.drewN' HWb.out
        go_wp2
        go_ret
        exact ⟨by rw [HF.out]; rfl, HB.out.trans (HWc.out.mono hw1)⟩
      by_cases h3 : 1000 < p
      · have HF := Lib.hid (okS_not t l i (by rw [HN.out]; exact hi2) (by rw [OK.out, HFI.out]; rw [decide_eq_false (show ¬ p ≤ 1000 by omega)]; simp))
        go_wp2
        refine wp_region_quiet_lit (by kernel_rfl) (by kernel_rfl) ?_
        repeat (first | go_big_quiet_step (fail) | quiet_step (fail))
        refine wpQuiet_nil ?_
        intro _ hw'
        obtain ⟨nq, hw''⟩ := hw'
        subst hw''
        have HWc : Hid (Below w1.heap.size w1 (wb.drewN nq)) := Below.drewN' HWb.out
        go_wp2
        go_ret
        exact ⟨by rw [HF.out]; rfl, HB.out.trans (HWc.out.mono hw1)⟩
      by_cases h4 : u ≤ t
      · have HF := Lib.hid (okS_not t l i (by rw [HN.out]; exact hi2) (by rw [OK.out, HFI.out]; rw [decide_eq_false (show ¬ t < u by omega)]; simp))
        go_wp2
        refine wp_region_quiet_lit (by kernel_rfl) (by kernel_rfl) ?_
        repeat (first | go_big_quiet_step (fail) | quiet_step (fail))
        refine wpQuiet_nil ?_
        intro _ hw'
        obtain ⟨nq, hw''⟩ := hw'
        subst hw''
        have HWc : Hid (Below w1.heap.size w1 (wb.drewN nq)) := Below.drewN' HWb.out
        go_wp2
        go_ret
        exact ⟨by rw [HF.out]; rfl, HB.out.trans (HWc.out.mono hw1)⟩
      have wr1 : wrap64 (t + p) = t + p := by
        unfold wrap64
        omega
      have wr2 : IntKind.i64.wrap (t + p) = t + p := by
        rw [IntKind.wrap_i64]
        omega
      by_cases h5 : t + p < u
      · have HF := Lib.hid (okS_not t l i (by rw [HN.out]; exact hi2) (by rw [OK.out, HFI.out]; rw [decide_eq_false (show ¬ u ≤ t + p by omega)]; simp))
        go_wp2
        refine wp_region_quiet_lit (by kernel_rfl) (by kernel_rfl) ?_
        repeat (first | go_big_quiet_step (fail) | quiet_step (fail))
        refine wpQuiet_nil ?_
        intro _ hw'
        obtain ⟨nq, hw''⟩ := hw'
        subst hw''
        have HWc : Hid (Below w1.heap.size w1 (wb.drewN nq)) := Below.drewN' HWb.out
        go_wp2
        go_ret
        exact ⟨by rw [HF.out]; rfl, HB.out.trans (HWc.out.mono hw1)⟩
      have OK2 : Hid (okS t l i = (decide (i = 0) || decide (sI (l.getD (i - 1) se0) < d))) := by
        show _ = _
        rw [OK.out, HFI.out, decide_eq_true (show 1 ≤ d by omega), decide_eq_true (show 1 ≤ p by omega), decide_eq_true (show p ≤ 1000 by omega), decide_eq_true (show t < u by omega), decide_eq_true (show u ≤ t + p by omega)]
        simp
      have HA3 : Hid (okS t l i = true → ∀ j, j < i + 1 → okS t l j = true) := by
        intro h j hj
        by_cases h2 : j < i
        · exact HA.out j h2
        · have : j = i := by omega
          rw [this]; exact h
      clear OK HFI
      by_cases h6 : i = 0
      · have hz : ¬ 0 < i := by omega
        have HA2 := Lib.hid (HA3.out (by rw [OK2.out, decide_eq_true h6]; rfl))
        clear h6
        go_wp2
        refine wp_region_quiet_lit (by kernel_rfl) (by kernel_rfl) ?_
        repeat (first | go_big_quiet_step (fail) | quiet_step (fail))
        refine wpQuiet_nil ?_
        intro _ hw'
        obtain ⟨nq, hw''⟩ := hw'
        subst hw''
        have HWc : Hid (Below w1.heap.size w1 (wb.drewN nq)) := Below.drewN' HWb.out
        go_wp2
        go_roundw
        case rel => exact ⟨i + 1, by omega, by go_num, HA2, HWc⟩
        case measure => simp [intOf]; omega
      have hz : 0 < i := by omega
      have hz1 : (0 : Int) < (i : Int) := by omega
      obtain ⟨j, hj⟩ : ∃ j, i = j + 1 := ⟨i - 1, by omega⟩
      have HJ := Lib.hid hj
      have wj1 : wrap64 ((i : Int) - 1) = (j : Int) := by
        unfold wrap64
        omega
      have wj2 : IntKind.i64.wrap ((i : Int) - 1) = (j : Int) := by
        rw [IntKind.wrap_i64]
        omega
      have zj : (j : Int) < (n : Int) := by omega
      have zj2 : j < n := by omega
      obtain ⟨a9, hA9, k0, -, -⟩ := (HR.out.below (HB.out.trans (HWb.out.mono hw1))).at3 j (by rw [HN.out]; omega)
      obtain rfl : a = a9 := Option.some.inj hA9
      obtain ⟨q, hq⟩ : ∃ q, sI (l.getD j se0) = q := ⟨_, rfl⟩
      rw [hq] at k0
      have OK3 : Hid (okS t l i = decide (q < d)) := by
        show _ = _
        rw [OK2.out, decide_eq_false h6, hj, Nat.add_sub_cancel, hq]
        rfl
      clear hj hq h6 hA9 OK2
      by_cases h7 : d ≤ q
      · have HF := Lib.hid (okS_not t l i (by rw [HN.out]; exact hi2) (by rw [OK3.out]; exact decide_eq_false (by omega)))
        go_wp2
        refine wp_region_quiet_lit (by kernel_rfl) (by kernel_rfl) ?_
        repeat (first | go_big_quiet_step (fail) | quiet_step (fail))
        refine wpQuiet_nil ?_
        intro _ hw'
        obtain ⟨nq, hw''⟩ := hw'
        subst hw''
        have HWc : Hid (Below w1.heap.size w1 (wb.drewN nq)) := Below.drewN' HWb.out
        go_wp2
        go_ret
        exact ⟨by rw [HF.out]; rfl, HB.out.trans (HWc.out.mono hw1)⟩
      have HA2 := Lib.hid (HA3.out (by rw [OK3.out]; exact decide_eq_true (by omega)))
      go_wp2
      refine wp_region_quiet_lit (by kernel_rfl) (by kernel_rfl) ?_
      repeat (first | go_big_quiet_step (fail) | quiet_step (fail))
      refine wpQuiet_nil ?_
      intro _ hw'
      obtain ⟨nq, hw''⟩ := hw'
      subst hw''
      have HWc : Hid (Below w1.heap.size w1 (wb.drewN nq)) := Below.drewN' HWb.out
      go_wp2
      go_roundw
      case rel => exact ⟨i + 1, by omega, by go_num, HA2, HWc⟩
      case measure => simp [intOf]; omega
    · have hE : i = n := by omega
      subst hE
      have HF := Lib.hid (rightS_end t l (by omega) (by omega) (by rw [HN.out]; omega) (by rw [HN.out]; exact HA.out))
      go_wp2
      go_ret
      exact ⟨by rw [HF.out]; rfl, HB.out.trans (HW.out.mono hw1)⟩
end Go.Proofs.Ytjcombbmngpkpaa
