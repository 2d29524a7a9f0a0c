/-
  The program's watches: slices.Index, slices.Contains. Each theorem states its own conditions.
-/
import Derived.Test.YtmiomfonglmfjaaUG0
namespace Go.Proofs.Ytmiomfonglmfjaa
open Go.RowKit

/-- The call answers a place, or a number below 0 where there is none. -/
def IdxW (l : List Wa) (y : Wa) (w : World) (e : Ending) (w' : World) : Prop := ∃ z : Int, e = .returned (.int .i64 z) ∧ decide (0 ≤ z) = hasW l y ∧ Below w.heap.size w w'

set_option maxRecDepth 100000 in
set_option maxHeartbeats 4000000 in
theorem index_anyWa (l : List Wa) (y : Wa) (v : Value) (w : World) (hr : RdE WaK w.heap.size w v l) : Calls Try.prog 48 #[v, .agg #[txt (wP y), .int .i64 (wC y), .bool (wK y)]] w (IdxW l y w) := by
  obtain ⟨A, cp, rfl, hc, hm⟩ := hr.shape
  unfold maxLen at hm
  obtain ⟨n, hn⟩ : ∃ n, l.length = n := ⟨_, rfl⟩
  have HN := Lib.hid hn
  have HR := Lib.hid hr
  rw [hn] at hc HR ⊢
  clear hr hn
  go_enter Try.func48, Try.ntmps48
  go_wp2_with (refine wpList_box_blk rfl 31 _ rfl (wac y) rfl ?_)
  intro w1 b1 b2 b3
  have hs1 : w.heap.size ≤ w1.heap.size := by omega
  have HR1 := Lib.hid (HR.out.below b3)
  have HB := Lib.hid b3
  have X0 := Lib.hid b1
  obtain ⟨g, hg⟩ : ∃ g, w.heap.size = g := ⟨_, rfl⟩
  have hg1 : g < w1.heap.size := by omega
  rw [hg] at X0 ⊢
  clear b1 b2 b3 HR
  go_wp2
  go_loopw [5, 8] (fun _ x wr => ∃ i : Nat, i ≤ n ∧ x = .int .i64 (i : Int) ∧ Hid (∀ j, j < i → l.getD j wa0 ≠ y) ∧ Hid (Below w1.heap.size w1 wr)) (fun _ x _ => n - (intOf x).toNat)
  case atStart => exact ⟨0, by omega, rfl, fun j hj => by omega, Below.refl _ _⟩
  case round =>
    obtain ⟨i, hi, rfl, HA, HW⟩ := hrel
    by_cases hi2 : i < n
    · have zi : (i : Int) < (n : Int) := by omega
      obtain ⟨a, hA, c0, c1, c2⟩ := (HR1.out.below (HW.out.mono hs1)).atWa i (by rw [HN.out]; exact hi2)
      subst hA
      have X1 := X0.out.below HW.out hg1
      have d0 := X1.at_ 0 _ rfl
      have d1 := X1.at_ 1 _ rfl
      have d2 := X1.at_ 2 _ rfl
      clear X1
      obtain ⟨x, hx⟩ : ∃ x, l.getD i wa0 = x := ⟨_, rfl⟩
      rw [hx] at c0 c1 c2
      have hne := run_eqlWaP y x
      obtain ⟨B, hB⟩ : ∃ B, decide (y = x) = B := ⟨_, rfl⟩
      rw [hB] at hne
      go_wp2
      refine wp_region_quiet_lit (by kernel_rfl) (by kernel_rfl) ?_
      repeat (first | go_big_quiet_step (fail) | quiet_step (fail))
      refine wpQuiet_nil ?_
      intro _ hw'
      obtain ⟨nq, hw''⟩ := hw'
      subst hw''
      have HD2 : Hid (Below w1.heap.size w1 (wr.drewN nq)) := Below.drewN' HW.out
      cases B
      · have HA2 : Hid (∀ j, j < i + 1 → l.getD j wa0 ≠ y) := by
          intro j hj
          by_cases h : j < i
          · exact HA.out j h
          · have : j = i := by omega
            subst this
            rw [hx]
            intro h
            rw [h] at hB
            simp at hB
        clear hne
        go_wp2
        go_roundw
        case rel => exact ⟨i + 1, by omega, by go_num, HA2, HD2⟩
        case measure => simp [intOf]; omega
      · have HE := Lib.hid (hasW_here l y i (by rw [HN.out]; exact hi2) (by rw [hx]; exact (by simpa using hB : y = x).symm))
        clear hne
        go_wp2
        go_ret
        exact ⟨(i : Int), rfl, by rw [HE.out]; simp, HB.out.trans (HD2.out.mono hs1)⟩
    · have hE : i = n := by omega
      subst hE
      have HE := Lib.hid (hasW_none l y (by rw [HN.out]; exact HA.out))
      go_wp2
      go_ret
      exact ⟨-1, rfl, by rw [HE.out]; rfl, HB.out.trans (HW.out.mono hs1)⟩

set_option maxRecDepth 100000 in
set_option maxHeartbeats 4000000 in
theorem contains_anyWa (l : List Wa) (y : Wa) (v : Value) (w : World) (hr : RdE WaK w.heap.size w v l) : Calls Try.prog 32 #[v, .agg #[txt (wP y), .int .i64 (wC y), .bool (wK y)]] w (One (.bool (hasW l y)) w) := by
  have HR := Lib.hid hr
  clear hr
  go_enter Try.func32, Try.ntmps32
  go_wp2_with (refine wpList_box_blk rfl 31 _ rfl (wac y) rfl ?_)
  intro w1 b1 b2 b3
  have hs1 : w.heap.size ≤ w1.heap.size := by omega
  have HR1 := Lib.hid ((HR.out.below b3).more hs1)
  have HB := Lib.hid b3
  have X0 := Lib.hid b1
  obtain ⟨g, hg⟩ : ∃ g, w.heap.size = g := ⟨_, rfl⟩
  rw [hg] at X0 ⊢
  have d0 := X0.out.at_ 0 _ rfl
  have d1 := X0.out.at_ 1 _ rfl
  have d2 := X0.out.at_ 2 _ rfl
  clear b1 b2 b3 HR
  go_wp2_with fail
  refine (index_anyWa l y v w1 HR1.out).mono ?_
  rintro e w2 ⟨z, rfl, hz, hb⟩
  have HZ := Lib.hid hz
  have HB2 := Lib.hid (HB.out.trans (hb.mono hs1))
  clear hb hz d0 d1 d2
  by_cases h0 : 0 ≤ z
  · have HF : Hid (hasW l y = true) := by
      show _ = _
      rw [← HZ.out, decide_eq_true h0]
    go_wp2
    go_ret
    exact ⟨by rw [HF.out]; simp, HB2.out⟩
  · have HF : Hid (hasW l y = false) := by
      show _ = _
      rw [← HZ.out, decide_eq_false h0]
    go_wp2
    go_ret
    exact ⟨by rw [HF.out]; simp [h0], HB2.out⟩
theorem containsIsW (l : List Wa) (y : Wa) (b : Bool) (h : hasW l y = b) (v : Value) (w : World) (hr : RdE WaK w.heap.size w v l) : Calls Try.prog 32 #[v, .agg (wac y).toArray] w (One (.bool b) w) := by
  rw [← h]
  exact contains_anyWa l y v w hr
end Go.Proofs.Ytmiomfonglmfjaa
