/-
  The statements on paths: PathTells.
-/
import Derived.Test.YtlpakfaoaodaiaaDoorYB
namespace Go.Proofs.YtlpakfaoaodaiaaDoor
open Go.RowKit

set_option maxRecDepth 100000 in
set_option maxHeartbeats 2000000 in
theorem same_texts (l : List (List UInt8)) (v v2 : Value) (B B2 : Nat) (w : World) (h1 : RdS B w v (bas l)) (h2 : RdS B2 w v2 (bas l)) : Calls Tryd.prog 26 #[v, v2] w (One (.bool true) w) := by
  obtain ⟨A, cp, rfl, hc, hm⟩ := h1.shape
  obtain ⟨A2, cp2, rfl, hc2, hm2⟩ := h2.shape
  unfold maxLen at hm hm2
  rw [bas_length] at hc hc2 h1 h2 ⊢
  obtain ⟨n, hn⟩ : ∃ n, l.length = n := ⟨_, rfl⟩
  have HN := Lib.hid hn
  rw [hn] at hc hc2 h1 h2 ⊢
  have H1 := Lib.hid h1
  have H2 := Lib.hid h2
  clear hn h1 h2
  go_enter Tryd.func26, Tryd.ntmps26
  go_wp2
  go_loopw [5] (fun vi wr => ∃ i : Nat, i ≤ n ∧ vi = .int .i64 (i : Int) ∧ ∃ nq, wr = w.drewN nq) (fun vi _ => n - (intOf vi).toNat)
  case atStart => exact ⟨0, by omega, rfl, 0, (World.drewN_zero _).symm⟩
  case round =>
    obtain ⟨i, hi, rfl, nq, rfl⟩ := hrel
    by_cases hi2 : i < n
    · have zj : (i : Int) < (n : Int) := by omega
      obtain ⟨a1, hA1, ca⟩ := H1.out.at_ i (by rw [bas_length, HN.out]; exact hi2)
      obtain ⟨a2, hA2, cb⟩ := H2.out.at_ i (by rw [bas_length, HN.out]; exact hi2)
      subst hA1 hA2
      obtain ⟨x, hx⟩ : ∃ x, l.getD i [] = x := ⟨_, rfl⟩
      rw [bas_at l i (by rw [HN.out]; exact hi2) x hx] at ca cb
      clear hx
      have xx : (x == x) = true := by simp
      go_wp2
      refine wp_region_quiet_lit (by kernel_rfl) (by kernel_rfl) ?_
      repeat (first | go_big_quiet_step (fail) | quiet_step (fail))
      refine wpQuiet_nil ?_
      intro _ hw'
      obtain ⟨nr, hw''⟩ := hw'
      subst hw''
      try rw [xx]
      try simp only [Bool.not_true]
      go_wp2
      go_roundw
      case rel => exact ⟨i + 1, by omega, by go_num, nq + nr, rfl⟩
      case measure => simp [intOf]; omega
    · have zj : ¬ (i : Int) < (n : Int) := by omega
      go_wp2
      go_ret
      exact ⟨rfl, Below.drewN' (Below.refl _ _)⟩

end Go.Proofs.YtlpakfaoaodaiaaDoor
