/-
  The document's own power, Own, Check, Shift and Number: for every width and every hash; and what is no width.
-/
import Derived.Test.YtnemkefmlffigaaDgR1
namespace Go.Proofs.Ytnemkefmlffigaa
open Go.RowKit

/-- A power of two. -/
def pw (n : Nat) : Nat := 2 ^ n
theorem pw_le (n m : Nat) (h : n ≤ m) : pw n ≤ pw m := Nat.pow_le_pow_right (by omega) h

set_option maxHeartbeats 400000 in
theorem power_any (n : Nat) (w : World) (hn : n ≤ 40) : Calls Try.prog 86 #[.int .i64 (n : Int)] w (Just (.int .i64 (pw n : Nat)) w) := by
  go_enter Try.func86, Try.ntmps86
  go_wp2
  go_loop [3, 4] (fun p i => ∃ j : Nat, j ≤ n ∧ p = .int .i64 (pw j : Nat) ∧ i = .int .i64 j) (fun _ i => n - (intOf i).toNat)
  case atStart => exact ⟨0, by omega, rfl, rfl⟩
  case round =>
    obtain ⟨j, hj, rfl, rfl⟩ := hrel
    have h40 : pw j ≤ 1099511627776 := pw_le j 40 (by omega)
    have HS : Hid (2 * pw j = pw (j + 1)) := by show _ = 2 ^ (j + 1); rw [Nat.pow_succ, Nat.mul_comm]; rfl
    by_cases hlt : j < n
    · generalize pw j = y at h40 HS
      go_wp2
      go_round
      case rel => exact ⟨j + 1, by omega, by rw [← HS.out]; go_num, by go_num⟩
      case measure => simp [intOf]; omega
    · obtain rfl : j = n := by omega
      go_wp2
      go_ret
      exact ⟨rfl, rfl⟩

set_option maxHeartbeats 400000 in
theorem refOwn_yes (k : Nat) (w : World) (hk : Wd k) : Calls Try.prog 84 #[.int .i64 (k : Int)] w (Just (.tuple #[.int .i64 (onn k : Nat), .int .i64 0]) w) := by
  have HK := Lib.hid hk
  obtain ⟨k1, k8, _, _⟩ := hk.le
  have zk : ¬ k = 0 := by omega
  obtain ⟨P, hP⟩ : ∃ P, onn k = P := ⟨_, rfl⟩
  have e1 : (256 : Int) / (k : Int) = (P : Int) := by rw [← hP]; unfold onn; simp
  rw [hP]
  clear hk hP
  go_enter Try.func84, Try.ntmps84
  go_wp2_with fail
  refine (width_yes k _ HK.out).mono ?_
  rintro e w2 ⟨rfl, rfl⟩
  go_wp2
  go_ret2
  exact ⟨by rw [← e1]; rfl, rfl⟩
set_option maxHeartbeats 400000 in
theorem refOwn_no (z : Int) (w : World) (hz : NoW z) : Calls Try.prog 84 #[.int .i64 z] w (Just (.tuple #[.int .i64 0, .int .i64 1]) w) := by
  obtain ⟨h1, h2, h4, h8⟩ := hz
  go_enter Try.func84, Try.ntmps84
  go_wp2_with fail
  refine (width_no z _ h1 h2 h4 h8).mono ?_
  rintro e w2 ⟨rfl, rfl⟩
  go_wp2
  go_ret2
  exact ⟨rfl, rfl⟩

theorem chk_last (k : Nat) (hk : Wd k) : (∀ j, j < chk k → pw (j * k) ≤ onn k * gr k) ∧ onn k * gr k < pw (chk k * k) ∧ chk k * k ≤ 16 := by
  rcases hk with rfl | rfl | rfl | rfl <;> decide

set_option maxHeartbeats 400000 in
theorem refCheck_yes (k : Nat) (w : World) (hk : Wd k) : Calls Try.prog 65 #[.int .i64 (k : Int)] w (Drew (.tuple #[.int .i64 (chk k : Nat), .int .i64 0]) w) := by
  have HK := Lib.hid hk
  obtain ⟨k1, k8, hP1, hG1⟩ := hk.le
  have zk : ¬ k = 0 := by omega
  have hc := chk_le k
  have HC := Lib.hid (chk_last k hk)
  obtain ⟨P, hP⟩ : ∃ P, onn k = P := ⟨_, rfl⟩
  have e1 : (256 : Int) / (k : Int) = (P : Int) := by rw [← hP]; unfold onn; simp
  have hG : pw k = gr k + 1 := by unfold gr pw; have := Nat.two_pow_pos k; omega
  obtain ⟨G, hG0⟩ : ∃ G, gr k = G := ⟨_, rfl⟩
  obtain ⟨M, hM⟩ : ∃ M, P * G = M := ⟨_, rfl⟩
  have e2 : (P : Int) * (G : Int) = (M : Int) := by rw [← hM]; simp
  have hM2 : M ≤ 65280 := by rw [← hM, ← hP, ← hG0]; exact Nat.mul_le_mul hP1 hG1
  rw [hP, hG0, hM] at HC
  rw [hP] at hP1
  rw [hG0] at hG1 hG
  obtain ⟨C, hC⟩ : ∃ C, chk k = C := ⟨_, rfl⟩
  rw [hC] at HC hc ⊢
  have CP : Hid (∀ w', Calls Try.prog 86 #[.int .i64 (k : Int)] w' (Just (.int .i64 ((G : Int) + 1)) w')) := fun w' => by
    have h := power_any k w' (by omega)
    rw [hG] at h
    simpa using h
  clear hk hP hM hC hG0 hG
  go_enter Try.func65, Try.ntmps65
  go_wp2_with fail
  refine (width_yes k _ HK.out).mono ?_
  rintro e w2 ⟨rfl, rfl⟩
  go_wp2
  refine wp_region_quiet_lit (by kernel_rfl) (by kernel_rfl) ?_
  repeat (first | go_big_quiet_step ((go_at_call 86; exact Just.quiet (CP.out _))) | quiet_step ((go_at_call 86; exact Just.quiet (CP.out _))))
  refine wpQuiet_nil ?_
  intro _ hw'
  obtain ⟨nq, hw''⟩ := hw'
  subst hw''
  clear CP
  go_wp2
  clear e1 e2
  go_loop [5] (fun x => ∃ j : Nat, j ≤ C ∧ x = .int .i64 j) (fun x => C - (intOf x).toNat)
  case atStart => exact ⟨0, by omega, rfl⟩
  case round =>
    obtain ⟨j, hj, rfl⟩ := hrel
    obtain ⟨Q, hQ⟩ : ∃ Q, j * k = Q := ⟨_, rfl⟩
    have e3 : (j : Int) * (k : Int) = (Q : Int) := by rw [← hQ]; simp
    have hQ2 : Q ≤ 72 := by rw [← hQ]; exact Nat.mul_le_mul (show j ≤ 9 by omega) k8
    by_cases hlt : j < C
    · have h1 : pw Q ≤ M := by rw [← hQ]; exact HC.out.1 j hlt
      have hQ3 : Q ≤ 40 := by
        rcases Nat.lt_or_ge 40 Q with h | h
        · have h2 : pw 41 ≤ pw Q := pw_le _ _ h
          have h3 : pw 41 = 2199023255552 := by decide
          omega
        · exact h
      have HP : Hid (Calls Try.prog 86 #[.int .i64 (Q : Int)] (w.drewN nq) (Just (.int .i64 (pw Q : Nat)) (w.drewN nq))) := power_any Q _ hQ3
      generalize pw Q = y at h1 HP
      clear hQ
      go_wp2_with fail
      refine HP.out.mono ?_
      rintro e w3 ⟨rfl, rfl⟩
      go_wp2
      go_round
      case rel => exact ⟨j + 1, by omega, by go_num⟩
      case measure => simp [intOf]; omega
    · obtain rfl : j = C := by omega
      have h1 : M < pw Q := by rw [← hQ]; exact HC.out.2.1
      have hQ3 : Q ≤ 40 := by have := HC.out.2.2; omega
      have HP : Hid (Calls Try.prog 86 #[.int .i64 (Q : Int)] (w.drewN nq) (Just (.int .i64 (pw Q : Nat)) (w.drewN nq))) := power_any Q _ hQ3
      generalize pw Q = y at h1 HP
      clear hQ
      go_wp2_with fail
      refine HP.out.mono ?_
      rintro e w3 ⟨rfl, rfl⟩
      go_wp2
      go_ret2
      exact ⟨rfl, nq, rfl⟩

set_option maxHeartbeats 400000 in
theorem refCheck_no (z : Int) (w : World) (hz : NoW z) : Calls Try.prog 65 #[.int .i64 z] w (Just (.tuple #[.int .i64 0, .int .i64 1]) w) := by
  obtain ⟨h1, h2, h4, h8⟩ := hz
  go_enter Try.func65, Try.ntmps65
  go_wp2_with fail
  refine (width_no z _ h1 h2 h4 h8).mono ?_
  rintro e w2 ⟨rfl, rfl⟩
  go_wp2
  go_ret2
  exact ⟨rfl, rfl⟩
set_option maxHeartbeats 400000 in
theorem refShift_yes (k : Nat) (w : World) (hk : Wd k) : Calls Try.prog 85 #[.int .i64 (k : Int)] w (Drew (.tuple #[.int .i64 (shf k : Nat), .int .i64 0]) w) := by
  have e1 : ((shf k : Nat) : Int) = 16 - (chk k : Int) * (k : Int) := by rcases hk with rfl | rfl | rfl | rfl <;> rfl
  have HE := Lib.hid e1
  have HC := Lib.hid (refCheck_yes k w hk)
  have hQ := (chk_last k hk).2.2
  obtain ⟨Q, hQ0⟩ : ∃ Q, chk k * k = Q := ⟨_, rfl⟩
  have e3 : (chk k : Int) * (k : Int) = (Q : Int) := by rw [← hQ0]; simp
  rw [hQ0] at hQ
  obtain ⟨S, hS⟩ : ∃ S, shf k = S := ⟨_, rfl⟩
  rw [hS] at HE ⊢
  rw [e3] at HE
  have hC := chk_le k
  clear e1 hQ0 hS hk
  generalize chk k = C at e3 hC HC
  go_enter Try.func85, Try.ntmps85
  go_wp2_with fail
  refine HC.out.mono ?_
  rintro e w2 ⟨rfl, n, rfl⟩
  go_wp2
  go_ret2
  exact ⟨by rw [HE.out]; rfl, n, rfl⟩
set_option maxHeartbeats 400000 in
theorem refShift_no (z : Int) (w : World) (hz : NoW z) : Calls Try.prog 85 #[.int .i64 z] w (Just (.tuple #[.int .i64 0, .int .i64 1]) w) := by
  have HC := Lib.hid (refCheck_no z w hz)
  clear hz
  go_enter Try.func85, Try.ntmps85
  go_wp2_with fail
  refine HC.out.mono ?_
  rintro e w2 ⟨rfl, rfl⟩
  go_wp2
  go_ret2
  exact ⟨rfl, rfl⟩

set_option maxHeartbeats 400000 in
theorem refNumber_yes (l : List UInt8) (k : Nat) (w : World) (hk : Wd k) (hl : l.length = 32) : Calls Try.prog 63 #[.agg (bys l).toArray, .int .i64 (k : Int)] w (TwoD (.int .i64 (num l k : Nat)) (.int .i64 0) w) := by
  have HK := Lib.hid hk
  have HL := Lib.hid hl
  obtain ⟨k1, k8, hP, hG⟩ := hk.le
  have zk : ¬ k = 0 := by omega
  have hN2 := num_lt l k hk
  obtain ⟨N, hN⟩ : ∃ N, num l k = N := ⟨_, rfl⟩
  have HN := Lib.hid hN
  rw [hN] at hN2 ⊢
  obtain ⟨P, hP0⟩ : ∃ P, onn k = P := ⟨_, rfl⟩
  have e1 : (256 : Int) / (k : Int) = (P : Int) := by rw [← hP0]; unfold onn; simp
  have hG2 : pw k = gr k + 1 := by unfold gr pw; have := Nat.two_pow_pos k; omega
  rw [hP0] at hP
  have HP0 := Lib.hid hP0
  obtain ⟨G, hG0⟩ : ∃ G, gr k = G := ⟨_, rfl⟩
  have HG0 := Lib.hid hG0
  rw [hG0] at hG hG2
  have CP : Hid (∀ w', Calls Try.prog 86 #[.int .i64 (k : Int)] w' (Just (.int .i64 ((G : Int) + 1)) w')) := fun w' => by
    have h := power_any k w' (by omega)
    rw [hG2] at h
    simpa using h
  have hs7 := shf_le k hk
  clear hk hl hN hP0 hG0 hG2
  go_enter Try.func63, Try.ntmps63
  go_wp2_with (refine wpList_box_blk rfl 28 _ rfl (bys l) rfl ?_)
  intro w1 a1 a2 a3
  have A1 := Lib.hid a1
  have A3 := Lib.hid a3
  clear a1 a2 a3
  go_wp2_with fail
  refine (refShift_yes k _ HK.out).mono ?_
  rintro e w2 ⟨rfl, n, rfl⟩
  have G2 : Hid (Blk (w1.drewN n) w.heap.size (bys l) 28) := A1.out.drewN
  have B2 : Hid (Below w.heap.size w (w1.drewN n)) := Below.drewN' A3.out
  generalize w1.drewN n = w2 at G2 B2 ⊢
  clear A1 A3
  go_wp2
  go_loop [8, 9] (fun s x => ∃ i S : Nat, i ≤ P ∧ S ≤ 65280 ∧ Hid (S = ssum l k i) ∧ s = .int .i64 S ∧ x = .int .i64 i) (fun _ x => P - (intOf x).toNat)
  case atStart => exact ⟨0, 0, by omega, by omega, rfl, rfl, rfl⟩
  case round =>
    obtain ⟨i, S, hi, hS, HS, rfl, rfl⟩ := hrel
    by_cases hlt : i < P
    · obtain ⟨D, hD⟩ : ∃ D, dig l i k = D := ⟨_, rfl⟩
      have hDG : D ≤ G := by rw [← hD, ← HG0.out]; exact dig_le l i k
      have hI : i < l.length * (8 / k) := by have := onn_eq k HK.out; rw [HP0.out] at this; rw [HL.out]; omega
      have R : Rd (w.heap.size + 1) w2 (.slice (some ⟨w.heap.size, 0, none⟩) 32 32) l := by
        have h := G2.out.rd (by rw [HL.out]; unfold maxLen; omega)
        rw [HL.out] at h
        exact h
      have CD : Hid (Calls Try.prog 64 #[.slice (some ⟨w.heap.size, 0, none⟩) 32 32, .int .i64 (i : Int), .int .i64 (k : Int)] w2 (Just (.tuple #[.int .i64 (D : Nat), .int .i64 0]) w2)) := by
        rw [← hD]; exact refDigit_in _ _ l i k _ HK.out R (by rw [HL.out]; omega) hI
      have HS1 : Hid (S + (G - D) = ssum l k (i + 1)) := by show _ = ssum l k i + (gr k - dig l i k); rw [HS.out, HG0.out, hD]
      have hS1 : S + (G - D) ≤ 65280 := by rw [HS1.out]; exact ssum_small l k (i + 1) HK.out (by rw [HP0.out]; omega)
      clear hD hI R HS
      go_wp2_with fail
      refine CD.out.mono ?_
      rintro e w3 ⟨rfl, rfl⟩
      go_wp2_with fail
      refine (CP.out _).mono ?_
      rintro e w3 ⟨rfl, rfl⟩
      go_wp2
      go_round
      case rel => exact ⟨i + 1, S + (G - D), by omega, hS1, HS1, by go_num, by go_num⟩
      case measure => simp [intOf]; omega
    · obtain rfl : i = P := by omega
      have CS : Hid (Calls Try.prog 86 #[.int .i64 ((shf k : Nat) : Int)] w2 (Just (.int .i64 (pw (shf k) : Nat)) w2)) := power_any _ _ (by omega)
      have e2 : (S : Int) * ((pw (shf k) : Nat) : Int) = (N : Int) := by
        rw [← HN.out]
        unfold num pw
        rw [show 256 / k = i from HP0.out, ← HS.out]
        simp
      generalize shf k = s at hs7 CS e2 ⊢
      generalize pw s = y at CS e2
      go_wp2_with fail
      refine CS.out.mono ?_
      rintro e w3 ⟨rfl, rfl⟩
      go_wp2
      go_ret2
      exact ⟨rfl, B2.out⟩
set_option maxHeartbeats 400000 in
theorem refNumber_no (cs : List Value) (z : Int) (w : World) (hz : NoW z) : Calls Try.prog 63 #[.agg cs.toArray, .int .i64 z] w (TwoD (.int .i64 0) (.int .i64 1) w) := by
  have HZ := Lib.hid hz
  clear hz
  go_enter Try.func63, Try.ntmps63
  go_wp2_with (refine wpList_box_blk rfl 28 _ rfl cs rfl ?_)
  intro w1 a1 a2 a3
  have A3 := Lib.hid a3
  clear a1 a2 a3
  go_wp2_with fail
  refine (refShift_no z _ HZ.out).mono ?_
  rintro e w2 ⟨rfl, rfl⟩
  go_wp2
  go_ret2
  exact ⟨rfl, A3.out⟩
end Go.Proofs.Ytnemkefmlffigaa
