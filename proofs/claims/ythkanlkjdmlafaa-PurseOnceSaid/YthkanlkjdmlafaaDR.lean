/-
  The document's own bit and digit: for every byte slice that is read, every place in it and every width.
  The document's own power, Own, Check, Shift and Number: for every width and every hash; and what is no width.
  The document's own All: for every width and every hash; and what is no width.
-/
import Derived.Test.YthkanlkjdmlafaaDD
namespace Go.Proofs.Ythkanlkjdmlafaa
open Go.RowKit

/-- Bit j of bytes. -/
def btt (l : List UInt8) (j : Nat) : Nat := (l.getD (j / 8) 0).toNat / 2 ^ (7 - j % 8) % 2


/-- The first t bits of a digit. -/
def pfx (x r t : Nat) : Nat := x / 2 ^ (8 - r - t) % 2 ^ t
theorem pfx_succ (x r t : Nat) (h : r + t < 8) : 2 * pfx x r t + x / 2 ^ (7 - (r + t)) % 2 = pfx x r (t + 1) := by
  unfold pfx
  rw [show 8 - r - t = (7 - (r + t)) + 1 by omega, show 8 - r - (t + 1) = 7 - (r + t) by omega, Nat.pow_succ, ← Nat.div_div_eq_div_mul]
  generalize x / 2 ^ (7 - (r + t)) = y
  rw [Nat.pow_succ, Nat.mul_comm (2 ^ t) 2, Nat.mod_mul]
  omega
theorem pfx_le (x r t : Nat) (h : t ≤ 8) : pfx x r t ≤ 255 := by
  have h1 : pfx x r t < 2 ^ t := Nat.mod_lt _ (Nat.pow_pos (by omega))
  have h2 : 2 ^ t ≤ 2 ^ 8 := Nat.pow_le_pow_right (by omega) h
  omega
theorem pfx_dig (l : List UInt8) (i k : Nat) (hk : Wd k) : pfx (l.getD (i * k / 8) 0).toNat (i * k % 8) k = dig l i k := by
  unfold pfx dig
  rcases hk with rfl | rfl | rfl | rfl
  · rw [show i * 1 / 8 = i / (8 / 1) by omega, show 8 - i * 1 % 8 - 1 = (8 / 1 - 1 - i % (8 / 1)) * 1 by omega]
  · rw [show i * 2 / 8 = i / (8 / 2) by omega, show 8 - i * 2 % 8 - 2 = (8 / 2 - 1 - i % (8 / 2)) * 2 by omega]
  · rw [show i * 4 / 8 = i / (8 / 4) by omega, show 8 - i * 4 % 8 - 4 = (8 / 4 - 1 - i % (8 / 4)) * 4 by omega]
  · rw [show i * 8 / 8 = i / (8 / 8) by omega, show 8 - i * 8 % 8 - 8 = (8 / 8 - 1 - i % (8 / 8)) * 8 by omega]
theorem bit_in (l : List UInt8) (P t k i : Nat) (hk : Wd k) (hP : i * k = P) (ht : t < k) : btt l (P + t) = (l.getD (P / 8) 0).toNat / 2 ^ (7 - (P % 8 + t)) % 2 ∧ P % 8 + t < 8 := by
  unfold btt
  rcases hk with rfl | rfl | rfl | rfl
  all_goals
    rw [show (P + t) / 8 = P / 8 by omega, show (P + t) % 8 = P % 8 + t by omega]
    exact ⟨rfl, by omega⟩
theorem cap_eq (n k : Nat) (hk : Wd k) : n * 8 / k = n * (8 / k) := by
  rcases hk with rfl | rfl | rfl | rfl <;> omega


end Go.Proofs.Ythkanlkjdmlafaa

namespace Go.Proofs.Ythkanlkjdmlafaa
open Go.RowKit

/-- A power of two. -/
def pw (n : Nat) : Nat := 2 ^ n
theorem pw_le (n m : Nat) (h : n ≤ m) : pw n ≤ pw m := Nat.pow_le_pow_right (by omega) h

set_option maxHeartbeats 400000 in
theorem power_any (n : Nat) (w : World) (hn : n ≤ 40) : Calls Try.prog 85 #[.int .i64 (n : Int)] w (Just (.int .i64 (pw n : Nat)) w) := by
  go_enter Try.func85, Try.ntmps85
  go_wp2
  go_loop [3, 4] (fun p i => ∃ j : Nat, j ≤ n ∧ p = .int .i64 (pw j : Nat) ∧ i = .int .i64 j) (fun _ i => n - (intOf i).toNat)
  case atStart => exact ⟨0, by omega, rfl, rfl⟩
  case round =>
    obtain ⟨j, hj, rfl, rfl⟩ := hrel
    have h40 : pw j ≤ 1099511627776 := pw_le j 40 (by omega)
    have HS : Hid (2 * pw j = pw (j + 1)) := by show _ = 2 ^ (j + 1); rw [Nat.pow_succ, Nat.mul_comm]; rfl
    by_cases hlt : j < n
    · generalize pw j = y at h40 HS
      go_wp2
      go_round
      case rel => exact ⟨j + 1, by omega, by rw [← HS.out]; go_num, by go_num⟩
      case measure => simp [intOf]; omega
    · obtain rfl : j = n := by omega
      go_wp2
      go_ret
      exact ⟨rfl, rfl⟩

set_option maxHeartbeats 400000 in
theorem refOwn_yes (k : Nat) (w : World) (hk : Wd k) : Calls Try.prog 75 #[.int .i64 (k : Int)] w (Just (.tuple #[.int .i64 (onn k : Nat), .int .i64 0]) w) := by
  have HK := Lib.hid hk
  obtain ⟨k1, k8, _, _⟩ := hk.le
  have zk : ¬ k = 0 := by omega
  obtain ⟨P, hP⟩ : ∃ P, onn k = P := ⟨_, rfl⟩
  have e1 : (256 : Int) / (k : Int) = (P : Int) := by rw [← hP]; unfold onn; simp
  rw [hP]
  clear hk hP
  go_enter Try.func75, Try.ntmps75
  go_wp2_with fail
  refine (width_yes k _ HK.out).mono ?_
  rintro e w2 ⟨rfl, rfl⟩
  go_wp2
  go_ret2
  exact ⟨by rw [← e1]; rfl, rfl⟩
set_option maxHeartbeats 400000 in
theorem refOwn_no (z : Int) (w : World) (hz : NoW z) : Calls Try.prog 75 #[.int .i64 z] w (Just (.tuple #[.int .i64 0, .int .i64 1]) w) := by
  obtain ⟨h1, h2, h4, h8⟩ := hz
  go_enter Try.func75, Try.ntmps75
  go_wp2_with fail
  refine (width_no z _ h1 h2 h4 h8).mono ?_
  rintro e w2 ⟨rfl, rfl⟩
  go_wp2
  go_ret2
  exact ⟨rfl, rfl⟩

theorem chk_last (k : Nat) (hk : Wd k) : (∀ j, j < chk k → pw (j * k) ≤ onn k * gr k) ∧ onn k * gr k < pw (chk k * k) ∧ chk k * k ≤ 16 := by
  rcases hk with rfl | rfl | rfl | rfl <;> decide

set_option maxHeartbeats 400000 in
theorem refCheck_yes (k : Nat) (w : World) (hk : Wd k) : Calls Try.prog 76 #[.int .i64 (k : Int)] w (Drew (.tuple #[.int .i64 (chk k : Nat), .int .i64 0]) w) := by
  have HK := Lib.hid hk
  obtain ⟨k1, k8, hP1, hG1⟩ := hk.le
  have zk : ¬ k = 0 := by omega
  have hc := chk_le k
  have HC := Lib.hid (chk_last k hk)
  obtain ⟨P, hP⟩ : ∃ P, onn k = P := ⟨_, rfl⟩
  have e1 : (256 : Int) / (k : Int) = (P : Int) := by rw [← hP]; unfold onn; simp
  have hG : pw k = gr k + 1 := by unfold gr pw; have := Nat.two_pow_pos k; omega
  obtain ⟨G, hG0⟩ : ∃ G, gr k = G := ⟨_, rfl⟩
  obtain ⟨M, hM⟩ : ∃ M, P * G = M := ⟨_, rfl⟩
  have e2 : (P : Int) * (G : Int) = (M : Int) := by rw [← hM]; simp
  have hM2 : M ≤ 65280 := by rw [← hM, ← hP, ← hG0]; exact Nat.mul_le_mul hP1 hG1
  rw [hP, hG0, hM] at HC
  rw [hP] at hP1
  rw [hG0] at hG1 hG
  obtain ⟨C, hC⟩ : ∃ C, chk k = C := ⟨_, rfl⟩
  rw [hC] at HC hc ⊢
  have CP : Hid (∀ w', Calls Try.prog 85 #[.int .i64 (k : Int)] w' (Just (.int .i64 ((G : Int) + 1)) w')) := fun w' => by
    have h := power_any k w' (by omega)
    rw [hG] at h
    simpa using h
  clear hk hP hM hC hG0 hG
  go_enter Try.func76, Try.ntmps76
  go_wp2_with fail
  refine (width_yes k _ HK.out).mono ?_
  rintro e w2 ⟨rfl, rfl⟩
  go_wp2
  refine wp_region_quiet_lit (by kernel_rfl) (by kernel_rfl) ?_
  repeat (first | go_big_quiet_step ((go_at_call 85; exact Just.quiet (CP.out _))) | quiet_step ((go_at_call 85; exact Just.quiet (CP.out _))))
  refine wpQuiet_nil ?_
  intro _ hw'
  obtain ⟨nq, hw''⟩ := hw'
  subst hw''
  clear CP
  go_wp2
  clear e1 e2
  go_loop [5] (fun x => ∃ j : Nat, j ≤ C ∧ x = .int .i64 j) (fun x => C - (intOf x).toNat)
  case atStart => exact ⟨0, by omega, rfl⟩
  case round =>
    obtain ⟨j, hj, rfl⟩ := hrel
    obtain ⟨Q, hQ⟩ : ∃ Q, j * k = Q := ⟨_, rfl⟩
    have e3 : (j : Int) * (k : Int) = (Q : Int) := by rw [← hQ]; simp
    have hQ2 : Q ≤ 72 := by rw [← hQ]; exact Nat.mul_le_mul (show j ≤ 9 by omega) k8
    by_cases hlt : j < C
    · have h1 : pw Q ≤ M := by rw [← hQ]; exact HC.out.1 j hlt
      have hQ3 : Q ≤ 40 := by
        rcases Nat.lt_or_ge 40 Q with h | h
        · have h2 : pw 41 ≤ pw Q := pw_le _ _ h
          have h3 : pw 41 = 2199023255552 := by decide
          omega
        · exact h
      have HP : Hid (Calls Try.prog 85 #[.int .i64 (Q : Int)] (w.drewN nq) (Just (.int .i64 (pw Q : Nat)) (w.drewN nq))) := power_any Q _ hQ3
      generalize pw Q = y at h1 HP
      clear hQ
      go_wp2_with fail
      refine HP.out.mono ?_
      rintro e w3 ⟨rfl, rfl⟩
      go_wp2
      go_round
      case rel => exact ⟨j + 1, by omega, by go_num⟩
      case measure => simp [intOf]; omega
    · obtain rfl : j = C := by omega
      have h1 : M < pw Q := by rw [← hQ]; exact HC.out.2.1
      have hQ3 : Q ≤ 40 := by have := HC.out.2.2; omega
      have HP : Hid (Calls Try.prog 85 #[.int .i64 (Q : Int)] (w.drewN nq) (Just (.int .i64 (pw Q : Nat)) (w.drewN nq))) := power_any Q _ hQ3
      generalize pw Q = y at h1 HP
      clear hQ
      go_wp2_with fail
      refine HP.out.mono ?_
      rintro e w3 ⟨rfl, rfl⟩
      go_wp2
      go_ret2
      exact ⟨rfl, nq, rfl⟩

set_option maxHeartbeats 400000 in
theorem refCheck_no (z : Int) (w : World) (hz : NoW z) : Calls Try.prog 76 #[.int .i64 z] w (Just (.tuple #[.int .i64 0, .int .i64 1]) w) := by
  obtain ⟨h1, h2, h4, h8⟩ := hz
  go_enter Try.func76, Try.ntmps76
  go_wp2_with fail
  refine (width_no z _ h1 h2 h4 h8).mono ?_
  rintro e w2 ⟨rfl, rfl⟩
  go_wp2
  go_ret2
  exact ⟨rfl, rfl⟩

end Go.Proofs.Ythkanlkjdmlafaa

namespace Go.Proofs.Ythkanlkjdmlafaa
open Go.RowKit

theorem OwnI.made (e : TypeId) (w : World) : OwnI e (w.alloc (.cells #[] e)) w.heap.size (.slice (some ⟨w.heap.size, 0, none⟩) 0 0) [] :=
  World.ownsRow_made w #[] 0 (Nat.le_refl _) (Nat.zero_le _) rfl


end Go.Proofs.Ythkanlkjdmlafaa
