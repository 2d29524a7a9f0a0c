/-
  The document's own bit and digit: for every byte slice that is read, every place in it and every width.
  The document's own power, Own, Check, Shift and Number: for every width and every hash; and what is no width.
  The document's own All: for every width and every hash; and what is no width.
-/
import Derived.Test.YtllncnnigjgadaaGreatDD
namespace Go.Proofs.YtllncnnigjgadaaGreat
open Go.RowKit

/-- Bit j of bytes. -/
def btt (l : List UInt8) (j : Nat) : Nat := (l.getD (j / 8) 0).toNat / 2 ^ (7 - j % 8) % 2

set_option maxHeartbeats 400000 in
theorem bit_any (B : Nat) (v : Value) (l : List UInt8) (j : Nat) (w : World) (hr : Rd B w v l) (hl : l.length ≤ 100000) (hj : j < l.length * 8) : Calls Tryz.prog 122 #[v, .int .i64 (j : Int)] w (Just (.int .i64 (btt l j : Nat)) w) := by
  obtain ⟨q, hq⟩ : ∃ q, j / 8 = q := ⟨_, rfl⟩
  obtain ⟨r, hr8⟩ : ∃ r, j % 8 = r := ⟨_, rfl⟩
  obtain ⟨a, c, rfl, hc, hcm, hx⟩ := hr.cellAt q (by omega)
  unfold maxLen at hcm
  have hb := UInt8.toNat_lt (l.getD q 0)
  unfold btt
  rw [hq, hr8]
  generalize (l.getD q 0).toNat = x at hx hb
  have e1 : (j : Int) / 8 = (q : Int) := by omega
  have e2 : (j : Int) % 8 = (r : Int) := by omega
  have zq : (q : Int) < l.length := by omega
  have zx : (x : Int) ≤ 255 := by omega
  have zr : r ≤ 7 := by omega
  have zj : (j : Int) ≤ 800000 := by omega
  have HB := Lib.hid hb
  clear hq hr8 hr hb hj
  go_enter Tryz.func122, Tryz.ntmps122
  go_wp2
  go_loop [5, 6] (fun y k => ∃ n X : Nat, n ≤ 7 - r ∧ X ≤ 255 ∧ Hid (X = x / 2 ^ n) ∧ y = .int .i64 X ∧ k = .int .i64 n) (fun _ k => 7 - (intOf k).toNat)
  case atStart => exact ⟨0, x, by omega, by omega, by simp [Hid], rfl, rfl⟩
  case round =>
    obtain ⟨n, X, hn, hX, HX, rfl, rfl⟩ := hrel
    by_cases hlt : n < 7 - r
    · have HD : Hid (X / 2 = x / 2 ^ (n + 1)) := by show _ = _; rw [HX.out, Nat.div_div_eq_div_mul, ← Nat.pow_succ]
      have zn : (n : Int) < 7 - r := by omega
      go_wp2
      go_round
      case rel => exact ⟨n + 1, X / 2, by omega, by omega, HD, by go_num, by go_num⟩
      case measure => simp [intOf]; omega
    · have zn : ¬ ((n : Int) < 7 - r) := by omega
      have hn2 : n = 7 - r := by omega
      have HN := Lib.hid hn2
      clear hn2
      go_wp2
      go_ret
      exact ⟨ret_intD (by rw [← HN.out, HX.out]; simp), rfl⟩

/-- The first t bits of a digit. -/
def pfx (x r t : Nat) : Nat := x / 2 ^ (8 - r - t) % 2 ^ t
theorem pfx_succ (x r t : Nat) (h : r + t < 8) : 2 * pfx x r t + x / 2 ^ (7 - (r + t)) % 2 = pfx x r (t + 1) := by
  unfold pfx
  rw [show 8 - r - t = (7 - (r + t)) + 1 by omega, show 8 - r - (t + 1) = 7 - (r + t) by omega, Nat.pow_succ, ← Nat.div_div_eq_div_mul]
  generalize x / 2 ^ (7 - (r + t)) = y
  rw [Nat.pow_succ, Nat.mul_comm (2 ^ t) 2, Nat.mod_mul]
  omega
theorem pfx_le (x r t : Nat) (h : t ≤ 8) : pfx x r t ≤ 255 := by
  have h1 : pfx x r t < 2 ^ t := Nat.mod_lt _ (Nat.pow_pos (by omega))
  have h2 : 2 ^ t ≤ 2 ^ 8 := Nat.pow_le_pow_right (by omega) h
  omega
theorem pfx_dig (l : List UInt8) (i k : Nat) (hk : Wd k) : pfx (l.getD (i * k / 8) 0).toNat (i * k % 8) k = dig l i k := by
  unfold pfx dig
  rcases hk with rfl | rfl | rfl | rfl
  · rw [show i * 1 / 8 = i / (8 / 1) by omega, show 8 - i * 1 % 8 - 1 = (8 / 1 - 1 - i % (8 / 1)) * 1 by omega]
  · rw [show i * 2 / 8 = i / (8 / 2) by omega, show 8 - i * 2 % 8 - 2 = (8 / 2 - 1 - i % (8 / 2)) * 2 by omega]
  · rw [show i * 4 / 8 = i / (8 / 4) by omega, show 8 - i * 4 % 8 - 4 = (8 / 4 - 1 - i % (8 / 4)) * 4 by omega]
  · rw [show i * 8 / 8 = i / (8 / 8) by omega, show 8 - i * 8 % 8 - 8 = (8 / 8 - 1 - i % (8 / 8)) * 8 by omega]
theorem bit_in (l : List UInt8) (P t k i : Nat) (hk : Wd k) (hP : i * k = P) (ht : t < k) : btt l (P + t) = (l.getD (P / 8) 0).toNat / 2 ^ (7 - (P % 8 + t)) % 2 ∧ P % 8 + t < 8 := by
  unfold btt
  rcases hk with rfl | rfl | rfl | rfl
  all_goals
    rw [show (P + t) / 8 = P / 8 by omega, show (P + t) % 8 = P % 8 + t by omega]
    exact ⟨rfl, by omega⟩
theorem cap_eq (n k : Nat) (hk : Wd k) : n * 8 / k = n * (8 / k) := by
  rcases hk with rfl | rfl | rfl | rfl <;> omega

set_option maxHeartbeats 400000 in
theorem refDigit_in (B : Nat) (v : Value) (l : List UInt8) (i k : Nat) (w : World) (hk : Wd k) (hr : Rd B w v l) (hl : l.length ≤ 100000) (hi : i < l.length * (8 / k)) : Calls Tryz.prog 104 #[v, .int .i64 (i : Int), .int .i64 (k : Int)] w (Just (.tuple #[.int .i64 (dig l i k : Nat), .int .i64 0]) w) := by
  have HK := Lib.hid hk
  have HR := Lib.hid hr
  obtain ⟨k1, k8, _, _⟩ := hk.le
  obtain ⟨A, c, rfl, hc, hm⟩ := hr.shape
  obtain ⟨D, hD⟩ : ∃ D, dig l i k = D := ⟨_, rfl⟩
  rw [hD]
  obtain ⟨T, hT⟩ : ∃ T, l.length * 8 / k = T := ⟨_, rfl⟩
  obtain ⟨P, hP⟩ : ∃ P, i * k = P := ⟨_, rfl⟩
  have e1 : (l.length : Int) * 8 / (k : Int) = (T : Int) := by rw [← hT]; simp
  have e2 : (i : Int) * (k : Int) = (P : Int) := by rw [← hP]; simp
  have hiT : i < T := by rw [← hT, cap_eq _ _ hk]; exact hi
  have hPL : P + k ≤ l.length * 8 := by
    rw [← hP]
    rcases hk with rfl | rfl | rfl | rfl <;> omega
  have HE : Hid (pfx (l.getD (P / 8) 0).toNat (P % 8) k = D) := by show _ = _; rw [← hP, pfx_dig l i k hk, hD]
  have HB : Hid (∀ t, t < k → btt l (P + t) = (l.getD (P / 8) 0).toNat / 2 ^ (7 - (P % 8 + t)) % 2 ∧ P % 8 + t < 8) := fun t ht => bit_in l P t k i hk hP ht
  generalize (l.getD (P / 8) 0).toNat = x at HE HB
  generalize P % 8 = r at HE HB
  unfold maxLen at hm
  have zi : decide (T ≤ i) = false := by simp; omega
  have zk : ¬ k = 0 := by omega
  clear hk hr hD hT hP hi
  go_enter Tryz.func104, Tryz.ntmps104
  go_wp2_with fail
  refine (width_yes k _ HK.out).mono ?_
  rintro e w2 ⟨rfl, rfl⟩
  go_wp2
  go_loop [8, 9] (fun y t => ∃ n : Nat, n ≤ k ∧ y = .int .i64 (pfx x r n : Nat) ∧ t = .int .i64 n) (fun _ t => k - (intOf t).toNat)
  case atStart => exact ⟨0, by omega, by simp [pfx, Nat.mod_one], rfl⟩
  case round =>
    obtain ⟨n, hn, rfl, rfl⟩ := hrel
    by_cases hlt : n < k
    · obtain ⟨h1, h2⟩ := HB.out n hlt
      have h3 := pfx_succ x r n h2
      rw [← h1] at h3
      have h4 := pfx_le x r n (by omega)
      have h5 : btt l (P + n) ≤ 1 := by unfold btt; omega
      obtain ⟨b, hb⟩ : ∃ b, btt l (P + n) = b := ⟨_, rfl⟩
      rw [hb] at h3 h5
      have HBB := Lib.hid hb
      have H3 := Lib.hid h3
      clear h1 h2 h3 hb
      generalize pfx x r n = y at h4 H3
      have e3 : ((P + n : Nat) : Int) = (P : Int) + (n : Int) := by omega
      have HBC : Hid (Calls Tryz.prog 122 #[.slice A l.length c, .int .i64 ((P : Int) + (n : Int))] w (Just (.int .i64 (b : Nat)) w)) := by
        have h := bit_any B _ l (P + n) w HR.out hl (by omega)
        rw [HBB.out, e3] at h
        exact h
      clear e3
      go_wp2_with fail
      refine HBC.out.mono ?_
      rintro e w2 ⟨rfl, rfl⟩
      go_wp2
      go_round
      case rel => exact ⟨n + 1, by omega, by rw [← H3.out]; go_num, by go_num⟩
      case measure => simp [intOf]; omega
    · obtain rfl : n = k := by omega
      rw [HE.out]
      go_wp2
      go_ret2
      exact ⟨rfl, rfl⟩

end Go.Proofs.YtllncnnigjgadaaGreat

namespace Go.Proofs.YtllncnnigjgadaaGreat
open Go.RowKit

/-- A power of two. -/
def pw (n : Nat) : Nat := 2 ^ n
theorem pw_le (n m : Nat) (h : n ≤ m) : pw n ≤ pw m := Nat.pow_le_pow_right (by omega) h

set_option maxHeartbeats 400000 in
theorem power_any (n : Nat) (w : World) (hn : n ≤ 40) : Calls Tryz.prog 120 #[.int .i64 (n : Int)] w (Just (.int .i64 (pw n : Nat)) w) := by
  go_enter Tryz.func120, Tryz.ntmps120
  go_wp2
  go_loop [3, 4] (fun p i => ∃ j : Nat, j ≤ n ∧ p = .int .i64 (pw j : Nat) ∧ i = .int .i64 j) (fun _ i => n - (intOf i).toNat)
  case atStart => exact ⟨0, by omega, rfl, rfl⟩
  case round =>
    obtain ⟨j, hj, rfl, rfl⟩ := hrel
    have h40 : pw j ≤ 1099511627776 := pw_le j 40 (by omega)
    have HS : Hid (2 * pw j = pw (j + 1)) := by show _ = 2 ^ (j + 1); rw [Nat.pow_succ, Nat.mul_comm]; rfl
    by_cases hlt : j < n
    · generalize pw j = y at h40 HS
      go_wp2
      go_round
      case rel => exact ⟨j + 1, by omega, by rw [← HS.out]; go_num, by go_num⟩
      case measure => simp [intOf]; omega
    · obtain rfl : j = n := by omega
      go_wp2
      go_ret
      exact ⟨rfl, rfl⟩

set_option maxHeartbeats 400000 in
theorem refOwn_yes (k : Nat) (w : World) (hk : Wd k) : Calls Tryz.prog 101 #[.int .i64 (k : Int)] w (Just (.tuple #[.int .i64 (onn k : Nat), .int .i64 0]) w) := by
  have HK := Lib.hid hk
  obtain ⟨k1, k8, _, _⟩ := hk.le
  have zk : ¬ k = 0 := by omega
  obtain ⟨P, hP⟩ : ∃ P, onn k = P := ⟨_, rfl⟩
  have e1 : (256 : Int) / (k : Int) = (P : Int) := by rw [← hP]; unfold onn; simp
  rw [hP]
  clear hk hP
  go_enter Tryz.func101, Tryz.ntmps101
  go_wp2_with fail
  refine (width_yes k _ HK.out).mono ?_
  rintro e w2 ⟨rfl, rfl⟩
  go_wp2
  go_ret2
  exact ⟨by rw [← e1]; rfl, rfl⟩
theorem chk_last (k : Nat) (hk : Wd k) : (∀ j, j < chk k → pw (j * k) ≤ onn k * gr k) ∧ onn k * gr k < pw (chk k * k) ∧ chk k * k ≤ 16 := by
  rcases hk with rfl | rfl | rfl | rfl <;> decide

set_option maxHeartbeats 400000 in
theorem refCheck_yes (k : Nat) (w : World) (hk : Wd k) : Calls Tryz.prog 102 #[.int .i64 (k : Int)] w (Drew (.tuple #[.int .i64 (chk k : Nat), .int .i64 0]) w) := by
  have HK := Lib.hid hk
  obtain ⟨k1, k8, hP1, hG1⟩ := hk.le
  have zk : ¬ k = 0 := by omega
  have hc := chk_le k
  have HC := Lib.hid (chk_last k hk)
  obtain ⟨P, hP⟩ : ∃ P, onn k = P := ⟨_, rfl⟩
  have e1 : (256 : Int) / (k : Int) = (P : Int) := by rw [← hP]; unfold onn; simp
  have hG : pw k = gr k + 1 := by unfold gr pw; have := Nat.two_pow_pos k; omega
  obtain ⟨G, hG0⟩ : ∃ G, gr k = G := ⟨_, rfl⟩
  obtain ⟨M, hM⟩ : ∃ M, P * G = M := ⟨_, rfl⟩
  have e2 : (P : Int) * (G : Int) = (M : Int) := by rw [← hM]; simp
  have hM2 : M ≤ 65280 := by rw [← hM, ← hP, ← hG0]; exact Nat.mul_le_mul hP1 hG1
  rw [hP, hG0, hM] at HC
  rw [hP] at hP1
  rw [hG0] at hG1 hG
  obtain ⟨C, hC⟩ : ∃ C, chk k = C := ⟨_, rfl⟩
  rw [hC] at HC hc ⊢
  have CP : Hid (∀ w', Calls Tryz.prog 120 #[.int .i64 (k : Int)] w' (Just (.int .i64 ((G : Int) + 1)) w')) := fun w' => by
    have h := power_any k w' (by omega)
    rw [hG] at h
    simpa using h
  clear hk hP hM hC hG0 hG
  go_enter Tryz.func102, Tryz.ntmps102
  go_wp2_with fail
  refine (width_yes k _ HK.out).mono ?_
  rintro e w2 ⟨rfl, rfl⟩
  go_wp2
  refine wp_region_quiet_lit (by kernel_rfl) (by kernel_rfl) ?_
  repeat (first | go_big_quiet_step ((go_at_call 120; exact Just.quiet (CP.out _))) | quiet_step ((go_at_call 120; exact Just.quiet (CP.out _))))
  refine wpQuiet_nil ?_
  intro _ hw'
  obtain ⟨nq, hw''⟩ := hw'
  subst hw''
  clear CP
  go_wp2
  clear e1 e2
  go_loop [5] (fun x => ∃ j : Nat, j ≤ C ∧ x = .int .i64 j) (fun x => C - (intOf x).toNat)
  case atStart => exact ⟨0, by omega, rfl⟩
  case round =>
    obtain ⟨j, hj, rfl⟩ := hrel
    obtain ⟨Q, hQ⟩ : ∃ Q, j * k = Q := ⟨_, rfl⟩
    have e3 : (j : Int) * (k : Int) = (Q : Int) := by rw [← hQ]; simp
    have hQ2 : Q ≤ 72 := by rw [← hQ]; exact Nat.mul_le_mul (show j ≤ 9 by omega) k8
    by_cases hlt : j < C
    · have h1 : pw Q ≤ M := by rw [← hQ]; exact HC.out.1 j hlt
      have hQ3 : Q ≤ 40 := by
        rcases Nat.lt_or_ge 40 Q with h | h
        · have h2 : pw 41 ≤ pw Q := pw_le _ _ h
          have h3 : pw 41 = 2199023255552 := by decide
          omega
        · exact h
      have HP : Hid (Calls Tryz.prog 120 #[.int .i64 (Q : Int)] (w.drewN nq) (Just (.int .i64 (pw Q : Nat)) (w.drewN nq))) := power_any Q _ hQ3
      generalize pw Q = y at h1 HP
      clear hQ
      go_wp2_with fail
      refine HP.out.mono ?_
      rintro e w3 ⟨rfl, rfl⟩
      go_wp2
      go_round
      case rel => exact ⟨j + 1, by omega, by go_num⟩
      case measure => simp [intOf]; omega
    · obtain rfl : j = C := by omega
      have h1 : M < pw Q := by rw [← hQ]; exact HC.out.2.1
      have hQ3 : Q ≤ 40 := by have := HC.out.2.2; omega
      have HP : Hid (Calls Tryz.prog 120 #[.int .i64 (Q : Int)] (w.drewN nq) (Just (.int .i64 (pw Q : Nat)) (w.drewN nq))) := power_any Q _ hQ3
      generalize pw Q = y at h1 HP
      clear hQ
      go_wp2_with fail
      refine HP.out.mono ?_
      rintro e w3 ⟨rfl, rfl⟩
      go_wp2
      go_ret2
      exact ⟨rfl, nq, rfl⟩

set_option maxHeartbeats 400000 in
theorem refShift_yes (k : Nat) (w : World) (hk : Wd k) : Calls Tryz.prog 121 #[.int .i64 (k : Int)] w (Drew (.tuple #[.int .i64 (shf k : Nat), .int .i64 0]) w) := by
  have e1 : ((shf k : Nat) : Int) = 16 - (chk k : Int) * (k : Int) := by rcases hk with rfl | rfl | rfl | rfl <;> rfl
  have HE := Lib.hid e1
  have HC := Lib.hid (refCheck_yes k w hk)
  have hQ := (chk_last k hk).2.2
  obtain ⟨Q, hQ0⟩ : ∃ Q, chk k * k = Q := ⟨_, rfl⟩
  have e3 : (chk k : Int) * (k : Int) = (Q : Int) := by rw [← hQ0]; simp
  rw [hQ0] at hQ
  obtain ⟨S, hS⟩ : ∃ S, shf k = S := ⟨_, rfl⟩
  rw [hS] at HE ⊢
  rw [e3] at HE
  have hC := chk_le k
  clear e1 hQ0 hS hk
  generalize chk k = C at e3 hC HC
  go_enter Tryz.func121, Tryz.ntmps121
  go_wp2_with fail
  refine HC.out.mono ?_
  rintro e w2 ⟨rfl, n, rfl⟩
  go_wp2
  go_ret2
  exact ⟨by rw [HE.out]; rfl, n, rfl⟩
set_option maxHeartbeats 400000 in
theorem refNumber_yes (l : List UInt8) (k : Nat) (w : World) (hk : Wd k) (hl : l.length = 32) : Calls Tryz.prog 103 #[.agg (bys l).toArray, .int .i64 (k : Int)] w (TwoD (.int .i64 (num l k : Nat)) (.int .i64 0) w) := by
  have HK := Lib.hid hk
  have HL := Lib.hid hl
  obtain ⟨k1, k8, hP, hG⟩ := hk.le
  have zk : ¬ k = 0 := by omega
  have hN2 := num_lt l k hk
  obtain ⟨N, hN⟩ : ∃ N, num l k = N := ⟨_, rfl⟩
  have HN := Lib.hid hN
  rw [hN] at hN2 ⊢
  obtain ⟨P, hP0⟩ : ∃ P, onn k = P := ⟨_, rfl⟩
  have e1 : (256 : Int) / (k : Int) = (P : Int) := by rw [← hP0]; unfold onn; simp
  have hG2 : pw k = gr k + 1 := by unfold gr pw; have := Nat.two_pow_pos k; omega
  rw [hP0] at hP
  have HP0 := Lib.hid hP0
  obtain ⟨G, hG0⟩ : ∃ G, gr k = G := ⟨_, rfl⟩
  have HG0 := Lib.hid hG0
  rw [hG0] at hG hG2
  have CP : Hid (∀ w', Calls Tryz.prog 120 #[.int .i64 (k : Int)] w' (Just (.int .i64 ((G : Int) + 1)) w')) := fun w' => by
    have h := power_any k w' (by omega)
    rw [hG2] at h
    simpa using h
  have hs7 := shf_le k hk
  clear hk hl hN hP0 hG0 hG2
  go_enter Tryz.func103, Tryz.ntmps103
  go_wp2_with (refine wpList_box_blk rfl 30 _ rfl (bys l) rfl ?_)
  intro w1 a1 a2 a3
  have A1 := Lib.hid a1
  have A3 := Lib.hid a3
  clear a1 a2 a3
  go_wp2_with fail
  refine (refShift_yes k _ HK.out).mono ?_
  rintro e w2 ⟨rfl, n, rfl⟩
  have G2 : Hid (Blk (w1.drewN n) w.heap.size (bys l) 30) := A1.out.drewN
  have B2 : Hid (Below w.heap.size w (w1.drewN n)) := Below.drewN' A3.out
  generalize w1.drewN n = w2 at G2 B2 ⊢
  clear A1 A3
  go_wp2
  go_loop [8, 9] (fun s x => ∃ i S : Nat, i ≤ P ∧ S ≤ 65280 ∧ Hid (S = ssum l k i) ∧ s = .int .i64 S ∧ x = .int .i64 i) (fun _ x => P - (intOf x).toNat)
  case atStart => exact ⟨0, 0, by omega, by omega, rfl, rfl, rfl⟩
  case round =>
    obtain ⟨i, S, hi, hS, HS, rfl, rfl⟩ := hrel
    by_cases hlt : i < P
    · obtain ⟨D, hD⟩ : ∃ D, dig l i k = D := ⟨_, rfl⟩
      have hDG : D ≤ G := by rw [← hD, ← HG0.out]; exact dig_le l i k
      have hI : i < l.length * (8 / k) := by have := onn_eq k HK.out; rw [HP0.out] at this; rw [HL.out]; omega
      have R : Rd (w.heap.size + 1) w2 (.slice (some ⟨w.heap.size, 0, none⟩) 32 32) l := by
        have h := G2.out.rd (by rw [HL.out]; unfold maxLen; omega)
        rw [HL.out] at h
        exact h
      have CD : Hid (Calls Tryz.prog 104 #[.slice (some ⟨w.heap.size, 0, none⟩) 32 32, .int .i64 (i : Int), .int .i64 (k : Int)] w2 (Just (.tuple #[.int .i64 (D : Nat), .int .i64 0]) w2)) := by
        rw [← hD]; exact refDigit_in _ _ l i k _ HK.out R (by rw [HL.out]; omega) hI
      have HS1 : Hid (S + (G - D) = ssum l k (i + 1)) := by show _ = ssum l k i + (gr k - dig l i k); rw [HS.out, HG0.out, hD]
      have hS1 : S + (G - D) ≤ 65280 := by rw [HS1.out]; exact ssum_small l k (i + 1) HK.out (by rw [HP0.out]; omega)
      clear hD hI R HS
      go_wp2_with fail
      refine CD.out.mono ?_
      rintro e w3 ⟨rfl, rfl⟩
      go_wp2_with fail
      refine (CP.out _).mono ?_
      rintro e w3 ⟨rfl, rfl⟩
      go_wp2
      go_round
      case rel => exact ⟨i + 1, S + (G - D), by omega, hS1, HS1, by go_num, by go_num⟩
      case measure => simp [intOf]; omega
    · obtain rfl : i = P := by omega
      have CS : Hid (Calls Tryz.prog 120 #[.int .i64 ((shf k : Nat) : Int)] w2 (Just (.int .i64 (pw (shf k) : Nat)) w2)) := power_any _ _ (by omega)
      have e2 : (S : Int) * ((pw (shf k) : Nat) : Int) = (N : Int) := by
        rw [← HN.out]
        unfold num pw
        rw [show 256 / k = i from HP0.out, ← HS.out]
        simp
      generalize shf k = s at hs7 CS e2 ⊢
      generalize pw s = y at CS e2
      go_wp2_with fail
      refine CS.out.mono ?_
      rintro e w3 ⟨rfl, rfl⟩
      go_wp2
      go_ret2
      exact ⟨rfl, B2.out⟩
end Go.Proofs.YtllncnnigjgadaaGreat

namespace Go.Proofs.YtllncnnigjgadaaGreat
open Go.RowKit

theorem OwnI.made (e : TypeId) (w : World) : OwnI e (w.alloc (.cells #[] e)) w.heap.size (.slice (some ⟨w.heap.size, 0, none⟩) 0 0) [] :=
  World.ownsRow_made w #[] 0 (Nat.le_refl _) (Nat.zero_le _) rfl

set_option maxRecDepth 100000 in
set_option maxHeartbeats 1000000 in
theorem refAll_yes (l : List UInt8) (k : Nat) (w : World) (hk : Wd k) (hl : l.length = 32) : Calls Tryz.prog 70 #[.agg (bys l).toArray, .int .i64 (k : Int)] w (GivesI2 (allD l k) w) := by
  obtain ⟨i0, hi, hz0, hz1, hz2⟩ := info_parts3
  have HI := Lib.hid hi
  have H0 := Lib.hid hz0
  have H1 := Lib.hid hz1
  have H2 := Lib.hid hz2
  have HK := Lib.hid hk
  have HL := Lib.hid hl
  obtain ⟨k1, k8, hP, hG⟩ := hk.le
  have zk : ¬ k = 0 := by omega
  have hC := chk_le k
  have hN := num_lt l k hk
  have H28 : Hid ((Tryz.prog.info? 30).map (·.size) = some (bys l).length) := by show _ = _; rw [bys_length, hl]; exact s28
  obtain ⟨N, hN0⟩ : ∃ N, num l k = N := ⟨_, rfl⟩
  obtain ⟨P, hP0⟩ : ∃ P, onn k = P := ⟨_, rfl⟩
  obtain ⟨C, hC0⟩ : ∃ C, chk k = C := ⟨_, rfl⟩
  have HA : Hid (allD l k = digs l k P ++ digs (by2 N) k C) := by show _ = _; rw [← hN0, ← hP0, ← hC0]; rfl
  have HN0 := Lib.hid hN0
  have e1 : (256 : Int) / (k : Int) = (P : Int) := by rw [← hP0]; unfold onn; simp
  have HP32 : Hid (P ≤ l.length * (8 / k)) := by show _ ≤ _; rw [← hP0, onn_eq k hk, hl]; omega
  have HC2 : Hid (C ≤ (by2 N).length * (8 / k)) := by
    show C ≤ 2 * (8 / k)
    rw [← hC0]
    rcases hk with rfl | rfl | rfl | rfl <;> decide
  have CC : Hid (∀ w', Calls Tryz.prog 102 #[.int .i64 (k : Int)] w' (Drew (.tuple #[.int .i64 (C : Nat), .int .i64 0]) w')) := fun w' => by rw [← hC0]; exact refCheck_yes k w' hk
  rw [hN0] at hN
  rw [hP0] at hP
  rw [hC0] at hC
  have zN : (N : Int) < 65536 := by omega
  rw [HA.out]
  clear hi hz0 hz1 hz2 hk hl hN0 hP0 hC0
  go_enter Tryz.func70, Tryz.ntmps70
  go_wp2_with (refine wpList_box_blk rfl 30 _ rfl (bys l) rfl ?_)
  intro w1 a1 a2 a3
  have A1 := Lib.hid a1
  have A2 := Lib.hid a2
  have A3 := Lib.hid a3
  clear a1 a2 a3
  go_wp2_with (refine wpList_load_blk rfl 30 _ rfl w.heap.size rfl (bys l) 30 A1.out 32 5 tu28 H28.out ?_)
  refine (refNumber_yes l k _ HK.out HL.out).mono ?_
  rintro e w2 ⟨rfl, hb⟩
  rw [HN0.out]
  have hsz := A2.out
  have G2 : Hid (Blk w2 w.heap.size (bys l) 30) := A1.out.below hb (by omega)
  have B2 : Hid (Below w.heap.size w w2) := A3.out.trans (hb.mono (by omega))
  have hs2 : w.heap.size < w2.heap.size := by have := hb.size; omega
  clear hb hsz A1 A2 A3
  go_wp2
  have O3 : Hid (OwnI 3 (w2.alloc (.cells #[] 3)) w2.heap.size (.slice (some ⟨w2.heap.size, 0, none⟩) 0 0) []) := OwnI.made 3 w2
  have G3 : Hid (Blk (w2.alloc (.cells #[] 3)) w.heap.size (bys l) 30) := G2.out.alloc _
  have B3 : Hid (Below w.heap.size w (w2.alloc (.cells #[] 3))) := B2.out.alloc (by omega) _
  have hs3 : w2.heap.size < (w2.alloc (.cells #[] 3)).heap.size := by simp
  generalize w2.alloc (.cells #[] 3) = w3 at O3 G3 B3 hs3 ⊢
  obtain ⟨g, hg⟩ : ∃ g, w2.heap.size = g := ⟨_, rfl⟩
  rw [hg] at O3 hs2 hs3 ⊢
  clear hg G2 B2
  go_loopw [8, 9] (fun v x wr => ∃ i : Nat, i ≤ P ∧ x = .int .i64 i ∧ Hid (OwnI 3 wr g v (digs l k i)) ∧ Hid (Below g w3 wr)) (fun _ x _ => P - (intOf x).toNat)
  case atStart => exact ⟨0, by omega, rfl, O3, Below.refl _ _⟩
  case round =>
    clear O3
    obtain ⟨i, hi, rfl, O, B⟩ := hrel
    have hs := B.out.size
    by_cases hlt : i < P
    · have HS : Hid (digs l k i ++ [dig l i k] = digs l k (i + 1)) := (digs_succ l k i).symm
      have HLL : Hid ((digs l k i).length = i) := digs_length l k i
      have R : Rd (w.heap.size + 1) wr (.slice (some ⟨w.heap.size, 0, none⟩) 32 32) l := by
        have h := (G3.out.below B.out hs2).rd (by rw [HL.out]; unfold maxLen; omega)
        rw [HL.out] at h
        exact h
      have CD : Hid (Calls Tryz.prog 104 #[.slice (some ⟨w.heap.size, 0, none⟩) 32 32, .int .i64 (i : Int), .int .i64 (k : Int)] wr (Just (.tuple #[.int .i64 (dig l i k : Nat), .int .i64 0]) wr)) := refDigit_in _ _ l i k _ HK.out R (by rw [HL.out]; omega) (Nat.lt_of_lt_of_le hlt HP32.out)
      generalize digs l k i = L at O HLL HS
      generalize dig l i k = D at HS CD
      clear R
      go_wp2_with fail
      refine CD.out.mono ?_
      rintro e w4 ⟨rfl, rfl⟩
      go_wp2_with (at_builtin; refine wpList_app1I rfl _ _ 100 rfl 3 i0 Tryz.underlying100 HI.out H0.out H1.out H2.out g _ L D ⟨wr.heap.size, 0, none⟩ rfl (O.out.alloc _) rfl (by simp) (by rw [HLL.out]; omega) (by simp; omega) ?_)
      intro v' w' hown hb
      rw [HS.out] at hown
      have O' := Lib.hid hown
      have B' : Hid (Below g w3 w') := (B.out.alloc (by omega) _).trans hb
      clear hown hb O B CD
      go_wp2
      go_roundw
      case rel => exact ⟨i + 1, by omega, by go_num, O', B'⟩
      case measure => simp [intOf]; omega
    · obtain rfl : i = P := by omega
      go_wp2_with fail
      refine (CC.out _).mono ?_
      rintro e w4 ⟨rfl, n, rfl⟩
      have O4 : Hid (OwnI 3 (wr.drewN n) g _ (digs l k i)) := O.out.below (B := wr.heap.size) (Below.drewN' (Below.refl _ _)) (Nat.le_refl _)
      have B4 : Hid (Below g w3 (wr.drewN n)) := Below.drewN' B.out
      have hs4 : g < (wr.drewN n).heap.size := by have := B4.out.size; omega
      generalize wr.drewN n = w4 at O4 B4 hs4 ⊢
      clear O B hs
      go_wp2
      go_loopw [8, 14] (fun v x wr => ∃ j : Nat, j ≤ C ∧ x = .int .i64 j ∧ Hid (OwnI 3 wr g v (digs l k i ++ digs (by2 N) k j)) ∧ Hid (Below g w3 wr)) (fun _ x _ => C - (intOf x).toNat)
      case atStart => exact ⟨0, by omega, rfl, by simpa [digs, Hid] using O4, B4⟩
      case round =>
        clear O4 B4 hs4
        obtain ⟨j, hj, rfl, O, B⟩ := hrel
        have hs := B.out.size
        by_cases hlt : j < C
        · have HS : Hid ((digs l k i ++ digs (by2 N) k j) ++ [dig (by2 N) j k] = digs l k i ++ digs (by2 N) k (j + 1)) := by show _ = _; rw [List.append_assoc, digs_succ]
          have HLL : Hid ((digs l k i ++ digs (by2 N) k j).length = i + j) := by show _ = _; rw [List.length_append, digs_length, digs_length]
          have R : Rd (wr.heap.size + 1) (wr.alloc (.cells #[.int .u8 ((N : Int) / 256), .int .u8 ((N : Int) % 256)] 5)) (.slice (some ⟨wr.heap.size, 0, none⟩) 2 2) (by2 N) :=
            Rd.two 5 _ wr _ _ _ _ (by simp; omega) (by simp)
          have CD : Hid (Calls Tryz.prog 104 #[.slice (some ⟨wr.heap.size, 0, none⟩) 2 2, .int .i64 (j : Int), .int .i64 (k : Int)] (wr.alloc (.cells #[.int .u8 ((N : Int) / 256), .int .u8 ((N : Int) % 256)] 5)) (Just (.tuple #[.int .i64 (dig (by2 N) j k : Nat), .int .i64 0]) (wr.alloc (.cells #[.int .u8 ((N : Int) / 256), .int .u8 ((N : Int) % 256)] 5)))) := refDigit_in _ _ (by2 N) j k _ HK.out R (by simp [by2]) (Nat.lt_of_lt_of_le hlt HC2.out)
          have O5 : Hid (OwnI 3 (wr.alloc (.cells #[.int .u8 ((N : Int) / 256), .int .u8 ((N : Int) % 256)] 5)) g _ (digs l k i ++ digs (by2 N) k j)) := O.out.alloc _
          have B5 : Hid (Below g w3 (wr.alloc (.cells #[.int .u8 ((N : Int) / 256), .int .u8 ((N : Int) % 256)] 5))) := B.out.alloc (by omega) _
          have hs5 : g < (wr.alloc (.cells #[.int .u8 ((N : Int) / 256), .int .u8 ((N : Int) % 256)] 5)).heap.size := by simp; omega
          generalize digs l k i ++ digs (by2 N) k j = L at O5 HLL HS
          generalize dig (by2 N) j k = D at HS CD
          clear R O B
          go_wp2_with fail
          refine CD.out.mono ?_
          rintro e w5 ⟨rfl, hw5⟩
          rw [hw5] at O5 B5 hs5
          clear hw5 CD
          go_wp2_with (at_builtin; refine wpList_app1I rfl _ _ 100 rfl 3 i0 Tryz.underlying100 HI.out H0.out H1.out H2.out g _ L D ⟨w5.heap.size, 0, none⟩ rfl (O5.out.alloc _) rfl (by simp) (by rw [HLL.out]; omega) (by simp; omega) ?_)
          intro v' w' hown hb
          rw [HS.out] at hown
          have O' := Lib.hid hown
          have B' : Hid (Below g w3 w') := (B5.out.alloc (by omega) _).trans hb
          clear hown hb O5 B5
          go_wp2
          go_roundw
          case rel => exact ⟨j + 1, by omega, by go_num, O', B'⟩
          case measure => simp [intOf]; omega
        · obtain rfl : j = C := by omega
          go_wp2
          go_ret2
          exact ⟨_, rfl, O.out.base (by omega), B3.out.trans (B.out.mono (by omega))⟩
end Go.Proofs.YtllncnnigjgadaaGreat
