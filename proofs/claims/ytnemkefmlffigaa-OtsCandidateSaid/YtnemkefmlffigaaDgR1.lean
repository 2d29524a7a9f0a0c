/-
  The document's own bit and digit: for every byte slice that is read, every place in it and every width.
-/
import Derived.Test.YtnemkefmlffigaaDgEq
namespace Go.Proofs.Ytnemkefmlffigaa
open Go.RowKit

/-- Bit j of bytes. -/
def btt (l : List UInt8) (j : Nat) : Nat := (l.getD (j / 8) 0).toNat / 2 ^ (7 - j % 8) % 2

set_option maxHeartbeats 400000 in
theorem bit_any (B : Nat) (v : Value) (l : List UInt8) (j : Nat) (w : World) (hr : Rd B w v l) (hl : l.length ≤ 100000) (hj : j < l.length * 8) : Calls Try.prog 88 #[v, .int .i64 (j : Int)] w (Just (.int .i64 (btt l j : Nat)) w) := by
  obtain ⟨q, hq⟩ : ∃ q, j / 8 = q := ⟨_, rfl⟩
  obtain ⟨r, hr8⟩ : ∃ r, j % 8 = r := ⟨_, rfl⟩
  obtain ⟨a, c, rfl, hc, hcm, hx⟩ := hr.cellAt q (by omega)
  unfold maxLen at hcm
  have hb := UInt8.toNat_lt (l.getD q 0)
  unfold btt
  rw [hq, hr8]
  generalize (l.getD q 0).toNat = x at hx hb
  have e1 : (j : Int) / 8 = (q : Int) := by omega
  have e2 : (j : Int) % 8 = (r : Int) := by omega
  have zq : (q : Int) < l.length := by omega
  have zx : (x : Int) ≤ 255 := by omega
  have zr : r ≤ 7 := by omega
  have zj : (j : Int) ≤ 800000 := by omega
  have HB := Lib.hid hb
  clear hq hr8 hr hb hj
  go_enter Try.func88, Try.ntmps88
  go_wp2
  go_loop [5, 6] (fun y k => ∃ n X : Nat, n ≤ 7 - r ∧ X ≤ 255 ∧ Hid (X = x / 2 ^ n) ∧ y = .int .i64 X ∧ k = .int .i64 n) (fun _ k => 7 - (intOf k).toNat)
  case atStart => exact ⟨0, x, by omega, by omega, by simp [Hid], rfl, rfl⟩
  case round =>
    obtain ⟨n, X, hn, hX, HX, rfl, rfl⟩ := hrel
    by_cases hlt : n < 7 - r
    · have HD : Hid (X / 2 = x / 2 ^ (n + 1)) := by show _ = _; rw [HX.out, Nat.div_div_eq_div_mul, ← Nat.pow_succ]
      have zn : (n : Int) < 7 - r := by omega
      go_wp2
      go_round
      case rel => exact ⟨n + 1, X / 2, by omega, by omega, HD, by go_num, by go_num⟩
      case measure => simp [intOf]; omega
    · have zn : ¬ ((n : Int) < 7 - r) := by omega
      have hn2 : n = 7 - r := by omega
      have HN := Lib.hid hn2
      clear hn2
      go_wp2
      go_ret
      exact ⟨ret_intD (by rw [← HN.out, HX.out]; simp), rfl⟩

/-- The first t bits of a digit. -/
def pfx (x r t : Nat) : Nat := x / 2 ^ (8 - r - t) % 2 ^ t
theorem pfx_succ (x r t : Nat) (h : r + t < 8) : 2 * pfx x r t + x / 2 ^ (7 - (r + t)) % 2 = pfx x r (t + 1) := by
  unfold pfx
  rw [show 8 - r - t = (7 - (r + t)) + 1 by omega, show 8 - r - (t + 1) = 7 - (r + t) by omega, Nat.pow_succ, ← Nat.div_div_eq_div_mul]
  generalize x / 2 ^ (7 - (r + t)) = y
  rw [Nat.pow_succ, Nat.mul_comm (2 ^ t) 2, Nat.mod_mul]
  omega
theorem pfx_le (x r t : Nat) (h : t ≤ 8) : pfx x r t ≤ 255 := by
  have h1 : pfx x r t < 2 ^ t := Nat.mod_lt _ (Nat.pow_pos (by omega))
  have h2 : 2 ^ t ≤ 2 ^ 8 := Nat.pow_le_pow_right (by omega) h
  omega
theorem pfx_dig (l : List UInt8) (i k : Nat) (hk : Wd k) : pfx (l.getD (i * k / 8) 0).toNat (i * k % 8) k = dig l i k := by
  unfold pfx dig
  rcases hk with rfl | rfl | rfl | rfl
  · rw [show i * 1 / 8 = i / (8 / 1) by omega, show 8 - i * 1 % 8 - 1 = (8 / 1 - 1 - i % (8 / 1)) * 1 by omega]
  · rw [show i * 2 / 8 = i / (8 / 2) by omega, show 8 - i * 2 % 8 - 2 = (8 / 2 - 1 - i % (8 / 2)) * 2 by omega]
  · rw [show i * 4 / 8 = i / (8 / 4) by omega, show 8 - i * 4 % 8 - 4 = (8 / 4 - 1 - i % (8 / 4)) * 4 by omega]
  · rw [show i * 8 / 8 = i / (8 / 8) by omega, show 8 - i * 8 % 8 - 8 = (8 / 8 - 1 - i % (8 / 8)) * 8 by omega]
theorem bit_in (l : List UInt8) (P t k i : Nat) (hk : Wd k) (hP : i * k = P) (ht : t < k) : btt l (P + t) = (l.getD (P / 8) 0).toNat / 2 ^ (7 - (P % 8 + t)) % 2 ∧ P % 8 + t < 8 := by
  unfold btt
  rcases hk with rfl | rfl | rfl | rfl
  all_goals
    rw [show (P + t) / 8 = P / 8 by omega, show (P + t) % 8 = P % 8 + t by omega]
    exact ⟨rfl, by omega⟩
theorem cap_eq (n k : Nat) (hk : Wd k) : n * 8 / k = n * (8 / k) := by
  rcases hk with rfl | rfl | rfl | rfl <;> omega

set_option maxHeartbeats 400000 in
theorem refDigit_in (B : Nat) (v : Value) (l : List UInt8) (i k : Nat) (w : World) (hk : Wd k) (hr : Rd B w v l) (hl : l.length ≤ 100000) (hi : i < l.length * (8 / k)) : Calls Try.prog 64 #[v, .int .i64 (i : Int), .int .i64 (k : Int)] w (Just (.tuple #[.int .i64 (dig l i k : Nat), .int .i64 0]) w) := by
  have HK := Lib.hid hk
  have HR := Lib.hid hr
  obtain ⟨k1, k8, _, _⟩ := hk.le
  obtain ⟨A, c, rfl, hc, hm⟩ := hr.shape
  obtain ⟨D, hD⟩ : ∃ D, dig l i k = D := ⟨_, rfl⟩
  rw [hD]
  obtain ⟨T, hT⟩ : ∃ T, l.length * 8 / k = T := ⟨_, rfl⟩
  obtain ⟨P, hP⟩ : ∃ P, i * k = P := ⟨_, rfl⟩
  have e1 : (l.length : Int) * 8 / (k : Int) = (T : Int) := by rw [← hT]; simp
  have e2 : (i : Int) * (k : Int) = (P : Int) := by rw [← hP]; simp
  have hiT : i < T := by rw [← hT, cap_eq _ _ hk]; exact hi
  have hPL : P + k ≤ l.length * 8 := by
    rw [← hP]
    rcases hk with rfl | rfl | rfl | rfl <;> omega
  have HE : Hid (pfx (l.getD (P / 8) 0).toNat (P % 8) k = D) := by show _ = _; rw [← hP, pfx_dig l i k hk, hD]
  have HB : Hid (∀ t, t < k → btt l (P + t) = (l.getD (P / 8) 0).toNat / 2 ^ (7 - (P % 8 + t)) % 2 ∧ P % 8 + t < 8) := fun t ht => bit_in l P t k i hk hP ht
  generalize (l.getD (P / 8) 0).toNat = x at HE HB
  generalize P % 8 = r at HE HB
  unfold maxLen at hm
  have zi : decide (T ≤ i) = false := by simp; omega
  have zk : ¬ k = 0 := by omega
  clear hk hr hD hT hP hi
  go_enter Try.func64, Try.ntmps64
  go_wp2_with fail
  refine (width_yes k _ HK.out).mono ?_
  rintro e w2 ⟨rfl, rfl⟩
  go_wp2
  go_loop [8, 9] (fun y t => ∃ n : Nat, n ≤ k ∧ y = .int .i64 (pfx x r n : Nat) ∧ t = .int .i64 n) (fun _ t => k - (intOf t).toNat)
  case atStart => exact ⟨0, by omega, by simp [pfx, Nat.mod_one], rfl⟩
  case round =>
    obtain ⟨n, hn, rfl, rfl⟩ := hrel
    by_cases hlt : n < k
    · obtain ⟨h1, h2⟩ := HB.out n hlt
      have h3 := pfx_succ x r n h2
      rw [← h1] at h3
      have h4 := pfx_le x r n (by omega)
      have h5 : btt l (P + n) ≤ 1 := by unfold btt; omega
      obtain ⟨b, hb⟩ : ∃ b, btt l (P + n) = b := ⟨_, rfl⟩
      rw [hb] at h3 h5
      have HBB := Lib.hid hb
      have H3 := Lib.hid h3
      clear h1 h2 h3 hb
      generalize pfx x r n = y at h4 H3
      have e3 : ((P + n : Nat) : Int) = (P : Int) + (n : Int) := by omega
      have HBC : Hid (Calls Try.prog 88 #[.slice A l.length c, .int .i64 ((P : Int) + (n : Int))] w (Just (.int .i64 (b : Nat)) w)) := by
        have h := bit_any B _ l (P + n) w HR.out hl (by omega)
        rw [HBB.out, e3] at h
        exact h
      clear e3
      go_wp2_with fail
      refine HBC.out.mono ?_
      rintro e w2 ⟨rfl, rfl⟩
      go_wp2
      go_round
      case rel => exact ⟨n + 1, by omega, by rw [← H3.out]; go_num, by go_num⟩
      case measure => simp [intOf]; omega
    · obtain rfl : n = k := by omega
      rw [HE.out]
      go_wp2
      go_ret2
      exact ⟨rfl, rfl⟩

set_option maxHeartbeats 400000 in
theorem refDigit_out (B : Nat) (v : Value) (l : List UInt8) (i : Int) (k : Nat) (w : World) (hk : Wd k) (hr : Rd B w v l) (hl : l.length ≤ 100000) (hi : i < 0 ∨ ((l.length * (8 / k) : Nat) : Int) ≤ i) : Calls Try.prog 64 #[v, .int .i64 i, .int .i64 (k : Int)] w (Just (.tuple #[.int .i64 0, .int .i64 1]) w) := by
  have HK := Lib.hid hk
  obtain ⟨k1, k8, _, _⟩ := hk.le
  obtain ⟨A, c, rfl, hc, hm⟩ := hr.shape
  obtain ⟨T, hT⟩ : ∃ T, l.length * 8 / k = T := ⟨_, rfl⟩
  have e1 : (l.length : Int) * 8 / (k : Int) = (T : Int) := by rw [← hT]; simp
  rw [← cap_eq _ _ hk, hT] at hi
  unfold maxLen at hm
  have zk : ¬ k = 0 := by omega
  clear hk hr hT
  by_cases h0 : i < 0
  · clear hi
    go_enter Try.func64, Try.ntmps64
    go_wp2_with fail
    refine (width_yes k _ HK.out).mono ?_
    rintro e w2 ⟨rfl, rfl⟩
    go_wp2
    go_ret2
    exact ⟨rfl, rfl⟩
  · have zi : (T : Int) ≤ i := by omega
    clear hi
    go_enter Try.func64, Try.ntmps64
    go_wp2_with fail
    refine (width_yes k _ HK.out).mono ?_
    rintro e w2 ⟨rfl, rfl⟩
    go_wp2
    go_ret2
    exact ⟨rfl, rfl⟩
set_option maxHeartbeats 400000 in
theorem refDigit_no (v : Value) (i z : Int) (w : World) (hz : NoW z) : Calls Try.prog 64 #[v, .int .i64 i, .int .i64 z] w (Just (.tuple #[.int .i64 0, .int .i64 1]) w) := by
  obtain ⟨h1, h2, h4, h8⟩ := hz
  go_enter Try.func64, Try.ntmps64
  go_wp2_with fail
  refine (width_no z _ h1 h2 h4 h8).mono ?_
  rintro e w2 ⟨rfl, rfl⟩
  go_wp2
  go_ret2
  exact ⟨rfl, rfl⟩
end Go.Proofs.Ytnemkefmlffigaa
