/-
  The document's own round word of every place from 0 to 63 is the program's; and the law ShaRounds.
-/
import Derived.Test.YtochamncdplaiaaP3
namespace Go.Proofs.Ytochamncdplaiaa
open Go.RowKit

def prB (n : Nat) : Bool := (List.range 20).all fun d => decide (d < 2) || decide (n < d * d) || n % d != 0
theorem prB_yes (n : Nat) (h : prB n = true) (hn : n ≤ 311) : Pr n := fun d h2 hd => by
  have hd20 : d < 20 := by
    rcases Nat.lt_or_ge d 20 with h' | h'
    · exact h'
    · have := sq_le h'; omega
  have := (List.all_eq_true.1 h) d (List.mem_range.2 hd20)
  simp only [Bool.or_eq_true, decide_eq_true_eq, bne_iff_ne] at this
  omega
theorem prB_no (n : Nat) (h : prB n = false) : ∃ d, 2 ≤ d ∧ d * d ≤ n ∧ n % d = 0 := by
  unfold prB at h
  obtain ⟨d, _, hd⟩ := List.all_eq_false.1 h
  simp only [Bool.or_eq_true, decide_eq_true_eq, bne_iff_ne, not_or, Nat.not_lt, Decidable.not_not] at hd
  exact ⟨d, hd.1.1, hd.1.2, hd.2⟩
theorem pls : ∀ k < 63, pl.getD k 0 < pl.getD (k + 1) 0 ∧ pl.getD (k + 1) 0 ≤ 311 ∧ prB (pl.getD (k + 1) 0) = true ∧ ∀ n < 312, pl.getD k 0 < n → n < pl.getD (k + 1) 0 → prB n = false := by decide +kernel
theorem pl_le : ∀ k < 64, pl.getD k 0 ≤ 311 := by decide +kernel
def bitv (n : Nat) : Nat := if n < 36 then 2 ^ (35 - n) else 0
theorem bitv_half : ∀ n < 36, bitv (n + 1) = bitv n / 2 := by decide +kernel
theorem bitv_pos : ∀ n < 36, 0 < bitv n := by decide +kernel
theorem bitv_le : ∀ n < 36, bitv n + bitv (n + 1) ≤ 2 ^ 36 ∧ bitv n ≤ 34359738368 := by decide +kernel
theorem rootl_succ (p n : Nat) (h : n < 36) : rootl p (n + 1) = if fitsl (rootl p n + bitv n) p then rootl p n + bitv n else rootl p n := by
  unfold bitv; rw [if_pos h]; rfl
theorem pow_bd (n : Nat) : 2 ^ (35 - n) ≤ 34359738368 := Nat.le_trans (Nat.pow_le_pow_right (by omega) (show 35 - n ≤ 35 by omega)) (by decide +kernel)
theorem rootl_lt (p n : Nat) : (rootl p n : Int) ≤ n * 34359738368 := by
  induction n with
  | zero => exact Int.le_refl _
  | succ n ih =>
    have hb := pow_bd n
    have hc : rootl p (n + 1) = rootl p n + 2 ^ (35 - n) ∨ rootl p (n + 1) = rootl p n := by
      rw [rootl]
      by_cases h : fitsl (rootl p n + 2 ^ (35 - n)) p = true
      · rw [if_pos h]; exact .inl rfl
      · rw [if_neg h]; exact .inr rfl
    generalize 2 ^ (35 - n) = B at hb hc
    rcases hc with hc | hc <;> rw [hc] <;> omega
theorem rootl_bd (p n : Nat) (h : n ≤ 36) : (rootl p n : Int) ≤ 1236950581248 := by have := rootl_lt p n; omega

set_option maxHeartbeats 1000000 in
theorem root_any (i : Nat) (w : World) (h : i < 64) : Calls Try.prog 13 #[.int .i64 (i : Int)] w fun e w' => e = .returned (.int .u32 ((kw.getD i 0 : Nat) : Int)) ∧ Below w.heap.size w w' := by
  have HK : Hid (rootl (pl.getD i 0) 36 % 4294967296 = kw.getD i 0) := roots i h
  obtain ⟨x, hx⟩ : ∃ x, kw.getD i 0 = x := ⟨_, rfl⟩
  rw [hx] at HK ⊢
  clear hx
  go_enter Try.func13, Try.ntmps13
  go_wp2
  go_loop [3, 4] (fun y z => ∃ k : Nat, k ≤ i ∧ z = .int .i64 k ∧ y = .int .i64 (pl.getD k 0 : Nat)) (fun _ z => i - (intOf z).toNat)
  case atStart => exact ⟨0, by omega, rfl, rfl⟩
  case round =>
    obtain ⟨k, hk, rfl, rfl⟩ := hrel
    by_cases hk2 : k < i
    · obtain ⟨q1, q2, q3, q4⟩ := pls k (by omega)
      have Q3 : Hid (Pr (pl.getD (k + 1) 0)) := prB_yes _ q3 q2
      have Q4 := Lib.hid q4
      obtain ⟨P, hP⟩ : ∃ P, pl.getD k 0 = P := ⟨_, rfl⟩
      obtain ⟨R, hR⟩ : ∃ R, pl.getD (k + 1) 0 = R := ⟨_, rfl⟩
      rw [hP] at q1 Q4 ⊢
      rw [hR] at q1 q2 Q3 Q4
      have HR := Lib.hid hR
      clear hP hR q3 q4
      go_wp2
      go_loop [3] (fun y => ∃ m : Nat, P < m ∧ m ≤ R ∧ y = .int .i64 m) (fun y => R - (intOf y).toNat)
      case atStart => exact ⟨P + 1, by omega, by omega, by go_num⟩
      case round =>
        obtain ⟨m, m1, m2, rfl⟩ := hrel
        by_cases hm : m < R
        · obtain ⟨d, d1, d2, d3⟩ := prB_no m (Q4.out m (by omega) m1 hm)
          have D3 := Lib.hid d3
          clear d3
          go_wp2_with fail
          refine (prime_no m d _ (by omega) d1 d2 D3).mono ?_
          rintro e w' ⟨rfl, rfl⟩
          clear d1 d2
          go_wp2
          go_round
          case rel => exact ⟨m + 1, by omega, by omega, by go_num⟩
          case measure => simp [intOf]; omega
        · obtain rfl : m = R := by omega
          go_wp2_with fail
          refine (prime_yes m _ (by omega) Q3).mono ?_
          rintro e w' ⟨rfl, rfl⟩
          go_wp2
          go_round
          case rel => exact ⟨k + 1, by omega, by go_num, by rw [HR.out]⟩
          case measure => simp [intOf]; omega
    · obtain rfl : k = i := by omega
      have hp := pl_le k h
      obtain ⟨p, hP⟩ : ∃ P, pl.getD k 0 = P := ⟨_, rfl⟩
      rw [hP] at hp HK ⊢
      clear hP
      go_wp2
      go_loopw [5, 6] (fun y z wr => ∃ n X b : Nat, n ≤ 36 ∧ Hid (rootl p n = X) ∧ Hid (bitv n = b) ∧ y = .int .u64 X ∧ z = .int .u64 b ∧ Hid (Below w.heap.size w wr)) (fun _ z _ => (intOf z).toNat)
      case atStart => exact ⟨0, 0, 34359738368, by omega, rfl, rfl, rfl, rfl, Below.refl _ _⟩
      case round =>
        obtain ⟨n, X, b, hn, HX, HBt, rfl, rfl, GB⟩ := hrel
        have hXb : (X : Int) ≤ 1236950581248 := by have := rootl_bd p n hn; rw [HX.out] at this; exact this
        by_cases hn2 : n < 36
        · have hb0 : 0 < b := by rw [← HBt.out]; exact bitv_pos n hn2
          have hb1 : b ≤ 34359738368 := by rw [← HBt.out]; exact (bitv_le n hn2).2
          have hs := rootl_succ p n hn2
          rw [HX.out, HBt.out] at hs
          have hbh := bitv_half n hn2
          rw [HBt.out] at hbh
          have HBH := Lib.hid hbh
          have HSS := Lib.hid hs
          clear hs hbh
          go_wp2_with fail
          have hfa := fits_any (X + b) p wr (by omega) (by omega)
          rw [show ((X + b : Nat) : Int) = (X : Int) + (b : Int) by omega] at hfa
          refine hfa.mono ?_
          rintro e w2 ⟨rfl, hb2⟩
          have GB2 : Hid (Below w.heap.size w w2) := GB.out.trans (hb2.mono GB.out.size)
          clear hfa hb2
          by_cases hf : fitsl (X + b) p = true
          · rw [hf]
            have HX2 : Hid (rootl p (n + 1) = X + b) := by show _ = _; rw [HSS.out, hf]; rfl
            go_wp2
            go_roundw
            case rel => exact ⟨n + 1, X + b, b / 2, by omega, HX2, HBH, by go_num, by go_num, GB2⟩
            case measure => simp [intOf]; omega
          · have hf' : fitsl (X + b) p = false := by simpa using hf
            rw [hf']
            have HX2 : Hid (rootl p (n + 1) = X) := by show _ = _; rw [HSS.out, hf']; rfl
            clear hf
            go_wp2
            go_roundw
            case rel => exact ⟨n + 1, X, b / 2, by omega, HX2, HBH, by go_num, by go_num, GB2⟩
            case measure => simp [intOf]; omega
        · obtain rfl : n = 36 := by omega
          have hb0 : b = 0 := by rw [← HBt.out]; rfl
          subst hb0
          rw [show ((0 : Nat) : Int) = 0 from rfl]
          have HE : Hid (X % 4294967296 = x) := by show _ = _; rw [← HK.out, ← HX.out]
          go_wp2
          go_ret
          refine ⟨ret_int ?_, GB.out⟩
          rw [← HE.out]
          simp
end Go.Proofs.Ytochamncdplaiaa
