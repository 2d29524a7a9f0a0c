/-
  isWidth, greatest, count and digit of package digits, and the document's own 'width': for every width, every byte slice that is read and every digit of it.
  digit of package digits: for every width, every byte slice that is read and every digit of it.
  own, check, shift and number of package digits: for every width and every hash.
  number of package digits: for every width and every hash.
  appendDigits and All of package digits: for every width, every hash, and every byte slice that is read.
  All of package digits: for every width and every hash; and what is no width.
  Digit, Own, Check, Shift and Number of package digits: for every input; and the statements' live question, which is answered with true.
  The document's own comparison of two slices of ints answers true for two that read alike.
  TwoD arrays of bytes are equal just if their bytes are, as the program compares them.
-/
import Derived.Test.YtllncnnigjgadaaGreatChecked
import Derived.Test.YtllncnnigjgadaaGreatPs
import Derived.Test.YtllncnnigjgadaaGreatMs
import Derived.WalkKit
import Derived.WalkLawsBesides
import Derived.Outline
import Derived.IntWalk
import Derived.Lib.Hide
import Derived.Deep.QuietTactic
import Derived.BigQuiet
import Derived.Deep.Draws
import Derived.Laws.BitsAllLaws
import Derived.ChangeKeysEq
namespace Go.Proofs.YtllncnnigjgadaaGreat
open Go.RowKit

theorem ret_intD {k : IntKind} {a b : Int} (h : a = b) : Ending.returned (.int k a) = .returned (.int k b) := by rw [h]

/-- The call answers this value, and the world is as it was. -/
def Just (v : Value) (w : World) (e : Ending) (w' : World) : Prop := e = .returned v ∧ w = w'
/-- The call answers this value, and no old memory has changed. -/
def One (v : Value) (w : World) (e : Ending) (w' : World) : Prop := e = .returned v ∧ Below w.heap.size w w'
/-- The call answers this value, and has only drawn. -/
def Drew (v : Value) (w : World) (e : Ending) (w' : World) : Prop := e = .returned v ∧ ∃ n, w' = w.drewN n

set_option maxHeartbeats 400000 in
theorem isWidth_yes (k : Nat) (w : World) (hk : Wd k) : Calls Tryz.prog 93 #[.int .i64 (k : Int)] w (Just (.bool true) w) := by
  rcases hk with rfl | rfl | rfl | rfl
  all_goals
    go_enter Tryz.func93, Tryz.ntmps93
    go_wp2
    go_ret
    exact ⟨rfl, rfl⟩
set_option maxHeartbeats 400000 in
theorem width_yes (k : Nat) (w : World) (hk : Wd k) : Calls Tryz.prog 119 #[.int .i64 (k : Int)] w (Just (.bool true) w) := by
  rcases hk with rfl | rfl | rfl | rfl
  all_goals
    go_enter Tryz.func119, Tryz.ntmps119
    go_wp2
    go_ret
    exact ⟨rfl, rfl⟩
set_option maxHeartbeats 400000 in
theorem greatest_any (k : Nat) (w : World) (hk : Wd k) : Calls Tryz.prog 112 #[.int .i64 (k : Int)] w (Just (.int .i64 (gr k : Nat)) w) := by
  rcases hk with rfl | rfl | rfl | rfl
  all_goals
    go_enter Tryz.func112, Tryz.ntmps112
    go_wp2
    go_ret
    exact ⟨rfl, rfl⟩
set_option maxHeartbeats 400000 in
theorem count_any (A : Option Addr) (n c k : Nat) (w : World) (hk : Wd k) (hn : n ≤ 1099511627776) : Calls Tryz.prog 115 #[.slice A n c, .int .i64 (k : Int)] w (Just (.int .i64 (n * (8 / k) : Nat)) w) := by
  rcases hk with rfl | rfl | rfl | rfl
  all_goals
    go_enter Tryz.func115, Tryz.ntmps115
    go_wp2
    go_ret
    exact ⟨ret_intD (by simp <;> omega), rfl⟩
end Go.Proofs.YtllncnnigjgadaaGreat

namespace Go.Proofs.YtllncnnigjgadaaGreat
open Go.RowKit

theorem Just.quiet {f : FuncId} {args : Array Value} {w : World} {n : Nat} {v : Value} (h : Calls Tryz.prog f args (w.drewN n) (Just v (w.drewN n))) : Calls Tryz.prog f args (w.drewN n) fun e w'' => e = .returned v ∧ ∃ m, w'' = w.drewN m :=
  h.mono fun _ _ ⟨he, hw⟩ => ⟨he, n, hw.symm⟩
theorem Drew.quiet {f : FuncId} {args : Array Value} {w : World} {n : Nat} {v : Value} (h : Calls Tryz.prog f args (w.drewN n) (Drew v (w.drewN n))) : Calls Tryz.prog f args (w.drewN n) fun e w'' => e = .returned v ∧ ∃ m, w'' = w.drewN m :=
  h.mono fun _ _ ⟨he, m, hm⟩ => ⟨he, n + m, by rw [hm, World.drewN_drewN]⟩

theorem Rd.cellAt {B : Nat} {w : World} {v : Value} {l : List UInt8} (h : Rd B w v l) (i : Nat) (hi : i < l.length) : ∃ a c, v = .slice (some a) l.length c ∧ l.length ≤ c ∧ c ≤ maxLen ∧ w.cell? (a.add i) = some (.int .u8 ((l.getD i 0).toNat : Int)) := by
  obtain ⟨A, c, rfl, hc, hm, hn, hcell⟩ := h
  cases A with
  | none => have := hn rfl; omega
  | some a => exact ⟨a, c, rfl, hc, hm, by rw [(hcell a rfl).2 i hi]; simp [hi]⟩

theorem wraps_i64 (n : Int) (h₀ : 0 ≤ n) (h₁ : n < 2 ^ 62) : IntKind.i64.wrap n = n := by rw [IntKind.wrap_i64]; omega
theorem mask (k x m : Nat) (hk : Wd k) (hx : x < 256) : bits .and .i64 ((x : Int) / 2 ^ m) (gr k : Nat) = ((x / 2 ^ m % 2 ^ k : Nat) : Int) := by
  have e : (x : Int) / 2 ^ m = ((x / 2 ^ m : Nat) : Int) := by simp
  have hlt : x / 2 ^ m < 256 := Nat.lt_of_le_of_lt (Nat.div_le_self _ _) hx
  have hg : gr k < 256 := by rcases hk with rfl | rfl | rfl | rfl <;> decide
  rw [e, (bits_nat .i64 62 (by decide) wraps_i64 _ _ (by omega) (by omega)).1]
  unfold gr
  rw [Nat.and_two_pow_sub_one_eq_mod]

set_option maxHeartbeats 400000 in
theorem digit_1 (B : Nat) (v : Value) (l : List UInt8) (i q m : Nat) (w : World) (hr : Rd B w v l) (hl : l.length ≤ 1099511627776) (hi : q < l.length) (hq : i / 8 = q) (hm : (7 - i % 8) = m) : Calls Tryz.prog 113 #[v, .int .i64 (i : Int), .int .i64 1] w (Drew (.int .i64 (dig l i 1 : Nat)) w) := by
  obtain ⟨a, c, rfl, hc, hcm, hx⟩ := hr.cellAt q hi
  unfold maxLen at hcm
  have hb := UInt8.toNat_lt (l.getD q 0)
  unfold dig
  rw [show i / (8 / 1) = q by simpa using hq, show (8 / 1 - 1 - i % (8 / 1)) * 1 = m by simp; omega]
  generalize (l.getD q 0).toNat = x at hx hb
  have zi : (q : Int) < l.length := by omega
  have e1 : 7 - (i : Int) % 8 = (m : Int) := by omega
  have e2 : (i : Int) / 8 = (q : Int) := by omega
  have hi2 : (i : Int) ≤ 9223372036854775807 := by omega
  have zx : (x : Int) ≤ 255 := by omega
  have zm : (m : Int) ≤ 7 := by omega
  clear hq hm
  go_enter Tryz.func113, Tryz.ntmps113
  go_wp2
  refine wp_region_quiet_lit (by kernel_rfl) (by kernel_rfl) ?_
  repeat (first | go_big_quiet_step ((go_at_call 112; exact Just.quiet (greatest_any 1 _ (by simp [Wd])))) | quiet_step ((go_at_call 112; exact Just.quiet (greatest_any 1 _ (by simp [Wd])))))
  refine wpQuiet_nil ?_
  intro _ hw'
  obtain ⟨nq, hw''⟩ := hw'
  subst hw''
  go_wp2
  go_ret
  exact ⟨ret_intD (mask 1 x (m) (by simp [Wd]) hb), nq, rfl⟩
set_option maxHeartbeats 400000 in
theorem digit_2 (B : Nat) (v : Value) (l : List UInt8) (i q m : Nat) (w : World) (hr : Rd B w v l) (hl : l.length ≤ 1099511627776) (hi : q < l.length) (hq : i / 4 = q) (hm : (3 - i % 4) = m) : Calls Tryz.prog 113 #[v, .int .i64 (i : Int), .int .i64 2] w (Drew (.int .i64 (dig l i 2 : Nat)) w) := by
  obtain ⟨a, c, rfl, hc, hcm, hx⟩ := hr.cellAt q hi
  unfold maxLen at hcm
  have hb := UInt8.toNat_lt (l.getD q 0)
  unfold dig
  rw [show i / (8 / 2) = q by simpa using hq, show (8 / 2 - 1 - i % (8 / 2)) * 2 = m * 2 by simp; omega]
  generalize (l.getD q 0).toNat = x at hx hb
  have zi : (q : Int) < l.length := by omega
  have e1 : 3 - (i : Int) % 4 = (m : Int) := by omega
  have e2 : (i : Int) / 4 = (q : Int) := by omega
  have hi2 : (i : Int) ≤ 9223372036854775807 := by omega
  have zx : (x : Int) ≤ 255 := by omega
  have zm : (m : Int) ≤ 3 := by omega
  clear hq hm
  go_enter Tryz.func113, Tryz.ntmps113
  go_wp2
  refine wp_region_quiet_lit (by kernel_rfl) (by kernel_rfl) ?_
  repeat (first | go_big_quiet_step ((go_at_call 112; exact Just.quiet (greatest_any 2 _ (by simp [Wd])))) | quiet_step ((go_at_call 112; exact Just.quiet (greatest_any 2 _ (by simp [Wd])))))
  refine wpQuiet_nil ?_
  intro _ hw'
  obtain ⟨nq, hw''⟩ := hw'
  subst hw''
  go_wp2
  go_ret
  exact ⟨ret_intD (mask 2 x (m * 2) (by simp [Wd]) hb), nq, rfl⟩
set_option maxHeartbeats 400000 in
theorem digit_4 (B : Nat) (v : Value) (l : List UInt8) (i q m : Nat) (w : World) (hr : Rd B w v l) (hl : l.length ≤ 1099511627776) (hi : q < l.length) (hq : i / 2 = q) (hm : (1 - i % 2) = m) : Calls Tryz.prog 113 #[v, .int .i64 (i : Int), .int .i64 4] w (Drew (.int .i64 (dig l i 4 : Nat)) w) := by
  obtain ⟨a, c, rfl, hc, hcm, hx⟩ := hr.cellAt q hi
  unfold maxLen at hcm
  have hb := UInt8.toNat_lt (l.getD q 0)
  unfold dig
  rw [show i / (8 / 4) = q by simpa using hq, show (8 / 4 - 1 - i % (8 / 4)) * 4 = m * 4 by simp; omega]
  generalize (l.getD q 0).toNat = x at hx hb
  have zi : (q : Int) < l.length := by omega
  have e1 : 1 - (i : Int) % 2 = (m : Int) := by omega
  have e2 : (i : Int) / 2 = (q : Int) := by omega
  have hi2 : (i : Int) ≤ 9223372036854775807 := by omega
  have zx : (x : Int) ≤ 255 := by omega
  have zm : (m : Int) ≤ 1 := by omega
  clear hq hm
  go_enter Tryz.func113, Tryz.ntmps113
  go_wp2
  refine wp_region_quiet_lit (by kernel_rfl) (by kernel_rfl) ?_
  repeat (first | go_big_quiet_step ((go_at_call 112; exact Just.quiet (greatest_any 4 _ (by simp [Wd])))) | quiet_step ((go_at_call 112; exact Just.quiet (greatest_any 4 _ (by simp [Wd])))))
  refine wpQuiet_nil ?_
  intro _ hw'
  obtain ⟨nq, hw''⟩ := hw'
  subst hw''
  go_wp2
  go_ret
  exact ⟨ret_intD (mask 4 x (m * 4) (by simp [Wd]) hb), nq, rfl⟩
set_option maxHeartbeats 400000 in
theorem digit_8 (B : Nat) (v : Value) (l : List UInt8) (i : Nat) (w : World) (hr : Rd B w v l) (hi : i < l.length) : Calls Tryz.prog 113 #[v, .int .i64 (i : Int), .int .i64 8] w (Drew (.int .i64 (dig l i 8 : Nat)) w) := by
  obtain ⟨a, c, rfl, hc, hm, hx⟩ := hr.cellAt i hi
  unfold maxLen at hm
  have hb := UInt8.toNat_lt (l.getD i 0)
  unfold dig
  rw [show i / (8 / 8) = i by simp, show (8 / 8 - 1 - i % (8 / 8)) * 8 = 0 by simp]
  generalize (l.getD i 0).toNat = x at hx hb
  have zi : (i : Int) < l.length := by omega
  have zx : (x : Int) ≤ 255 := by omega
  go_enter Tryz.func113, Tryz.ntmps113
  go_wp2
  refine wp_region_quiet_lit (by kernel_rfl) (by kernel_rfl) ?_
  repeat (first | go_big_quiet_step ((go_at_call 112; exact Just.quiet (greatest_any 8 _ (by simp [Wd])))) | quiet_step ((go_at_call 112; exact Just.quiet (greatest_any 8 _ (by simp [Wd])))))
  refine wpQuiet_nil ?_
  intro _ hw'
  obtain ⟨nq, hw''⟩ := hw'
  subst hw''
  go_wp2
  go_ret
  exact ⟨ret_intD (by have h := mask 8 x 0 (by simp [Wd]) hb; simpa using h), nq, rfl⟩

theorem digit_any (B : Nat) (v : Value) (l : List UInt8) (i k : Nat) (w : World) (hk : Wd k) (hr : Rd B w v l) (hl : l.length ≤ 1099511627776) (hi : i < l.length * (8 / k)) : Calls Tryz.prog 113 #[v, .int .i64 (i : Int), .int .i64 (k : Int)] w (Drew (.int .i64 (dig l i k : Nat)) w) := by
  rcases hk with rfl | rfl | rfl | rfl
  · exact digit_1 B v l i _ _ w hr hl (by omega) rfl rfl
  · exact digit_2 B v l i _ _ w hr hl (by omega) rfl rfl
  · exact digit_4 B v l i _ _ w hr hl (by omega) rfl rfl
  · exact digit_8 B v l i w hr (by omega)
end Go.Proofs.YtllncnnigjgadaaGreat

namespace Go.Proofs.YtllncnnigjgadaaGreat
open Go.RowKit

def z32D : List Value := bys (List.replicate 32 0)
theorem z28 : (Tryz.prog.info? 30).map (·.zero) = some (some (.agg z32D.toArray)) := by kernel_rfl
theorem s28 : (Tryz.prog.info? 30).map (·.size) = some 32 := by kernel_rfl
theorem tu28 : Tryz.prog.underlying 30 = some (.array 32 5) := by kernel_rfl

/-- The whole array of a block, as a slice, reads as its bytes. -/
theorem Blk.rd {w : World} {g : Nat} {l : List UInt8} {t : TypeId} (h : Blk w g (bys l) t) (hl : l.length ≤ maxLen) : Rd (g + 1) w (.slice (some ⟨g, 0, none⟩) l.length l.length) l := by
  refine ⟨some ⟨g, 0, none⟩, l.length, rfl, Nat.le_refl _, hl, fun h => (by cases h), fun a ha => ?_⟩
  cases ha
  refine ⟨fun _ => Nat.lt_succ_self _, fun j hj => ?_⟩
  rw [Addr.add_mid, Nat.zero_add, h.cell, bys_get l j hj]

/-- How many digits a hash has. -/
def onn (k : Nat) : Nat := 256 / k
set_option maxHeartbeats 400000 in
theorem own_any (k : Nat) (w : World) (hk : Wd k) : Calls Tryz.prog 95 #[.int .i64 (k : Int)] w (One (.int .i64 (onn k : Nat)) w) := by
  go_enter Tryz.func95, Tryz.ntmps95
  go_wp2_with (refine wpList_alloc_blk rfl 30 rfl _ z28 ?_)
  intro w1 a1 a2 a3
  have A3 := Lib.hid a3
  clear a1 a2 a3
  go_wp2_with fail
  refine (count_any _ 32 32 k _ hk (by omega)).mono ?_
  rintro e w2 ⟨rfl, rfl⟩
  go_wp2
  go_ret
  exact ⟨ret_intD (by rcases hk with rfl | rfl | rfl | rfl <;> rfl), A3.out⟩

theorem chk_cap (k : Nat) (hk : Wd k) : onn k * gr k < 2 ^ (k * chk k) := by rcases hk with rfl | rfl | rfl | rfl <;> decide
theorem chk_zero (k j : Nat) (hk : Wd k) (h : chk k ≤ j) : onn k * gr k / 2 ^ (k * j) = 0 :=
  Nat.div_eq_of_lt (Nat.lt_of_lt_of_le (chk_cap k hk) (Nat.pow_le_pow_right (by omega) (Nat.mul_le_mul_left _ h)))
theorem chk_pos (k j : Nat) (hk : Wd k) (h : j < chk k) : 0 < onn k * gr k / 2 ^ (k * j) := by
  revert j
  rcases hk with rfl | rfl | rfl | rfl <;> decide
theorem chk_le (k : Nat) : chk k ≤ 9 := by unfold chk; repeat' split
                                           all_goals omega
theorem Wd.le {k : Nat} (hk : Wd k) : 1 ≤ k ∧ k ≤ 8 ∧ onn k ≤ 256 ∧ gr k ≤ 255 := by rcases hk with rfl | rfl | rfl | rfl <;> decide

set_option maxHeartbeats 400000 in
theorem check_any (k : Nat) (w : World) (hk : Wd k) : Calls Tryz.prog 96 #[.int .i64 (k : Int)] w (One (.int .i64 (chk k : Nat)) w) := by
  obtain ⟨k1, k8, hP, hG⟩ := hk.le
  have hc := chk_le k
  have HZ : Hid (∀ j, chk k ≤ j → onn k * gr k / 2 ^ (k * j) = 0) := fun j hj => chk_zero k j hk hj
  have HP : Hid (∀ j, j < chk k → 0 < onn k * gr k / 2 ^ (k * j)) := fun j hj => chk_pos k j hk hj
  obtain ⟨C, hC⟩ : ∃ C, chk k = C := ⟨_, rfl⟩
  rw [hC] at HZ HP hc ⊢
  clear hC
  go_enter Tryz.func96, Tryz.ntmps96
  go_wp2_with fail
  refine (own_any k _ hk).mono ?_
  rintro e w2 ⟨rfl, hb⟩
  have B2 := Lib.hid hb
  clear hb
  go_wp2_with fail
  refine (greatest_any k _ hk).mono ?_
  rintro e w3 ⟨rfl, rfl⟩
  obtain ⟨M, hM⟩ : ∃ M, onn k * gr k = M := ⟨_, rfl⟩
  have hM2 : M ≤ 65280 := by rw [← hM]; exact Nat.mul_le_mul hP hG
  have e1 : ((onn k : Nat) : Int) * ((gr k : Nat) : Int) = (M : Int) := by rw [← hM]; exact (Int.natCast_mul _ _).symm
  rw [hM] at HZ HP
  generalize onn k = P at hP e1 ⊢
  generalize gr k = G at hG e1 ⊢
  clear hM
  go_wp2
  clear e1
  go_loop [3, 4] (fun n x => ∃ j X : Nat, j ≤ C ∧ X ≤ 65280 ∧ Hid (X = M / 2 ^ (k * j)) ∧ n = .int .i64 j ∧ x = .int .i64 X) (fun _ x => (intOf x).toNat)
  case atStart => exact ⟨0, M, by omega, hM2, by simp [Hid], rfl, rfl⟩
  case round =>
    obtain ⟨j, X, hj, hX, HX, rfl, rfl⟩ := hrel
    by_cases h0 : 0 < X
    · have hlt : j < C := by
        rcases Nat.lt_or_ge j C with h | h
        · exact h
        · have := HZ.out j h; have := HX.out; omega
      have HD : Hid (X / 2 ^ k = M / 2 ^ (k * (j + 1))) := by
        show _ = _
        rw [HX.out, Nat.div_div_eq_div_mul, ← Nat.pow_add, Nat.mul_succ]
      have hdec : X / 2 ^ k < X := Nat.div_lt_self h0 (Nat.one_lt_two_pow (by omega))
      go_wp2
      go_round
      case rel => exact ⟨j + 1, X / 2 ^ k, by omega, by omega, HD, by go_num, by simp⟩
      case measure =>
        have e : ((X : Int) / 2 ^ k).toNat = X / 2 ^ k := by
          rw [show (X : Int) / 2 ^ k = ((X / 2 ^ k : Nat) : Int) by simp]; rfl
        simp only [intOf, e, Int.toNat_natCast]
        exact hdec
    · obtain rfl : X = 0 := by omega
      have hj2 : C = j := by
        rcases Nat.lt_or_ge j C with h | h
        · have := HP.out j h; have := HX.out; omega
        · omega
      subst hj2
      rw [show ((0 : Nat) : Int) = 0 from rfl]
      go_wp2
      go_ret
      exact ⟨rfl, B2.out⟩

set_option maxHeartbeats 400000 in
theorem shift_any (k : Nat) (w : World) (hk : Wd k) : Calls Tryz.prog 114 #[.int .i64 (k : Int)] w (One (.int .i64 (shf k : Nat)) w) := by
  obtain ⟨k1, k8, hP, hG⟩ := hk.le
  have hc := chk_le k
  have e1 : ((shf k : Nat) : Int) = 16 - (chk k : Int) * (k : Int) := by rcases hk with rfl | rfl | rfl | rfl <;> rfl
  have HE := Lib.hid e1
  clear e1
  go_enter Tryz.func114, Tryz.ntmps114
  go_wp2_with fail
  refine (check_any k _ hk).mono ?_
  rintro e w2 ⟨rfl, hb⟩
  have B2 := Lib.hid hb
  clear hb
  rw [HE.out]
  rcases hk with rfl | rfl | rfl | rfl
  all_goals
    simp only [chk]
    go_wp2
    go_ret
    exact ⟨rfl, B2.out⟩
end Go.Proofs.YtllncnnigjgadaaGreat

namespace Go.Proofs.YtllncnnigjgadaaGreat
open Go.RowKit

theorem ssum_small (l : List UInt8) (k i : Nat) (hk : Wd k) (hi : i ≤ onn k) : ssum l k i ≤ 65280 := by
  obtain ⟨_, _, h1, h2⟩ := hk.le
  exact Nat.le_trans (ssum_le l k i) (Nat.mul_le_mul (Nat.le_trans hi h1) h2)
theorem onn_eq (k : Nat) (hk : Wd k) : onn k = 32 * (8 / k) := by rcases hk with rfl | rfl | rfl | rfl <;> rfl
theorem shf_le (k : Nat) (hk : Wd k) : shf k ≤ 7 := by rcases hk with rfl | rfl | rfl | rfl <;> decide

set_option maxHeartbeats 400000 in
theorem number_any (l : List UInt8) (k : Nat) (w : World) (hk : Wd k) (hl : l.length = 32) : Calls Tryz.prog 94 #[.agg (bys l).toArray, .int .i64 (k : Int)] w (One (.int .i64 (num l k : Nat)) w) := by
  have HK := Lib.hid hk
  have HL := Lib.hid hl
  obtain ⟨k1, k8, hP, hG⟩ := hk.le
  obtain ⟨N, hN⟩ : ∃ N, num l k = N := ⟨_, rfl⟩
  have HN := Lib.hid hN
  rw [hN]
  clear hk hl hN
  go_enter Tryz.func94, Tryz.ntmps94
  go_wp2_with (refine wpList_box_blk rfl 30 _ rfl (bys l) rfl ?_)
  intro w1 a1 a2 a3
  have A1 := Lib.hid a1
  have A2 := Lib.hid a2
  have A3 := Lib.hid a3
  clear a1 a2 a3
  go_wp2_with fail
  refine (own_any k _ HK.out).mono ?_
  rintro e w2 ⟨rfl, hb⟩
  have hsz := A2.out
  have G2 : Hid (Blk w2 w.heap.size (bys l) 30) := A1.out.below hb (by omega)
  have B2 : Hid (Below w.heap.size w w2) := A3.out.trans (hb.mono (by omega))
  clear hb hsz A1 A2 A3
  obtain ⟨P, hP0⟩ : ∃ P, onn k = P := ⟨_, rfl⟩
  rw [hP0] at hP ⊢
  have HP0 := Lib.hid hP0
  clear hP0
  go_wp2
  go_loopw [5, 9] (fun s x wr => ∃ i S : Nat, i ≤ P ∧ S ≤ 65280 ∧ Hid (S = ssum l k i) ∧ s = .int .i64 S ∧ x = .int .i64 i ∧ Hid (Blk wr w.heap.size (bys l) 30) ∧ Hid (Below w.heap.size w wr)) (fun _ x _ => P - (intOf x).toNat)
  case atStart => exact ⟨0, 0, by omega, by omega, rfl, rfl, rfl, G2, B2⟩
  case round =>
    clear G2 B2
    obtain ⟨i, S, hi, hS, HS, rfl, rfl, G, B⟩ := hrel
    by_cases hlt : i < P
    · obtain ⟨D, hD⟩ : ∃ D, dig l i k = D := ⟨_, rfl⟩
      have hDG : D ≤ gr k := by rw [← hD]; exact dig_le l i k
      have HD := Lib.hid hD
      clear hD
      obtain ⟨Gk, hGk⟩ : ∃ Gk, gr k = Gk := ⟨_, rfl⟩
      have HGk := Lib.hid hGk
      rw [hGk] at hDG hG
      clear hGk
      have hI : i < l.length * (8 / k) := by have := onn_eq k HK.out; rw [HP0.out] at this; rw [HL.out]; omega
      have HI := Lib.hid hI
      clear hI
      have R : Hid (∀ n, Rd (w.heap.size + 1) (wr.drewN n) (.slice (some ⟨w.heap.size, 0, none⟩) 32 32) l) := fun n => by
        have h := G.out.drewN (n := n) |>.rd (by rw [HL.out]; unfold maxLen; omega)
        rw [HL.out] at h
        exact h
      have CG : Hid (∀ w', Calls Tryz.prog 112 #[.int .i64 (k : Int)] w' (Just (.int .i64 (Gk : Nat)) w')) := fun w' => by rw [← HGk.out]; exact greatest_any k w' HK.out
      have CD : Hid (∀ n, Calls Tryz.prog 113 #[.slice (some ⟨w.heap.size, 0, none⟩) 32 32, .int .i64 (i : Int), .int .i64 (k : Int)] (wr.drewN n) (Drew (.int .i64 (D : Nat)) (wr.drewN n))) := fun n => by
        rw [← HD.out]; exact digit_any _ _ l i k _ HK.out (R.out n) (by rw [HL.out]; omega) HI.out
      have HS1 : Hid (S + (Gk - D) = ssum l k (i + 1)) := by show _ = ssum l k i + (gr k - dig l i k); rw [HS.out, HGk.out, HD.out]
      have hS1 : S + (Gk - D) ≤ 65280 := by rw [HS1.out]; exact ssum_small l k (i + 1) HK.out (by rw [HP0.out]; omega)
      clear HS HI R HD HGk
      go_wp2
      refine wp_region_quiet_lit (by kernel_rfl) (by kernel_rfl) ?_
      repeat (first | go_big_quiet_step ((first | (go_at_call 112; exact Just.quiet (CG.out _)) | (go_at_call 113; exact Drew.quiet (CD.out _)))) | quiet_step ((first | (go_at_call 112; exact Just.quiet (CG.out _)) | (go_at_call 113; exact Drew.quiet (CD.out _)))))
      refine wpQuiet_nil ?_
      intro _ hw'
      obtain ⟨nq, hw''⟩ := hw'
      subst hw''
      go_wp2
      go_roundw
      case rel => exact ⟨i + 1, S + (Gk - D), by omega, hS1, HS1, by go_num, by go_num, G.out.drewN, Below.drewN' B.out⟩
      case measure => simp [intOf]; omega
    · obtain rfl : i = P := by omega
      have hs := shf_le k HK.out
      go_wp2_with fail
      refine (shift_any k _ HK.out).mono ?_
      rintro e w3 ⟨rfl, hb⟩
      have B3 : Hid (Below w.heap.size w w3) := B.out.trans (hb.mono B.out.size)
      clear hb B G
      go_wp2
      go_ret
      have hlt2 := num_lt l k HK.out
      have e : (S : Int) * 2 ^ shf k = (N : Int) := by
        rw [← HN.out]
        unfold num
        rw [show 256 / k = i from HP0.out, ← HS.out]
        simp
      exact ⟨ret_intD (by rw [e, IntWalk.wrap64_in _ (by rw [HN.out] at hlt2; omega)]), B3.out⟩
end Go.Proofs.YtllncnnigjgadaaGreat

namespace Go.Proofs.YtllncnnigjgadaaGreat
open Go.RowKit

theorem info3 : (Tryz.prog.info? 3).map (fun i => (i.zero, i.size, i.bytes)) = some (some (.int .i64 0), 1, 8) := by kernel_rfl
theorem info5D : (Tryz.prog.info? 5).map (fun i => (i.zero, i.size, i.bytes)) = some (some (.int .u8 0), 1, 1) := by kernel_rfl
theorem info_parts3 : ∃ i, Tryz.prog.info? 3 = some i ∧ i.zero = some (.int .i64 0) ∧ i.size = 1 ∧ i.bytes = 8 := by
  have h := info3
  cases hq : Tryz.prog.info? 3 with
  | none => rw [hq] at h; cases h
  | some i => rw [hq] at h; simp at h; exact ⟨i, rfl, h.1, h.2.1, h.2.2⟩

/-- The call answers a slice of ints of its own, from block 'base' on; nothing below 'base' has changed. -/
def GivesI (base : Nat) (l : List Nat) (w : World) (e : Ending) (w' : World) : Prop := ∃ v, e = .returned v ∧ OwnI 3 w' base v l ∧ Below base w w'

set_option maxHeartbeats 400000 in
theorem appendDigits_any (v vb : Value) (l0 : List Nat) (lb : List UInt8) (n k base : Nat) (w : World) (hk : Wd k) (hown : OwnI 3 w base v l0) (hbase : base ≤ w.heap.size) (hr : Rd base w vb lb) (hl0 : l0.length ≤ 1000) (hlb : lb.length ≤ 1000) (hn : n ≤ lb.length * (8 / k)) :
    Calls Tryz.prog 97 #[v, vb, .int .i64 (n : Int), .int .i64 (k : Int)] w (GivesI base (l0 ++ digs lb k n) w) := by
  obtain ⟨i0, hi, hz0, hz1, hz2⟩ := info_parts3
  have HI := Lib.hid hi
  have H0 := Lib.hid hz0
  have H1 := Lib.hid hz1
  have H2 := Lib.hid hz2
  have HK := Lib.hid hk
  have HO := Lib.hid hown
  have HR := Lib.hid hr
  have HN := Lib.hid hn
  have hn2 : n ≤ 8000 := Nat.le_trans hn (Nat.mul_le_mul hlb (Nat.div_le_self 8 k))
  clear hi hz0 hz1 hz2 hk hown hr hn
  go_enter Tryz.func97, Tryz.ntmps97
  go_wp2
  go_loopw [0, 11] (fun v x wr => ∃ i : Nat, i ≤ n ∧ x = .int .i64 i ∧ Hid (OwnI 3 wr base v (l0 ++ digs lb k i)) ∧ Hid (Below base w wr)) (fun _ x _ => n - (intOf x).toNat)
  case atStart => exact ⟨0, by omega, rfl, by simpa [digs, Hid] using HO.out, Below.refl _ _⟩
  case round =>
    clear HO
    obtain ⟨i, hi, rfl, O, B⟩ := hrel
    by_cases hlt : i < n
    · have HLL : Hid ((l0 ++ digs lb k i).length = l0.length + i) := by show _ = _; rw [List.length_append, digs_length]
      have HS : Hid ((l0 ++ digs lb k i) ++ [dig lb i k] = l0 ++ digs lb k (i + 1)) := by show _ = _; rw [List.append_assoc, digs_succ]
      have hs := B.out.size
      generalize l0 ++ digs lb k i = L at O HLL HS
      obtain ⟨D, hD⟩ : ∃ D, dig lb i k = D := ⟨_, rfl⟩
      rw [hD] at HS
      have HD := Lib.hid hD
      clear hD
      go_wp2_with fail
      refine (digit_any base _ lb i k _ HK.out (HR.out.below B.out) (by omega) (Nat.lt_of_lt_of_le hlt HN.out)).mono ?_
      rintro e w2 ⟨rfl, m, rfl⟩
      rw [HD.out]
      have O2 : Hid (OwnI 3 (wr.drewN m) base _ L) := O.out.below (B := wr.heap.size) (Below.drewN' (Below.refl _ _)) (Nat.le_refl _)
      have B2 : Hid (Below base w (wr.drewN m)) := Below.drewN' B.out
      have hs2 : base ≤ (wr.drewN m).heap.size := Nat.le_trans hbase B2.out.size
      generalize wr.drewN m = w3 at O2 B2 hs2 ⊢
      clear O B hs
      go_wp2_with (at_builtin; refine wpList_app1I rfl _ _ 100 rfl 3 i0 Tryz.underlying100 HI.out H0.out H1.out H2.out base _ L D ⟨w3.heap.size, 0, none⟩ rfl (O2.out.alloc _) rfl (by simp) (by rw [HLL.out]; omega) (by simp; omega) ?_)
      intro v' w' hown hb
      rw [HS.out] at hown
      have O' := Lib.hid hown
      have B' : Hid (Below base w w') := (B2.out.alloc hs2 _).trans hb
      clear hown hb O2 B2
      go_wp2
      go_roundw
      case rel => exact ⟨i + 1, by omega, by go_num, O', B'⟩
      case measure => simp [intOf]; omega
    · obtain rfl : i = n := by omega
      go_wp2
      go_ret
      exact ⟨_, rfl, O.out, B.out⟩
end Go.Proofs.YtllncnnigjgadaaGreat

namespace Go.Proofs.YtllncnnigjgadaaGreat
open Go.RowKit

/-- The call answers two values, and no old memory has changed. -/
def TwoD (x y : Value) (w : World) (e : Ending) (w' : World) : Prop := e = .returned (.tuple #[x, y]) ∧ Below w.heap.size w w'
/-- The call answers a slice of ints of its own, and OK. -/
def GivesI2 (l : List Nat) (w : World) (e : Ending) (w' : World) : Prop := ∃ v, e = .returned (.tuple #[v, .int .i64 0]) ∧ OwnI 3 w' w.heap.size v l ∧ Below w.heap.size w w'

/-- It is no width. -/
def NoW (z : Int) : Prop := (z == 1) = false ∧ (z == 2) = false ∧ (z == 4) = false ∧ (z == 8) = false
theorem width_or (z : Int) : (∃ k : Nat, Wd k ∧ z = (k : Int)) ∨ NoW z := by
  by_cases h1 : z = 1
  · exact .inl ⟨1, by simp [Wd], h1⟩
  by_cases h2 : z = 2
  · exact .inl ⟨2, by simp [Wd], h2⟩
  by_cases h4 : z = 4
  · exact .inl ⟨4, by simp [Wd], h4⟩
  by_cases h8 : z = 8
  · exact .inl ⟨8, by simp [Wd], h8⟩
  exact .inr (by simp [NoW, h1, h2, h4, h8])

theorem Rd.two (e : TypeId) (fr : Nat × Nat) (w : World) (x y : Int) (b c : UInt8) (hx : x = (b.toNat : Int)) (hy : y = (c.toNat : Int)) : Rd (w.heap.size + 1) (w.alloc (.cells #[.int .u8 x, .int .u8 y] e fr)) (.slice (some ⟨w.heap.size, 0, none⟩) 2 2) [b, c] := by
  subst hx hy
  refine ⟨some ⟨w.heap.size, 0, none⟩, 2, rfl, Nat.le_refl _, by unfold maxLen; decide, fun h => (by cases h), fun a ha => ?_⟩
  cases ha
  refine ⟨fun _ => Nat.lt_succ_self _, fun j hj => ?_⟩
  rw [Addr.add_mid, cell_of_row _ _ _ _ e fr (heap_alloc_new w _)]
  have : j = 0 ∨ j = 1 := by simp at hj; omega
  rcases this with rfl | rfl <;> simp

set_option maxHeartbeats 1000000 in
theorem all_yes (l : List UInt8) (k : Nat) (w : World) (hk : Wd k) (hl : l.length = 32) : Calls Tryz.prog 56 #[.agg (bys l).toArray, .int .i64 (k : Int)] w (GivesI2 (allD l k) w) := by
  obtain ⟨i0, hi, hz0, hz1, hz2⟩ := info_parts3
  have HI := Lib.hid hi
  have H0 := Lib.hid hz0
  have H1 := Lib.hid hz1
  have H2 := Lib.hid hz2
  have HK := Lib.hid hk
  have HL := Lib.hid hl
  obtain ⟨k1, k8, hP, hG⟩ := hk.le
  have hC := chk_le k
  have hN := num_lt l k hk
  have h28 : (Tryz.prog.info? 30).map (·.size) = some (bys l).length := by rw [bys_length, hl]; exact s28
  have H28 := Lib.hid h28
  obtain ⟨N, hN0⟩ : ∃ N, num l k = N := ⟨_, rfl⟩
  have HA : Hid (allD l k = ([] ++ digs l k (onn k)) ++ digs (by2 N) k (chk k)) := by
    show _ = _
    rw [← hN0]; rfl
  have HN0 := Lib.hid hN0
  rw [hN0] at hN
  have HP32 : Hid (onn k ≤ l.length * (8 / k)) := by show _ ≤ _; rw [onn_eq k hk, hl]; omega
  have HC2 : Hid (chk k ≤ (by2 N).length * (8 / k)) := by
    show chk k ≤ 2 * (8 / k)
    rcases hk with rfl | rfl | rfl | rfl <;> decide
  clear hi hz0 hz1 hz2 hk hl h28 hN0
  go_enter Tryz.func56, Tryz.ntmps56
  go_wp2_with (refine wpList_box_blk rfl 30 _ rfl (bys l) rfl ?_)
  intro w1 a1 a2 a3
  have A1 := Lib.hid a1
  have A2 := Lib.hid a2
  have A3 := Lib.hid a3
  clear a1 a2 a3
  go_wp2_with fail
  refine (isWidth_yes k _ HK.out).mono ?_
  rintro e w2 ⟨rfl, rfl⟩
  go_wp2_with (refine wpList_load_blk rfl 30 _ rfl w.heap.size rfl (bys l) 30 A1.out 32 5 tu28 H28.out ?_)
  refine (number_any l k _ HK.out HL.out).mono ?_
  rintro e w2 ⟨rfl, hb⟩
  rw [HN0.out]
  have hsz := A2.out
  have G2 : Hid (Blk w2 w.heap.size (bys l) 30) := A1.out.below hb (by omega)
  have B2 : Hid (Below w.heap.size w w2) := A3.out.trans (hb.mono (by omega))
  have hs2 : w.heap.size < w2.heap.size := by have := hb.size; omega
  clear hb hsz A1 A2 A3
  have zN : (N : Int) < 65536 := by omega
  go_wp2_with fail
  have RS : Hid (Rd (w2.heap.size + 1) (w2.alloc (.cells #[.int .u8 ((N : Int) / 256), .int .u8 ((N : Int) % 256)] 5)) (.slice (some ⟨w2.heap.size, 0, none⟩) 2 2) (by2 N)) :=
    Rd.two 5 _ w2 _ _ _ _ (by simp; omega) (by simp)
  have G3 : Hid (Blk (w2.alloc (.cells #[.int .u8 ((N : Int) / 256), .int .u8 ((N : Int) % 256)] 5)) w.heap.size (bys l) 30) := G2.out.alloc _
  have B3 : Hid (Below w.heap.size w (w2.alloc (.cells #[.int .u8 ((N : Int) / 256), .int .u8 ((N : Int) % 256)] 5))) := B2.out.alloc (by omega) _
  have hs3 : w2.heap.size < (w2.alloc (.cells #[.int .u8 ((N : Int) / 256), .int .u8 ((N : Int) % 256)] 5)).heap.size := by simp
  generalize w2.alloc (.cells #[.int .u8 ((N : Int) / 256), .int .u8 ((N : Int) % 256)] 5) = w3 at RS G3 B3 hs3 ⊢
  obtain ⟨gs, hgs⟩ : ∃ g, w2.heap.size = g := ⟨_, rfl⟩
  rw [hgs] at RS hs3 hs2 ⊢
  clear hgs G2 B2
  refine (own_any k _ HK.out).mono ?_
  rintro e w4 ⟨rfl, hb⟩
  have G4 : Hid (Blk w4 w.heap.size (bys l) 30) := G3.out.below hb (by omega)
  have B4 : Hid (Below w.heap.size w w4) := B3.out.trans (hb.mono (by omega))
  have R4 : Hid (Rd (gs + 1) w4 (.slice (some ⟨gs, 0, none⟩) 2 2) (by2 N)) := RS.out.below (hb.mono (by omega))
  have hs4 : gs < w4.heap.size := by have := hb.size; omega
  clear hb G3 B3 RS hs3
  go_wp2_with fail
  refine (check_any k _ HK.out).mono ?_
  rintro e w5 ⟨rfl, hb⟩
  have G5 : Hid (Blk w5 w.heap.size (bys l) 30) := G4.out.below hb (by omega)
  have B5 : Hid (Below w.heap.size w w5) := B4.out.trans (hb.mono (by omega))
  have R5 : Hid (Rd (gs + 1) w5 (.slice (some ⟨gs, 0, none⟩) 2 2) (by2 N)) := R4.out.below (hb.mono (by omega))
  have hs5 : gs < w5.heap.size := by have := hb.size; omega
  clear hb G4 B4 R4 hs4
  go_wp2_with (at_make; refine wpList_make_own _ rfl _ _ 100 rfl w5.heap.size 3 i0 (.int .i64 0) 1 Tryz.underlying100 HI.out H0.out H1.out _ _ _ (onn k + chk k) rfl rfl (by omega) (by rw [H2.out]; omega) (by unfold maxLen; omega) (Nat.le_refl _) ?_)
  intro w6 hown hgrow
  have hb : Below w5.heap.size w5 w6 := (Below.refl _ _).grown hgrow (Nat.le_refl _) (fun k hk => by cases hk)
  have O6 : Hid (OwnI 3 w6 w5.heap.size (.slice (some ⟨w5.heap.size, 0, none⟩) 0 (onn k + chk k)) []) := hown
  have G6 : Hid (Blk w6 w.heap.size (bys l) 30) := G5.out.below hb (by omega)
  have B6 : Hid (Below w.heap.size w w6) := B5.out.trans (hb.mono (by omega))
  have R6 : Hid (Rd (gs + 1) w6 (.slice (some ⟨gs, 0, none⟩) 2 2) (by2 N)) := R5.out.below (hb.mono (by omega))
  have hs6 : w5.heap.size ≤ w6.heap.size := hb.size
  clear hb hown hgrow G5 B5 R5
  obtain ⟨g5, hg5⟩ : ∃ g, w5.heap.size = g := ⟨_, rfl⟩
  rw [hg5] at O6 hs6 hs5 ⊢
  clear hg5
  go_wp2
  refine wp_region_till 7 5 (fun w' => Below w6.heap.size w6 w') (by kernel_rfl) rfl ?_
  have hS : Below w6.heap.size w6 w6.drew := (Below.refl _ _).drew
  refine AnyTill.free (i := 0) (v := .slice (some ⟨g5, 0, none⟩) 0 (onn k + chk k)) rfl (by kernel_rfl) (by kernel_rfl) (by kernel_rfl) (by kernel_rfl) (fun _ _ _ h => h) (by rfl) (fun w' => ?_) hS ?_
  · first | (go_simp; done) | (go_simp; rfl)
  simp only [Act.put, List.setIfInBounds_toArray, List.set_cons_zero, List.set_cons_succ]
  refine AnyTill.free (i := 1) (v := .slice (some ⟨w.heap.size, 0, none⟩) 32 32) rfl (by kernel_rfl) (by kernel_rfl) (by kernel_rfl) (by kernel_rfl) (fun _ _ _ h => h) (by rfl) (fun w' => ?_) hS ?_
  · first | (go_simp; done) | (go_simp; rfl)
  simp only [Act.put, List.setIfInBounds_toArray, List.set_cons_zero, List.set_cons_succ]
  refine AnyTill.free (i := 2) (v := .int .i64 (k : Int)) rfl (by kernel_rfl) (by kernel_rfl) (by kernel_rfl) (by kernel_rfl) (fun _ _ _ h => h) (by rfl) (fun w' => ?_) hS ?_
  · first | (go_simp; done) | (go_simp; rfl)
  simp only [Act.put, List.setIfInBounds_toArray, List.set_cons_zero, List.set_cons_succ]
  refine AnyTill.free (i := 4) (v := .int .i64 (k : Int)) rfl (by kernel_rfl) (by kernel_rfl) (by kernel_rfl) (by kernel_rfl) (fun _ _ _ h => h) (by rfl) (fun w' => ?_) hS ?_
  · first | (go_simp; done) | (go_simp; rfl)
  simp only [Act.put, List.setIfInBounds_toArray, List.set_cons_zero, List.set_cons_succ]
  refine AnyTill.one (i := 3) (by kernel_rfl) rfl (by rfl) (fun K hK => ?_)
  go_simp
  refine (own_any k _ HK.out).mono ?_
  rintro e w7 ⟨rfl, hb⟩
  have hS7 : Below w6.heap.size w6 w7 := hS.trans (hb.mono hS.size)
  refine hK.out _ _ (.inr hS7) ?_
  clear hK K hb hS
  refine AnyTill.one (i := 5) (by kernel_rfl) rfl (by rfl) (fun K hK => ?_)
  go_simp
  have RL : Rd g5 w7 (.slice (some ⟨w.heap.size, 0, none⟩) 32 32) l := by
    have h := (G6.out.below hS7 (by omega)).rd (by rw [HL.out]; unfold maxLen; omega)
    rw [HL.out] at h
    exact h.more (by omega)
  refine (appendDigits_any _ _ [] l (onn k) k g5 _ HK.out (O6.out.below hS7 (Nat.le_refl _)) (Nat.le_trans hs6 hS7.size) RL (by simp) (by rw [HL.out]; omega) HP32.out).mono ?_
  rintro e w8 ⟨v8, rfl, hown, hb⟩
  have hS8 : Below g5 w6 w8 := (hS7.mono hs6).trans hb
  refine hK.out _ _ (.inl (by kernel_rfl)) ?_
  clear hK K RL
  refine AnyTill.one (i := 6) (by kernel_rfl) rfl (by rfl) (fun K hK => ?_)
  go_simp
  refine hK.out _ _ (.inl (by kernel_rfl)) ?_
  clear hK K
  refine AnyTill.done (by kernel_rfl) ?_
  refine NoPanic.normal ?_
  have O8 : Hid (OwnI 3 w8 g5 v8 ([] ++ digs l k (onn k))) := hown
  have B8 : Hid (Below w.heap.size w w8) := B6.out.trans (hS8.mono (by omega))
  have R8 : Hid (Rd (gs + 1) w8 (.slice (some ⟨gs, 0, none⟩) 2 2) (by2 N)) := R6.out.below (hS8.mono (by omega))
  have hs8 : g5 ≤ w8.heap.size := by have := hS8.size; omega
  have HL8 : Hid (([] ++ digs l k (onn k)).length = onn k) := by show _ = _; rw [List.nil_append, digs_length]
  obtain ⟨L, hL⟩ : ∃ L, [] ++ digs l k (onn k) = L := ⟨_, rfl⟩
  rw [hL] at O8 HL8 HA
  clear hL hS7 hS8 hown hb O6 G6 B6 R6 hs6
  go_wp2_with fail
  refine (check_any k _ HK.out).mono ?_
  rintro e w9 ⟨rfl, hb⟩
  have O9 : Hid (OwnI 3 w9 g5 v8 L) := O8.out.below hb (Nat.le_refl _)
  have B9 : Hid (Below w.heap.size w w9) := B8.out.trans (hb.mono (by omega))
  have R9 : Hid (Rd (gs + 1) w9 (.slice (some ⟨gs, 0, none⟩) 2 2) (by2 N)) := R8.out.below (hb.mono (by omega))
  have hs9 : g5 ≤ w9.heap.size := by have := hb.size; omega
  clear hb O8 B8 R8 hs8
  go_wp2_with fail
  refine (appendDigits_any _ _ L (by2 N) (chk k) k g5 _ HK.out O9.out hs9 (R9.out.more (by omega)) (by rw [HL8.out]; omega) (by simp [by2]) HC2.out).mono ?_
  rintro e w10 ⟨v10, rfl, hown, hb⟩
  rw [← HA.out] at hown
  have O10 := Lib.hid hown
  have B10 : Hid (Below w.heap.size w w10) := B9.out.trans (hb.mono (by omega))
  clear hown hb O9 B9 R9
  go_wp2
  go_ret2
  exact ⟨v10, rfl, O10.out.base (by omega), B10.out⟩
end Go.Proofs.YtllncnnigjgadaaGreat

namespace Go.Proofs.YtllncnnigjgadaaGreat
open Go.RowKit

set_option maxHeartbeats 400000 in
theorem ownX_yes (k : Nat) (w : World) (hk : Wd k) : Calls Tryz.prog 110 #[.int .i64 (k : Int)] w (TwoD (.int .i64 (onn k : Nat)) (.int .i64 0) w) := by
  have HK := Lib.hid hk
  clear hk
  go_enter Tryz.func110, Tryz.ntmps110
  go_wp2_with fail
  refine (isWidth_yes k _ HK.out).mono ?_
  rintro e w2 ⟨rfl, rfl⟩
  go_wp2_with fail
  refine (own_any k _ HK.out).mono ?_
  rintro e w2 ⟨rfl, hb⟩
  have B := Lib.hid hb
  clear hb
  go_wp2
  go_ret2
  exact ⟨rfl, B.out⟩
set_option maxHeartbeats 400000 in
theorem checkX_yes (k : Nat) (w : World) (hk : Wd k) : Calls Tryz.prog 111 #[.int .i64 (k : Int)] w (TwoD (.int .i64 (chk k : Nat)) (.int .i64 0) w) := by
  have HK := Lib.hid hk
  clear hk
  go_enter Tryz.func111, Tryz.ntmps111
  go_wp2_with fail
  refine (isWidth_yes k _ HK.out).mono ?_
  rintro e w2 ⟨rfl, rfl⟩
  go_wp2_with fail
  refine (check_any k _ HK.out).mono ?_
  rintro e w2 ⟨rfl, hb⟩
  have B := Lib.hid hb
  clear hb
  go_wp2
  go_ret2
  exact ⟨rfl, B.out⟩
end Go.Proofs.YtllncnnigjgadaaGreat

namespace Go.Proofs.YtllncnnigjgadaaGreat
open Go.RowKit

end Go.Proofs.YtllncnnigjgadaaGreat

namespace Go.Proofs.YtllncnnigjgadaaGreat
open Go.RowKit

def sameAt (l m : List UInt8) : List Nat → Bool
  | [] => true
  | i :: is => if l.getD i 0 = m.getD i 0 then sameAt l m is else false
theorem sameAt_eq (l m : List UInt8) : ∀ is, sameAt l m is = true ↔ ∀ i ∈ is, l.getD i 0 = m.getD i 0
  | [] => by simp [sameAt]
  | i :: is => by
    rw [sameAt]
    by_cases h : l.getD i 0 = m.getD i 0
    · rw [if_pos h, sameAt_eq l m is]
      exact ⟨fun h1 j hj => by rcases List.mem_cons.1 hj with rfl | h2; exact h; exact h1 j h2, fun h1 j hj => h1 j (List.mem_cons_of_mem _ hj)⟩
    · rw [if_neg h]
      exact ⟨(fun h1 => by cases h1), fun h1 => absurd (h1 i (by simp)) h⟩

theorem eqItems_bytes {P : Program} (w : World) (d : Nat) (e : TypeId) (he : P.underlying e = some (.int .u8)) (l m : List UInt8) :
    ∀ is : List Nat, (∀ i ∈ is, i < l.length ∧ i < m.length) → (Op.eqItems (d + 1) e 1 (bys l).toArray (bys m).toArray is).run P w = .ok (sameAt l m is) w
  | [], _ => by simp [Op.eqItems, sameAt]
  | i :: is, hi => by
    obtain ⟨h1, h2⟩ := hi i (by simp)
    have hp : (part e (bys l).toArray (i * 1)).run P w = .ok (.int .u8 ((l.getD i 0).toNat : Int)) w := by
      simp [part, isAgg, run_underlying he, bys_get l i h1, h1]
    have hq : (part e (bys m).toArray (i * 1)).run P w = .ok (.int .u8 ((m.getD i 0).toNat : Int)) w := by
      simp [part, isAgg, run_underlying he, bys_get m i h2, h2]
    have hr : (Op.equalIn (d + 1) e (.int .u8 ((l.getD i 0).toNat : Int)) (.int .u8 ((m.getD i 0).toNat : Int))).run P w = .ok (decide (l.getD i 0 = m.getD i 0)) w := by
      rw [run_equalIn_int w d e .u8 .u8 _ _ he]
      congr 1
      rw [Bool.eq_iff_iff, decide_eq_true_iff]
      generalize l.getD i 0 = x
      generalize m.getD i 0 = y
      rw [← UInt8.toNat_inj]
      simp
      omega
    simp only [Op.eqItems, Sem.run_bind, hp, hq, hr, Result.andThen_ok, sameAt]
    by_cases h : l.getD i 0 = m.getD i 0
    · rw [if_pos h, decide_eq_true h]
      simpa using eqItems_bytes w d e he l m is (fun j hj => hi j (by simp [hj]))
    · rw [if_neg h]
      simp only [decide_eq_false h]
      simp

theorem c5D : Tryz.prog.cellsOf 5 = 1 := by kernel_rfl
theorem info_parts5 : ∃ i, Tryz.prog.info? 5 = some i := by
  have h := info5D
  cases hq : Tryz.prog.info? 5 with
  | none => rw [hq] at h; cases h
  | some i => exact ⟨i, rfl⟩

/-- Equal hashes. -/
theorem eqHash (l m : List UInt8) (hl : l.length = 32) (hm : m.length = 32) (w : World) : (Op.equalIn 10000 30 (.agg (bys l).toArray) (.agg (bys m).toArray)).run Tryz.prog w = .ok (sameAt l m (List.range 32)) w := by
  obtain ⟨i, hi⟩ := info_parts5
  rw [show 10000 = 9999 + 1 from rfl, run_equalIn_array w 9999 _ _ tu28 hi, c5D]
  exact eqItems_bytes w 9998 5 Tryz.underlying5 l m _ (fun j hj => by rw [hl, hm]; simpa using hj)
theorem eqHash_yes (l : List UInt8) (hl : l.length = 32) (w : World) : (Op.equalIn 10000 30 (.agg (bys l).toArray) (.agg (bys l).toArray)).run Tryz.prog w = .ok true w := by
  rw [eqHash l l hl hl w, (sameAt_eq l l _).2 (fun _ _ => rfl)]
theorem eqHash_no (l m : List UInt8) (hl : l.length = 32) (hm : m.length = 32) (hne : l ≠ m) (w : World) : (Op.equalIn 10000 30 (.agg (bys l).toArray) (.agg (bys m).toArray)).run Tryz.prog w = .ok false w := by
  rw [eqHash l m hl hm w]
  cases hq : sameAt l m (List.range 32) with
  | false => rfl
  | true =>
    have h := (sameAt_eq l m _).1 hq
    refine absurd (List.ext_getElem (by omega) (fun k h1 h2 => ?_)) hne
    have := h k (by simp; omega)
    simpa [h1, h2] using this
end Go.Proofs.YtllncnnigjgadaaGreat
