/-
  digit of package digits: for every width, every byte slice that is read and every digit of it.
-/
import Derived.Test.YtnemkefmlffigaaGreatD1
namespace Go.Proofs.YtnemkefmlffigaaGreat
open Go.RowKit

theorem Just.quiet {f : FuncId} {args : Array Value} {w : World} {n : Nat} {v : Value} (h : Calls Tryz.prog f args (w.drewN n) (Just v (w.drewN n))) : Calls Tryz.prog f args (w.drewN n) fun e w'' => e = .returned v ∧ ∃ m, w'' = w.drewN m :=
  h.mono fun _ _ ⟨he, hw⟩ => ⟨he, n, hw.symm⟩
theorem Drew.quiet {f : FuncId} {args : Array Value} {w : World} {n : Nat} {v : Value} (h : Calls Tryz.prog f args (w.drewN n) (Drew v (w.drewN n))) : Calls Tryz.prog f args (w.drewN n) fun e w'' => e = .returned v ∧ ∃ m, w'' = w.drewN m :=
  h.mono fun _ _ ⟨he, m, hm⟩ => ⟨he, n + m, by rw [hm, World.drewN_drewN]⟩

theorem Rd.cellAt {B : Nat} {w : World} {v : Value} {l : List UInt8} (h : Rd B w v l) (i : Nat) (hi : i < l.length) : ∃ a c, v = .slice (some a) l.length c ∧ l.length ≤ c ∧ c ≤ maxLen ∧ w.cell? (a.add i) = some (.int .u8 ((l.getD i 0).toNat : Int)) := by
  obtain ⟨A, c, rfl, hc, hm, hn, hcell⟩ := h
  cases A with
  | none => have := hn rfl; omega
  | some a => exact ⟨a, c, rfl, hc, hm, by rw [(hcell a rfl).2 i hi]; simp [hi]⟩

theorem wraps_i64 (n : Int) (h₀ : 0 ≤ n) (h₁ : n < 2 ^ 62) : IntKind.i64.wrap n = n := by rw [IntKind.wrap_i64]; omega
theorem mask (k x m : Nat) (hk : Wd k) (hx : x < 256) : bits .and .i64 ((x : Int) / 2 ^ m) (gr k : Nat) = ((x / 2 ^ m % 2 ^ k : Nat) : Int) := by
  have e : (x : Int) / 2 ^ m = ((x / 2 ^ m : Nat) : Int) := by simp
  have hlt : x / 2 ^ m < 256 := Nat.lt_of_le_of_lt (Nat.div_le_self _ _) hx
  have hg : gr k < 256 := by rcases hk with rfl | rfl | rfl | rfl <;> decide
  rw [e, (bits_nat .i64 62 (by decide) wraps_i64 _ _ (by omega) (by omega)).1]
  unfold gr
  rw [Nat.and_two_pow_sub_one_eq_mod]

set_option maxHeartbeats 400000 in
theorem digit_1 (B : Nat) (v : Value) (l : List UInt8) (i q m : Nat) (w : World) (hr : Rd B w v l) (hl : l.length ≤ 1099511627776) (hi : q < l.length) (hq : i / 8 = q) (hm : (7 - i % 8) = m) : Calls Tryz.prog 103 #[v, .int .i64 (i : Int), .int .i64 1] w (Drew (.int .i64 (dig l i 1 : Nat)) w) := by
  obtain ⟨a, c, rfl, hc, hcm, hx⟩ := hr.cellAt q hi
  unfold maxLen at hcm
  have hb := UInt8.toNat_lt (l.getD q 0)
  unfold dig
  rw [show i / (8 / 1) = q by simpa using hq, show (8 / 1 - 1 - i % (8 / 1)) * 1 = m by simp; omega]
  generalize (l.getD q 0).toNat = x at hx hb
  have zi : (q : Int) < l.length := by omega
  have e1 : 7 - (i : Int) % 8 = (m : Int) := by omega
  have e2 : (i : Int) / 8 = (q : Int) := by omega
  have hi2 : (i : Int) ≤ 9223372036854775807 := by omega
  have zx : (x : Int) ≤ 255 := by omega
  have zm : (m : Int) ≤ 7 := by omega
  clear hq hm
  go_enter Tryz.func103, Tryz.ntmps103
  go_wp2
  refine wp_region_quiet_lit (by kernel_rfl) (by kernel_rfl) ?_
  repeat (first | go_big_quiet_step ((go_at_call 102; exact Just.quiet (greatest_any 1 _ (by simp [Wd])))) | quiet_step ((go_at_call 102; exact Just.quiet (greatest_any 1 _ (by simp [Wd])))))
  refine wpQuiet_nil ?_
  intro _ hw'
  obtain ⟨nq, hw''⟩ := hw'
  subst hw''
  go_wp2
  go_ret
  exact ⟨ret_intD (mask 1 x (m) (by simp [Wd]) hb), nq, rfl⟩
set_option maxHeartbeats 400000 in
theorem digit_2 (B : Nat) (v : Value) (l : List UInt8) (i q m : Nat) (w : World) (hr : Rd B w v l) (hl : l.length ≤ 1099511627776) (hi : q < l.length) (hq : i / 4 = q) (hm : (3 - i % 4) = m) : Calls Tryz.prog 103 #[v, .int .i64 (i : Int), .int .i64 2] w (Drew (.int .i64 (dig l i 2 : Nat)) w) := by
  obtain ⟨a, c, rfl, hc, hcm, hx⟩ := hr.cellAt q hi
  unfold maxLen at hcm
  have hb := UInt8.toNat_lt (l.getD q 0)
  unfold dig
  rw [show i / (8 / 2) = q by simpa using hq, show (8 / 2 - 1 - i % (8 / 2)) * 2 = m * 2 by simp; omega]
  generalize (l.getD q 0).toNat = x at hx hb
  have zi : (q : Int) < l.length := by omega
  have e1 : 3 - (i : Int) % 4 = (m : Int) := by omega
  have e2 : (i : Int) / 4 = (q : Int) := by omega
  have hi2 : (i : Int) ≤ 9223372036854775807 := by omega
  have zx : (x : Int) ≤ 255 := by omega
  have zm : (m : Int) ≤ 3 := by omega
  clear hq hm
  go_enter Tryz.func103, Tryz.ntmps103
  go_wp2
  refine wp_region_quiet_lit (by kernel_rfl) (by kernel_rfl) ?_
  repeat (first | go_big_quiet_step ((go_at_call 102; exact Just.quiet (greatest_any 2 _ (by simp [Wd])))) | quiet_step ((go_at_call 102; exact Just.quiet (greatest_any 2 _ (by simp [Wd])))))
  refine wpQuiet_nil ?_
  intro _ hw'
  obtain ⟨nq, hw''⟩ := hw'
  subst hw''
  go_wp2
  go_ret
  exact ⟨ret_intD (mask 2 x (m * 2) (by simp [Wd]) hb), nq, rfl⟩
set_option maxHeartbeats 400000 in
theorem digit_4 (B : Nat) (v : Value) (l : List UInt8) (i q m : Nat) (w : World) (hr : Rd B w v l) (hl : l.length ≤ 1099511627776) (hi : q < l.length) (hq : i / 2 = q) (hm : (1 - i % 2) = m) : Calls Tryz.prog 103 #[v, .int .i64 (i : Int), .int .i64 4] w (Drew (.int .i64 (dig l i 4 : Nat)) w) := by
  obtain ⟨a, c, rfl, hc, hcm, hx⟩ := hr.cellAt q hi
  unfold maxLen at hcm
  have hb := UInt8.toNat_lt (l.getD q 0)
  unfold dig
  rw [show i / (8 / 4) = q by simpa using hq, show (8 / 4 - 1 - i % (8 / 4)) * 4 = m * 4 by simp; omega]
  generalize (l.getD q 0).toNat = x at hx hb
  have zi : (q : Int) < l.length := by omega
  have e1 : 1 - (i : Int) % 2 = (m : Int) := by omega
  have e2 : (i : Int) / 2 = (q : Int) := by omega
  have hi2 : (i : Int) ≤ 9223372036854775807 := by omega
  have zx : (x : Int) ≤ 255 := by omega
  have zm : (m : Int) ≤ 1 := by omega
  clear hq hm
  go_enter Tryz.func103, Tryz.ntmps103
  go_wp2
  refine wp_region_quiet_lit (by kernel_rfl) (by kernel_rfl) ?_
  repeat (first | go_big_quiet_step ((go_at_call 102; exact Just.quiet (greatest_any 4 _ (by simp [Wd])))) | quiet_step ((go_at_call 102; exact Just.quiet (greatest_any 4 _ (by simp [Wd])))))
  refine wpQuiet_nil ?_
  intro _ hw'
  obtain ⟨nq, hw''⟩ := hw'
  subst hw''
  go_wp2
  go_ret
  exact ⟨ret_intD (mask 4 x (m * 4) (by simp [Wd]) hb), nq, rfl⟩
set_option maxHeartbeats 400000 in
theorem digit_8 (B : Nat) (v : Value) (l : List UInt8) (i : Nat) (w : World) (hr : Rd B w v l) (hi : i < l.length) : Calls Tryz.prog 103 #[v, .int .i64 (i : Int), .int .i64 8] w (Drew (.int .i64 (dig l i 8 : Nat)) w) := by
  obtain ⟨a, c, rfl, hc, hm, hx⟩ := hr.cellAt i hi
  unfold maxLen at hm
  have hb := UInt8.toNat_lt (l.getD i 0)
  unfold dig
  rw [show i / (8 / 8) = i by simp, show (8 / 8 - 1 - i % (8 / 8)) * 8 = 0 by simp]
  generalize (l.getD i 0).toNat = x at hx hb
  have zi : (i : Int) < l.length := by omega
  have zx : (x : Int) ≤ 255 := by omega
  go_enter Tryz.func103, Tryz.ntmps103
  go_wp2
  refine wp_region_quiet_lit (by kernel_rfl) (by kernel_rfl) ?_
  repeat (first | go_big_quiet_step ((go_at_call 102; exact Just.quiet (greatest_any 8 _ (by simp [Wd])))) | quiet_step ((go_at_call 102; exact Just.quiet (greatest_any 8 _ (by simp [Wd])))))
  refine wpQuiet_nil ?_
  intro _ hw'
  obtain ⟨nq, hw''⟩ := hw'
  subst hw''
  go_wp2
  go_ret
  exact ⟨ret_intD (by have h := mask 8 x 0 (by simp [Wd]) hb; simpa using h), nq, rfl⟩

theorem digit_any (B : Nat) (v : Value) (l : List UInt8) (i k : Nat) (w : World) (hk : Wd k) (hr : Rd B w v l) (hl : l.length ≤ 1099511627776) (hi : i < l.length * (8 / k)) : Calls Tryz.prog 103 #[v, .int .i64 (i : Int), .int .i64 (k : Int)] w (Drew (.int .i64 (dig l i k : Nat)) w) := by
  rcases hk with rfl | rfl | rfl | rfl
  · exact digit_1 B v l i _ _ w hr hl (by omega) rfl rfl
  · exact digit_2 B v l i _ _ w hr hl (by omega) rfl rfl
  · exact digit_4 B v l i _ _ w hr hl (by omega) rfl rfl
  · exact digit_8 B v l i w hr (by omega)
end Go.Proofs.YtnemkefmlffigaaGreat
