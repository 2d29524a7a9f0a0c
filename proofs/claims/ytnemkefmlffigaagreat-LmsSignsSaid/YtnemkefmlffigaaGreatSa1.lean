/-
  bits.RotateLeft32 and what is made of it (rotated, the four sums, choose, majority), at every word; the document's own 'turned' too.
-/
import Derived.Test.YtnemkefmlffigaaGreatChecked
import Derived.Test.YtnemkefmlffigaaGreatPs
import Derived.WalkKit
import Derived.WalkLawsBesides
import Derived.Outline
import Derived.Lib.Hide
import Derived.Deep.QuietTactic
import Derived.BigQuiet
import Derived.Deep.Draws
namespace Go.Proofs.YtnemkefmlffigaaGreat
open Go.RowKit

theorem ret_int {k : IntKind} {a b : Int} (h : a = b) : Ending.returned (.int k a) = .returned (.int k b) := by rw [h]

theorem neg_and (k : Nat) (h0 : 0 < k) (h1 : k < 32) : bits .and .u64 (IntKind.u64.wrap (-(k : Int))) 31 = ((32 - k : Nat) : Int) := by
  have e : IntKind.u64.wrap (-(k : Int)) = ((18446744073709551616 - k : Nat) : Int) := by rw [IntKind.wrap_u64]; omega
  rw [e]
  have := u64_and_nat (18446744073709551616 - k) 31 (by omega) (by omega)
  rw [show ((31 : Nat) : Int) = 31 from rfl] at this
  rw [this, nat_mask5]
  congr 1
  omega

theorem rot_int (x j k : Nat) (hx : x < 4294967296) (hj : 32 - k = j) (hk : k = 32 - j) : bits .or .u32 ((x : Int) * 2 ^ j % 4294967296) ((x : Int) / 2 ^ (32 - j)) = ((rotr x k : Nat) : Int) := by
  have e1 : (x : Int) * 2 ^ j % 4294967296 = ((x * 2 ^ j % 4294967296 : Nat) : Int) := by simp
  have e2 : (x : Int) / 2 ^ (32 - j) = ((x / 2 ^ (32 - j) : Nat) : Int) := by simp
  rw [e1, e2, u32_or_nat _ _ (Nat.mod_lt _ (by decide)) (Nat.lt_of_le_of_lt (Nat.div_le_self _ _) hx)]
  unfold rotr
  rw [hj, hk]
theorem rot_int' (x k : Nat) (hx : x < 4294967296) : bits .or .u32 ((x : Int) / 2 ^ k) ((x : Int) * 2 ^ (32 - k) % 4294967296) = ((rotr x k : Nat) : Int) := by
  have e1 : (x : Int) * 2 ^ (32 - k) % 4294967296 = ((x * 2 ^ (32 - k) % 4294967296 : Nat) : Int) := by simp
  have e2 : (x : Int) / 2 ^ k = ((x / 2 ^ k : Nat) : Int) := by simp
  rw [e1, e2, u32_or_nat _ _ (Nat.lt_of_le_of_lt (Nat.div_le_self _ _) hx) (Nat.mod_lt _ (by decide)), Nat.or_comm]
  rfl

set_option maxHeartbeats 400000 in
theorem rotl_any (x : Nat) (k : Nat) (w : World) (hx : x < 4294967296) (h0 : 0 < k) (h1 : k < 32) : Calls Tryz.prog 127 #[.int .u32 (x : Int), .int .i64 (-(k : Int))] w fun e w' => e = .returned (.int .u32 ((rotr x k : Nat) : Int)) ∧ w = w' := by
  have hb := neg_and k h0 h1
  obtain ⟨j, hj⟩ : ∃ j : Nat, 32 - k = j := ⟨_, rfl⟩
  rw [hj] at hb
  have hj1 : j < 32 := by omega
  have hj0 : 0 < j := by omega
  have HJ := Lib.hid hj
  clear hj
  go_enter Tryz.func127, Tryz.ntmps127
  go_wp2
  go_ret
  have hj := HJ.out
  exact ⟨ret_int (rot_int x j k hx hj (by omega)), rfl⟩

set_option maxHeartbeats 400000 in
theorem rotated_any (x : Nat) (k : Nat) (z : Int) (w : World) (hz : z = (k : Int)) (hx : x < 4294967296) (h0 : 0 < k) (h1 : k < 32) : Calls Tryz.prog 126 #[.int .u32 (x : Int), .int .i64 z] w fun e w' => e = .returned (.int .u32 ((rotr x k : Nat) : Int)) ∧ w = w' := by
  subst hz
  go_enter Tryz.func126, Tryz.ntmps126
  go_wp2_with ((with_reducible refine (rotl_any x k w hx h0 h1).mono ?_); rintro e w' ⟨rfl, rfl⟩)
  go_ret
  exact ⟨rfl, rfl⟩

theorem sm_int (a b x d : Nat) (hx : x < 4294967296) (ha : a < 4294967296) (hb : b < 4294967296) : bits .xor .u32 (bits .xor .u32 (a : Int) (b : Int)) ((x : Int) / (d : Int)) = ((a ^^^ b ^^^ x / d : Nat) : Int) := by
  have e2 : (x : Int) / (d : Int) = ((x / d : Nat) : Int) := by simp
  rw [u32_xor_nat _ _ ha hb, e2, u32_xor_nat _ _ (xor32 ha hb) (Nat.lt_of_le_of_lt (Nat.div_le_self _ _) hx)]
theorem bg_int (a b c : Nat) (ha : a < 4294967296) (hb : b < 4294967296) (hc : c < 4294967296) : bits .xor .u32 (bits .xor .u32 (a : Int) (b : Int)) (c : Int) = ((a ^^^ b ^^^ c : Nat) : Int) := by
  rw [u32_xor_nat _ _ ha hb, u32_xor_nat _ _ (xor32 ha hb) hc]

set_option maxHeartbeats 400000 in
theorem smallS1_any (x : Nat) (w : World) (hx : x < 4294967296) : Calls Tryz.prog 124 #[.int .u32 (x : Int)] w fun e w' => e = .returned (.int .u32 ((sm1 x : Nat) : Int)) ∧ w = w' := by
  go_enter Tryz.func124, Tryz.ntmps124
  go_wp2_with fail
  refine (rotated_any x 17 _ w rfl hx (by omega) (by omega)).mono ?_
  rintro e w' ⟨rfl, rfl⟩
  go_wp2_with fail
  refine (rotated_any x 19 _ w rfl hx (by omega) (by omega)).mono ?_
  rintro e w' ⟨rfl, rfl⟩
  go_wp2
  go_ret
  exact ⟨ret_int (sm_int _ _ x 1024 hx (rotr_lt _ _ hx) (rotr_lt _ _ hx)), rfl⟩
set_option maxHeartbeats 400000 in
theorem smallS0_any (x : Nat) (w : World) (hx : x < 4294967296) : Calls Tryz.prog 125 #[.int .u32 (x : Int)] w fun e w' => e = .returned (.int .u32 ((sm0 x : Nat) : Int)) ∧ w = w' := by
  go_enter Tryz.func125, Tryz.ntmps125
  go_wp2_with fail
  refine (rotated_any x 7 _ w rfl hx (by omega) (by omega)).mono ?_
  rintro e w' ⟨rfl, rfl⟩
  go_wp2_with fail
  refine (rotated_any x 18 _ w rfl hx (by omega) (by omega)).mono ?_
  rintro e w' ⟨rfl, rfl⟩
  go_wp2
  go_ret
  exact ⟨ret_int (sm_int _ _ x 8 hx (rotr_lt _ _ hx) (rotr_lt _ _ hx)), rfl⟩
set_option maxHeartbeats 400000 in
theorem bigS1_any (x : Nat) (w : World) (hx : x < 4294967296) : Calls Tryz.prog 120 #[.int .u32 (x : Int)] w fun e w' => e = .returned (.int .u32 ((bg1 x : Nat) : Int)) ∧ w = w' := by
  go_enter Tryz.func120, Tryz.ntmps120
  go_wp2_with fail
  refine (rotated_any x 6 _ w rfl hx (by omega) (by omega)).mono ?_
  rintro e w' ⟨rfl, rfl⟩
  go_wp2_with fail
  refine (rotated_any x 11 _ w rfl hx (by omega) (by omega)).mono ?_
  rintro e w' ⟨rfl, rfl⟩
  go_wp2_with fail
  refine (rotated_any x 25 _ w rfl hx (by omega) (by omega)).mono ?_
  rintro e w' ⟨rfl, rfl⟩
  go_wp2
  go_ret
  exact ⟨ret_int (bg_int _ _ _ (rotr_lt _ _ hx) (rotr_lt _ _ hx) (rotr_lt _ _ hx)), rfl⟩
set_option maxHeartbeats 400000 in
theorem bigS0_any (x : Nat) (w : World) (hx : x < 4294967296) : Calls Tryz.prog 122 #[.int .u32 (x : Int)] w fun e w' => e = .returned (.int .u32 ((bg0 x : Nat) : Int)) ∧ w = w' := by
  go_enter Tryz.func122, Tryz.ntmps122
  go_wp2_with fail
  refine (rotated_any x 2 _ w rfl hx (by omega) (by omega)).mono ?_
  rintro e w' ⟨rfl, rfl⟩
  go_wp2_with fail
  refine (rotated_any x 13 _ w rfl hx (by omega) (by omega)).mono ?_
  rintro e w' ⟨rfl, rfl⟩
  go_wp2_with fail
  refine (rotated_any x 22 _ w rfl hx (by omega) (by omega)).mono ?_
  rintro e w' ⟨rfl, rfl⟩
  go_wp2
  go_ret
  exact ⟨ret_int (bg_int _ _ _ (rotr_lt _ _ hx) (rotr_lt _ _ hx) (rotr_lt _ _ hx)), rfl⟩

set_option maxHeartbeats 400000 in
theorem choose_any (x y z : Nat) (w : World) (hx : x < 4294967296) (hy : y < 4294967296) (hz : z < 4294967296) : Calls Tryz.prog 121 #[.int .u32 (x : Int), .int .u32 (y : Int), .int .u32 (z : Int)] w fun e w' => e = .returned (.int .u32 ((chs x y z : Nat) : Int)) ∧ w = w' := by
  go_enter Tryz.func121, Tryz.ntmps121
  go_wp2
  go_ret
  refine ⟨ret_int ?_, rfl⟩
  have hm : IntKind.u32.max = ((4294967295 : Nat) : Int) := by decide
  rw [hm, u32_xor_nat _ _ (by omega) hx, u32_and_nat _ _ hx hy, u32_and_nat _ _ (xor32 (by omega) hx) hz, u32_or_nat _ _ (and32 hy) (and32 hz)]
  rfl
set_option maxHeartbeats 400000 in
theorem majority_any (x y z : Nat) (w : World) (hx : x < 4294967296) (hy : y < 4294967296) (hz : z < 4294967296) : Calls Tryz.prog 123 #[.int .u32 (x : Int), .int .u32 (y : Int), .int .u32 (z : Int)] w fun e w' => e = .returned (.int .u32 ((mjr x y z : Nat) : Int)) ∧ w = w' := by
  go_enter Tryz.func123, Tryz.ntmps123
  go_wp2
  go_ret
  refine ⟨ret_int ?_, rfl⟩
  rw [u32_and_nat _ _ hx hy, u32_and_nat _ _ hx hz, u32_and_nat _ _ hy hz, u32_or_nat _ _ (and32 hy) (and32 hz), u32_or_nat _ _ (or32 (and32 hy) (and32 hz)) (and32 hz)]
  rfl

set_option maxHeartbeats 400000 in
theorem turned_any (x : Nat) (k : Nat) (z : Int) (w : World) (hz : z = (k : Int)) (hx : x < 4294967296) (h0 : 0 < k) (h1 : k < 32) : Calls Tryz.prog 108 #[.int .u32 (x : Int), .int .i64 z] w fun e w' => e = .returned (.int .u32 ((rotr x k : Nat) : Int)) ∧ ∃ n, w' = w.drewN n := by
  subst hz
  have h2 : IntKind.i64.wrap (32 - (k : Int)) = ((32 - k : Nat) : Int) := by rw [IntWalk.i64_in _ (by omega)]; omega
  go_enter Tryz.func108, Tryz.ntmps108
  go_wp2
  go_quiet (fail)
  go_wp2
  go_ret
  exact ⟨ret_int (rot_int' x k hx), _, rfl⟩
end Go.Proofs.YtnemkefmlffigaaGreat
