/-
  own, check, shift and number of package digits: for every width and every hash.
-/
import Derived.Test.YtnemkefmlffigaaGreatD2
namespace Go.Proofs.YtnemkefmlffigaaGreat
open Go.RowKit

def z32D : List Value := bys (List.replicate 32 0)
theorem z32D_length : z32D.length = 32 := by decide
theorem z28 : (Tryz.prog.info? 23).map (·.zero) = some (some (.agg z32D.toArray)) := by kernel_rfl
theorem s28 : (Tryz.prog.info? 23).map (·.size) = some 32 := by kernel_rfl
theorem tu28 : Tryz.prog.underlying 23 = some (.array 32 5) := by kernel_rfl

/-- The whole array of a block, as a slice, reads as its bytes. -/
theorem Blk.rd {w : World} {g : Nat} {l : List UInt8} {t : TypeId} (h : Blk w g (bys l) t) (hl : l.length ≤ maxLen) : Rd (g + 1) w (.slice (some ⟨g, 0, none⟩) l.length l.length) l := by
  refine ⟨some ⟨g, 0, none⟩, l.length, rfl, Nat.le_refl _, hl, fun h => (by cases h), fun a ha => ?_⟩
  cases ha
  refine ⟨fun _ => Nat.lt_succ_self _, fun j hj => ?_⟩
  rw [Addr.add_mid, Nat.zero_add, h.cell, bys_get l j hj]

/-- How many digits a hash has. -/
def onn (k : Nat) : Nat := 256 / k
set_option maxHeartbeats 400000 in
theorem own_any (k : Nat) (w : World) (hk : Wd k) : Calls Tryz.prog 88 #[.int .i64 (k : Int)] w (One (.int .i64 (onn k : Nat)) w) := by
  go_enter Tryz.func88, Tryz.ntmps88
  go_wp2_with (refine wpList_alloc_blk rfl 23 rfl _ z28 ?_)
  intro w1 a1 a2 a3
  have A3 := Lib.hid a3
  clear a1 a2 a3
  go_wp2_with fail
  refine (count_any _ 32 32 k _ hk (by omega)).mono ?_
  rintro e w2 ⟨rfl, rfl⟩
  go_wp2
  go_ret
  exact ⟨ret_intD (by rcases hk with rfl | rfl | rfl | rfl <;> rfl), A3.out⟩

theorem chk_cap (k : Nat) (hk : Wd k) : onn k * gr k < 2 ^ (k * chk k) := by rcases hk with rfl | rfl | rfl | rfl <;> decide
theorem chk_zero (k j : Nat) (hk : Wd k) (h : chk k ≤ j) : onn k * gr k / 2 ^ (k * j) = 0 :=
  Nat.div_eq_of_lt (Nat.lt_of_lt_of_le (chk_cap k hk) (Nat.pow_le_pow_right (by omega) (Nat.mul_le_mul_left _ h)))
theorem chk_pos (k j : Nat) (hk : Wd k) (h : j < chk k) : 0 < onn k * gr k / 2 ^ (k * j) := by
  revert j
  rcases hk with rfl | rfl | rfl | rfl <;> decide
theorem chk_le (k : Nat) : chk k ≤ 9 := by unfold chk; repeat' split
                                           all_goals omega
theorem Wd.le {k : Nat} (hk : Wd k) : 1 ≤ k ∧ k ≤ 8 ∧ onn k ≤ 256 ∧ gr k ≤ 255 := by rcases hk with rfl | rfl | rfl | rfl <;> decide

set_option maxHeartbeats 400000 in
theorem check_any (k : Nat) (w : World) (hk : Wd k) : Calls Tryz.prog 89 #[.int .i64 (k : Int)] w (One (.int .i64 (chk k : Nat)) w) := by
  obtain ⟨k1, k8, hP, hG⟩ := hk.le
  have hc := chk_le k
  have HZ : Hid (∀ j, chk k ≤ j → onn k * gr k / 2 ^ (k * j) = 0) := fun j hj => chk_zero k j hk hj
  have HP : Hid (∀ j, j < chk k → 0 < onn k * gr k / 2 ^ (k * j)) := fun j hj => chk_pos k j hk hj
  obtain ⟨C, hC⟩ : ∃ C, chk k = C := ⟨_, rfl⟩
  rw [hC] at HZ HP hc ⊢
  clear hC
  go_enter Tryz.func89, Tryz.ntmps89
  go_wp2_with fail
  refine (own_any k _ hk).mono ?_
  rintro e w2 ⟨rfl, hb⟩
  have B2 := Lib.hid hb
  clear hb
  go_wp2_with fail
  refine (greatest_any k _ hk).mono ?_
  rintro e w3 ⟨rfl, rfl⟩
  obtain ⟨M, hM⟩ : ∃ M, onn k * gr k = M := ⟨_, rfl⟩
  have hM2 : M ≤ 65280 := by rw [← hM]; exact Nat.mul_le_mul hP hG
  have e1 : ((onn k : Nat) : Int) * ((gr k : Nat) : Int) = (M : Int) := by rw [← hM]; exact (Int.natCast_mul _ _).symm
  rw [hM] at HZ HP
  generalize onn k = P at hP e1 ⊢
  generalize gr k = G at hG e1 ⊢
  clear hM
  go_wp2
  clear e1
  go_loop [3, 4] (fun n x => ∃ j X : Nat, j ≤ C ∧ X ≤ 65280 ∧ Hid (X = M / 2 ^ (k * j)) ∧ n = .int .i64 j ∧ x = .int .i64 X) (fun _ x => (intOf x).toNat)
  case atStart => exact ⟨0, M, by omega, hM2, by simp [Hid], rfl, rfl⟩
  case round =>
    obtain ⟨j, X, hj, hX, HX, rfl, rfl⟩ := hrel
    by_cases h0 : 0 < X
    · have hlt : j < C := by
        rcases Nat.lt_or_ge j C with h | h
        · exact h
        · have := HZ.out j h; have := HX.out; omega
      have HD : Hid (X / 2 ^ k = M / 2 ^ (k * (j + 1))) := by
        show _ = _
        rw [HX.out, Nat.div_div_eq_div_mul, ← Nat.pow_add, Nat.mul_succ]
      have hdec : X / 2 ^ k < X := Nat.div_lt_self h0 (Nat.one_lt_two_pow (by omega))
      go_wp2
      go_round
      case rel => exact ⟨j + 1, X / 2 ^ k, by omega, by omega, HD, by go_num, by simp⟩
      case measure =>
        have e : ((X : Int) / 2 ^ k).toNat = X / 2 ^ k := by
          rw [show (X : Int) / 2 ^ k = ((X / 2 ^ k : Nat) : Int) by simp]; rfl
        simp only [intOf, e, Int.toNat_natCast]
        exact hdec
    · obtain rfl : X = 0 := by omega
      have hj2 : C = j := by
        rcases Nat.lt_or_ge j C with h | h
        · have := HP.out j h; have := HX.out; omega
        · omega
      subst hj2
      rw [show ((0 : Nat) : Int) = 0 from rfl]
      go_wp2
      go_ret
      exact ⟨rfl, B2.out⟩

set_option maxHeartbeats 400000 in
theorem shift_any (k : Nat) (w : World) (hk : Wd k) : Calls Tryz.prog 104 #[.int .i64 (k : Int)] w (One (.int .i64 (shf k : Nat)) w) := by
  obtain ⟨k1, k8, hP, hG⟩ := hk.le
  have hc := chk_le k
  have e1 : ((shf k : Nat) : Int) = 16 - (chk k : Int) * (k : Int) := by rcases hk with rfl | rfl | rfl | rfl <;> rfl
  have HE := Lib.hid e1
  clear e1
  go_enter Tryz.func104, Tryz.ntmps104
  go_wp2_with fail
  refine (check_any k _ hk).mono ?_
  rintro e w2 ⟨rfl, hb⟩
  have B2 := Lib.hid hb
  clear hb
  rw [HE.out]
  rcases hk with rfl | rfl | rfl | rfl
  all_goals
    simp only [chk]
    go_wp2
    go_ret
    exact ⟨rfl, B2.out⟩
end Go.Proofs.YtnemkefmlffigaaGreat
