/-
  The law DigitsBytes: for every byte slice and every byte the digits, one behind the other, are the bytes.
-/
import Derived.Test.YtklbegioifpfjaaD7
namespace Go.Proofs.Ytklbegioifpfjaa
open Go.RowKit

/-- The first j digits of a byte, as a number. -/
def tpp (c k j : Nat) : Nat := c / 2 ^ (8 - j * k)
theorem tpp_zero (c k : Nat) (h : c < 256) : tpp c k 0 = 0 := by simp [tpp]; omega
theorem tpp_le (c k j : Nat) (h : c < 256) : tpp c k j ≤ 255 := by
  have : tpp c k j ≤ c := Nat.div_le_self _ _
  omega
theorem tpp_all (c k : Nat) (hk : Wd k) : tpp c k (8 / k) = c := by
  rcases hk with rfl | rfl | rfl | rfl <;> simp [tpp]
theorem dig_at (l : List UInt8) (i j k : Nat) (hj : j < 8 / k) : dig l (i * (8 / k) + j) k = (l.getD i 0).toNat / 2 ^ ((8 / k - 1 - j) * k) % 2 ^ k := by
  unfold dig
  have e1 : (i * (8 / k) + j) / (8 / k) = i := by
    rw [Nat.mul_comm, Nat.mul_add_div (by omega), Nat.div_eq_of_lt (by omega)]; omega
  have e2 : (i * (8 / k) + j) % (8 / k) = j := by
    rw [Nat.mul_comm, Nat.mul_add_mod, Nat.mod_eq_of_lt (by omega)]
  rw [e1, e2]
theorem tpp_succ (c k j : Nat) (hk : Wd k) (hj : j < 8 / k) : tpp c k j * 2 ^ k + c / 2 ^ ((8 / k - 1 - j) * k) % 2 ^ k = tpp c k (j + 1) := by
  have e1 : 8 - (j + 1) * k = (8 / k - 1 - j) * k := by rcases hk with rfl | rfl | rfl | rfl <;> omega
  have e2 : 8 - j * k = (8 / k - 1 - j) * k + k := by rcases hk with rfl | rfl | rfl | rfl <;> omega
  unfold tpp
  rw [e1, e2, Nat.pow_add, ← Nat.div_div_eq_div_mul, Nat.mul_comm]
  exact Nat.div_add_mod _ _
/-- One digit more. -/
theorem tpp_next (l : List UInt8) (i j k : Nat) (hk : Wd k) (hj : j < 8 / k) : tpp (l.getD i 0).toNat k j * 2 ^ k + dig l (i * (8 / k) + j) k = tpp (l.getD i 0).toNat k (j + 1) := by
  rw [dig_at l i j k hj]
  exact tpp_succ _ k j hk hj


set_option maxRecDepth 100000 in
set_option maxHeartbeats 1000000 in
theorem bytesLaw_1 (v : Value) (l : List UInt8) (u : Nat) (w : World) (hr : Rd w.heap.size w v l) (hu : u ≤ 255) (h4 : u % 4 = 0) (hl : l.length ≤ 300) : Calls Try.prog 6 #[v, .int .u8 (u : Int)] w (One (.bool true) w) := by
  have HR : Hid (∀ n, Rd w.heap.size (w.drewN n) v l) := fun n => hr.keep (fun p _ => rfl)
  obtain ⟨A, c, rfl, hc, hm⟩ := hr.shape
  unfold maxLen at hm
  have hc63 : (c : Int) ≤ 9223372036854775807 := by omega
  have hk : Wd 1 := by simp [Wd]
  have HK := Lib.hid hk
  have e1 : (u : Int) % 4 = 0 := by omega
  have zl : ¬ (300 < (l.length : Int)) := by omega
  have HO : Hid (∀ n, Calls Try.prog 9 #[.slice A l.length c, .int .i64 ((l.length * 8 : Nat) : Int), .int .i64 1] (w.drewN n) (Just (.tuple #[.int .i64 0, .int .i64 1]) (w.drewN n))) := fun n =>
    digitX_out _ _ l _ 1 _ hk (HR.out n) (by omega) (.inr (Int.le_refl _))
  clear hr hk h4 hm
  go_enter Try.func6, Try.ntmps6
  go_wp2
  clear e1 zl
  go_loopw [6, 7] (fun n x wr => ∃ i T : Nat, i ≤ l.length ∧ T = i * 8 ∧ n = .int .i64 T ∧ x = .int .i64 i ∧ Hid (∃ m, wr = w.drewN m)) (fun _ x _ => l.length - (intOf x).toNat)
  case atStart => exact ⟨0, 0, by omega, by omega, rfl, rfl, 0, rfl⟩
  case round =>
    obtain ⟨i, T, hi, hT, rfl, rfl, HW⟩ := hrel
    obtain ⟨m, rfl⟩ := HW.out
    by_cases hlt : i < l.length
    · obtain ⟨a, c', hv, hc', hm', hx⟩ := (HR.out 0).cellAt i hlt
      injection hv with hv1 hv2 hv3
      subst hv1 hv3
      have HB : Hid ((l.getD i 0).toNat < 256) := UInt8.toNat_lt (l.getD i 0)
      have HD : Hid (∀ j, j < 8 → tpp (l.getD i 0).toNat 1 j * 2 + dig l (i * 8 + j) 1 = tpp (l.getD i 0).toNat 1 (j + 1)) := fun j hj => tpp_next l i j 1 HK.out hj
      have HA : Hid (tpp (l.getD i 0).toNat 1 8 = (l.getD i 0).toNat) := tpp_all _ 1 HK.out
      generalize (l.getD i 0).toNat = b at hx HB HD HA
      have hx' : w.cell? (a.add i) = some (.int .u8 (b : Int)) := hx
      have zi : (i : Int) < l.length := by omega
      have zb : (b : Int) ≤ 255 := by have := HB.out; omega
      have HT := Lib.hid hT
      have hT2 : T ≤ 2400 := by omega
      clear hx hm' hc' hT
      go_wp2
      go_loopw [6, 8, 9] (fun n x y wr => ∃ j S X : Nat, j ≤ 8 ∧ S ≤ 2400 ∧ X ≤ 255 ∧ Hid (S = i * 8 + j) ∧ Hid (X = tpp b 1 j) ∧ n = .int .i64 S ∧ x = .int .i64 X ∧ y = .int .i64 j ∧ Hid (∃ m, wr = w.drewN m)) (fun _ _ y _ => 8 - (intOf y).toNat)
      case atStart => exact ⟨0, T, 0, by omega, by omega, by omega, by rw [HT.out]; rfl, (tpp_zero b 1 HB.out).symm, rfl, rfl, rfl, m, rfl⟩
      case round =>
        clear HW HT hT2
        obtain ⟨j, S, X, hj, hS, hX, HS, HX, rfl, rfl, rfl, HW⟩ := hrel
        obtain ⟨m, rfl⟩ := HW.out
        by_cases hj2 : j < 8
        · obtain ⟨D, hD⟩ : ∃ D, dig l S 1 = D := ⟨_, rfl⟩
          have hDG : D < 2 := by rw [← hD]; exact dig_lt l S 1
          have CD : Hid (Calls Try.prog 9 #[.slice (some a) l.length c, .int .i64 (S : Int), .int .i64 1] (w.drewN m) (Drew (.tuple #[.int .i64 (D : Nat), .int .i64 0]) (w.drewN m))) := by
            rw [← hD]; exact digitX_in _ _ l S 1 _ HK.out (HR.out m) (by omega) (by have := HS.out; show S < l.length * 8; omega)
          have HN : Hid (X * 2 + D = tpp b 1 (j + 1)) := by
            show _ = _
            rw [← hD, HS.out, HX.out]
            exact HD.out j hj2
          have hN : X * 2 + D ≤ 255 := by rw [HN.out]; exact tpp_le b 1 (j + 1) HB.out
          have HS2 : Hid (S + 1 = i * 8 + (j + 1)) := by have := HS.out; show _ = _; omega
          have hS2 : S + 1 ≤ 2400 := by have := HS2.out; omega
          have zj : (j : Int) < 8 := by omega
          have zD : (D : Int) < 2 := by omega
          clear hD HX HS
          go_wp2_with fail
          refine CD.out.mono ?_
          rintro e w2 ⟨rfl, n2, rfl⟩
          go_wp2
          go_roundw
          case rel => exact ⟨j + 1, S + 1, X * 2 + D, by omega, hS2, hN, HS2, HN, by go_num, by go_num, by go_num, _, rfl⟩
          case measure => simp [intOf]; omega
        · obtain rfl : j = 8 := by omega
          have hXb : b = X := by rw [HX.out, HA.out]
          subst hXb
          have HS2 : Hid (S = (i + 1) * 8) := by have := HS.out; show _ = _; omega
          clear HX HA HD HB HS
          rw [show ((8 : Nat) : Int) = 8 from rfl]
          go_wp2
          go_roundw
          case rel => exact ⟨i + 1, S, by omega, HS2.out, rfl, by go_num, _, rfl⟩
          case measure => simp [intOf]; omega
    · obtain rfl : i = l.length := by omega
      have CO := HO.out m
      rw [← hT] at CO
      have HCO := Lib.hid CO
      have hT2 : T ≤ 2400 := by omega
      clear CO hT
      go_wp2_with fail
      refine HCO.out.mono ?_
      rintro e w2 ⟨rfl, rfl⟩
      go_wp2_with fail
      refine (alive_any _).mono ?_
      rintro e w5 ⟨rfl, hb⟩
      have B5 : Hid (Below w.heap.size w w5) := (Below.drewN' (Below.refl _ _)).trans hb
      clear hb
      go_wp2
      go_ret
      exact ⟨rfl, B5.out⟩

set_option maxRecDepth 100000 in
set_option maxHeartbeats 1000000 in
theorem bytesLaw_2 (v : Value) (l : List UInt8) (u : Nat) (w : World) (hr : Rd w.heap.size w v l) (hu : u ≤ 255) (h4 : u % 4 = 1) (hl : l.length ≤ 300) : Calls Try.prog 6 #[v, .int .u8 (u : Int)] w (One (.bool true) w) := by
  have HR : Hid (∀ n, Rd w.heap.size (w.drewN n) v l) := fun n => hr.keep (fun p _ => rfl)
  obtain ⟨A, c, rfl, hc, hm⟩ := hr.shape
  unfold maxLen at hm
  have hc63 : (c : Int) ≤ 9223372036854775807 := by omega
  have hk : Wd 2 := by simp [Wd]
  have HK := Lib.hid hk
  have e1 : (u : Int) % 4 = 1 := by omega
  have zl : ¬ (300 < (l.length : Int)) := by omega
  have HO : Hid (∀ n, Calls Try.prog 9 #[.slice A l.length c, .int .i64 ((l.length * 4 : Nat) : Int), .int .i64 2] (w.drewN n) (Just (.tuple #[.int .i64 0, .int .i64 1]) (w.drewN n))) := fun n =>
    digitX_out _ _ l _ 2 _ hk (HR.out n) (by omega) (.inr (Int.le_refl _))
  clear hr hk h4 hm
  go_enter Try.func6, Try.ntmps6
  go_wp2
  clear e1 zl
  go_loopw [6, 7] (fun n x wr => ∃ i T : Nat, i ≤ l.length ∧ T = i * 4 ∧ n = .int .i64 T ∧ x = .int .i64 i ∧ Hid (∃ m, wr = w.drewN m)) (fun _ x _ => l.length - (intOf x).toNat)
  case atStart => exact ⟨0, 0, by omega, by omega, rfl, rfl, 0, rfl⟩
  case round =>
    obtain ⟨i, T, hi, hT, rfl, rfl, HW⟩ := hrel
    obtain ⟨m, rfl⟩ := HW.out
    by_cases hlt : i < l.length
    · obtain ⟨a, c', hv, hc', hm', hx⟩ := (HR.out 0).cellAt i hlt
      injection hv with hv1 hv2 hv3
      subst hv1 hv3
      have HB : Hid ((l.getD i 0).toNat < 256) := UInt8.toNat_lt (l.getD i 0)
      have HD : Hid (∀ j, j < 4 → tpp (l.getD i 0).toNat 2 j * 4 + dig l (i * 4 + j) 2 = tpp (l.getD i 0).toNat 2 (j + 1)) := fun j hj => tpp_next l i j 2 HK.out hj
      have HA : Hid (tpp (l.getD i 0).toNat 2 4 = (l.getD i 0).toNat) := tpp_all _ 2 HK.out
      generalize (l.getD i 0).toNat = b at hx HB HD HA
      have hx' : w.cell? (a.add i) = some (.int .u8 (b : Int)) := hx
      have zi : (i : Int) < l.length := by omega
      have zb : (b : Int) ≤ 255 := by have := HB.out; omega
      have HT := Lib.hid hT
      have hT2 : T ≤ 2400 := by omega
      clear hx hm' hc' hT
      go_wp2
      go_loopw [6, 8, 9] (fun n x y wr => ∃ j S X : Nat, j ≤ 4 ∧ S ≤ 2400 ∧ X ≤ 255 ∧ Hid (S = i * 4 + j) ∧ Hid (X = tpp b 2 j) ∧ n = .int .i64 S ∧ x = .int .i64 X ∧ y = .int .i64 j ∧ Hid (∃ m, wr = w.drewN m)) (fun _ _ y _ => 4 - (intOf y).toNat)
      case atStart => exact ⟨0, T, 0, by omega, by omega, by omega, by rw [HT.out]; rfl, (tpp_zero b 2 HB.out).symm, rfl, rfl, rfl, m, rfl⟩
      case round =>
        clear HW HT hT2
        obtain ⟨j, S, X, hj, hS, hX, HS, HX, rfl, rfl, rfl, HW⟩ := hrel
        obtain ⟨m, rfl⟩ := HW.out
        by_cases hj2 : j < 4
        · obtain ⟨D, hD⟩ : ∃ D, dig l S 2 = D := ⟨_, rfl⟩
          have hDG : D < 4 := by rw [← hD]; exact dig_lt l S 2
          have CD : Hid (Calls Try.prog 9 #[.slice (some a) l.length c, .int .i64 (S : Int), .int .i64 2] (w.drewN m) (Drew (.tuple #[.int .i64 (D : Nat), .int .i64 0]) (w.drewN m))) := by
            rw [← hD]; exact digitX_in _ _ l S 2 _ HK.out (HR.out m) (by omega) (by have := HS.out; show S < l.length * 4; omega)
          have HN : Hid (X * 4 + D = tpp b 2 (j + 1)) := by
            show _ = _
            rw [← hD, HS.out, HX.out]
            exact HD.out j hj2
          have hN : X * 4 + D ≤ 255 := by rw [HN.out]; exact tpp_le b 2 (j + 1) HB.out
          have HS2 : Hid (S + 1 = i * 4 + (j + 1)) := by have := HS.out; show _ = _; omega
          have hS2 : S + 1 ≤ 2400 := by have := HS2.out; omega
          have zj : (j : Int) < 4 := by omega
          have zD : (D : Int) < 4 := by omega
          clear hD HX HS
          go_wp2_with fail
          refine CD.out.mono ?_
          rintro e w2 ⟨rfl, n2, rfl⟩
          go_wp2
          go_roundw
          case rel => exact ⟨j + 1, S + 1, X * 4 + D, by omega, hS2, hN, HS2, HN, by go_num, by go_num, by go_num, _, rfl⟩
          case measure => simp [intOf]; omega
        · obtain rfl : j = 4 := by omega
          have hXb : b = X := by rw [HX.out, HA.out]
          subst hXb
          have HS2 : Hid (S = (i + 1) * 4) := by have := HS.out; show _ = _; omega
          clear HX HA HD HB HS
          rw [show ((4 : Nat) : Int) = 4 from rfl]
          go_wp2
          go_roundw
          case rel => exact ⟨i + 1, S, by omega, HS2.out, rfl, by go_num, _, rfl⟩
          case measure => simp [intOf]; omega
    · obtain rfl : i = l.length := by omega
      have CO := HO.out m
      rw [← hT] at CO
      have HCO := Lib.hid CO
      have hT2 : T ≤ 2400 := by omega
      clear CO hT
      go_wp2_with fail
      refine HCO.out.mono ?_
      rintro e w2 ⟨rfl, rfl⟩
      go_wp2_with fail
      refine (alive_any _).mono ?_
      rintro e w5 ⟨rfl, hb⟩
      have B5 : Hid (Below w.heap.size w w5) := (Below.drewN' (Below.refl _ _)).trans hb
      clear hb
      go_wp2
      go_ret
      exact ⟨rfl, B5.out⟩

set_option maxRecDepth 100000 in
set_option maxHeartbeats 1000000 in
theorem bytesLaw_4 (v : Value) (l : List UInt8) (u : Nat) (w : World) (hr : Rd w.heap.size w v l) (hu : u ≤ 255) (h4 : u % 4 = 2) (hl : l.length ≤ 300) : Calls Try.prog 6 #[v, .int .u8 (u : Int)] w (One (.bool true) w) := by
  have HR : Hid (∀ n, Rd w.heap.size (w.drewN n) v l) := fun n => hr.keep (fun p _ => rfl)
  obtain ⟨A, c, rfl, hc, hm⟩ := hr.shape
  unfold maxLen at hm
  have hc63 : (c : Int) ≤ 9223372036854775807 := by omega
  have hk : Wd 4 := by simp [Wd]
  have HK := Lib.hid hk
  have e1 : (u : Int) % 4 = 2 := by omega
  have zl : ¬ (300 < (l.length : Int)) := by omega
  have HO : Hid (∀ n, Calls Try.prog 9 #[.slice A l.length c, .int .i64 ((l.length * 2 : Nat) : Int), .int .i64 4] (w.drewN n) (Just (.tuple #[.int .i64 0, .int .i64 1]) (w.drewN n))) := fun n =>
    digitX_out _ _ l _ 4 _ hk (HR.out n) (by omega) (.inr (Int.le_refl _))
  clear hr hk h4 hm
  go_enter Try.func6, Try.ntmps6
  go_wp2
  clear e1 zl
  go_loopw [6, 7] (fun n x wr => ∃ i T : Nat, i ≤ l.length ∧ T = i * 2 ∧ n = .int .i64 T ∧ x = .int .i64 i ∧ Hid (∃ m, wr = w.drewN m)) (fun _ x _ => l.length - (intOf x).toNat)
  case atStart => exact ⟨0, 0, by omega, by omega, rfl, rfl, 0, rfl⟩
  case round =>
    obtain ⟨i, T, hi, hT, rfl, rfl, HW⟩ := hrel
    obtain ⟨m, rfl⟩ := HW.out
    by_cases hlt : i < l.length
    · obtain ⟨a, c', hv, hc', hm', hx⟩ := (HR.out 0).cellAt i hlt
      injection hv with hv1 hv2 hv3
      subst hv1 hv3
      have HB : Hid ((l.getD i 0).toNat < 256) := UInt8.toNat_lt (l.getD i 0)
      have HD : Hid (∀ j, j < 2 → tpp (l.getD i 0).toNat 4 j * 16 + dig l (i * 2 + j) 4 = tpp (l.getD i 0).toNat 4 (j + 1)) := fun j hj => tpp_next l i j 4 HK.out hj
      have HA : Hid (tpp (l.getD i 0).toNat 4 2 = (l.getD i 0).toNat) := tpp_all _ 4 HK.out
      generalize (l.getD i 0).toNat = b at hx HB HD HA
      have hx' : w.cell? (a.add i) = some (.int .u8 (b : Int)) := hx
      have zi : (i : Int) < l.length := by omega
      have zb : (b : Int) ≤ 255 := by have := HB.out; omega
      have HT := Lib.hid hT
      have hT2 : T ≤ 2400 := by omega
      clear hx hm' hc' hT
      go_wp2
      go_loopw [6, 8, 9] (fun n x y wr => ∃ j S X : Nat, j ≤ 2 ∧ S ≤ 2400 ∧ X ≤ 255 ∧ Hid (S = i * 2 + j) ∧ Hid (X = tpp b 4 j) ∧ n = .int .i64 S ∧ x = .int .i64 X ∧ y = .int .i64 j ∧ Hid (∃ m, wr = w.drewN m)) (fun _ _ y _ => 2 - (intOf y).toNat)
      case atStart => exact ⟨0, T, 0, by omega, by omega, by omega, by rw [HT.out]; rfl, (tpp_zero b 4 HB.out).symm, rfl, rfl, rfl, m, rfl⟩
      case round =>
        clear HW HT hT2
        obtain ⟨j, S, X, hj, hS, hX, HS, HX, rfl, rfl, rfl, HW⟩ := hrel
        obtain ⟨m, rfl⟩ := HW.out
        by_cases hj2 : j < 2
        · obtain ⟨D, hD⟩ : ∃ D, dig l S 4 = D := ⟨_, rfl⟩
          have hDG : D < 16 := by rw [← hD]; exact dig_lt l S 4
          have CD : Hid (Calls Try.prog 9 #[.slice (some a) l.length c, .int .i64 (S : Int), .int .i64 4] (w.drewN m) (Drew (.tuple #[.int .i64 (D : Nat), .int .i64 0]) (w.drewN m))) := by
            rw [← hD]; exact digitX_in _ _ l S 4 _ HK.out (HR.out m) (by omega) (by have := HS.out; show S < l.length * 2; omega)
          have HN : Hid (X * 16 + D = tpp b 4 (j + 1)) := by
            show _ = _
            rw [← hD, HS.out, HX.out]
            exact HD.out j hj2
          have hN : X * 16 + D ≤ 255 := by rw [HN.out]; exact tpp_le b 4 (j + 1) HB.out
          have HS2 : Hid (S + 1 = i * 2 + (j + 1)) := by have := HS.out; show _ = _; omega
          have hS2 : S + 1 ≤ 2400 := by have := HS2.out; omega
          have zj : (j : Int) < 2 := by omega
          have zD : (D : Int) < 16 := by omega
          clear hD HX HS
          go_wp2_with fail
          refine CD.out.mono ?_
          rintro e w2 ⟨rfl, n2, rfl⟩
          go_wp2
          go_roundw
          case rel => exact ⟨j + 1, S + 1, X * 16 + D, by omega, hS2, hN, HS2, HN, by go_num, by go_num, by go_num, _, rfl⟩
          case measure => simp [intOf]; omega
        · obtain rfl : j = 2 := by omega
          have hXb : b = X := by rw [HX.out, HA.out]
          subst hXb
          have HS2 : Hid (S = (i + 1) * 2) := by have := HS.out; show _ = _; omega
          clear HX HA HD HB HS
          rw [show ((2 : Nat) : Int) = 2 from rfl]
          go_wp2
          go_roundw
          case rel => exact ⟨i + 1, S, by omega, HS2.out, rfl, by go_num, _, rfl⟩
          case measure => simp [intOf]; omega
    · obtain rfl : i = l.length := by omega
      have CO := HO.out m
      rw [← hT] at CO
      have HCO := Lib.hid CO
      have hT2 : T ≤ 2400 := by omega
      clear CO hT
      go_wp2_with fail
      refine HCO.out.mono ?_
      rintro e w2 ⟨rfl, rfl⟩
      go_wp2_with fail
      refine (alive_any _).mono ?_
      rintro e w5 ⟨rfl, hb⟩
      have B5 : Hid (Below w.heap.size w w5) := (Below.drewN' (Below.refl _ _)).trans hb
      clear hb
      go_wp2
      go_ret
      exact ⟨rfl, B5.out⟩

set_option maxRecDepth 100000 in
set_option maxHeartbeats 1000000 in
theorem bytesLaw_8 (v : Value) (l : List UInt8) (u : Nat) (w : World) (hr : Rd w.heap.size w v l) (hu : u ≤ 255) (h4 : u % 4 = 3) (hl : l.length ≤ 300) : Calls Try.prog 6 #[v, .int .u8 (u : Int)] w (One (.bool true) w) := by
  have HR : Hid (∀ n, Rd w.heap.size (w.drewN n) v l) := fun n => hr.keep (fun p _ => rfl)
  obtain ⟨A, c, rfl, hc, hm⟩ := hr.shape
  unfold maxLen at hm
  have hc63 : (c : Int) ≤ 9223372036854775807 := by omega
  have hk : Wd 8 := by simp [Wd]
  have HK := Lib.hid hk
  have e1 : (u : Int) % 4 = 3 := by omega
  have zl : ¬ (300 < (l.length : Int)) := by omega
  have HO : Hid (∀ n, Calls Try.prog 9 #[.slice A l.length c, .int .i64 ((l.length * 1 : Nat) : Int), .int .i64 8] (w.drewN n) (Just (.tuple #[.int .i64 0, .int .i64 1]) (w.drewN n))) := fun n =>
    digitX_out _ _ l _ 8 _ hk (HR.out n) (by omega) (.inr (Int.le_refl _))
  clear hr hk h4 hm
  go_enter Try.func6, Try.ntmps6
  go_wp2
  clear e1 zl
  go_loopw [6, 7] (fun n x wr => ∃ i T : Nat, i ≤ l.length ∧ T = i * 1 ∧ n = .int .i64 T ∧ x = .int .i64 i ∧ Hid (∃ m, wr = w.drewN m)) (fun _ x _ => l.length - (intOf x).toNat)
  case atStart => exact ⟨0, 0, by omega, by omega, rfl, rfl, 0, rfl⟩
  case round =>
    obtain ⟨i, T, hi, hT, rfl, rfl, HW⟩ := hrel
    obtain ⟨m, rfl⟩ := HW.out
    by_cases hlt : i < l.length
    · obtain ⟨a, c', hv, hc', hm', hx⟩ := (HR.out 0).cellAt i hlt
      injection hv with hv1 hv2 hv3
      subst hv1 hv3
      have HB : Hid ((l.getD i 0).toNat < 256) := UInt8.toNat_lt (l.getD i 0)
      have HD : Hid (∀ j, j < 1 → tpp (l.getD i 0).toNat 8 j * 256 + dig l (i * 1 + j) 8 = tpp (l.getD i 0).toNat 8 (j + 1)) := fun j hj => tpp_next l i j 8 HK.out hj
      have HA : Hid (tpp (l.getD i 0).toNat 8 1 = (l.getD i 0).toNat) := tpp_all _ 8 HK.out
      generalize (l.getD i 0).toNat = b at hx HB HD HA
      have hx' : w.cell? (a.add i) = some (.int .u8 (b : Int)) := hx
      have zi : (i : Int) < l.length := by omega
      have zb : (b : Int) ≤ 255 := by have := HB.out; omega
      have HT := Lib.hid hT
      have hT2 : T ≤ 2400 := by omega
      clear hx hm' hc' hT
      go_wp2
      go_loopw [6, 8, 9] (fun n x y wr => ∃ j S X : Nat, j ≤ 1 ∧ S ≤ 2400 ∧ X ≤ 255 ∧ Hid (S = i * 1 + j) ∧ Hid (X = tpp b 8 j) ∧ n = .int .i64 S ∧ x = .int .i64 X ∧ y = .int .i64 j ∧ Hid (∃ m, wr = w.drewN m)) (fun _ _ y _ => 1 - (intOf y).toNat)
      case atStart => exact ⟨0, T, 0, by omega, by omega, by omega, by rw [HT.out]; rfl, (tpp_zero b 8 HB.out).symm, rfl, rfl, rfl, m, rfl⟩
      case round =>
        clear HW HT hT2
        obtain ⟨j, S, X, hj, hS, hX, HS, HX, rfl, rfl, rfl, HW⟩ := hrel
        obtain ⟨m, rfl⟩ := HW.out
        by_cases hj2 : j < 1
        · obtain ⟨D, hD⟩ : ∃ D, dig l S 8 = D := ⟨_, rfl⟩
          have hDG : D < 256 := by rw [← hD]; exact dig_lt l S 8
          have CD : Hid (Calls Try.prog 9 #[.slice (some a) l.length c, .int .i64 (S : Int), .int .i64 8] (w.drewN m) (Drew (.tuple #[.int .i64 (D : Nat), .int .i64 0]) (w.drewN m))) := by
            rw [← hD]; exact digitX_in _ _ l S 8 _ HK.out (HR.out m) (by omega) (by have := HS.out; show S < l.length * 1; omega)
          have HN : Hid (X * 256 + D = tpp b 8 (j + 1)) := by
            show _ = _
            rw [← hD, HS.out, HX.out]
            exact HD.out j hj2
          have hN : X * 256 + D ≤ 255 := by rw [HN.out]; exact tpp_le b 8 (j + 1) HB.out
          have HS2 : Hid (S + 1 = i * 1 + (j + 1)) := by have := HS.out; show _ = _; omega
          have hS2 : S + 1 ≤ 2400 := by have := HS2.out; omega
          have zj : (j : Int) < 1 := by omega
          have zD : (D : Int) < 256 := by omega
          clear hD HX HS
          obtain rfl : j = 0 := by omega
          obtain rfl : X = 0 := by omega
          rw [show ((0 : Nat) : Int) = 0 from rfl]
          have zD2 : D ≤ 255 := by omega
          have HN0 := Lib.hid hN
          clear hN hj hj2 zj hX hDG
          go_wp2_with fail
          refine CD.out.mono ?_
          rintro e w2 ⟨rfl, n2, rfl⟩
          go_wp2
          go_roundw
          case rel => exact ⟨0 + 1, S + 1, 0 * 256 + D, Nat.le_refl _, hS2, HN0.out, HS2, HN, by go_num, by simp, by simp, _, rfl⟩
          case measure => simp [intOf]
        · obtain rfl : j = 1 := by omega
          have hXb : b = X := by rw [HX.out, HA.out]
          subst hXb
          have HS2 : Hid (S = (i + 1) * 1) := by have := HS.out; show _ = _; omega
          clear HX HA HD HB HS
          rw [show ((1 : Nat) : Int) = 1 from rfl]
          go_wp2
          go_roundw
          case rel => exact ⟨i + 1, S, by omega, HS2.out, rfl, by go_num, _, rfl⟩
          case measure => simp [intOf]; omega
    · obtain rfl : i = l.length := by omega
      have CO := HO.out m
      rw [← hT] at CO
      have HCO := Lib.hid CO
      have hT2 : T ≤ 2400 := by omega
      clear CO hT
      go_wp2_with fail
      refine HCO.out.mono ?_
      rintro e w2 ⟨rfl, rfl⟩
      go_wp2_with fail
      refine (alive_any _).mono ?_
      rintro e w5 ⟨rfl, hb⟩
      have B5 : Hid (Below w.heap.size w w5) := (Below.drewN' (Below.refl _ _)).trans hb
      clear hb
      go_wp2
      go_ret
      exact ⟨rfl, B5.out⟩

set_option maxHeartbeats 400000 in
theorem bytes_law (v : Value) (l : List UInt8) (z : Int) (w : World) (hr : Rd w.heap.size w v l) (h0 : 0 ≤ z) (h1 : z ≤ 255) : Calls Try.prog 6 #[v, .int .u8 z] w (One (.bool true) w) := by
  obtain ⟨u, rfl⟩ : ∃ u : Nat, z = (u : Int) := ⟨z.toNat, by omega⟩
  by_cases hl : 300 < l.length
  · obtain ⟨A, c, rfl, hc, hm⟩ := hr.shape
    unfold maxLen at hm
    clear hr
    go_enter Try.func6, Try.ntmps6
    go_wp2_with fail
    refine (alive_any _).mono ?_
    rintro e w5 ⟨rfl, hb⟩
    have B5 := Lib.hid hb
    clear hb
    go_wp2
    go_ret
    exact ⟨rfl, B5.out⟩
  · have : u % 4 = 0 ∨ u % 4 = 1 ∨ u % 4 = 2 ∨ u % 4 = 3 := by omega
    rcases this with h | h | h | h
    · exact bytesLaw_1 v l u w hr (by omega) h (by omega)
    · exact bytesLaw_2 v l u w hr (by omega) h (by omega)
    · exact bytesLaw_4 v l u w hr (by omega) h (by omega)
    · exact bytesLaw_8 v l u w hr (by omega) h (by omega)
end Go.Proofs.Ytklbegioifpfjaa
