/-
  The document's sums of CRC-32C. Each theorem states its own conditions.
-/
import Derived.Test.YteckenlbelgknaaC2
import Derived.Test.YteckenlbelgknaaSX
import Derived.Test.YteckenlbelgknaaOJ
namespace Go.Proofs.Yteckenlbelgknaa
open Go.RowKit

theorem bitsC_snoc (b : Nat) : ∀ (n j x : Nat), bitsC b j (n + 1) x = bitC (bitsC b j n x) (b / 2 ^ (j + n) % 2)
  | 0, _, _ => rfl
  | n + 1, j, x => by
    show bitsC b (j + 1) (n + 1) (bitC x (b / 2 ^ j % 2)) = _
    rw [bitsC_snoc b n (j + 1), show j + 1 + n = j + (n + 1) by omega]
    rfl
theorem feedC_snoc (x : Nat) (l : List UInt8) (i : Nat) (hi : i < l.length) : feedC x (l.take (i + 1)) = byteC (feedC x (l.take i)) (l.getD i 0) := by
  rw [List.take_add_one, List.getElem?_eq_getElem hi, feedC_append, List.getD_eq_getElem?_getD, List.getElem?_eq_getElem hi]
  rfl
set_option maxRecDepth 100000 in
set_option maxHeartbeats 4000000 in
theorem rfMore_any (s : Nat) (l : List UInt8) (v : Value) (w : World) (hs : s < 4294967296) (hr : Rd w.heap.size w v l) : Calls Try.prog 14 #[.int .u32 (s : Int), v] w fun e w' => e = .returned (.int .u32 (moreC s l : Int)) ∧ w = w' := by
  obtain ⟨A, c, hv, hc, hm⟩ := hr.shape
  unfold maxLen at hm
  obtain ⟨n, hn⟩ : ∃ n, l.length = n := ⟨_, rfl⟩
  have HN := Lib.hid hn
  rw [hn] at hv hc
  subst hv
  have HR := Lib.hid hr
  clear hr hn
  obtain ⟨y0, hy0⟩ : ∃ q, s ^^^ 4294967295 = q := ⟨_, rfl⟩
  have hyl : y0 < 4294967296 := by rw [← hy0]; exact Nat.xor_lt_two_pow (n := 32) hs (by decide)
  have hx0 := u32_xor_nat s 4294967295 hs (by decide)
  rw [hy0, show ((4294967295 : Nat) : Int) = 4294967295 from rfl] at hx0
  have HY := Lib.hid hy0
  have HYL := Lib.hid hyl
  clear hy0
  go_enter Try.func14, Try.ntmps14
  go_wp2
  clear hx0
  go_loop [5, 6] (fun u x => ∃ i : Nat, i ≤ n ∧ x = .int .i64 (i : Int) ∧ u = .int .u32 ((feedC y0 (l.take i) : Nat) : Int)) (fun _ x => n - (intOf x).toNat)
  case atStart => exact ⟨0, Nat.zero_le _, rfl, rfl⟩
  case round =>
    obtain ⟨i, hi, rfl, rfl⟩ := hrel
    by_cases hi2 : i < n
    · have zi : (i : Int) < (n : Int) := by omega
      have hil : i < l.length := by rw [HN.out]; exact hi2
      have hfs := feedC_snoc y0 l i hil
      obtain ⟨A9, c9, hv9, -, -, -, hrd⟩ := HR.out
      obtain rfl : A = A9 := by injection hv9
      cases A with
      | none =>
        have h9 := HR.out
        obtain ⟨A8, c8, hv8, h81, -, h83, -⟩ := h9
        injection hv8 with e1 e2 e3
        subst e1
        have := h83 rfl
        omega
      | some a =>
      have hcell := (hrd a rfl).2 i hil
      obtain ⟨b, hb⟩ : ∃ q, l.getD i 0 = q := ⟨_, rfl⟩
      have hb2 : l[i] = b := by rw [← hb, List.getD_eq_getElem?_getD, List.getElem?_eq_getElem hil]; rfl
      rw [hb2] at hcell
      rw [hb] at hfs
      obtain ⟨bn, hbn⟩ : ∃ q, b.toNat = q := ⟨_, rfl⟩
      have hb256 : bn < 256 := by rw [← hbn]; exact b.toNat_lt
      rw [hbn] at hcell
      obtain ⟨y, hy⟩ : ∃ q, feedC y0 (l.take i) = q := ⟨_, rfl⟩
      have hyy : y < 4294967296 := by rw [← hy]; exact feedC_lt _ _ HYL.out
      rw [hy] at hfs ⊢
      have HFS : Hid (feedC y0 (l.take (i + 1)) = bitsC bn 0 8 y) := Lib.hid (by rw [hfs, ← hbn]; rfl)
      have HYY := Lib.hid hyy
      clear hrd hv9 hb hb2 hbn hy hfs hil hyy
      go_wp2
      go_loop [5, 7] (fun u x => ∃ k : Nat, k ≤ 8 ∧ x = .int .i64 (k : Int) ∧ u = .int .u32 ((bitsC bn 0 k y : Nat) : Int)) (fun _ x => 8 - (intOf x).toNat)
      case atStart => exact ⟨0, Nat.zero_le _, rfl, rfl⟩
      case round =>
        obtain ⟨k, hk, rfl, rfl⟩ := hrel
        by_cases hk2 : k < 8
        · have zk : (k : Int) < 8 := by omega
          have hs2 := bitsC_snoc bn k 0 y
          rw [Nat.zero_add] at hs2
          obtain ⟨z, hz⟩ : ∃ q, bitsC bn 0 k y = q := ⟨_, rfl⟩
          have hzl : z < 4294967296 := by rw [← hz]; exact bitsC_lt _ _ _ _ HYY.out
          rw [hz] at hs2 ⊢
          have HS2 := Lib.hid hs2
          clear hs2 hz
          obtain ⟨t, ht⟩ : ∃ q, bn / 2 ^ k % 2 = q := ⟨_, rfl⟩
          have hti : (bn : Int) / 2 ^ k % 2 = (t : Int) := by rw [← ht]; simp
          have hz2 : (z : Int) / 2 = ((z / 2 : Nat) : Int) := by omega
          have hzm : (z : Int) % 2 = ((z % 2 : Nat) : Int) := by omega
          rw [ht] at HS2
          by_cases hq : t = z % 2
          · have hne : ((bn : Int) / 2 ^ k % 2 != (z : Int) % 2) = false := by rw [hti, hzm, hq]; simp
            have HR2 : Hid (bitsC bn 0 (k + 1) y = z / 2) := Lib.hid (by rw [HS2.out, bitC, if_pos hq, Nat.xor_zero])
            clear ht hti hzm hq
            have HZ2 := Lib.hid hz2
            clear hz2
            go_wp2
            go_round
            case rel => exact ⟨k + 1, by omega, by go_num, by rw [HR2.out, HZ2.out]⟩
            case measure => simp [intOf]; omega
          · have hne : ((bn : Int) / 2 ^ k % 2 != (z : Int) % 2) = true := by rw [hti, hzm]; simp; omega
            have hx9 := u32_xor_nat (z / 2) 2197175160 (by omega) (by decide)
            rw [← hz2, show ((2197175160 : Nat) : Int) = 2197175160 from rfl] at hx9
            have HR2 : Hid (bitsC bn 0 (k + 1) y = z / 2 ^^^ 2197175160) := Lib.hid (by rw [HS2.out, bitC, if_neg hq]; rfl)
            clear ht hti hzm hq hz2
            go_wp2
            go_round
            case rel => exact ⟨k + 1, by omega, by go_num, by rw [HR2.out]⟩
            case measure => simp [intOf]; omega
        · obtain rfl : k = 8 := by omega
          have zk : ¬ ((8 : Nat) : Int) < 8 := by omega
          go_wp2
          go_round
          case rel => exact ⟨i + 1, by omega, by go_num, by rw [HFS.out]⟩
          case measure => simp [intOf]; omega
    · obtain rfl : i = n := by omega
      have zi : ¬ (i : Int) < (i : Int) := by omega
      have HF : Hid (l.take i = l) := Lib.hid (List.take_of_length_le (by rw [HN.out]; exact Nat.le_refl _))
      rw [HF.out]
      obtain ⟨z, hz⟩ : ∃ q, feedC y0 l = q := ⟨_, rfl⟩
      have hzl : z < 4294967296 := by rw [← hz]; exact feedC_lt _ _ HYL.out
      have hx1 := u32_xor_nat z 4294967295 hzl (by decide)
      rw [show ((4294967295 : Nat) : Int) = 4294967295 from rfl] at hx1
      have HZ : Hid (moreC s l = z ^^^ 4294967295) := Lib.hid (by unfold moreC; rw [HY.out, hz])
      rw [hz]
      clear hz
      go_wp2
      go_ret
      exact ⟨by rw [HZ.out]; rfl, rfl⟩
end Go.Proofs.Yteckenlbelgknaa
