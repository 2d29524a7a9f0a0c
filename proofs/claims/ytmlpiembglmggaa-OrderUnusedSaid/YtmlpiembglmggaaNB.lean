/-
  The document's orders: what a kind uses; is a letter in a text.
-/
import Derived.Test.YtmlpiembglmggaaNA
namespace Go.Proofs.Ytmlpiembglmggaa
open Go.RowKit

set_option maxRecDepth 100000 in
set_option maxHeartbeats 4000000 in
theorem rfUses_any (k : Int) (w : World) : Calls Try.prog 32 #[.int .i64 k] w (One (txt (usesT k)) w) := by
  by_cases h1 : k = 1
  · subst h1
    go_enter Try.func32, Try.ntmps32
    go_wp2
    go_ret
    exact ⟨rfl, Below.refl _ _⟩
  have b1 : (k == 1) = false := by rw [beq_eq_false_iff_ne]; exact h1
  by_cases h2 : k = 2
  · subst h2
    go_enter Try.func32, Try.ntmps32
    go_wp2
    go_ret
    exact ⟨rfl, Below.refl _ _⟩
  have b2 : (k == 2) = false := by rw [beq_eq_false_iff_ne]; exact h2
  by_cases h5 : k = 5
  · subst h5
    go_enter Try.func32, Try.ntmps32
    go_wp2
    go_ret
    exact ⟨rfl, Below.refl _ _⟩
  have b5 : (k == 5) = false := by rw [beq_eq_false_iff_ne]; exact h5
  by_cases h10 : k = 10
  · subst h10
    go_enter Try.func32, Try.ntmps32
    go_wp2
    go_ret
    exact ⟨rfl, Below.refl _ _⟩
  have b10 : (k == 10) = false := by rw [beq_eq_false_iff_ne]; exact h10
  by_cases h11 : k = 11
  · subst h11
    go_enter Try.func32, Try.ntmps32
    go_wp2
    go_ret
    exact ⟨rfl, Below.refl _ _⟩
  have b11 : (k == 11) = false := by rw [beq_eq_false_iff_ne]; exact h11
  by_cases h3 : k = 3
  · subst h3
    go_enter Try.func32, Try.ntmps32
    go_wp2
    go_ret
    exact ⟨rfl, Below.refl _ _⟩
  have b3 : (k == 3) = false := by rw [beq_eq_false_iff_ne]; exact h3
  by_cases h4 : k = 4
  · subst h4
    go_enter Try.func32, Try.ntmps32
    go_wp2
    go_ret
    exact ⟨rfl, Below.refl _ _⟩
  have b4 : (k == 4) = false := by rw [beq_eq_false_iff_ne]; exact h4
  by_cases h6 : k = 6
  · subst h6
    go_enter Try.func32, Try.ntmps32
    go_wp2
    go_ret
    exact ⟨rfl, Below.refl _ _⟩
  have b6 : (k == 6) = false := by rw [beq_eq_false_iff_ne]; exact h6
  by_cases h7 : k = 7
  · subst h7
    go_enter Try.func32, Try.ntmps32
    go_wp2
    go_ret
    exact ⟨rfl, Below.refl _ _⟩
  have b7 : (k == 7) = false := by rw [beq_eq_false_iff_ne]; exact h7
  by_cases h8 : k = 8
  · subst h8
    go_enter Try.func32, Try.ntmps32
    go_wp2
    go_ret
    exact ⟨rfl, Below.refl _ _⟩
  have b8 : (k == 8) = false := by rw [beq_eq_false_iff_ne]; exact h8
  by_cases h9 : k = 9
  · subst h9
    go_enter Try.func32, Try.ntmps32
    go_wp2
    go_ret
    exact ⟨rfl, Below.refl _ _⟩
  have b9 : (k == 9) = false := by rw [beq_eq_false_iff_ne]; exact h9
  have HU : Hid (usesT k = []) := by
    show _ = _
    unfold usesT
    simp [h1, h2, h5, h10, h11, h3, h4, h6, h7, h8, h9]
  clear h1 h2 h5 h10 h11 h3 h4 h6 h7 h8 h9
  go_enter Try.func32, Try.ntmps32
  go_wp2
  go_ret
  exact ⟨by rw [HU.out]; rfl, Below.refl _ _⟩

set_option maxRecDepth 100000 in
set_option maxHeartbeats 2000000 in
theorem rfIn_any (s : List UInt8) (d : UInt8) (w : World) (hs : s.length ≤ 1000000) : Calls Try.prog 33 #[txt s, .int .u8 (d.toNat : Int)] w (One (.bool (s.contains d)) w) := by
  obtain ⟨n, hn⟩ : ∃ n, s.length = n := ⟨_, rfl⟩
  have hsz : (⟨s.toArray⟩ : ByteArray).size = n := hn
  have HN := Lib.hid hn
  rw [hn] at hs
  obtain ⟨B, hB⟩ : ∃ B, s.contains d = B := ⟨_, rfl⟩
  have HB := Lib.hid hB
  rw [hB]
  clear hB
  go_enter Try.func33, Try.ntmps33
  go_wp2
  go_loop [5] (fun x => ∃ i : Nat, i ≤ n ∧ x = .int .i64 (i : Int) ∧ Hid (d ∉ s.take i)) (fun x => n - (intOf x).toNat)
  case atStart => exact ⟨0, by omega, rfl, by show _ ∉ _; simp⟩
  case round =>
    obtain ⟨i, hi, rfl, HA⟩ := hrel
    by_cases hi2 : i < n
    · have hix := run_index_txt s i (by rw [hn]; exact hi2)
      obtain ⟨c, hc⟩ : ∃ c, s.getD i 0 = c := ⟨_, rfl⟩
      rw [hc] at hix
      have HT : Hid (s.take (i + 1) = s.take i ++ [c]) := by
        show _ = _
        rw [← hc]
        rw [List.take_succ_eq_append_getElem (by rw [hn]; exact hi2), List.getD_eq_getElem?_getD, List.getElem?_eq_getElem (by rw [hn]; exact hi2)]
        rfl
      have HM : Hid (c ∈ s) := by
        show _ ∈ _
        rw [← hc, List.getD_eq_getElem?_getD, List.getElem?_eq_getElem (by rw [hn]; exact hi2)]
        exact List.getElem_mem _
      have zi : (i : Int) < (n : Int) := by omega
      clear hc hn
      by_cases he : c = d
      · subst he
        have HF : Hid (B = true) := by
          show _ = _
          rw [← HB.out, List.contains_iff_mem]
          exact HM.out
        have hee : ((c.toNat : Int) == (c.toNat : Int)) = true := by simp
        go_wp2
        go_ret
        exact ⟨by rw [HF.out]; rfl, Below.refl _ _⟩
      · have hee : ((c.toNat : Int) == (d.toNat : Int)) = false := by
          rw [beq_eq_false_iff_ne]
          intro h
          exact he (UInt8.toNat_inj.1 (by omega))
        have HD : Hid (d ∉ s.take (i + 1)) := by
          show _ ∉ _
          rw [HT.out, List.mem_append]
          rintro (h | h)
          · exact HA.out h
          · exact he (List.mem_singleton.1 h).symm
        clear he
        go_wp2
        go_round
        case rel => exact ⟨i + 1, by omega, by go_num, HD⟩
        case measure => simp [intOf]; omega
    · obtain rfl : i = n := by omega
      have HF : Hid (B = false) := by
        show _ = _
        rw [← HB.out]
        have h := HA.out
        rw [List.take_of_length_le (by rw [HN.out]; exact Nat.le_refl _)] at h
        rw [Bool.eq_false_iff]
        intro h2
        exact h (List.contains_iff_mem.1 h2)
      go_wp2
      go_ret
      exact ⟨by rw [HF.out]; rfl, Below.refl _ _⟩
end Go.Proofs.Ytmlpiembglmggaa
