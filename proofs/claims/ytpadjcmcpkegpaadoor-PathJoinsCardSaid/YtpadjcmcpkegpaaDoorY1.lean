/-
  The document's paths: IsName, for every text.
-/
import Derived.Test.YtpadjcmcpkegpaaDoorY0
import Derived.Test.YtpadjcmcpkegpaaDoorLB
import Derived.WalkLawsBesides
namespace Go.Proofs.YtpadjcmcpkegpaaDoor
open Go.RowKit

/-- A text. -/
abbrev txt (l : List UInt8) : Value := .string ⟨l.toArray⟩
theorem run_index_txt (s : List UInt8) (i : Nat) (hi : i < s.length) (w : World) : (Instr.index 9 (txt s) (.int .i64 (i : Int))).run Tryd.prog w = .ok (.int .u8 (((s.getD i 0).toNat : Nat) : Int)) w := by
  have h := run_index_string (P := Tryd.prog) (w := w) 9 ⟨s.toArray⟩ .i64 (i : Int) Tryd.underlying9
  rw [h]
  have hs : (⟨s.toArray⟩ : ByteArray).size = s.length := rfl
  simp [hs, hi]
  rfl
theorem nameB_of (s : List UInt8) (b : Bool) (h : s.all chrB = b) : nameB s = (b && (decide (1 ≤ s.length) && decide (s.length ≤ 30))) := by
  unfold nameB
  rw [h, Bool.and_assoc]

set_option maxRecDepth 100000 in
set_option maxHeartbeats 2000000 in
theorem rfName_any (s : List UInt8) (w : World) (hs : s.length ≤ 1000000) : Calls Tryd.prog 14 #[txt s] w (One (.bool (nameB s)) w) := by
  obtain ⟨n, hn⟩ : ∃ n, s.length = n := ⟨_, rfl⟩
  have hsz : (⟨s.toArray⟩ : ByteArray).size = n := hn
  have HN := Lib.hid hn
  rw [hn] at hs
  go_enter Tryd.func14, Tryd.ntmps14
  go_wp2
  go_loop [3] (fun x => ∃ i : Nat, i ≤ n ∧ x = .int .i64 (i : Int) ∧ Hid ((s.take i).all chrB = true)) (fun x => n - (intOf x).toNat)
  case atStart => exact ⟨0, by omega, rfl, by simp [Hid]⟩
  case round =>
    obtain ⟨i, hi, rfl, HA⟩ := hrel
    by_cases hi2 : i < n
    · have hix := run_index_txt s i (by rw [hn]; exact hi2)
      obtain ⟨c, hc⟩ : ∃ c, s.getD i 0 = c := ⟨_, rfl⟩
      rw [hc] at hix
      have hC : c.toNat < 256 := c.toNat_lt
      have hT : s.take (i + 1) = s.take i ++ [c] := by
        rw [List.take_add_one]
        have e : s[i]? = some c := by
          rw [List.getElem?_eq_getElem (by rw [hn]; exact hi2)]
          congr 1
          rw [← hc, List.getD_eq_getElem?_getD, List.getElem?_eq_getElem (by rw [hn]; exact hi2)]
          rfl
        rw [e]; rfl
      have HT := Lib.hid hT
      have HM : Hid (c ∈ s) := by
        show _ ∈ _
        rw [← hc, List.getD_eq_getElem?_getD, List.getElem?_eq_getElem (by rw [hn]; exact hi2)]
        exact List.getElem_mem _
      have zi : (i : Int) < (n : Int) := by omega
      have HL : Hid (chrB c = (decide (97 ≤ c.toNat) && decide (c.toNat ≤ 122) || decide (48 ≤ c.toNat) && decide (c.toNat ≤ 57) || decide (c.toNat = 45) || decide (c.toNat = 95))) := by
        show _ = _
        unfold chrB
        simp
      obtain ⟨C, hCE⟩ : ∃ C, c.toNat = C := ⟨_, rfl⟩
      rw [hCE] at hix hC HL
      clear hc hT hCE hn
      by_cases h1 : 97 ≤ (C : Int) <;> by_cases h2 : (C : Int) ≤ 122 <;> by_cases h3 : 48 ≤ (C : Int) <;> by_cases h4 : (C : Int) ≤ 57 <;> by_cases h5 : (C : Int) = 45 <;> by_cases h6 : (C : Int) = 95 <;> first | (exfalso; omega) | skip
      · have HB : Hid (chrB c = true) := by
          show _ = _
          rw [HL.out]
          simp only [Bool.or_eq_true, Bool.and_eq_true, decide_eq_true_eq]
          omega
        clear HL HM
        go_wp2
        go_round
        case rel =>
          refine ⟨i + 1, by omega, by go_num, ?_⟩
          show _ = _
          rw [HT.out, List.all_append, HA.out]
          simp [HB.out]
        case measure => simp [intOf]; omega
      · have HB : Hid (chrB c = false) := by
          show _ = _
          rw [HL.out, Bool.eq_false_iff]
          intro hh
          simp only [Bool.or_eq_true, Bool.and_eq_true, decide_eq_true_eq] at hh
          omega
        have HF : Hid (s.all chrB = false) := by
          show _ = _
          rw [List.all_eq_false]
          exact ⟨c, HM.out, by rw [HB.out]; simp⟩
        have b5 : ((C : Int) == 45) = false := by simpa using h5
        have b6 : ((C : Int) == 95) = false := by simpa using h6
        clear HL HM HB HA HT
        go_wp2
        go_ret
        exact ⟨by rw [nameB_of s _ HF.out]; rfl, Below.refl _ _⟩
      · have HB : Hid (chrB c = true) := by
          show _ = _
          rw [HL.out]
          simp only [Bool.or_eq_true, Bool.and_eq_true, decide_eq_true_eq]
          omega
        clear HL HM
        go_wp2
        go_round
        case rel =>
          refine ⟨i + 1, by omega, by go_num, ?_⟩
          show _ = _
          rw [HT.out, List.all_append, HA.out]
          simp [HB.out]
        case measure => simp [intOf]; omega
      · have HB : Hid (chrB c = true) := by
          show _ = _
          rw [HL.out]
          simp only [Bool.or_eq_true, Bool.and_eq_true, decide_eq_true_eq]
          omega
        clear HL HM
        go_wp2
        go_round
        case rel =>
          refine ⟨i + 1, by omega, by go_num, ?_⟩
          show _ = _
          rw [HT.out, List.all_append, HA.out]
          simp [HB.out]
        case measure => simp [intOf]; omega
      · have HB : Hid (chrB c = false) := by
          show _ = _
          rw [HL.out, Bool.eq_false_iff]
          intro hh
          simp only [Bool.or_eq_true, Bool.and_eq_true, decide_eq_true_eq] at hh
          omega
        have HF : Hid (s.all chrB = false) := by
          show _ = _
          rw [List.all_eq_false]
          exact ⟨c, HM.out, by rw [HB.out]; simp⟩
        have b5 : ((C : Int) == 45) = false := by simpa using h5
        have b6 : ((C : Int) == 95) = false := by simpa using h6
        clear HL HM HB HA HT
        go_wp2
        go_ret
        exact ⟨by rw [nameB_of s _ HF.out]; rfl, Below.refl _ _⟩
      · have HB : Hid (chrB c = true) := by
          show _ = _
          rw [HL.out]
          simp only [Bool.or_eq_true, Bool.and_eq_true, decide_eq_true_eq]
          omega
        clear HL HM
        go_wp2
        go_round
        case rel =>
          refine ⟨i + 1, by omega, by go_num, ?_⟩
          show _ = _
          rw [HT.out, List.all_append, HA.out]
          simp [HB.out]
        case measure => simp [intOf]; omega
      · have HB : Hid (chrB c = false) := by
          show _ = _
          rw [HL.out, Bool.eq_false_iff]
          intro hh
          simp only [Bool.or_eq_true, Bool.and_eq_true, decide_eq_true_eq] at hh
          omega
        have HF : Hid (s.all chrB = false) := by
          show _ = _
          rw [List.all_eq_false]
          exact ⟨c, HM.out, by rw [HB.out]; simp⟩
        have b5 : ((C : Int) == 45) = false := by simpa using h5
        have b6 : ((C : Int) == 95) = false := by simpa using h6
        clear HL HM HB HA HT
        go_wp2
        go_ret
        exact ⟨by rw [nameB_of s _ HF.out]; rfl, Below.refl _ _⟩
    · obtain rfl : i = n := by omega
      have HF : Hid (s.all chrB = true) := by
        have h := HA.out
        rw [List.take_of_length_le (by rw [hn]; exact Nat.le_refl _)] at h
        exact h
      have hnb := nameB_of s true HF.out
      rw [hn] at hnb
      have HNB := Lib.hid hnb
      clear HA HF hnb hn
      have zi : ¬ (i : Int) < (i : Int) := by omega
      by_cases h1 : 1 ≤ i
      · have d1 : decide ((1 : Int) ≤ (i : Int)) = true := decide_eq_true (by omega)
        by_cases h2 : i ≤ 30
        · have d2 : decide ((i : Int) ≤ 30) = true := decide_eq_true (by omega)
          go_wp2
          go_ret
          exact ⟨by rw [HNB.out]; simp [h1, h2], Below.refl _ _⟩
        · have d2 : decide ((i : Int) ≤ 30) = false := decide_eq_false (by omega)
          go_wp2
          go_ret
          exact ⟨by rw [HNB.out]; simp [h1, h2], Below.refl _ _⟩
      · have d1 : decide ((1 : Int) ≤ (i : Int)) = false := decide_eq_false (by omega)
        go_wp2
        go_ret
        exact ⟨by rw [HNB.out]; simp [h1], Below.refl _ _⟩
end Go.Proofs.YtpadjcmcpkegpaaDoor
