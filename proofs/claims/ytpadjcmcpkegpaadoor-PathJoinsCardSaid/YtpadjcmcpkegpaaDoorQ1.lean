/-
  The program's paths: IsName, for every text; strings.Cut at a slash.
-/
import Derived.Test.YtpadjcmcpkegpaaDoorQ0
import Derived.Test.YtpadjcmcpkegpaaDoorSh
namespace Go.Proofs.YtpadjcmcpkegpaaDoor
open Go.RowKit

set_option maxRecDepth 100000 in
set_option maxHeartbeats 2000000 in
theorem pxChr_any (c : UInt8) (w : World) : Calls Tryd.prog 28 #[.int .u8 (c.toNat : Int)] w fun e w' => e = .returned (.bool (chrB c)) ∧ w' = w := by
  have hC : c.toNat < 256 := c.toNat_lt
  have HL : Hid (chrB c = (decide (97 ≤ c.toNat) && decide (c.toNat ≤ 122) || decide (48 ≤ c.toNat) && decide (c.toNat ≤ 57) || decide (c.toNat = 45) || decide (c.toNat = 95))) := by
    show _ = _
    unfold chrB
    simp
  obtain ⟨C, hCE⟩ : ∃ C, c.toNat = C := ⟨_, rfl⟩
  rw [hCE] at hC HL ⊢
  clear hCE
  go_enter Tryd.func28, Tryd.ntmps28
  by_cases h1 : 97 ≤ (C : Int) <;> by_cases h2 : (C : Int) ≤ 122 <;> by_cases h3 : 48 ≤ (C : Int) <;> by_cases h4 : (C : Int) ≤ 57 <;> by_cases h5 : (C : Int) = 45 <;> by_cases h6 : (C : Int) = 95 <;> first | (exfalso; omega) | skip
  all_goals first
    | (have HB : Hid (chrB c = true) := by
        show _ = _
        rw [HL.out]
        simp only [Bool.or_eq_true, Bool.and_eq_true, decide_eq_true_eq]
        omega
       clear HL
       go_wp2
       go_ret
       exact ⟨by rw [HB.out]; rfl, rfl⟩)
    | (have HB : Hid (chrB c = false) := by
        show _ = _
        rw [HL.out, Bool.eq_false_iff]
        intro hh
        simp only [Bool.or_eq_true, Bool.and_eq_true, decide_eq_true_eq] at hh
        omega
       have b5 : ((C : Int) == 45) = false := by simpa using h5
       have b6 : ((C : Int) == 95) = false := by simpa using h6
       clear HL
       go_wp2
       go_ret
       exact ⟨by rw [HB.out]; rfl, rfl⟩)

set_option maxRecDepth 100000 in
set_option maxHeartbeats 2000000 in
theorem pxName_w (s : List UInt8) (w : World) (hs : s.length ≤ 1000000) : Calls Tryd.prog 13 #[txt s] w fun e w' => e = .returned (.bool (nameB s)) ∧ w' = w := by
  obtain ⟨n, hn⟩ : ∃ n, s.length = n := ⟨_, rfl⟩
  have hsz : (⟨s.toArray⟩ : ByteArray).size = n := hn
  have HN := Lib.hid hn
  rw [hn] at hs
  have HX : Hid (∀ b, s.all chrB = b → nameB s = (b && (decide (1 ≤ n) && decide (n ≤ 30)))) := by
    intro b hb
    rw [nameB_of s b hb, hn]
  clear hn
  go_enter Tryd.func13, Tryd.ntmps13
  by_cases h1 : (n : Int) < 1
  · have HF : Hid (nameB s = false) := by
      show _ = _
      rw [HX.out _ rfl]
      have : decide (1 ≤ n) = false := by simp; omega
      simp [this]
    go_wp2
    go_ret
    exact ⟨by rw [HF.out]; rfl, rfl⟩
  by_cases h2 : 30 < (n : Int)
  · have HF : Hid (nameB s = false) := by
      show _ = _
      rw [HX.out _ rfl]
      have : decide (n ≤ 30) = false := by simp; omega
      simp [this]
    go_wp2
    go_ret
    exact ⟨by rw [HF.out]; rfl, rfl⟩
  go_wp2
  go_loop [14] (fun x => ∃ i : Nat, i ≤ n ∧ x = .int .i64 (i : Int) ∧ Hid ((s.take i).all chrB = true)) (fun x => n - (intOf x).toNat)
  case atStart => exact ⟨0, by omega, rfl, by simp [Hid]⟩
  case round =>
    obtain ⟨i, hi, rfl, HA⟩ := hrel
    by_cases hi2 : i < n
    · have zi : (i : Int) < (n : Int) := by omega
      have hil : i < s.length := by rw [HN.out]; exact hi2
      have hix := run_index_txt s i hil
      have HT : Hid (s.take (i + 1) = s.take i ++ [s.getD i 0]) := by
        show _ = _
        rw [List.take_add_one]
        have e : s[i]? = some (s.getD i 0) := by
          rw [List.getD_eq_getElem?_getD, List.getElem?_eq_getElem hil]
          rfl
        rw [e]; rfl
      have HM : Hid (s.getD i 0 ∈ s) := by
        show _ ∈ _
        rw [List.getD_eq_getElem?_getD, List.getElem?_eq_getElem hil]
        exact List.getElem_mem _
      obtain ⟨c, hc⟩ : ∃ c, s.getD i 0 = c := ⟨_, rfl⟩
      rw [hc] at hix HT HM
      clear hc hil
      go_wp2_with fail
      refine (pxChr_any c w).mono ?_
      rintro e w1 ⟨rfl, rfl⟩
      cases hb : chrB c
      · have HF : Hid (s.all chrB = false) := by
          show _ = _
          rw [List.all_eq_false]
          exact ⟨c, HM.out, by rw [hb]; simp⟩
        go_wp2
        go_ret
        exact ⟨by rw [HX.out _ HF.out]; rfl, rfl⟩
      · go_wp2
        go_round
        case rel =>
          refine ⟨i + 1, by omega, by go_num, ?_⟩
          show _ = _
          rw [HT.out, List.all_append, HA.out]
          simp [hb]
        case measure => simp [intOf]; omega
    · have hE : i = n := by omega
      subst hE
      have HF : Hid (s.all chrB = true) := by
        show _ = _
        have h := HA.out
        rw [List.take_of_length_le (by rw [HN.out]; exact Nat.le_refl _)] at h
        exact h
      have HG : Hid (nameB s = true) := by
        show _ = _
        rw [HX.out _ HF.out]
        simp
        omega
      go_wp2
      go_ret
      exact ⟨by rw [HG.out]; rfl, rfl⟩
theorem pxName_any (s : List UInt8) (w : World) (hs : s.length ≤ 1000000) : Calls Tryd.prog 13 #[txt s] w (One (.bool (nameB s)) w) := by
  refine (pxName_w s w hs).mono ?_
  rintro e w' ⟨rfl, rfl⟩
  exact ⟨rfl, Below.refl _ _⟩

theorem txt_extract (s : List UInt8) (a b : Nat) : Value.string ((⟨s.toArray⟩ : ByteArray).extract a b) = txt ((s.drop a).take (b - a)) := by
  rw [Lib.extract_eq]
/-- The call answers what stands ahead of the first slash, what stands behind it, and whether there is one. -/
def Halves (s : List UInt8) (w : World) (e : Ending) (w' : World) : Prop := e = .returned (.tuple #[txt (headS s), txt (tailS s), .bool (hasS s)]) ∧ ∃ n, w' = w.drewN n

set_option maxRecDepth 100000 in
set_option maxHeartbeats 2000000 in
theorem cutSl_any (s : List UInt8) (w : World) (hs : s.length ≤ 1000000) : Calls Tryd.prog 48 #[txt s, .string ⟨#[47]⟩] w (Halves s w) := by
  have hI := Tryd.stringslite_Index_one ⟨s.toArray⟩ 47 w
  rw [show (⟨s.toArray⟩ : ByteArray).data.toList = s from rfl, index_head] at hI
  have HI := Lib.hid hI
  clear hI
  obtain ⟨n, hn⟩ : ∃ n, s.length = n := ⟨_, rfl⟩
  have hsz : (⟨s.toArray⟩ : ByteArray).size = n := hn
  go_enter Tryd.func48, Tryd.ntmps48
  cases hb : hasS s
  · have HF : Hid (headS s = s ∧ tailS s = []) := hasS_not s hb
    rw [hb] at HI
    clear hn
    go_wp2_with fail
    refine HI.out.mono ?_
    rintro e w' ⟨rfl, rfl⟩
    simp only [Bool.false_eq_true, if_false]
    go_wp2
    go_ret3
    refine ⟨?_, 0, rfl⟩
    rw [HF.out.1, HF.out.2, hb]
    rfl
  · have hl := hasS_len s hb
    have ht := Lib.hid (headS_take s hb)
    have hd := Lib.hid (tailS_drop s hb)
    have HB := Lib.hid hb
    rw [hb] at HI
    obtain ⟨i, hi⟩ : ∃ i, (headS s).length = i := ⟨_, rfl⟩
    rw [hi] at HI hl ht hd
    rw [hn] at hl hs
    clear hb hi hn
    go_wp2_with fail
    refine HI.out.mono ?_
    rintro e w' ⟨rfl, rfl⟩
    simp only [if_true]
    have c1 : (0 : Int) ≤ (i : Int) := by omega
    have c2 : (i : Int) ≤ (n : Int) := by omega
    have c3 : (0 : Int) ≤ (i : Int) + 1 := by omega
    have c4 : (i : Int) + 1 ≤ (n : Int) := by omega
    have c5 : IntKind.i64.wrap ((i : Int) + 1) = (i : Int) + 1 := by rw [IntKind.wrap_i64]; omega
    clear HI
    go_wp2
    go_region
    go_wp2
    go_ret3
    refine ⟨?_, 1, rfl⟩
    show Ending.returned (.tuple #[Value.string ((⟨s.toArray⟩ : ByteArray).extract 0 i), Value.string ((⟨s.toArray⟩ : ByteArray).extract (i + 1) n), .bool true]) = _
    rw [txt_extract, txt_extract, HB.out, List.drop_zero, Nat.sub_zero, ht.out, hd.out, List.take_of_length_le (by omega)]

set_option maxHeartbeats 1000000 in
theorem cutStr_any (s : List UInt8) (w : World) (hs : s.length ≤ 1000000) : Calls Tryd.prog 42 #[txt s, .string ⟨#[47]⟩] w fun e w' => e = .returned (.tuple #[txt (headS s), txt (tailS s), .bool (hasS s)]) ∧ Below w.heap.size w w' := by
  have H := Lib.hid (cutSl_any s w hs)
  clear hs
  go_enter Tryd.func42, Tryd.ntmps42
  go_wp2_with fail
  refine H.out.mono ?_
  rintro e w' ⟨rfl, n, rfl⟩
  go_wp2
  go_ret3
  exact ⟨rfl, Below.drewN' (Below.refl _ _)⟩
end Go.Proofs.YtpadjcmcpkegpaaDoor
