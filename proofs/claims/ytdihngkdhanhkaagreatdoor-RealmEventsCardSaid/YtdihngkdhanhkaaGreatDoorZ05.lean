/-
  Texts Q1 Q2 Q3 Q4 Q6 YL YO YP.
-/
import Derived.Lib.IndexBytes
import Derived.Test.YtdihngkdhanhkaaGreatDoorZ04
namespace Go.Proofs.YtdihngkdhanhkaaGreatDoor
open Go.RowKit

set_option maxRecDepth 100000 in
set_option maxHeartbeats 2000000 in
theorem pxChr_any (c : UInt8) (w : World) : Calls Tryz.prog 177 #[.int .u8 (c.toNat : Int)] w fun e w' => e = .returned (.bool (chrB c)) ∧ w' = w := by
  have hC : c.toNat < 256 := c.toNat_lt
  have HL : Hid (chrB c = (decide (97 ≤ c.toNat) && decide (c.toNat ≤ 122) || decide (48 ≤ c.toNat) && decide (c.toNat ≤ 57) || decide (c.toNat = 45) || decide (c.toNat = 95))) := by
    show _ = _
    unfold chrB
    simp
  obtain ⟨C, hCE⟩ : ∃ C, c.toNat = C := ⟨_, rfl⟩
  rw [hCE] at hC HL ⊢
  clear hCE
  go_enter Tryz.func177, Tryz.ntmps177
  by_cases h1 : 97 ≤ (C : Int) <;> by_cases h2 : (C : Int) ≤ 122 <;> by_cases h3 : 48 ≤ (C : Int) <;> by_cases h4 : (C : Int) ≤ 57 <;> by_cases h5 : (C : Int) = 45 <;> by_cases h6 : (C : Int) = 95 <;> first | (exfalso; omega) | skip
  all_goals first
    | (have HB : Hid (chrB c = true) := by
        show _ = _
        rw [HL.out]
        simp only [Bool.or_eq_true, Bool.and_eq_true, decide_eq_true_eq]
        omega
       clear HL
       go_wp2
       go_ret
       exact ⟨by rw [HB.out]; rfl, rfl⟩)
    | (have HB : Hid (chrB c = false) := by
        show _ = _
        rw [HL.out, Bool.eq_false_iff]
        intro hh
        simp only [Bool.or_eq_true, Bool.and_eq_true, decide_eq_true_eq] at hh
        omega
       have b5 : ((C : Int) == 45) = false := by simpa using h5
       have b6 : ((C : Int) == 95) = false := by simpa using h6
       clear HL
       go_wp2
       go_ret
       exact ⟨by rw [HB.out]; rfl, rfl⟩)

set_option maxRecDepth 100000 in
set_option maxHeartbeats 2000000 in
theorem pxName_w (s : List UInt8) (w : World) (hs : s.length ≤ 1000000) : Calls Tryz.prog 154 #[txt s] w fun e w' => e = .returned (.bool (nameB s)) ∧ w' = w := by
  obtain ⟨n, hn⟩ : ∃ n, s.length = n := ⟨_, rfl⟩
  have hsz : (⟨s.toArray⟩ : ByteArray).size = n := hn
  have HN := Lib.hid hn
  rw [hn] at hs
  have HX : Hid (∀ b, s.all chrB = b → nameB s = (b && (decide (1 ≤ n) && decide (n ≤ 30)))) := by
    intro b hb
    rw [nameB_of s b hb, hn]
  clear hn
  go_enter Tryz.func154, Tryz.ntmps154
  by_cases h1 : (n : Int) < 1
  · have HF : Hid (nameB s = false) := by
      show _ = _
      rw [HX.out _ rfl]
      have : decide (1 ≤ n) = false := by simp; omega
      simp [this]
    go_wp2
    go_ret
    exact ⟨by rw [HF.out]; rfl, rfl⟩
  by_cases h2 : 30 < (n : Int)
  · have HF : Hid (nameB s = false) := by
      show _ = _
      rw [HX.out _ rfl]
      have : decide (n ≤ 30) = false := by simp; omega
      simp [this]
    go_wp2
    go_ret
    exact ⟨by rw [HF.out]; rfl, rfl⟩
  go_wp2
  go_loop [14] (fun x => ∃ i : Nat, i ≤ n ∧ x = .int .i64 (i : Int) ∧ Hid ((s.take i).all chrB = true)) (fun x => n - (intOf x).toNat)
  case atStart => exact ⟨0, by omega, rfl, by simp [Hid]⟩
  case round =>
    obtain ⟨i, hi, rfl, HA⟩ := hrel
    by_cases hi2 : i < n
    · have zi : (i : Int) < (n : Int) := by omega
      have hil : i < s.length := by rw [HN.out]; exact hi2
      have hix := run_index_txt s i hil
      have HT : Hid (s.take (i + 1) = s.take i ++ [s.getD i 0]) := by
        show _ = _
        rw [List.take_add_one]
        have e : s[i]? = some (s.getD i 0) := by
          rw [List.getD_eq_getElem?_getD, List.getElem?_eq_getElem hil]
          rfl
        rw [e]; rfl
      have HM : Hid (s.getD i 0 ∈ s) := by
        show _ ∈ _
        rw [List.getD_eq_getElem?_getD, List.getElem?_eq_getElem hil]
        exact List.getElem_mem _
      obtain ⟨c, hc⟩ : ∃ c, s.getD i 0 = c := ⟨_, rfl⟩
      rw [hc] at hix HT HM
      clear hc hil
      go_wp2_with fail
      refine (pxChr_any c w).mono ?_
      rintro e w1 ⟨rfl, rfl⟩
      cases hb : chrB c
      · have HF : Hid (s.all chrB = false) := by
          show _ = _
          rw [List.all_eq_false]
          exact ⟨c, HM.out, by rw [hb]; simp⟩
        go_wp2
        go_ret
        exact ⟨by rw [HX.out _ HF.out]; rfl, rfl⟩
      · go_wp2
        go_round
        case rel =>
          refine ⟨i + 1, by omega, by go_num, ?_⟩
          show _ = _
          rw [HT.out, List.all_append, HA.out]
          simp [hb]
        case measure => simp [intOf]; omega
    · have hE : i = n := by omega
      subst hE
      have HF : Hid (s.all chrB = true) := by
        show _ = _
        have h := HA.out
        rw [List.take_of_length_le (by rw [HN.out]; exact Nat.le_refl _)] at h
        exact h
      have HG : Hid (nameB s = true) := by
        show _ = _
        rw [HX.out _ HF.out]
        simp
        omega
      go_wp2
      go_ret
      exact ⟨by rw [HG.out]; rfl, rfl⟩
theorem txt_extract (s : List UInt8) (a b : Nat) : Value.string ((⟨s.toArray⟩ : ByteArray).extract a b) = txt ((s.drop a).take (b - a)) := by
  rw [Lib.extract_eq]
/-- The call answers what stands ahead of the first slash, what stands behind it, and whether there is one. -/
def Halves (s : List UInt8) (w : World) (e : Ending) (w' : World) : Prop := e = .returned (.tuple #[txt (headS s), txt (tailS s), .bool (hasS s)]) ∧ ∃ n, w' = w.drewN n

set_option maxRecDepth 100000 in
set_option maxHeartbeats 2000000 in
theorem cutSl_any (s : List UInt8) (w : World) (hs : s.length ≤ 1000000) : Calls Tryz.prog 176 #[txt s, .string ⟨#[47]⟩] w (Halves s w) := by
  have hI := Tryz.stringslite_Index_one ⟨s.toArray⟩ 47 w
  rw [show (⟨s.toArray⟩ : ByteArray).data.toList = s from rfl, index_head] at hI
  have HI := Lib.hid hI
  clear hI
  obtain ⟨n, hn⟩ : ∃ n, s.length = n := ⟨_, rfl⟩
  have hsz : (⟨s.toArray⟩ : ByteArray).size = n := hn
  go_enter Tryz.func176, Tryz.ntmps176
  cases hb : hasS s
  · have HF : Hid (headS s = s ∧ tailS s = []) := hasS_not s hb
    rw [hb] at HI
    clear hn
    go_wp2_with fail
    refine HI.out.mono ?_
    rintro e w' ⟨rfl, rfl⟩
    simp only [Bool.false_eq_true, if_false]
    go_wp2
    go_ret3
    refine ⟨?_, 0, rfl⟩
    rw [HF.out.1, HF.out.2, hb]
    rfl
  · have hl := hasS_len s hb
    have ht := Lib.hid (headS_take s hb)
    have hd := Lib.hid (tailS_drop s hb)
    have HB := Lib.hid hb
    rw [hb] at HI
    obtain ⟨i, hi⟩ : ∃ i, (headS s).length = i := ⟨_, rfl⟩
    rw [hi] at HI hl ht hd
    rw [hn] at hl hs
    clear hb hi hn
    go_wp2_with fail
    refine HI.out.mono ?_
    rintro e w' ⟨rfl, rfl⟩
    simp only [if_true]
    have c1 : (0 : Int) ≤ (i : Int) := by omega
    have c2 : (i : Int) ≤ (n : Int) := by omega
    have c3 : (0 : Int) ≤ (i : Int) + 1 := by omega
    have c4 : (i : Int) + 1 ≤ (n : Int) := by omega
    have c5 : IntKind.i64.wrap ((i : Int) + 1) = (i : Int) + 1 := by rw [IntKind.wrap_i64]; omega
    clear HI
    go_wp2
    go_region
    go_wp2
    go_ret3
    refine ⟨?_, 1, rfl⟩
    show Ending.returned (.tuple #[Value.string ((⟨s.toArray⟩ : ByteArray).extract 0 i), Value.string ((⟨s.toArray⟩ : ByteArray).extract (i + 1) n), .bool true]) = _
    rw [txt_extract, txt_extract, HB.out, List.drop_zero, Nat.sub_zero, ht.out, hd.out, List.take_of_length_le (by omega)]

set_option maxHeartbeats 1000000 in
theorem cutStr_any (s : List UInt8) (w : World) (hs : s.length ≤ 1000000) : Calls Tryz.prog 153 #[txt s, .string ⟨#[47]⟩] w fun e w' => e = .returned (.tuple #[txt (headS s), txt (tailS s), .bool (hasS s)]) ∧ Below w.heap.size w w' := by
  have H := Lib.hid (cutSl_any s w hs)
  clear hs
  go_enter Tryz.func153, Tryz.ntmps153
  go_wp2_with fail
  refine H.out.mono ?_
  rintro e w' ⟨rfl, n, rfl⟩
  go_wp2
  go_ret3
  exact ⟨rfl, Below.drewN' (Below.refl _ _)⟩
end Go.Proofs.YtdihngkdhanhkaaGreatDoor
namespace Go.Proofs.YtdihngkdhanhkaaGreatDoor
open Go.RowKit

def lenV : Value → Nat
  | .string b => b.size
  | _ => 0
theorem lenV_txt (t : List UInt8) : lenV (txt t) = t.length := rfl

set_option maxRecDepth 100000 in
set_option maxHeartbeats 2000000 in
theorem allNames_any (s : List UInt8) (w : World) (hs : s.length ≤ 1000000) : Calls Tryz.prog 126 #[txt s] w (One (.bool ((splitL [] s).all nameB)) w) := by
  have HS := Lib.hid hs
  obtain ⟨b, hb⟩ : ∃ b, (splitL [] s).all nameB = b := ⟨_, rfl⟩
  have HB := Lib.hid hb
  rw [hb]
  clear hb hs
  go_enter Tryz.func126, Tryz.ntmps126
  go_wp2
  go_loopw [0] (fun v wr => ∃ t : List UInt8, v = txt t ∧ Hid (t.length ≤ 1000000) ∧ Hid ((splitL [] t).all nameB = b) ∧ Hid (Below w.heap.size w wr)) (fun v _ => lenV v)
  case atStart => exact ⟨s, rfl, HS, HB, Below.refl _ _⟩
  case round =>
    obtain ⟨t, rfl, HT, HA, HW⟩ := hrel
    have hwr := HW.out.size
    have HL := Lib.hid (lenV_txt t)
    go_wp2_with fail
    refine (cutStr_any t wr HT.out).mono ?_
    rintro e w1 ⟨rfl, hb1⟩
    have HB1 := Lib.hid (HW.out.trans (hb1.mono hwr))
    clear hb1
    have HH := Lib.hid (Nat.le_trans (headS_le t) HT.out)
    cases hm : hasS t
    · have HQ := Lib.hid (hasS_not t hm)
      have HX := Lib.hid (split_not t hm)
      have HE : Hid (nameB (headS t) = b) := by
        show _ = _
        rw [← HA.out, HX.out, HQ.out.1]; simp
      clear hm
      go_wp2_with fail
      refine (pxName_w (headS t) w1 HH.out).mono ?_
      rintro e w2 ⟨rfl, rfl⟩
      cases hb : nameB (headS t)
      · rw [hb] at HE
        go_wp2
        go_ret
        exact ⟨by rw [← HE.out]; rfl, HB1.out⟩
      · rw [hb] at HE
        go_wp2
        go_ret
        exact ⟨by rw [← HE.out]; rfl, HB1.out⟩
    · have HQ := Lib.hid (hasS_len t hm)
      have HX := Lib.hid (split_yes t hm)
      have HE : Hid ((nameB (headS t) && (splitL [] (tailS t)).all nameB) = b) := by
        show _ = _
        rw [← HA.out, HX.out]; simp
      clear hm
      go_wp2_with fail
      refine (pxName_w (headS t) w1 HH.out).mono ?_
      rintro e w2 ⟨rfl, rfl⟩
      cases hb : nameB (headS t)
      · rw [hb] at HE
        go_wp2
        go_ret
        exact ⟨by rw [← HE.out]; rfl, HB1.out⟩
      · rw [hb] at HE
        have HE2 : Hid ((splitL [] (tailS t)).all nameB = b) := by
          show _ = _
          have := HE.out
          simpa using this
        have HT2 : Hid ((tailS t).length ≤ 1000000) := by
          show _ ≤ _
          have := HQ.out
          have := HT.out
          omega
        go_wp2
        go_roundw
        case rel => exact ⟨tailS t, rfl, HT2, HE2, HB1⟩
        case measure =>
          show lenV (txt (tailS t)) < lenV (txt t)
          rw [lenV_txt, lenV_txt]
          have := HQ.out
          omega

set_option maxRecDepth 100000 in
set_option maxHeartbeats 2000000 in
theorem pxRight_any (s : List UInt8) (w : World) : Calls Tryz.prog 100 #[txt s] w (One (.bool (rightB s)) w) := by
  obtain ⟨n, hn⟩ : ∃ n, s.length = n := ⟨_, rfl⟩
  have hsz : (⟨s.toArray⟩ : ByteArray).size = n := hn
  have HN := Lib.hid hn
  clear hn
  go_enter Tryz.func100, Tryz.ntmps100
  by_cases hr : s = [47]
  · subst hr
    go_wp2
    go_ret
    exact ⟨by rw [right_root]; rfl, Below.refl _ _⟩
  have hr2 : (s == [47]) = false := txt_ne s [47] hr
  by_cases h100 : 100 < (n : Int)
  · have HF := Lib.hid (rightB_long s (by rw [HN.out]; omega))
    clear hr
    go_wp2
    go_ret
    exact ⟨by rw [HF.out]; rfl, Below.refl _ _⟩
  · have hC := Tryz.strings_Count_one ⟨s.toArray⟩ 47 w
    rw [show (⟨s.toArray⟩ : ByteArray).data.toList = s from rfl] at hC
    unfold Lib.countByte at hC
    have HM := Lib.hid (right_many s)
    have hP := Tryz.strings_CutPrefix ⟨s.toArray⟩ ⟨#[47]⟩ w
    rw [show (⟨s.toArray⟩ : ByteArray).data.toList = s from rfl, show (⟨#[47]⟩ : ByteArray).data.toList = [47] from rfl, slash_prefix] at hP
    have HP := Lib.hid hP
    have HT := Lib.hid (slash_trim s)
    have HR : Hid (s.count 47 ≤ 8 → ∀ r, s = 47 :: r → rightB s = (splitL [] r).all nameB) := by
      intro hc r hrr
      rw [hrr] at hr hc ⊢
      refine right_rest r (fun h => hr (by rw [h])) ?_ hc
      rw [← hrr, HN.out]
      omega
    obtain ⟨k, hk⟩ : ∃ k, s.count 47 = k := ⟨_, rfl⟩
    rw [hk] at hC HM HR
    have HC := Lib.hid hC
    clear hC hP hr hk
    by_cases h8 : 8 < (k : Int)
    · have HF := Lib.hid (HM.out (by omega))
      clear HM HR HT HP
      go_wp2_with fail
      refine HC.out.mono ?_
      rintro e w' ⟨rfl, rfl⟩
      go_wp2
      go_ret
      exact ⟨by rw [HF.out]; rfl, Below.refl _ _⟩
    · have HR2 := Lib.hid (HR.out (by omega))
      clear HM HR
      go_wp2_with fail
      refine HC.out.mono ?_
      rintro e w' ⟨rfl, rfl⟩
      clear HC
      go_wp2_with fail
      refine HP.out.mono ?_
      rintro e w' ⟨rfl, rfl⟩
      clear HP
      cases hb : slashB s
      · have HF := Lib.hid (right_start s hb)
        clear hb
        go_wp2
        go_ret
        exact ⟨by rw [HF.out]; rfl, Below.refl _ _⟩
      · have HE := Lib.hid (HT.out hb)
        obtain ⟨r, hrr⟩ : ∃ r, Lib.trimPrefix s [47] = r := ⟨_, rfl⟩
        rw [hrr] at HE ⊢
        have HF := Lib.hid (HR2.out r HE.out)
        have HL : Hid (r.length ≤ 1000000) := by
          show _ ≤ _
          have h := congrArg List.length HE.out
          rw [HN.out] at h
          simp at h
          omega
        clear hb hrr HR2 HT HE
        go_wp2_with fail
        refine (allNames_any r w' HL.out).mono ?_
        rintro e w1 ⟨rfl, hb1⟩
        have HB := Lib.hid hb1
        clear hb1
        go_wp2
        go_ret
        exact ⟨by rw [HF.out]; rfl, HB.out⟩
end Go.Proofs.YtdihngkdhanhkaaGreatDoor
namespace Go.Proofs.YtdihngkdhanhkaaGreatDoor
open Go.RowKit

theorem count_head : ∀ s : List UInt8, s.count 47 = if hasS s = true then 1 + (tailS s).count 47 else 0
  | [] => rfl
  | c :: r => by
    unfold hasS tailS
    by_cases hc : c = 47
    · subst hc
      rw [List.count_cons_self, if_pos rfl, if_pos rfl, if_pos rfl]; omega
    · rw [List.count_cons_of_ne (by simpa using hc), if_neg hc, if_neg hc, count_head r]
theorem indexB_head (s : List UInt8) : Lib.indexB ⟨s.toArray⟩ ⟨#[47]⟩ = if hasS s = true then ((headS s).length : Int) else -1 := by
  show Lib.index s [47] = _
  rw [Lib.index_one, index_head]
theorem splitB_bas : ∀ (k : Nat) (s : List UInt8), s.count 47 = k → Lib.splitB ⟨#[47]⟩ 0 k ⟨s.toArray⟩ = bas (splitL [] s)
  | 0, s, h => by
    have hb : hasS s = false := by
      rw [count_head] at h
      cases hb : hasS s
      · rfl
      · rw [hb] at h; simp at h
    rw [split_not s hb]
    rfl
  | k + 1, s, h => by
    have hb : hasS s = true := by
      rw [count_head] at h
      cases hb : hasS s
      · rw [hb] at h; simp at h
      · rfl
    have hk : (tailS s).count 47 = k := by
      rw [count_head, hb] at h; simp at h; omega
    have hix : Lib.indexB ⟨s.toArray⟩ ⟨#[47]⟩ = ((headS s).length : Int) := by rw [indexB_head, hb]; rfl
    have hl := hasS_len s hb
    rw [Lib.splitB_hit _ _ _ _ _ hix, split_yes s hb]
    have e1 : (⟨s.toArray⟩ : ByteArray).extract 0 ((headS s).length + 0) = ⟨(headS s).toArray⟩ := by
      rw [Lib.extract_eq]
      simp [headS_take s hb]
    have e2 : (⟨s.toArray⟩ : ByteArray).extract ((headS s).length + (⟨#[47]⟩ : ByteArray).size) (⟨s.toArray⟩ : ByteArray).size = ⟨(tailS s).toArray⟩ := by
      rw [Lib.extract_eq]
      show (⟨((s.drop ((headS s).length + 1)).take (s.length - ((headS s).length + 1))).toArray⟩ : ByteArray) = _
      rw [tailS_drop s hb, List.take_of_length_le (by omega)]
    rw [e1, e2, splitB_bas k (tailS s) hk]
    rfl

theorem infoSp : (Tryz.prog.info? 9).map (fun i => (i.zero, i.size, i.bytes)) = some (some (.string ByteArray.empty), 1, 16) := by kernel_rfl

/-- The call answers texts of its own. -/
def Rows (l : List (List UInt8)) (w : World) (e : Ending) (w' : World) : Prop := ∃ v, e = .returned v ∧ OwnS 9 w' w.heap.size v (bas l) ∧ Below w.heap.size w w'

theorem genSplit_any (s : List UInt8) (w : World) (hs : s.length ≤ 1000000) : Calls Tryz.prog 199 #[txt s, .string ⟨#[47]⟩, .int .i64 0, .int .i64 (-1)] w (Rows (splitL [] s) w) := by
  have hC := Tryz.strings_Count_one ⟨s.toArray⟩ 47 w
  have ec : Lib.countB ⟨s.toArray⟩ ⟨#[47]⟩ = s.count 47 := Lib.count_one 47 s
  have hN : (((s.count 47 + 1 : Nat)) : Int) = min (if (-1 : Int) < 0 then (Lib.countB ⟨s.toArray⟩ ⟨#[47]⟩ : Int) + 1 else -1) (((⟨s.toArray⟩ : ByteArray).size : Int) + 1) := by
    rw [ec, if_pos (by decide)]
    have h1 : s.count 47 ≤ s.length := List.count_le_length
    have h2 : (⟨s.toArray⟩ : ByteArray).size = s.length := rfl
    rw [h2]; omega
  have H := Any.strings_genSplit_core Tryz.lays221 infoSp ⟨s.toArray⟩ ⟨#[47]⟩ 0 (-1) (s.count 47 + 1) w (by show s.length < _; omega) (by decide) (by decide)
    (fun x c _ => by
      have h := Tryz.strings_Index_one x 47 (w.alloc (.cells c 9))
      have e : Lib.indexB x ⟨#[47]⟩ = Lib.indexByte x.data.toList 47 := Lib.index_one _ _
      rw [e]
      exact h)
    (by rw [ec]; exact hC) (by decide) (by decide) hN
  refine Calls.mono H ?_
  rintro e w' ⟨rfl, rfl⟩
  rw [Nat.add_sub_cancel, splitB_bas _ s rfl]
  have hl : (bas (splitL [] s)).length = s.count 47 + 1 := by rw [bas_length, split_count]
  rw [← hl, Lib.cellsOf_full]
  have hle : s.count 47 ≤ s.length := List.count_le_length
  refine ⟨_, rfl, ?_, (Below.refl _ _).alloc (Nat.le_refl _) _⟩
  have h := World.ownsRow_lit (base := w.heap.size) (e := 9) (size := 1) w ((bas (splitL [] s)).map Value.string).toArray (bas (splitL [] s)).length (Nat.le_refl _) (by rw [hl]; unfold maxLen; omega) (by simp)
  exact h

set_option maxHeartbeats 1000000 in
theorem split_any (s : List UInt8) (w : World) (hs : s.length ≤ 1000000) : Calls Tryz.prog 172 #[txt s, .string ⟨#[47]⟩] w (Rows (splitL [] s) w) := by
  have H := Lib.hid (genSplit_any s w hs)
  clear hs
  go_enter Tryz.func172, Tryz.ntmps172
  go_wp2_with fail
  refine H.out.mono ?_
  rintro e w1 ⟨v, rfl, ho, hb⟩
  have HO := Lib.hid ho
  have HB := Lib.hid hb
  clear ho hb H
  go_wp2
  go_ret
  exact ⟨_, rfl, HO.out, HB.out⟩

theorem right_tail (s : List UInt8) (h : rightB s = true) (h1 : s ≠ [47]) : ∃ r, s = 47 :: r ∧ cutL s = splitL [] r := by
  have hs := right_slash s h
  cases s with
  | nil => cases hs
  | cons c r =>
    have hc : c = 47 := by simpa [slashB] using hs
    subst hc
    refine ⟨r, rfl, ?_⟩
    rw [cutL, if_pos rfl, if_neg (fun e => h1 (by rw [e]))]

set_option maxRecDepth 100000 in
set_option maxHeartbeats 2000000 in
theorem pxNames_any (s : List UInt8) (w : World) : Calls Tryz.prog 145 #[txt s] w (Lists (namesL s) (namesE s) w) := by
  go_enter Tryz.func145, Tryz.ntmps145
  go_wp2_with fail
  refine (pxRight_any s w).mono ?_
  rintro e w1 ⟨rfl, hb⟩
  have hs1 := hb.size
  have HB := Lib.hid hb
  clear hb
  cases hR : rightB s
  · have HN := Lib.hid (names_not s hR)
    clear hR
    go_wp2
    go_ret2
    rw [HN.out.1, HN.out.2]
    exact ⟨_, rfl, OwnS.nil _ _ _, HB.out⟩
  · have HN := Lib.hid (names_yes s hR)
    by_cases hr : s = [47]
    · subst hr
      clear hR
      go_wp2
      go_ret2
      rw [HN.out.1, HN.out.2]
      exact ⟨_, rfl, OwnS.nil _ _ _, HB.out⟩
    · have hr2 := txt_ne s [47] hr
      have HQ := Lib.hid (rightB_len s hR).1
      obtain ⟨r, hsr, hc⟩ := right_tail s hR hr
      have HC := Lib.hid hc
      have HR : Hid (r.length ≤ 1000000) := by
        show _ ≤ _
        have h := HQ.out
        rw [hsr] at h
        simp at h
        omega
      have hz : (⟨s.toArray⟩ : ByteArray).size = r.length + 1 := by
        show s.length = _
        rw [hsr]; rfl
      have HX : Hid (Value.string ((⟨s.toArray⟩ : ByteArray).extract 1 (r.length + 1)) = txt r) := by
        show _ = _
        rw [txt_extract, hsr]
        simp
      have H1 : Hid (Calls Tryz.prog 172 #[Value.string ((⟨s.toArray⟩ : ByteArray).extract 1 (r.length + 1)), .string ⟨#[47]⟩] w1 (Rows (splitL [] r) w1)) := by
        show Calls _ _ _ _ _
        rw [HX.out]
        exact split_any r w1 HR.out
      clear hR hr hsr hc
      have c1 : (1 : Int) ≤ (r.length : Int) + 1 := by omega
      go_wp2_with fail
      refine H1.out.mono ?_
      rintro e w2 ⟨v, rfl, ho, hb⟩
      have HO := Lib.hid (ho.base hs1)
      have HB2 := Lib.hid (HB.out.trans (hb.mono hs1))
      clear ho hb H1
      go_wp2
      go_ret2
      rw [HN.out.1, HN.out.2, HC.out]
      exact ⟨_, rfl, HO.out, HB2.out⟩
end Go.Proofs.YtdihngkdhanhkaaGreatDoor
namespace Go.Proofs.YtdihngkdhanhkaaGreatDoor
open Go.RowKit

set_option maxRecDepth 100000 in
set_option maxHeartbeats 2000000 in
theorem pxParent_any (s : List UInt8) (w : World) : Calls Tryz.prog 103 #[txt s] w (Says (parentS s) (parentE s) w) := by
  go_enter Tryz.func103, Tryz.ntmps103
  go_wp2_with fail
  refine (pxRight_any s w).mono ?_
  rintro e w1 ⟨rfl, hb⟩
  have hs1 := hb.size
  have HB := Lib.hid hb
  clear hb
  cases hR : rightB s
  · have HP := Lib.hid (parent_not s hR)
    clear hR
    go_wp2
    go_ret2
    rw [HP.out.1, HP.out.2]
    exact ⟨rfl, HB.out⟩
  · by_cases hr : s = [47]
    · have HP := Lib.hid (parent_root s hR ((cut_root s (right_slash s hR)).2 hr))
      subst hr
      clear hR
      go_wp2
      go_ret2
      rw [HP.out.1, HP.out.2]
      exact ⟨rfl, HB.out⟩
    · have hr2 := txt_ne s [47] hr
      obtain ⟨m, hm, h1, h2, h3, h4⟩ := last_slash s hR hr
      have hl := (rightB_len s hR).1
      have HI := Tryz.strings_LastIndex_one ⟨s.toArray⟩ ⟨#[47]⟩ rfl (by show s.length < _; omega) w1
      have e1 : Lib.lastIndexByte ⟨s.toArray⟩ (((⟨#[47]⟩ : ByteArray)[0]'(by decide)).toNat : Int) = (m : Int) := last_of s m hm h1 h2
      rw [e1] at HI
      have HI2 := Lib.hid HI
      have H3 := Lib.hid h3
      have H4 := Lib.hid h4
      obtain ⟨n, hn⟩ : ∃ n, s.length = n := ⟨_, rfl⟩
      have hsz : (⟨s.toArray⟩ : ByteArray).size = n := hn
      rw [hn] at hm hl
      have zi : (m : Int) ≤ (n : Int) := by omega
      clear hR hr HI e1 h1 h2 h3 h4 hn
      go_wp2_with fail
      refine HI2.out.mono ?_
      rintro e w' ⟨rfl, rfl⟩
      by_cases h0 : m = 0
      · subst h0
        clear HI2
        go_wp2
        go_ret2
        rw [H3.out, H4.out]
        exact ⟨rfl, HB.out⟩
      · have hz : ((m : Int) == 0) = false := by simpa using h0
        clear HI2
        go_wp2
        go_ret2
        rw [H3.out, H4.out, if_neg h0]
        refine ⟨?_, HB.out⟩
        show Ending.returned (.tuple #[Value.string ((⟨s.toArray⟩ : ByteArray).extract 0 m), _]) = _
        rw [txt_extract]
        rfl

end Go.Proofs.YtdihngkdhanhkaaGreatDoor
namespace Go.Proofs.YtdihngkdhanhkaaGreatDoor
open Go.RowKit

/-- As cmp.Compare tells two texts. -/
def cmpB (x y : List UInt8) : Int := if lessB x y = true then -1 else if lessB y x = true then 1 else 0
theorem cmpB_same (x : List UInt8) : cmpB x x = 0 := by
  unfold cmpB
  rw [lessB_irrefl]; rfl
theorem cmpB_ne (x y : List UInt8) (h : x ≠ y) : (lessB x y = true ∧ cmpB x y = -1) ∨ (lessB x y = false ∧ lessB y x = true ∧ cmpB x y = 1) := by
  have h1 := lessB_or x y h
  unfold cmpB
  cases h2 : lessB x y
  · right
    rw [h2] at h1
    have h3 : lessB y x = true := by cases h4 : lessB y x <;> simp_all
    simp [h3]
  · left; simp

set_option maxRecDepth 100000 in
set_option maxHeartbeats 2000000 in
theorem cmp_any (x y : List UInt8) (w : World) : Calls Tryz.prog 173 #[txt x, txt y] w fun e w' => e = .returned (.int .i64 (cmpB x y)) ∧ w' = w := by
  go_enter Tryz.func173, Tryz.ntmps173
  have HL := Lib.hid (lessB_eq x y)
  go_wp2
  · rename_i h
    rw [← HL.out] at h
    have HC : Hid (cmpB x y = -1) := by
      show _ = _
      unfold cmpB
      rw [h]; rfl
    go_ret
    exact ⟨by rw [HC.out]; rfl, rfl⟩
  · rename_i h2 _ _ h
    rw [← HL.out] at h2
    have hne : x ≠ y := by simpa using h
    have HC : Hid (cmpB x y = 1) := by
      show _ = _
      rcases cmpB_ne x y hne with ⟨h3, _⟩ | ⟨_, _, h3⟩
      · rw [h2] at h3; cases h3
      · exact h3
    go_ret
    exact ⟨by rw [HC.out]; rfl, rfl⟩
  · rename_i h
    have he : x = y := by simpa using h
    have HC : Hid (cmpB x y = 0) := by
      show _ = _
      rw [he, cmpB_same]
    go_ret
    exact ⟨by rw [HC.out]; rfl, rfl⟩

set_option maxRecDepth 100000 in
set_option maxHeartbeats 2000000 in
theorem compare_any (a b : List (List UInt8)) (v1 v2 : Value) (w : World) (hr1 : RdS w.heap.size w v1 (bas a)) (hr2 : RdS w.heap.size w v2 (bas b)) :
    Calls Tryz.prog 146 #[v1, v2] w fun e w' => ∃ r : Int, e = .returned (.int .i64 r) ∧ decide (r < 0) = aheadL a b ∧ w' = w := by
  obtain ⟨A, cp, rfl, hc, hm⟩ := hr1.shape
  obtain ⟨A2, cp2, rfl, hc2, hm3⟩ := hr2.shape
  unfold maxLen at hm hm3
  rw [bas_length] at hc hr1 hc2 hr2 ⊢
  rw [bas_length]
  obtain ⟨m, hm2⟩ : ∃ m, a.length = m := ⟨_, rfl⟩
  obtain ⟨n, hn2⟩ : ∃ n, b.length = n := ⟨_, rfl⟩
  have HM := Lib.hid hm2
  have HNN := Lib.hid hn2
  rw [hm2] at hc hr1 ⊢
  rw [hn2] at hc2 hr2 ⊢
  have HR1 := Lib.hid hr1
  have HR2 := Lib.hid hr2
  clear hm2 hn2 hr1 hr2
  go_enter Tryz.func146, Tryz.ntmps146
  go_wp2
  go_loop [11] (fun vi => ∃ i : Nat, i ≤ m ∧ i ≤ n ∧ vi = .int .i64 (i : Int) ∧ Hid (∀ j, j < i → a.getD j [] = b.getD j [])) (fun vi => m - (intOf vi).toNat)
  case atStart => exact ⟨0, by omega, by omega, rfl, fun j hj => by omega⟩
  case round =>
    obtain ⟨i, hi, hin, rfl, HA⟩ := hrel
    by_cases hi2 : i < m
    · have zj : (i : Int) < (m : Int) := by omega
      obtain ⟨a1, hA1, ca⟩ := HR1.out.at_ i (by rw [bas_length, HM.out]; exact hi2)
      subst hA1
      obtain ⟨x, hx⟩ : ∃ x, a.getD i [] = x := ⟨_, rfl⟩
      rw [bas_at a i (by rw [HM.out]; exact hi2) x hx] at ca
      by_cases hi3 : i < n
      · have zk : (i : Int) < (n : Int) := by omega
        obtain ⟨a2, hA2, cb⟩ := HR2.out.at_ i (by rw [bas_length, HNN.out]; exact hi3)
        subst hA2
        obtain ⟨y, hy⟩ : ∃ y, b.getD i [] = y := ⟨_, rfl⟩
        rw [bas_at b i (by rw [HNN.out]; exact hi3) y hy] at cb
        have HX := Lib.hid hx
        have HY := Lib.hid hy
        clear hx hy
        go_wp2_with fail
        refine (cmp_any x y w).mono ?_
        rintro e w' ⟨rfl, rfl⟩
        by_cases hxy : x = y
        · have hc0 := cmpB_same y
          rw [hxy, hc0]
          have HA2 : Hid (∀ j, j < i + 1 → a.getD j [] = b.getD j []) := by
            intro j hj
            by_cases h : j < i
            · exact HA.out j h
            · have : j = i := by omega
              subst this
              rw [HX.out, HY.out, hxy]
          clear hxy hc0
          go_wp2
          go_round
          case rel => exact ⟨i + 1, by omega, by omega, by go_num, HA2⟩
          case measure => simp [intOf]; omega
        · have HL := Lib.hid (aheadL_diff a b i (by rw [HM.out]; exact hi2) (by rw [HNN.out]; exact hi3) HA.out (by rw [HX.out, HY.out]; exact hxy))
          rw [HX.out, HY.out] at HL
          rcases cmpB_ne x y hxy with ⟨h1, h2⟩ | ⟨h1, _, h2⟩
          · rw [h2]
            have H1 := Lib.hid h1
            clear hxy h1 h2
            go_wp2
            go_ret
            exact ⟨-1, rfl, by rw [HL.out, H1.out]; rfl, rfl⟩
          · rw [h2]
            have H1 := Lib.hid h1
            clear hxy h1 h2
            go_wp2
            go_ret
            exact ⟨1, rfl, by rw [HL.out, H1.out]; rfl, rfl⟩
      · have hE : i = n := by omega
        subst hE
        have HL := Lib.hid (aheadL_end a b (fun j h1 h2 => HA.out j (by rw [HNN.out] at h2; exact h2)))
        rw [HM.out, HNN.out] at HL
        have zk : ¬ ((i : Int) < (i : Int)) := by omega
        go_wp2
        go_ret
        refine ⟨1, rfl, ?_, rfl⟩
        rw [HL.out]
        simp
        omega
    · have hE : i = m := by omega
      subst hE
      have HL := Lib.hid (aheadL_end a b (fun j h1 h2 => HA.out j (by rw [HM.out] at h1; exact h1)))
      rw [HM.out, HNN.out] at HL
      by_cases hmn : i < n
      · have zk : (i : Int) < (n : Int) := by omega
        go_wp2
        go_ret
        refine ⟨-1, rfl, ?_, rfl⟩
        rw [HL.out]
        simp
        omega
      · have zk : ¬ ((i : Int) < (n : Int)) := by omega
        go_wp2
        go_ret
        refine ⟨0, rfl, ?_, rfl⟩
        rw [HL.out]
        simp
        omega

set_option maxRecDepth 100000 in
set_option maxHeartbeats 2000000 in
theorem pxAhead_any (p q : List UInt8) (w : World) : Calls Tryz.prog 122 #[txt p, txt q] w (One (.bool (aheadB p q)) w) := by
  go_enter Tryz.func122, Tryz.ntmps122
  go_wp2_with fail
  refine (pxNames_any p w).mono ?_
  rintro e w1 ⟨v, rfl, ho, hb⟩
  have hs1 := hb.size
  have HB := Lib.hid hb
  have HO := Lib.hid ho
  clear hb ho
  rcases namesE_or p with ⟨h1, h2, h3⟩ | ⟨h1, h2, h3⟩
  · rw [h3] at HO
    rw [h2]
    have HR := Lib.hid h1
    clear h1 h2 h3
    go_wp2_with fail
    refine (pxNames_any q w1).mono ?_
    rintro e w2 ⟨v2, rfl, ho, hb⟩
    have HB2 := Lib.hid (HB.out.trans (hb.mono hs1))
    have HO1 := Lib.hid (HO.out.below hb (Nat.le_refl _))
    have HO2 := Lib.hid ho
    clear hb ho HO
    rcases namesE_or q with ⟨h4, h5, h6⟩ | ⟨h4, h5, h6⟩
    · rw [h6] at HO2
      rw [h5]
      have HF := Lib.hid (aheadB_yes p q HR.out h4)
      have HC := Lib.hid (compare_any (cutL p) (cutL q) v v2 w2 HO1.out.rd HO2.out.rd)
      clear h4 h5 h6
      go_wp2_with fail
      refine HC.out.mono ?_
      rintro e w' ⟨r, rfl, hr, rfl⟩
      rw [← HF.out] at hr
      clear HC
      have HH := Lib.hid hr
      clear hr
      go_wp2
      go_ret
      exact ⟨by rw [← HH.out]; rfl, HB2.out⟩
    · rw [h5]
      have HF := Lib.hid (aheadB_not p q (by rw [h4]; simp))
      clear h4 h5 h6
      go_wp2
      go_ret
      exact ⟨by rw [HF.out]; rfl, HB2.out⟩
  · rw [h2]
    have HF := Lib.hid (aheadB_not p q (by rw [h1]; rfl))
    clear h1 h2 h3
    go_wp2
    go_ret
    exact ⟨by rw [HF.out]; rfl, HB.out⟩
end Go.Proofs.YtdihngkdhanhkaaGreatDoor
namespace Go.Proofs.YtdihngkdhanhkaaGreatDoor
open Go.RowKit

end Go.Proofs.YtdihngkdhanhkaaGreatDoor
namespace Go.Proofs.YtdihngkdhanhkaaGreatDoor
open Go.RowKit

theorem ahead_or (p q : List UInt8) (hp : rightB p = true) (hq : rightB q = true) (h : p ≠ q) : aheadB q p = !aheadB p q := by
  rw [aheadB_yes p q hp hq, aheadB_yes q p hq hp]
  exact aheadL_or _ _ (fun e => h (cut_inj p q (right_slash p hp) (right_slash q hq) e.symm))
end Go.Proofs.YtdihngkdhanhkaaGreatDoor
namespace Go.Proofs.YtdihngkdhanhkaaGreatDoor
open Go.RowKit

theorem nameB_parts (x : List UInt8) (h : nameB x = true) : x.all chrB = true ∧ x ≠ [] := by
  unfold nameB at h
  simp only [Bool.and_eq_true, decide_eq_true_eq] at h
  refine ⟨h.1.1, ?_⟩
  rintro rfl
  simp at h
theorem slash_made (l : List (List UInt8)) : slashB (madeL l) = true := by
  unfold madeL
  cases l with
  | nil => rfl
  | cons x l => rw [joinL_cons]; rfl
theorem made_len (l : List (List UInt8)) (h : (joinL l).length ≤ 100) : (madeL l).length ≤ 100 := by
  unfold madeL
  split
  · decide
  · exact h
theorem cut_made (l : List (List UInt8)) (h : l.all nameB = true) : cutL (madeL l) = l := by
  rw [List.all_eq_true] at h
  exact cutL_made l (fun y hy => (nameB_parts y (h y hy)).1) (fun y hy => (nameB_parts y (h y hy)).2)
theorem right_made (l : List (List UInt8)) (h : l.all nameB = true) (h8 : l.length ≤ 8) (h100 : (joinL l).length ≤ 100) : rightB (madeL l) = true := by
  unfold rightB
  rw [cut_made l h, h, slash_made]
  have h1 := made_len l h100
  simp [h1, h8]
theorem all_take (l : List (List UInt8)) (k : Nat) (h : l.all nameB = true) : (l.take k).all nameB = true := by
  rw [List.all_eq_true] at *
  exact fun x hx => h x (List.mem_of_mem_take hx)
end Go.Proofs.YtdihngkdhanhkaaGreatDoor
