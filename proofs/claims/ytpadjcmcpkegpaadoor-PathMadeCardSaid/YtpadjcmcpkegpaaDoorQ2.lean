/-
  The program's paths: Right, for every text.
-/
import Derived.Test.YtpadjcmcpkegpaaDoorQ1
namespace Go.Proofs.YtpadjcmcpkegpaaDoor
open Go.RowKit

def lenV : Value → Nat
  | .string b => b.size
  | _ => 0
theorem lenV_txt (t : List UInt8) : lenV (txt t) = t.length := rfl

set_option maxRecDepth 100000 in
set_option maxHeartbeats 2000000 in
theorem allNames_any (s : List UInt8) (w : World) (hs : s.length ≤ 1000000) : Calls Tryd.prog 31 #[txt s] w (One (.bool ((splitL [] s).all nameB)) w) := by
  have HS := Lib.hid hs
  obtain ⟨b, hb⟩ : ∃ b, (splitL [] s).all nameB = b := ⟨_, rfl⟩
  have HB := Lib.hid hb
  rw [hb]
  clear hb hs
  go_enter Tryd.func31, Tryd.ntmps31
  go_wp2
  go_loopw [0] (fun v wr => ∃ t : List UInt8, v = txt t ∧ Hid (t.length ≤ 1000000) ∧ Hid ((splitL [] t).all nameB = b) ∧ Hid (Below w.heap.size w wr)) (fun v _ => lenV v)
  case atStart => exact ⟨s, rfl, HS, HB, Below.refl _ _⟩
  case round =>
    obtain ⟨t, rfl, HT, HA, HW⟩ := hrel
    have hwr := HW.out.size
    have HL := Lib.hid (lenV_txt t)
    go_wp2_with fail
    refine (cutStr_any t wr HT.out).mono ?_
    rintro e w1 ⟨rfl, hb1⟩
    have HB1 := Lib.hid (HW.out.trans (hb1.mono hwr))
    clear hb1
    have HH := Lib.hid (Nat.le_trans (headS_le t) HT.out)
    cases hm : hasS t
    · have HQ := Lib.hid (hasS_not t hm)
      have HX := Lib.hid (split_not t hm)
      have HE : Hid (nameB (headS t) = b) := by
        show _ = _
        rw [← HA.out, HX.out, HQ.out.1]; simp
      clear hm
      go_wp2_with fail
      refine (pxName_w (headS t) w1 HH.out).mono ?_
      rintro e w2 ⟨rfl, rfl⟩
      cases hb : nameB (headS t)
      · rw [hb] at HE
        go_wp2
        go_ret
        exact ⟨by rw [← HE.out]; rfl, HB1.out⟩
      · rw [hb] at HE
        go_wp2
        go_ret
        exact ⟨by rw [← HE.out]; rfl, HB1.out⟩
    · have HQ := Lib.hid (hasS_len t hm)
      have HX := Lib.hid (split_yes t hm)
      have HE : Hid ((nameB (headS t) && (splitL [] (tailS t)).all nameB) = b) := by
        show _ = _
        rw [← HA.out, HX.out]; simp
      clear hm
      go_wp2_with fail
      refine (pxName_w (headS t) w1 HH.out).mono ?_
      rintro e w2 ⟨rfl, rfl⟩
      cases hb : nameB (headS t)
      · rw [hb] at HE
        go_wp2
        go_ret
        exact ⟨by rw [← HE.out]; rfl, HB1.out⟩
      · rw [hb] at HE
        have HE2 : Hid ((splitL [] (tailS t)).all nameB = b) := by
          show _ = _
          have := HE.out
          simpa using this
        have HT2 : Hid ((tailS t).length ≤ 1000000) := by
          show _ ≤ _
          have := HQ.out
          have := HT.out
          omega
        go_wp2
        go_roundw
        case rel => exact ⟨tailS t, rfl, HT2, HE2, HB1⟩
        case measure =>
          show lenV (txt (tailS t)) < lenV (txt t)
          rw [lenV_txt, lenV_txt]
          have := HQ.out
          omega

set_option maxRecDepth 100000 in
set_option maxHeartbeats 2000000 in
theorem pxRight_any (s : List UInt8) (w : World) : Calls Tryd.prog 15 #[txt s] w (One (.bool (rightB s)) w) := by
  obtain ⟨n, hn⟩ : ∃ n, s.length = n := ⟨_, rfl⟩
  have hsz : (⟨s.toArray⟩ : ByteArray).size = n := hn
  have HN := Lib.hid hn
  clear hn
  go_enter Tryd.func15, Tryd.ntmps15
  by_cases hr : s = [47]
  · subst hr
    go_wp2
    go_ret
    exact ⟨by rw [right_root]; rfl, Below.refl _ _⟩
  have hr2 : (s == [47]) = false := txt_ne s [47] hr
  by_cases h100 : 100 < (n : Int)
  · have HF := Lib.hid (rightB_long s (by rw [HN.out]; omega))
    clear hr
    go_wp2
    go_ret
    exact ⟨by rw [HF.out]; rfl, Below.refl _ _⟩
  · have hC := Tryd.strings_Count_one ⟨s.toArray⟩ 47 w
    rw [show (⟨s.toArray⟩ : ByteArray).data.toList = s from rfl] at hC
    unfold Lib.countByte at hC
    have HM := Lib.hid (right_many s)
    have hP := Tryd.strings_CutPrefix ⟨s.toArray⟩ ⟨#[47]⟩ w
    rw [show (⟨s.toArray⟩ : ByteArray).data.toList = s from rfl, show (⟨#[47]⟩ : ByteArray).data.toList = [47] from rfl, slash_prefix] at hP
    have HP := Lib.hid hP
    have HT := Lib.hid (slash_trim s)
    have HR : Hid (s.count 47 ≤ 8 → ∀ r, s = 47 :: r → rightB s = (splitL [] r).all nameB) := by
      intro hc r hrr
      rw [hrr] at hr hc ⊢
      refine right_rest r (fun h => hr (by rw [h])) ?_ hc
      rw [← hrr, HN.out]
      omega
    obtain ⟨k, hk⟩ : ∃ k, s.count 47 = k := ⟨_, rfl⟩
    rw [hk] at hC HM HR
    have HC := Lib.hid hC
    clear hC hP hr hk
    by_cases h8 : 8 < (k : Int)
    · have HF := Lib.hid (HM.out (by omega))
      clear HM HR HT HP
      go_wp2_with fail
      refine HC.out.mono ?_
      rintro e w' ⟨rfl, rfl⟩
      go_wp2
      go_ret
      exact ⟨by rw [HF.out]; rfl, Below.refl _ _⟩
    · have HR2 := Lib.hid (HR.out (by omega))
      clear HM HR
      go_wp2_with fail
      refine HC.out.mono ?_
      rintro e w' ⟨rfl, rfl⟩
      clear HC
      go_wp2_with fail
      refine HP.out.mono ?_
      rintro e w' ⟨rfl, rfl⟩
      clear HP
      cases hb : slashB s
      · have HF := Lib.hid (right_start s hb)
        clear hb
        go_wp2
        go_ret
        exact ⟨by rw [HF.out]; rfl, Below.refl _ _⟩
      · have HE := Lib.hid (HT.out hb)
        obtain ⟨r, hrr⟩ : ∃ r, Lib.trimPrefix s [47] = r := ⟨_, rfl⟩
        rw [hrr] at HE ⊢
        have HF := Lib.hid (HR2.out r HE.out)
        have HL : Hid (r.length ≤ 1000000) := by
          show _ ≤ _
          have h := congrArg List.length HE.out
          rw [HN.out] at h
          simp at h
          omega
        clear hb hrr HR2 HT HE
        go_wp2_with fail
        refine (allNames_any r w' HL.out).mono ?_
        rintro e w1 ⟨rfl, hb1⟩
        have HB := Lib.hid hb1
        clear hb1
        go_wp2
        go_ret
        exact ⟨by rw [HF.out]; rfl, HB.out⟩
end Go.Proofs.YtpadjcmcpkegpaaDoor
