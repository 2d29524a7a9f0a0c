/-
  The program's paths: under, Parent, Join.
-/
import Derived.Test.YtpadjcmcpkegpaaDoorQ3
namespace Go.Proofs.YtpadjcmcpkegpaaDoor
open Go.RowKit

theorem one_add (p : List UInt8) : (⟨p.toArray⟩ : ByteArray) ++ ⟨#[47]⟩ = ⟨(p ++ [47]).toArray⟩ := by
  apply ByteArray.ext
  simp [ByteArray.data_append]
theorem txt_add (p q : List UInt8) : (⟨p.toArray⟩ : ByteArray) ++ ⟨q.toArray⟩ = ⟨(p ++ q).toArray⟩ := by
  apply ByteArray.ext
  simp [ByteArray.data_append]

set_option maxRecDepth 100000 in
set_option maxHeartbeats 2000000 in
theorem under_any (p : List UInt8) (w : World) (hp : p.length ≤ 1000000) : Calls Tryd.prog 32 #[txt p] w fun e w' => e = .returned (txt (undL p)) ∧ w' = w := by
  go_enter Tryd.func32, Tryd.ntmps32
  by_cases hr : p = [47]
  · subst hr
    go_wp2
    go_ret
    exact ⟨rfl, rfl⟩
  · have hr2 := txt_ne p [47] hr
    have b1 : ¬ 9223372036854775807 < p.length + 1 := by omega
    have HU : Hid (undL p = p ++ [47]) := by
      show _ = _
      unfold undL
      rw [if_neg hr]
    clear hr hp
    go_wp2
    go_ret
    exact ⟨by rw [HU.out]; exact congrArg (fun b => Ending.returned (Value.string b)) (one_add p), rfl⟩

set_option maxRecDepth 100000 in
set_option maxHeartbeats 2000000 in
theorem pxParent_any (s : List UInt8) (w : World) : Calls Tryd.prog 11 #[txt s] w (Says (parentS s) (parentE s) w) := by
  go_enter Tryd.func11, Tryd.ntmps11
  go_wp2_with fail
  refine (pxRight_any s w).mono ?_
  rintro e w1 ⟨rfl, hb⟩
  have hs1 := hb.size
  have HB := Lib.hid hb
  clear hb
  cases hR : rightB s
  · have HP := Lib.hid (parent_not s hR)
    clear hR
    go_wp2
    go_ret2
    rw [HP.out.1, HP.out.2]
    exact ⟨rfl, HB.out⟩
  · by_cases hr : s = [47]
    · have HP := Lib.hid (parent_root s hR ((cut_root s (right_slash s hR)).2 hr))
      subst hr
      clear hR
      go_wp2
      go_ret2
      rw [HP.out.1, HP.out.2]
      exact ⟨rfl, HB.out⟩
    · have hr2 := txt_ne s [47] hr
      obtain ⟨m, hm, h1, h2, h3, h4⟩ := last_slash s hR hr
      have hl := (rightB_len s hR).1
      have HI := Tryd.strings_LastIndex_one ⟨s.toArray⟩ ⟨#[47]⟩ rfl (by show s.length < _; omega) w1
      have e1 : Lib.lastIndexByte ⟨s.toArray⟩ (((⟨#[47]⟩ : ByteArray)[0]'(by decide)).toNat : Int) = (m : Int) := last_of s m hm h1 h2
      rw [e1] at HI
      have HI2 := Lib.hid HI
      have H3 := Lib.hid h3
      have H4 := Lib.hid h4
      obtain ⟨n, hn⟩ : ∃ n, s.length = n := ⟨_, rfl⟩
      have hsz : (⟨s.toArray⟩ : ByteArray).size = n := hn
      rw [hn] at hm hl
      have zi : (m : Int) ≤ (n : Int) := by omega
      clear hR hr HI e1 h1 h2 h3 h4 hn
      go_wp2_with fail
      refine HI2.out.mono ?_
      rintro e w' ⟨rfl, rfl⟩
      by_cases h0 : m = 0
      · subst h0
        clear HI2
        go_wp2
        go_ret2
        rw [H3.out, H4.out]
        exact ⟨rfl, HB.out⟩
      · have hz : ((m : Int) == 0) = false := by simpa using h0
        clear HI2
        go_wp2
        go_ret2
        rw [H3.out, H4.out, if_neg h0]
        refine ⟨?_, HB.out⟩
        show Ending.returned (.tuple #[Value.string ((⟨s.toArray⟩ : ByteArray).extract 0 m), _]) = _
        rw [txt_extract]
        rfl

set_option maxRecDepth 100000 in
set_option maxHeartbeats 2000000 in
theorem pxJoin_any (s nm : List UInt8) (w : World) (hn : nm.length ≤ 1000000) : Calls Tryd.prog 18 #[txt s, txt nm] w (Says (joinS s nm) (joinE s nm) w) := by
  have HNM := Lib.hid hn
  clear hn
  go_enter Tryd.func18, Tryd.ntmps18
  go_wp2_with fail
  refine (pxRight_any s w).mono ?_
  rintro e w1 ⟨rfl, hb⟩
  have hs1 := hb.size
  have HB := Lib.hid hb
  clear hb
  cases hR : rightB s
  · have HP := Lib.hid (join_not s nm (by simp [joinOk, hR]))
    clear hR
    go_wp2
    go_ret2
    rw [HP.out.1, HP.out.2]
    exact ⟨rfl, HB.out⟩
  · have HU := Lib.hid (joinP_und s nm hR)
    have HL : Hid (s.length ≤ 1000000) := by
      show _ ≤ _
      have := (rightB_len s hR).1
      omega
    have HR := Lib.hid hR
    clear hR
    go_wp2_with fail
    refine (pxName_w nm w1 HNM.out).mono ?_
    rintro e w' ⟨rfl, rfl⟩
    cases hN : nameB nm
    · have HP := Lib.hid (join_not s nm (by simp [joinOk, hN]))
      clear hN
      go_wp2
      go_ret2
      rw [HP.out.1, HP.out.2]
      exact ⟨rfl, HB.out⟩
    · have HN := Lib.hid hN
      have hul := undL_len s
      have hnl := HNM.out
      have hsl := HL.out
      have HUL := Lib.hid hul
      clear hN hul
      go_wp2_with fail
      refine (under_any s w' HL.out).mono ?_
      rintro e w2 ⟨rfl, rfl⟩
      obtain ⟨u, hu⟩ : ∃ u, undL s = u := ⟨_, rfl⟩
      rw [hu] at HU HUL ⊢
      have hul := HUL.out
      have b1 : ¬ 9223372036854775807 < u.length + nm.length := by omega
      have HX : Hid (Calls Tryd.prog 15 #[.string ((⟨u.toArray⟩ : ByteArray) ++ ⟨nm.toArray⟩)] w2 (One (.bool (rightB (joinP s nm))) w2)) := by
        show Calls _ _ _ _ _
        rw [txt_add, HU.out]
        exact pxRight_any (u ++ nm) w2
      clear hu hul hnl hsl
      go_wp2_with fail
      refine HX.out.mono ?_
      rintro e w3 ⟨rfl, hb3⟩
      have HB3 := Lib.hid (HB.out.trans (hb3.mono hs1))
      clear hb3 HX
      cases hJ : rightB (joinP s nm)
      · have HP := Lib.hid (join_not s nm (by simp [joinOk, hJ]))
        clear hJ
        go_wp2
        go_ret2
        rw [HP.out.1, HP.out.2]
        exact ⟨rfl, HB3.out⟩
      · have HP := Lib.hid (join_yes s nm (by simp [joinOk, hJ, HR.out, HN.out]))
        clear hJ
        go_wp2
        go_ret2
        rw [HP.out.1, HP.out.2, HU.out]
        refine ⟨?_, HB3.out⟩
        show Ending.returned (.tuple #[Value.string ((⟨u.toArray⟩ : ByteArray) ++ ⟨nm.toArray⟩), _]) = _
        rw [txt_add]
        rfl
end Go.Proofs.YtpadjcmcpkegpaaDoor
