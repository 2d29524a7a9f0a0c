/-
  The statements on paths: alive, PathTwo.
-/
import Derived.Test.YtpadjcmcpkegpaaDoorQ6
namespace Go.Proofs.YtpadjcmcpkegpaaDoor
open Go.RowKit

theorem live_ab : parentS [47, 97, 47, 98] = [47, 97] ∧ parentE [47, 97, 47, 98] = 0 := by decide +kernel
theorem live_root : parentS [47] = [] ∧ parentE [47] = 6 := by decide +kernel
theorem live_right : rightB [47] = true ∧ rightB [97] = false := by decide +kernel
theorem live_ahead : aheadB [47, 97, 47, 98] [47, 97, 45, 98] = true := by decide +kernel

set_option maxRecDepth 100000 in
set_option maxHeartbeats 2000000 in
theorem alive8 (w : World) : Calls Tryd.prog 8 #[] w (One (.bool true) w) := by
  go_enter Tryd.func8, Tryd.ntmps8
  go_wp2_with fail
  refine (pxParent_any [47, 97, 47, 98] w).mono ?_
  rintro e w1 ⟨rfl, hb⟩
  have hs1 := hb.size
  have HB1 := Lib.hid hb
  clear hb
  rw [live_ab.1, live_ab.2]
  go_wp2_with fail
  refine (pxParent_any [47] w1).mono ?_
  rintro e w2 ⟨rfl, hb⟩
  have HB2 := Lib.hid (HB1.out.trans (hb.mono hs1))
  have hs2 := HB2.out.size
  clear hb
  rw [live_root.1, live_root.2]
  go_wp2_with fail
  refine (pxRight_any [47] w2).mono ?_
  rintro e w3 ⟨rfl, hb⟩
  have HB3 := Lib.hid (HB2.out.trans (hb.mono hs2))
  have hs3 := HB3.out.size
  clear hb
  rw [live_right.1]
  go_wp2_with fail
  refine (pxRight_any [97] w3).mono ?_
  rintro e w4 ⟨rfl, hb⟩
  have HB4 := Lib.hid (HB3.out.trans (hb.mono hs3))
  have hs4 := HB4.out.size
  clear hb
  rw [live_right.2]
  go_wp2_with fail
  refine (pxAhead_any [47, 97, 47, 98] [47, 97, 45, 98] w4).mono ?_
  rintro e w5 ⟨rfl, hb⟩
  have HB5 := Lib.hid (HB4.out.trans (hb.mono hs4))
  clear hb
  rw [live_ahead]
  go_wp2
  go_ret
  exact ⟨rfl, HB5.out⟩

set_option maxRecDepth 100000 in
set_option maxHeartbeats 4000000 in
theorem two_all (p q : List UInt8) (w : World) : Calls Tryd.prog 4 #[txt p, txt q] w (One (.bool true) w) := by
  obtain ⟨m, hm⟩ : ∃ m, p.length = m := ⟨_, rfl⟩
  obtain ⟨n, hn⟩ : ∃ n, q.length = n := ⟨_, rfl⟩
  have hpz : (⟨p.toArray⟩ : ByteArray).size = m := hm
  have hqz : (⟨q.toArray⟩ : ByteArray).size = n := hn
  have HM := Lib.hid hm
  have HN := Lib.hid hn
  clear hm hn
  go_enter Tryd.func4, Tryd.ntmps4
  by_cases h : 1000 < m ∨ 1000 < n
  · by_cases h1 : 1000 < m
    · have z1 : (1000 : Int) < (m : Int) := by omega
      clear h
      go_wp2_with fail
      refine (alive8 w).mono ?_
      rintro e w1 ⟨rfl, hb⟩
      go_wp2
      go_ret
      exact ⟨rfl, hb⟩
    · have z1 : ¬ (1000 : Int) < (m : Int) := by omega
      have z2 : (1000 : Int) < (n : Int) := by omega
      clear h
      go_wp2_with fail
      refine (alive8 w).mono ?_
      rintro e w1 ⟨rfl, hb⟩
      go_wp2
      go_ret
      exact ⟨rfl, hb⟩
  · have z1 : ¬ (1000 : Int) < (m : Int) := by omega
    have z2 : ¬ (1000 : Int) < (n : Int) := by omega
    have HQ := Lib.hid (show q.length ≤ 1000000 by rw [HN.out]; omega)
    clear h
    obtain ⟨x, hx⟩ : ∃ x, joinS p q = x := ⟨_, rfl⟩
    obtain ⟨E, hE⟩ : ∃ E, joinE p q = E := ⟨_, rfl⟩
    go_wp2_with fail
    refine (pxJoin_any p q w HQ.out).mono ?_
    rintro e w1 ⟨rfl, hb⟩
    have hs1 := hb.size
    have HB1 := Lib.hid hb
    clear hb
    rw [hx, hE]
    go_wp2_with fail
    refine (rfJoin_any p q w1 HQ.out).mono ?_
    rintro e w2 ⟨rfl, hb⟩
    have HB2 := Lib.hid (HB1.out.trans (hb.mono hs1))
    have hs2 := HB2.out.size
    clear hb
    rw [hx, hE]
    clear hx hE
    go_wp2_with fail
    refine (alive8 w2).mono ?_
    rintro e w3 ⟨rfl, hb⟩
    have HB3 := Lib.hid (HB2.out.trans (hb.mono hs2))
    have hs3 := HB3.out.size
    clear hb
    have xx : (x == x) = true := by simp
    go_wp2_with fail
    refine (pxBelow_any p q w3).mono ?_
    rintro e w4 ⟨rfl, hb⟩
    have HB4 := Lib.hid (HB3.out.trans (hb.mono hs3))
    have hs4 := HB4.out.size
    clear hb
    obtain ⟨b, hb⟩ : ∃ b, belowB p q = b := ⟨_, rfl⟩
    rw [hb]
    go_wp2_with fail
    refine (rfBelow_any p q w4).mono ?_
    rintro e w5 ⟨rfl, hb2⟩
    have HB5 := Lib.hid (HB4.out.trans (hb2.mono hs4))
    have hs5 := HB5.out.size
    clear hb2
    rw [hb]
    clear hb
    have bb : (b == b) = true := by simp
    go_wp2_with fail
    refine (pxAhead_any p q w5).mono ?_
    rintro e w6 ⟨rfl, hb⟩
    have HB6 := Lib.hid (HB5.out.trans (hb.mono hs5))
    have hs6 := HB6.out.size
    clear hb
    obtain ⟨c, hc⟩ : ∃ c, aheadB p q = c := ⟨_, rfl⟩
    rw [hc]
    go_wp2_with fail
    refine (rfAhead_any p q w6).mono ?_
    rintro e w7 ⟨rfl, hb2⟩
    have HB7 := Lib.hid (HB6.out.trans (hb2.mono hs6))
    clear hb2
    rw [hc]
    clear hc
    have cc : (c == c) = true := by simp
    go_wp2
    go_ret
    exact ⟨rfl, HB7.out⟩
end Go.Proofs.YtpadjcmcpkegpaaDoor
