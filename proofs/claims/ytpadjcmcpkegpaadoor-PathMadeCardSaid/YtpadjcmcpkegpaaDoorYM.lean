/-
  The statements on paths: PathMade.
-/
import Derived.Test.YtpadjcmcpkegpaaDoorYP
namespace Go.Proofs.YtpadjcmcpkegpaaDoor
open Go.RowKit

set_option maxRecDepth 100000 in
set_option maxHeartbeats 4000000 in
theorem made_all (s : List UInt8) (w : World) : Calls Tryd.prog 7 #[txt s] w (One (.bool true) w) := by
  obtain ⟨n, hn⟩ : ∃ n, s.length = n := ⟨_, rfl⟩
  have hsz : (⟨s.toArray⟩ : ByteArray).size = n := hn
  have HN := Lib.hid hn
  clear hn
  go_enter Tryd.func7, Tryd.ntmps7
  by_cases h : 1000 < (n : Int)
  · go_wp2_with fail
    refine (alive8 w).mono ?_
    rintro e w1 ⟨rfl, hb⟩
    go_wp2
    go_ret
    exact ⟨rfl, hb⟩
  · go_wp2_with fail
    refine (pxNames_any s w).mono ?_
    rintro e w1 ⟨v, rfl, ho, hb⟩
    have hs1 := hb.size
    have HB1 := Lib.hid hb
    clear hb
    cases hR : rightB s
    · have HN := Lib.hid (names_not s hR)
      rw [HN.out.1] at ho
      rw [HN.out.2]
      obtain ⟨A, cp, rfl, hc, hm⟩ := ho.rd.shape
      clear ho
      go_wp2_with fail
      refine (alive8 w1).mono ?_
      rintro e w2 ⟨rfl, hb⟩
      have HB2 := Lib.hid (HB1.out.trans (hb.mono hs1))
      have hs2 := HB2.out.size
      clear hb
      have hz : (bas []).length = 0 := rfl
      rw [hz]
      go_wp2_with fail
      refine (pxRight_any s w2).mono ?_
      rintro e w3 ⟨rfl, hb⟩
      have HB3 := Lib.hid (HB2.out.trans (hb.mono hs2))
      clear hb
      rw [hR]
      go_wp2
      go_ret
      exact ⟨rfl, HB3.out⟩
    · have HN2 := Lib.hid (names_yes s hR)
      have HST := Lib.hid (step_made s hR)
      have HE := Lib.hid (made_cut s (right_slash s hR))
      have h8 := (rightB_len s hR).2.2.2
      have HQ := Lib.hid (rightB_len s hR)
      have HCL := Lib.hid (cutL_len s)
      rw [HN2.out.1] at ho
      rw [HN2.out.2]
      have hr := ho.rd
      clear ho hR
      obtain ⟨A, cp, rfl, hc, hm⟩ := hr.shape
      unfold maxLen at hm
      rw [bas_length] at hc hr ⊢
      obtain ⟨l, hl⟩ : ∃ l, cutL s = l := ⟨_, rfl⟩
      rw [hl] at hc hr h8 HST HE HCL ⊢
      obtain ⟨m, hm2⟩ : ∃ m, l.length = m := ⟨_, rfl⟩
      have HM := Lib.hid hm2
      have HR := Lib.hid hr
      rw [hm2] at hc HR h8 ⊢
      clear hr hm2 hl
      go_wp2
      go_loopw [5, 6] (fun vq vi wr => ∃ i : Nat, i ≤ m ∧ vi = .int .i64 (i : Int) ∧ vq = txt (madeL (l.take i)) ∧ Hid (Below w1.heap.size w1 wr)) (fun _ vi _ => m - (intOf vi).toNat)
      case atStart => exact ⟨0, by omega, rfl, rfl, Below.refl _ _⟩
      case round =>
        obtain ⟨i, hi, rfl, rfl, HBr⟩ := hrel
        have hwr := HBr.out.size
        by_cases hi2 : i < m
        · have zi : (i : Int) < (m : Int) := by omega
          obtain ⟨x, hx⟩ : ∃ x, l.getD i [] = x := ⟨_, rfl⟩
          have HS := Lib.hid (HST.out i (by rw [HM.out]; exact hi2) x hx)
          have hxm := (take_next l i (by rw [HM.out]; exact hi2) x hx).2
          have HXL := Lib.hid (show x.length ≤ 1000000 by have h1 := HCL.out x hxm; have h2 := HQ.out.1; omega)
          obtain ⟨a, hA, ca⟩ := (HR.out.below HBr.out).at_ i (by rw [bas_length, HM.out]; exact hi2)
          subst hA
          rw [bas_at l i (by rw [HM.out]; exact hi2) x hx] at ca
          have HCA := Lib.hid ca
          clear hx hxm
          go_wp2_with fail
          refine (pxJoin_any (madeL (l.take i)) x wr HXL.out).mono ?_
          rintro e w3 ⟨rfl, hb⟩
          have HB3 := Lib.hid (HBr.out.trans (hb.mono hwr))
          have hs3 := HB3.out.size
          have cb : w3.cell? (a.add i) = some (Value.string ⟨x.toArray⟩) := by
            have h := (HR.out.below HB3.out).at_ i (by rw [bas_length, HM.out]; exact hi2)
            obtain ⟨a', ha', h⟩ := h
            injection ha' with ha'
            subst ha'
            have h0 := (HR.out.below HBr.out).at_ i (by rw [bas_length, HM.out]; exact hi2)
            obtain ⟨a'', ha'', h0⟩ := h0
            injection ha'' with ha''
            subst ha''
            rw [h, ← h0, HCA.out]
          clear hb ca
          rw [HS.out.2.1, HS.out.2.2.1]
          go_wp2_with fail
          refine (pxName_any x w3 HXL.out).mono ?_
          rintro e w4 ⟨rfl, hb⟩
          have HB4 := Lib.hid (HB3.out.trans (hb.mono hs3))
          have hs4 := HB4.out.size
          clear hb cb
          rw [HS.out.1]
          go_wp2_with fail
          refine (pxBelow_any (madeL (l.take i)) (madeL (l.take (i + 1))) w4).mono ?_
          rintro e w5 ⟨rfl, hb⟩
          have HB5 := Lib.hid (HB4.out.trans (hb.mono hs4))
          clear hb
          rw [HS.out.2.2.2]
          go_wp2
          go_roundw
          case rel => exact ⟨i + 1, by omega, by go_num, rfl, HB5⟩
          case measure => simp [intOf]; omega
        · have hE : i = m := by omega
          subst hE
          have HT : Hid (l.take i = l) := List.take_of_length_le (by rw [HM.out]; exact Nat.le_refl _)
          rw [HT.out, HE.out]
          have ss : (s == s) = true := by simp
          have z8 : (i : Int) ≤ 8 := by omega
          go_wp2_with fail
          refine (alive8 wr).mono ?_
          rintro e w3 ⟨rfl, hb⟩
          have HB3 := Lib.hid (HBr.out.trans (hb.mono hwr))
          clear hb
          go_wp2
          go_ret
          exact ⟨rfl, HB1.out.trans (HB3.out.mono hs1)⟩
end Go.Proofs.YtpadjcmcpkegpaaDoor
