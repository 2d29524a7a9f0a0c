/-
  The document's paths: Ahead.
-/
import Derived.Test.YtpadjcmcpkegpaaDoorY6
namespace Go.Proofs.YtpadjcmcpkegpaaDoor
open Go.RowKit

set_option maxRecDepth 100000 in
set_option maxHeartbeats 2000000 in
theorem rfAhead_any (p q : List UInt8) (w : World) : Calls Tryd.prog 23 #[txt p, txt q] w (One (.bool (aheadB p q)) w) := by
  go_enter Tryd.func23, Tryd.ntmps23
  go_wp2_with fail
  refine (rfNames_any p w).mono ?_
  rintro e w1 ⟨v, rfl, ho, hb⟩
  have hs1 := hb.size
  have HB := Lib.hid hb
  have HO := Lib.hid ho
  clear hb ho
  obtain ⟨E, hE⟩ : ∃ E, namesE p = E := ⟨_, rfl⟩
  obtain ⟨F, hF⟩ : ∃ F, namesE q = F := ⟨_, rfl⟩
  rw [hE]
  go_wp2_with fail
  refine (rfNames_any q w1).mono ?_
  rintro e w2 ⟨v2, rfl, ho, hb⟩
  have hs2 := hb.size
  have HB2 := Lib.hid (HB.out.trans (hb.mono hs1))
  have HO1 := Lib.hid (HO.out.below hb (Nat.le_refl _))
  have HO2 := Lib.hid ho
  clear hb ho HO
  rw [hF]
  by_cases hR : (rightB p && rightB q) = false
  · have HP := Lib.hid (aheadB_not p q hR)
    rcases namesE_or p with ⟨h1, h2, h3⟩ | ⟨h1, h2, h3⟩
    · rcases namesE_or q with ⟨h4, h5, h6⟩ | ⟨h4, h5, h6⟩
      · rw [h1, h4] at hR; simp at hR
      · rw [h2] at hE
        rw [h5] at hF
        subst hE hF
        clear hR h1 h2 h3 h4 h5 h6
        go_wp2
        go_ret
        exact ⟨by rw [HP.out]; rfl, HB2.out⟩
    · rw [h2] at hE
      subst hE
      clear hR h1 h2 h3
      go_wp2
      go_ret
      exact ⟨by rw [HP.out]; rfl, HB2.out⟩
  · have hRR : rightB p = true ∧ rightB q = true := by
      rw [Bool.not_eq_false] at hR
      simpa using hR
    have HP := Lib.hid (aheadB_yes p q hRR.1 hRR.2)
    have HN1 := names_yes p hRR.1
    have HN2 := names_yes q hRR.2
    rw [HN1.2] at hE
    rw [HN2.2] at hF
    subst hE hF
    rw [HN1.1] at HO1
    rw [HN2.1] at HO2
    have hl1 := (rightB_len p hRR.1).2.2.2
    have hl2 := (rightB_len q hRR.2).2.2.2
    obtain ⟨a, ha⟩ : ∃ a, cutL p = a := ⟨_, rfl⟩
    obtain ⟨b, hb⟩ : ∃ b, cutL q = b := ⟨_, rfl⟩
    rw [ha] at HO1 HP hl1
    rw [hb] at HO2 HP hl2
    have hr1 := HO1.out.rd
    have hr2 := HO2.out.rd
    clear hR hRR HN1 HN2 ha hb HO1 HO2
    obtain ⟨A, cp, rfl, hc, hm⟩ := hr1.shape
    obtain ⟨A2, cp2, rfl, hc2, hm3⟩ := hr2.shape
    unfold maxLen at hm hm3
    rw [bas_length] at hc hr1 hc2 hr2 ⊢
    rw [bas_length]
    obtain ⟨m, hm2⟩ : ∃ m, a.length = m := ⟨_, rfl⟩
    obtain ⟨n, hn2⟩ : ∃ n, b.length = n := ⟨_, rfl⟩
    have HM := Lib.hid hm2
    have HNN := Lib.hid hn2
    rw [hm2] at hc hr1 hl1 ⊢
    rw [hn2] at hc2 hr2 hl2 ⊢
    have HR1 := Lib.hid hr1
    have HR2 := Lib.hid hr2
    clear hm2 hn2 hr1 hr2
    go_wp2
    go_loopw [9] (fun vi wr => ∃ i : Nat, i ≤ m ∧ i ≤ n ∧ vi = .int .i64 (i : Int) ∧ Hid (∀ j, j < i → a.getD j [] = b.getD j []) ∧ Hid (Below w2.heap.size w2 wr)) (fun vi _ => m - (intOf vi).toNat)
    case atStart => exact ⟨0, by omega, by omega, rfl, fun j hj => by omega, Below.refl _ _⟩
    case round =>
      obtain ⟨i, hi, hin, rfl, HA, HBr⟩ := hrel
      have hwr := HBr.out.size
      by_cases hi2 : i < m
      · have zj : (i : Int) < (m : Int) := by omega
        by_cases hi3 : i < n
        · have zk : (i : Int) < (n : Int) := by omega
          obtain ⟨a1, hA1, ca⟩ := (HR1.out.below HBr.out).at_ i (by rw [bas_length, HM.out]; exact hi2)
          obtain ⟨a2, hA2, cb⟩ := (HR2.out.below HBr.out).at_ i (by rw [bas_length, HNN.out]; omega)
          subst hA1 hA2
          obtain ⟨x, hx⟩ : ∃ x, a.getD i [] = x := ⟨_, rfl⟩
          obtain ⟨y, hy⟩ : ∃ y, b.getD i [] = y := ⟨_, rfl⟩
          rw [bas_at a i (by rw [HM.out]; exact hi2) x hx] at ca
          rw [bas_at b i (by rw [HNN.out]; omega) y hy] at cb
          have HX := Lib.hid hx
          have HY := Lib.hid hy
          clear hx hy
          go_wp2
          refine wp_region_quiet_lit (by kernel_rfl) (by kernel_rfl) ?_
          repeat (first | go_big_quiet_step (fail) | quiet_step (fail))
          refine wpQuiet_nil ?_
          intro _ hw'
          obtain ⟨nq, hw''⟩ := hw'
          subst hw''
          have HBn : Hid (Below w2.heap.size w2 (wr.drewN nq)) := Below.drewN' HBr.out
          by_cases hxy : x = y
          · have hxy2 : (x == y) = true := by simpa using hxy
            have HA2 : Hid (∀ j, j < i + 1 → a.getD j [] = b.getD j []) := by
              intro j hj
              by_cases h : j < i
              · exact HA.out j h
              · have : j = i := by omega
                subst this
                rw [HX.out, HY.out, hxy]
            clear hxy
            rw [hxy2]
            simp only [Bool.not_true]
            go_wp2
            go_roundw
            case rel => exact ⟨i + 1, by omega, by omega, by go_num, HA2, HBn⟩
            case measure => simp [intOf]; omega
          · have hxy2 := txt_ne x y hxy
            have hl := aheadL_diff a b i (by rw [HM.out]; exact hi2) (by rw [HNN.out]; exact hi3) HA.out (by rw [HX.out, HY.out]; exact hxy)
            rw [HX.out, HY.out, lessB_eq] at hl
            have HL := Lib.hid hl
            clear hxy hl
            rw [hxy2]
            simp only [Bool.not_false]
            go_wp2
            refine wp_region_quiet_lit (by kernel_rfl) (by kernel_rfl) ?_
            repeat (first | go_big_quiet_step (fail) | quiet_step (fail))
            refine wpQuiet_nil ?_
            intro _ hw'
            obtain ⟨nr, hw''⟩ := hw'
            subst hw''
            have HBm : Hid (Below w2.heap.size w2 ((wr.drewN nq).drewN nr)) := Below.drewN' HBn.out
            go_wp2
            go_ret
            exact ⟨by rw [HP.out, HL.out]; rfl, HB2.out.trans (HBm.out.mono (Nat.le_trans hs1 hs2))⟩
        · have zk : ¬ ((i : Int) < (n : Int)) := by omega
          have hE : i = n := by omega
          have HL := Lib.hid (aheadL_end a b (fun j h1 h2 => HA.out j (by rw [HNN.out] at h2; omega)))
          go_wp2
          go_ret
          exact ⟨by rw [HP.out, HL.out, HM.out, HNN.out]; simp, HB2.out.trans (HBr.out.mono (Nat.le_trans hs1 hs2))⟩
      · have zj : ¬ ((i : Int) < (m : Int)) := by omega
        have hE : i = m := by omega
        have HL := Lib.hid (aheadL_end a b (fun j h1 h2 => HA.out j (by rw [HM.out] at h1; omega)))
        go_wp2
        go_ret
        exact ⟨by rw [HP.out, HL.out, HM.out, HNN.out]; simp, HB2.out.trans (HBr.out.mono (Nat.le_trans hs1 hs2))⟩
end Go.Proofs.YtpadjcmcpkegpaaDoor
