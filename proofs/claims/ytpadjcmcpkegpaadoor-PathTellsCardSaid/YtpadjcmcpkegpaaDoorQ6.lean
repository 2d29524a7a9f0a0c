/-
  The program's paths: slices.Compare over texts, Ahead.
-/
import Derived.Test.YtpadjcmcpkegpaaDoorQ5
namespace Go.Proofs.YtpadjcmcpkegpaaDoor
open Go.RowKit

/-- As cmp.Compare tells two texts. -/
def cmpB (x y : List UInt8) : Int := if lessB x y = true then -1 else if lessB y x = true then 1 else 0
theorem cmpB_same (x : List UInt8) : cmpB x x = 0 := by
  unfold cmpB
  rw [lessB_irrefl]; rfl
theorem cmpB_ne (x y : List UInt8) (h : x ≠ y) : (lessB x y = true ∧ cmpB x y = -1) ∨ (lessB x y = false ∧ lessB y x = true ∧ cmpB x y = 1) := by
  have h1 := lessB_or x y h
  unfold cmpB
  cases h2 : lessB x y
  · right
    rw [h2] at h1
    have h3 : lessB y x = true := by cases h4 : lessB y x <;> simp_all
    simp [h3]
  · left; simp

set_option maxRecDepth 100000 in
set_option maxHeartbeats 2000000 in
theorem cmp_any (x y : List UInt8) (w : World) : Calls Tryd.prog 44 #[txt x, txt y] w fun e w' => e = .returned (.int .i64 (cmpB x y)) ∧ w' = w := by
  go_enter Tryd.func44, Tryd.ntmps44
  have HL := Lib.hid (lessB_eq x y)
  go_wp2
  · rename_i h
    rw [← HL.out] at h
    have HC : Hid (cmpB x y = -1) := by
      show _ = _
      unfold cmpB
      rw [h]; rfl
    go_ret
    exact ⟨by rw [HC.out]; rfl, rfl⟩
  · rename_i h2 _ _ h
    rw [← HL.out] at h2
    have hne : x ≠ y := by simpa using h
    have HC : Hid (cmpB x y = 1) := by
      show _ = _
      rcases cmpB_ne x y hne with ⟨h3, _⟩ | ⟨_, _, h3⟩
      · rw [h2] at h3; cases h3
      · exact h3
    go_ret
    exact ⟨by rw [HC.out]; rfl, rfl⟩
  · rename_i h
    have he : x = y := by simpa using h
    have HC : Hid (cmpB x y = 0) := by
      show _ = _
      rw [he, cmpB_same]
    go_ret
    exact ⟨by rw [HC.out]; rfl, rfl⟩

set_option maxRecDepth 100000 in
set_option maxHeartbeats 2000000 in
theorem compare_any (a b : List (List UInt8)) (v1 v2 : Value) (w : World) (hr1 : RdS w.heap.size w v1 (bas a)) (hr2 : RdS w.heap.size w v2 (bas b)) :
    Calls Tryd.prog 34 #[v1, v2] w fun e w' => ∃ r : Int, e = .returned (.int .i64 r) ∧ decide (r < 0) = aheadL a b ∧ w' = w := by
  obtain ⟨A, cp, rfl, hc, hm⟩ := hr1.shape
  obtain ⟨A2, cp2, rfl, hc2, hm3⟩ := hr2.shape
  unfold maxLen at hm hm3
  rw [bas_length] at hc hr1 hc2 hr2 ⊢
  rw [bas_length]
  obtain ⟨m, hm2⟩ : ∃ m, a.length = m := ⟨_, rfl⟩
  obtain ⟨n, hn2⟩ : ∃ n, b.length = n := ⟨_, rfl⟩
  have HM := Lib.hid hm2
  have HNN := Lib.hid hn2
  rw [hm2] at hc hr1 ⊢
  rw [hn2] at hc2 hr2 ⊢
  have HR1 := Lib.hid hr1
  have HR2 := Lib.hid hr2
  clear hm2 hn2 hr1 hr2
  go_enter Tryd.func34, Tryd.ntmps34
  go_wp2
  go_loop [11] (fun vi => ∃ i : Nat, i ≤ m ∧ i ≤ n ∧ vi = .int .i64 (i : Int) ∧ Hid (∀ j, j < i → a.getD j [] = b.getD j [])) (fun vi => m - (intOf vi).toNat)
  case atStart => exact ⟨0, by omega, by omega, rfl, fun j hj => by omega⟩
  case round =>
    obtain ⟨i, hi, hin, rfl, HA⟩ := hrel
    by_cases hi2 : i < m
    · have zj : (i : Int) < (m : Int) := by omega
      obtain ⟨a1, hA1, ca⟩ := HR1.out.at_ i (by rw [bas_length, HM.out]; exact hi2)
      subst hA1
      obtain ⟨x, hx⟩ : ∃ x, a.getD i [] = x := ⟨_, rfl⟩
      rw [bas_at a i (by rw [HM.out]; exact hi2) x hx] at ca
      by_cases hi3 : i < n
      · have zk : (i : Int) < (n : Int) := by omega
        obtain ⟨a2, hA2, cb⟩ := HR2.out.at_ i (by rw [bas_length, HNN.out]; exact hi3)
        subst hA2
        obtain ⟨y, hy⟩ : ∃ y, b.getD i [] = y := ⟨_, rfl⟩
        rw [bas_at b i (by rw [HNN.out]; exact hi3) y hy] at cb
        have HX := Lib.hid hx
        have HY := Lib.hid hy
        clear hx hy
        go_wp2_with fail
        refine (cmp_any x y w).mono ?_
        rintro e w' ⟨rfl, rfl⟩
        by_cases hxy : x = y
        · have hc0 := cmpB_same y
          rw [hxy, hc0]
          have HA2 : Hid (∀ j, j < i + 1 → a.getD j [] = b.getD j []) := by
            intro j hj
            by_cases h : j < i
            · exact HA.out j h
            · have : j = i := by omega
              subst this
              rw [HX.out, HY.out, hxy]
          clear hxy hc0
          go_wp2
          go_round
          case rel => exact ⟨i + 1, by omega, by omega, by go_num, HA2⟩
          case measure => simp [intOf]; omega
        · have HL := Lib.hid (aheadL_diff a b i (by rw [HM.out]; exact hi2) (by rw [HNN.out]; exact hi3) HA.out (by rw [HX.out, HY.out]; exact hxy))
          rw [HX.out, HY.out] at HL
          rcases cmpB_ne x y hxy with ⟨h1, h2⟩ | ⟨h1, _, h2⟩
          · rw [h2]
            have H1 := Lib.hid h1
            clear hxy h1 h2
            go_wp2
            go_ret
            exact ⟨-1, rfl, by rw [HL.out, H1.out]; rfl, rfl⟩
          · rw [h2]
            have H1 := Lib.hid h1
            clear hxy h1 h2
            go_wp2
            go_ret
            exact ⟨1, rfl, by rw [HL.out, H1.out]; rfl, rfl⟩
      · have hE : i = n := by omega
        subst hE
        have HL := Lib.hid (aheadL_end a b (fun j h1 h2 => HA.out j (by rw [HNN.out] at h2; exact h2)))
        rw [HM.out, HNN.out] at HL
        have zk : ¬ ((i : Int) < (i : Int)) := by omega
        go_wp2
        go_ret
        refine ⟨1, rfl, ?_, rfl⟩
        rw [HL.out]
        simp
        omega
    · have hE : i = m := by omega
      subst hE
      have HL := Lib.hid (aheadL_end a b (fun j h1 h2 => HA.out j (by rw [HM.out] at h1; exact h1)))
      rw [HM.out, HNN.out] at HL
      by_cases hmn : i < n
      · have zk : (i : Int) < (n : Int) := by omega
        go_wp2
        go_ret
        refine ⟨-1, rfl, ?_, rfl⟩
        rw [HL.out]
        simp
        omega
      · have zk : ¬ ((i : Int) < (n : Int)) := by omega
        go_wp2
        go_ret
        refine ⟨0, rfl, ?_, rfl⟩
        rw [HL.out]
        simp
        omega

set_option maxRecDepth 100000 in
set_option maxHeartbeats 2000000 in
theorem pxAhead_any (p q : List UInt8) (w : World) : Calls Tryd.prog 22 #[txt p, txt q] w (One (.bool (aheadB p q)) w) := by
  go_enter Tryd.func22, Tryd.ntmps22
  go_wp2_with fail
  refine (pxNames_any p w).mono ?_
  rintro e w1 ⟨v, rfl, ho, hb⟩
  have hs1 := hb.size
  have HB := Lib.hid hb
  have HO := Lib.hid ho
  clear hb ho
  rcases namesE_or p with ⟨h1, h2, h3⟩ | ⟨h1, h2, h3⟩
  · rw [h3] at HO
    rw [h2]
    have HR := Lib.hid h1
    clear h1 h2 h3
    go_wp2_with fail
    refine (pxNames_any q w1).mono ?_
    rintro e w2 ⟨v2, rfl, ho, hb⟩
    have HB2 := Lib.hid (HB.out.trans (hb.mono hs1))
    have HO1 := Lib.hid (HO.out.below hb (Nat.le_refl _))
    have HO2 := Lib.hid ho
    clear hb ho HO
    rcases namesE_or q with ⟨h4, h5, h6⟩ | ⟨h4, h5, h6⟩
    · rw [h6] at HO2
      rw [h5]
      have HF := Lib.hid (aheadB_yes p q HR.out h4)
      have HC := Lib.hid (compare_any (cutL p) (cutL q) v v2 w2 HO1.out.rd HO2.out.rd)
      clear h4 h5 h6
      go_wp2_with fail
      refine HC.out.mono ?_
      rintro e w' ⟨r, rfl, hr, rfl⟩
      rw [← HF.out] at hr
      clear HC
      have HH := Lib.hid hr
      clear hr
      go_wp2
      go_ret
      exact ⟨by rw [← HH.out]; rfl, HB2.out⟩
    · rw [h5]
      have HF := Lib.hid (aheadB_not p q (by rw [h4]; simp))
      clear h4 h5 h6
      go_wp2
      go_ret
      exact ⟨by rw [HF.out]; rfl, HB2.out⟩
  · rw [h2]
    have HF := Lib.hid (aheadB_not p q (by rw [h1]; rfl))
    clear h1 h2 h3
    go_wp2
    go_ret
    exact ⟨by rw [HF.out]; rfl, HB.out⟩
end Go.Proofs.YtpadjcmcpkegpaaDoor
