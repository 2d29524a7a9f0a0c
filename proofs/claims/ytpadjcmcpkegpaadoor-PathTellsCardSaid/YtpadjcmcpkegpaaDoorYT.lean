/-
  The statements on paths: PathTells.
-/
import Derived.Test.YtpadjcmcpkegpaaDoorYO
namespace Go.Proofs.YtpadjcmcpkegpaaDoor
open Go.RowKit

set_option maxRecDepth 100000 in
set_option maxHeartbeats 2000000 in
theorem same_texts (l : List (List UInt8)) (v v2 : Value) (B B2 : Nat) (w : World) (h1 : RdS B w v (bas l)) (h2 : RdS B2 w v2 (bas l)) : Calls Tryd.prog 17 #[v, v2] w (One (.bool true) w) := by
  obtain ⟨A, cp, rfl, hc, hm⟩ := h1.shape
  obtain ⟨A2, cp2, rfl, hc2, hm2⟩ := h2.shape
  unfold maxLen at hm hm2
  rw [bas_length] at hc hc2 h1 h2 ⊢
  obtain ⟨n, hn⟩ : ∃ n, l.length = n := ⟨_, rfl⟩
  have HN := Lib.hid hn
  rw [hn] at hc hc2 h1 h2 ⊢
  have H1 := Lib.hid h1
  have H2 := Lib.hid h2
  clear hn h1 h2
  go_enter Tryd.func17, Tryd.ntmps17
  go_wp2
  go_loopw [5] (fun vi wr => ∃ i : Nat, i ≤ n ∧ vi = .int .i64 (i : Int) ∧ ∃ nq, wr = w.drewN nq) (fun vi _ => n - (intOf vi).toNat)
  case atStart => exact ⟨0, by omega, rfl, 0, (World.drewN_zero _).symm⟩
  case round =>
    obtain ⟨i, hi, rfl, nq, rfl⟩ := hrel
    by_cases hi2 : i < n
    · have zj : (i : Int) < (n : Int) := by omega
      obtain ⟨a1, hA1, ca⟩ := H1.out.at_ i (by rw [bas_length, HN.out]; exact hi2)
      obtain ⟨a2, hA2, cb⟩ := H2.out.at_ i (by rw [bas_length, HN.out]; exact hi2)
      subst hA1 hA2
      obtain ⟨x, hx⟩ : ∃ x, l.getD i [] = x := ⟨_, rfl⟩
      rw [bas_at l i (by rw [HN.out]; exact hi2) x hx] at ca cb
      clear hx
      have xx : (x == x) = true := by simp
      go_wp2
      refine wp_region_quiet_lit (by kernel_rfl) (by kernel_rfl) ?_
      repeat (first | go_big_quiet_step (fail) | quiet_step (fail))
      refine wpQuiet_nil ?_
      intro _ hw'
      obtain ⟨nr, hw''⟩ := hw'
      subst hw''
      try rw [xx]
      try simp only [Bool.not_true]
      go_wp2
      go_roundw
      case rel => exact ⟨i + 1, by omega, by go_num, nq + nr, rfl⟩
      case measure => simp [intOf]; omega
    · have zj : ¬ (i : Int) < (n : Int) := by omega
      go_wp2
      go_ret
      exact ⟨rfl, Below.drewN' (Below.refl _ _)⟩

set_option maxRecDepth 100000 in
set_option maxHeartbeats 4000000 in
theorem tells_all (s : List UInt8) (w : World) : Calls Tryd.prog 3 #[txt s] w (One (.bool true) w) := by
  obtain ⟨n, hn⟩ : ∃ n, s.length = n := ⟨_, rfl⟩
  have hsz : (⟨s.toArray⟩ : ByteArray).size = n := hn
  have HN := Lib.hid hn
  clear hn
  go_enter Tryd.func3, Tryd.ntmps3
  by_cases h : 1000 < (n : Int)
  · go_wp2_with fail
    refine (alive8 w).mono ?_
    rintro e w1 ⟨rfl, hb⟩
    go_wp2
    go_ret
    exact ⟨rfl, hb⟩
  · have HQ := Lib.hid (show s.length ≤ 1000000 by rw [HN.out]; omega)
    obtain ⟨l, hl⟩ : ∃ l, namesL s = l := ⟨_, rfl⟩
    obtain ⟨E, hE⟩ : ∃ E, namesE s = E := ⟨_, rfl⟩
    obtain ⟨x, hx⟩ : ∃ x, parentS s = x := ⟨_, rfl⟩
    obtain ⟨F, hF⟩ : ∃ F, parentE s = F := ⟨_, rfl⟩
    obtain ⟨b, hb0⟩ : ∃ b, nameB s = b := ⟨_, rfl⟩
    obtain ⟨c, hc0⟩ : ∃ c, rightB s = c := ⟨_, rfl⟩
    have bb : (b == b) = true := by simp
    have cc : (c == c) = true := by simp
    have xx : (x == x) = true := by simp
    go_wp2_with fail
    refine (pxNames_any s w).mono ?_
    rintro e w1 ⟨v1, rfl, ho, hb⟩
    have hs1 := hb.size
    have HB1 := Lib.hid hb
    rw [hl] at ho
    have HO1 := Lib.hid ho
    clear hb ho
    rw [hE]
    go_wp2_with fail
    refine (rfNames_any s w1).mono ?_
    rintro e w2 ⟨v2, rfl, ho, hb⟩
    have HB2 := Lib.hid (HB1.out.trans (hb.mono hs1))
    have hs2 := HB2.out.size
    rw [hl] at ho
    have HR1 := Lib.hid (HO1.out.below hb (Nat.le_refl _)).rd
    have HR2 := Lib.hid ho.rd
    clear hb ho HO1
    rw [hE]
    clear hE hl
    go_wp2_with fail
    refine (pxParent_any s w2).mono ?_
    rintro e w3 ⟨rfl, hb⟩
    have h3 := hb.size
    have HC3 := Lib.hid hb
    clear hb
    rw [hx, hF]
    go_wp2_with fail
    refine (rfParent_any s w3).mono ?_
    rintro e w4 ⟨rfl, hb⟩
    have HC4 := Lib.hid (HC3.out.trans (hb.mono h3))
    have h4 := HC4.out.size
    clear hb
    rw [hx, hF]
    clear hx hF
    go_wp2_with fail
    refine (alive8 w4).mono ?_
    rintro e w5 ⟨rfl, hb⟩
    have HC5 := Lib.hid (HC4.out.trans (hb.mono h4))
    have h5 := HC5.out.size
    clear hb
    go_wp2_with fail
    refine (pxName_any s w5 HQ.out).mono ?_
    rintro e w6 ⟨rfl, hb⟩
    have HC6 := Lib.hid (HC5.out.trans (hb.mono h5))
    have h6 := HC6.out.size
    clear hb
    rw [hb0]
    go_wp2_with fail
    refine (rfName_any s w6 HQ.out).mono ?_
    rintro e w7 ⟨rfl, hb⟩
    have HC7 := Lib.hid (HC6.out.trans (hb.mono h6))
    have h7 := HC7.out.size
    clear hb
    rw [hb0]
    go_wp2_with fail
    refine (pxRight_any s w7).mono ?_
    rintro e w8 ⟨rfl, hb⟩
    have HC8 := Lib.hid (HC7.out.trans (hb.mono h7))
    have h8 := HC8.out.size
    clear hb
    rw [hc0]
    go_wp2_with fail
    refine (rfRight_any s w8).mono ?_
    rintro e w9 ⟨rfl, hb⟩
    have HC9 := Lib.hid (HC8.out.trans (hb.mono h8))
    have h9 := HC9.out.size
    clear hb
    rw [hc0]
    clear hb0 hc0
    have HR1b := Lib.hid (HR1.out.below HC9.out)
    have HR2b := Lib.hid (HR2.out.below HC9.out)
    go_wp2_with fail
    refine (same_texts l v1 v2 _ _ w9 HR1b.out HR2b.out).mono ?_
    rintro e w10 ⟨rfl, hb⟩
    have HC10 := Lib.hid (HC9.out.trans (hb.mono h9))
    clear hb
    go_wp2
    go_ret
    exact ⟨rfl, HB2.out.trans (HC10.out.mono hs2)⟩
end Go.Proofs.YtpadjcmcpkegpaaDoor
