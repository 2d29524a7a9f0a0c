/-
  The document's paths: Below, Ahead.
-/
import Derived.Test.YtpadjcmcpkegpaaDoorY5
import Derived.Deep.QuietTactic
import Derived.BigQuiet
namespace Go.Proofs.YtpadjcmcpkegpaaDoor
open Go.RowKit

theorem belowL_len : ∀ (a b : List (List UInt8)), b.length ≤ a.length → belowL a b = false
  | [], [], _ => rfl
  | [], _ :: _, h => by simp at h
  | _ :: _, [], _ => rfl
  | x :: a, y :: b, h => by
    unfold belowL
    rw [belowL_len a b (by simpa using h)]
    simp
theorem belowL_diff : ∀ (a b : List (List UInt8)) (i : Nat), i < a.length → a.getD i [] ≠ b.getD i [] → belowL a b = false
  | [], _, _, h, _ => by simp at h
  | _ :: _, [], _, _, _ => rfl
  | x :: a, y :: b, i, h, hd => by
    unfold belowL
    cases i with
    | zero =>
      have : x ≠ y := by simpa using hd
      rw [if_neg this]
    | succ i =>
      rw [belowL_diff a b i (by simpa using h) (by simpa using hd)]
      simp
theorem belowL_all : ∀ (a b : List (List UInt8)), a.length < b.length → (∀ i, i < a.length → a.getD i [] = b.getD i []) → belowL a b = true
  | [], _ :: _, _, _ => rfl
  | _, [], h, _ => by simp at h
  | x :: a, y :: b, h, hd => by
    unfold belowL
    have h0 : x = y := by simpa using hd 0 (by simp)
    rw [if_pos h0]
    exact belowL_all a b (by simpa using h) (fun i hi => by simpa using hd (i + 1) (by simpa using hi))
theorem aheadL_diff : ∀ (a b : List (List UInt8)) (i : Nat), i < a.length → i < b.length → (∀ j, j < i → a.getD j [] = b.getD j []) → a.getD i [] ≠ b.getD i [] → aheadL a b = lessB (a.getD i []) (b.getD i [])
  | [], _, _, h, _, _, _ => by simp at h
  | _ :: _, [], _, _, h, _, _ => by simp at h
  | x :: a, y :: b, i, h, h2, hj, hd => by
    unfold aheadL
    cases i with
    | zero =>
      have : x ≠ y := by simpa using hd
      rw [if_neg this]
      rfl
    | succ i =>
      have h0 : x = y := by simpa using hj 0 (by omega)
      rw [if_pos h0]
      simpa using aheadL_diff a b i (by simpa using h) (by simpa using h2) (fun j hj2 => by simpa using hj (j + 1) (by omega)) (by simpa using hd)
theorem aheadL_end : ∀ (a b : List (List UInt8)), (∀ i, i < a.length → i < b.length → a.getD i [] = b.getD i []) → aheadL a b = decide (a.length < b.length)
  | [], [], _ => rfl
  | [], _ :: _, _ => by simp [aheadL]
  | _ :: _, [], _ => by simp [aheadL]
  | x :: a, y :: b, hd => by
    unfold aheadL
    have h0 : x = y := by simpa using hd 0 (by simp) (by simp)
    rw [if_pos h0, aheadL_end a b (fun i h1 h2 => by simpa using hd (i + 1) (by simpa using h1) (by simpa using h2))]
    simp

def belowB (p q : List UInt8) : Bool := rightB p && rightB q && belowL (cutL p) (cutL q)
def aheadB (p q : List UInt8) : Bool := rightB p && rightB q && aheadL (cutL p) (cutL q)
theorem belowB_not (p q : List UInt8) (h : (rightB p && rightB q) = false) : belowB p q = false := by simp [belowB, h]
theorem belowB_yes (p q : List UInt8) (h : rightB p = true) (h2 : rightB q = true) : belowB p q = belowL (cutL p) (cutL q) := by simp [belowB, h, h2]
theorem aheadB_not (p q : List UInt8) (h : (rightB p && rightB q) = false) : aheadB p q = false := by simp [aheadB, h]
theorem aheadB_yes (p q : List UInt8) (h : rightB p = true) (h2 : rightB q = true) : aheadB p q = aheadL (cutL p) (cutL q) := by simp [aheadB, h, h2]
theorem namesE_or (p : List UInt8) : (rightB p = true ∧ namesE p = 0 ∧ namesL p = cutL p) ∨ (rightB p = false ∧ namesE p = 13 ∧ namesL p = []) := by
  cases h : rightB p
  · exact .inr ⟨rfl, (names_not p h).2, (names_not p h).1⟩
  · exact .inl ⟨rfl, (names_yes p h).2, (names_yes p h).1⟩
theorem txt_ne (x y : List UInt8) (h : x ≠ y) : (x == y) = false := by simpa using h

set_option maxRecDepth 100000 in
set_option maxHeartbeats 2000000 in
theorem rfBelow_any (p q : List UInt8) (w : World) : Calls Tryd.prog 21 #[txt p, txt q] w (One (.bool (belowB p q)) w) := by
  go_enter Tryd.func21, Tryd.ntmps21
  go_wp2_with fail
  refine (rfNames_any p w).mono ?_
  rintro e w1 ⟨v, rfl, ho, hb⟩
  have hs1 := hb.size
  have HB := Lib.hid hb
  have HO := Lib.hid ho
  clear hb ho
  obtain ⟨E, hE⟩ : ∃ E, namesE p = E := ⟨_, rfl⟩
  obtain ⟨F, hF⟩ : ∃ F, namesE q = F := ⟨_, rfl⟩
  rw [hE]
  go_wp2_with fail
  refine (rfNames_any q w1).mono ?_
  rintro e w2 ⟨v2, rfl, ho, hb⟩
  have hs2 := hb.size
  have HB2 := Lib.hid (HB.out.trans (hb.mono hs1))
  have HO1 := Lib.hid (HO.out.below hb (Nat.le_refl _))
  have HO2 := Lib.hid ho
  clear hb ho HO
  rw [hF]
  by_cases hR : (rightB p && rightB q) = false
  · have HP := Lib.hid (belowB_not p q hR)
    rcases namesE_or p with ⟨h1, h2, h3⟩ | ⟨h1, h2, h3⟩
    · rcases namesE_or q with ⟨h4, h5, h6⟩ | ⟨h4, h5, h6⟩
      · rw [h1, h4] at hR; simp at hR
      · rw [h2] at hE
        rw [h5] at hF
        subst hE hF
        clear hR h1 h2 h3 h4 h5 h6
        go_wp2
        go_ret
        exact ⟨by rw [HP.out]; rfl, HB2.out⟩
    · rw [h2] at hE
      subst hE
      clear hR h1 h2 h3
      go_wp2
      go_ret
      exact ⟨by rw [HP.out]; rfl, HB2.out⟩
  · have hRR : rightB p = true ∧ rightB q = true := by
      rw [Bool.not_eq_false] at hR
      simpa using hR
    have HP := Lib.hid (belowB_yes p q hRR.1 hRR.2)
    have HN1 := names_yes p hRR.1
    have HN2 := names_yes q hRR.2
    rw [HN1.2] at hE
    rw [HN2.2] at hF
    subst hE hF
    rw [HN1.1] at HO1
    rw [HN2.1] at HO2
    have hl1 := (rightB_len p hRR.1).2.2.2
    have hl2 := (rightB_len q hRR.2).2.2.2
    obtain ⟨a, ha⟩ : ∃ a, cutL p = a := ⟨_, rfl⟩
    obtain ⟨b, hb⟩ : ∃ b, cutL q = b := ⟨_, rfl⟩
    rw [ha] at HO1 HP hl1
    rw [hb] at HO2 HP hl2
    have hr1 := HO1.out.rd
    have hr2 := HO2.out.rd
    clear hR hRR HN1 HN2 ha hb HO1 HO2
    obtain ⟨A, cp, rfl, hc, hm⟩ := hr1.shape
    obtain ⟨A2, cp2, rfl, hc2, hm3⟩ := hr2.shape
    unfold maxLen at hm hm3
    rw [bas_length] at hc hr1 hc2 hr2 ⊢
    rw [bas_length]
    obtain ⟨m, hm2⟩ : ∃ m, a.length = m := ⟨_, rfl⟩
    obtain ⟨n, hn2⟩ : ∃ n, b.length = n := ⟨_, rfl⟩
    have HM := Lib.hid hm2
    have HNN := Lib.hid hn2
    rw [hm2] at hc hr1 hl1 ⊢
    rw [hn2] at hc2 hr2 hl2 ⊢
    have HR1 := Lib.hid hr1
    have HR2 := Lib.hid hr2
    clear hm2 hn2 hr1 hr2
    by_cases hnm : n ≤ m
    · have HL := Lib.hid (belowL_len a b (by rw [HM.out, HNN.out]; exact hnm))
      have zi : (n : Int) ≤ (m : Int) := by omega
      go_wp2
      go_ret
      exact ⟨by rw [HP.out, HL.out]; rfl, HB2.out⟩
    · have zi : ¬ ((n : Int) ≤ (m : Int)) := by omega
      have hmn : m < n := by omega
      go_wp2
      go_loopw [9] (fun vi wr => ∃ i : Nat, i ≤ m ∧ vi = .int .i64 (i : Int) ∧ Hid (∀ j, j < i → a.getD j [] = b.getD j []) ∧ Hid (Below w2.heap.size w2 wr)) (fun vi _ => m - (intOf vi).toNat)
      case atStart => exact ⟨0, by omega, rfl, fun j hj => by omega, Below.refl _ _⟩
      case round =>
        obtain ⟨i, hi, rfl, HA, HBr⟩ := hrel
        have hwr := HBr.out.size
        by_cases hi2 : i < m
        · have zj : (i : Int) < (m : Int) := by omega
          have zk : (i : Int) < (n : Int) := by omega
          obtain ⟨a1, hA1, ca⟩ := (HR1.out.below HBr.out).at_ i (by rw [bas_length, HM.out]; exact hi2)
          obtain ⟨a2, hA2, cb⟩ := (HR2.out.below HBr.out).at_ i (by rw [bas_length, HNN.out]; omega)
          subst hA1 hA2
          obtain ⟨x, hx⟩ : ∃ x, a.getD i [] = x := ⟨_, rfl⟩
          obtain ⟨y, hy⟩ : ∃ y, b.getD i [] = y := ⟨_, rfl⟩
          rw [bas_at a i (by rw [HM.out]; exact hi2) x hx] at ca
          rw [bas_at b i (by rw [HNN.out]; omega) y hy] at cb
          have HX := Lib.hid hx
          have HY := Lib.hid hy
          clear hx hy
          go_wp2
          refine wp_region_quiet_lit (by kernel_rfl) (by kernel_rfl) ?_
          repeat (first | go_big_quiet_step (fail) | quiet_step (fail))
          refine wpQuiet_nil ?_
          intro _ hw'
          obtain ⟨nq, hw''⟩ := hw'
          subst hw''
          have HBn : Hid (Below w2.heap.size w2 (wr.drewN nq)) := Below.drewN' HBr.out
          by_cases hxy : x = y
          · have hxy2 : (x == y) = true := by simpa using hxy
            have HA2 : Hid (∀ j, j < i + 1 → a.getD j [] = b.getD j []) := by
              intro j hj
              by_cases h : j < i
              · exact HA.out j h
              · have : j = i := by omega
                subst this
                rw [HX.out, HY.out, hxy]
            clear hxy
            rw [hxy2]
            simp only [Bool.not_true]
            go_wp2
            go_roundw
            case rel => exact ⟨i + 1, by omega, by go_num, HA2, HBn⟩
            case measure => simp [intOf]; omega
          · have hxy2 := txt_ne x y hxy
            have HL := Lib.hid (belowL_diff a b i (by rw [HM.out]; exact hi2) (by rw [HX.out, HY.out]; exact hxy))
            clear hxy
            rw [hxy2]
            simp only [Bool.not_false]
            go_wp2
            go_ret
            exact ⟨by rw [HP.out, HL.out]; rfl, HB2.out.trans (HBn.out.mono (Nat.le_trans hs1 hs2))⟩
        · have hE : i = m := by omega
          subst hE
          have HL := Lib.hid (belowL_all a b (by rw [HM.out, HNN.out]; exact hmn) (by rw [HM.out]; exact HA.out))
          go_wp2
          go_ret
          exact ⟨by rw [HP.out, HL.out]; rfl, HB2.out.trans (HBr.out.mono (Nat.le_trans hs1 hs2))⟩
end Go.Proofs.YtpadjcmcpkegpaaDoor
