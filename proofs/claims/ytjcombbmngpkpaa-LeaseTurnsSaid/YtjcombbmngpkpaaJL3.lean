/-
  Rows of lease.Session: slices.BinarySearchFunc. Each theorem states its own conditions.
-/
import Derived.Test.YtjcombbmngpkpaaJL2
namespace Go.Proofs.Ytjcombbmngpkpaa
open Go.RowKit

set_option maxRecDepth 100000 in
set_option maxHeartbeats 4000000 in
/-- slices.BinarySearchFunc, where the first m are below and all others are not. -/
theorem bin_anySe (l : List Se) (tv : Value) (m f : Nat) (lb : Array Value) (q : Se → Int) (v : Value) (w : World) (hr : RdE SeK w.heap.size w v l) (hl : l.length ≤ 100000) (hm0 : m ≤ l.length) (ef : ∀ args w, (callFunc f args).run Try.prog w = .ok (.enter f args) w)
    (hq : ∀ i, i < l.length → (q (l.getD i se0) < 0 ↔ i < m)) (hp : ∀ i W, i < l.length → Below w.heap.size w W → Calls Try.prog f (#[.agg #[.int .i64 (sI (l.getD i se0)), .int .i64 (sP (l.getD i se0)), .int .i64 (sU (l.getD i se0))], tv] ++ lb) W (One (.int .i64 (q (l.getD i se0))) W)) :
    Calls Try.prog 33 #[v, tv, .func (.func f) #[] lb] w (One (.tuple #[.int .i64 (m : Int), .bool (decide (m < l.length) && decide (q (l.getD m se0) = 0))]) w) := by
  obtain ⟨A, cp, rfl, hc, hm⟩ := hr.shape
  unfold maxLen at hm
  obtain ⟨n, hn⟩ : ∃ n, l.length = n := ⟨_, rfl⟩
  have HN := Lib.hid hn
  have HR := Lib.hid hr
  have HL := Lib.hid hl
  have HQ := Lib.hid hq
  have HP := Lib.hid hp
  obtain ⟨R, hR⟩ : ∃ R, (decide (m < l.length) && decide (q (l.getD m se0) = 0)) = R := ⟨_, rfl⟩
  have HRR := Lib.hid hR
  rw [hR]
  rw [hn] at HR HL HQ HP HRR hc hm0 ⊢
  have hl' := HL.out
  clear hr hl hq hp hn hR
  go_enter Try.func33, Try.ntmps33
  go_wp2
  go_loopw [9, 10] (fun x y wr => ∃ lo hi : Nat, x = .int .i64 (lo : Int) ∧ y = .int .i64 (hi : Int) ∧ lo ≤ m ∧ m ≤ hi ∧ hi ≤ n ∧ Hid (Below w.heap.size w wr)) (fun x y _ => (intOf y).toNat - (intOf x).toNat)
  case atStart => exact ⟨0, n, rfl, rfl, by omega, hm0, Nat.le_refl _, Below.refl _ _⟩
  case round =>
    obtain ⟨lo, hi, rfl, rfl, h1, h2, h3, HW⟩ := hrel
    by_cases hlt : lo < hi
    · have hltz : (lo : Int) < (hi : Int) := by omega
      obtain ⟨k, hk⟩ : ∃ k, (lo + hi) / 2 = k := ⟨_, rfl⟩
      have hkn : k < n := by omega
      have hkz : ((lo : Int) + (hi : Int)) / 2 = (k : Int) := by omega
      have hknz : (k : Int) < (n : Int) := by omega
      obtain ⟨a, hA, c0, c1, c2⟩ := (HR.out.below HW.out).at3 k (by rw [HN.out]; exact hkn)
      subst hA
      have hcq := HQ.out k hkn
      have hcc := HP.out k wr hkn HW.out
      obtain ⟨x, hx⟩ : ∃ x, l.getD k se0 = x := ⟨_, rfl⟩
      rw [hx] at c0 c1 c2 hcq hcc
      obtain ⟨z, hz⟩ : ∃ z, q x = z := ⟨_, rfl⟩
      rw [hz] at hcq hcc
      have HC := Lib.hid hcc
      have HCQ := Lib.hid hcq
      have HK := Lib.hid hk
      clear hcc hx hz hcq hk
      by_cases hzn : z < 0
      · have hkm : k < m := HCQ.out.1 hzn
        go_wp2_with (refine HC.out.mono ?_; rintro e w2 ⟨rfl, hb⟩)
        go_roundw
        case rel => exact ⟨k + 1, hi, by go_num, rfl, by omega, h2, h3, HW.out.trans (hb.mono HW.out.size)⟩
        case measure => have := HK.out; simp [intOf]; omega
      · have hkm : ¬ k < m := fun h => hzn (HCQ.out.2 h)
        go_wp2_with (refine HC.out.mono ?_; rintro e w2 ⟨rfl, hb⟩)
        go_roundw
        case rel => exact ⟨lo, k, rfl, rfl, h1, by omega, by omega, HW.out.trans (hb.mono HW.out.size)⟩
        case measure => have := HK.out; simp [intOf]; omega
    · have hE : lo = m := by omega
      have hE2 : m = hi := by omega
      subst hE
      subst hE2
      by_cases hmn : lo < n
      · have hmz : (lo : Int) < (n : Int) := by omega
        obtain ⟨a, hA, c0, c1, c2⟩ := (HR.out.below HW.out).at3 lo (by rw [HN.out]; exact hmn)
        subst hA
        have hcc := HP.out lo wr hmn HW.out
        obtain ⟨x, hx⟩ : ∃ x, l.getD lo se0 = x := ⟨_, rfl⟩
        have hrr := HRR.out
        rw [hx] at c0 c1 c2 hcc hrr
        obtain ⟨z, hz⟩ : ∃ z, q x = z := ⟨_, rfl⟩
        rw [hz] at hcc hrr
        rw [decide_eq_true hmn, Bool.true_and] at hrr
        have HC := Lib.hid hcc
        have HE := Lib.hid hrr
        clear hcc hx hz hrr
        go_wp2_with (refine HC.out.mono ?_; rintro e w2 ⟨rfl, hb⟩)
        have HB2 := Lib.hid (HW.out.trans (hb.mono HW.out.size))
        clear hb
        go_wp2
        go_ret2
        exact ⟨by rw [← HE.out]; rfl, HB2.out⟩
      · have hrr := HRR.out
        rw [decide_eq_false hmn, Bool.false_and] at hrr
        have HE := Lib.hid hrr
        clear hrr
        have hmz : ¬ (lo : Int) < (n : Int) := by omega
        go_wp2
        go_ret2
        exact ⟨by rw [← HE.out]; rfl, HW.out⟩
end Go.Proofs.Ytjcombbmngpkpaa
