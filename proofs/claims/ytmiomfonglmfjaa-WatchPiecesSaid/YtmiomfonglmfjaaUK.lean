/-
  The program's watches: slices.DeleteFunc with any test, over a row of a call's own. Each theorem states its own conditions.
-/
import Derived.Test.YtmiomfonglmfjaaUJ
namespace Go.Proofs.Ytmiomfonglmfjaa
open Go.RowKit

set_option maxRecDepth 100000 in
set_option maxHeartbeats 8000000 in
theorem delFunc_any (q : Wa → Bool) (l : List Wa) (v fv : Value) (p r base : Nat) (w : World) (ho : OwnE WaK 31 w base v l) (hbw : base ≤ w.heap.size) (ht : Tests q fv p r w) (hpr : r ≤ w.heap.size) (hne : ∀ g, v.ownBlock = some g → ¬ (p ≤ g ∧ g < r)) :
    Calls Try.prog 36 #[v, fv] w (EditsE WaK 31 v base (l.filter fun x => !q x) w) := by
  obtain ⟨i1, hJ, hy0, hy1, hy2⟩ := infoPWa
  have hrd := ho.rd
  obtain ⟨A, cp, rfl, hc, hm⟩ := hrd.shape
  unfold maxLen at hm
  have hidx := indexFunc_any q l (.slice A l.length cp) fv p r w hrd ht hpr
  obtain ⟨f, lb, rfl, ef, hf⟩ := ht
  obtain ⟨n, hn⟩ : ∃ n, l.length = n := ⟨_, rfl⟩
  obtain ⟨F, hF⟩ : ∃ F, l.findIdx q = F := ⟨_, rfl⟩
  have HN := Lib.hid hn
  have HF := Lib.hid hF
  have HI := Lib.hid hidx
  have HO := Lib.hid ho
  rw [hn] at hc HI HO hne ⊢
  clear hrd hn hidx ho hF
  go_enter Try.func36, Try.ntmps36
  go_wp2_with fail
  refine HI.out.mono ?_
  rintro e w1 ⟨z, rfl, hz, hb⟩
  rw [HF.out, HN.out] at hz
  have HB := Lib.hid hb
  have hw1 := hb.size
  have HO1 := Lib.hid (HO.out.below hb (Nat.le_refl _))
  clear hb HI
  by_cases hFn : F < n
  rotate_left
  · rw [if_neg hFn] at hz
    subst hz
    have HL : Hid ((l.filter fun x => !q x) = l) := by
      show _ = _
      rw [List.filter_eq_self]
      intro x hx
      have hfl : l.findIdx q = l.length := by
        have : l.findIdx q ≤ l.length := List.findIdx_le_length
        have h1 := HF.out
        have h2 := HN.out
        omega
      rw [List.findIdx_eq_length] at hfl
      simpa using hfl x hx
    go_wp2
    go_ret
    refine ⟨_, rfl, by rw [HL.out]; exact HO1.out, HB.out.mono hbw, fun k hk _ => HB.out.block k hk⟩
  rw [if_pos hFn] at hz
  subst hz
  have hz1 : ((F : Int) == -1) = false := by
    rw [beq_eq_false_iff_ne]
    omega
  obtain ⟨g, cap, hv, hcap, hbg, hgw⟩ := HO.out.inBlock (by rw [HN.out]; omega)
  rw [HN.out] at hv hcap
  obtain ⟨rfl, rfl⟩ : A = some ⟨g, 0, none⟩ ∧ cp = cap := by
    injection hv with e1 e2 e3
    exact ⟨e1, e3⟩
  clear hv
  have hgne : ¬ (p ≤ g ∧ g < r) := hne g rfl
  have HT : Hid (∀ W, (∀ k, k < w.heap.size → k ≠ g → W.heap[k]? = w.heap[k]?) → ∀ x : Wa, Calls Try.prog f (#[.agg #[txt (wP x), .int .i64 (wC x), .bool (wK x)]] ++ lb) W (One (.bool (q x)) W)) := fun W hW x => hf W (fun k k1 k2 => hW k (by omega) (fun e => hgne ⟨by omega, by omega⟩)) x
  have HK1 : Hid (∀ k, k < w.heap.size → k ≠ g → w1.heap[k]? = w.heap[k]?) := fun k hk _ => HB.out.block k hk
  have HB1 : Hid (Below base w w1) := HB.out.mono hbw
  have HST := Lib.hid (kept_start q l (by rw [HF.out, HN.out]; exact hFn))
  rw [HF.out] at HST
  have hww1 : w.heap.size ≤ w1.heap.size := hw1
  clear HB HO hf
  go_wp2
  go_loopw [5, 6] (fun x y wr => ∃ (i j : Nat) (L : List Wa), x = .int .i64 (i : Int) ∧ y = .int .i64 (j : Int) ∧ i < j ∧ j ≤ n ∧ Hid (KeptW q l L i j) ∧ Hid (OwnE WaK 31 wr base (.slice (some ⟨g, 0, none⟩) n cp) L) ∧ Hid (Below base w wr) ∧ Hid (∀ k, k < w.heap.size → k ≠ g → wr.heap[k]? = w.heap[k]?) ∧ w.heap.size ≤ wr.heap.size) (fun _ y _ => n - (intOf y).toNat)
  case atStart => exact ⟨F, F + 1, l, rfl, by go_num, by omega, by omega, HST, HO1, HB1, HK1, hww1⟩
  case round =>
    obtain ⟨i, j, L, rfl, rfl, hij, hj, HKP, HOr, HBr, HKr, hwr⟩ := hrel
    by_cases hj2 : j < n
    · have zj : (j : Int) < (n : Int) := by omega
      have HLN : Hid (L.length = n) := by
        show _ = _
        rw [HKP.out.len]
        exact HN.out
      obtain ⟨a, hA, c0, c1, c2⟩ := HOr.out.rd.atWa j (by rw [HLN.out]; exact hj2)
      obtain rfl : (⟨g, 0, none⟩ : Addr) = a := Option.some.inj hA
      obtain ⟨x, hx⟩ : ∃ x, l.getD j wa0 = x := ⟨_, rfl⟩
      have hat := kept_at HKP.out (by rw [HN.out]; exact hj2)
      rw [hat, hx] at c0 c1 c2
      simp only [Addr.add_lit, Nat.zero_add] at c0 c1 c2
      have hsk := kept_skip HKP.out (by rw [HN.out]; exact hj2)
      have hmv := kept_move HKP.out (by rw [HN.out]; exact hj2)
      rw [hx] at hsk hmv
      have HSK := Lib.hid hsk
      have HMV := Lib.hid hmv
      clear hA hx hat hsk hmv
      go_wp2_with (refine wpList_alloc_blk rfl 31 rfl (wac wa0) zeroWaP ?_)
      intro wa a1 a2 a3
      obtain ⟨gA, hgA⟩ : ∃ g, wr.heap.size = g := ⟨_, rfl⟩
      have A1 := Lib.hid a1
      have HOa := Lib.hid (HOr.out.below a3 (Nat.le_refl _))
      have HBa := Lib.hid (HBr.out.trans (a3.mono (by omega)))
      have HKa : Hid (∀ k, k < w.heap.size → k ≠ g → wa.heap[k]? = w.heap[k]?) := fun k k1 k2 => (a3.block k (by omega)).trans (HKr.out k k1 k2)
      have hgg : g < gA := by omega
      have hwa : w.heap.size ≤ gA := by omega
      have hba : base ≤ gA := by omega
      have hsa : wa.heap.size = gA + 1 := by omega
      rw [hgA] at A1 ⊢
      clear a1 a2 a3 HOr HBr HKr c0 c1 c2 hgA
      go_wp2_with (refine wpList_store_to rfl 31 _ _ rfl gA (wac x) (wac wa0) 31 rfl rfl A1.out szWaP rfl (wac_all x) ?_)
      intro wb e1 e2 e3 e4
      have E1 := Lib.hid e1
      have HOb : Hid (OwnE WaK 31 wb base (.slice (some ⟨g, 0, none⟩) n cp) L) := ownsRow_but HOa.out (fun e => absurd (Option.some.inj e : g = gA) (by omega)) e4
      have HBb := Lib.hid (HBa.out.trans (e3.mono hba))
      have HKb : Hid (∀ k, k < w.heap.size → k ≠ g → wb.heap[k]? = w.heap[k]?) := fun k k1 k2 => (e3.block k (by omega)).trans (HKa.out k k1 k2)
      have d0 := e1.at_ 0 _ rfl
      have d1 := e1.at_ 1 _ rfl
      have d2 := e1.at_ 2 _ rfl
      have hsb : wb.heap.size = gA + 1 := by omega
      clear e1 e2 e3 e4 A1 HOa HBa HKa
      have hcall := HT.out wb HKb.out x
      obtain ⟨B, hB⟩ : ∃ B, q x = B := ⟨_, rfl⟩
      rw [hB] at hcall
      have HC := Lib.hid hcall
      have HBB := Lib.hid hB
      clear hcall hB
      go_wp2_with fail
      refine HC.out.mono ?_
      rintro e w2 ⟨rfl, hb⟩
      have E2 := Lib.hid (E1.out.below hb (by omega))
      have HO2 := Lib.hid (HOb.out.below hb (Nat.le_refl _))
      have HB2 := Lib.hid (HBb.out.trans (hb.mono (by omega)))
      have HK2 : Hid (∀ k, k < w.heap.size → k ≠ g → w2.heap[k]? = w.heap[k]?) := fun k k1 k2 => (hb.block k (by omega)).trans (HKb.out k k1 k2)
      have hs2 : w.heap.size ≤ w2.heap.size := by have := hb.size; omega
      clear hb d0 d1 d2 E1 HOb HBb HKb HC
      have d0 := E2.out.at_ 0 _ rfl
      have d1 := E2.out.at_ 1 _ rfl
      have d2 := E2.out.at_ 2 _ rfl
      cases B
      · have HKN := Lib.hid (HMV.out HBB.out)
        obtain ⟨o1, o2, o3⟩ := HO2.out.stored i (by rw [HLN.out]; omega) x
        have zi : (i : Int) < (n : Int) := by omega
        have O1 := Lib.hid o1
        have O2 := Lib.hid o2
        have O3 := Lib.hid (HB2.out.trans o3)
        have HK3 : Hid (∀ k, k < w.heap.size → k ≠ g → (w2.setCells g (i * 3) (wac x)).heap[k]? = w.heap[k]?) := fun k k1 k2 => (setCells_otherE g _ _ _ k k2).trans (HK2.out k k1 k2)
        have hs3 : w.heap.size ≤ (w2.setCells g (i * 3) (wac x)).heap.size := by rw [setCells_sizeE]; exact hs2
        clear o1 o2 o3
        go_wp2_with (refine wpList_store_mid rfl 31 _ _ rfl g (i * 3) (wac x).toArray rfl rfl O2.out szWaP (wac_all x) ?_)
        go_wp2
        go_roundw
        case rel => exact ⟨i + 1, j + 1, L.set i x, by go_num, by go_num, by omega, by omega, HKN, O1, O3, HK3, hs3⟩
        case measure => simp [intOf]; omega
      · have HKN := Lib.hid (HSK.out HBB.out)
        clear d0 d1 d2
        go_wp2
        go_roundw
        case rel => exact ⟨i, j + 1, L, rfl, by go_num, by omega, by omega, HKN, HO2, HB2, HK2, hs2⟩
        case measure => simp [intOf]; omega
    · have hE : j = n := by omega
      subst hE
      have HEN : Hid (L.take i = l.filter fun x => !q x) := by
        show _ = _
        have h := HKP.out
        rw [← HN.out] at h
        exact kept_end h
      obtain ⟨zs, hz0, hz2, hz3⟩ := zerosW (j - i)
      obtain ⟨o1, o2, o3⟩ := cleared_ownWa HOr.out (show i ≤ j by omega) zs hz2
      rw [HEN.out] at o1
      have O1 := Lib.hid o1
      have O2 := Lib.hid (HBr.out.trans o2)
      have O3 := Lib.hid o3
      have Z0 := Lib.hid hz0
      have Z3 := Lib.hid hz3
      clear o1 o2 o3 hz0 hz2 hz3
      have hci : ¬ (cp = i) := by omega
      have hi1 : i ≤ cp := by omega
      have hi2 : i ≤ j := by omega
      have hi3 : (i : Int) ≤ (j : Int) := by omega
      have hi4 : (0 : Int) ≤ (i : Int) := by omega
      have hi6 : j ≤ cp := by omega
      go_wp2_with (refine wpList_clearE_run rfl _ 22 rfl _ rfl (run_clear_many _ 22 31 _ i1 zWa zs Try.underlying22 hJ hy0 g (i * 3) (j - i) _ (by omega) Z0.out Z3.out O3.out) ?_)
      go_wp2
      go_ret
      refine ⟨_, rfl, O1.out, O2.out, fun k hk hv => (setCells_otherE g _ _ _ k (fun e => hv (by rw [e]; rfl))).trans (HKr.out k hk (fun e => hv (by rw [e]; rfl)))⟩
end Go.Proofs.Ytmiomfonglmfjaa
