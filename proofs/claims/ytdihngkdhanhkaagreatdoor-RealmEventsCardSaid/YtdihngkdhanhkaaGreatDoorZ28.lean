/-
  Texts UK UL UC UM UD.
-/
import Derived.Test.YtdihngkdhanhkaaGreatDoorZ05
import Derived.Test.YtdihngkdhanhkaaGreatDoorZ26
import Derived.Test.YtdihngkdhanhkaaGreatDoorZ27
namespace Go.Proofs.YtdihngkdhanhkaaGreatDoor
open Go.RowKit

set_option maxRecDepth 100000 in
set_option maxHeartbeats 8000000 in
theorem delFunc_any (q : Wa → Bool) (l : List Wa) (v fv : Value) (p r base : Nat) (w : World) (ho : OwnE WaK 94 w base v l) (hbw : base ≤ w.heap.size) (ht : Tests q fv p r w) (hpr : r ≤ w.heap.size) (hne : ∀ g, v.ownBlock = some g → ¬ (p ≤ g ∧ g < r)) :
    Calls Tryz.prog 141 #[v, fv] w (EditsE WaK 94 v base (l.filter fun x => !q x) w) := by
  obtain ⟨i1, hJ, hy0, hy1, hy2⟩ := infoPWa
  have hrd := ho.rd
  obtain ⟨A, cp, rfl, hc, hm⟩ := hrd.shape
  unfold maxLen at hm
  have hidx := indexFunc_any q l (.slice A l.length cp) fv p r w hrd ht hpr
  obtain ⟨f, lb, rfl, ef, hf⟩ := ht
  obtain ⟨n, hn⟩ : ∃ n, l.length = n := ⟨_, rfl⟩
  obtain ⟨F, hF⟩ : ∃ F, l.findIdx q = F := ⟨_, rfl⟩
  have HN := Lib.hid hn
  have HF := Lib.hid hF
  have HI := Lib.hid hidx
  have HO := Lib.hid ho
  rw [hn] at hc HI HO hne ⊢
  clear hrd hn hidx ho hF
  go_enter Tryz.func141, Tryz.ntmps141
  go_wp2_with fail
  refine HI.out.mono ?_
  rintro e w1 ⟨z, rfl, hz, hb⟩
  rw [HF.out, HN.out] at hz
  have HB := Lib.hid hb
  have hw1 := hb.size
  have HO1 := Lib.hid (HO.out.below hb (Nat.le_refl _))
  clear hb HI
  by_cases hFn : F < n
  rotate_left
  · rw [if_neg hFn] at hz
    subst hz
    have HL : Hid ((l.filter fun x => !q x) = l) := by
      show _ = _
      rw [List.filter_eq_self]
      intro x hx
      have hfl : l.findIdx q = l.length := by
        have : l.findIdx q ≤ l.length := List.findIdx_le_length
        have h1 := HF.out
        have h2 := HN.out
        omega
      rw [List.findIdx_eq_length] at hfl
      simpa using hfl x hx
    go_wp2
    go_ret
    refine ⟨_, rfl, by rw [HL.out]; exact HO1.out, HB.out.mono hbw, fun k hk _ => HB.out.block k hk⟩
  rw [if_pos hFn] at hz
  subst hz
  have hz1 : ((F : Int) == -1) = false := by
    rw [beq_eq_false_iff_ne]
    omega
  obtain ⟨g, cap, hv, hcap, hbg, hgw⟩ := HO.out.inBlock (by rw [HN.out]; omega)
  rw [HN.out] at hv hcap
  obtain ⟨rfl, rfl⟩ : A = some ⟨g, 0, none⟩ ∧ cp = cap := by
    injection hv with e1 e2 e3
    exact ⟨e1, e3⟩
  clear hv
  have hgne : ¬ (p ≤ g ∧ g < r) := hne g rfl
  have HT : Hid (∀ W, (∀ k, k < w.heap.size → k ≠ g → W.heap[k]? = w.heap[k]?) → ∀ x : Wa, Calls Tryz.prog f (#[.agg #[txt (wP x), .int .i64 (wC x), .bool (wK x)]] ++ lb) W (One (.bool (q x)) W)) := fun W hW x => hf W (fun k k1 k2 => hW k (by omega) (fun e => hgne ⟨by omega, by omega⟩)) x
  have HK1 : Hid (∀ k, k < w.heap.size → k ≠ g → w1.heap[k]? = w.heap[k]?) := fun k hk _ => HB.out.block k hk
  have HB1 : Hid (Below base w w1) := HB.out.mono hbw
  have HST := Lib.hid (kept_start q l (by rw [HF.out, HN.out]; exact hFn))
  rw [HF.out] at HST
  have hww1 : w.heap.size ≤ w1.heap.size := hw1
  clear HB HO hf
  go_wp2
  go_loopw [5, 6] (fun x y wr => ∃ (i j : Nat) (L : List Wa), x = .int .i64 (i : Int) ∧ y = .int .i64 (j : Int) ∧ i < j ∧ j ≤ n ∧ Hid (KeptW q l L i j) ∧ Hid (OwnE WaK 94 wr base (.slice (some ⟨g, 0, none⟩) n cp) L) ∧ Hid (Below base w wr) ∧ Hid (∀ k, k < w.heap.size → k ≠ g → wr.heap[k]? = w.heap[k]?) ∧ w.heap.size ≤ wr.heap.size) (fun _ y _ => n - (intOf y).toNat)
  case atStart => exact ⟨F, F + 1, l, rfl, by go_num, by omega, by omega, HST, HO1, HB1, HK1, hww1⟩
  case round =>
    obtain ⟨i, j, L, rfl, rfl, hij, hj, HKP, HOr, HBr, HKr, hwr⟩ := hrel
    by_cases hj2 : j < n
    · have zj : (j : Int) < (n : Int) := by omega
      have HLN : Hid (L.length = n) := by
        show _ = _
        rw [HKP.out.len]
        exact HN.out
      obtain ⟨a, hA, c0, c1, c2⟩ := HOr.out.rd.atWa j (by rw [HLN.out]; exact hj2)
      obtain rfl : (⟨g, 0, none⟩ : Addr) = a := Option.some.inj hA
      obtain ⟨x, hx⟩ : ∃ x, l.getD j wa0 = x := ⟨_, rfl⟩
      have hat := kept_at HKP.out (by rw [HN.out]; exact hj2)
      rw [hat, hx] at c0 c1 c2
      simp only [Addr.add_lit, Nat.zero_add] at c0 c1 c2
      have hsk := kept_skip HKP.out (by rw [HN.out]; exact hj2)
      have hmv := kept_move HKP.out (by rw [HN.out]; exact hj2)
      rw [hx] at hsk hmv
      have HSK := Lib.hid hsk
      have HMV := Lib.hid hmv
      clear hA hx hat hsk hmv
      go_wp2_with (refine wpList_alloc_blk rfl 94 rfl (wac wa0) zeroWaP ?_)
      intro wa a1 a2 a3
      obtain ⟨gA, hgA⟩ : ∃ g, wr.heap.size = g := ⟨_, rfl⟩
      have A1 := Lib.hid a1
      have HOa := Lib.hid (HOr.out.below a3 (Nat.le_refl _))
      have HBa := Lib.hid (HBr.out.trans (a3.mono (by omega)))
      have HKa : Hid (∀ k, k < w.heap.size → k ≠ g → wa.heap[k]? = w.heap[k]?) := fun k k1 k2 => (a3.block k (by omega)).trans (HKr.out k k1 k2)
      have hgg : g < gA := by omega
      have hwa : w.heap.size ≤ gA := by omega
      have hba : base ≤ gA := by omega
      have hsa : wa.heap.size = gA + 1 := by omega
      rw [hgA] at A1 ⊢
      clear a1 a2 a3 HOr HBr HKr c0 c1 c2 hgA
      go_wp2_with (refine wpList_store_to rfl 94 _ _ rfl gA (wac x) (wac wa0) 94 rfl rfl A1.out szWaP rfl (wac_all x) ?_)
      intro wb e1 e2 e3 e4
      have E1 := Lib.hid e1
      have HOb : Hid (OwnE WaK 94 wb base (.slice (some ⟨g, 0, none⟩) n cp) L) := ownsRow_but HOa.out (fun e => absurd (Option.some.inj e : g = gA) (by omega)) e4
      have HBb := Lib.hid (HBa.out.trans (e3.mono hba))
      have HKb : Hid (∀ k, k < w.heap.size → k ≠ g → wb.heap[k]? = w.heap[k]?) := fun k k1 k2 => (e3.block k (by omega)).trans (HKa.out k k1 k2)
      have d0 := e1.at_ 0 _ rfl
      have d1 := e1.at_ 1 _ rfl
      have d2 := e1.at_ 2 _ rfl
      have hsb : wb.heap.size = gA + 1 := by omega
      clear e1 e2 e3 e4 A1 HOa HBa HKa
      have hcall := HT.out wb HKb.out x
      obtain ⟨B, hB⟩ : ∃ B, q x = B := ⟨_, rfl⟩
      rw [hB] at hcall
      have HC := Lib.hid hcall
      have HBB := Lib.hid hB
      clear hcall hB
      go_wp2_with fail
      refine HC.out.mono ?_
      rintro e w2 ⟨rfl, hb⟩
      have E2 := Lib.hid (E1.out.below hb (by omega))
      have HO2 := Lib.hid (HOb.out.below hb (Nat.le_refl _))
      have HB2 := Lib.hid (HBb.out.trans (hb.mono (by omega)))
      have HK2 : Hid (∀ k, k < w.heap.size → k ≠ g → w2.heap[k]? = w.heap[k]?) := fun k k1 k2 => (hb.block k (by omega)).trans (HKb.out k k1 k2)
      have hs2 : w.heap.size ≤ w2.heap.size := by have := hb.size; omega
      clear hb d0 d1 d2 E1 HOb HBb HKb HC
      have d0 := E2.out.at_ 0 _ rfl
      have d1 := E2.out.at_ 1 _ rfl
      have d2 := E2.out.at_ 2 _ rfl
      cases B
      · have HKN := Lib.hid (HMV.out HBB.out)
        obtain ⟨o1, o2, o3⟩ := HO2.out.stored i (by rw [HLN.out]; omega) x
        have zi : (i : Int) < (n : Int) := by omega
        have O1 := Lib.hid o1
        have O2 := Lib.hid o2
        have O3 := Lib.hid (HB2.out.trans o3)
        have HK3 : Hid (∀ k, k < w.heap.size → k ≠ g → (w2.setCells g (i * 3) (wac x)).heap[k]? = w.heap[k]?) := fun k k1 k2 => (setCells_otherE g _ _ _ k k2).trans (HK2.out k k1 k2)
        have hs3 : w.heap.size ≤ (w2.setCells g (i * 3) (wac x)).heap.size := by rw [setCells_sizeE]; exact hs2
        clear o1 o2 o3
        go_wp2_with (refine wpList_store_mid rfl 94 _ _ rfl g (i * 3) (wac x).toArray rfl rfl O2.out szWaP (wac_all x) ?_)
        go_wp2
        go_roundw
        case rel => exact ⟨i + 1, j + 1, L.set i x, by go_num, by go_num, by omega, by omega, HKN, O1, O3, HK3, hs3⟩
        case measure => simp [intOf]; omega
      · have HKN := Lib.hid (HSK.out HBB.out)
        clear d0 d1 d2
        go_wp2
        go_roundw
        case rel => exact ⟨i, j + 1, L, rfl, by go_num, by omega, by omega, HKN, HO2, HB2, HK2, hs2⟩
        case measure => simp [intOf]; omega
    · have hE : j = n := by omega
      subst hE
      have HEN : Hid (L.take i = l.filter fun x => !q x) := by
        show _ = _
        have h := HKP.out
        rw [← HN.out] at h
        exact kept_end h
      obtain ⟨zs, hz0, hz2, hz3⟩ := zerosW (j - i)
      obtain ⟨o1, o2, o3⟩ := cleared_ownWa HOr.out (show i ≤ j by omega) zs hz2
      rw [HEN.out] at o1
      have O1 := Lib.hid o1
      have O2 := Lib.hid (HBr.out.trans o2)
      have O3 := Lib.hid o3
      have Z0 := Lib.hid hz0
      have Z3 := Lib.hid hz3
      clear o1 o2 o3 hz0 hz2 hz3
      have hci : ¬ (cp = i) := by omega
      have hi1 : i ≤ cp := by omega
      have hi2 : i ≤ j := by omega
      have hi3 : (i : Int) ≤ (j : Int) := by omega
      have hi4 : (0 : Int) ≤ (i : Int) := by omega
      have hi6 : j ≤ cp := by omega
      go_wp2_with (refine wpList_clearE_run rfl _ 28 rfl _ rfl (run_clear_many _ 28 94 _ i1 zWa zs Tryz.underlying28 hJ hy0 g (i * 3) (j - i) _ (by omega) Z0.out Z3.out O3.out) ?_)
      go_wp2
      go_ret
      refine ⟨_, rfl, O1.out, O2.out, fun k hk hv => (setCells_otherE g _ _ _ k (fun e => hv (by rw [e]; rfl))).trans (HKr.out k hk (fun e => hv (by rw [e]; rfl)))⟩
end Go.Proofs.YtdihngkdhanhkaaGreatDoor
namespace Go.Proofs.YtdihngkdhanhkaaGreatDoor
open Go.RowKit

theorem rowTbP : ∃ d, Tryz.prog.underlying 30 = some d ∧ d.isRow = true := ⟨_, Tryz.underlying30, rfl⟩
theorem sTbP : (Tryz.prog.info? 30).map (·.size) = some 1 := by kernel_rfl
theorem zTbP : (Tryz.prog.info? 30).map (·.zero) = some (some (.agg [Value.slice none 0 0].toArray)) := by kernel_rfl
theorem zStrP : (Tryz.prog.info? 9).map (·.zero) = some (some (txt [])) := by kernel_rfl
theorem zBoolP : (Tryz.prog.info? 4).map (·.zero) = some (some (Value.bool false)) := by kernel_rfl
theorem sStrP : (Tryz.prog.info? 9).map (·.size) = some 1 := by kernel_rfl
theorem sBoolP : (Tryz.prog.info? 4).map (·.size) = some 1 := by kernel_rfl
theorem pRightIs (s : List UInt8) (b : Bool) (h : rightB s = b) (w : World) : Calls Tryz.prog 100 #[txt s] w (One (.bool b) w) := by
  rw [← h]
  exact pxRight_any s w
theorem pParentIs (s u : List UInt8) (f : Nat) (h : parentS s = u) (h2 : parentE s = f) (w : World) : Calls Tryz.prog 103 #[txt s] w (Says u f w) := by
  rw [← h, ← h2]
  exact pxParent_any s w
/-- The call answers a test. -/
def TestsOf (q : Wa → Bool) (w : World) (e : Ending) (w' : World) : Prop := ∃ fv, e = .returned fv ∧ Tests q fv w.heap.size w'.heap.size w' ∧ Below w.heap.size w w'
theorem ask_touch (c : Ch) (h1 : ¬ cK c < 1) (h2 : ¬ 3 < cK c) (h3 : rightB (cP c) = true) : askB c (parentS (cP c)) (decide (parentE (cP c) = 0) && decide (cK c ≠ 2)) = touchB c := by
  funext x
  unfold askB
  cases hk : wK x
  · rw [if_neg (by simp), touch_here c x h1 h2 h3 hk]
    by_cases h : wP x = cP c
    · rw [decide_eq_true h, decide_eq_true h.symm]
    · rw [decide_eq_false h, decide_eq_false (fun e => h e.symm)]
  · rw [if_pos rfl, touch_kids c x h1 h2 h3 hk]
    unfold kidsB
    by_cases h : wP x = parentS (cP c)
    · rw [decide_eq_true h, decide_eq_true h.symm]
      cases decide (parentE (cP c) = 0) <;> simp
    · have h' : ¬ parentS (cP c) = wP x := fun e => h e.symm
      rw [decide_eq_false h, decide_eq_false h']
      simp
theorem none_touch (c : Ch) (h : cK c < 1 ∨ 3 < cK c ∨ rightB (cP c) = false) : (fun _ => false) = touchB c := by
  funext x
  rcases h with h | h | h
  · rw [touch_low c x h]
  · rw [touch_high c x h]
  · rw [touch_bad c x h]

set_option maxRecDepth 100000 in
set_option maxHeartbeats 8000000 in
theorem touchedBy_any (c : Ch) (w : World) : Calls Tryz.prog 63 #[.agg #[.int .i64 (cK c), txt (cP c)]] w (TestsOf (touchB c) w) := by
  have hnone := none_touch c
  have hask := ask_touch c
  obtain ⟨Q, hQ⟩ : ∃ Q, touchB c = Q := ⟨_, rfl⟩
  rw [hQ] at hnone hask ⊢
  clear hQ
  obtain ⟨par, hpar⟩ : ∃ u, parentS (cP c) = u := ⟨_, rfl⟩
  obtain ⟨f, hf⟩ : ∃ f, parentE (cP c) = f := ⟨_, rfl⟩
  obtain ⟨R, hR⟩ : ∃ R, rightB (cP c) = R := ⟨_, rfl⟩
  rw [hpar, hf, hR] at hask
  rw [hR] at hnone
  have HPar := Lib.hid hpar
  have HF := Lib.hid hf
  have HRR := Lib.hid hR
  have HNO := Lib.hid hnone
  have HAS := Lib.hid hask
  have hmf : ∀ (fn : Fn) (first cap : Array Value) (w : World), (Instr.makeFunc fn first cap).run Tryz.prog w = .ok (.func fn first cap) w := fun _ _ _ _ => rfl
  clear hnone hask hpar hf hR
  go_enter Tryz.func63, Tryz.ntmps63
  go_wp2_with (refine wpList_box_blk rfl 96 _ rfl (chc c) rfl ?_)
  intro w1 b1 b2 b3
  obtain ⟨g0, hg0⟩ : ∃ g, w.heap.size = g := ⟨_, rfl⟩
  have X0 := Lib.hid b1
  have HB := Lib.hid b3
  have hs1 : w1.heap.size = g0 + 1 := by omega
  have HG0 := Lib.hid hg0
  rw [hg0] at X0 HB ⊢
  have ca := X0.out.at_ 0 _ rfl
  have cb := X0.out.at_ 1 _ rfl
  clear b1 b2 b3 hg0
  by_cases hlo : cK c < 1
  · have HX := Lib.hid (HNO.out (.inl hlo))
    go_wp2
    go_ret
    exact ⟨_, rfl, by rw [← HX.out]; exact noneIs _ _ _, by rw [HG0.out]; exact HB.out⟩
  by_cases hhi : 3 < cK c
  · have HX := Lib.hid (HNO.out (.inr (.inl hhi)))
    go_wp2
    go_ret
    exact ⟨_, rfl, by rw [← HX.out]; exact noneIs _ _ _, by rw [HG0.out]; exact HB.out⟩
  go_wp2_with fail
  refine (pRightIs (cP c) R HRR.out w1).mono ?_
  rintro e w2 ⟨rfl, hb⟩
  have X2 := Lib.hid (X0.out.below hb (by omega))
  have HB2 := Lib.hid (HB.out.trans (hb.mono (by omega)))
  have hs2 : g0 + 1 ≤ w2.heap.size := by have := hb.size; omega
  clear hb ca cb X0 HB
  cases R
  · have HX := Lib.hid (HNO.out (.inr (.inr rfl)))
    go_wp2
    go_ret
    exact ⟨_, rfl, by rw [← HX.out]; exact noneIs _ _ _, by rw [HG0.out]; exact HB2.out⟩
  have ca := X2.out.at_ 0 _ rfl
  have cb := X2.out.at_ 1 _ rfl
  go_wp2_with fail
  refine (pParentIs (cP c) par f HPar.out HF.out w2).mono ?_
  rintro e w3 ⟨rfl, hb⟩
  have X3 := Lib.hid (X2.out.below hb (by omega))
  have HB3 := Lib.hid (HB2.out.trans (hb.mono (by omega)))
  have hs3 : g0 + 1 ≤ w3.heap.size := by have := hb.size; omega
  clear hb ca cb X2 HB2
  go_wp2_with (refine wpList_alloc_one rfl 9 rfl (txt []) zStrP rfl ?_)
  intro w4 a1 a2 a3
  obtain ⟨g1, hg1⟩ : ∃ g, w3.heap.size = g := ⟨_, rfl⟩
  have A1 := Lib.hid a1
  have X4 := Lib.hid (X3.out.below a3 (by omega))
  have HB4 := Lib.hid (HB3.out.trans (a3.mono (by omega)))
  have hs4 : w4.heap.size = g1 + 1 := by omega
  have h01 : g0 < g1 := by omega
  rw [hg1] at A1 ⊢
  clear a1 a2 a3 hg1 X3 HB3
  go_wp2_with (refine wpList_put_one rfl 9 _ _ rfl g1 (txt par) (txt []) 9 rfl rfl A1.out sStrP rfl ?_)
  intro w5 e1 e2 e3 e4
  have Y5 := Lib.hid e1
  have X5 := Lib.hid (X4.out.same (e4 g0 (by omega)))
  have HB5 := Lib.hid (HB4.out.trans (e3.mono (by omega)))
  have hs5 : w5.heap.size = g1 + 1 := by omega
  clear e1 e2 e3 e4 A1 X4 HB4
  have ca := X5.out.at_ 0 _ rfl
  obtain ⟨F2, hF2⟩ : ∃ b, decide (f = 0) = b := ⟨_, rfl⟩
  obtain ⟨K2, hK2⟩ : ∃ b, decide (cK c ≠ 2) = b := ⟨_, rfl⟩
  have has := HAS.out hlo hhi (by trivial)
  rw [hF2, hK2] at has
  have HAX := Lib.hid has
  have he1 : ((f : Int) == 0) = F2 := by
    rw [← hF2]
    by_cases h : f = 0
    · rw [decide_eq_true h, h]; rfl
    · rw [decide_eq_false h]; exact int_neE _ _ (by omega)
  have he2 : (cK c != 2) = K2 := by
    rw [← hK2]
    by_cases h : cK c = 2
    · rw [decide_eq_false (by simpa using h), h]; rfl
    · rw [decide_eq_true h]; rw [bne_iff_ne]; exact h
  clear has hF2 hK2 HNO HAS HRR HPar HF hlo hhi
  cases F2
  · have HAY : Hid (askB c par (false) = Q) := by
      show _ = _
      rw [← HAX.out]
      rfl
    go_wp2_with (refine wpList_alloc_one rfl 4 rfl (Value.bool false) zBoolP rfl ?_)
    intro w6 a1 a2 a3
    obtain ⟨g2, hg2⟩ : ∃ g, g1 + 1 = g := ⟨_, rfl⟩
    have A1 := Lib.hid a1
    have X6 := Lib.hid (X5.out.below a3 (by omega))
    have Y6 := Lib.hid (Y5.out.below a3 (by omega))
    have HB6 := Lib.hid (HB5.out.trans (a3.mono (by omega)))
    have hs6 : w6.heap.size = g2 + 1 := by omega
    have h12 : g1 < g2 := by omega
    rw [hg2] at A1 ⊢
    clear a1 a2 a3 hg2 X5 Y5 HB5 ca
    go_wp2_with (refine wpList_put_one rfl 4 _ _ rfl g2 (Value.bool (false)) (Value.bool false) 4 rfl rfl A1.out sBoolP rfl ?_)
    intro w7 e1 e2 e3 e4
    have Z7 := Lib.hid e1
    have X7 := Lib.hid (X6.out.same (e4 g0 (by omega)))
    have Y7 := Lib.hid (Y6.out.same (e4 g1 (by omega)))
    have HB7 := Lib.hid (HB6.out.trans (e3.mono (by omega)))
    have hs7 : w7.heap.size = g2 + 1 := by omega
    clear e1 e2 e3 e4 A1 X6 Y6 HB6
    go_wp2
    go_ret
    refine ⟨_, rfl, ?_, by rw [HG0.out]; exact HB7.out⟩
    rw [← HAY.out, HG0.out]
    exact askIs c par (false) g0 g1 g2 _ _ w7 X7.out Y7.out Z7.out ⟨Nat.le_refl _, by omega⟩ ⟨by omega, by omega⟩ ⟨by omega, by omega⟩
  · have HAY : Hid (askB c par (K2) = Q) := by
      show _ = _
      rw [← HAX.out]
      rfl
    go_wp2_with (refine wpList_alloc_one rfl 4 rfl (Value.bool false) zBoolP rfl ?_)
    intro w6 a1 a2 a3
    obtain ⟨g2, hg2⟩ : ∃ g, g1 + 1 = g := ⟨_, rfl⟩
    have A1 := Lib.hid a1
    have X6 := Lib.hid (X5.out.below a3 (by omega))
    have Y6 := Lib.hid (Y5.out.below a3 (by omega))
    have HB6 := Lib.hid (HB5.out.trans (a3.mono (by omega)))
    have hs6 : w6.heap.size = g2 + 1 := by omega
    have h12 : g1 < g2 := by omega
    rw [hg2] at A1 ⊢
    clear a1 a2 a3 hg2 X5 Y5 HB5 ca
    go_wp2_with (refine wpList_put_one rfl 4 _ _ rfl g2 (Value.bool (K2)) (Value.bool false) 4 rfl rfl A1.out sBoolP rfl ?_)
    intro w7 e1 e2 e3 e4
    have Z7 := Lib.hid e1
    have X7 := Lib.hid (X6.out.same (e4 g0 (by omega)))
    have Y7 := Lib.hid (Y6.out.same (e4 g1 (by omega)))
    have HB7 := Lib.hid (HB6.out.trans (e3.mono (by omega)))
    have hs7 : w7.heap.size = g2 + 1 := by omega
    clear e1 e2 e3 e4 A1 X6 Y6 HB6
    go_wp2
    go_ret
    refine ⟨_, rfl, ?_, by rw [HG0.out]; exact HB7.out⟩
    rw [← HAY.out, HG0.out]
    exact askIs c par (K2) g0 g1 g2 _ _ w7 X7.out Y7.out Z7.out ⟨Nat.le_refl _, by omega⟩ ⟨by omega, by omega⟩ ⟨by omega, by omega⟩

set_option maxRecDepth 100000 in
set_option maxHeartbeats 4000000 in
theorem waSame_anyL (l m : List Wa) (v u : Value) (w : World) (hr : RdE WaK w.heap.size w v l) (hr2 : RdE WaK w.heap.size w u m) (_hl : l.length ≤ 1000) (_hm : m.length ≤ 1000) : Calls Tryz.prog 53 #[.agg #[v], .agg #[u]] w (One (.bool (decide (l = m))) w) := by
  have HR := Lib.hid hr
  have HR2 := Lib.hid hr2
  clear hr hr2
  go_enter Tryz.func53, Tryz.ntmps53
  go_wp2_with (refine wpList_box_blk rfl 30 _ rfl [v] rfl ?_)
  intro w1 b1 b2 b3
  go_wp2_with (refine wpList_box_blk rfl 30 _ rfl [u] rfl ?_)
  intro w2 a1 a2 a3
  obtain ⟨g0, hg0⟩ : ∃ g, w.heap.size = g := ⟨_, rfl⟩
  obtain ⟨g1, hg1⟩ : ∃ g, w.heap.size + 1 = g := ⟨_, rfl⟩
  have X0 := Lib.hid (b1.below a3 (by omega))
  have X1 := Lib.hid a1
  have HB := Lib.hid (b3.trans (a3.mono (by omega)))
  have hw2 : w.heap.size ≤ w2.heap.size := by omega
  have HRa := Lib.hid ((HR.out.below HB.out).more hw2)
  have HRb := Lib.hid ((HR2.out.below HB.out).more hw2)
  rw [hg1] at X1 ⊢
  rw [hg0] at X0 ⊢
  have ca := X0.out.at_ 0 _ rfl
  have cb := X1.out.at_ 0 _ rfl
  clear b1 b2 b3 a1 a2 a3 HR HR2
  go_wp2_with fail
  refine (eqFunc_anyWa l m v u w2 HRa.out HRb.out).mono ?_
  rintro e w3 ⟨rfl, hb⟩
  have HB3 := Lib.hid (HB.out.trans (hb.mono hw2))
  clear hb ca cb
  go_wp2
  go_ret
  exact ⟨rfl, HB3.out⟩

end Go.Proofs.YtdihngkdhanhkaaGreatDoor
namespace Go.Proofs.YtdihngkdhanhkaaGreatDoor
open Go.RowKit

end Go.Proofs.YtdihngkdhanhkaaGreatDoor
namespace Go.Proofs.YtdihngkdhanhkaaGreatDoor
open Go.RowKit

/-- A test, as a value of a region whose order is open. -/
def TsV (q : Wa → Bool) (v : Value) (w : World) : Prop := ∃ p r, r ≤ w.heap.size ∧ Tests q v p r w
theorem TsV.below {q : Wa → Bool} {v : Value} {w w' : World} (h : TsV q v w) (hb : Below w.heap.size w w') : TsV q v w' := by
  obtain ⟨p, r, h1, h2⟩ := h
  exact ⟨p, r, Nat.le_trans h1 hb.size, h2.keep fun k _ k2 => hb.block k (by omega)⟩

set_option maxRecDepth 100000 in
set_option maxHeartbeats 4000000 in
theorem waTouches_any (c : Ch) (y : Wa) (w : World) : Calls Tryz.prog 34 #[.agg (chc c).toArray, .agg (wac y).toArray] w (One (.bool (touchB c y)) w) := by
  obtain ⟨B, hB⟩ : ∃ B, touchB c y = B := ⟨_, rfl⟩
  have HBB := Lib.hid hB
  rw [hB]
  clear hB
  go_enter Tryz.func34, Tryz.ntmps34
  go_wp2_with (refine wpList_box_blk rfl 96 _ rfl (chc c) rfl ?_)
  intro w1 b1 b2 b3
  go_wp2_with (refine wpList_box_blk rfl 94 _ rfl (wac y) rfl ?_)
  intro w2 a1 a2 a3
  obtain ⟨g0, hg0⟩ : ∃ g, w.heap.size = g := ⟨_, rfl⟩
  obtain ⟨g1, hg1⟩ : ∃ g, w.heap.size + 1 = g := ⟨_, rfl⟩
  have X0 := Lib.hid (b1.below a3 (by omega))
  have X1 := Lib.hid a1
  have HB := Lib.hid (b3.trans (a3.mono (by omega)))
  have hw2 : w.heap.size ≤ w2.heap.size := by omega
  rw [hg1] at X1 ⊢
  rw [hg0] at X0 ⊢
  clear b1 b2 b3 a1 a2 a3 hg0 hg1
  go_wp2
  refine wp_region_rely2 5 0 (fun x => ⟨#[.agg (chc c).toArray, .agg (wac y).toArray, .pointer (some { block := g0, off := 0 }), .pointer (some { block := g1, off := 0 }), x 4, x 0, x 1, x 2, x 3], []⟩) (fun jj => ([eqV (.agg (chc c).toArray), (TsV (touchB c)), eqV (.agg (wac y).toArray), (eqV (.bool B)), eqV (.bool B)] : List (Value → World → Prop)).getD jj (fun _ _ => True)) rfl ⟨fun kk => [_, _, _, _, _].getD kk undef, rfl⟩ (by kernel_rfl) (by kernel_rfl) ?steps ?fin
  case steps =>
    refine StepsAt.val 0 (.agg (chc c).toArray) rfl (fun _ _ => rfl) rfl rfl (fun x wx hb hd => ?_) ?_
    · have cc0 := (X0.out.below hb X0.out.lt).at_ 0 _ rfl
      have cc1 := (X0.out.below hb X0.out.lt).at_ 1 _ rfl
      first | (go_simp; done) | (go_simp; rfl)
    refine StepsAt.cons 1 (fun _ _ _ h hb => h.below hb) (fun _ _ => rfl) rfl rfl (fun x wx hb hd K hK => ?_) ?_
    · have h0 : Hid (x 0 = .agg (chc c).toArray) := hd 0 (by kernel_rfl)
      go_simp
      refine calls_args (args2 := #[.agg (chc c).toArray]) (by rw [h0.out]) ?_
      refine (touchedBy_any c _).mono ?_
      rintro e w99 ⟨fv, rfl, ht, hb99⟩
      exact hK.out _ _ hb99 ⟨_, _, Nat.le_refl _, ht⟩
    refine StepsAt.val 2 (.agg (wac y).toArray) rfl (fun _ _ => rfl) rfl rfl (fun x wx hb hd => ?_) ?_
    · have cc0 := (X1.out.below hb X1.out.lt).at_ 0 _ rfl
      have cc1 := (X1.out.below hb X1.out.lt).at_ 1 _ rfl
      have cc2 := (X1.out.below hb X1.out.lt).at_ 2 _ rfl
      first | (go_simp; done) | (go_simp; rfl)
    refine StepsAt.cons 3 (fun _ _ _ h hb => h) (fun _ _ => rfl) rfl rfl (fun x wx hb hd K hK => ?_) ?_
    · have h1 : TsV (touchB c) (x 1) wx := hd 1 (by kernel_rfl)
      have h2 : Hid (x 2 = .agg (wac y).toArray) := hd 2 (by kernel_rfl)
      obtain ⟨p9, r9, hr9, f, lb, e1, ef, hf⟩ := h1
      have e2 : x 2 = .agg #[txt (wP y), .int .i64 (wC y), .bool (wK y)] := h2.out
      rw [e1, e2] at hK ⊢
      go_simp
      refine (hf _ (fun _ _ _ => rfl) y).mono ?_
      rintro e w99 ⟨rfl, hb99⟩
      exact hK.out (.bool (touchB c y)) _ hb99 (congrArg Value.bool HBB.out)
    refine StepsAt.val 4 (.bool B) rfl (fun _ _ => rfl) rfl rfl (fun x wx hb hd => ?_) ?_
    · have h3 : x 3 = .bool B := hd 3 (by kernel_rfl)
      rw [h3]
      first | (go_simp; done) | (go_simp; rfl)
    exact StepsAt.done
  case fin =>
    intro x wx hb hd
    have hx0 : x 0 = .agg (chc c).toArray := hd 0 (by omega)
    have hx2 : x 2 = .agg (wac y).toArray := hd 2 (by omega)
    have hx3 : x 3 = .bool B := hd 3 (by omega)
    have hx4 : x 4 = .bool B := hd 4 (by omega)
    refine AnyTill.any (S := fun _ => True) (m := 5) _ _ _ _ ?_
    refine AnyTill.done (by kernel_rfl) ?_
    refine NoPanic.normal ?_
    try dsimp only
    rw [hx0, hx2, hx3, hx4]
    have HWx := Lib.hid (HB.out.trans (hb.mono hw2))
    clear hd hb hx0 hx2 hx3 hx4
    go_wp2
    go_ret
    exact ⟨rfl, HWx.out⟩

set_option maxRecDepth 100000 in
set_option maxHeartbeats 8000000 in
theorem waAdd_own (l : List Wa) (x : Wa) (v : Value) (w : World) (hr : RdE WaK w.heap.size w v l) (hR : RightW l) : Calls Tryz.prog 197 #[.agg #[v], .agg (wac x).toArray] w (TabsO 94 v (addW l x) (addE l x) w) := by
  obtain ⟨d30, hu30, hd30⟩ := rowTbP
  have HU := Lib.hid hu30
  have HD := Lib.hid hd30
  have HR := Lib.hid hr
  obtain ⟨n, hn⟩ : ∃ n, l.length = n := ⟨_, rfl⟩
  have HN := Lib.hid hn
  have hn2 : n ≤ 200 := by
    rw [← hn]
    exact hR.few
  clear hr hR hu30 hd30 hn
  go_enter Tryz.func197, Tryz.ntmps197
  go_wp2_with (refine wpList_box_blk rfl 30 _ rfl [v] rfl ?_)
  intro w1 b1 b2 b3
  go_wp2_with (refine wpList_box_blk rfl 94 _ rfl (wac x) rfl ?_)
  intro w2 a1 a2 a3
  go_wp2_with (refine wpList_alloc_blk rfl 30 rfl [.slice none 0 0] zTbP ?_)
  intro w3 k1 k2 k3
  obtain ⟨g0, hg0⟩ : ∃ g, w.heap.size = g := ⟨_, rfl⟩
  obtain ⟨g1, hg1⟩ : ∃ g, w.heap.size + 1 = g := ⟨_, rfl⟩
  obtain ⟨g2, hg2⟩ : ∃ g, w.heap.size + 1 + 1 = g := ⟨_, rfl⟩
  have X0 := Lib.hid ((b1.below a3 (by omega)).below k3 (by omega))
  have X1 := Lib.hid (a1.below k3 (by omega))
  have X2 := Lib.hid k1
  have HB := Lib.hid ((b3.trans (a3.mono (by omega))).trans (k3.mono (by omega)))
  have hs3 : w3.heap.size = w.heap.size + 3 := by omega
  have hw2 : w.heap.size ≤ g2 := by omega
  rw [hg2] at X2 ⊢
  rw [hg1] at X1 ⊢
  rw [hg0] at X0 ⊢
  have ca := X0.out.at_ 0 _ rfl
  have HRc := Lib.hid ((HR.out.below HB.out).more HB.out.size)
  obtain ⟨G, hG⟩ : ∃ G, w3.heap.size = G := ⟨_, rfl⟩
  have hG2 : g2 < G := by omega
  have hG1 : g1 < G := by omega
  have hGw : w.heap.size ≤ G := by omega
  have HG := Lib.hid hG
  clear b1 b2 b3 a1 a2 a3 k1 k2 k3
  go_wp2_with fail
  refine (clone_anyWa l v w3 HRc.out (by rw [HN.out]; omega)).mono ?_
  rintro e w4 ⟨u, rfl, ho, hb⟩
  rw [HG.out] at ho hb
  obtain ⟨A, cp, hu, -, -⟩ := ho.rd.shape
  rw [HN.out] at hu
  subst hu
  have HO4 := Lib.hid ho
  have X14 := Lib.hid (X1.out.below hb hG1)
  have X24 := Lib.hid (X2.out.below hb hG2)
  have HW4 : Hid (Below w.heap.size w w4) := HB.out.trans (hb.mono hGw)
  have hs4 : G ≤ w4.heap.size := by have := hb.size; omega
  clear ho hb ca X0 X1 X2 HB HRc hG hs3
  have d0 := X14.out.at_ 0 _ rfl
  have d1 := X14.out.at_ 1 _ rfl
  have d2 := X14.out.at_ 2 _ rfl
  obtain ⟨B, hB⟩ : ∃ B, rightB (wP x) = B := ⟨_, rfl⟩
  have HBB := Lib.hid hB
  clear hB
  go_wp2_with fail
  refine (pRightIs (wP x) B HBB.out w4).mono ?_
  rintro e w5 ⟨rfl, hb⟩
  have HO5 := Lib.hid (HO4.out.below hb (Nat.le_refl _))
  have X15 := Lib.hid (X14.out.below hb (by omega))
  have X25 := Lib.hid (X24.out.below hb (by omega))
  have HW5 := Lib.hid (HW4.out.trans (hb.mono HW4.out.size))
  have hs5 : G ≤ w5.heap.size := by have := hb.size; omega
  clear hb d0 d1 d2 HO4 X14 X24 HW4
  have d0 := X15.out.at_ 0 _ rfl
  have d1 := X15.out.at_ 1 _ rfl
  have d2 := X15.out.at_ 2 _ rfl
  cases B
  · have HE := Lib.hid (addE_path l x HBB.out)
    go_wp2_with (refine wpList_store_to rfl 30 _ _ rfl g2 [.slice A n cp] [.slice none 0 0] 30 rfl rfl X25.out sTbP rfl (slice_one _ _ _) ?_)
    intro w20 e1 e2 e3 e4
    go_wp2
    refine bodyPost_ret (v := .tuple #[.agg #[.slice A n cp], .int .i64 13]) ?_ rfl ?_
    · exact ret_blk2U rfl _ _ g2 30 [.slice A n cp] _ rfl rfl e1 d30 HU.out HD.out sTbP
    · rw [HE.out.1, HE.out.2]
      have hq := ownsRow_same HO5.out (fun k hk => e4 k (by omega))
      exact ⟨_, rfl, OwnE.rd hq, .inr (OwnE.base hq (by first | exact Nat.le_refl _ | assumption | omega)), HW5.out.trans (e3.mono hw2)⟩
  by_cases hneg : wC x < 0
  · have HE := Lib.hid (addE_arg l x HBB.out hneg)
    go_wp2_with (refine wpList_store_to rfl 30 _ _ rfl g2 [.slice A n cp] [.slice none 0 0] 30 rfl rfl X25.out sTbP rfl (slice_one _ _ _) ?_)
    intro w20 e1 e2 e3 e4
    go_wp2
    refine bodyPost_ret (v := .tuple #[.agg #[.slice A n cp], .int .i64 1]) ?_ rfl ?_
    · exact ret_blk2U rfl _ _ g2 30 [.slice A n cp] _ rfl rfl e1 d30 HU.out HD.out sTbP
    · rw [HE.out.1, HE.out.2]
      have hq := ownsRow_same HO5.out (fun k hk => e4 k (by omega))
      exact ⟨_, rfl, OwnE.rd hq, .inr (OwnE.base hq (by first | exact Nat.le_refl _ | assumption | omega)), HW5.out.trans (e3.mono hw2)⟩
  have HNEG := Lib.hid hneg
  obtain ⟨H, hH⟩ : ∃ H, hasW l x = H := ⟨_, rfl⟩
  have HH := Lib.hid hH
  clear hH
  go_wp2_with fail
  refine (containsIsW l x H HH.out _ w5 HO5.out.rd).mono ?_
  rintro e w6 ⟨rfl, hb⟩
  have HO6 := Lib.hid (HO5.out.below hb (Nat.le_refl _))
  have X16 := Lib.hid (X15.out.below hb (by omega))
  have X26 := Lib.hid (X25.out.below hb (by omega))
  have HW6 := Lib.hid (HW5.out.trans (hb.mono HW5.out.size))
  have hs6 : G ≤ w6.heap.size := by have := hb.size; omega
  clear hb d0 d1 d2 HO5 X15 X25 HW5
  have d0 := X16.out.at_ 0 _ rfl
  have d1 := X16.out.at_ 1 _ rfl
  have d2 := X16.out.at_ 2 _ rfl
  cases H
  rotate_left
  · have HE := Lib.hid (addE_has l x HBB.out (by have := HNEG.out; omega) HH.out)
    go_wp2_with (refine wpList_store_to rfl 30 _ _ rfl g2 [.slice A n cp] [.slice none 0 0] 30 rfl rfl X26.out sTbP rfl (slice_one _ _ _) ?_)
    intro w20 e1 e2 e3 e4
    go_wp2
    refine bodyPost_ret (v := .tuple #[.agg #[.slice A n cp], .int .i64 0]) ?_ rfl ?_
    · exact ret_blk2U rfl _ _ g2 30 [.slice A n cp] _ rfl rfl e1 d30 HU.out HD.out sTbP
    · rw [HE.out.1, HE.out.2]
      have hq := ownsRow_same HO6.out (fun k hk => e4 k (by omega))
      exact ⟨_, rfl, OwnE.rd hq, .inr (OwnE.base hq (by first | exact Nat.le_refl _ | assumption | omega)), HW6.out.trans (e3.mono hw2)⟩
  by_cases hfull : (200 : Int) ≤ (n : Int)
  · have HE := Lib.hid (addE_full l x HBB.out (by have := HNEG.out; omega) HH.out (by rw [HN.out]; omega))
    go_wp2_with (refine wpList_store_to rfl 30 _ _ rfl g2 [.slice A n cp] [.slice none 0 0] 30 rfl rfl X26.out sTbP rfl (slice_one _ _ _) ?_)
    intro w20 e1 e2 e3 e4
    go_wp2
    refine bodyPost_ret (v := .tuple #[.agg #[.slice A n cp], .int .i64 9]) ?_ rfl ?_
    · exact ret_blk2U rfl _ _ g2 30 [.slice A n cp] _ rfl rfl e1 d30 HU.out HD.out sTbP
    · rw [HE.out.1, HE.out.2]
      have hq := ownsRow_same HO6.out (fun k hk => e4 k (by omega))
      exact ⟨_, rfl, OwnE.rd hq, .inr (OwnE.base hq (by first | exact Nat.le_refl _ | assumption | omega)), HW6.out.trans (e3.mono hw2)⟩
  have HE := Lib.hid (addE_ok l x HBB.out (by have := HNEG.out; omega) HH.out (by rw [HN.out]; omega))
  have HO7 : Hid (OwnE WaK 94 (w6.alloc (.cells (wac x).toArray 94)) G (.slice A n cp) l) := HO6.out.alloc _
  have HW7 : Hid (Below G w6 (w6.alloc (.cells (wac x).toArray 94))) := (Below.refl _ _).alloc hs6 _
  go_wp2_with (at_builtin; refine wpList_appE (E := WaK) rfl _ _ 28 rfl 94 32 Tryz.underlying28 kindWaP G _ _ _ l [x] rfl HO7.out rfl (RdE.one w6 94 x) (by simp) ?d1 ?d2 ?d3 ?_)
  case d1 => have := HN.out; simp only [List.length_cons, List.length_nil]; omega
  case d2 => have := HN.out; simp only [List.length_cons, List.length_nil]; omega
  case d3 => simp; omega
  intro v8 w8 h8 hb8 _ _
  have HO8 := Lib.hid h8
  have HW8 := Lib.hid (HW7.out.trans hb8)
  clear h8 hb8 d0 d1 d2
  have Y2 := Lib.hid (X26.out.below HW8.out hG2)
  obtain ⟨Ao, co, hv8, -, -⟩ := HO8.out.rd.shape
  obtain ⟨LL, hLL⟩ : ∃ LL, (l ++ [x]).length = LL := ⟨_, rfl⟩
  rw [hLL] at hv8
  subst hv8
  clear hLL
  go_wp2_with (refine wpList_store_to rfl 30 _ _ rfl g2 [.slice Ao LL co] [.slice none 0 0] 30 rfl rfl Y2.out sTbP rfl (slice_one _ _ _) ?_)
  intro w20 e1 e2 e3 e4
  go_wp2
  refine bodyPost_ret (v := .tuple #[.agg #[.slice Ao LL co], .int .i64 0]) ?_ rfl ?_
  · exact ret_blk2U rfl _ _ g2 30 [.slice Ao LL co] _ rfl rfl e1 d30 HU.out HD.out sTbP
  · rw [HE.out.1, HE.out.2]
    have hq := ownsRow_same HO8.out (fun k hk => e4 k (by omega))
    exact ⟨_, rfl, OwnE.rd hq, .inr (OwnE.base hq (by first | exact Nat.le_refl _ | assumption | omega)), HW6.out.trans ((HW8.out.mono hGw).trans (e3.mono hw2))⟩
end Go.Proofs.YtdihngkdhanhkaaGreatDoor
namespace Go.Proofs.YtdihngkdhanhkaaGreatDoor
open Go.RowKit

end Go.Proofs.YtdihngkdhanhkaaGreatDoor
