/-
  Texts KJ.
-/
import Derived.Test.YtdihngkdhanhkaaGreatDoorU01
namespace Go.Proofs.YtdihngkdhanhkaaGreatDoor
set_option maxRecDepth 100000
set_option maxHeartbeats 16000000
open Go.RowKit
theorem FewP.namesJ {r : Rm} (h : FewP r) : NamesR (mL r) := by
 intro x hx
 obtain ⟨j, hj, rfl⟩ := mem_rp _ x hx
 have := (h.r j hj).2.1
 omega
theorem own_cells {e : TypeId} {w : World} {b : Nat} {g n c : Nat} {l : List Rp} {ss : List SlT} (hs : ss.length = l.length) (h : OwnE RvK e w b (.slice (some ⟨g, 0, none⟩) n c) (rvs l ss)) (j : Nat) (hj : j < l.length) (k : Nat) (v : Value) (hv : (rpc (l.getD j rp0) (slv (ss.getD j sl0)))[k]? = some v) : w.cell? ⟨g, j * 6 + k, none⟩ = some v := by
 have h1 := h.rd.node j (by rw [rvs_len hs]; exact hj) k v (by
  show (rvc ((rvs l ss).getD j rv0))[k]? = _
  rw [rvs_at hs j hj]
  exact hv)
 rw [Addr.add_add] at h1
 have hadd : (⟨g, 0, none⟩ : Addr).add (j * 6 + k) = ⟨g, j * 6 + k, none⟩ := by unfold Addr.add; split <;> simp_all
 change w.cell? ((⟨g, 0, none⟩ : Addr).add (j * 6 + k)) = some v at h1
 rwa [hadd] at h1
theorem reads13_all (r : Rm) (vN vS vW vL : Value) (o : Or) (v : List UInt8) (w : World) (hr : RdRm w.heap.size w vN vS vW vL r) (hfo : fitI (oS o)) : Calls Tryz.prog 6 #[.agg (rmc (mT r) vN vS vW vL).toArray, .agg (orc o).toArray, txt v] w (One (.bool true) w) := by
 have HNL0 := lhd hr.l
 obtain ⟨AaN, caN, hv, -, -⟩ := hr.n.shape
 obtain ⟨naN, hnaN⟩ : ∃ q, (mN r).length = q := ⟨_, rfl⟩
 rw [hnaN] at hv
 subst hv
 obtain ⟨AaS, caS, hv, -, -⟩ := hr.s.shape
 obtain ⟨naS, hnaS⟩ : ∃ q, (mS r).length = q := ⟨_, rfl⟩
 rw [hnaS] at hv
 subst hv
 obtain ⟨AaW, caW, hv, -, -⟩ := hr.t.shape
 obtain ⟨naW, hnaW⟩ : ∃ q, (mW r).length = q := ⟨_, rfl⟩
 rw [hnaW] at hv
 subst hv
 obtain ⟨AaL, caL, hv, -, -⟩ := hr.l.shape
 obtain ⟨naL, hnaL⟩ : ∃ q, (mL r).length = q := ⟨_, rfl⟩
 rw [hnaL] at hv
 subst hv
 clear hnaN hnaS hnaW hnaL
 have HNL : Hid ((mL r).length = naL) := by
  obtain ⟨A9, c9, h9, -, -⟩ := hr.l.shape
  injection h9 with _ h9 _
  exact lhd h9.symm
 have HNN : Hid ((mN r).length = naN) := by
  obtain ⟨A9, c9, h9, -, -⟩ := hr.n.shape
  injection h9 with _ h9 _
  exact lhd h9.symm
 clear HNL0
 have RM := lhd hr
 have HFO := lhd hfo
 clear hr hfo
 obtain ⟨dR, huR, hdR⟩ := rowRmP
 obtain ⟨dO, huO, hdO⟩ := rowOrT
 obtain ⟨m, hm⟩ : ∃ k, v.length = k := ⟨_, rfl⟩
 have hmz : (⟨v.toArray⟩ : ByteArray).size = m := hm
 have HMV := lhd hm
 clear hm
 go_enter Tryz.func6, Tryz.ntmps6
 go_wp2_with (refine wpList_box_blk rfl 33 _ rfl (rmc (mT r) (.slice AaN naN caN) (.slice AaS naS caS) (.slice AaW naW caW) (.slice AaL naL caL)) rfl ?_)
 intro w1 b1 b2 b3
 go_wp2_with (refine wpList_box_blk rfl 35 _ rfl (orc o) rfl ?_)
 intro w2 a1 a2 a3
 obtain ⟨g3, hg3⟩ : ∃ g, w.heap.size = g := ⟨_, rfl⟩
 obtain ⟨g4, hg4⟩ : ∃ g, w.heap.size + 1 = g := ⟨_, rfl⟩
 have X3 := lhd (b1.below a3 (by omega))
 have X4 := lhd a1
 have B2 := lhd (b3.trans (a3.mono (by omega)))
 have hl3 : g3 < w2.heap.size := by omega
 have hl4 : g4 < w2.heap.size := by omega
 rw [hg4] at X4 ⊢
 rw [hg3] at X3 ⊢
 clear b1 b2 b3 a1 a2 a3 hg3 hg4
 have RM2 := lhd (RM.out.belowM B2.out)
 have KB : Hid (∀ W, Below w2.heap.size w2 W → Below w.heap.size w W) := lhd (fun W hW => B2.out.trans (hW.mono B2.out.size))
 clear RM
 go_wp2_with (first | refine wpList_load_part rfl 33 _ rfl g3 0 (rmc (mT r) (.slice AaN naN caN) (.slice AaS naS caS) (.slice AaW naW caW) (.slice AaL naL caL)) (rmc (mT r) (.slice AaN naN caN) (.slice AaS naS caS) (.slice AaW naW caW) (.slice AaL naL caL)) 33 rfl X3.out rfl huR hdR szRmP ?_ | fail)
 refine (few13 r (.slice AaN naN caN) (.slice AaS naS caS) (.slice AaW naW caW) (.slice AaL naL caL) w2 RM2.out).mono ?_
 rintro e w3 ⟨bf, rfl, hF, hb⟩
 have E3 := lhd hb
 have HF := lhd hF
 clear hb hF
 cases bf with
 | false =>
   go_wp2_with fail
   refine (alive13 w3).mono ?_
   rintro e wz ⟨rfl, hbz⟩
   have BZ := lhd ((KB.out _ E3.out).trans (hbz.mono (KB.out _ E3.out).size))
   clear hbz
   go_wp2
   go_ret
   exact ⟨rfl, BZ.out⟩
 | true =>
 have HFP := lhd (HF.out rfl)
 clear HF
 have z4 := (X3.out.below E3.out hl3).at_ 4 _ rfl
 by_cases h45 : (45 : Int) < (naL : Int)
 ·skip
  go_wp2_with fail
  refine (alive13 w3).mono ?_
  rintro e wz ⟨rfl, hbz⟩
  have BZ := lhd ((KB.out _ E3.out).trans (hbz.mono (KB.out _ E3.out).size))
  clear hbz
  go_wp2
  go_ret
  exact ⟨rfl, BZ.out⟩
 have hl45 : naL ≤ 45 := by omega
 have q45 : decide ((45 : Int) < (naL : Int)) = false := decide_eq_false h45
 have X44 := lhd (X4.out.below E3.out hl4)
 go_wp2_with (first | refine wpList_load_partG (by rfl) 35 _ rfl g4 0 (orc o) [.int .i64 (oC o), .int .i64 (oQ o), .int .i64 (oK o), txt (oP o), txt (oV o), .int .i64 (oR o), .int .i64 (oS o), .int .i64 (oT o)] 35 rfl X44.out rfl huO hdO szOrT ?_ | fail)
 have hal : Below w3.heap.size w3 (w3.alloc (.cells (orc o).toArray 35)) := (Below.refl _ _).alloc (Nat.le_refl _) _
 have E5 := lhd (E3.out.trans (hal.mono E3.out.size))
 clear hal z4 h45 q45
 have hone := RdE.one (E := OrK) w3 35 o
 have hsz1 : (w3.alloc (.cells (orc o).toArray 35)).heap.size = w3.heap.size + 1 := by simp
 rw [← hsz1] at hone
 refine (short13 [o] _ _ hone).mono ?_
 rintro e w6 ⟨bo, rfl, hS, hb⟩
 have E6 := lhd (E5.out.trans (hb.mono E5.out.size))
 clear hb hS E5 X44 hone hsz1
 cases bo with
 | false =>
   go_wp2_with fail
   refine (alive13 w6).mono ?_
   rintro e wz ⟨rfl, hbz⟩
   have BZ := lhd ((KB.out _ E6.out).trans (hbz.mono (KB.out _ E6.out).size))
   clear hbz
   go_wp2
   go_ret
   exact ⟨rfl, BZ.out⟩
 | true =>
 by_cases h1000 : (1000 : Int) < (m : Int)
 ·skip
  go_wp2_with fail
  refine (alive13 w6).mono ?_
  rintro e wz ⟨rfl, hbz⟩
  have BZ := lhd ((KB.out _ E6.out).trans (hbz.mono (KB.out _ E6.out).size))
  clear hbz
  go_wp2
  go_ret
  exact ⟨rfl, BZ.out⟩
 have hm1000 : m ≤ 1000 := by omega
 have q1000 : decide ((1000 : Int) < (m : Int)) = false := decide_eq_false h1000
 have X36 := lhd (X3.out.below E6.out hl3)
 go_wp2_with (first | refine wpList_load_partG (by rfl) 33 _ rfl g3 0 (rmc (mT r) (.slice AaN naN caN) (.slice AaS naS caS) (.slice AaW naW caW) (.slice AaL naL caL)) (rmc (mT r) (.slice AaN naN caN) (.slice AaS naS caS) (.slice AaW naW caW) (.slice AaL naL caL)) 33 rfl X36.out rfl huR hdR szRmP ?_ | fail)
 refine (plain13 r (.slice AaN naN caN) (.slice AaS naS caS) (.slice AaW naW caW) (.slice AaL naL caL) w6 (RM2.out.belowM E6.out) (by have := HFP.out.n; omega) (by have := HFP.out.s; omega) (by have := HFP.out.w; omega) (by have := HFP.out.l; omega)).mono ?_
 rintro e w7 ⟨uN, uS, uW, uL, rfl, hpl, hb⟩
 have E7 := lhd (E6.out.trans (hb.mono E6.out.size))
 have RP7 := lhd hpl
 clear hb hpl E6 X36 h1000 q1000
 go_wp2_with fail
 refine (right13 r uN uS uW uL w7 RP7.out).mono ?_
 rintro e w8 ⟨br, rfl, hR, hb⟩
 have E8 := lhd (E7.out.trans (hb.mono E7.out.size))
 have HR := lhd hR
 clear hb hR E7 RP7
 cases br with
 | false =>
   go_wp2_with fail
   refine (alive13 w8).mono ?_
   rintro e wz ⟨rfl, hbz⟩
   have BZ := lhd ((KB.out _ E8.out).trans (hbz.mono (KB.out _ E8.out).size))
   clear hbz
   go_wp2
   go_ret
   exact ⟨rfl, BZ.out⟩
 | true =>
 have HRR := lhd (HR.out.1 rfl)
 have HNM := lhd HFP.out.namesJ
 clear HR
 have X38 := lhd (X3.out.below E8.out hl3)
 have RM8 := lhd (RM2.out.belowM E8.out)
 have z4 := X38.out.at_ 4 _ rfl
 go_wp2
 go_loop [7, 8] (fun u x => ∃ i f : Nat, i ≤ naL ∧ x = .int .i64 (i : Int) ∧ u = .int .i64 (f : Int) ∧ f ≤ i ∧ Hid (∀ j, j < i → pC ((mL r).getD j rp0) ≠ (f : Int))) (fun _ x => naL - (intOf x).toNat)
 case atStart => exact ⟨0, 0, Nat.zero_le _, rfl, rfl, Nat.le_refl _, lhd (fun j h => absurd h (Nat.not_lt_zero j))⟩
 case round =>
  obtain ⟨i, f, hi, rfl, rfl, hfi, HN⟩ := hrel
  by_cases hi2 : i < naL
  ·have zi : (i : Int) < (naL : Int) := by omega
   have hil : i < (mL r).length := by rw [HNL.out]; exact hi2
   obtain ⟨a, sl, hA, -, d0, -⟩ := RM8.out.l.at_ i hil
   subst hA
   obtain ⟨CI, hCI⟩ : ∃ q, pC ((mL r).getD i rp0) = q := ⟨_, rfl⟩
   rw [hCI] at d0
   have HCI := lhd hCI
   have HAS : Hid (∀ j, j < i → pC ((mL r).getD j rp0) < pC ((mL r).getD i rp0)) := lhd (fun j hj => by
    have hjl : j < (mL r).length := Nat.lt_trans hj hil
    rw [List.getD_eq_getElem?_getD, List.getD_eq_getElem?_getD, List.getElem?_eq_getElem hil, List.getElem?_eq_getElem hjl]
    exact (List.pairwise_iff_getElem.1 HRR.out.asc) j i hjl hil hj)
   clear hCI hil
   by_cases hcf : CI = (f : Int)
   ·have hq : (CI == (f : Int)) = true := int_eqE _ _ hcf
    have HCF := lhd hcf
    clear hcf
    go_wp2
    go_round
    case rel =>
     refine ⟨i + 1, f + 1, by omega, by go_num, by go_num, by omega, lhd fun j hj => ?_⟩
     rcases Nat.lt_or_ge j i with h | h
     ·have := HAS.out j h
      rw [HCI.out, HCF.out] at this
      omega
     ·obtain rfl : j = i := by omega
      rw [HCI.out, HCF.out]
      omega
    case measure => simp [intOf]; omega
   ·have hq : (CI == (f : Int)) = false := int_neE _ _ hcf
    have HCF := lhd hcf
    clear hcf
    go_wp2
    go_round
    case rel =>
     refine ⟨i + 1, f, by omega, by go_num, rfl, by omega, lhd fun j hj => ?_⟩
     rcases Nat.lt_or_ge j i with h | h
     ·exact HN.out j h
     ·obtain rfl : j = i := by omega
      rw [HCI.out]
      exact HCF.out
    case measure => simp [intOf]; omega
  ·obtain rfl : naL = i := by omega
   have zi : ¬ (naL : Int) < (naL : Int) := by omega
   have HFR : Hid ((lastR (mL r) (f : Int)).2 = false) := lhd (free_last _ _ (fun x hx => by
    obtain ⟨j, hj, rfl⟩ := mem_rp _ x hx
    exact HN.out j (by rw [← HNL.out]; exact hj)))
   have hf45 : f ≤ 45 := by omega
   clear HN
   obtain ⟨p, hp⟩ : ∃ q, oP o = q := ⟨_, rfl⟩
   have c43 : w8.cell? ⟨g4, 3, none⟩ = some (txt p) := by rw [← hp]; exact (X4.out.below E8.out hl4).at_ 3 _ rfl
   have HP3 : Hid ((orc o)[3]? = some (txt p)) := lhd (by rw [← hp]; rfl)
   have HPP := lhd hp
   clear hp
   go_wp2_with (refine wpList_alloc_blk rfl 35 rfl (orc or0) zeroOrP ?_)
   intro y1 a1 a2 a3
   obtain ⟨g9, hg9⟩ : ∃ g, w8.heap.size = g := ⟨_, rfl⟩
   have D := lhd a1
   have A := lhd a3
   have H := lhd hg9
   rw [hg9] at D ⊢
   clear a1 a2 a3 hg9 c43
   go_wp2_with (refine wpList_store_to rfl 35 _ _ rfl g9 (orc (setO (f : Int) p v)) (orc or0) 35 rfl rfl D.out szOrT rfl (orc_all _) ?_)
   intro x1 e1 e2 e3 e4
   have Yg9 := lhd e1
   have F1 := lhd (A.out.trans (e3.mono (by rw [H.out]; exact Nat.le_refl _)))
   have EE1 := lhd (E8.out.trans (F1.out.mono E8.out.size))
   clear e1 e2 e3 e4 D A H
   have c43 : x1.cell? ⟨g4, 3, none⟩ = some (txt p) := (X4.out.below EE1.out hl4).at_ 3 _ HP3.out
   go_wp2_with (refine wpList_alloc_blk rfl 35 rfl (orc or0) zeroOrP ?_)
   intro y2 a1 a2 a3
   obtain ⟨g10, hg10⟩ : ∃ g, x1.heap.size = g := ⟨_, rfl⟩
   have D := lhd a1
   have A := lhd a3
   have H := lhd hg10
   rw [hg10] at D ⊢
   clear a1 a2 a3 hg10 c43
   go_wp2_with (refine wpList_store_to rfl 35 _ _ rfl g10 (orc (getO (f : Int) 2 p)) (orc or0) 35 rfl rfl D.out szOrT rfl (orc_all _) ?_)
   intro x2 e1 e2 e3 e4
   have Yg10 := lhd e1
   have F2 := lhd (A.out.trans (e3.mono (by rw [H.out]; exact Nat.le_refl _)))
   have EE2 := lhd (EE1.out.trans (F2.out.mono EE1.out.size))
   clear e1 e2 e3 e4 D A H
   have Yg9 := lhd (Yg9.out.below F2.out Yg9.out.lt)
   have c43 : x2.cell? ⟨g4, 3, none⟩ = some (txt p) := (X4.out.below EE2.out hl4).at_ 3 _ HP3.out
   go_wp2_with (refine wpList_alloc_blk rfl 35 rfl (orc or0) zeroOrP ?_)
   intro y3 a1 a2 a3
   obtain ⟨g11, hg11⟩ : ∃ g, x2.heap.size = g := ⟨_, rfl⟩
   have D := lhd a1
   have A := lhd a3
   have H := lhd hg11
   rw [hg11] at D ⊢
   clear a1 a2 a3 hg11 c43
   go_wp2_with (refine wpList_store_to rfl 35 _ _ rfl g11 (orc (delO (f : Int) p)) (orc or0) 35 rfl rfl D.out szOrT rfl (orc_all _) ?_)
   intro x3 e1 e2 e3 e4
   have Yg11 := lhd e1
   have F3 := lhd (A.out.trans (e3.mono (by rw [H.out]; exact Nat.le_refl _)))
   have EE3 := lhd (EE2.out.trans (F3.out.mono EE2.out.size))
   clear e1 e2 e3 e4 D A H
   have Yg9 := lhd (Yg9.out.below F3.out Yg9.out.lt)
   have Yg10 := lhd (Yg10.out.below F3.out Yg10.out.lt)
   have c43 : x3.cell? ⟨g4, 3, none⟩ = some (txt p) := (X4.out.below EE3.out hl4).at_ 3 _ HP3.out
   go_wp2_with (refine wpList_alloc_blk rfl 35 rfl (orc or0) zeroOrP ?_)
   intro y4 a1 a2 a3
   obtain ⟨g12, hg12⟩ : ∃ g, x3.heap.size = g := ⟨_, rfl⟩
   have D := lhd a1
   have A := lhd a3
   have H := lhd hg12
   rw [hg12] at D ⊢
   clear a1 a2 a3 hg12 c43
   go_wp2_with (refine wpList_store_to rfl 35 _ _ rfl g12 (orc (getO (f : Int) 4 p)) (orc or0) 35 rfl rfl D.out szOrT rfl (orc_all _) ?_)
   intro x4 e1 e2 e3 e4
   have Yg12 := lhd e1
   have F4 := lhd (A.out.trans (e3.mono (by rw [H.out]; exact Nat.le_refl _)))
   have EE4 := lhd (EE3.out.trans (F4.out.mono EE3.out.size))
   clear e1 e2 e3 e4 D A H
   have Yg9 := lhd (Yg9.out.below F4.out Yg9.out.lt)
   have Yg10 := lhd (Yg10.out.below F4.out Yg10.out.lt)
   have Yg11 := lhd (Yg11.out.below F4.out Yg11.out.lt)
   have c43 : x4.cell? ⟨g4, 3, none⟩ = some (txt p) := (X4.out.below EE4.out hl4).at_ 3 _ HP3.out
   have X3x := lhd (X3.out.below EE4.out hl3)
   go_wp2_with (first | refine wpList_load_part rfl 33 _ rfl g3 0 (rmc (mT r) (.slice AaN naN caN) (.slice AaS naS caS) (.slice AaW naW caW) (.slice AaL naL caL)) (rmc (mT r) (.slice AaN naN caN) (.slice AaS naS caS) (.slice AaW naW caW) (.slice AaL naL caL)) 33 rfl X3x.out rfl huR hdR szRmP ?_ | refine wpList_load_part rfl 35 _ rfl g9 0 (orc (setO (f : Int) p v)) [.int .i64 (f : Int), .int .i64 1, .int .i64 3, (txt p), (txt v), .int .i64 (-1), .int .i64 0, .int .i64 0] 35 rfl Yg9.out rfl huO hdO szOrT ?_ | refine wpList_load_part rfl 35 _ rfl g10 0 (orc (getO (f : Int) 2 p)) [.int .i64 (f : Int), .int .i64 2, .int .i64 2, (txt p), (txt []), .int .i64 0, .int .i64 0, .int .i64 0] 35 rfl Yg10.out rfl huO hdO szOrT ?_ | refine wpList_load_part rfl 35 _ rfl g11 0 (orc (delO (f : Int) p)) [.int .i64 (f : Int), .int .i64 3, .int .i64 4, (txt p), (txt []), .int .i64 (-1), .int .i64 0, .int .i64 0] 35 rfl Yg11.out rfl huO hdO szOrT ?_ | refine wpList_load_part rfl 35 _ rfl g12 0 (orc (getO (f : Int) 4 p)) [.int .i64 (f : Int), .int .i64 4, .int .i64 2, (txt p), (txt []), .int .i64 0, .int .i64 0, .int .i64 0] 35 rfl Yg12.out rfl huO hdO szOrT ?_ | fail)
   obtain ⟨wy, hwy⟩ : ∃ q, x4.alloc (.cells #[.int .i64 (f : Int), .int .i64 1, .int .i64 3, (txt p), (txt v), .int .i64 (-1), .int .i64 0, .int .i64 0, .int .i64 (f : Int), .int .i64 2, .int .i64 2, (txt p), (txt []), .int .i64 0, .int .i64 0, .int .i64 0, .int .i64 (f : Int), .int .i64 3, .int .i64 4, (txt p), (txt []), .int .i64 (-1), .int .i64 0, .int .i64 0, .int .i64 (f : Int), .int .i64 4, .int .i64 2, (txt p), (txt []), .int .i64 0, .int .i64 0, .int .i64 0] 35) = q := ⟨_, rfl⟩
   rw [hwy]
   have hal : Below x4.heap.size x4 wy := by rw [← hwy]; exact (Below.refl _ _).alloc (Nat.le_refl _) _
   have EY := lhd (EE4.out.trans (hal.mono EE4.out.size))
   have hrow : RdE OrK wy.heap.size wy (.slice (some ⟨x4.heap.size, 0, none⟩) 4 4) (fourO (f : Int) p v) := by
    have h1 : Blk wy x4.heap.size (rowsE OrK (fourO (f : Int) p v)) 35 := by rw [← hwy]; exact heap_alloc_new _ _
    have h2 := RdE.ofBlks h1 (by unfold maxLen; show (4 : Nat) ≤ 2 ^ 63 - 1; decide)
    refine h2.more ?_
    rw [← hwy]
    simp
   refine (rmFold_any r (fourO (f : Int) p v) (.slice AaN naN caN) (.slice AaS naS caS) (.slice AaW naW caW) (.slice AaL naL caL) (.slice (some ⟨x4.heap.size, 0, none⟩) 4 4) wy (RM2.out.belowM EY.out) HRR.out HNM.out hrow (by show (4 : Nat) ≤ 1000; decide) (fun x hx => by
    simp only [fourO, List.mem_cons, List.not_mem_nil, or_false] at hx
    rcases hx with rfl | rfl | rfl | rfl <;> (unfold fitI; exact ⟨by show (-9223372036854775808 : Int) ≤ 0; decide, by show (0 : Int) ≤ 9223372036854775807; decide⟩))).mono ?_
   rintro e wf ⟨xN, xS, xW, xL, vR, vE, rfl, h1, h2, h3, hb⟩
   obtain ⟨Y, hY⟩ : ∃ q, foldR r (fourO (f : Int) p v) = q := ⟨_, rfl⟩
   have hlen : Y.2.1.length = 4 := by rw [← hY, foldR_len]; rfl
   rw [hY] at h1 h2 h3 ⊢
   have hYr := h1.rd
   have hxn : ∃ A c, xN = .slice A (mN Y.1).length c := by
    obtain ⟨A9, c9, h9, -, -⟩ := hYr.n.shape
    exact ⟨A9, c9, h9⟩
   obtain ⟨AxN, cxN, hv, -, -⟩ := hYr.n.shape
   obtain ⟨nxN, hnxN⟩ : ∃ q, (mN Y.1).length = q := ⟨_, rfl⟩
   rw [hnxN] at hv
   subst hv
   obtain ⟨AxS, cxS, hv, -, -⟩ := hYr.s.shape
   obtain ⟨nxS, hnxS⟩ : ∃ q, (mS Y.1).length = q := ⟨_, rfl⟩
   rw [hnxS] at hv
   subst hv
   obtain ⟨AxW, cxW, hv, -, -⟩ := hYr.t.shape
   obtain ⟨nxW, hnxW⟩ : ∃ q, (mW Y.1).length = q := ⟨_, rfl⟩
   rw [hnxW] at hv
   subst hv
   obtain ⟨AxL, cxL, hv, -, -⟩ := hYr.l.shape
   obtain ⟨nxL, hnxL⟩ : ∃ q, (mL Y.1).length = q := ⟨_, rfl⟩
   rw [hnxL] at hv
   subst hv
   clear hnxN hnxS hnxW hnxL
   have HXN : Hid ((mN Y.1).length = nxN) := by
    obtain ⟨A9, c9, h9⟩ := hxn
    injection h9 with _ h9 _
    exact lhd h9.symm
   obtain ⟨ss, hs1, hs2, hs3⟩ := h2
   obtain ⟨gR, cR, hvR, -, -, -⟩ := hs2.inBlock (by rw [rvs_len hs1, hlen]; decide)
   rw [rvs_len hs1, hlen] at hvR
   subst hvR
   obtain ⟨AE, cE, hv⟩ := h3.shape
   obtain ⟨nE, hnE⟩ : ∃ q, Y.2.2.length = q := ⟨_, rfl⟩
   rw [hnE] at hv
   subst hv
   have EF := lhd (EY.out.trans (hb.mono EY.out.size))
   have HYY := lhd hY
   have KC0 : Hid (∀ W, Below wf.heap.size wf W → ∀ j, j < Y.2.1.length → ∀ k z, (rpc (Y.2.1.getD j rp0) (slv (ss.getD j sl0)))[k]? = some z → W.cell? ⟨gR, j * 6 + k, none⟩ = some z) := lhd (fun W hW j hj k z hz => own_cells hs1 (hs2.below hW (Nat.le_refl _)) j hj k z hz)
   clear hb h1 h3 hs2 hs3 hnE hYr hxn EY hal hrow hwy EE1 EE2 EE3 EE4 F1 F2 F3 F4 Yg9 Yg10 Yg11 Yg12 c43 X3x
   go_wp2_with (refine wpList_alloc_blk rfl 33 rfl (rmc 0 (.slice none 0 0) (.slice none 0 0) (.slice none 0 0) (.slice none 0 0)) zeroRmP ?_)
   intro wg a1 a2 a3
   obtain ⟨g13, hg13⟩ : ∃ g, wf.heap.size = g := ⟨_, rfl⟩
   have Dg13 := lhd a1
   have Ag13 := lhd a3
   have Hg13 := lhd hg13
   rw [hg13] at Dg13 ⊢
   clear a1 a2 a3 hg13
   go_wp2_with (refine wpList_store_to rfl 33 _ _ rfl g13 (rmc (mT Y.1) (.slice AxN nxN cxN) (.slice AxS nxS cxS) (.slice AxW nxW cxW) (.slice AxL nxL cxL)) (rmc 0 (.slice none 0 0) (.slice none 0 0) (.slice none 0 0) (.slice none 0 0)) 33 rfl rfl Dg13.out szRmP rfl (rmc_all _ _ _ _ _ _ _ _ _ _ _ _ _) ?_)
   intro wh e1 e2 e3 e4
   have X13 := lhd e1
   have EA := lhd (Ag13.out.trans (e3.mono (by rw [Hg13.out]; exact Nat.le_refl _)))
   have EH := lhd (EF.out.trans (EA.out.mono EF.out.size))
   have hl13 := X13.out.lt
   clear e1 e2 e3 e4 Dg13 Ag13 Hg13
   have KH2 : Hid (∀ W, Below wh.heap.size wh W → Below wf.heap.size wf W) := lhd (fun W hW => EA.out.trans (hW.mono EA.out.size))
   have KE2 : Hid (∀ W, Below wh.heap.size wh W → Below w2.heap.size w2 W) := lhd (fun W hW => EH.out.trans (hW.mono EH.out.size))
   have c43 : wh.cell? ⟨g4, 3, none⟩ = some (txt p) := (X4.out.below EH.out hl4).at_ 3 _ HP3.out
   obtain ⟨pl, hpl⟩ : ∃ k, p.length = k := ⟨_, rfl⟩
   have hplz : (⟨p.toArray⟩ : ByteArray).size = pl := hpl
   have HPL := lhd hpl
   clear hpl
   by_cases h100 : (100 : Int) < (pl : Int)
   ·skip
    go_wp2_with fail
    refine (alive13 wh).mono ?_
    rintro e wz ⟨rfl, hbz⟩
    have BZ := lhd ((KB.out _ EH.out).trans (hbz.mono (KB.out _ EH.out).size))
    clear hbz
    go_wp2
    go_ret
    exact ⟨rfl, BZ.out⟩
   have q100 : decide ((100 : Int) < (pl : Int)) = false := decide_eq_false h100
   obtain ⟨U, a0, a1, a2, a3, ev, hfo, k9, kE, kO⟩ := reads_four r (f : Int) p v HRR.out (by omega) (by omega) (by rw [HPL.out]; omega) (by rw [HMV.out]; omega) HFR.out (by rw [HNL.out]; omega)
   rw [HYY.out] at hfo
   subst hfo
   have KC : Hid (∀ W, Below wh.heap.size wh W → W.cell? ⟨gR, 2, none⟩ = some (.int .i64 (pE a0)) ∧ W.cell? ⟨gR, 4, none⟩ = some (.int .i64 (pR a0)) ∧ W.cell? ⟨gR, 8, none⟩ = some (.int .i64 (pE a1)) ∧ W.cell? ⟨gR, 9, none⟩ = some (txt (pV a1)) ∧ W.cell? ⟨gR, 10, none⟩ = some (.int .i64 (pR a1)) ∧ W.cell? ⟨gR, 14, none⟩ = some (.int .i64 (pE a2)) ∧ W.cell? ⟨gR, 20, none⟩ = some (.int .i64 (pE a3)) ∧ W.cell? ⟨gR, 21, none⟩ = some (txt (pV a3))) := lhd (fun W hW => by
    have q := KC0.out W (KH2.out W hW)
    exact ⟨q 0 (by show (0 : Nat) < 4; decide) 2 _ rfl, q 0 (by show (0 : Nat) < 4; decide) 4 _ rfl, q 1 (by show (1 : Nat) < 4; decide) 2 _ rfl, q 1 (by show (1 : Nat) < 4; decide) 3 _ rfl, q 1 (by show (1 : Nat) < 4; decide) 4 _ rfl, q 2 (by show (2 : Nat) < 4; decide) 2 _ rfl, q 3 (by show (3 : Nat) < 4; decide) 2 _ rfl, q 3 (by show (3 : Nat) < 4; decide) 3 _ rfl⟩)
   clear KC0 KH2 hlen hs1 HYY
   obtain ⟨e0, he0⟩ : ∃ q, pE a0 = q := ⟨_, rfl⟩
   obtain ⟨e1, he1⟩ : ∃ q, pE a1 = q := ⟨_, rfl⟩
   obtain ⟨e2, he2⟩ : ∃ q, pE a2 = q := ⟨_, rfl⟩
   obtain ⟨e3, he3⟩ : ∃ q, pE a3 = q := ⟨_, rfl⟩
   obtain ⟨r0, hr0⟩ : ∃ q, pR a0 = q := ⟨_, rfl⟩
   obtain ⟨r1, hr1⟩ : ∃ q, pR a1 = q := ⟨_, rfl⟩
   obtain ⟨v1, hv1⟩ : ∃ q, pV a1 = q := ⟨_, rfl⟩
   obtain ⟨v3, hv3⟩ : ∃ q, pV a3 = q := ⟨_, rfl⟩
   rw [he0, he1, he2, he3, hr0, hr1, hv1, hv3] at KC
   rw [he0, he1, hr1] at k9
   rw [he0, he1, he3] at kE
   rw [he0, he1, he2, he3, hr0, hr1, hv1, hv3] at kO
   clear he0 he1 he2 he3 hr0 hr1 hv1 hv3
   obtain ⟨c02, c04, c12, c13, c14, c22, c32, c33⟩ := KC.out wh (Below.refl _ _)
   by_cases h9 : e0 = 9
   ·obtain ⟨z1, z2⟩ := k9 h9
    clear k9 kE kO
    subst h9 z1 z2
    go_wp2_with fail
    refine (alive13 wh).mono ?_
    rintro e wz ⟨rfl, hbz⟩
    have BZ := lhd (KB.out _ (KE2.out _ hbz))
    clear c02 c04 c12 c13 c14 c22 c32 c33
    obtain ⟨c02, c04, c12, c13, c14, c22, c32, c33⟩ := KC.out wz hbz
    clear hbz
    go_wp2
    go_ret
    exact ⟨rfl, BZ.out⟩
   have q9 : (e0 == 9) = false := int_neE _ _ h9
   by_cases h0 : e0 = 0
   ·obtain ⟨z1, z2, z3, z4, z5⟩ := kO h0
    have H4 := lhd z4
    have H5 := lhd z5
    clear k9 kE kO h9 q9 z4 z5
    subst h0 z1 z2 z3
    go_wp2
    refine wp_region_quiet_lit (by kernel_rfl) (by kernel_rfl) ?_
    repeat (first | go_big_quiet_step (fail) | quiet_step (fail))
    refine wpQuiet_nil ?_
    intro _ hw'
    obtain ⟨nq, hw''⟩ := hw'
    subst hw''
    obtain ⟨wD, hW⟩ : ∃ W, wh.drewN nq = W := ⟨_, rfl⟩
    have ED : Hid (Below wh.heap.size wh wD) := lhd (by rw [← hW]; exact Below.drewN' (Below.refl _ _))
    rw [hW]
    clear hW c02 c04 c12 c13 c14 c22 c32 c33
    go_wp2_with fail
    refine (alive13 wD).mono ?_
    rintro e wz ⟨rfl, hbz⟩
    have EZ := lhd (ED.out.trans (hbz.mono ED.out.size))
    clear hbz
    obtain ⟨c02, c04, c12, c13, c14, c22, c32, c33⟩ := KC.out wz EZ.out
    by_cases h2 : e2 = 0
    ·have z4 := H4.out h2
     subst h2 z4
     go_wp2
     go_ret
     exact ⟨rfl, KB.out _ (KE2.out _ EZ.out)⟩
    ·obtain ⟨z5, z6⟩ := H5.out h2
     have q2 : (e2 == 0) = false := int_neE _ _ h2
     have q3 : (e2 != 0) = true := by simp; exact h2
     subst z5 z6
     go_wp2
     go_ret
     exact ⟨rfl, KB.out _ (KE2.out _ EZ.out)⟩
   have q0 : (e0 == 0) = false := int_neE _ _ h0
   have q0' : (e0 != 0) = true := by simp; exact h0
   obtain ⟨z1, z2, z3⟩ := kE h9 h0
   rw [HXN.out, HNN.out] at z3
   clear k9 kE kO
   subst z1 z2 z3
   go_wp2
   have ES : Hid (Below wh.heap.size wh wh.drew) := lhd (Below.refl _ _).drew
   clear c02 c04 c12 c13 c14 c22 c32 c33
   obtain ⟨FF, hF⟩ : ∃ F : (Nat → Value) → Act, F = fun x => ⟨#[.agg (rmc (mT r) (Value.slice AaN nxN caN) (Value.slice AaS naS caS) (Value.slice AaW naW caW) (Value.slice AaL naL caL)).toArray, .agg (orc o).toArray, txt v, .pointer (some { block := g3, off := 0 }), .pointer (some { block := g4, off := 0 }), undef, x 34, .int IntKind.i64 ↑f, .int IntKind.i64 ↑naL, .pointer (some { block := g9, off := 0 }), .pointer (some { block := g10, off := 0 }), .pointer (some { block := g11, off := 0 }), .pointer (some { block := g12, off := 0 }), .pointer (some { block := g13, off := 0 }), .slice (some { block := gR, off := 0 }) 4 cR, .slice AE nE cE, undef, .agg (rmc (mT r) (Value.slice AaN nxN caN) (Value.slice AaS naS caS) (Value.slice AaW naW caW) (Value.slice AaL naL caL)).toArray, .bool true, .bool false, .bool false, .pointer (some { block := g3, off := 4 }), .slice AaL naL caL, .int IntKind.i64 ↑naL, .bool false, .bool false, .bool false, .agg #[Value.int IntKind.i64 (oC o), Value.int IntKind.i64 (oQ o), Value.int IntKind.i64 (oK o), txt (oP o), txt (oV o), Value.int IntKind.i64 (oR o), Value.int IntKind.i64 (oS o), Value.int IntKind.i64 (oT o)], .slice (some { block := w3.heap.size, off := 0 }) 1 1, .bool true, .bool false, .bool false, .bool false, txt v, .int IntKind.i64 ↑m, .bool false, .bool false, .bool false, .agg (rmc (mT r) (Value.slice AaN nxN caN) (Value.slice AaS naS caS) (Value.slice AaW naW caW) (Value.slice AaL naL caL)).toArray, .agg (rmc (mT r) uN uS uW uL).toArray, .bool true, .bool false, .bool false, undef, .int IntKind.i64 ↑naL, .pointer (some { block := g3, off := 4 }), .slice AaL naL caL, .int IntKind.i64 ↑naL, .bool false, u49, u50, u51, u52, u53, u54, u55, u56, u57, u58, u59, u60, .int IntKind.i64 ↑f, .pointer (some { block := g4, off := 3 }), txt p, txt v, .agg #[Value.int IntKind.i64 ↑f, Value.int IntKind.i64 1, Value.int IntKind.i64 3, txt p, txt v, Value.int IntKind.i64 (-1), Value.int IntKind.i64 0, Value.int IntKind.i64 0], .int IntKind.i64 ↑f, .pointer (some { block := g4, off := 3 }), txt p, .agg #[Value.int IntKind.i64 ↑f, Value.int IntKind.i64 2, Value.int IntKind.i64 2, txt p, Value.string { data := #[] }, Value.int IntKind.i64 0, Value.int IntKind.i64 0, Value.int IntKind.i64 0], .int IntKind.i64 ↑f, .pointer (some { block := g4, off := 3 }), txt p, .agg #[Value.int IntKind.i64 ↑f, Value.int IntKind.i64 3, Value.int IntKind.i64 4, txt p, Value.string { data := #[] }, Value.int IntKind.i64 (-1), Value.int IntKind.i64 0, Value.int IntKind.i64 0], .int IntKind.i64 ↑f, .pointer (some { block := g4, off := 3 }), txt p, .agg #[Value.int IntKind.i64 ↑f, Value.int IntKind.i64 4, Value.int IntKind.i64 2, txt p, Value.string { data := #[] }, Value.int IntKind.i64 0, Value.int IntKind.i64 0, Value.int IntKind.i64 0], .tuple #[Value.agg (rmc (mT U) (Value.slice AxN nxN cxN) (Value.slice AxS nxS cxS) (Value.slice AxW nxW cxW) (Value.slice AxL nxL cxL)).toArray, Value.slice (some { block := gR, off := 0 }) 4 cR, Value.slice AE nE cE], .agg (rmc (mT r) (Value.slice AaN nxN caN) (Value.slice AaS naS caS) (Value.slice AaW naW caW) (Value.slice AaL naL caL)).toArray, .agg #[Value.int IntKind.i64 ↑f, Value.int IntKind.i64 1, Value.int IntKind.i64 3, txt p, txt v, Value.int IntKind.i64 (-1), Value.int IntKind.i64 0, Value.int IntKind.i64 0], .agg #[Value.int IntKind.i64 ↑f, Value.int IntKind.i64 2, Value.int IntKind.i64 2, txt p, txt [], Value.int IntKind.i64 0, Value.int IntKind.i64 0, Value.int IntKind.i64 0], .agg #[Value.int IntKind.i64 ↑f, Value.int IntKind.i64 3, Value.int IntKind.i64 4, txt p, txt [], Value.int IntKind.i64 (-1), Value.int IntKind.i64 0, Value.int IntKind.i64 0], .agg #[Value.int IntKind.i64 ↑f, Value.int IntKind.i64 4, Value.int IntKind.i64 2, txt p, txt [], Value.int IntKind.i64 0, Value.int IntKind.i64 0, Value.int IntKind.i64 0], .slice (some { block := x4.heap.size, off := 0 }) 4 4, .tuple #[Value.agg (rmc (mT U) (Value.slice AxN nxN cxN) (Value.slice AxS nxS cxS) (Value.slice AxW nxW cxW) (Value.slice AxL nxL cxL)).toArray, Value.slice (some { block := gR, off := 0 }) 4 cR, Value.slice AE nE cE], .agg (rmc (mT U) (Value.slice AxN nxN cxN) (Value.slice AxS nxS cxS) (Value.slice AxW nxW cxW) (Value.slice AxL nxL cxL)).toArray, .slice (some { block := gR, off := 0 }) 4 cR, .slice AE nE cE, .slice (some { block := gR, off := 0 }) 4 cR, .int IntKind.i64 4, .bool false, .bool false, .pointer (some { block := g4, off := 3 }), txt p, .int IntKind.i64 ↑pl, .bool false, .bool false, undef, undef, undef, undef, undef, undef, .slice (some { block := gR, off := 0 }) 4 cR, .pointer (some { block := gR, off := 0 }), .pointer (some { block := gR, off := 2 }), .int IntKind.i64 e3, .bool false, undef, undef, undef, undef, undef, undef, undef, undef, undef, undef, undef, undef, undef, undef, undef, .slice (some { block := gR, off := 0 }) 4 cR, .pointer (some { block := gR, off := 0 }), .pointer (some { block := gR, off := 2 }), .int IntKind.i64 e3, .bool true, x 0, x 1, x 2, x 3, x 4, x 5, x 6, x 7, x 8, x 9, x 10, x 11, x 12, x 13, x 14, x 15, x 16, x 17, x 18, x 19, x 20, x 21, x 22, x 23, x 24, x 25, x 26, x 27, x 28, x 29, x 30, x 31, x 32, x 33, undef, undef, undef, undef, undef, undef, undef, undef, undef, undef, undef, undef, undef, undef, undef, undef, undef, undef, undef, undef, undef, undef, undef, undef, undef, undef, undef, undef, undef, undef, undef, undef, undef, undef, undef, undef, undef, undef, undef, undef, undef, undef, undef, undef, undef, undef, undef, undef, undef, undef, undef, undef, undef, undef, undef, undef, undef, undef, undef, undef, undef, undef, undef, undef], []⟩ := ⟨_, rfl⟩
   have HFF := lhd hF
   refine wp_region_tillK 35 FF (fun k => [undef, undef, undef, undef, undef, undef, undef, undef, undef, undef, undef, undef, undef, undef, undef, undef, undef, undef, undef, undef, undef, undef, undef, undef, undef, undef, undef, undef, undef, undef, undef, undef, undef, undef, .bool false].getD k undef) (fun w9 => Below wh.heap.size wh w9) (by rw [hF]; rfl) rfl (by kernel_rfl) ?_
   intro x hL
   clear hF
   obtain ⟨wA, hwA⟩ : ∃ q, wh.drew = q := ⟨_, rfl⟩
   rw [hwA] at ES ⊢
   clear hwA
   refine AnyTill.oneK 0 (by kernel_rfl) rfl HFF (wanted_none rfl) (fun _ _ => rfl) hL rfl (fun K hK => ?_)
   go_simp
   refine (alive13 wA).mono ?_
   rintro e wB ⟨rfl, hb⟩
   have ES2 := lhd (ES.out.trans (hb.mono ES.out.size))
   refine hK.out _ wB ES2.out ?_
   clear hK K hb ES wA hL
   clear x
   intro x hL
   obtain ⟨wA, rfl⟩ : ∃ q, q = wB := ⟨_, rfl⟩
   have ES := ES2
   clear ES2
   refine AnyTill.tk 1 (.bool true) (wanted_none rfl) HFF hL (fun w9 hS9 => ?_) ES.out ?_
   ·have q0 := hL.at_ 0 rfl
    rw [q0]
    (go_simp; try rfl)
   clear hL x
   intro x hL
   refine AnyTill.takeK 2 (.slice (some ⟨gR, 0, none⟩) 4 cR) rfl (by kernel_rfl) rfl rfl (by kernel_rfl) (by kernel_rfl) HFF (by have hG := hL.at_ 0 rfl; simp [Region.wanted, yielded, hG]) (fun _ _ => rfl) hL rfl (fun w9 hS9 => ?_) (by exact ES.out) ?_
   ·(go_simp; try rfl)
   clear hL x
   intro x hL
   refine AnyTill.takeK 3 (.pointer (some ⟨gR, 6, none⟩)) rfl (by kernel_rfl) rfl rfl (by kernel_rfl) (by kernel_rfl) HFF (by have hG := hL.at_ 1 rfl; simp [Region.wanted, yielded, hG]) (fun _ _ => rfl) hL rfl (fun w9 hS9 => ?_) (by exact ES.out) ?_
   ·have q2 := hL.at_ 0 rfl
    rw [q2]
    (go_simp; try rfl)
   clear hL x
   intro x hL
   refine AnyTill.takeK 4 (.pointer (some ⟨gR, 8, none⟩)) rfl (by kernel_rfl) rfl rfl (by kernel_rfl) (by kernel_rfl) HFF (by have hG := hL.at_ 2 rfl; simp [Region.wanted, yielded, hG]) (fun _ _ => rfl) hL rfl (fun w9 hS9 => ?_) (by exact ES.out) ?_
   ·have q3 := hL.at_ 0 rfl
    rw [q3]
    (go_simp; try rfl)
   clear hL x
   intro x hL
   refine AnyTill.takeK 5 (.int .i64 e3) rfl (by kernel_rfl) rfl rfl (by kernel_rfl) (by kernel_rfl) HFF (by have hG := hL.at_ 3 rfl; simp [Region.wanted, yielded, hG]) (fun _ _ => rfl) hL rfl (fun w9 hS9 => ?_) (by exact ES.out) ?_
   ·have q4 := hL.at_ 0 rfl
    rw [q4]
    obtain ⟨c02, c04, c12, c13, c14, c22, c32, c33⟩ := KC.out w9 hS9
    (go_simp; try rfl)
   clear hL x
   intro x hL
   refine AnyTill.takeK 6 (.slice (some ⟨gR, 0, none⟩) 4 cR) rfl (by kernel_rfl) rfl rfl (by kernel_rfl) (by kernel_rfl) HFF (by have hG := hL.at_ 4 rfl; simp [Region.wanted, yielded, hG]) (fun _ _ => rfl) hL rfl (fun w9 hS9 => ?_) (by exact ES.out) ?_
   ·(go_simp; try rfl)
   clear hL x
   intro x hL
   refine AnyTill.takeK 7 (.pointer (some ⟨gR, 0, none⟩)) rfl (by kernel_rfl) rfl rfl (by kernel_rfl) (by kernel_rfl) HFF (by have hG := hL.at_ 5 rfl; simp [Region.wanted, yielded, hG]) (fun _ _ => rfl) hL rfl (fun w9 hS9 => ?_) (by exact ES.out) ?_
   ·have q6 := hL.at_ 0 rfl
    rw [q6]
    (go_simp; try rfl)
   clear hL x
   intro x hL
   refine AnyTill.takeK 8 (.pointer (some ⟨gR, 2, none⟩)) rfl (by kernel_rfl) rfl rfl (by kernel_rfl) (by kernel_rfl) HFF (by have hG := hL.at_ 6 rfl; simp [Region.wanted, yielded, hG]) (fun _ _ => rfl) hL rfl (fun w9 hS9 => ?_) (by exact ES.out) ?_
   ·have q7 := hL.at_ 0 rfl
    rw [q7]
    (go_simp; try rfl)
   clear hL x
   intro x hL
   refine AnyTill.takeK 9 (.int .i64 e3) rfl (by kernel_rfl) rfl rfl (by kernel_rfl) (by kernel_rfl) HFF (by have hG := hL.at_ 7 rfl; simp [Region.wanted, yielded, hG]) (fun _ _ => rfl) hL rfl (fun w9 hS9 => ?_) (by exact ES.out) ?_
   ·have q8 := hL.at_ 0 rfl
    rw [q8]
    obtain ⟨c02, c04, c12, c13, c14, c22, c32, c33⟩ := KC.out w9 hS9
    (go_simp; try rfl)
   clear hL x
   intro x hL
   refine AnyTill.takeK 10 (.bool true) rfl (by kernel_rfl) rfl rfl (by kernel_rfl) (by kernel_rfl) HFF (by have hG := hL.at_ 8 rfl; simp [Region.wanted, yielded, hG]) (fun _ _ => rfl) hL rfl (fun w9 hS9 => ?_) (by exact ES.out) ?_
   ·have q5 := hL.at_ 4 rfl
    have q9 := hL.at_ 0 rfl
    rw [q5, q9]
    (go_simp; try rfl)
   clear hL x
   intro x hL
   refine AnyTill.tk 11 (.bool true) (wanted_none rfl) HFF hL (fun w9 hS9 => ?_) ES.out ?_
   ·have q1 := hL.at_ 9 rfl
    have q10 := hL.at_ 0 rfl
    rw [q1, q10]
    (go_simp; try rfl)
   clear hL x
   intro x hL
   refine AnyTill.tk 12 (.bool true) (wanted_none rfl) HFF hL (fun w9 hS9 => ?_) ES.out ?_
   ·have q11 := hL.at_ 0 rfl
    rw [q11]
    (go_simp; try rfl)
   clear hL x
   intro x hL
   refine AnyTill.takeK 13 (.slice (some ⟨gR, 0, none⟩) 4 cR) rfl (by kernel_rfl) rfl rfl (by kernel_rfl) (by kernel_rfl) HFF (by have hG := hL.at_ 0 rfl; simp [Region.wanted, yielded, hG]) (fun _ _ => rfl) hL rfl (fun w9 hS9 => ?_) (by exact ES.out) ?_
   ·(go_simp; try rfl)
   clear hL x
   intro x hL
   refine AnyTill.takeK 14 (.pointer (some ⟨gR, 18, none⟩)) rfl (by kernel_rfl) rfl rfl (by kernel_rfl) (by kernel_rfl) HFF (by have hG := hL.at_ 1 rfl; simp [Region.wanted, yielded, hG]) (fun _ _ => rfl) hL rfl (fun w9 hS9 => ?_) (by exact ES.out) ?_
   ·have q13 := hL.at_ 0 rfl
    rw [q13]
    (go_simp; try rfl)
   clear hL x
   intro x hL
   refine AnyTill.takeK 15 (.pointer (some ⟨gR, 20, none⟩)) rfl (by kernel_rfl) rfl rfl (by kernel_rfl) (by kernel_rfl) HFF (by have hG := hL.at_ 2 rfl; simp [Region.wanted, yielded, hG]) (fun _ _ => rfl) hL rfl (fun w9 hS9 => ?_) (by exact ES.out) ?_
   ·have q14 := hL.at_ 0 rfl
    rw [q14]
    (go_simp; try rfl)
   clear hL x
   intro x hL
   refine AnyTill.takeK 16 (.int .i64 e3) rfl (by kernel_rfl) rfl rfl (by kernel_rfl) (by kernel_rfl) HFF (by have hG := hL.at_ 3 rfl; simp [Region.wanted, yielded, hG]) (fun _ _ => rfl) hL rfl (fun w9 hS9 => ?_) (by exact ES.out) ?_
   ·have q15 := hL.at_ 0 rfl
    rw [q15]
    obtain ⟨c02, c04, c12, c13, c14, c22, c32, c33⟩ := KC.out w9 hS9
    (go_simp; try rfl)
   clear hL x
   intro x hL
   refine AnyTill.takeK 17 (.slice (some ⟨gR, 0, none⟩) 4 cR) rfl (by kernel_rfl) rfl rfl (by kernel_rfl) (by kernel_rfl) HFF (by have hG := hL.at_ 4 rfl; simp [Region.wanted, yielded, hG]) (fun _ _ => rfl) hL rfl (fun w9 hS9 => ?_) (by exact ES.out) ?_
   ·(go_simp; try rfl)
   clear hL x
   intro x hL
   refine AnyTill.takeK 18 (.pointer (some ⟨gR, 0, none⟩)) rfl (by kernel_rfl) rfl rfl (by kernel_rfl) (by kernel_rfl) HFF (by have hG := hL.at_ 5 rfl; simp [Region.wanted, yielded, hG]) (fun _ _ => rfl) hL rfl (fun w9 hS9 => ?_) (by exact ES.out) ?_
   ·have q17 := hL.at_ 0 rfl
    rw [q17]
    (go_simp; try rfl)
   clear hL x
   intro x hL
   refine AnyTill.takeK 19 (.pointer (some ⟨gR, 2, none⟩)) rfl (by kernel_rfl) rfl rfl (by kernel_rfl) (by kernel_rfl) HFF (by have hG := hL.at_ 6 rfl; simp [Region.wanted, yielded, hG]) (fun _ _ => rfl) hL rfl (fun w9 hS9 => ?_) (by exact ES.out) ?_
   ·have q18 := hL.at_ 0 rfl
    rw [q18]
    (go_simp; try rfl)
   clear hL x
   intro x hL
   refine AnyTill.takeK 20 (.int .i64 e3) rfl (by kernel_rfl) rfl rfl (by kernel_rfl) (by kernel_rfl) HFF (by have hG := hL.at_ 7 rfl; simp [Region.wanted, yielded, hG]) (fun _ _ => rfl) hL rfl (fun w9 hS9 => ?_) (by exact ES.out) ?_
   ·have q19 := hL.at_ 0 rfl
    rw [q19]
    obtain ⟨c02, c04, c12, c13, c14, c22, c32, c33⟩ := KC.out w9 hS9
    (go_simp; try rfl)
   clear hL x
   intro x hL
   refine AnyTill.takeK 21 (.bool true) rfl (by kernel_rfl) rfl rfl (by kernel_rfl) (by kernel_rfl) HFF (by have hG := hL.at_ 8 rfl; simp [Region.wanted, yielded, hG]) (fun _ _ => rfl) hL rfl (fun w9 hS9 => ?_) (by exact ES.out) ?_
   ·have q16 := hL.at_ 4 rfl
    have q20 := hL.at_ 0 rfl
    rw [q16, q20]
    (go_simp; try rfl)
   clear hL x
   intro x hL
   refine AnyTill.tk 22 (.bool true) (wanted_none rfl) HFF hL (fun w9 hS9 => ?_) ES.out ?_
   ·have q12 := hL.at_ 9 rfl
    have q21 := hL.at_ 0 rfl
    rw [q12, q21]
    (go_simp; try rfl)
   clear hL x
   intro x hL
   refine AnyTill.tk 23 (.bool true) (wanted_none rfl) HFF hL (fun w9 hS9 => ?_) ES.out ?_
   ·have q22 := hL.at_ 0 rfl
    rw [q22]
    (go_simp; try rfl)
   clear hL x
   intro x hL
   refine AnyTill.takeK 24 (.pointer (some ⟨g13, 0, none⟩)) rfl (by kernel_rfl) rfl rfl (by kernel_rfl) (by kernel_rfl) HFF (by have hG := hL.at_ 0 rfl; simp [Region.wanted, yielded, hG]) (fun _ _ => rfl) hL rfl (fun w9 hS9 => ?_) (by exact ES.out) ?_
   ·(go_simp; try rfl)
   clear hL x
   intro x hL
   refine AnyTill.takeK 25 (.pointer (some ⟨g13, 0, none⟩)) rfl (by kernel_rfl) rfl rfl (by kernel_rfl) (by kernel_rfl) HFF (by have hG := hL.at_ 1 rfl; simp [Region.wanted, yielded, hG]) (fun _ _ => rfl) hL rfl (fun w9 hS9 => ?_) (by exact ES.out) ?_
   ·have q24 := hL.at_ 0 rfl
    rw [q24]
    (go_simp; try rfl)
   clear hL x
   intro x hL
   refine AnyTill.takeK 26 (.slice AxN nxN cxN) rfl (by kernel_rfl) rfl rfl (by kernel_rfl) (by kernel_rfl) HFF (by have hG := hL.at_ 2 rfl; simp [Region.wanted, yielded, hG]) (fun _ _ => rfl) hL rfl (fun w9 hS9 => ?_) (by exact ES.out) ?_
   ·have q25 := hL.at_ 0 rfl
    rw [q25]
    have cc := (X13.out.below hS9 hl13).at_ 0 _ rfl
    (go_simp; try rfl)
   clear hL x
   intro x hL
   refine AnyTill.takeK 27 (.int .i64 (nxN : Int)) rfl (by kernel_rfl) rfl rfl (by kernel_rfl) (by kernel_rfl) HFF (by have hG := hL.at_ 3 rfl; simp [Region.wanted, yielded, hG]) (fun _ _ => rfl) hL rfl (fun w9 hS9 => ?_) (by exact ES.out) ?_
   ·have q26 := hL.at_ 0 rfl
    rw [q26]
    (go_simp; try rfl)
   clear hL x
   intro x hL
   refine AnyTill.takeK 28 (.pointer (some ⟨g3, 0, none⟩)) rfl (by kernel_rfl) rfl rfl (by kernel_rfl) (by kernel_rfl) HFF (by have hG := hL.at_ 4 rfl; simp [Region.wanted, yielded, hG]) (fun _ _ => rfl) hL rfl (fun w9 hS9 => ?_) (by exact ES.out) ?_
   ·(go_simp; try rfl)
   clear hL x
   intro x hL
   refine AnyTill.takeK 29 (.pointer (some ⟨g3, 0, none⟩)) rfl (by kernel_rfl) rfl rfl (by kernel_rfl) (by kernel_rfl) HFF (by have hG := hL.at_ 5 rfl; simp [Region.wanted, yielded, hG]) (fun _ _ => rfl) hL rfl (fun w9 hS9 => ?_) (by exact ES.out) ?_
   ·have q28 := hL.at_ 0 rfl
    rw [q28]
    (go_simp; try rfl)
   clear hL x
   intro x hL
   refine AnyTill.takeK 30 (.slice AaN nxN caN) rfl (by kernel_rfl) rfl rfl (by kernel_rfl) (by kernel_rfl) HFF (by have hG := hL.at_ 6 rfl; simp [Region.wanted, yielded, hG]) (fun _ _ => rfl) hL rfl (fun w9 hS9 => ?_) (by exact ES.out) ?_
   ·have q29 := hL.at_ 0 rfl
    rw [q29]
    have cc := (X3.out.below (KE2.out _ hS9) hl3).at_ 0 _ rfl
    (go_simp; try rfl)
   clear hL x
   intro x hL
   refine AnyTill.takeK 31 (.int .i64 (nxN : Int)) rfl (by kernel_rfl) rfl rfl (by kernel_rfl) (by kernel_rfl) HFF (by have hG := hL.at_ 7 rfl; simp [Region.wanted, yielded, hG]) (fun _ _ => rfl) hL rfl (fun w9 hS9 => ?_) (by exact ES.out) ?_
   ·have q30 := hL.at_ 0 rfl
    rw [q30]
    (go_simp; try rfl)
   clear hL x
   intro x hL
   refine AnyTill.takeK 32 (.bool true) rfl (by kernel_rfl) rfl rfl (by kernel_rfl) (by kernel_rfl) HFF (by have hG := hL.at_ 8 rfl; simp [Region.wanted, yielded, hG]) (fun _ _ => rfl) hL rfl (fun w9 hS9 => ?_) (by exact ES.out) ?_
   ·have q27 := hL.at_ 4 rfl
    have q31 := hL.at_ 0 rfl
    rw [q27, q31]
    (go_simp; try rfl)
   clear hL x
   intro x hL
   refine AnyTill.tk 33 (.bool true) (wanted_none rfl) HFF hL (fun w9 hS9 => ?_) ES.out ?_
   ·have q23 := hL.at_ 9 rfl
    have q32 := hL.at_ 0 rfl
    rw [q23, q32]
    (go_simp; try rfl)
   clear hL x
   intro x hL
   refine AnyTill.tk 34 (.bool true) (wanted_none rfl) HFF hL (fun w9 hS9 => ?_) ES.out ?_
   ·have q33 := hL.at_ 0 rfl
    rw [q33]
    (go_simp; try rfl)
   clear hL x
   intro x hL
   have q34 := hL.at_ 0 rfl
   refine AnyTill.done (by kernel_rfl) ?_
   refine NoPanic.normal ?_
   rw [HFF.out]
   try dsimp only
   rw [q34]
   clear q34
   clear hL HFF
   go_wp2
   go_ret
   exact ⟨rfl, KB.out _ (KE2.out _ ES.out)⟩
end Go.Proofs.YtdihngkdhanhkaaGreatDoor
