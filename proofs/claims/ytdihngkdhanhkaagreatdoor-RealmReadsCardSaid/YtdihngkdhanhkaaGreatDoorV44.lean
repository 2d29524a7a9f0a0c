/-
  Texts KX KY NF.
-/
import Derived.Test.YtdihngkdhanhkaaGreatDoorV01
import Derived.Test.YtdihngkdhanhkaaGreatDoorV09
import Derived.Test.YtdihngkdhanhkaaGreatDoorV10
import Derived.Test.YtdihngkdhanhkaaGreatDoorV11
import Derived.Test.YtdihngkdhanhkaaGreatDoorV15
import Derived.Test.YtdihngkdhanhkaaGreatDoorV22
import Derived.Test.YtdihngkdhanhkaaGreatDoorV26
import Derived.Test.YtdihngkdhanhkaaGreatDoorV40
namespace Go.Proofs.YtdihngkdhanhkaaGreatDoor
set_option maxRecDepth 100000
set_option maxHeartbeats 16000000
open Go.RowKit
structure FewP (r : Rm) : Prop where
 n : (mN r).length ≤ 40
 w : (mW r).length ≤ 40
 s : (mS r).length ≤ 60
 l : (mL r).length ≤ 60
 t : mT r ≤ 10000000000
 r : ∀ j, j < (mL r).length → (pV ((mL r).getD j rp0)).length ≤ 1100 ∧ (pN ((mL r).getD j rp0)).length ≤ 40 ∧ ∀ k, k < (pN ((mL r).getD j rp0)).length → ((pN ((mL r).getD j rp0)).getD k ⟨#[]⟩).size ≤ 200
def FewO (r : Rm) (w : World) (e : Ending) (w' : World) : Prop := ∃ b, e = .returned (.bool b) ∧ (b = true → FewP r) ∧ Below w.heap.size w w'
theorem few13 (r : Rm) (vN vS vW vL : Value) (w : World) (hr : RdRm w.heap.size w vN vS vW vL r) : Calls Tryz.prog 9 #[.agg (rmc (mT r) vN vS vW vL).toArray] w (FewO r w) := by
 obtain ⟨AN, cN, hvN, -, hmN⟩ := hr.n.shape
 obtain ⟨AS, cS, hvS, -, hmS⟩ := hr.s.shape
 obtain ⟨AW, cW, hvW, -, hmW⟩ := hr.t.shape
 obtain ⟨AL, cL, hvL, -, hmL⟩ := hr.l.shape
 obtain ⟨nN, hnN⟩ : ∃ q, (mN r).length = q := ⟨_, rfl⟩
 obtain ⟨nS, hnS⟩ : ∃ q, (mS r).length = q := ⟨_, rfl⟩
 obtain ⟨nW, hnW⟩ : ∃ q, (mW r).length = q := ⟨_, rfl⟩
 obtain ⟨nL, hnL⟩ : ∃ q, (mL r).length = q := ⟨_, rfl⟩
 rw [hnN] at hvN
 rw [hnS] at hvS
 rw [hnW] at hvW
 rw [hnL] at hvL
 subst hvN hvS hvW hvL
 have HNN := lhd hnN
 have HNS := lhd hnS
 have HNW := lhd hnW
 have HNL := lhd hnL
 have RM := lhd hr
 clear hr hnN hnS hnW hnL hmN hmS hmW hmL
 go_enter Tryz.func9, Tryz.ntmps9
 go_wp2_with (refine wpList_box_blk rfl 33 _ rfl (rmc (mT r) (.slice AN nN cN) (.slice AS nS cS) (.slice AW nW cW) (.slice AL nL cL)) rfl ?_)
 intro w1 b1 b2 b3
 have RM1 := lhd (RM.out.below b3)
 have HB := lhd b3
 obtain ⟨T, hT⟩ : ∃ q, mT r = q := ⟨_, rfl⟩
 have HTT := lhd hT
 rw [hT] at b1
 have c0 := b1.at_ 0 _ rfl
 have c1 := b1.at_ 1 _ rfl
 have c2 := b1.at_ 2 _ rfl
 have c3 := b1.at_ 3 _ rfl
 have c4 := b1.at_ 4 _ rfl
 obtain ⟨g, hg⟩ : ∃ g, w.heap.size = g := ⟨_, rfl⟩
 rw [hg] at c0 c1 c2 c3 c4 ⊢
 clear b1 b2 b3 RM hT
 by_cases t1 : (40 : Int) < (nN : Int)
 ·go_wp2
  go_ret
  exact ⟨_, rfl, fun h => by simp at h, by rw [← hg] at *; exact HB.out⟩
 by_cases t2 : (40 : Int) < (nW : Int)
 ·go_wp2
  go_ret
  exact ⟨_, rfl, fun h => by simp at h, by rw [← hg] at *; exact HB.out⟩
 by_cases t3 : (60 : Int) < (nS : Int)
 ·go_wp2
  go_ret
  exact ⟨_, rfl, fun h => by simp at h, by rw [← hg] at *; exact HB.out⟩
 by_cases t4 : (60 : Int) < (nL : Int)
 ·go_wp2
  go_ret
  exact ⟨_, rfl, fun h => by simp at h, by rw [← hg] at *; exact HB.out⟩
 by_cases t5 : (10000000000 : Int) < T
 ·go_wp2
  go_ret
  exact ⟨_, rfl, fun h => by simp at h, by rw [← hg] at *; exact HB.out⟩
 go_wp2
 have HTS := lhd (And.intro t1 (And.intro t2 (And.intro t3 (And.intro t4 t5))))
 have q1 : nN ≤ 40 := by omega
 have q2 : nW ≤ 40 := by omega
 have q3 : nL ≤ 60 := by omega
 clear t1 t2 t3 t4 t5
 go_loop [3] (fun x => ∃ i : Nat, i ≤ nN ∧ x = .int .i64 (i : Int)) (fun x => nN - (intOf x).toNat)
 case atStart => exact ⟨0, Nat.zero_le _, rfl⟩
 case round =>
  obtain ⟨i, hi, rfl⟩ := hrel
  by_cases hi2 : i < nN
  ·have zi : (i : Int) < (nN : Int) := by omega
   obtain ⟨a, hA, d0, d1, d2, d3⟩ := RM1.out.n.at_ i (by rw [HNN.out]; exact hi2)
   subst hA
   obtain ⟨x, hx⟩ : ∃ x, (mN r).getD i nd0 = x := ⟨_, rfl⟩
   rw [hx] at d0 d1 d2 d3
   obtain ⟨k, hk⟩ : ∃ k, (nP x).length = k := ⟨_, rfl⟩
   obtain ⟨m, hm⟩ : ∃ k, (nV x).length = k := ⟨_, rfl⟩
   have hkz : (⟨(nP x).toArray⟩ : ByteArray).size = k := hk
   have hmz : (⟨(nV x).toArray⟩ : ByteArray).size = m := hm
   clear hk hm hx
   by_cases hlong : (200 : Int) < (k : Int)
   ·go_wp2
    go_ret
    exact ⟨_, rfl, fun h => by simp at h, by rw [← hg] at *; exact HB.out⟩
   by_cases hlong2 : (1100 : Int) < (m : Int)
   ·go_wp2
    go_ret
    exact ⟨_, rfl, fun h => by simp at h, by rw [← hg] at *; exact HB.out⟩
   go_wp2
   go_round
   case rel => exact ⟨i + 1, by omega, by go_num⟩
   case measure => simp [intOf]; omega
  ·obtain rfl : i = nN := by omega
   have zi : ¬ (i : Int) < (i : Int) := by omega
   go_wp2
   go_loop [4] (fun x => ∃ i : Nat, i ≤ nW ∧ x = .int .i64 (i : Int)) (fun x => nW - (intOf x).toNat)
   case atStart => exact ⟨0, Nat.zero_le _, rfl⟩
   case round =>
    obtain ⟨j, hj, rfl⟩ := hrel
    by_cases hj2 : j < nW
    ·have zj : (j : Int) < (nW : Int) := by omega
     obtain ⟨a, hA, d0, d1, d2⟩ := RM1.out.t.atWa j (by rw [HNW.out]; exact hj2)
     subst hA
     obtain ⟨x, hx⟩ : ∃ x, (mW r).getD j wa0 = x := ⟨_, rfl⟩
     rw [hx] at d0 d1 d2
     obtain ⟨k, hk⟩ : ∃ k, (wP x).length = k := ⟨_, rfl⟩
     have hkz : (⟨(wP x).toArray⟩ : ByteArray).size = k := hk
     clear hk hx
     by_cases hlong : (200 : Int) < (k : Int)
     ·go_wp2
      go_ret
      exact ⟨_, rfl, fun h => by simp at h, by rw [← hg] at *; exact HB.out⟩
     go_wp2
     go_round
     case rel => exact ⟨j + 1, by omega, by go_num⟩
     case measure => simp [intOf]; omega
    ·obtain rfl : j = nW := by omega
     have zj : ¬ (j : Int) < (j : Int) := by omega
     go_wp2
     go_loop [5] (fun x => ∃ i : Nat, i ≤ nL ∧ x = .int .i64 (i : Int) ∧ Hid (∀ j, j < i → (pV ((mL r).getD j rp0)).length ≤ 1100 ∧ (pN ((mL r).getD j rp0)).length ≤ 40 ∧ ∀ k, k < (pN ((mL r).getD j rp0)).length → ((pN ((mL r).getD j rp0)).getD k ⟨#[]⟩).size ≤ 200)) (fun x => nL - (intOf x).toNat)
     case atStart => exact ⟨0, Nat.zero_le _, rfl, lhd (fun j h => absurd h (Nat.not_lt_zero j))⟩
     case round =>
      obtain ⟨q, hq, rfl, HQ⟩ := hrel
      by_cases hq2 : q < nL
      ·have zq : (q : Int) < (nL : Int) := by omega
       obtain ⟨a, s, hA, hs, d0, d1, d2, d3, d4, d5⟩ := RM1.out.l.at_ q (by rw [HNL.out]; exact hq2)
       subst hA
       obtain ⟨x, hx⟩ : ∃ x, (mL r).getD q rp0 = x := ⟨_, rfl⟩
       rw [hx] at d0 d1 d2 d3 d4 hs
       obtain ⟨As, ns, cs⟩ := s
       change w1.cell? _ = some (.slice As ns cs) at d5
       obtain ⟨A2, c2', hv2, -, hm2⟩ := hs.toE.shape
       have hns : ns = (pN x).length := by
        injection hv2
       obtain ⟨k, hk⟩ : ∃ k, (pV x).length = k := ⟨_, rfl⟩
       have hkz : (⟨(pV x).toArray⟩ : ByteArray).size = k := hk
       have HK := lhd hk
       have HNs := lhd hns
       have HSS := lhd hs.toE
       have HX := lhd hx
       clear hk hx hs hv2 hns hm2
       by_cases hlong : (1100 : Int) < (k : Int)
       ·go_wp2
        go_ret
        exact ⟨_, rfl, fun h => by simp at h, by rw [← hg] at *; exact HB.out⟩
       by_cases hlong2 : (40 : Int) < (ns : Int)
       ·go_wp2
        go_ret
        exact ⟨_, rfl, fun h => by simp at h, by rw [← hg] at *; exact HB.out⟩
       go_wp2
       have HLO := lhd (And.intro hlong hlong2)
       have q4 : ns ≤ 40 := by omega
       clear hlong hlong2
       go_loop [6] (fun x9 => ∃ i : Nat, i ≤ ns ∧ x9 = .int .i64 (i : Int) ∧ Hid (∀ k, k < i → ((pN x).getD k ⟨#[]⟩).size ≤ 200)) (fun x9 => ns - (intOf x9).toNat)
       case atStart => exact ⟨0, Nat.zero_le _, rfl, lhd (fun j h => absurd h (Nat.not_lt_zero j))⟩
       case round =>
        obtain ⟨p, hp, rfl, HP⟩ := hrel
        by_cases hp2 : p < ns
        ·have zp : (p : Int) < (ns : Int) := by omega
         obtain ⟨b, hA, f⟩ := HSS.out.cells p (by rw [← HNs.out]; exact hp2)
         subst hA
         have f0 : w1.cell? (b.add p) = some (.string ((pN x).getD p ⟨#[]⟩)) := by
          have := f 0 (by decide)
          simpa [StK, Addr.add] using this
         obtain ⟨y, hy⟩ : ∃ q, (pN x).getD p ⟨#[]⟩ = q := ⟨_, rfl⟩
         rw [hy] at f0
         obtain ⟨z, hz⟩ : ∃ q, y.size = q := ⟨_, rfl⟩
         have HY := lhd hy
         have HZ := lhd hz
         clear f hy
         by_cases hl3 : (200 : Int) < (z : Int)
         ·go_wp2
          go_ret
          exact ⟨_, rfl, fun h => by simp at h, by rw [← hg] at *; exact HB.out⟩
         have HL3 := lhd hl3
         go_wp2
         go_round
         case rel =>
          refine ⟨p + 1, by omega, by go_num, lhd fun k hk => ?_⟩
          rcases Nat.lt_or_ge k p with h | h
          ·exact HP.out k h
          ·obtain rfl : k = p := by omega
           rw [HY.out, HZ.out]
           have := HL3.out
           omega
         case measure => simp [intOf]; omega
        ·obtain rfl : p = ns := by omega
         have zp : ¬ (p : Int) < (p : Int) := by omega
         go_wp2
         go_round
         case rel =>
          refine ⟨q + 1, by omega, by go_num, lhd fun k hk => ?_⟩
          rcases Nat.lt_or_ge k q with h | h
          ·exact HQ.out k h
          ·obtain rfl : k = q := by omega
           rw [HX.out, HK.out]
           have := HLO.out
           exact ⟨by omega, by rw [← HNs.out]; omega, fun k hk => HP.out k (by rw [HNs.out]; exact hk)⟩
         case measure => simp [intOf]; omega
      ·obtain rfl : q = nL := by omega
       have zq : ¬ (q : Int) < (q : Int) := by omega
       go_wp2
       go_ret
       refine ⟨_, rfl, fun _ => ?_, by rw [← hg] at *; exact HB.out⟩
       obtain ⟨h1, h2, h3, h4, h5⟩ := HTS.out
       exact ⟨by rw [HNN.out]; omega, by rw [HNW.out]; omega, by rw [HNS.out]; omega, by rw [HNL.out]; omega, by rw [HTT.out]; omega, fun j hj => HQ.out j (by rw [← HNL.out]; exact hj)⟩
def RightO (r : Rm) (w : World) (e : Ending) (w' : World) : Prop := ∃ b, e = .returned (.bool b) ∧ (b = true ↔ RightR r) ∧ Below w.heap.size w w'
theorem asc_of (l : List Rp) (h : ∀ i, 0 < i → i < l.length → pC (l.getD (i - 1) rp0) < pC (l.getD i rp0)) : l.Pairwise fun x y => pC x < pC y := by
 rw [List.pairwise_iff_getElem]
 intro i j hi hj hij
 obtain ⟨d, rfl⟩ : ∃ d, j = i + 1 + d := ⟨j - (i + 1), by omega⟩
 clear hij
 induction d with
 | zero =>
   have := h (i + 1) (by omega) hj
   rw [List.getD_eq_getElem?_getD, List.getD_eq_getElem?_getD, List.getElem?_eq_getElem hj, List.getElem?_eq_getElem (show i + 1 - 1 < l.length by omega)] at this
   exact this
 | succ d ih =>
   have h1 := ih (by omega)
   have := h (i + 1 + (d + 1)) (by omega) hj
   rw [List.getD_eq_getElem?_getD, List.getD_eq_getElem?_getD, List.getElem?_eq_getElem hj, List.getElem?_eq_getElem (show i + 1 + (d + 1) - 1 < l.length by omega)] at this
   exact Int.lt_trans h1 this
theorem asc_at {l : List Rp} (h : l.Pairwise fun x y => pC x < pC y) (i : Nat) (h0 : 0 < i) (hi : i < l.length) : pC (l.getD (i - 1) rp0) < pC (l.getD i rp0) := by
 rw [List.getD_eq_getElem?_getD, List.getD_eq_getElem?_getD, List.getElem?_eq_getElem hi, List.getElem?_eq_getElem (show i - 1 < l.length by omega)]
 exact (List.pairwise_iff_getElem.1 h) (i - 1) i (by omega) hi (by omega)
theorem rp_mem (l : List Rp) (i : Nat) (hi : i < l.length) : l.getD i rp0 ∈ l := by
 rw [List.getD_eq_getElem?_getD, List.getElem?_eq_getElem hi]
 exact List.getElem_mem hi
theorem mem_rp (l : List Rp) (x : Rp) (h : x ∈ l) : ∃ i, i < l.length ∧ l.getD i rp0 = x := by
 obtain ⟨i, hi, e⟩ := List.getElem_of_mem h
 exact ⟨i, hi, by rw [List.getD_eq_getElem?_getD, List.getElem?_eq_getElem hi]; exact e⟩
theorem rowSh09 : ∃ d, Tryz.prog.underlying 42 = some d ∧ d.isRow = true := ⟨_, Tryz.underlying42, rfl⟩
theorem szSh09 : (Tryz.prog.info? 42).map (·.size) = some 1 := by kernel_rfl
theorem rowBk10 : ∃ d, Tryz.prog.underlying 45 = some d ∧ d.isRow = true := ⟨_, Tryz.underlying45, rfl⟩
theorem szBk10 : (Tryz.prog.info? 45).map (·.size) = some 2 := by kernel_rfl
theorem rowTa11 : ∃ d, Tryz.prog.underlying 48 = some d ∧ d.isRow = true := ⟨_, Tryz.underlying48, rfl⟩
theorem szTa11 : (Tryz.prog.info? 48).map (·.size) = some 1 := by kernel_rfl
theorem rowRm12Y : ∃ d, Tryz.prog.underlying 61 = some d ∧ d.isRow = true := ⟨_, Tryz.underlying61, rfl⟩
theorem right13 (r : Rm) (vN vS vW vL : Value) (w : World) (hr : RdRm w.heap.size w vN vS vW vL r) : Calls Tryz.prog 11 #[.agg (rmc (mT r) vN vS vW vL).toArray] w (RightO r w) := by
 obtain ⟨AN, cN, hvN, -, -⟩ := hr.n.shape
 obtain ⟨AS, cS, hvS, -, -⟩ := hr.s.shape
 obtain ⟨AW, cW, hvW, -, -⟩ := hr.t.shape
 obtain ⟨AL, cL, hvL, -, -⟩ := hr.l.shape
 obtain ⟨nN, hnN⟩ : ∃ q, (mN r).length = q := ⟨_, rfl⟩
 obtain ⟨nS, hnS⟩ : ∃ q, (mS r).length = q := ⟨_, rfl⟩
 obtain ⟨nW, hnW⟩ : ∃ q, (mW r).length = q := ⟨_, rfl⟩
 obtain ⟨nL, hnL⟩ : ∃ q, (mL r).length = q := ⟨_, rfl⟩
 rw [hnN] at hvN
 rw [hnS] at hvS
 rw [hnW] at hvW
 rw [hnL] at hvL
 subst hvN hvS hvW hvL
 have HNL := lhd hnL
 have RM := lhd hr
 clear hr hnN hnS hnW hnL
 obtain ⟨dS, huS, hdS⟩ := rowSh09
 obtain ⟨dB, huB, hdB⟩ := rowBk10
 obtain ⟨dT, huT, hdT⟩ := rowTa11
 obtain ⟨dP, huP, hdP⟩ := rowRm12Y
 go_enter Tryz.func11, Tryz.ntmps11
 go_wp2_with (refine wpList_box_blk rfl 51 _ rfl (rmc (mT r) (.slice AN nN cN) (.slice AS nS cS) (.slice AW nW cW) (.slice AL nL cL)) rfl ?_)
 intro w1 b1 b2 b3
 have RM1 := lhd (RM.out.below b3)
 have HB1 := lhd b3
 have hgs : w.heap.size < w1.heap.size := by omega
 obtain ⟨g, hg⟩ : ∃ g, w.heap.size = g := ⟨_, rfl⟩
 have X1 := lhd b1
 have HG := lhd hg
 rw [hg] at X1 hgs ⊢
 clear b1 b2 b3 RM hg
 have KW : Hid (∀ W, Below w1.heap.size w1 W → RdRm W.heap.size W (.slice AN nN cN) (.slice AS nS cS) (.slice AW nW cW) (.slice AL nL cL) r) := lhd (fun W hW => (RM1.out.below (hW.mono (by rw [HG.out]; omega))).more (by rw [HG.out]; have := hW.size; omega))
 have KB : Hid (∀ W, Below w1.heap.size w1 W → Below w.heap.size w W) := lhd (fun W hW => HB1.out.trans (hW.mono (by rw [HG.out]; omega)))
 go_wp2_with (first | refine wpList_load_part rfl 42 _ rfl g 0 (rmc (mT r) (.slice AN nN cN) (.slice AS nS cS) (.slice AW nW cW) (.slice AL nL cL)) [.slice AN nN cN] 51 rfl X1.out rfl huS hdS szSh09 ?_ | fail)
 refine (rfRightN_any (mN r) (.slice AN nN cN) w1 (KW.out w1 (Below.refl _ _)).n).mono ?_
 rintro e w2 ⟨rfl, hb2⟩
 have B2 := lhd hb2
 obtain ⟨bN, hbN⟩ : ∃ b, rightN (mN r) = b := ⟨_, rfl⟩
 have HN := lhd hbN
 rw [hbN]
 clear hbN hb2
 cases bN with
 | false =>
   go_wp2
   go_ret
   exact ⟨_, rfl, ⟨fun h => by simp at h, fun h => by have := (rightN_iff _).2 h.n; rw [HN.out] at this; simp at this⟩, KB.out _ B2.out⟩
 | true =>
 have X2 := lhd (X1.out.below B2.out hgs)
 go_wp2_with (first | refine wpList_load_partG (by rfl) 45 _ rfl g 1 (rmc (mT r) (.slice AN nN cN) (.slice AS nS cS) (.slice AW nW cW) (.slice AL nL cL)) [.int .i64 (mT r), .slice AS nS cS] 51 rfl X2.out rfl huB hdB szBk10 ?_ | fail)
 refine (rfRightB_any (mT r) (mS r) (.slice AS nS cS) w2 (KW.out w2 B2.out).s).mono ?_
 rintro e w3 ⟨rfl, hb3⟩
 have B3 := lhd (B2.out.trans (hb3.mono B2.out.size))
 obtain ⟨bS, hbS⟩ : ∃ b, rightS (mT r) (mS r) = b := ⟨_, rfl⟩
 have HS := lhd hbS
 rw [hbS]
 clear hbS hb3
 cases bS with
 | false =>
   go_wp2
   go_ret
   exact ⟨_, rfl, ⟨fun h => by simp at h, fun h => by have := (rightS_iff _ _).2 h.b; rw [HS.out] at this; simp at this⟩, KB.out _ B3.out⟩
 | true =>
 have X3 := lhd (X1.out.below B3.out hgs)
 go_wp2_with (first | refine wpList_load_partG (by rfl) 48 _ rfl g 3 (rmc (mT r) (.slice AN nN cN) (.slice AS nS cS) (.slice AW nW cW) (.slice AL nL cL)) [.slice AW nW cW] 51 rfl X3.out rfl huT hdT szTa11 ?_ | fail)
 refine (rfRightW_any (mW r) (.slice AW nW cW) w3 (KW.out w3 B3.out).t).mono ?_
 rintro e w4 ⟨rfl, hb4⟩
 have B4 := lhd (B3.out.trans (hb4.mono B3.out.size))
 obtain ⟨bW, hbW⟩ : ∃ b, rightW (mW r) = b := ⟨_, rfl⟩
 have HW := lhd hbW
 rw [hbW]
 clear hbW hb4
 cases bW with
 | false =>
   go_wp2
   go_ret
   exact ⟨_, rfl, ⟨fun h => by simp at h, fun h => by have := (rightW_iff _).2 h.w; rw [HW.out] at this; simp at this⟩, KB.out _ B4.out⟩
 | true =>
 have X4 := lhd (X1.out.below B4.out hgs)
 have z4 := X4.out.at_ 4 _ rfl
 by_cases hl : (50 : Int) < (nL : Int)
 ·go_wp2
  go_ret
  exact ⟨_, rfl, ⟨fun h => by simp at h, fun h => by have := h.few; rw [HNL.out] at this; omega⟩, KB.out _ B4.out⟩
 have hl50 : nL ≤ 50 := by omega
 go_wp2
 clear hl z4
 go_loopw [3] (fun x wr => ∃ i : Nat, i ≤ nL ∧ x = .int .i64 (i : Int) ∧ Hid (Below w1.heap.size w1 wr) ∧ Hid (∀ j, j < i → (0 ≤ pC ((mL r).getD j rp0) ∧ pC ((mL r).getD j rp0) ≤ 1000 ∧ 1 ≤ pQ ((mL r).getD j rp0)) ∧ (0 < j → pC ((mL r).getD (j - 1) rp0) < pC ((mL r).getD j rp0)))) (fun x _ => nL - (intOf x).toNat)
 case atStart => exact ⟨0, Nat.zero_le _, rfl, B4, lhd (fun j h => absurd h (Nat.not_lt_zero j))⟩
 case round =>
  clear X4 B2 B3 B4 X2 X3
  obtain ⟨i, hi, rfl, HW5, HF⟩ := hrel
  obtain ⟨wQ, rfl⟩ : ∃ q, q = wr := ⟨_, rfl⟩
  have XQ := lhd (X1.out.below HW5.out hgs)
  have z4 := XQ.out.at_ 4 _ rfl
  by_cases hi2 : i < nL
  ·have zi : (i : Int) < (nL : Int) := by omega
   have hil : i < (mL r).length := by rw [HNL.out]; exact hi2
   have hrp := (KW.out _ HW5.out).l
   obtain ⟨ss, h1, h2, h3⟩ := hrp
   obtain ⟨a, hA, -⟩ := h2.cells i (by rw [rvs_len h1]; exact hil)
   subst hA
   have hnd : ∀ (k : Nat) (hk : k < (mL r).length) W, Below wQ.heap.size wQ W → ∀ j v, (rpc ((mL r).getD k rp0) (slv (ss.getD k sl0)))[j]? = some v → W.cell? ((a.add (k * 6)).add j) = some v := by
    intro k hk W hW j v hv
    refine (h2.below hW).node k (by rw [rvs_len h1]; exact hk) j v ?_
    show (rvc ((rvs (mL r) ss).getD k rv0))[j]? = some v
    rw [rvs_at h1 k hk]
    exact hv
   have HND := lhd hnd
   have hni := hnd i hil wQ (Below.refl _ _)
   obtain ⟨⟨Ax, nx, cx⟩, hsx⟩ : ∃ q, ss.getD i sl0 = q := ⟨_, rfl⟩
   obtain ⟨x, hx⟩ : ∃ q, (mL r).getD i rp0 = q := ⟨_, rfl⟩
   rw [hsx, hx] at hni
   have HX := lhd hx
   have hmem : Hid (x ∈ mL r) := lhd (by rw [← hx]; exact rp_mem _ _ hil)
   clear h1 h2 h3 hsx hx hnd
   go_wp2_with (first | refine wpList_load_rowE rfl 61 _ rfl (a.add (i * 6)) (by first | rfl | (simp [Act.eval, Act.put, Addr.add])) (rpc x (.slice Ax nx cx)) hni dP huP hdP szRpRm ?_ | refine wpList_alloc_blk rfl 61 rfl (rpc rp0 (.slice none 0 0)) zeroRpRm ?_)
   intro wa a1 a2 a3
   obtain ⟨gA, hgA⟩ : ∃ g, wQ.heap.size = g := ⟨_, rfl⟩
   have A1 := lhd a1
   have BA := lhd a3
   rw [hgA] at A1 BA ⊢
   have HGA := lhd hgA
   clear a1 a2 a3 hgA hni z4
   go_wp2_with (refine wpList_store_to rfl 61 _ _ rfl gA (rpc x (.slice Ax nx cx)) (rpc rp0 (.slice none 0 0)) 61 rfl rfl A1.out szRpRm rfl (rpc_allM _ _ _ _) ?_)
   intro wb e1 e2 e3 e4
   have BB : Hid (Below wQ.heap.size wQ wb) := lhd (by rw [HGA.out]; exact BA.out.trans e3)
   obtain ⟨C, hC⟩ : ∃ q, pC x = q := ⟨_, rfl⟩
   obtain ⟨Q, hQ⟩ : ∃ q, pQ x = q := ⟨_, rfl⟩
   have HC := lhd hC
   have HQ := lhd hQ
   have d0 : wb.cell? ⟨gA, 0, none⟩ = some (.int .i64 C) := by rw [← hC]; exact e1.at_ 0 _ rfl
   have d1 : wb.cell? ⟨gA, 1, none⟩ = some (.int .i64 Q) := by rw [← hQ]; exact e1.at_ 1 _ rfl
   have z4 := (XQ.out.below BB.out XQ.out.lt).at_ 4 _ rfl
   have HW6 := lhd (HW5.out.trans (BB.out.mono HW5.out.size))
   obtain ⟨P, hP⟩ : ∃ q, pC ((mL r).getD (i - 1) rp0) = q := ⟨_, rfl⟩
   have HP := lhd hP
   have hpv : 0 < i → wb.cell? (a.add ((i - 1) * 6)) = some (.int .i64 P) := by
    intro h0
    have := HND.out (i - 1) (by omega) wb BB.out 0 (.int .i64 P) (by rw [← hP]; rfl)
    simpa [Addr.add] using this
   obtain ⟨i1, hi1⟩ : ∃ q, i - 1 = q := ⟨_, rfl⟩
   rw [hi1] at hpv
   have hw1 : 0 < i → wrap64 ((i : Int) - 1) = (i1 : Int) := fun h => by unfold wrap64; omega
   have hw2 : 0 < i → IntKind.i64.wrap ((i : Int) - 1) = (i1 : Int) := fun h => by rw [IntKind.wrap_i64]; omega
   have hw3 : 0 < i → (i1 : Int) < (nL : Int) := fun h => by omega
   clear e1 e2 e3 e4 A1 BA BB XQ HND hC hQ hP hi1 HGA
   have ways : decide (C < 0) = true ∨ (decide (C < 0) = false ∧ decide (1000 < C) = true) ∨ (decide (C < 0) = false ∧ decide (1000 < C) = false ∧ decide (Q < 1) = true) ∨ (decide (C < 0) = false ∧ decide (1000 < C) = false ∧ decide (Q < 1) = false ∧ 0 < i ∧ decide ((0 : Int) < (i : Int)) = true ∧ wb.cell? (a.add (i1 * 6)) = some (.int .i64 P) ∧ wrap64 ((i : Int) - 1) = (i1 : Int) ∧ IntKind.i64.wrap ((i : Int) - 1) = (i1 : Int) ∧ (i1 : Int) < (nL : Int) ∧ decide (C ≤ P) = true) ∨
    (decide (C < 0) = false ∧ decide (1000 < C) = false ∧ decide (Q < 1) = false ∧ decide ((0 : Int) < (i : Int)) = false ∧ decide (0 < i) = false ∧ Hid (i = 0)) ∨ (decide (C < 0) = false ∧ decide (1000 < C) = false ∧ decide (Q < 1) = false ∧ 0 < i ∧ decide ((0 : Int) < (i : Int)) = true ∧ wb.cell? (a.add (i1 * 6)) = some (.int .i64 P) ∧ wrap64 ((i : Int) - 1) = (i1 : Int) ∧ IntKind.i64.wrap ((i : Int) - 1) = (i1 : Int) ∧ (i1 : Int) < (nL : Int) ∧ decide (C ≤ P) = false) := by
    by_cases k1 : C < 0
    ·exact .inl (decide_eq_true k1)
    by_cases k2 : 1000 < C
    ·exact .inr (.inl ⟨decide_eq_false k1, decide_eq_true k2⟩)
    by_cases k3 : Q < 1
    ·exact .inr (.inr (.inl ⟨decide_eq_false k1, decide_eq_false k2, decide_eq_true k3⟩))
    by_cases k4 : 0 < i
    ·by_cases k5 : C ≤ P
     ·exact .inr (.inr (.inr (.inl ⟨decide_eq_false k1, decide_eq_false k2, decide_eq_false k3, k4, decide_eq_true (by omega), hpv k4, hw1 k4, hw2 k4, hw3 k4, decide_eq_true k5⟩)))
     ·exact .inr (.inr (.inr (.inr (.inr ⟨decide_eq_false k1, decide_eq_false k2, decide_eq_false k3, k4, decide_eq_true (by omega), hpv k4, hw1 k4, hw2 k4, hw3 k4, decide_eq_false k5⟩))))
    ·exact .inr (.inr (.inr (.inr (.inl ⟨decide_eq_false k1, decide_eq_false k2, decide_eq_false k3, decide_eq_false (by omega), decide_eq_false k4, lhd (by omega)⟩))))
   have FN : Hid (C < 0 ∨ 1000 < C ∨ Q < 1 ∨ (0 < i ∧ C ≤ P) → ¬ RightR r) := lhd (fun h hR => by
    have h1 := hR.fine x hmem.out
    rw [HC.out, HQ.out] at h1
    rcases h with h | h | h | ⟨h0, h⟩
    ·omega
    ·omega
    ·omega
    ·have h2 := asc_at hR.asc i h0 hil
     rw [HP.out, HX.out, HC.out] at h2
     omega)
   have FY : Hid (0 ≤ C → C ≤ 1000 → 1 ≤ Q → (0 < i → P < C) → ∀ j, j < i + 1 → (0 ≤ pC ((mL r).getD j rp0) ∧ pC ((mL r).getD j rp0) ≤ 1000 ∧ 1 ≤ pQ ((mL r).getD j rp0)) ∧ (0 < j → pC ((mL r).getD (j - 1) rp0) < pC ((mL r).getD j rp0))) := lhd (fun h1 h2 h3 h4 j hj => by
    rcases Nat.lt_or_ge j i with h | h
    ·exact HF.out j h
    ·obtain rfl : j = i := by omega
     rw [HX.out, HC.out, HQ.out, HP.out]
     exact ⟨⟨by omega, by omega, by omega⟩, fun h0 => by have := h4 h0; omega⟩)
   clear hpv hw1 hw2 hw3 HF HX HC HQ HP hmem hil
   rcases ways with k1 | ⟨k1, k2⟩ | ⟨k1, k2, k3⟩ | ⟨k1, k2, k3, k4, k6, k7, k8, k9, k10, k5⟩ | ⟨k1, k2, k3, k4, k41, k42⟩ | ⟨k1, k2, k3, k4, k6, k7, k8, k9, k10, k5⟩
   all_goals
    go_wp2
    refine wp_region_quiet_lit (by kernel_rfl) (by kernel_rfl) ?_
    repeat (first | go_big_quiet_step (fail) | quiet_step (fail))
    refine wpQuiet_nil ?_
    intro _ hw'
    obtain ⟨nq, hw''⟩ := hw'
    subst hw''
    obtain ⟨wD, hW⟩ : ∃ W, wb.drewN nq = W := ⟨_, rfl⟩
    have HWD : Hid (Below w1.heap.size w1 wD) := lhd (by rw [← hW]; exact HW6.out.trans ((Below.drewN' (Below.refl _ _)).mono HW6.out.size))
    rw [hW]
    clear hW d0 d1 z4
   all_goals first
    | (go_wp2
       go_ret
       first
        | exact ⟨_, rfl, ⟨fun h => by simp at h, fun h => absurd h (FN.out (.inl (of_decide_eq_true k1)))⟩, KB.out _ HWD.out⟩
        | exact ⟨_, rfl, ⟨fun h => by simp at h, fun h => absurd h (FN.out (.inr (.inl (of_decide_eq_true k2))))⟩, KB.out _ HWD.out⟩
        | exact ⟨_, rfl, ⟨fun h => by simp at h, fun h => absurd h (FN.out (.inr (.inr (.inl (of_decide_eq_true k3)))))⟩, KB.out _ HWD.out⟩
        | exact ⟨_, rfl, ⟨fun h => by simp at h, fun h => absurd h (FN.out (.inr (.inr (.inr ⟨k4, of_decide_eq_true k5⟩))))⟩, KB.out _ HWD.out⟩)
    | (clear k7 k8 k9 k10
       go_wp2
       go_roundw
       case rel => exact ⟨i + 1, by omega, by go_num, HWD, lhd (FY.out (by have := of_decide_eq_false k1; omega) (by have := of_decide_eq_false k2; omega) (by have := of_decide_eq_false k3; omega) (fun _ => by have := of_decide_eq_false k5; omega))⟩
       case measure => simp [intOf]; omega)
    | (go_wp2
       go_roundw
       case rel => exact ⟨i + 1, by omega, by go_num, HWD, lhd (FY.out (by have := of_decide_eq_false k1; omega) (by have := of_decide_eq_false k2; omega) (by have := of_decide_eq_false k3; omega) (fun h => by have := k42.out; omega))⟩
       case measure => simp [intOf]; omega)
  ·obtain rfl : i = nL := by omega
   have zi : ¬ (i : Int) < (i : Int) := by omega
   have HR : Hid (RightR r) := lhd (by
    refine ⟨(rightN_iff _).1 HN.out, (rightS_iff _ _).1 HS.out, (rightW_iff _).1 HW.out, by rw [HNL.out]; exact hl50, fun x hx => ?_, asc_of _ fun j h0 hj => (HF.out j (by rw [← HNL.out]; exact hj)).2 h0⟩
    obtain ⟨j, hj, rfl⟩ := mem_rp _ x hx
    exact (HF.out j (by rw [← HNL.out]; exact hj)).1)
   go_wp2
   go_ret
   exact ⟨_, rfl, ⟨fun _ => HR.out, fun _ => rfl⟩, KB.out _ HW5.out⟩
theorem rfSameR_any (r : Rp) (z : Int) (nv nu : Value) (w : World) (hr : RdS w.heap.size w nv (pN r)) (hr2 : RdS w.heap.size w nu (pN r)) (hn : (pN r).length ≤ 1000000) : Calls Tryz.prog 18 #[.agg (rpc r nv).toArray, .agg (rpc (pC r, pQ r, pE r, pV r, z, pN r) nu).toArray] w (One (.bool (decide (pR r = z))) w) := by
 have HR := lhd hr
 have HS := lhd hr2
 have HN := lhd hn
 clear hr hr2 hn
 have n1 : (pC r == pC r) = true := beq_self_eq_true _
 have n2 : (pQ r == pQ r) = true := beq_self_eq_true _
 have n3 : (pE r == pE r) = true := beq_self_eq_true _
 have n4 : ((⟨(pV r).toArray⟩ : ByteArray).toList == (⟨(pV r).toArray⟩ : ByteArray).toList) = true := beq_self_eq_true _
 go_enter Tryz.func18, Tryz.ntmps18
 go_wp2_with (refine wpList_box_blk rfl 61 _ rfl (rpc r nv) rfl ?_)
 intro y0 b1 b2 b3
 obtain ⟨gb0, hg⟩ : ∃ g, w.heap.size = g := ⟨_, rfl⟩
 have X0 := lhd b1
 have EB0 := lhd b3
 rw [hg] at X0 ⊢
 clear b1 b2 b3 hg
 go_wp2_with (refine wpList_box_blk rfl 61 _ rfl (rpc (pC r, pQ r, pE r, pV r, z, pN r) nu) rfl ?_)
 intro y1 b1 b2 b3
 obtain ⟨gb1, hg⟩ : ∃ g, y0.heap.size = g := ⟨_, rfl⟩
 have X1 := lhd b1
 have EB1 := lhd b3
 rw [hg] at X1 ⊢
 clear b1 b2 b3 hg
 have P0_w := lhd (EB0.out.trans (EB1.out.mono EB0.out.size))
 have c_X0 := (X0.out.below EB1.out X0.out.lt).at_ 0 _ rfl
 have c_X0_1 := (X0.out.below EB1.out X0.out.lt).at_ 1 _ rfl
 have c_X0_2 := (X0.out.below EB1.out X0.out.lt).at_ 2 _ rfl
 have c_X0_3 := (X0.out.below EB1.out X0.out.lt).at_ 3 _ rfl
 have c_X0_4 := (X0.out.below EB1.out X0.out.lt).at_ 4 _ rfl
 have c_X0_5 := (X0.out.below EB1.out X0.out.lt).at_ 5 _ rfl
 have c_X1 := X1.out.at_ 0 _ rfl
 have c_X1_1 := X1.out.at_ 1 _ rfl
 have c_X1_2 := X1.out.at_ 2 _ rfl
 have c_X1_3 := X1.out.at_ 3 _ rfl
 have c_X1_4 := X1.out.at_ 4 _ rfl
 have c_X1_5 := X1.out.at_ 5 _ rfl
 by_cases hz : pR r = z
 ·subst hz
  have n5 : (pR r == pR r) = true := beq_self_eq_true _
  have HD : Hid (decide (pR r = pR r) = true) := decide_eq_true rfl
  go_wp2_with fail
  refine (strings_same nv nu (pN r) _ _ y1 ((HR.out.below P0_w.out).more P0_w.out.size) ((HS.out.below P0_w.out).more P0_w.out.size) (Nat.le_refl _) (Nat.le_refl _) (by have := HN.out; omega)).mono ?_
  rintro e w9 ⟨rfl, hb⟩
  have E9 := lhd hb
  clear hb
  have P1_w := lhd (P0_w.out.trans (E9.out.mono P0_w.out.size))
  clear P0_w
  have P1_y0 := lhd (EB1.out.trans (E9.out.mono EB1.out.size))
  go_wp2
  go_ret
  exact ⟨by rw [HD.out]; rfl, P1_w.out⟩
 ·have n5 : (pR r == z) = false := by rw [beq_eq_false_iff_ne]; exact hz
  have HD : Hid (decide (pR r = z) = false) := decide_eq_false hz
  clear hz
  go_wp2
  go_ret
  exact ⟨by rw [HD.out]; rfl, P0_w.out⟩
end Go.Proofs.YtdihngkdhanhkaaGreatDoor
