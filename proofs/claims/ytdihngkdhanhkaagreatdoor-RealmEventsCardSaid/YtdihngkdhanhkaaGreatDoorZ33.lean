/-
  Texts IW.
-/
import Derived.Test.YtdihngkdhanhkaaGreatDoorZ10
import Derived.Test.YtdihngkdhanhkaaGreatDoorZ19
import Derived.Test.YtdihngkdhanhkaaGreatDoorZ24
import Derived.Test.YtdihngkdhanhkaaGreatDoorZ29
import Derived.Test.YtdihngkdhanhkaaGreatDoorZ31
namespace Go.Proofs.YtdihngkdhanhkaaGreatDoor
open Go.RowKit

set_option maxRecDepth 100000 in
set_option maxHeartbeats 8000000 in
theorem tnDrop_any (a b g : Nat) (z : Int) (r : Rm) (x0 : Rp) (cs : List Ch) (w : World) (h : TnP a b g w r x0 cs) (hx : pE x0 = 0) (hl : cs.length + (mN r).length ≤ 50000) :
    Calls Tryz.prog 166 #[.pointer (some ⟨g, 0, none⟩), .int .i64 z] w (TnQ a b g (dropS (mN r) z, mT r, mS r, mW r, mL r) x0 (cs ++ (goneN (mN r) z).map (fun p => ((3 : Int), p))) w) := by
  obtain ⟨vN, vS, vW, vL, nv, vC, hX, hF, hC, hbg⟩ := h
  have hab := hF.ab
  have X1 := Lib.hid hX
  have F1 := Lib.hid hF
  have C1 := Lib.hid hC
  have HL := Lib.hid hl
  have hlt1 := hX.lt
  have HX0 := Lib.hid hx
  have hb1 := Lib.hid (show b ≤ w.heap.size by omega)
  have E1 := Lib.hid (Kp.of (Below.refl w.heap.size w) hb1.out)
  clear hX hF hC hl hx
  go_enter Tryz.func166, Tryz.ntmps166
  obtain ⟨d9, hu9, hd9⟩ := rowShT
  go_wp2_with (refine wpList_load_part rfl 24 _ rfl g 0 (tnc (mT r) vN vS vW vL x0 nv vC) [vN] 189 rfl X1.out rfl hu9 hd9 szShT ?_)
  go_wp2_with fail
  refine (shDrop_own (mN r) z vN w F1.out.n.1 (by have := HL.out; omega)).mono ?_
  rintro e w2 ⟨u, p, rfl, hou, hop, hb⟩
  have G2 := Lib.hid (GoE.own hou.toE (Nat.le_trans hab hb1.out))
  have P2 := Lib.hid (GoE.own hop.toE (Nat.le_trans hab hb1.out))
  obtain ⟨Au, cu, hu, -, -⟩ := hou.rd.shape
  obtain ⟨nu, hnu⟩ : ∃ q, (dropS (mN r) z).length = q := ⟨_, rfl⟩
  rw [hnu] at hu
  obtain ⟨Ap, cp, hp, hcp, hcm⟩ := hop.rd.shape
  obtain ⟨np, hnp⟩ : ∃ q, (bas (goneN (mN r) z)).length = q := ⟨_, rfl⟩
  rw [hnp] at hp hcp
  have NP := Lib.hid hnp
  unfold maxLen at hcm
  clear hnu hnp
  subst hu
  subst hp
  clear hou hop
  have X2 := Lib.hid (X1.out.below hb hlt1)
  have F2 := Lib.hid (F1.out.keep (.of hb hb1.out))
  have C2 := Lib.hid (C1.out.below hb (Nat.le_refl _))
  have E2 := Lib.hid (E1.out.trans (.of hb hb1.out))
  have hb2 := Lib.hid (Nat.le_trans hb1.out hb.size)
  clear hb X1 F1 C1 E1 hb1 hlt1
  go_wp2_with (refine wpList_store_part rfl 24 _ _ rfl g 0 (tnc (mT r) vN vS vW vL x0 nv vC) [.slice Au nu cu] 189 rfl rfl X2.out szShT (by show 1 ≤ 12; decide) (one_of rfl) ?_)
  intro w3 e1 e2 e3 e4
  have X3 : Hid (Blk w3 g (tnc (mT r) (.slice Au nu cu) vS vW vL x0 nv vC) 189) := e1
  have F3 := Lib.hid (F2.out.keep (.store X2.out (.inl rfl) hbg e2 e4))
  have C3 := Lib.hid (C2.out.keep (T := fun e => e = 189) (.store X2.out rfl hbg e2 e4) (by decide))
  have G3 := Lib.hid (G2.out.keep (.store X2.out (.inl rfl) hbg e2 e4) TT_nd hab)
  have P3 := Lib.hid (P2.out.keep (.store X2.out (.inl rfl) hbg e2 e4) TT_st hab)
  have E3 := Lib.hid (E2.out.trans (.store X2.out hbg e2 e3 e4))
  have hb3 := Lib.hid (show b ≤ w3.heap.size by rw [e2]; exact hb2.out)
  clear e1 e2 e3 e4 X2 F2 C2 G2 P2 E2 hb2
  obtain ⟨R, hR⟩ : ∃ q : Rm, (dropS (mN r) z, mT r, mS r, mW r, mL r) = q := ⟨_, rfl⟩
  have HT : Hid (TnP a b g w3 R x0 (cs ++ ((goneN (mN r) z).take 0).map (fun p => ((3 : Int), p)))) := by
    show TnP _ _ _ _ _ _ _
    rw [← hR, List.take_zero, List.map_nil, List.append_nil]
    exact ⟨(.slice Au nu cu), vS, vW, vL, nv, vC, X3.out, ⟨G3.out, F3.out.s, F3.out.t, F3.out.l, F3.out.x, hab⟩, C3.out, hbg⟩
  have HR := Lib.hid hR
  have NL : Hid ((goneN (mN r) z).length = np) := by
    have h1 := NP.out
    unfold bas at h1
    rw [List.length_map] at h1
    exact h1
  have NG : Hid ((goneN (mN r) z).length ≤ (mN r).length) := by
    show _ ≤ _
    unfold goneN
    rw [List.length_map]
    exact List.length_filter_le _ _
  obtain ⟨ps, hps⟩ : ∃ q, goneN (mN r) z = q := ⟨_, rfl⟩
  rw [hps] at HT P3 NL NG
  have HPS := Lib.hid hps
  have hn9 : np ≤ 50000 := by have := HL.out; have := NG.out; have := NL.out; omega
  clear X3 F3 C3 G3 hR hps NP hcp hcm
  go_wp2
  go_loopw [23] (fun y wr => ∃ k : Nat, k ≤ np ∧ y = .int .i64 (k : Int) ∧ Hid (TnP a b g wr R x0 (cs ++ (ps.take k).map (fun p => ((3 : Int), p)))) ∧ Hid (Kp b w3 wr)) (fun y _ => np - (intOf y).toNat)
  case atStart => exact ⟨0, Nat.zero_le _, rfl, HT, Lib.hid (Kp.of (Below.refl _ _) hb3.out)⟩
  case round =>
    obtain ⟨k, hk, rfl, HT1, HK⟩ := hrel
    clear HT
    by_cases hkn : k < np
    · have zi : (k : Int) < (np : Int) := by omega
      have hkp : k < ps.length := by rw [NL.out]; exact hkn
      obtain ⟨aP, hA, hc0⟩ := (RdS.ofE (P3.out.keep HK.out.k TT_st hab).1).at_ k (by unfold bas; rw [List.length_map]; exact hkp)
      subst hA
      have hc : wr.cell? (aP.add k) = some (txt ps[k]) := by
        rw [hc0]
        unfold bas
        rw [List.getElem_map]
      clear hc0
      have HS : Hid (ps.take (k + 1) = ps.take k ++ [ps[k]]) := List.take_succ_eq_append_getElem hkp
      obtain ⟨q, hq⟩ : ∃ q, ps[k] = q := ⟨_, rfl⟩
      rw [hq] at hc HS
      clear hq
      go_wp2_with fail
      refine (tnChanged_any a b g 3 q R x0 _ wr HT1.out (by have h1 := HL.out; have h2 := NG.out; rw [List.length_append, List.length_map, List.length_take]; omega)).mono ?_
      rintro e w5 ⟨⟨vq, rfl⟩, hT, hb⟩
      have HT5 : Hid (TnP a b g w5 R x0 (cs ++ (ps.take (k + 1)).map (fun p => ((3 : Int), p)))) := by
        show TnP _ _ _ _ _ _ _
        rw [HS.out, List.map_append, ← List.append_assoc]
        rw [noteR, if_pos HX0.out] at hT
        exact hT
      have HK5 := Lib.hid (HK.out.trans hb)
      clear hT hb HT1 HK hc
      go_wp2
      go_roundw
      case rel => exact ⟨k + 1, by omega, by go_num, HT5, HK5⟩
      case measure => simp [intOf]; omega
    · obtain rfl : k = np := by omega
      go_wp2
      refine ⟨rfl, _, results_none rfl _ _ _, ⟨_, rfl⟩, ?_, E3.out.trans HK.out⟩
      have h1 := HT1.out
      rw [List.take_of_length_le (by rw [NL.out]; exact Nat.le_refl _)] at h1
      rw [HR.out, HPS.out]
      exact h1
end Go.Proofs.YtdihngkdhanhkaaGreatDoor
