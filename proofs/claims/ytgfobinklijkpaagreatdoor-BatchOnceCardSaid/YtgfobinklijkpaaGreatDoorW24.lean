/-
  Texts G3 G5 G6.
-/
import Derived.Test.YtgfobinklijkpaaGreatDoorW01
import Derived.Test.YtgfobinklijkpaaGreatDoorW06
import Derived.Test.YtgfobinklijkpaaGreatDoorW22
import Derived.Test.YtgfobinklijkpaaGreatDoorW23
namespace Go.Proofs.YtgfobinklijkpaaGreatDoor
set_option maxRecDepth 100000
set_option maxHeartbeats 16000000
open Go.RowKit
theorem kidFn_any (x : Nd) (p : List UInt8) (g : Nat) (w : World) (hg : g < w.heap.size) (hc : w.cell? ⟨g, 0, none⟩ = some (txt p)) : Calls Tryz.prog 240 #[ndv x, .pointer (some ⟨g, 0, none⟩)] w (One (.bool (kidN p x)) w) := by
 obtain ⟨a, b, c, d⟩ := x
 have HK : Hid (kidN p (a, b, c, d) = (decide (parentE a = 0) && decide (parentS a = p))) := rfl
 obtain ⟨K, hK⟩ : ∃ K, kidN p (a, b, c, d) = K := ⟨_, rfl⟩
 rw [hK] at HK ⊢
 clear hK
 show Calls Tryz.prog _ #[.agg #[txt a, txt b, .int .i64 c, .int .i64 d], _] w _
 go_enter Tryz.func240, Tryz.ntmps240
 go_wp2_with (refine wpList_box_blk rfl 157 _ rfl [txt a, txt b, .int .i64 c, .int .i64 d] rfl ?_)
 intro w1 b1 b2 b3
 have HB := lhd b3
 have c0 := b1.cell 0
 have C1 := lhd ((b3.cell hg).trans hc)
 have hs1 : w.heap.size ≤ w1.heap.size := by omega
 have hg1 : g < w1.heap.size := by omega
 obtain ⟨k, hk⟩ : ∃ k, w.heap.size = k := ⟨_, rfl⟩
 rw [hk] at c0 ⊢
 clear b1 b2 b3 hc hg
 go_wp2_with fail
 refine (pxParent_any a w1).mono ?_
 rintro e w2 ⟨rfl, hb⟩
 have c1 := (hb.cell hg1).trans C1.out
 have HB2 := lhd (HB.out.trans (hb.mono hs1))
 clear hb c0 hs1 hg1
 by_cases h0 : parentE a = 0
 ·rw [h0]
  obtain ⟨up, hup⟩ : ∃ up, parentS a = up := ⟨_, rfl⟩
  rw [hup] at HK ⊢
  by_cases h1 : up = p
  ·have HF : Hid (K = true) := by
    show _ = _
    rw [HK.out, h0, h1]; simp
   subst h1
   have hb : (up == up) = true := by simp
   clear h0 hup
   go_wp2
   go_ret
   exact ⟨by rw [HF.out]; rfl, HB2.out⟩
  ·have HF : Hid (K = false) := by
    show _ = _
    rw [HK.out, decide_eq_false h1]; simp
   have hb : (up == p) = false := by simpa using h1
   clear h0 hup h1
   go_wp2
   go_ret
   exact ⟨by rw [HF.out]; rfl, HB2.out⟩
 ·have HF : Hid (K = false) := by
   show _ = _
   rw [HK.out, decide_eq_false h0]; simp
  obtain ⟨f, hf⟩ : ∃ f, parentE a = f := ⟨_, rfl⟩
  have h1 : ((f : Int) == 0) = false := by
   rw [beq_eq_false_iff_ne]
   omega
  rw [hf]
  clear h0 hf
  go_wp2
  go_ret
  exact ⟨by rw [HF.out]; rfl, HB2.out⟩
def KidOf (p : List UInt8) (w : World) (e : Ending) (w' : World) : Prop :=
 ∃ g, e = .returned (.func (.func 240) #[] #[.pointer (some ⟨g, 0, none⟩)]) ∧ g < w'.heap.size ∧ w'.cell? ⟨g, 0, none⟩ = some (txt p) ∧ Below w.heap.size w w'
theorem kidEnter (args : Array Value) (w : World) : (callFunc 240 args).run Tryz.prog w = .ok (.enter 240 args) w := enters_of Tryz.func240 (by kernel_rfl) rfl args w
theorem shChild_any (p : List UInt8) (w : World) : Calls Tryz.prog 216 #[txt p] w (KidOf p w) := by
 have hmf : ∀ (fn : Fn) (first cap : Array Value) (w : World), (Instr.makeFunc fn first cap).run Tryz.prog w = .ok (.func fn first cap) w := fun _ _ _ _ => rfl
 go_enter Tryz.func216, Tryz.ntmps216
 go_wp2_with (refine wpList_box_one rfl 9 _ rfl (txt p) rfl rfl ?_)
 intro w1 b1 b2 b3
 have HB := lhd b3
 have c0 := lhd (b1.cell 0)
 have hk1 : w.heap.size < w1.heap.size := by omega
 obtain ⟨k, hk⟩ : ∃ k, w.heap.size = k := ⟨_, rfl⟩
 have HK := lhd hk
 rw [hk] at c0 hk1 ⊢
 clear b1 b2 b3 hk
 go_wp2
 go_ret
 exact ⟨k, rfl, hk1, c0.out, HB.out⟩
theorem shList_any (l : List Nd) (p : List UInt8) (v : Value) (w : World) (hr : RdNd w.heap.size w v l) (hl : l.length ≤ 1000000) : Calls Tryz.prog 181 #[.agg #[v], txt p] w (Lists (listS l p) (getE l p) w) := by
 obtain ⟨i0, hI, hz0, hz1, hz2⟩ := info_partsStr
 obtain ⟨A, cp, rfl, hc, hm⟩ := hr.shape
 unfold maxLen at hm
 obtain ⟨n, hn⟩ : ∃ n, l.length = n := ⟨_, rfl⟩
 have HN := lhd hn
 have HR := lhd hr
 rw [hn] at hc HR hl ⊢
 have HL := lhd hl
 clear hr hl hn
 go_enter Tryz.func181, Tryz.ntmps181
 go_wp2_with (refine wpList_box_blk rfl 41 _ rfl [.slice A n cp] rfl ?_)
 intro w1 b1 b2 b3
 obtain ⟨g0, hg0⟩ : ∃ g, w.heap.size = g := ⟨_, rfl⟩
 have HRa := lhd ((HR.out.below b3).more (show w.heap.size ≤ w1.heap.size by omega))
 have X0 := lhd b1
 have HB := lhd b3
 have hw1 : w.heap.size ≤ w1.heap.size := by omega
 have hg1 : g0 < w1.heap.size := by omega
 rw [hg0] at X0 ⊢
 have ca := X0.out.cell 0
 clear b1 b2 b3 hg0
 go_wp2_with fail
 refine (shGet_any l p _ w1 HRa.out).mono ?_
 rintro e w2 ⟨rfl, hb⟩
 have hs2 := hb.size
 have X2 := lhd (X0.out.below hb hg1)
 have HB2 := lhd (HB.out.trans (hb.mono hw1))
 have HR2 := lhd ((HRa.out.below hb).more hs2)
 clear hb X0 HB HRa ca
 go_wp2_with (refine wpList_alloc_blk rfl 157 rfl (ndc nd0) zPN ?_)
 intro w3 a1 a2 a3
 obtain ⟨g2, hg2⟩ : ∃ g, w2.heap.size = g := ⟨_, rfl⟩
 have X3 := lhd (X2.out.below a3 (by omega))
 have Y3 := lhd a1
 have HB3 := lhd (HB2.out.trans (a3.mono (by omega)))
 have HR3 := lhd ((HR2.out.below a3).more (show w2.heap.size ≤ w3.heap.size by omega))
 have hw3 : g2 < w3.heap.size := by omega
 have hg02 : g0 < g2 := by omega
 have hwg : w.heap.size ≤ g2 := by omega
 have hw13 : w1.heap.size ≤ w3.heap.size := by omega
 rw [hg2] at Y3 ⊢
 clear a1 a2 a3 X2 HB2 HR2 hg2
 obtain ⟨f, hf⟩ : ∃ f, getE l p = f := ⟨_, rfl⟩
 have HF := lhd hf
 obtain ⟨x, hx⟩ : ∃ x, getS l p = x := ⟨_, rfl⟩
 rw [hx, hf]
 clear hx hf
 go_wp2_with (refine wpList_store_to rfl 157 _ _ rfl g2 (ndc x) (ndc nd0) 157 rfl rfl Y3.out sPN rfl (ndc_one _) ?_)
 intro w4 c1 c2 c3 c4
 have X4 := lhd (X3.out.same (c4 g0 (by omega)))
 have HB4 := lhd (HB3.out.trans (c3.mono hwg))
 have hw4 : w3.heap.size = w4.heap.size := c2.symm
 have HR4 : Hid (RdNd w4.heap.size w4 (.slice A n cp) l) :=
  (HR.out.below HB4.out).more (by omega)
 have ca := X4.out.cell 0
 clear c1 c2 c3 c4 X3 Y3 HB3 HR3
 by_cases h0 : f = 0
 ·subst h0
  have HE := lhd (list_yes l p HF.out)
  clear ca
  go_wp2_with fail
  refine (shChild_any p w4).mono ?_
  rintro e w5 ⟨gk, rfl, hk1, hk2, hb⟩
  have hs5 := hb.size
  have X5 := lhd (X4.out.below hb (by omega))
  have HB5 := lhd (HB4.out.trans (hb.mono (show w.heap.size ≤ w4.heap.size by omega)))
  have HR5 := lhd (HR4.out.below hb)
  have HK := lhd hk2
  obtain ⟨G, hG⟩ : ∃ G, w5.heap.size = G := ⟨_, rfl⟩
  have hRG : w4.heap.size ≤ G := by omega
  have hgG : g0 < G := by omega
  have hwG : w.heap.size ≤ G := by omega
  rw [hG] at hk1
  have HGe := lhd hG
  have ca := X5.out.cell 0
  clear hb hk2 hs5 HR4 X4 HB4
  go_wp2
  go_loopw [8, 28] (fun o x wr => ∃ i : Nat, i ≤ n ∧ x = .int .i64 (i : Int) ∧ Hid (OwnS 9 wr G o (bas (kidsN (l.take i) p))) ∧ Hid (Below G w5 wr)) (fun _ x _ => n - (intOf x).toNat)
  case atStart => exact ⟨0, by omega, rfl, OwnS.nil _ _ _, Below.refl _ _⟩
  case round =>
   obtain ⟨i, hi, rfl, HO, HW⟩ := hrel
   have hwr := HW.out.size
   rw [HGe.out] at hwr
   clear ca
   have ca := (X5.out.below HW.out hgG).cell 0
   by_cases hi2 : i < n
   ·have zi : (i : Int) < (n : Int) := by omega
    obtain ⟨a, hA, c0, c1, c2, c3⟩ := (HR5.out.below (HW.out.mono hRG)).at_ i (by rw [HN.out]; exact hi2)
    subst hA
    have HS := lhd (kidsN_snoc l p i (by rw [HN.out]; exact hi2))
    have HKL := lhd (Nat.le_trans (kidsN_len (l.take i) p) (List.length_take_le i l))
    obtain ⟨x, hx⟩ : ∃ x, l.getD i nd0 = x := ⟨_, rfl⟩
    rw [hx] at c0 c1 c2 c3 HS
    clear hx
    go_wp2_with (refine wpList_alloc_blk rfl 157 rfl (ndc nd0) zPN ?_)
    intro wa a1 a2 a3
    obtain ⟨gA, hgA⟩ : ∃ g, wr.heap.size = g := ⟨_, rfl⟩
    have A1 := lhd a1
    have HOa := lhd (HO.out.below a3 (Nat.le_refl _))
    have HWa := lhd (HW.out.trans (a3.mono hwr))
    have hne := World.ownsRow.lt HO.out
    rw [hgA] at A1 hwr hne ⊢
    have HNE := lhd hne
    clear hne
    clear a1 a3 HO HW c0 c1 c2 c3 ca hgA
    go_wp2_with (refine wpList_store_to rfl 157 _ _ rfl gA (ndc x) (ndc nd0) 157 rfl rfl A1.out sPN rfl (ndc_one _) ?_)
    intro wb e1 e2 e3 e4
    have HOb : Hid (OwnS 9 wb G u8 (bas (kidsN (l.take i) p))) := by
     refine ownsRow_but HOa.out (fun e => ?_) e4
     have := (HNE.out gA e).2
     omega
    have HWb := lhd (HWa.out.trans (e3.mono hwr))
    have Y4 := lhd e1
    have hsb : gA < wb.heap.size := e1.lt
    have d0 := e1.at_ 0 _ rfl
    have d1 := e1.at_ 1 _ rfl
    have d2 := e1.at_ 2 _ rfl
    have d3 := e1.at_ 3 _ rfl
    have hGb : G ≤ wb.heap.size := by omega
    clear e1 e2 e3 e4 a2 A1 HOa HWa
    go_wp2_with fail
    refine (kidFn_any x p gk wb (Nat.lt_of_lt_of_le hk1 hGb) ((HWb.out.cell hk1).trans HK.out)).mono ?_
    rintro e w6 ⟨rfl, hb⟩
    have hs6 := hb.size
    have HO6 := lhd (HOb.out.below hb (Nat.le_refl _))
    have HW6 := lhd (HWb.out.trans (hb.mono hGb))
    have Y6 := lhd (Y4.out.below hb hsb)
    clear hb d0 d1 d2 d3 HOb HWb Y4
    cases hk : kidN p x
    ·have HS2 : Hid (kidsN (l.take (i + 1)) p = kidsN (l.take i) p) := by
      show _ = _
      rw [HS.out, hk]; simp
     clear hk
     go_wp2
     go_roundw
     case rel => exact ⟨i + 1, by omega, by go_num, by rw [HS2.out]; exact HO6, HW6⟩
     case measure => simp [intOf]; omega
    ·obtain ⟨k1, k2, k3⟩ := kidN_right p x hk
     have HS2 : Hid (kidsN (l.take (i + 1)) p = kidsN (l.take i) p ++ [lastN (nP x)]) := by
      show _ = _
      rw [HS.out, hk]; simp
     have HNM := lhd (names_yes (nP x) k1)
     obtain ⟨K, hK⟩ : ∃ K, (cutL (nP x)).length = K := ⟨_, rfl⟩
     have hK0 : K ≠ 0 := by
      intro h
      rw [h] at hK
      have hcl : cutL (nP x) = [] := List.eq_nil_of_length_eq_zero hK
      have := (parent_root (nP x) k1 hcl).2
      rw [k2] at this; cases this
     obtain ⟨k, hk2⟩ : ∃ k, K = k + 1 := ⟨K - 1, by omega⟩
     have HLA : Hid (lastN (nP x) = (cutL (nP x)).getD k []) := by
      show _ = _
      unfold lastN
      rw [hK, hk2, Nat.add_sub_cancel]
     have HKK := lhd hK
     have hi1 : (K : Int) - 1 = (k : Int) := by omega
     have hlt : (k : Int) < (K : Int) := by omega
     have HkK := lhd hk2
     have d0 := Y6.out.at_ 0 _ rfl
     obtain ⟨xp, hxp⟩ : ∃ q, nP x = q := ⟨_, rfl⟩
     rw [hxp] at HNM HLA HKK HS2 d0
     clear hk k1 k2 k3 hK hK0 hk2 hxp HS
     go_wp2_with fail
     refine (pxNames_any xp w6).mono ?_
     rintro e w7 ⟨u, rfl, ho, hb⟩
     have hs7 := hb.size
     have HO7 := lhd (HO6.out.below hb (Nat.le_refl _))
     have HW7 := lhd (HW6.out.trans (hb.mono (by omega)))
     rw [HNM.out.1] at ho
     rw [HNM.out.2]
     have hr := ho.rd
     obtain ⟨A2, cp2, rfl, hc2, hm2⟩ := hr.shape
     unfold maxLen at hm2
     rw [bas_length, HKK.out] at hc2 hr ⊢
     obtain ⟨a2, hA2, cb⟩ := hr.at_ k (by rw [bas_length, HKK.out]; have := HkK.out; omega)
     subst hA2
     obtain ⟨y, hy⟩ : ∃ y, (cutL xp).getD k [] = y := ⟨_, rfl⟩
     rw [bas_at (cutL xp) k (by rw [HKK.out]; have := HkK.out; omega) y hy] at cb
     rw [hy] at HLA
     have hwz : G ≤ w7.heap.size := by omega
     clear d0 hb ho hr HO6 HW6 hy
     have HO4 := lhd (HO7.out.alloc (.cells #[.string ⟨y.toArray⟩] 9))
     have HW4 : Hid (Below G w5 (w7.alloc (.cells #[.string ⟨y.toArray⟩] 9))) := HW7.out.alloc (by omega) _
     go_wp2_with (at_builtin; refine wpList_app1S rfl _ _ 77 rfl 9 i0 Tryz.underlying77 hI hz0 hz1 hz2 G _ (bas (kidsN (l.take i) p)) ⟨y.toArray⟩ ⟨w7.heap.size, 0, none⟩ rfl HO4.out rfl ?d1 ?d2 ?d3 ?_)
     case d1 => simp
     case d2 => rw [bas_length]; have := HKL.out; have := HL.out; omega
     case d3 => simp; omega
     intro v8 w8 hown8 hb8
     rw [← bas_snoc] at hown8
     have HO5 : Hid (OwnS 9 w8 G v8 (bas (kidsN (l.take (i + 1)) p))) := by
      show OwnS _ _ _ _ _
      rw [HS2.out, HLA.out]
      exact hown8
     have HW5 : Hid (Below G w5 w8) := HW4.out.trans hb8
     clear hown8 hb8
     go_wp2
     go_roundw
     case rel => exact ⟨i + 1, by omega, by go_num, HO5, HW5⟩
     case measure => simp [intOf]; omega
   ·have hE : i = n := by omega
    subst hE
    have HFL : Hid (l.take i = l) := List.take_of_length_le (by rw [HN.out]; exact Nat.le_refl _)
    rw [HFL.out] at HO
    go_wp2
    go_ret2
    rw [HE.out, HF.out]
    exact ⟨_, rfl, HO.out.base hwG, HB5.out.trans (HW.out.mono hwG)⟩
 ·have HE := lhd (list_not l p (by rw [HF.out]; exact h0))
  have hz : ((f : Int) != 0) = true := by
   rw [bne_iff_ne]
   omega
  clear ca
  go_wp2
  go_ret2
  rw [HE.out, HF.out]
  exact ⟨_, rfl, OwnS.nil _ _ _, HB4.out⟩
def vacE (l : List Nd) (p : List UInt8) : Nat :=
 if getE l p = 0 then 7 else if getE l p ≠ 6 then getE l p else if parentE p ≠ 0 then parentE p else if getE l (parentS p) ≠ 0 then getE l (parentS p) else if nO (getS l (parentS p)) ≠ 0 then 10 else 0
def crF (l : List Nd) (p v : List UInt8) (o : Int) : Nat := if vacE l p ≠ 0 then vacE l p else if 1000 < v.length then 5 else if o < 0 then 1 else if 200 ≤ l.length then 9 else 0
def setF (l : List Nd) (p v : List UInt8) (ver : Int) : Nat := if getE l p ≠ 0 then getE l p else if verB ver (nR (getS l p)) = false then 8 else if 1000 < v.length then 5 else if 1000000000 ≤ nR (getS l p) then 9 else 0
def delF (l : List Nd) (p : List UInt8) (ver : Int) : Nat := if getE l p ≠ 0 then getE l p else if p = [47] then 13 else if verB ver (nR (getS l p)) = false then 8 else if l.any (kidN p) = true then 10 else 0
theorem verB_iff (z r : Int) : verB z r = false ↔ z ≠ -1 ∧ z ≠ r := by
 unfold verB
 simp
theorem any_kids (l : List Nd) (p : List UInt8) : l.any (kidN p) = true ↔ kidsN l p ≠ [] := by
 unfold kidsN
 rw [List.any_eq_true]
 simp
theorem root_in (l : List Nd) (h : rightN l = true) : hasN l [47] = true := by
 have h2 := (rightN_iff l).1 h
 rw [hasN_iff]
 cases l with
 | nil => exact absurd rfl h2.some
 | cons x r => exact ⟨x, by simp, by simpa using h2.root⟩
theorem parent_up (p : List UInt8) (h : rightB p = true) (h2 : p ≠ [47]) : parentE p = 0 ∧ rightB (parentS p) = true ∧ aheadB (parentS p) p = true := by
 have hc : cutL p ≠ [] := fun e => h2 ((cut_root p (right_slash p h)).1 e)
 obtain ⟨h100, hall, hs, h8⟩ := rightB_len p h
 have hj := joinL_cut p
 have R : ∀ k, rightB (madeL ((cutL p).take k)) = true ∧ cutL (madeL ((cutL p).take k)) = (cutL p).take k := fun k =>
  ⟨right_made _ (all_take _ _ hall) (by simp; omega) (Nat.le_trans (joinL_take _ _) (by omega)), cut_made _ (all_take _ _ hall)⟩
 obtain ⟨e1, e2⟩ := parent_yes p h hc
 refine ⟨e2, by rw [e1]; exact (R _).1, ?_⟩
 rw [e1]
 unfold aheadB
 rw [(R _).1, (R _).2, h]
 have key : ∀ (a : List (List UInt8)), a ≠ [] → aheadL (a.take (a.length - 1)) a = true := by
  intro a ha
  induction a with
  | nil => exact absurd rfl ha
  | cons x r ih =>
    cases r with
    | nil => rfl
    | cons y r =>
      have e : (x :: y :: r).take ((x :: y :: r).length - 1) = x :: (y :: r).take ((y :: r).length - 1) := by simp
      rw [e, aheadL, if_pos rfl]
      exact ih (by simp)
 rw [key _ hc]
 rfl
theorem crF_eq (l : List Nd) (p v : List UInt8) (o : Int) (h : rightN l = true) : crF l p v o = createE l p v o := by
 unfold crF createE vacE
 cases hR : rightB p
 ·simp [getE, hR]
 ·cases hH : hasN l p
  ·have h47 : p ≠ [47] := by
    rintro rfl
    rw [root_in l h] at hH
    cases hH
   obtain ⟨hP, hPR, -⟩ := parent_up p hR h47
   have hG : getE l p = 6 := by simp [getE, hR, hH]
   rw [hG, hP]
   cases hU : hasN l (parentS p)
   ·have : getE l (parentS p) = 6 := by simp [getE, hPR, hU]
    rw [this]; simp
   ·have e1 : getE l (parentS p) = 0 := by simp [getE, hPR, hU]
    have e2 : getS l (parentS p) = nodeN l (parentS p) := by simp [getS, e1]
    rw [e1, e2]
    by_cases hO : nO (nodeN l (parentS p)) = 0
    ·simp [hO]
    ·simp [hO]
  ·simp [getE, hR, hH]
theorem right_ver (l : List Nd) (p : List UInt8) (h : rightN l = true) (h2 : getE l p = 0) : nR (nodeN l p) ≤ 1000000000 := by
 have hH : hasN l p = true := by
  cases hH : hasN l p
  ·unfold getE at h2
   rw [hH] at h2
   split at h2 <;> simp at h2
  ·rfl
 have := ((rightN_iff l).1 h).fine _ (hasN_node l p hH).2
 unfold fineN at this
 simp only [Bool.and_eq_true, decide_eq_true_eq] at this
 omega
theorem setF_eq (l : List Nd) (p v : List UInt8) (z : Int) (h : rightN l = true) : setF l p v z = setE l p v z := by
 unfold setF setE
 by_cases h0 : getE l p = 0
 ·have e2 : getS l p = nodeN l p := by simp [getS, h0]
  have hr := right_ver l p h h0
  rw [h0, e2]
  simp only [verB_iff]
  by_cases e3 : nR (nodeN l p) = 1000000000
  ·simp [e3]
  ·have e4 : ¬ 1000000000 ≤ nR (nodeN l p) := by omega
   simp [e3, e4]
 ·simp [h0]
theorem delF_eq (l : List Nd) (p : List UInt8) (z : Int) : delF l p z = delE l p z := by
 unfold delF delE
 by_cases h0 : getE l p = 0
 ·have e2 : getS l p = nodeN l p := by simp [getS, h0]
  rw [h0, e2]
  simp only [verB_iff, any_kids]
 ·simp [h0]
theorem shVacant_any (l : List Nd) (p : List UInt8) (v : Value) (w : World) (hr : RdNd w.heap.size w v l) : Calls Tryz.prog 205 #[.agg #[v], txt p] w (One (.int .i64 (vacE l p)) w) := by
 have HR0 := lhd hr
 clear hr
 go_enter Tryz.func205, Tryz.ntmps205
 go_wp2_with (refine wpList_box_blk rfl 41 _ rfl [v] rfl ?_)
 intro W0 b1 b2 b3
 obtain ⟨g0, hg0⟩ : ∃ g, w.heap.size = g := ⟨_, rfl⟩
 have HR := lhd ((HR0.out.below b3).more (show w.heap.size ≤ W0.heap.size by omega))
 have HB0 := lhd b3
 have hw0 : w.heap.size ≤ W0.heap.size := by omega
 have hg1 : g0 < W0.heap.size := by omega
 have C0 := lhd (b1.cell 0)
 rw [hg0] at C0 ⊢
 have HB := lhd (Below.refl W0.heap.size W0)
 have ca := C0.out
 clear b1 b2 b3 hg0 HR0
 go_wp2_with fail
 refine (shGet_any l p _ W0 ((HR.out.below HB.out).more HB.out.size)).mono ?_
 rintro e W0a ⟨rfl, hb⟩
 have HBa := lhd (HB.out.trans (hb.mono HB.out.size))
 clear hb ca
 go_wp2_with (refine wpList_alloc_blk rfl 157 rfl (ndc nd0) zPN ?_)
 intro W0b a1 a2 a3
 obtain ⟨g2, hg⟩ : ∃ g, W0a.heap.size = g := ⟨_, rfl⟩
 have A2 := lhd a1
 have hBg2 : W0.heap.size ≤ g2 := by have := HBa.out.size; omega
 have HBb := lhd (HBa.out.trans (a3.mono HBa.out.size))
 rw [hg] at A2 ⊢
 clear a1 a2 a3 hg
 obtain ⟨f2, hf⟩ : ∃ f, getE l p = f := ⟨_, rfl⟩
 have HF2 := lhd hf
 obtain ⟨x2, hx⟩ : ∃ x, getS l p = x := ⟨_, rfl⟩
 have HX2 := lhd hx
 rw [hx, hf]
 clear hx hf
 go_wp2_with (refine wpList_store_to rfl 157 _ _ rfl g2 (ndc x2) (ndc nd0) 157 rfl rfl A2.out sPN rfl (ndc_one _) ?_)
 intro W0c c1 c2 c3 c4
 have Y2 := lhd c1
 have HBc := lhd (HBb.out.trans (c3.mono hBg2))
 clear c1 c2 c3 c4 A2
 by_cases h0 : f2 = 0
 ·have HE : Hid (vacE l p = 7) := by
   show _ = _
   unfold vacE
   rw [HF2.out, if_pos h0]
  subst h0
  go_wp2
  go_ret
  exact ⟨by rw [HE.out]; rfl, HB0.out.trans (HBc.out.mono hw0)⟩
 by_cases h6 : f2 = 6
 rotate_left
 ·have HE : Hid (vacE l p = f2) := by
   show _ = _
   unfold vacE
   rw [HF2.out, if_neg h0, if_pos h6]
  have z0 : ((f2 : Int) == 0) = false := by rw [beq_eq_false_iff_ne]; omega
  have z1 : ((f2 : Int) != 6) = true := by rw [bne_iff_ne]; omega
  clear h0 h6
  go_wp2
  go_ret
  exact ⟨by rw [HE.out]; rfl, HB0.out.trans (HBc.out.mono hw0)⟩
 subst h6
 clear h0
 have HV : Hid (vacE l p = if parentE p ≠ 0 then parentE p else if getE l (parentS p) ≠ 0 then getE l (parentS p) else if nO (getS l (parentS p)) ≠ 0 then 10 else 0) := by
  show _ = _
  unfold vacE
  rw [HF2.out]
  rfl
 go_wp2_with fail
 refine (pxParent_any p W0c).mono ?_
 rintro e W1 ⟨rfl, hb⟩
 have HD := lhd (HBc.out.trans (hb.mono HBc.out.size))
 clear hb HBa HBb HBc Y2
 obtain ⟨pe, hpe⟩ : ∃ f, parentE p = f := ⟨_, rfl⟩
 obtain ⟨up, hup⟩ : ∃ f, parentS p = f := ⟨_, rfl⟩
 rw [hpe, hup] at HV
 rw [hpe, hup]
 clear hpe hup
 by_cases h0 : pe = 0
 rotate_left
 ·have HE : Hid (vacE l p = pe) := by
   show _ = _
   rw [HV.out, if_pos h0]
  have z0 : ((pe : Int) != 0) = true := by rw [bne_iff_ne]; omega
  clear h0
  go_wp2
  go_ret
  exact ⟨by rw [HE.out]; rfl, HB0.out.trans (HD.out.mono hw0)⟩
 subst h0
 have ca := (HD.out.cell hg1).trans C0.out
 go_wp2_with fail
 refine (shGet_any l up _ W1 ((HR.out.below HD.out).more HD.out.size)).mono ?_
 rintro e W1a ⟨rfl, hb⟩
 have HDa := lhd (HD.out.trans (hb.mono HD.out.size))
 clear hb ca
 go_wp2_with (refine wpList_alloc_blk rfl 157 rfl (ndc nd0) zPN ?_)
 intro W1b a1 a2 a3
 obtain ⟨g3, hg⟩ : ∃ g, W1a.heap.size = g := ⟨_, rfl⟩
 have A3 := lhd a1
 have hBg3 : W0.heap.size ≤ g3 := by have := HDa.out.size; omega
 have HDb := lhd (HDa.out.trans (a3.mono HDa.out.size))
 rw [hg] at A3 ⊢
 clear a1 a2 a3 hg
 obtain ⟨f3, hf⟩ : ∃ f, getE l up = f := ⟨_, rfl⟩
 have HF3 := lhd hf
 obtain ⟨x3, hx⟩ : ∃ x, getS l up = x := ⟨_, rfl⟩
 have HX3 := lhd hx
 rw [hx, hf]
 clear hx hf
 go_wp2_with (refine wpList_store_to rfl 157 _ _ rfl g3 (ndc x3) (ndc nd0) 157 rfl rfl A3.out sPN rfl (ndc_one _) ?_)
 intro W1c c1 c2 c3 c4
 have Y3 := lhd c1
 have HDc := lhd (HDb.out.trans (c3.mono hBg3))
 clear c1 c2 c3 c4 A3
 by_cases h0 : f3 = 0
 rotate_left
 ·have HE : Hid (vacE l p = f3) := by
   show _ = _
   rw [HV.out, if_neg (by simp), HF3.out, if_pos h0]
  have z0 : ((f3 : Int) != 0) = true := by rw [bne_iff_ne]; omega
  clear h0
  go_wp2
  go_ret
  exact ⟨by rw [HE.out]; rfl, HB0.out.trans (HDc.out.mono hw0)⟩
 subst h0
 have d3 := Y3.out.at_ 3 _ rfl
 obtain ⟨o, ho⟩ : ∃ o, nO x3 = o := ⟨_, rfl⟩
 rw [ho] at d3
 by_cases hz : o = 0
 ·have HE : Hid (vacE l p = 0) := by
   show _ = _
   rw [HV.out, if_neg (by simp), HF3.out, if_neg (by simp), HX3.out, ho, if_neg (by simp [hz])]
  have z0 : (o != 0) = false := by simpa using hz
  clear hz ho
  go_wp2
  go_ret
  exact ⟨by rw [HE.out]; rfl, HB0.out.trans (HDc.out.mono hw0)⟩
 ·have HE : Hid (vacE l p = 10) := by
   show _ = _
   rw [HV.out, if_neg (by simp), HF3.out, if_neg (by simp), HX3.out, ho, if_pos hz]
  have z0 : (o != 0) = true := by simpa using hz
  clear hz ho
  go_wp2
  go_ret
  exact ⟨by rw [HE.out]; rfl, HB0.out.trans (HDc.out.mono hw0)⟩
theorem crFn_any (l : List Nd) (p vl : List UInt8) (z : Int) (v : Value) (gs gp gv go : Nat) (W0 : World) (hr : RdNd W0.heap.size W0 v l) (h1 : gs < W0.heap.size) (_h2 : gp < W0.heap.size) (h3 : gv < W0.heap.size) (h4 : go < W0.heap.size)
 (c1 : W0.cell? ⟨gs, 0, none⟩ = some v) (c2 : W0.cell? ⟨gp, 0, none⟩ = some (txt p)) (c3 : W0.cell? ⟨gv, 0, none⟩ = some (txt vl)) (c4 : W0.cell? ⟨go, 0, none⟩ = some (.int .i64 z)) :
 Calls Tryz.prog 204 #[.pointer (some ⟨gs, 0, none⟩), .pointer (some ⟨gp, 0, none⟩), .pointer (some ⟨gv, 0, none⟩), .pointer (some ⟨go, 0, none⟩)] W0 (One (.int .i64 (crF l p vl z)) W0) := by
 obtain ⟨A, cp, rfl, hc, hm⟩ := hr.shape
 unfold maxLen at hm
 obtain ⟨n, hn⟩ : ∃ n, l.length = n := ⟨_, rfl⟩
 have HN := lhd hn
 have HR := lhd hr
 rw [hn] at hc HR c1
 obtain ⟨m, hmm⟩ : ∃ m, vl.length = m := ⟨_, rfl⟩
 have hsz : (⟨vl.toArray⟩ : ByteArray).size = m := hmm
 have HM := lhd hmm
 clear hr hn hmm
 have K1 := lhd c1
 have K3 := lhd c3
 have K4 := lhd c4
 clear c3 c4
 go_enter Tryz.func204, Tryz.ntmps204
 go_wp2_with fail
 refine (shVacant_any l p _ W0 HR.out).mono ?_
 rintro e W1 ⟨rfl, hb⟩
 have HB := lhd hb
 clear hb c1 c2
 have HV : Hid (crF l p vl z = if vacE l p ≠ 0 then vacE l p else if 1000 < m then 5 else if z < 0 then 1 else if 200 ≤ n then 9 else 0) := by
  show _ = _
  unfold crF
  rw [HM.out, HN.out]
 obtain ⟨f, hf⟩ : ∃ f, vacE l p = f := ⟨_, rfl⟩
 rw [hf] at HV
 rw [hf]
 clear hf
 have c1 := (HB.out.cell h1).trans K1.out
 have c3 := (HB.out.cell h3).trans K3.out
 have c4 := (HB.out.cell h4).trans K4.out
 by_cases h0 : f = 0
 rotate_left
 ·have HE : Hid (crF l p vl z = f) := by
   show _ = _
   rw [HV.out, if_pos h0]
  have z0 : ((f : Int) != 0) = true := by rw [bne_iff_ne]; omega
  clear h0
  go_wp2
  go_ret
  exact ⟨by rw [HE.out]; rfl, HB.out⟩
 subst h0
 by_cases h5 : 1000 < m
 ·have HE : Hid (crF l p vl z = 5) := by
   show _ = _
   rw [HV.out, if_neg (by simp), if_pos h5]
  have z5 : (1000 : Int) < (m : Int) := by omega
  clear h5
  go_wp2
  go_ret
  exact ⟨by rw [HE.out]; rfl, HB.out⟩
 have z5 : ¬ (1000 : Int) < (m : Int) := by omega
 by_cases h6 : z < 0
 ·have HE : Hid (crF l p vl z = 1) := by
   show _ = _
   rw [HV.out, if_neg (by simp), if_neg h5, if_pos h6]
  clear h5
  go_wp2
  go_ret
  exact ⟨by rw [HE.out]; rfl, HB.out⟩
 by_cases h7 : 200 ≤ n
 ·have HE : Hid (crF l p vl z = 9) := by
   show _ = _
   rw [HV.out, if_neg (by simp), if_neg h5, if_neg h6, if_pos h7]
  have z7 : (200 : Int) ≤ (n : Int) := by omega
  clear h5 h7
  go_wp2
  go_ret
  exact ⟨by rw [HE.out]; rfl, HB.out⟩
 ·have HE : Hid (crF l p vl z = 0) := by
   show _ = _
   rw [HV.out, if_neg (by simp), if_neg h5, if_neg h6, if_neg h7]
  have z7 : ¬ (200 : Int) ≤ (n : Int) := by omega
  clear h5 h7
  go_wp2
  go_ret
  exact ⟨by rw [HE.out]; rfl, HB.out⟩
theorem setFn_any (l : List Nd) (p vl : List UInt8) (z : Int) (v : Value) (gs gp gz gv : Nat) (W0 : World) (hr : RdNd W0.heap.size W0 v l) (_h1 : gs < W0.heap.size) (_h2 : gp < W0.heap.size) (h3 : gz < W0.heap.size) (h4 : gv < W0.heap.size)
 (c1 : W0.cell? ⟨gs, 0, none⟩ = some v) (c2 : W0.cell? ⟨gp, 0, none⟩ = some (txt p)) (c3 : W0.cell? ⟨gz, 0, none⟩ = some (.int .i64 z)) (c4 : W0.cell? ⟨gv, 0, none⟩ = some (txt vl)) :
 Calls Tryz.prog 211 #[.pointer (some ⟨gs, 0, none⟩), .pointer (some ⟨gp, 0, none⟩), .pointer (some ⟨gz, 0, none⟩), .pointer (some ⟨gv, 0, none⟩)] W0 (One (.int .i64 (setF l p vl z)) W0) := by
 have HR := lhd hr
 obtain ⟨m, hmm⟩ : ∃ m, vl.length = m := ⟨_, rfl⟩
 have hsz : (⟨vl.toArray⟩ : ByteArray).size = m := hmm
 have HM := lhd hmm
 clear hr hmm
 have K3 := lhd c3
 have K4 := lhd c4
 have HB := lhd (Below.refl W0.heap.size W0)
 clear c3 c4
 go_enter Tryz.func211, Tryz.ntmps211
 go_wp2_with fail
 refine (shGet_any l p _ W0 ((HR.out.below HB.out).more HB.out.size)).mono ?_
 rintro e W0a ⟨rfl, hb⟩
 have HBa := lhd (HB.out.trans (hb.mono HB.out.size))
 clear hb c1 c2
 go_wp2_with (refine wpList_alloc_blk rfl 157 rfl (ndc nd0) zPN ?_)
 intro W0b a1 a2 a3
 obtain ⟨g2, hg⟩ : ∃ g, W0a.heap.size = g := ⟨_, rfl⟩
 have A2 := lhd a1
 have hBg2 : W0.heap.size ≤ g2 := by have := HBa.out.size; omega
 have HBb := lhd (HBa.out.trans (a3.mono HBa.out.size))
 rw [hg] at A2 ⊢
 clear a1 a2 a3 hg
 obtain ⟨f2, hf⟩ : ∃ f, getE l p = f := ⟨_, rfl⟩
 have HF2 := lhd hf
 obtain ⟨x2, hx⟩ : ∃ x, getS l p = x := ⟨_, rfl⟩
 have HX2 := lhd hx
 rw [hx, hf]
 clear hx hf
 go_wp2_with (refine wpList_store_to rfl 157 _ _ rfl g2 (ndc x2) (ndc nd0) 157 rfl rfl A2.out sPN rfl (ndc_one _) ?_)
 intro W0c c1 c2 c3 c4
 have Y2 := lhd c1
 have HBc := lhd (HBb.out.trans (c3.mono hBg2))
 clear c1 c2 c3 c4 A2
 have HV : Hid (setF l p vl z = if f2 ≠ 0 then f2 else if verB z (nR x2) = false then 8 else if 1000 < m then 5 else if 1000000000 ≤ nR x2 then 9 else 0) := by
  show _ = _
  unfold setF
  rw [HM.out, HF2.out, HX2.out]
 by_cases h0 : f2 = 0
 rotate_left
 ·have HE : Hid (setF l p vl z = f2) := by
   show _ = _
   rw [HV.out, if_pos h0]
  have z0 : ((f2 : Int) != 0) = true := by rw [bne_iff_ne]; omega
  clear h0
  go_wp2
  go_ret
  exact ⟨by rw [HE.out]; rfl, HBc.out⟩
 subst h0
 have c3 := (HBc.out.cell h3).trans K3.out
 have d0 := Y2.out.at_ 0 _ rfl
 have d1 := Y2.out.at_ 1 _ rfl
 have d2 := Y2.out.at_ 2 _ rfl
 have d3 := Y2.out.at_ 3 _ rfl
 have hlt := Y2.out.lt
 go_wp2_with fail
 refine (shOf_any x2 z W0c).mono ?_
 rintro e W1 ⟨rfl, hb⟩
 have HD := lhd (HBc.out.trans (hb.mono HBc.out.size))
 have e2 := (Y2.out.below hb hlt).at_ 2 _ rfl
 clear hb d0 d1 d2 d3 c3 HBa HBb HBc hlt
 have c4 := (HD.out.cell h4).trans K4.out
 obtain ⟨r, hr⟩ : ∃ r, nR x2 = r := ⟨_, rfl⟩
 rw [hr] at HV e2
 rw [hr]
 clear hr
 cases hv : verB z r
 ·have HE : Hid (setF l p vl z = 8) := by
   show _ = _
   rw [HV.out, if_neg (by simp), if_pos hv]
  clear hv
  go_wp2
  go_ret
  exact ⟨by rw [HE.out]; rfl, HD.out⟩
 by_cases h5 : 1000 < m
 ·have HE : Hid (setF l p vl z = 5) := by
   show _ = _
   rw [HV.out, if_neg (by simp), if_neg (by simp [hv]), if_pos h5]
  have z5 : (1000 : Int) < (m : Int) := by omega
  clear h5 hv
  go_wp2
  go_ret
  exact ⟨by rw [HE.out]; rfl, HD.out⟩
 have z5 : ¬ (1000 : Int) < (m : Int) := by omega
 by_cases h7 : 1000000000 ≤ r
 ·have HE : Hid (setF l p vl z = 9) := by
   show _ = _
   rw [HV.out, if_neg (by simp), if_neg (by simp [hv]), if_neg h5, if_pos h7]
  clear h5 hv
  go_wp2
  go_ret
  exact ⟨by rw [HE.out]; rfl, HD.out⟩
 ·have HE : Hid (setF l p vl z = 0) := by
   show _ = _
   rw [HV.out, if_neg (by simp), if_neg (by simp [hv]), if_neg h5, if_neg h7]
  clear h5 hv
  go_wp2
  go_ret
  exact ⟨by rw [HE.out]; rfl, HD.out⟩
def KidP (p : List UInt8) (u : Value) (w : World) : Prop := ∃ g, u = .func (.func 240) #[] #[.pointer (some ⟨g, 0, none⟩)] ∧ g < w.heap.size ∧ w.cell? ⟨g, 0, none⟩ = some (txt p)
theorem KidP.keep {p : List UInt8} {u : Value} {w w' : World} (h : KidP p u w) (hb : Below w.heap.size w w') : KidP p u w' := by
 obtain ⟨g, h1, h2, h3⟩ := h
 exact ⟨g, h1, Nat.lt_of_lt_of_le h2 hb.size, (hb.cell h2).trans h3⟩
theorem delFn_any (l : List Nd) (p : List UInt8) (z : Int) (v : Value) (gs gp gz : Nat) (W0 : World) (hr : RdNd W0.heap.size W0 v l) (h1 : gs < W0.heap.size) (h2 : gp < W0.heap.size) (h3 : gz < W0.heap.size)
 (c1 : W0.cell? ⟨gs, 0, none⟩ = some v) (c2 : W0.cell? ⟨gp, 0, none⟩ = some (txt p)) (c3 : W0.cell? ⟨gz, 0, none⟩ = some (.int .i64 z)) :
 Calls Tryz.prog 214 #[.pointer (some ⟨gs, 0, none⟩), .pointer (some ⟨gp, 0, none⟩), .pointer (some ⟨gz, 0, none⟩)] W0 (One (.int .i64 (delF l p z)) W0) := by
 have HR := lhd hr
 clear hr
 have K1 := lhd c1
 have K2 := lhd c2
 have K3 := lhd c3
 have HB := lhd (Below.refl W0.heap.size W0)
 clear c3
 go_enter Tryz.func214, Tryz.ntmps214
 go_wp2_with fail
 refine (shGet_any l p _ W0 ((HR.out.below HB.out).more HB.out.size)).mono ?_
 rintro e W0a ⟨rfl, hb⟩
 have HBa := lhd (HB.out.trans (hb.mono HB.out.size))
 clear hb c1 c2
 go_wp2_with (refine wpList_alloc_blk rfl 157 rfl (ndc nd0) zPN ?_)
 intro W0b a1 a2 a3
 obtain ⟨g2, hg⟩ : ∃ g, W0a.heap.size = g := ⟨_, rfl⟩
 have A2 := lhd a1
 have hBg2 : W0.heap.size ≤ g2 := by have := HBa.out.size; omega
 have HBb := lhd (HBa.out.trans (a3.mono HBa.out.size))
 rw [hg] at A2 ⊢
 clear a1 a2 a3 hg
 obtain ⟨f2, hf⟩ : ∃ f, getE l p = f := ⟨_, rfl⟩
 have HF2 := lhd hf
 obtain ⟨x2, hx⟩ : ∃ x, getS l p = x := ⟨_, rfl⟩
 have HX2 := lhd hx
 rw [hx, hf]
 clear hx hf
 go_wp2_with (refine wpList_store_to rfl 157 _ _ rfl g2 (ndc x2) (ndc nd0) 157 rfl rfl A2.out sPN rfl (ndc_one _) ?_)
 intro W0c c1 c2 c3 c4
 have Y2 := lhd c1
 have HBc := lhd (HBb.out.trans (c3.mono hBg2))
 clear c1 c2 c3 c4 A2
 have HV : Hid (delF l p z = if f2 ≠ 0 then f2 else if p = [47] then 13 else if verB z (nR x2) = false then 8 else if l.any (kidN p) = true then 10 else 0) := by
  show _ = _
  unfold delF
  rw [HF2.out, HX2.out]
 by_cases h0 : f2 = 0
 rotate_left
 ·have HE : Hid (delF l p z = f2) := by
   show _ = _
   rw [HV.out, if_pos h0]
  have z0 : ((f2 : Int) != 0) = true := by rw [bne_iff_ne]; omega
  clear h0
  go_wp2
  go_ret
  exact ⟨by rw [HE.out]; rfl, HBc.out⟩
 subst h0
 have c2 := (HBc.out.cell h2).trans K2.out
 by_cases hp : p = [47]
 ·have HE : Hid (delF l p z = 13) := by
   show _ = _
   rw [HV.out, if_neg (by simp), if_pos hp]
  subst hp
  go_wp2
  go_ret
  exact ⟨by rw [HE.out]; rfl, HBc.out⟩
 have hpb := txt_ne p [47] hp
 have HP := lhd hp
 clear hp
 have c3 := (HBc.out.cell h3).trans K3.out
 have d0 := Y2.out.at_ 0 _ rfl
 have d1 := Y2.out.at_ 1 _ rfl
 have d2 := Y2.out.at_ 2 _ rfl
 have d3 := Y2.out.at_ 3 _ rfl
 go_wp2_with fail
 refine (shOf_any x2 z W0c).mono ?_
 rintro e W1 ⟨rfl, hb⟩
 have HD := lhd (HBc.out.trans (hb.mono HBc.out.size))
 clear hb d0 d1 d2 d3 c3 c2 HBa HBb HBc Y2
 obtain ⟨r, hr⟩ : ∃ r, nR x2 = r := ⟨_, rfl⟩
 rw [hr] at HV
 rw [hr]
 clear hr
 cases hv : verB z r
 ·have HE : Hid (delF l p z = 8) := by
   show _ = _
   rw [HV.out, if_neg (by simp), if_neg HP.out, if_pos hv]
  clear hv
  go_wp2
  go_ret
  exact ⟨by rw [HE.out]; rfl, HD.out⟩
 have HV2 : Hid (delF l p z = if l.any (kidN p) = true then 10 else 0) := by
  show _ = _
  rw [HV.out, if_neg (by simp), if_neg HP.out, if_neg (by simp [hv])]
 clear hv
 have c1 := (HD.out.cell h1).trans K1.out
 have c2 := (HD.out.cell h2).trans K2.out
 have l1 : gs < W1.heap.size := Nat.lt_of_lt_of_le h1 HD.out.size
 have l2 : gp < W1.heap.size := Nat.lt_of_lt_of_le h2 HD.out.size
 have L1 := lhd c1
 have L2 := lhd c2
 clear c1 c2
 obtain ⟨B, hB⟩ : ∃ B, l.any (kidN p) = B := ⟨_, rfl⟩
 have HBB := lhd hB
 clear hB
 go_wp2
 refine wp_region_rely2 6 0 (fun x => ⟨#[.pointer (some { block := gs, off := 0 }), .pointer (some { block := gp, off := 0 }), .pointer (some { block := gz, off := 0 }), .int IntKind.i64 0, .pointer (some { block := g2, off := 0 }), .int IntKind.i64 0, .tuple #[ndv x2, Value.int IntKind.i64 0], .agg #[v], txt p, .tuple #[ndv x2, Value.int IntKind.i64 0], ndv x2, .int IntKind.i64 0, .bool false, .int IntKind.i64 0, .bool false, undef, .bool false, txt p, .bool false, .bool false, .agg #[txt (nP x2), txt (nV x2), Value.int IntKind.i64 r, Value.int IntKind.i64 (nO x2)], .int IntKind.i64 z, .bool true, .bool false, x 5, x 0, x 1, x 2, x 3, x 4], []⟩) (fun jj => ([eqV (.pointer (some ⟨gs, 0, none⟩)), eqV (v), eqV (txt p), (KidP p), (eqV (.bool B)), eqV (.bool B)] : List (Value → World → Prop)).getD jj (fun _ _ => True)) rfl ⟨fun kk => [_, _, _, _, _, _].getD kk undef, rfl⟩ (by kernel_rfl) (by kernel_rfl) ?steps ?fin
 case steps =>
  refine StepsAt.val 0 (.pointer (some ⟨gs, 0, none⟩)) rfl (fun _ _ => rfl) rfl rfl (fun x wx hb hd => ?_) ?_
  ·(go_simp; try rfl)
  refine StepsAt.val 1 (v) rfl (fun _ _ => rfl) rfl rfl (fun x wx hb hd => ?_) ?_
  ·have h0 : x 0 = .pointer (some ⟨gs, 0, none⟩) := hd 0 (by kernel_rfl)
   have cc := (hb.cell l1).trans L1.out
   rw [h0]
   (go_simp; try rfl)
  refine StepsAt.val 2 (txt p) rfl (fun _ _ => rfl) rfl rfl (fun x wx hb hd => ?_) ?_
  ·have cc := (hb.cell l2).trans L2.out
   (go_simp; try rfl)
  refine StepsAt.cons 3 (fun _ _ _ h hb => h.keep hb) (fun _ _ => rfl) rfl rfl (fun x wx hb hd K hK => ?_) ?_
  ·have h2 : Hid (x 2 = txt p) := hd 2 (by kernel_rfl)
   go_simp
   refine calls_args (args2 := #[txt p]) (by rw [h2.out]) ?_
   refine (shChild_any p _).mono ?_
   rintro e w99 ⟨g, rfl, hk1, hk2, hb99⟩
   exact hK.out _ _ hb99 ⟨g, rfl, hk1, hk2⟩
  refine StepsAt.cons 4 (fun _ _ _ h hb => h) (fun _ _ => rfl) rfl rfl (fun x wx hb hd K hK => ?_) ?_
  ·have h1 : Hid (x 1 = v) := hd 1 (by kernel_rfl)
   have h3 : KidP p (x 3) wx := hd 3 (by kernel_rfl)
   go_simp
   obtain ⟨g, hg, hk1, hk2⟩ := h3
   refine calls_args (args2 := #[v, .func (.func 240) #[] #[.pointer (some ⟨g, 0, none⟩)]]) (by rw [h1.out, hg]) ?_
   have HY := HD.out.trans (hb.mono HD.out.size)
   have HC := anyFunc_any l v 240 #[.pointer (some ⟨g, 0, none⟩)] (kidN p) _ ((HR.out.below HY).more HY.size) kidEnter (fun x W hW => kidFn_any x p g W (Nat.lt_of_lt_of_le hk1 hW.size) ((hW.cell hk1).trans hk2))
   rw [HBB.out] at HC
   refine HC.mono ?_
   rintro e w99 ⟨rfl, hb99⟩
   exact hK.out _ _ hb99 rfl
  refine StepsAt.val 5 (.bool B) rfl (fun _ _ => rfl) rfl rfl (fun x wx hb hd => ?_) ?_
  ·have h4 : x 4 = .bool B := hd 4 (by kernel_rfl)
   rw [h4]
   (go_simp; try rfl)
  exact StepsAt.done
 case fin =>
  intro x wx hb hd
  have hx0 : x 0 = .pointer (some ⟨gs, 0, none⟩) := hd 0 (by omega)
  have hx1 : x 1 = v := hd 1 (by omega)
  have hx2 : x 2 = txt p := hd 2 (by omega)
  have hx4 : x 4 = .bool B := hd 4 (by omega)
  have hx5 : x 5 = .bool B := hd 5 (by omega)
  refine AnyTill.any (S := fun _ => True) (m := 6) _ _ _ _ ?_
  refine AnyTill.done (by kernel_rfl) ?_
  refine NoPanic.normal ?_
  try dsimp only
  rw [hx0, hx1, hx2, hx4, hx5]
  have HW := lhd (HD.out.trans (hb.mono HD.out.size))
  clear hx0 hx1 hx2 hx4 hx5 hd hb
  cases B
  ·have HE : Hid (delF l p z = 0) := by
    show _ = _
    rw [HV2.out, HBB.out]; rfl
   go_wp2
   go_ret
   exact ⟨by rw [HE.out]; rfl, HW.out⟩
  ·have HE : Hid (delF l p z = 10) := by
    show _ = _
    rw [HV2.out, HBB.out]; rfl
   go_wp2
   go_ret
   exact ⟨by rw [HE.out]; rfl, HW.out⟩
end Go.Proofs.YtgfobinklijkpaaGreatDoor
