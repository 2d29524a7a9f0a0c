/-
  Texts UN IU JN JI OP R2 JP IV IW.
-/
import Derived.Test.YtgfobinklijkpaaGreatDoorX01
import Derived.ProofKit
import Derived.SizedLaws
import Derived.SliceStrings
import Derived.OpenShut
import Derived.Lib.SmallJoins
import Derived.Test.YtgfobinklijkpaaGreatDoorX02
import Derived.Test.YtgfobinklijkpaaGreatDoorX07
import Derived.Test.YtgfobinklijkpaaGreatDoorX08
import Derived.Test.YtgfobinklijkpaaGreatDoorX22
import Derived.Test.YtgfobinklijkpaaGreatDoorX24
import Derived.Test.YtgfobinklijkpaaGreatDoorX25
import Derived.Test.YtgfobinklijkpaaGreatDoorX26
import Derived.Test.YtgfobinklijkpaaGreatDoorX28
namespace Go.Proofs.YtgfobinklijkpaaGreatDoor
set_option maxRecDepth 100000
set_option maxHeartbeats 16000000
open Go.RowKit
theorem ownsRow_at {w w' : World} {b : Nat} {e : TypeId} {s : Nat} {v : Value} {n : Nat} {xs : List Value} (h : w.ownsRow b e s v n xs) (hO : ∀ g, v.ownBlock = some g → w'.heap[g]? = w.heap[g]?) : w'.ownsRow b e s v n xs := by
 refine ⟨h.1, ?_⟩
 rcases h.2 with hn | ⟨g, cap, cur, rfl, hg0, hg1, r⟩
 ·exact .inl hn
 ·exact .inr ⟨g, cap, cur, rfl, hg0, by rw [hO g rfl]; exact hg1, r⟩
theorem OwnE.blkOf {α : Type} {E : RowK α} {e : TypeId} {w : World} {base : Nat} {v : Value} {l : List α} (h : OwnE E e w base v l) {g : Nat} (hg : v.ownBlock = some g) : ∃ cs, Blk w g cs e := by
 rcases h.2 with ⟨rfl, _⟩ | ⟨g', cap, cur, rfl, h2, h3, _⟩
 ·cases hg
 ·injection hg with hg
  have hg : g' = g := hg
  subst hg
  exact ⟨cur.toList, by unfold Blk; simpa using h3⟩
theorem waFire_own (l : List Wa) (cs : List Ch) (v u : Value) (w : World) (hr : RdE WaK w.heap.size w v l) (hr2 : RdE ChK w.heap.size w u cs) (hR : RightW l) (hc : cs.length ≤ 1000) : Calls Tryz.prog 125 #[.agg #[v], u] w (FiresO 163 239 (leftW l cs) (fireW l cs) w) := by
 obtain ⟨A2, cp2, rfl, hc2, hm2⟩ := hr2.shape
 unfold maxLen at hm2
 obtain ⟨m, hk⟩ : ∃ n, cs.length = n := ⟨_, rfl⟩
 have HM := lhd hk
 have HR := lhd hr
 have HR2 := lhd hr2
 rw [hk] at hc hc2 HR2 ⊢
 have HL : Hid (l.length ≤ 200) := hR.few
 obtain ⟨d30, hu30, hd30⟩ := rowTbP
 have HU := lhd hu30
 have HD := lhd hd30
 clear hr hr2 hk hu30 hd30 hR
 go_enter Tryz.func125, Tryz.ntmps125
 go_wp2_with (refine wpList_box_blk rfl 47 _ rfl [v] rfl ?_)
 intro w1 b1 b2 b3
 go_wp2_with (refine wpList_alloc_blk rfl 47 rfl [.slice none 0 0] zTbP ?_)
 intro w2 a1 a2 a3
 obtain ⟨g0, hg0⟩ : ∃ g, w.heap.size = g := ⟨_, rfl⟩
 obtain ⟨g1, hg1⟩ : ∃ g, w.heap.size + 1 = g := ⟨_, rfl⟩
 obtain ⟨G, hG⟩ : ∃ G, w2.heap.size = G := ⟨_, rfl⟩
 have X0 := lhd (b1.below a3 (by omega))
 have X1 := lhd a1
 have HB := lhd (b3.trans (a3.mono (by omega)))
 have hwG : w.heap.size ≤ G := by omega
 have h0G : g0 < G := by omega
 have h1G : g1 < G := by omega
 have hw1 : w.heap.size ≤ g1 := by omega
 have HG := lhd hG
 have HRc := lhd ((HR.out.below HB.out).more HB.out.size)
 rw [hg1] at X1 ⊢
 rw [hg0] at X0 ⊢
 have ca := X0.out.at_ 0 _ rfl
 clear b1 b2 b3 a1 a2 a3 hg1 hG
 go_wp2_with fail
 refine (clone_anyWa l v w2 HRc.out (by have := HL.out; omega)).mono ?_
 rintro e w3 ⟨vL, rfl, ho, hb⟩
 rw [HG.out] at ho hb
 have HL3 := lhd ho
 have HW3 := lhd hb
 have hs3 : G ≤ w3.heap.size := by have := hb.size; rw [HG.out] at this; exact this
 have HE0 : Hid (OwnE EvK 239 w3 G (.slice none 0 0) []) := OwnE.nil _ _ _
 clear ho hb ca HRc
 go_wp2
 go_loopw [6, 7, 18] (fun lf o x wr => ∃ i : Nat, i ≤ m ∧ x = .int .i64 (i : Int) ∧ Hid (OwnE WaK 163 wr G lf (leftW l (cs.take i))) ∧ Hid (OwnE EvK 239 wr G o (fireW l (cs.take i))) ∧ Hid (Below G w2 wr) ∧ G ≤ wr.heap.size) (fun _ _ x _ => m - (intOf x).toNat)
 case atStart => exact ⟨0, by omega, rfl, HL3, HE0, HW3, hs3⟩
 case round =>
  obtain ⟨i, hi, rfl, HLF, HEV, HW, hwr⟩ := hrel
  have X1r := lhd (X1.out.below HW.out h1G)
  by_cases hi2 : i < m
  ·have zi : (i : Int) < (m : Int) := by omega
   have HCr := lhd ((HR2.out.below (HB.out.trans (HW.out.mono hwG))).more (by omega : w.heap.size ≤ wr.heap.size))
   obtain ⟨b, hA, c0, c1⟩ := HCr.out.atCh i (by rw [HM.out]; exact hi2)
   subst hA
   obtain ⟨c, hcx⟩ : ∃ c, cs.getD i ch0 = c := ⟨_, rfl⟩
   rw [hcx] at c0 c1
   have ht1 := leftW_snoc l cs i (by rw [HM.out]; exact hi2)
   have ht2 := fireW_snoc l cs i (by rw [HM.out]; exact hi2)
   rw [hcx] at ht1 ht2
   have hlen := leftW_len l (cs.take i)
   have hflen := fire_len l (cs.take i)
   obtain ⟨LW, hLW⟩ : ∃ L, leftW l (cs.take i) = L := ⟨_, rfl⟩
   obtain ⟨EW, hEW⟩ : ∃ L, fireW l (cs.take i) = L := ⟨_, rfl⟩
   rw [hLW] at HLF ht1 ht2 hlen hflen
   rw [hEW] at HEV ht2 hflen
   have HT1 := lhd ht1
   have HT2 := lhd ht2
   have hl9 : LW.length ≤ 200 := Nat.le_trans hlen HL.out
   have hf9 : EW.length ≤ 200 := by have := HL.out; omega
   clear hcx hLW hEW ht1 ht2 hlen hflen
   go_wp2_with (refine wpList_alloc_blk rfl 235 rfl (chc ch0) zeroChP ?_)
   intro wa a1 a2 a3
   obtain ⟨gC, hgC⟩ : ∃ g, wr.heap.size = g := ⟨_, rfl⟩
   have A1 := lhd a1
   have HLa := lhd (HLF.out.below a3 (Nat.le_refl _))
   have HEa := lhd (HEV.out.below a3 (Nat.le_refl _))
   have HWa := lhd (HW.out.trans (a3.mono hwr))
   have HLB : Hid (∀ g, u6.ownBlock = some g → g < gC) := fun g hg => by rw [← hgC]; exact (World.ownsRow.lt HLF.out g hg).2
   have HEB : Hid (∀ g, u7.ownBlock = some g → g < gC) := fun g hg => by rw [← hgC]; exact (World.ownsRow.lt HEV.out g hg).2
   have hsa : wa.heap.size = gC + 1 := by omega
   have hGC : G ≤ gC := by omega
   rw [hgC] at A1 ⊢
   clear a1 a2 a3 c0 c1 hgC HLF HEV HCr HW
   go_wp2_with (refine wpList_store_to rfl 235 _ _ rfl gC (chc c) (chc ch0) 235 rfl rfl A1.out szChP rfl (chc_all c) ?_)
   intro wb e1 e2 e3 e4
   have C1 := lhd e1
   have HLb : Hid (OwnE WaK 163 wb G u6 LW) := ownsRow_at HLa.out (fun g hg => e4 g (by have := HLB.out g hg; omega))
   have HEb : Hid (OwnE EvK 239 wb G u7 EW) := ownsRow_at HEa.out (fun g hg => e4 g (by have := HEB.out g hg; omega))
   have HWb := lhd (HWa.out.trans (e3.mono hGC))
   have hsb : wb.heap.size = gC + 1 := by omega
   have d0 := e1.at_ 0 _ rfl
   have d1 := e1.at_ 1 _ rfl
   clear e1 e2 e3 e4 A1 HLa HEa HWa
   go_wp2_with fail
   refine (touchedBy_any c wb).mono ?_
   rintro e w4 ⟨fv, rfl, ht, hb⟩
   obtain ⟨p9, hp9⟩ : ∃ p, wb.heap.size = p := ⟨_, rfl⟩
   obtain ⟨r9, hr9⟩ : ∃ p, w4.heap.size = p := ⟨_, rfl⟩
   have hpr : p9 ≤ r9 := by have := hb.size; omega
   have hcp : gC < p9 := by omega
   have C4 := lhd (C1.out.below hb (by omega))
   have HL4 := lhd (HLb.out.below hb (Nat.le_refl _))
   have HE4 := lhd (HEb.out.below hb (Nat.le_refl _))
   have HW4 := lhd (HWb.out.trans (hb.mono (by omega)))
   have HT4 := lhd ht
   rw [hp9, hr9] at HT4
   have HEB4 : Hid (∀ g, u7.ownBlock = some g → g < p9 ∨ r9 ≤ g) := fun g hg => .inl (by have := HEB.out g hg; omega)
   have HEL4 : Hid (OwnE EvK 239 w4 G u7 (EW ++ toldW c (LW.take 0))) := by
    have : EW ++ toldW c (LW.take 0) = EW := by rw [List.take_zero]; exact List.append_nil _
    show OwnE _ _ _ _ _ _
    rw [this]
    exact HE4.out
   have hs4 : r9 ≤ w4.heap.size := by omega
   obtain ⟨AL, cL, hvL, hcL, -⟩ := HL4.out.rd.shape
   obtain ⟨n9, hn9⟩ : ∃ n, LW.length = n := ⟨_, rfl⟩
   rw [hn9] at hvL hcL hl9
   have HN9 := lhd hn9
   subst hvL
   clear ht hb hp9 d0 d1 C1 HLb HEb HWb hsb hsa HE4 HEB hr9 hn9
   go_wp2
   go_loopw [7, 26] (fun ev x wr' => ∃ k : Nat, k ≤ n9 ∧ x = .int .i64 (k : Int) ∧ Hid (OwnE WaK 163 wr' G (.slice AL n9 cL) LW) ∧ Hid (OwnE EvK 239 wr' G ev (EW ++ toldW c (LW.take k))) ∧ Hid (∀ g, ev.ownBlock = some g → g < p9 ∨ r9 ≤ g) ∧ Hid (Tests (touchB c) fv p9 r9 wr') ∧ Hid (Blk wr' gC (chc c) 235) ∧ Hid (Below G w2 wr') ∧ r9 ≤ wr'.heap.size) (fun _ x _ => n9 - (intOf x).toNat)
   case atStart => exact ⟨0, by omega, rfl, HL4, HEL4, HEB4, HT4, C4, HW4, hs4⟩
   case round =>
    obtain ⟨k, hk, rfl, HLX, HEX, HBX, HTX, HCX, HWX, hsX⟩ := hrel
    by_cases hk2 : k < n9
    ·have zk : (k : Int) < (n9 : Int) := by omega
     obtain ⟨a, hA, c0, c1, c2⟩ := HLX.out.rd.atWa k (by rw [HN9.out]; exact hk2)
     subst hA
     obtain ⟨x, hx⟩ : ∃ x, LW.getD k wa0 = x := ⟨_, rfl⟩
     have hq2 := toldW_snoc c LW k (by rw [HN9.out]; exact hk2)
     have htl : (toldW c (LW.take k)).length ≤ LW.length := by
      have h1 := told_len c (LW.take k)
      have h2 : (LW.take k).length ≤ LW.length := by rw [List.length_take]; omega
      omega
     rw [hx] at c0 c1 c2 hq2
     have HQ2 := lhd hq2
     have HQL : Hid ((EW ++ toldW c (LW.take k)).length ≤ 400) := by
      show _ ≤ _
      rw [List.length_append]
      rw [HN9.out] at htl
      omega
     clear hx hq2 htl
     go_wp2_with (refine wpList_alloc_blk rfl 163 rfl (wac wa0) zeroWaP ?_)
     intro wc a1 a2 a3
     obtain ⟨gW, hgW⟩ : ∃ g, wr.heap.size = g := ⟨_, rfl⟩
     have A1 := lhd a1
     have HLc := lhd (HLX.out.below a3 (Nat.le_refl _))
     have HEc := lhd (HEX.out.below a3 (Nat.le_refl _))
     have HWc := lhd (HWX.out.trans (a3.mono (by omega)))
     have HTc := lhd (HTX.out.keep (W := wc) (fun k _ k2 => a3.block k (by omega)))
     have HCc := lhd (HCX.out.below a3 (by omega))
     have HLBc : Hid (∀ g, (Value.slice (some a) n9 cL).ownBlock = some g → g < gW) := fun g hg => by rw [← hgW]; exact (World.ownsRow.lt HLX.out g hg).2
     have HEBc : Hid (∀ g, u7.ownBlock = some g → g < gW) := fun g hg => by rw [← hgW]; exact (World.ownsRow.lt HEX.out g hg).2
     have hrW : r9 ≤ gW := by omega
     have hsc : wc.heap.size = gW + 1 := by omega
     rw [hgW] at A1 ⊢
     clear a1 a2 a3 c0 c1 c2 hgW HLX HEX HWX HTX HCX
     go_wp2_with (refine wpList_store_to rfl 163 _ _ rfl gW (wac x) (wac wa0) 163 rfl rfl A1.out szWaP rfl (wac_all x) ?_)
     intro wd e1 e2 e3 e4
     have W1 := lhd e1
     have HLd : Hid (OwnE WaK 163 wd G (.slice (some a) n9 cL) LW) := ownsRow_at HLc.out (fun g hg => e4 g (by have := HLBc.out g hg; omega))
     have HEd : Hid (OwnE EvK 239 wd G u7 (EW ++ toldW c (LW.take k))) := ownsRow_at HEc.out (fun g hg => e4 g (by have := HEBc.out g hg; omega))
     have HWd := lhd (HWc.out.trans (e3.mono (by omega)))
     have HTd := lhd (HTc.out.keep (W := wd) (fun k _ k2 => e4 k (by omega)))
     have HCd := lhd (HCc.out.same (e4 gC (by omega)))
     have hsd : wd.heap.size = gW + 1 := by omega
     have d0 := e1.at_ 0 _ rfl
     have d1 := e1.at_ 1 _ rfl
     have d2 := e1.at_ 2 _ rfl
     clear e1 e2 e3 e4 A1 HLc HEc HWc HTc HCc HLBc HEBc
     obtain ⟨f, lb, hfv, ef, hf⟩ := HTd.out
     subst hfv
     have hcall := hf wd (fun _ _ _ => rfl) x
     obtain ⟨B, hB⟩ : ∃ B, touchB c x = B := ⟨_, rfl⟩
     rw [hB] at hcall HQ2
     have HCL := lhd hcall
     clear hcall hB hf
     go_wp2_with fail
     refine HCL.out.mono ?_
     rintro e w5 ⟨rfl, hb⟩
     have W5 := lhd (W1.out.below hb (by omega))
     have HL5 := lhd (HLd.out.below hb (Nat.le_refl _))
     have HE5 := lhd (HEd.out.below hb (Nat.le_refl _))
     have HW5 := lhd (HWd.out.trans (hb.mono (by omega)))
     have HT5 := lhd (HTd.out.keep (W := w5) (fun k _ k2 => hb.block k (by omega)))
     have HC5 := lhd (HCd.out.below hb (by omega))
     have hs5 : gW + 1 ≤ w5.heap.size := by have := hb.size; omega
     clear hb d0 d1 d2 W1 HLd HEd HWd HTd HCd HCL
     have d0 := W5.out.at_ 0 _ rfl
     have d1 := W5.out.at_ 1 _ rfl
     have d2 := W5.out.at_ 2 _ rfl
     have k0 := HC5.out.at_ 0 _ rfl
     have k1 := HC5.out.at_ 1 _ rfl
     cases B
     ·have HEN : Hid (EW ++ toldW c (LW.take (k + 1)) = EW ++ toldW c (LW.take k)) := by
       show _ = _
       rw [HQ2.out]; simp
      rw [← HEN.out] at HE5
      go_wp2
      go_roundw
      case rel => exact ⟨k + 1, by omega, by go_num, HL5, HE5, HBX, HT5, HC5, HW5, by omega⟩
      case measure => simp [intOf]; omega
     ·have HEN : Hid (EW ++ toldW c (LW.take (k + 1)) = (EW ++ toldW c (LW.take k)) ++ [(x, c)]) := by
       show _ = _
       rw [HQ2.out, List.append_assoc]; rfl
      have HE6 : Hid (OwnE EvK 239 (w5.alloc (.cells (evc (x, c)).toArray 239)) G u7 (EW ++ toldW c (LW.take k))) := HE5.out.alloc _
      have HL6 : Hid (OwnE WaK 163 (w5.alloc (.cells (evc (x, c)).toArray 239)) G (.slice (some a) n9 cL) LW) := HL5.out.alloc _
      have HW6 : Hid (Below G w2 (w5.alloc (.cells (evc (x, c)).toArray 239))) := HW5.out.alloc (by omega) _
      have HT6 : Hid (Tests (touchB c) (.func (.func f) #[] lb) p9 r9 (w5.alloc (.cells (evc (x, c)).toArray 239))) := HT5.out.keep (fun k _ k2 => ((Below.refl w5.heap.size w5).alloc (Nat.le_refl _) _).block k (by omega))
      have HC6 : Hid (Blk (w5.alloc (.cells (evc (x, c)).toArray 239)) gC (chc c) 235) := HC5.out.alloc _
      have hs6 : gW + 1 ≤ (w5.alloc (.cells (evc (x, c)).toArray 239)).heap.size := by simp; omega
      go_wp2_with (at_builtin; refine wpList_appE (E := EvK) rfl _ _ 51 rfl 239 56 Tryz.underlying51 kindEvP G _ _ _ (EW ++ toldW c (LW.take k)) [(x, c)] rfl HE6.out rfl (RdE.one w5 239 (x, c)) (by simp) ?d1 ?d2 ?d3 ?_)
      case d1 => have := HQL.out; first | (simp only [List.length_cons, List.length_nil]; omega) | omega
      case d2 => have := HQL.out; first | (simp only [List.length_cons, List.length_nil]; omega) | omega
      case d3 => exact Nat.le_trans (show G ≤ gW + 1 by omega) hs6
      intro v7 w7 h7 hb7 hg7 hn7
      have HE7 : Hid (OwnE EvK 239 w7 G v7 (EW ++ toldW c (LW.take (k + 1)))) := by
       show OwnE _ _ _ _ _ _
       rw [HEN.out]
       first | exact h7 | (rw [List.append_assoc]; exact h7)
      have HL7 : Hid (OwnE WaK 163 w7 G (.slice (some a) n9 cL) LW) := ownsRow_other (by decide) HL6.out HE6.out hg7
      have HW7 : Hid (Below G w2 w7) := HW6.out.trans (hb7.mono (Nat.le_refl _))
      have HK7 : Hid (∀ k, k < r9 → (p9 ≤ k ∨ k = gC) → w7.heap[k]? = (w5.alloc (.cells (evc (x, c)).toArray 239)).heap[k]?) := fun k k1 k2 => hg7.block k (Nat.lt_of_lt_of_le (show k < gW + 1 by omega) hs6) (fun e => by
       rcases k2 with k2 | rfl
       ·have := HBX.out k e.symm; omega
       ·exact HE6.out.not_blk HC6.out (by decide) e.symm)
      have HT7 := lhd (HT6.out.keep (W := w7) (fun k k1 k2 => HK7.out k k2 (.inl k1)))
      have HC7 := lhd (HC6.out.same (HK7.out gC (by omega) (.inr rfl)))
      have HB7 : Hid (∀ g, v7.ownBlock = some g → g < p9 ∨ r9 ≤ g) := fun g hg => by
       rcases hn7 with hn7 | ⟨q, hq, hq2⟩
       ·rw [hn7] at hg; exact HBX.out g hg
       ·rw [hq] at hg; injection hg with hg; exact .inr (by rw [← hg]; omega)
      have hs7 : r9 ≤ w7.heap.size := Nat.le_trans (Nat.le_trans (show r9 ≤ gW + 1 by omega) hs6) hb7.size
      clear h7 hb7 hg7 hn7 d0 d1 d2 k0 k1
      go_wp2
      go_roundw
      case rel => exact ⟨k + 1, by omega, by go_num, HL7, HE7, HB7, HT7, HC7, HW7, hs7⟩
      case measure => simp [intOf]; omega
    ·have hE : k = n9 := by omega
     subst hE
     have HFL : Hid (LW.take k = LW) := List.take_of_length_le (by rw [HN9.out]; exact Nat.le_refl _)
     rw [HFL.out, ← HT2.out] at HEX
     go_wp2_with fail
     refine (delFunc_any (touchB c) LW (.slice AL k cL) fv p9 r9 G wr HLX.out (by omega) HTX.out hsX (fun g hg => by have := HLB.out g hg; omega)).mono ?_
     rintro e w5 ⟨u5, rfl, ho, hb, he⟩
     have HLN : Hid (OwnE WaK 163 w5 G u5 (leftW l (cs.take (i + 1)))) := by
      show OwnE _ _ _ _ _ _
      rw [HT1.out]
      exact ho
     have HENN : Hid (OwnE EvK 239 w5 G u7 (fireW l (cs.take (i + 1)))) := ownsRow_at HEX.out (fun g hg => he g (World.ownsRow.lt HEX.out g hg).2 (fun e => by
      obtain ⟨q, hq⟩ := HEX.out.blkOf hg
      exact HLX.out.not_blk hq (by decide) e))
     have HWN := lhd (HWX.out.trans hb)
     have hsN : G ≤ w5.heap.size := by have := hb.size; omega
     clear ho hb he
     go_wp2
     go_roundw
     case rel => exact ⟨i + 1, by omega, by go_num, HLN, HENN, HWN, hsN⟩
     case measure => simp [intOf]; omega
  ·have hE : i = m := by omega
   subst hE
   have HFL : Hid (cs.take i = cs) := List.take_of_length_le (by rw [HM.out]; exact Nat.le_refl _)
   rw [HFL.out] at HLF HEV
   obtain ⟨Ao, co, ho, -, -⟩ := HLF.out.rd.shape
   obtain ⟨LL, hLL⟩ : ∃ LL, (leftW l cs).length = LL := ⟨_, rfl⟩
   rw [hLL] at ho
   subst ho
   clear hLL
   go_wp2_with (refine wpList_store_to rfl 47 _ _ rfl g1 [.slice Ao LL co] [.slice none 0 0] 47 rfl rfl X1r.out sTbP rfl (slice_one _ _ _) ?_)
   intro w20 e1 e2 e3 e4
   go_wp2
   refine bodyPost_ret (v := .tuple #[.agg #[.slice Ao LL co], u7]) ?_ rfl ?_
   ·exact ret_blk1W rfl _ _ g1 47 [.slice Ao LL co] _ rfl rfl e1 d30 HU.out HD.out sTbP
   ·have hq := ownsRow_same HLF.out (fun k hk => e4 k (by omega))
    have hq2 := ownsRow_same HEV.out (fun k hk => e4 k (by omega))
    exact ⟨_, _, rfl, OwnE.base hq (by first | exact Nat.le_refl _ | assumption | omega), OwnE.base hq2 (by first | exact Nat.le_refl _ | assumption | omega), HB.out.trans ((HW.out.mono hwG).trans (e3.mono hw1))⟩
def noteR (x : Rp) (cs : List Ch) (c : Ch) : List Ch := if pE x = 0 then cs ++ [c] else cs
theorem tnChanged_any (a b g : Nat) (k : Int) (p : List UInt8) (r : Rm) (x : Rp) (cs : List Ch) (w : World) (h : TnP a b g w r x cs) (hl : cs.length ≤ 100000) :
 Calls Tryz.prog 177 #[.pointer (some ⟨g, 0, none⟩), .int .i64 k, txt p] w (TnQ a b g r x (noteR x cs (k, p)) w) := by
 obtain ⟨vN, vS, vW, vL, nv, vC, hX, hF, hC, hbg⟩ := h
 have X := lhd hX
 have F := lhd hF
 have C := lhd hC
 have HL := lhd hl
 have hlt := hX.lt
 have c7 := hX.at_ 7 _ rfl
 clear hX hF hC hl
 go_enter Tryz.func177, Tryz.ntmps177
 by_cases he : pE x = 0
 ·have hE : (pE x == 0) = true := by rw [he]; rfl
  have HE := lhd he
  clear he
  obtain ⟨Ac, cc, hv⟩ := C.out.shape
  obtain ⟨nc, hnc⟩ : ∃ q, cs.length = q := ⟨_, rfl⟩
  rw [hnc] at hv
  subst hv
  have HN := lhd hnc
  clear hnc
  have c11 := X.out.at_ 11 _ rfl
  have hb1 : Below w.heap.size w (w.alloc (.cells (chc (k, p)).toArray 235)) := (Below.refl _ _).alloc (Nat.le_refl _) _
  have HB1 := lhd hb1
  clear hb1
  have X1 := lhd (X.out.below HB1.out hlt)
  have hbw : b ≤ w.heap.size := by omega
  have F1 := lhd (F.out.keep (.of HB1.out hbw))
  have C1 := lhd (C.out.below HB1.out (Nat.le_refl _))
  go_wp2_with (at_builtin; refine wpList_appE (E := ChK) rfl _ _ 204 rfl 235 24 Tryz.underlying204 kindChP b _ _ _ cs [(k, p)] rfl C1.out rfl (RdE.one w 235 (k, p)) (by simp) ?d1 ?d2 (Nat.le_trans hbw HB1.out.size) ?_)
  case d1 => have := HL.out; simp; omega
  case d2 => have := HL.out; simp; omega
  intro vq w2 hown hb2 hg2 _
  have K2 := lhd (Keep.grown (T := TT) C1.out (.inr rfl) (Nat.le_trans hbw HB1.out.size) hb2 hg2)
  have F2 := lhd (F1.out.keep K2.out)
  have X2 : Hid (Blk w2 g _ 206) := lhd (by
   have h1 := X1.out
   refine h1.same (hg2.block g (Nat.lt_of_lt_of_le hlt HB1.out.size) fun e => ?_)
   exact C1.out.not_blk h1 (by decide) e.symm)
  have E2 := lhd ((Kp.of HB1.out hbw).trans ⟨hb2, K2.out⟩)
  obtain ⟨A2, c2, hvq⟩ := hown.shape
  obtain ⟨n2, hn2⟩ : ∃ q, (cs ++ [(k, p)]).length = q := ⟨_, rfl⟩
  rw [hn2] at hvq
  subst hvq
  have C2 := lhd hown
  clear hown hb2 hg2 HB1 X1 F1 C1 K2 X F C c7 c11 hn2
  go_wp2_with (refine wpList_store_fld rfl 204 _ _ rfl g 11 (tnc (mT r) vN vS vW vL x nv (.slice Ac nc cc)) (.slice A2 n2 c2) 206 rfl rfl X2.out szChT (by show 11 < 12; decide) rfl ?_)
  intro w3 e1 e2 e3 e4
  have X3 : Hid (Blk w3 g (tnc (mT r) vN vS vW vL x nv (.slice A2 n2 c2)) 206) := e1
  have F3 := lhd (F2.out.keep (.store X2.out (.inl rfl) hbg e2 e4))
  have C3 := lhd (C2.out.keep (T := fun e => e = 206) (.store X2.out rfl hbg e2 e4) (by decide))
  have E3 := lhd (E2.out.trans (.store X2.out hbg e2 e3 e4))
  clear e1 e2 e3 e4 X2 F2 C2 E2
  go_wp2
  refine ⟨rfl, _, results_none rfl _ _ _, ⟨_, rfl⟩, ?_, E3.out⟩
  rw [noteR, if_pos HE.out]
  exact ⟨vN, vS, vW, vL, nv, _, X3.out, F3.out, C3.out, hbg⟩
 ·have hE : (pE x == 0) = false := by rw [beq_eq_false_iff_ne]; exact he
  have HE := lhd he
  clear he
  go_wp2
  refine ⟨rfl, _, results_none rfl _ _ _, ⟨_, rfl⟩, ?_, Kp.of (Below.refl _ _) (by omega)⟩
  rw [noteR, if_neg HE.out]
  exact ⟨vN, vS, vW, vL, nv, vC, X.out, F.out, C.out, hbg⟩
theorem rowBP : ∃ d, Tryz.prog.underlying 44 = some d ∧ d.isRow = true := ⟨_, Tryz.underlying44, rfl⟩
theorem sBP : (Tryz.prog.info? 44).map (·.size) = some 2 := by kernel_rfl
theorem zBP : (Tryz.prog.info? 44).map (·.zero) = some (some (.agg [Value.int .i64 0, .slice none 0 0].toArray)) := by kernel_rfl
theorem bkNew_any (w : World) : Calls Tryz.prog 46 #[] w (Book1 0 [] w) := by
 obtain ⟨d30, hu30, hd30⟩ := rowBP
 have HU := lhd hu30
 have HD := lhd hd30
 clear hu30 hd30
 go_enter Tryz.func46, Tryz.ntmps46
 go_wp2_with (refine wpList_alloc_blk rfl 44 rfl [.int .i64 0, .slice none 0 0] zBP ?_)
 intro w1 a1 a2 a3
 obtain ⟨g0, hg0⟩ : ∃ g, w.heap.size = g := ⟨_, rfl⟩
 have X0 := lhd a1
 have HB := lhd a3
 rw [hg0] at X0 ⊢
 clear a1 a2 a3
 go_wp2_with (refine wpList_store_to rfl 44 _ _ rfl g0 [.int .i64 0, .slice none 0 0] [.int .i64 0, .slice none 0 0] 44 rfl rfl X0.out sBP rfl (book_one _ _ _ _) ?_)
 intro w2 e1 e2 e3 e4
 go_wp2
 refine bodyPost_ret (v := .agg [Value.int .i64 0, .slice none 0 0].toArray) ?_ rfl ?_
 ·exact ret_blkUL rfl _ _ g0 44 [.int .i64 0, .slice none 0 0] rfl e1 d30 HU.out HD.out sBP
 ·exact ⟨_, rfl, RdE.nil _ _, HB.out.trans (e3.mono (by omega))⟩
open Go.RowKit Go.ChangeShapes Go.WideShapes
section
variable {H : Type} {enc : TypeId × Value → H} {P : Program} {W : World}
end
section
variable {H : Type} {enc : TypeId × Value → H} {P : Program} {W : World} {spare : TypeId → Bool} {held : Bool}
end
def fitI (z : Int) : Prop := -9223372036854775808 ≤ z ∧ z ≤ 9223372036854775807
theorem fit_wf {z : Int} (h : (Lit.int .i64 z).wf = true) : fitI z := by
 unfold fitI
 simpa [Lit.wf, IntKind.min, IntKind.max, IntKind.signed, IntKind.bits] using h
section
variable {H : Type} {enc : TypeId × Value → H} {P : Program} {W : World} {spare : TypeId → Bool} {held : Bool}
theorem open_rowsE {α : Type} {E : RowK α} {F : α → Prop} {ts te : TypeId} (ht : P.underlying ts = some (.slice te)) (ck : P.cellsOf te = E.k)
 (elem : ∀ fuel cs x, DataW.trod enc P W 0 spare held fuel te cs = some x → ∃ a, cs = E.enc a ∧ F a) {fuel : Nat} {cs : List Value} {x : DataW H × List MemPlace} (h : DataW.trod enc P W 0 spare held fuel ts cs = some x) :
 ∃ v l, cs = [v] ∧ RdE E W.heap.size W v l ∧ (∀ n ∈ l, F n) ∧ (l.length = 0 ∨ ∃ m ∈ x.1.weights P ts, l.length * P.bytesOf te ≤ m) := by
 rcases DataW.trod_slice ht h with ⟨rfl, _⟩ | ⟨a, len, cap, elems, rest, n, _, rfl, hx, _, hl, hm, hlen, hel, _, _⟩
 ·exact ⟨_, [], rfl, RdE.nil _ _, fun _ h => (by cases h), .inl rfl⟩
 ·rw [ck] at hel
  have each : ∀ i : Fin len, ∃ nd : α, W.cells? 0 (a.add (i.1 * E.k)) E.k = some (E.enc nd) ∧ F nd := by
   intro i
   have h1 := hel i.1 i.2
   rw [List.getElem?_eq_getElem (by omega)] at h1
   obtain ⟨cs', hcs, ht⟩ := Option.bind_eq_some_iff.1 h1
   obtain ⟨nd, rfl, hf⟩ := elem _ _ _ ht
   exact ⟨nd, hcs, hf⟩
  obtain ⟨f, hf⟩ := Classical.axiomOfChoice each
  obtain ⟨l, hL⟩ : ∃ l : List α, l = List.ofFn f := ⟨_, rfl⟩
  have hll : l.length = len := by rw [hL, List.length_ofFn]
  have hlc : ∀ i, i < len → W.cells? 0 (a.add (i * E.k)) E.k = some (E.enc (l.getD i E.d)) := by
   intro i hi
   have h1 := (hf ⟨i, hi⟩).1
   rw [h1, hL, List.getD_eq_getElem?_getD, List.getElem?_ofFn, dif_pos hi]
   rfl
  refine ⟨_, l, rfl, ⟨some a, cap, by rw [hll], by omega, hm, (fun h => (by cases h)), fun b hb => ?_⟩, fun m hm' => ?_, .inr ⟨(elems.length + rest.length) * P.bytesOf te, ?_, ?_⟩⟩
  ·cases hb
   refine ⟨fun h0 => ?_, fun j u hj => ?_⟩
   ·have := World.cells?_block (hlc 0 (by omega)) E.pos
    rwa [addr_block] at this
   ·have hj4 : j < l.length * E.k := by
     have := (List.getElem?_eq_some_iff.1 hj).1
     rwa [rowsE_length] at this
    have hpos := E.pos
    have hjd : j / E.k < len := by
     rw [hll] at hj4
     exact Nat.div_lt_of_lt_mul (by rw [Nat.mul_comm]; exact hj4)
    have hmod := Nat.mod_lt j hpos
    have hsum : j / E.k * E.k + j % E.k = j := by
     rw [Nat.mul_comm]
     exact Nat.div_add_mod j E.k
    have h1 := (World.cells?_some (hlc (j / E.k) hjd)).2.2 (j % E.k) hmod
    rw [Addr.add_add, hsum] at h1
    rw [h1, ← rowsE_get E l (j / E.k) (j % E.k) (by omega) hmod, hsum]
    exact hj
  ·rw [hL, List.mem_ofFn] at hm'
   obtain ⟨i, rfl⟩ := hm'
   exact (hf i).2
  ·rw [hx]
   simp [DataW.weights, ht]
  ·rw [hll, hlen, Nat.add_mul]
   omega
end
section
variable {H : Type} {enc : TypeId × Value → H} {P : Program} {W : World} {spare : TypeId → Bool} {held : Bool}
end
end Go.Proofs.YtgfobinklijkpaaGreatDoor
