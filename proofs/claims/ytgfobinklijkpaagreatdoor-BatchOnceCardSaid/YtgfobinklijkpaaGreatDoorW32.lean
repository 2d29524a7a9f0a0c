/-
  Texts IV IW.
-/
import Derived.Test.YtgfobinklijkpaaGreatDoorW01
import Derived.Test.YtgfobinklijkpaaGreatDoorW12
import Derived.Test.YtgfobinklijkpaaGreatDoorW21
import Derived.Test.YtgfobinklijkpaaGreatDoorW26
import Derived.Test.YtgfobinklijkpaaGreatDoorW30
import Derived.Test.YtgfobinklijkpaaGreatDoorW31
namespace Go.Proofs.YtgfobinklijkpaaGreatDoor
set_option maxRecDepth 100000
set_option maxHeartbeats 16000000
open Go.RowKit
theorem done0 (r : Rm) (o : Or) (h : oK o = 0) : doneR r o = (r, rep 0 [] 0 [], []) := by
 unfold doneR
 rw [h]
 rfl
theorem done2 (r : Rm) (o : Or) (h : oK o = 2) : doneR r o = (r, rep (getE (mN r) (oP o)) (nV (getS (mN r) (oP o))) (nR (getS (mN r) (oP o))) [], []) := by
 unfold doneR
 rw [h]
 rfl
theorem done5 (r : Rm) (o : Or) (h : oK o = 5) : doneR r o = (r, rep (getE (mN r) (oP o)) [] 0 ((listS (mN r) (oP o)).map ba), []) := by
 unfold doneR
 rw [h]
 rfl
theorem done6 (r : Rm) (o : Or) (h : oK o = 6) : doneR r o = ((mN r, mT r, openS (mT r) (mS r) (oS o) (oT o), mW r, mL r), rep (openE (mS r) (oS o) (oT o)) [] 0 [], []) := by
 unfold doneR
 rw [h]
 rfl
theorem done7 (r : Rm) (o : Or) (h : oK o = 7) : doneR r o = ((mN r, mT r, touchS (mT r) (mS r) (oS o), mW r, mL r), rep (leaseE (mS r) (oS o)) [] 0 [], []) := by
 unfold doneR
 rw [h]
 rfl
theorem done4 (r : Rm) (o : Or) (h : oK o = 4) : doneR r o = ((delS (mN r) (oP o) (oR o), mT r, mS r, mW r, mL r), rep (delE (mN r) (oP o) (oR o)) [] 0 [], if delE (mN r) (oP o) (oR o) = 0 then [(3, oP o)] else []) := by
 unfold doneR
 rw [h]
 rfl
theorem tnOpen_any (a b g : Nat) (o : Or) (r : Rm) (w : World) (hR : RightR r) (h : TnP a b g w r (noR o 0) []) (_hi : fitI (oS o)) (hk : oK o = 6) :
 Calls Tryz.prog 153 #[.pointer (some ⟨g, 0, none⟩), .agg (orc o).toArray] w (TnQ a b g (doneR r o).1 (ofR o (doneR r o).2.1) (doneR r o).2.2 w) := by
 obtain ⟨vN, vS, vW, vL, nv, vC, hX, hF, hC, hbg⟩ := h
 have hab := hF.ab
 have X := lhd hX
 have F := lhd hF
 have C := lhd hC
 have hlt := hX.lt
 have HR := lhd hR
 clear hX hF hC hR
 go_enter Tryz.func153, Tryz.ntmps153
 go_wp2_with (refine wpList_box_blk rfl 86 _ rfl (orc o) rfl ?_)
 intro w1 b1 b2 b3
 obtain ⟨gO, hgO⟩ : ∃ q, w.heap.size = q := ⟨_, rfl⟩
 have hbO : b ≤ w.heap.size := by omega
 have hgo : g ≠ gO := by omega
 have hb1 := lhd (show b ≤ w1.heap.size by omega)
 have XO := lhd b1
 have X1 := lhd (X.out.below b3 hlt)
 have F1 := lhd (F.out.keep (.of b3 hbO))
 have C1 := lhd (C.out.below b3 (Nat.le_refl _))
 have E1 := lhd (Kp.of b3 hbO)
 have hlt1 := X1.out.lt
 rw [hgO] at XO ⊢
 clear b1 b2 b3 X F C hgO hlt hbO
 obtain ⟨f, hf⟩ : ∃ f : Nat, openE (mS r) (oS o) (oT o) = f := ⟨_, rfl⟩
 have HF := lhd hf
 clear hf
 have XO := lhd XO.out.drew
 have X1 := lhd X1.out.drew
 have F1 := lhd (F1.out.keep (.of (Below.refl _ _).drew hb1.out))
 have C1 := lhd (C1.out.below ((Below.refl w1.heap.size w1).drew) (Nat.le_refl _))
 have E1 := lhd (E1.out.trans (.of (Below.refl _ _).drew hb1.out))
 have hb1 : Hid (b ≤ w1.drew.heap.size) := hb1.out
 have hlt1 : g < w1.drew.heap.size := X1.out.lt
 go_wp2
 obtain ⟨FF, hF⟩ : ∃ F : (Nat → Value) → Act, F = fun x => ⟨#[.pointer (some ⟨g, 0, none⟩), .agg (orc o).toArray, undef, .pointer (some ⟨gO, 0, none⟩), x 12, x 0, x 1, x 2, x 3, x 4, x 5, x 6, x 7, x 8, x 9, x 10, x 11, x 13, x 14, x 15, x 16, x 17, x 19, x 20, x 21], []⟩ := ⟨_, rfl⟩
 have HFF := lhd hF
 refine wp_region_tillK 23 FF (fun k => [undef, undef, undef, undef, undef, undef, undef, undef, undef, undef, undef, undef, undef, undef, undef, undef, undef, undef, undef, undef, undef, undef, undef].getD k undef) (fun w9 => Blk w9 gO (orc o) 86) (by rw [hF]; rfl) rfl (by kernel_rfl) ?_
 intro x hL
 clear hF
 obtain ⟨wA, hwA⟩ : ∃ q, w1.drew = q := ⟨_, rfl⟩
 rw [hwA] at XO X1 F1 C1 E1 hb1 hlt1 ⊢
 clear hwA
 refine AnyTill.tk 0 (.pointer (some ⟨g, 0, none⟩)) (wanted_none rfl) HFF hL (fun w9 hS9 => ?_) XO.out ?_
 ·(go_simp; try rfl)
 clear hL x
 intro x hL
 refine AnyTill.tk 1 (.pointer (some ⟨g, 0, none⟩)) (wanted_none rfl) HFF hL (fun w9 hS9 => ?_) XO.out ?_
 ·(go_simp; try rfl)
 clear hL x
 intro x hL
 refine AnyTill.tk 2 (.pointer (some ⟨g, 0, none⟩)) (wanted_none rfl) HFF hL (fun w9 hS9 => ?_) XO.out ?_
 ·(go_simp; try rfl)
 clear hL x
 intro x hL
 refine AnyTill.tk 3 (.pointer (some ⟨g, 0, none⟩)) (wanted_none rfl) HFF hL (fun w9 hS9 => ?_) XO.out ?_
 ·have q2 := hL.at_ 0 rfl
  rw [q2]
  (go_simp; try rfl)
 clear hL x
 intro x hL
 refine AnyTill.tk 4 (.pointer (some ⟨g, 0, none⟩)) (wanted_none rfl) HFF hL (fun w9 hS9 => ?_) XO.out ?_
 ·have q3 := hL.at_ 0 rfl
  rw [q3]
  (go_simp; try rfl)
 clear hL x
 intro x hL
 refine AnyTill.tk 5 (.pointer (some ⟨g, 1, none⟩)) (wanted_none rfl) HFF hL (fun w9 hS9 => ?_) XO.out ?_
 ·have q4 := hL.at_ 0 rfl
  rw [q4]
  (go_simp; try rfl)
 clear hL x
 intro x hL
 refine AnyTill.tk 7 (.pointer (some ⟨gO, 6, none⟩)) (wanted_none rfl) HFF hL (fun w9 hS9 => ?_) XO.out ?_
 ·(go_simp; try rfl)
 clear hL x
 intro x hL
 refine AnyTill.tk 8 (.int .i64 (oS o)) (wanted_none rfl) HFF hL (fun w9 hS9 => ?_) XO.out ?_
 ·have q7 := hL.at_ 0 rfl
  rw [q7]
  have cc := hS9.at_ 6 _ rfl
  (go_simp; try rfl)
 clear hL x
 intro x hL
 refine AnyTill.tk 9 (.pointer (some ⟨gO, 7, none⟩)) (wanted_none rfl) HFF hL (fun w9 hS9 => ?_) XO.out ?_
 ·(go_simp; try rfl)
 clear hL x
 intro x hL
 refine AnyTill.tk 10 (.int .i64 (oT o)) (wanted_none rfl) HFF hL (fun w9 hS9 => ?_) XO.out ?_
 ·have q9 := hL.at_ 0 rfl
  rw [q9]
  have cc := hS9.at_ 7 _ rfl
  (go_simp; try rfl)
 clear hL x
 intro x hL
 refine AnyTill.oneK 6 (by kernel_rfl) rfl HFF (wanted_none rfl) (fun _ _ => rfl) hL rfl (fun K hK => ?_)
 have q5 := lhd (hL.at_ 4 rfl)
 obtain ⟨d9, hu9, hd9⟩ := rowBkT
 refine wp_load_part 44 _ rfl g 1 (tnc (mT r) vN vS vW vL (noR o 0) nv vC) [.int .i64 (mT r), vS] 206 q5.out X1.out rfl hu9 hd9 szBkT ?_
 refine hK.out _ _ XO.out ?_
 clear hK K
 clear hL q5 x
 intro x hL
 refine AnyTill.oneK 11 (by kernel_rfl) rfl HFF (wanted_none rfl) (fun _ _ => rfl) hL rfl (fun K hK => ?_)
 have q6 := lhd (hL.at_ 0 rfl)
 have q8 := lhd (hL.at_ 3 rfl)
 have q10 := lhd (hL.at_ 1 rfl)
 go_simp
 refine calls_args (args2 := #[.agg #[.int .i64 (mT r), vS], .int .i64 (oS o), .int .i64 (oT o)]) (by rw [q6.out, q8.out, q10.out]) ?_
 refine (bkOpen_own (mT r) (mS r) (oS o) (oT o) vS wA F1.out.s.1 HR.out.b _hi).mono ?_
 rintro e w2 ⟨u, rfl, hr, ho, hb⟩
 rw [HF.out]
 have G2 := lhd (F1.out.s.next hr ho hb (Nat.le_trans hab hb1.out))
 obtain ⟨Au, cu, hu, -, -⟩ := hr.shape
 obtain ⟨nu, hnu⟩ : ∃ q, (openS (mT r) (mS r) (oS o) (oT o)).length = q := ⟨_, rfl⟩
 rw [hnu] at hu
 clear hnu
 subst hu
 clear hr ho
 have XO2 := lhd (XO.out.below hb XO.out.lt)
 have X2 := lhd (X1.out.below hb hlt1)
 have F2 := lhd (F1.out.keep (.of hb hb1.out))
 have C2 := lhd (C1.out.below hb (Nat.le_refl _))
 have E2 := lhd (E1.out.trans (.of hb hb1.out))
 have hb2 := lhd (Nat.le_trans hb1.out hb.size)
 refine hK.out _ w2 XO2.out ?_
 clear hK K hb XO X1 F1 C1 E1 hb1 hlt1
 clear hL q6 q8 q10 x
 intro x hL
 refine AnyTill.tk 12 (.tuple #[.agg #[.int .i64 (mT r), .slice Au nu cu], .int .i64 (f : Int)]) (wanted_none rfl) HFF hL (fun w9 hS9 => ?_) XO2.out ?_
 ·have q11 := hL.at_ 0 rfl
  rw [q11]
  (go_simp; try rfl)
 clear hL x
 intro x hL
 refine AnyTill.tk 13 (.agg #[.int .i64 (mT r), .slice Au nu cu]) (wanted_none rfl) HFF hL (fun w9 hS9 => ?_) XO2.out ?_
 ·have q12 := hL.at_ 0 rfl
  rw [q12]
  (go_simp; try rfl)
 clear hL x
 intro x hL
 refine AnyTill.tk 14 (.int .i64 (f : Int)) (wanted_none rfl) HFF hL (fun w9 hS9 => ?_) XO2.out ?_
 ·have q12 := hL.at_ 1 rfl
  rw [q12]
  (go_simp; try rfl)
 clear hL x
 intro x hL
 refine AnyTill.tk 15 (.pointer (some ⟨g, 0, none⟩)) (wanted_none rfl) HFF hL (fun w9 hS9 => ?_) XO2.out ?_
 ·have q0 := hL.at_ 14 rfl
  rw [q0]
  (go_simp; try rfl)
 clear hL x
 intro x hL
 refine AnyTill.tk 16 (.pointer (some ⟨g, 0, none⟩)) (wanted_none rfl) HFF hL (fun w9 hS9 => ?_) XO2.out ?_
 ·have q15 := hL.at_ 0 rfl
  rw [q15]
  (go_simp; try rfl)
 clear hL x
 intro x hL
 refine AnyTill.tk 17 (.pointer (some ⟨g, 1, none⟩)) (wanted_none rfl) HFF hL (fun w9 hS9 => ?_) XO2.out ?_
 ·have q16 := hL.at_ 0 rfl
  rw [q16]
  (go_simp; try rfl)
 clear hL x
 intro x hL
 have q17 := hL.at_ 0 rfl
 have q13 := hL.at_ 4 rfl
 refine AnyTill.store1 18 (by kernel_rfl) rfl HFF (g := g) (a := 1) (cs := (tnc (mT r) vN vS vW vL (noR o 0) nv vC)) (vs := [.int .i64 (mT r), .slice Au nu cu]) (u := 206) ⟨_, _, _, rfl, rfl, rfl, q17, .inl q13, szBkT, (book_one _ _ _ _)⟩ X2.out (by show 3 ≤ 12; decide) (fun w9 z1 z2 => XO2.out.same (z2 gO hgo.symm)) ?_
 intro w3 e1 e2 e3 e4
 clear q17 q13
 have X3 := lhd e1
 have F3 := lhd (F2.out.keep (.store X2.out (.inl rfl) hbg e2 e4))
 have C3 := lhd (C2.out.keep (T := fun e => e = 206) (.store X2.out rfl hbg e2 e4) (by decide))
 have G3 := lhd (G2.out.keep (.store X2.out (.inl rfl) hbg e2 e4) TT_se hab)
 have E3 := lhd (E2.out.trans (.store X2.out hbg e2 e3 e4))
 have hb3 := lhd (show b ≤ w3.heap.size by rw [e2]; exact hb2.out)
 have XO3 := lhd (XO2.out.same (e4 gO hgo.symm))
 clear e1 e2 e3 e4 X2 F2 C2 G2 E2 hb2 XO2
 have X3 : Hid (Blk w3 g (tnc (mT r) vN (.slice Au nu cu) vW vL (noR o 0) nv vC) 206) := X3.out
 refine AnyTill.tk 19 (.pointer (some ⟨g, 0, none⟩)) (wanted_none rfl) HFF hL (fun w9 hS9 => ?_) XO3.out ?_
 ·have q1 := hL.at_ 16 rfl
  rw [q1]
  (go_simp; try rfl)
 clear hL x
 intro x hL
 refine AnyTill.tk 20 (.pointer (some ⟨g, 5, none⟩)) (wanted_none rfl) HFF hL (fun w9 hS9 => ?_) XO3.out ?_
 ·have q19 := hL.at_ 0 rfl
  rw [q19]
  (go_simp; try rfl)
 clear hL x
 intro x hL
 refine AnyTill.tk 21 (.pointer (some ⟨g, 7, none⟩)) (wanted_none rfl) HFF hL (fun w9 hS9 => ?_) XO3.out ?_
 ·have q20 := hL.at_ 0 rfl
  rw [q20]
  (go_simp; try rfl)
 clear hL x
 intro x hL
 have q21 := hL.at_ 0 rfl
 have q14 := hL.at_ 6 rfl
 refine AnyTill.store1 22 (by kernel_rfl) rfl HFF (g := g) (a := 7) (cs := (tnc (mT r) vN (.slice Au nu cu) vW vL (noR o 0) nv vC)) (vs := [.int .i64 (f : Int)]) (u := 206) ⟨_, _, _, rfl, rfl, rfl, q21, .inr (by rw [show _ = _ from q14]; rfl), szErT, (one_of rfl)⟩ X3.out (by show 8 ≤ 12; decide) (fun w9 z1 z2 => XO3.out.same (z2 gO hgo.symm)) ?_
 intro w4 e1 e2 e3 e4
 clear q21 q14
 have X4 : Hid (Blk w4 g (tnc (mT r) vN (.slice Au nu cu) vW vL (oC o, oQ o, (f : Int), [], 0, []) nv vC) 206) := e1
 have F4 := lhd (F3.out.keep (.store X3.out (.inl rfl) hbg e2 e4))
 have C4 := lhd (C3.out.keep (T := fun e => e = 206) (.store X3.out rfl hbg e2 e4) (by decide))
 have G4 := lhd (G3.out.keep (.store X3.out (.inl rfl) hbg e2 e4) TT_se hab)
 have E4 := lhd (E3.out.trans (.store X3.out hbg e2 e3 e4))
 have hb4 := lhd (show b ≤ w4.heap.size by rw [e2]; exact hb3.out)
 have XO4 := lhd (XO3.out.same (e4 gO hgo.symm))
 clear e1 e2 e3 e4 X3 F3 C3 G3 E3 hb3 XO3
 refine AnyTill.done (by kernel_rfl) ?_
 refine NoPanic.normal ?_
 rw [HFF.out]
 try dsimp only
 clear hL HFF
 go_wp2
 refine ⟨rfl, _, results_none rfl _ _ _, ⟨_, rfl⟩, ?_, E4.out⟩
 rw [done6 r o hk]
 unfold ofR rep
 rw [HF.out]
 exact ⟨vN, (.slice Au nu cu), vW, vL, nv, vC, X4.out, ⟨F4.out.n, G4.out, F4.out.t, F4.out.l, F4.out.x, hab⟩, C4.out, hbg⟩
theorem tnTouch_any (a b g : Nat) (o : Or) (r : Rm) (w : World) (hR : RightR r) (h : TnP a b g w r (noR o 0) []) (_hi : fitI (oS o)) (hk : oK o = 7) :
 Calls Tryz.prog 154 #[.pointer (some ⟨g, 0, none⟩), .agg (orc o).toArray] w (TnQ a b g (doneR r o).1 (ofR o (doneR r o).2.1) (doneR r o).2.2 w) := by
 obtain ⟨vN, vS, vW, vL, nv, vC, hX, hF, hC, hbg⟩ := h
 have hab := hF.ab
 have X := lhd hX
 have F := lhd hF
 have C := lhd hC
 have hlt := hX.lt
 have HR := lhd hR
 clear hX hF hC hR
 go_enter Tryz.func154, Tryz.ntmps154
 go_wp2_with (refine wpList_box_blk rfl 86 _ rfl (orc o) rfl ?_)
 intro w1 b1 b2 b3
 obtain ⟨gO, hgO⟩ : ∃ q, w.heap.size = q := ⟨_, rfl⟩
 have hbO : b ≤ w.heap.size := by omega
 have hgo : g ≠ gO := by omega
 have hb1 := lhd (show b ≤ w1.heap.size by omega)
 have XO := lhd b1
 have X1 := lhd (X.out.below b3 hlt)
 have F1 := lhd (F.out.keep (.of b3 hbO))
 have C1 := lhd (C.out.below b3 (Nat.le_refl _))
 have E1 := lhd (Kp.of b3 hbO)
 have hlt1 := X1.out.lt
 rw [hgO] at XO ⊢
 clear b1 b2 b3 X F C hgO hlt hbO
 obtain ⟨f, hf⟩ : ∃ f : Nat, leaseE (mS r) (oS o) = f := ⟨_, rfl⟩
 have HF := lhd hf
 clear hf
 have XO := lhd XO.out.drew
 have X1 := lhd X1.out.drew
 have F1 := lhd (F1.out.keep (.of (Below.refl _ _).drew hb1.out))
 have C1 := lhd (C1.out.below ((Below.refl w1.heap.size w1).drew) (Nat.le_refl _))
 have E1 := lhd (E1.out.trans (.of (Below.refl _ _).drew hb1.out))
 have hb1 : Hid (b ≤ w1.drew.heap.size) := hb1.out
 have hlt1 : g < w1.drew.heap.size := X1.out.lt
 go_wp2
 obtain ⟨FF, hF⟩ : ∃ F : (Nat → Value) → Act, F = fun x => ⟨#[.pointer (some ⟨g, 0, none⟩), .agg (orc o).toArray, undef, .pointer (some ⟨gO, 0, none⟩), x 10, x 0, x 1, x 2, x 3, x 4, x 5, x 6, x 7, x 8, x 9, x 11, x 12, x 13, x 14, x 15, x 17, x 18, x 19], []⟩ := ⟨_, rfl⟩
 have HFF := lhd hF
 refine wp_region_tillK 21 FF (fun k => [undef, undef, undef, undef, undef, undef, undef, undef, undef, undef, undef, undef, undef, undef, undef, undef, undef, undef, undef, undef, undef].getD k undef) (fun w9 => Blk w9 gO (orc o) 86) (by rw [hF]; rfl) rfl (by kernel_rfl) ?_
 intro x hL
 clear hF
 obtain ⟨wA, hwA⟩ : ∃ q, w1.drew = q := ⟨_, rfl⟩
 rw [hwA] at XO X1 F1 C1 E1 hb1 hlt1 ⊢
 clear hwA
 refine AnyTill.tk 0 (.pointer (some ⟨g, 0, none⟩)) (wanted_none rfl) HFF hL (fun w9 hS9 => ?_) XO.out ?_
 ·(go_simp; try rfl)
 clear hL x
 intro x hL
 refine AnyTill.tk 1 (.pointer (some ⟨g, 0, none⟩)) (wanted_none rfl) HFF hL (fun w9 hS9 => ?_) XO.out ?_
 ·(go_simp; try rfl)
 clear hL x
 intro x hL
 refine AnyTill.tk 2 (.pointer (some ⟨g, 0, none⟩)) (wanted_none rfl) HFF hL (fun w9 hS9 => ?_) XO.out ?_
 ·(go_simp; try rfl)
 clear hL x
 intro x hL
 refine AnyTill.tk 3 (.pointer (some ⟨g, 0, none⟩)) (wanted_none rfl) HFF hL (fun w9 hS9 => ?_) XO.out ?_
 ·have q2 := hL.at_ 0 rfl
  rw [q2]
  (go_simp; try rfl)
 clear hL x
 intro x hL
 refine AnyTill.tk 4 (.pointer (some ⟨g, 0, none⟩)) (wanted_none rfl) HFF hL (fun w9 hS9 => ?_) XO.out ?_
 ·have q3 := hL.at_ 0 rfl
  rw [q3]
  (go_simp; try rfl)
 clear hL x
 intro x hL
 refine AnyTill.tk 5 (.pointer (some ⟨g, 1, none⟩)) (wanted_none rfl) HFF hL (fun w9 hS9 => ?_) XO.out ?_
 ·have q4 := hL.at_ 0 rfl
  rw [q4]
  (go_simp; try rfl)
 clear hL x
 intro x hL
 refine AnyTill.tk 7 (.pointer (some ⟨gO, 6, none⟩)) (wanted_none rfl) HFF hL (fun w9 hS9 => ?_) XO.out ?_
 ·(go_simp; try rfl)
 clear hL x
 intro x hL
 refine AnyTill.tk 8 (.int .i64 (oS o)) (wanted_none rfl) HFF hL (fun w9 hS9 => ?_) XO.out ?_
 ·have q7 := hL.at_ 0 rfl
  rw [q7]
  have cc := hS9.at_ 6 _ rfl
  (go_simp; try rfl)
 clear hL x
 intro x hL
 refine AnyTill.oneK 6 (by kernel_rfl) rfl HFF (wanted_none rfl) (fun _ _ => rfl) hL rfl (fun K hK => ?_)
 have q5 := lhd (hL.at_ 2 rfl)
 obtain ⟨d9, hu9, hd9⟩ := rowBkT
 refine wp_load_part 44 _ rfl g 1 (tnc (mT r) vN vS vW vL (noR o 0) nv vC) [.int .i64 (mT r), vS] 206 q5.out X1.out rfl hu9 hd9 szBkT ?_
 refine hK.out _ _ XO.out ?_
 clear hK K
 clear hL q5 x
 intro x hL
 refine AnyTill.oneK 9 (by kernel_rfl) rfl HFF (wanted_none rfl) (fun _ _ => rfl) hL rfl (fun K hK => ?_)
 have q6 := lhd (hL.at_ 0 rfl)
 have q8 := lhd (hL.at_ 1 rfl)
 go_simp
 refine calls_args (args2 := #[.agg #[.int .i64 (mT r), vS], .int .i64 (oS o)]) (by rw [q6.out, q8.out]) ?_
 refine (bkTouch_own (mT r) (mS r) (oS o) vS wA F1.out.s.1 HR.out.b).mono ?_
 rintro e w2 ⟨u, rfl, hr, ho, hb⟩
 rw [HF.out]
 have G2 := lhd (F1.out.s.next hr ho hb (Nat.le_trans hab hb1.out))
 obtain ⟨Au, cu, hu, -, -⟩ := hr.shape
 obtain ⟨nu, hnu⟩ : ∃ q, (touchS (mT r) (mS r) (oS o)).length = q := ⟨_, rfl⟩
 rw [hnu] at hu
 clear hnu
 subst hu
 clear hr ho
 have XO2 := lhd (XO.out.below hb XO.out.lt)
 have X2 := lhd (X1.out.below hb hlt1)
 have F2 := lhd (F1.out.keep (.of hb hb1.out))
 have C2 := lhd (C1.out.below hb (Nat.le_refl _))
 have E2 := lhd (E1.out.trans (.of hb hb1.out))
 have hb2 := lhd (Nat.le_trans hb1.out hb.size)
 refine hK.out _ w2 XO2.out ?_
 clear hK K hb XO X1 F1 C1 E1 hb1 hlt1
 clear hL q6 q8 x
 intro x hL
 refine AnyTill.tk 10 (.tuple #[.agg #[.int .i64 (mT r), .slice Au nu cu], .int .i64 (f : Int)]) (wanted_none rfl) HFF hL (fun w9 hS9 => ?_) XO2.out ?_
 ·have q9 := hL.at_ 0 rfl
  rw [q9]
  (go_simp; try rfl)
 clear hL x
 intro x hL
 refine AnyTill.tk 11 (.agg #[.int .i64 (mT r), .slice Au nu cu]) (wanted_none rfl) HFF hL (fun w9 hS9 => ?_) XO2.out ?_
 ·have q10 := hL.at_ 0 rfl
  rw [q10]
  (go_simp; try rfl)
 clear hL x
 intro x hL
 refine AnyTill.tk 12 (.int .i64 (f : Int)) (wanted_none rfl) HFF hL (fun w9 hS9 => ?_) XO2.out ?_
 ·have q10 := hL.at_ 1 rfl
  rw [q10]
  (go_simp; try rfl)
 clear hL x
 intro x hL
 refine AnyTill.tk 13 (.pointer (some ⟨g, 0, none⟩)) (wanted_none rfl) HFF hL (fun w9 hS9 => ?_) XO2.out ?_
 ·have q0 := hL.at_ 12 rfl
  rw [q0]
  (go_simp; try rfl)
 clear hL x
 intro x hL
 refine AnyTill.tk 14 (.pointer (some ⟨g, 0, none⟩)) (wanted_none rfl) HFF hL (fun w9 hS9 => ?_) XO2.out ?_
 ·have q13 := hL.at_ 0 rfl
  rw [q13]
  (go_simp; try rfl)
 clear hL x
 intro x hL
 refine AnyTill.tk 15 (.pointer (some ⟨g, 1, none⟩)) (wanted_none rfl) HFF hL (fun w9 hS9 => ?_) XO2.out ?_
 ·have q14 := hL.at_ 0 rfl
  rw [q14]
  (go_simp; try rfl)
 clear hL x
 intro x hL
 have q15 := hL.at_ 0 rfl
 have q11 := hL.at_ 4 rfl
 refine AnyTill.store1 16 (by kernel_rfl) rfl HFF (g := g) (a := 1) (cs := (tnc (mT r) vN vS vW vL (noR o 0) nv vC)) (vs := [.int .i64 (mT r), .slice Au nu cu]) (u := 206) ⟨_, _, _, rfl, rfl, rfl, q15, .inl q11, szBkT, (book_one _ _ _ _)⟩ X2.out (by show 3 ≤ 12; decide) (fun w9 z1 z2 => XO2.out.same (z2 gO hgo.symm)) ?_
 intro w3 e1 e2 e3 e4
 clear q15 q11
 have X3 := lhd e1
 have F3 := lhd (F2.out.keep (.store X2.out (.inl rfl) hbg e2 e4))
 have C3 := lhd (C2.out.keep (T := fun e => e = 206) (.store X2.out rfl hbg e2 e4) (by decide))
 have G3 := lhd (G2.out.keep (.store X2.out (.inl rfl) hbg e2 e4) TT_se hab)
 have E3 := lhd (E2.out.trans (.store X2.out hbg e2 e3 e4))
 have hb3 := lhd (show b ≤ w3.heap.size by rw [e2]; exact hb2.out)
 have XO3 := lhd (XO2.out.same (e4 gO hgo.symm))
 clear e1 e2 e3 e4 X2 F2 C2 G2 E2 hb2 XO2
 have X3 : Hid (Blk w3 g (tnc (mT r) vN (.slice Au nu cu) vW vL (noR o 0) nv vC) 206) := X3.out
 refine AnyTill.tk 17 (.pointer (some ⟨g, 0, none⟩)) (wanted_none rfl) HFF hL (fun w9 hS9 => ?_) XO3.out ?_
 ·have q1 := hL.at_ 14 rfl
  rw [q1]
  (go_simp; try rfl)
 clear hL x
 intro x hL
 refine AnyTill.tk 18 (.pointer (some ⟨g, 5, none⟩)) (wanted_none rfl) HFF hL (fun w9 hS9 => ?_) XO3.out ?_
 ·have q17 := hL.at_ 0 rfl
  rw [q17]
  (go_simp; try rfl)
 clear hL x
 intro x hL
 refine AnyTill.tk 19 (.pointer (some ⟨g, 7, none⟩)) (wanted_none rfl) HFF hL (fun w9 hS9 => ?_) XO3.out ?_
 ·have q18 := hL.at_ 0 rfl
  rw [q18]
  (go_simp; try rfl)
 clear hL x
 intro x hL
 have q19 := hL.at_ 0 rfl
 have q12 := hL.at_ 6 rfl
 refine AnyTill.store1 20 (by kernel_rfl) rfl HFF (g := g) (a := 7) (cs := (tnc (mT r) vN (.slice Au nu cu) vW vL (noR o 0) nv vC)) (vs := [.int .i64 (f : Int)]) (u := 206) ⟨_, _, _, rfl, rfl, rfl, q19, .inr (by rw [show _ = _ from q12]; rfl), szErT, (one_of rfl)⟩ X3.out (by show 8 ≤ 12; decide) (fun w9 z1 z2 => XO3.out.same (z2 gO hgo.symm)) ?_
 intro w4 e1 e2 e3 e4
 clear q19 q12
 have X4 : Hid (Blk w4 g (tnc (mT r) vN (.slice Au nu cu) vW vL (oC o, oQ o, (f : Int), [], 0, []) nv vC) 206) := e1
 have F4 := lhd (F3.out.keep (.store X3.out (.inl rfl) hbg e2 e4))
 have C4 := lhd (C3.out.keep (T := fun e => e = 206) (.store X3.out rfl hbg e2 e4) (by decide))
 have G4 := lhd (G3.out.keep (.store X3.out (.inl rfl) hbg e2 e4) TT_se hab)
 have E4 := lhd (E3.out.trans (.store X3.out hbg e2 e3 e4))
 have hb4 := lhd (show b ≤ w4.heap.size by rw [e2]; exact hb3.out)
 have XO4 := lhd (XO3.out.same (e4 gO hgo.symm))
 clear e1 e2 e3 e4 X3 F3 C3 G3 E3 hb3 XO3
 refine AnyTill.done (by kernel_rfl) ?_
 refine NoPanic.normal ?_
 rw [HFF.out]
 try dsimp only
 clear hL HFF
 go_wp2
 refine ⟨rfl, _, results_none rfl _ _ _, ⟨_, rfl⟩, ?_, E4.out⟩
 rw [done7 r o hk]
 unfold ofR rep
 rw [HF.out]
 exact ⟨vN, (.slice Au nu cu), vW, vL, nv, vC, X4.out, ⟨F4.out.n, G4.out, F4.out.t, F4.out.l, F4.out.x, hab⟩, C4.out, hbg⟩
theorem tnDelete_any (a b g : Nat) (o : Or) (r : Rm) (w : World) (hR : RightR r) (h : TnP a b g w r (noR o 0) []) (_hi : fitI (oS o)) (hk : oK o = 4) :
 Calls Tryz.prog 151 #[.pointer (some ⟨g, 0, none⟩), .agg (orc o).toArray] w (TnQ a b g (doneR r o).1 (ofR o (doneR r o).2.1) (doneR r o).2.2 w) := by
 obtain ⟨vN, vS, vW, vL, nv, vC, hX, hF, hC, hbg⟩ := h
 have hab := hF.ab
 have X := lhd hX
 have F := lhd hF
 have C := lhd hC
 have hlt := hX.lt
 have HR := lhd hR
 clear hX hF hC hR
 go_enter Tryz.func151, Tryz.ntmps151
 go_wp2_with (refine wpList_box_blk rfl 86 _ rfl (orc o) rfl ?_)
 intro w1 b1 b2 b3
 obtain ⟨gO, hgO⟩ : ∃ q, w.heap.size = q := ⟨_, rfl⟩
 have hbO : b ≤ w.heap.size := by omega
 have hgo : g ≠ gO := by omega
 have hb1 := lhd (show b ≤ w1.heap.size by omega)
 have XO := lhd b1
 have X1 := lhd (X.out.below b3 hlt)
 have F1 := lhd (F.out.keep (.of b3 hbO))
 have C1 := lhd (C.out.below b3 (Nat.le_refl _))
 have E1 := lhd (Kp.of b3 hbO)
 have hlt1 := X1.out.lt
 rw [hgO] at XO ⊢
 clear b1 b2 b3 X F C hgO hlt hbO
 obtain ⟨f, hf⟩ : ∃ f : Nat, delE (mN r) (oP o) (oR o) = f := ⟨_, rfl⟩
 have HF := lhd hf
 clear hf
 have XO := lhd XO.out.drew
 have X1 := lhd X1.out.drew
 have F1 := lhd (F1.out.keep (.of (Below.refl _ _).drew hb1.out))
 have C1 := lhd (C1.out.below ((Below.refl w1.heap.size w1).drew) (Nat.le_refl _))
 have E1 := lhd (E1.out.trans (.of (Below.refl _ _).drew hb1.out))
 have hb1 : Hid (b ≤ w1.drew.heap.size) := hb1.out
 have hlt1 : g < w1.drew.heap.size := X1.out.lt
 go_wp2
 obtain ⟨FF, hF⟩ : ∃ F : (Nat → Value) → Act, F = fun x => ⟨#[.pointer (some ⟨g, 0, none⟩), .agg (orc o).toArray, undef, .pointer (some ⟨gO, 0, none⟩), x 12, x 0, x 1, x 2, x 3, x 4, x 5, x 6, x 7, x 8, x 9, x 10, x 11, x 13, x 14, x 15, x 16, x 17, x 19, x 20, x 21, undef, undef, undef, undef], []⟩ := ⟨_, rfl⟩
 have HFF := lhd hF
 refine wp_region_tillK 23 FF (fun k => [undef, undef, undef, undef, undef, undef, undef, undef, undef, undef, undef, undef, undef, undef, undef, undef, undef, undef, undef, undef, undef, undef, undef].getD k undef) (fun w9 => Blk w9 gO (orc o) 86) (by rw [hF]; rfl) rfl (by kernel_rfl) ?_
 intro x hL
 clear hF
 obtain ⟨wA, hwA⟩ : ∃ q, w1.drew = q := ⟨_, rfl⟩
 rw [hwA] at XO X1 F1 C1 E1 hb1 hlt1 ⊢
 clear hwA
 refine AnyTill.tk 0 (.pointer (some ⟨g, 0, none⟩)) (wanted_none rfl) HFF hL (fun w9 hS9 => ?_) XO.out ?_
 ·(go_simp; try rfl)
 clear hL x
 intro x hL
 refine AnyTill.tk 1 (.pointer (some ⟨g, 0, none⟩)) (wanted_none rfl) HFF hL (fun w9 hS9 => ?_) XO.out ?_
 ·(go_simp; try rfl)
 clear hL x
 intro x hL
 refine AnyTill.tk 2 (.pointer (some ⟨g, 0, none⟩)) (wanted_none rfl) HFF hL (fun w9 hS9 => ?_) XO.out ?_
 ·(go_simp; try rfl)
 clear hL x
 intro x hL
 refine AnyTill.tk 3 (.pointer (some ⟨g, 0, none⟩)) (wanted_none rfl) HFF hL (fun w9 hS9 => ?_) XO.out ?_
 ·have q2 := hL.at_ 0 rfl
  rw [q2]
  (go_simp; try rfl)
 clear hL x
 intro x hL
 refine AnyTill.tk 4 (.pointer (some ⟨g, 0, none⟩)) (wanted_none rfl) HFF hL (fun w9 hS9 => ?_) XO.out ?_
 ·have q3 := hL.at_ 0 rfl
  rw [q3]
  (go_simp; try rfl)
 clear hL x
 intro x hL
 refine AnyTill.tk 5 (.pointer (some ⟨g, 0, none⟩)) (wanted_none rfl) HFF hL (fun w9 hS9 => ?_) XO.out ?_
 ·have q4 := hL.at_ 0 rfl
  rw [q4]
  (go_simp; try rfl)
 clear hL x
 intro x hL
 refine AnyTill.tk 7 (.pointer (some ⟨gO, 3, none⟩)) (wanted_none rfl) HFF hL (fun w9 hS9 => ?_) XO.out ?_
 ·(go_simp; try rfl)
 clear hL x
 intro x hL
 refine AnyTill.tk 8 (txt (oP o)) (wanted_none rfl) HFF hL (fun w9 hS9 => ?_) XO.out ?_
 ·have q7 := hL.at_ 0 rfl
  rw [q7]
  have cc := hS9.at_ 3 _ rfl
  (go_simp; try rfl)
 clear hL x
 intro x hL
 refine AnyTill.tk 9 (.pointer (some ⟨gO, 5, none⟩)) (wanted_none rfl) HFF hL (fun w9 hS9 => ?_) XO.out ?_
 ·(go_simp; try rfl)
 clear hL x
 intro x hL
 refine AnyTill.tk 10 (.int .i64 (oR o)) (wanted_none rfl) HFF hL (fun w9 hS9 => ?_) XO.out ?_
 ·have q9 := hL.at_ 0 rfl
  rw [q9]
  have cc := hS9.at_ 5 _ rfl
  (go_simp; try rfl)
 clear hL x
 intro x hL
 refine AnyTill.oneK 6 (by kernel_rfl) rfl HFF (wanted_none rfl) (fun _ _ => rfl) hL rfl (fun K hK => ?_)
 have q5 := lhd (hL.at_ 4 rfl)
 obtain ⟨d9, hu9, hd9⟩ := rowShT
 refine wp_load_part 41 _ rfl g 0 (tnc (mT r) vN vS vW vL (noR o 0) nv vC) [vN] 206 q5.out X1.out rfl hu9 hd9 szShT ?_
 refine hK.out _ _ XO.out ?_
 clear hK K
 clear hL q5 x
 intro x hL
 refine AnyTill.oneK 11 (by kernel_rfl) rfl HFF (wanted_none rfl) (fun _ _ => rfl) hL rfl (fun K hK => ?_)
 have q6 := lhd (hL.at_ 0 rfl)
 have q8 := lhd (hL.at_ 3 rfl)
 have q10 := lhd (hL.at_ 1 rfl)
 go_simp
 refine calls_args (args2 := #[.agg #[vN], txt (oP o), .int .i64 (oR o)]) (by rw [q6.out, q8.out, q10.out]) ?_
 refine (shDel_own (mN r) (oP o) (oR o) vN wA F1.out.n.1 (by have := HR.out.n.few; omega)).mono ?_
 rintro e w2 ⟨u, rfl, hr, ho, hb⟩
 rw [HF.out]
 have G2 := lhd (F1.out.n.next hr.toE (ho.imp id OwnNd.toE) hb (Nat.le_trans hab hb1.out))
 obtain ⟨Au, cu, hu, -, -⟩ := hr.shape
 obtain ⟨nu, hnu⟩ : ∃ q, (delS (mN r) (oP o) (oR o)).length = q := ⟨_, rfl⟩
 rw [hnu] at hu
 clear hnu
 subst hu
 clear hr ho
 have XO2 := lhd (XO.out.below hb XO.out.lt)
 have X2 := lhd (X1.out.below hb hlt1)
 have F2 := lhd (F1.out.keep (.of hb hb1.out))
 have C2 := lhd (C1.out.below hb (Nat.le_refl _))
 have E2 := lhd (E1.out.trans (.of hb hb1.out))
 have hb2 := lhd (Nat.le_trans hb1.out hb.size)
 refine hK.out _ w2 XO2.out ?_
 clear hK K hb XO X1 F1 C1 E1 hb1 hlt1
 clear hL q6 q8 q10 x
 intro x hL
 refine AnyTill.tk 12 (.tuple #[.agg #[.slice Au nu cu], .int .i64 (f : Int)]) (wanted_none rfl) HFF hL (fun w9 hS9 => ?_) XO2.out ?_
 ·have q11 := hL.at_ 0 rfl
  rw [q11]
  (go_simp; try rfl)
 clear hL x
 intro x hL
 refine AnyTill.tk 13 (.agg #[.slice Au nu cu]) (wanted_none rfl) HFF hL (fun w9 hS9 => ?_) XO2.out ?_
 ·have q12 := hL.at_ 0 rfl
  rw [q12]
  (go_simp; try rfl)
 clear hL x
 intro x hL
 refine AnyTill.tk 14 (.int .i64 (f : Int)) (wanted_none rfl) HFF hL (fun w9 hS9 => ?_) XO2.out ?_
 ·have q12 := hL.at_ 1 rfl
  rw [q12]
  (go_simp; try rfl)
 clear hL x
 intro x hL
 refine AnyTill.tk 15 (.pointer (some ⟨g, 0, none⟩)) (wanted_none rfl) HFF hL (fun w9 hS9 => ?_) XO2.out ?_
 ·have q0 := hL.at_ 14 rfl
  rw [q0]
  (go_simp; try rfl)
 clear hL x
 intro x hL
 refine AnyTill.tk 16 (.pointer (some ⟨g, 0, none⟩)) (wanted_none rfl) HFF hL (fun w9 hS9 => ?_) XO2.out ?_
 ·have q15 := hL.at_ 0 rfl
  rw [q15]
  (go_simp; try rfl)
 clear hL x
 intro x hL
 refine AnyTill.tk 17 (.pointer (some ⟨g, 0, none⟩)) (wanted_none rfl) HFF hL (fun w9 hS9 => ?_) XO2.out ?_
 ·have q16 := hL.at_ 0 rfl
  rw [q16]
  (go_simp; try rfl)
 clear hL x
 intro x hL
 have q17 := hL.at_ 0 rfl
 have q13 := hL.at_ 4 rfl
 refine AnyTill.store1 18 (by kernel_rfl) rfl HFF (g := g) (a := 0) (cs := (tnc (mT r) vN vS vW vL (noR o 0) nv vC)) (vs := [.slice Au nu cu]) (u := 206) ⟨_, _, _, rfl, rfl, rfl, q17, .inl q13, szShT, (one_of rfl)⟩ X2.out (by show 1 ≤ 12; decide) (fun w9 z1 z2 => XO2.out.same (z2 gO hgo.symm)) ?_
 intro w3 e1 e2 e3 e4
 clear q17 q13
 have X3 := lhd e1
 have F3 := lhd (F2.out.keep (.store X2.out (.inl rfl) hbg e2 e4))
 have C3 := lhd (C2.out.keep (T := fun e => e = 206) (.store X2.out rfl hbg e2 e4) (by decide))
 have G3 := lhd (G2.out.keep (.store X2.out (.inl rfl) hbg e2 e4) TT_nd hab)
 have E3 := lhd (E2.out.trans (.store X2.out hbg e2 e3 e4))
 have hb3 := lhd (show b ≤ w3.heap.size by rw [e2]; exact hb2.out)
 have XO3 := lhd (XO2.out.same (e4 gO hgo.symm))
 clear e1 e2 e3 e4 X2 F2 C2 G2 E2 hb2 XO2
 have X3 : Hid (Blk w3 g (tnc (mT r) (.slice Au nu cu) vS vW vL (noR o 0) nv vC) 206) := X3.out
 refine AnyTill.tk 19 (.pointer (some ⟨g, 0, none⟩)) (wanted_none rfl) HFF hL (fun w9 hS9 => ?_) XO3.out ?_
 ·have q1 := hL.at_ 16 rfl
  rw [q1]
  (go_simp; try rfl)
 clear hL x
 intro x hL
 refine AnyTill.tk 20 (.pointer (some ⟨g, 5, none⟩)) (wanted_none rfl) HFF hL (fun w9 hS9 => ?_) XO3.out ?_
 ·have q19 := hL.at_ 0 rfl
  rw [q19]
  (go_simp; try rfl)
 clear hL x
 intro x hL
 refine AnyTill.tk 21 (.pointer (some ⟨g, 7, none⟩)) (wanted_none rfl) HFF hL (fun w9 hS9 => ?_) XO3.out ?_
 ·have q20 := hL.at_ 0 rfl
  rw [q20]
  (go_simp; try rfl)
 clear hL x
 intro x hL
 have q21 := hL.at_ 0 rfl
 have q14 := hL.at_ 6 rfl
 refine AnyTill.store1 22 (by kernel_rfl) rfl HFF (g := g) (a := 7) (cs := (tnc (mT r) (.slice Au nu cu) vS vW vL (noR o 0) nv vC)) (vs := [.int .i64 (f : Int)]) (u := 206) ⟨_, _, _, rfl, rfl, rfl, q21, .inr (by rw [show _ = _ from q14]; rfl), szErT, (one_of rfl)⟩ X3.out (by show 8 ≤ 12; decide) (fun w9 z1 z2 => XO3.out.same (z2 gO hgo.symm)) ?_
 intro w4 e1 e2 e3 e4
 clear q21 q14
 have X4 : Hid (Blk w4 g (tnc (mT r) (.slice Au nu cu) vS vW vL (oC o, oQ o, (f : Int), [], 0, []) nv vC) 206) := e1
 have F4 := lhd (F3.out.keep (.store X3.out (.inl rfl) hbg e2 e4))
 have C4 := lhd (C3.out.keep (T := fun e => e = 206) (.store X3.out rfl hbg e2 e4) (by decide))
 have G4 := lhd (G3.out.keep (.store X3.out (.inl rfl) hbg e2 e4) TT_nd hab)
 have E4 := lhd (E3.out.trans (.store X3.out hbg e2 e3 e4))
 have hb4 := lhd (show b ≤ w4.heap.size by rw [e2]; exact hb3.out)
 have XO4 := lhd (XO3.out.same (e4 gO hgo.symm))
 clear e1 e2 e3 e4 X3 F3 C3 G3 E3 hb3 XO3
 refine AnyTill.done (by kernel_rfl) ?_
 refine NoPanic.normal ?_
 rw [HFF.out]
 try dsimp only
 clear hL HFF
 have HT := lhd (show TnP a b g w4 ((delS (mN r) (oP o) (oR o)), mT r, mS r, mW r, mL r) (oC o, oQ o, (f : Int), [], 0, []) [] from ⟨(.slice Au nu cu), vS, vW, vL, nv, vC, X4.out, ⟨G4.out, F4.out.s, F4.out.t, F4.out.l, F4.out.x, hab⟩, C4.out, hbg⟩)
 have cp := XO4.out.at_ 3 _ rfl
 clear X4 F4 C4 G4
 go_wp2_with fail
 refine (tnChanged_any a b g 3 (oP o) ((delS (mN r) (oP o) (oR o)), mT r, mS r, mW r, mL r) (oC o, oQ o, (f : Int), [], 0, []) [] w4 HT.out (by simp)).mono ?_
 rintro e w5 ⟨⟨vq, rfl⟩, hT, hb⟩
 have HT5 := lhd hT
 have E5 := lhd (E4.out.trans hb)
 have XO5 := lhd (XO4.out.keepT hb.k TT_or)
 clear hT hb cp HT E4 XO4
 go_wp2
 refine ⟨rfl, _, results_none rfl _ _ _, ⟨_, rfl⟩, ?_, E5.out⟩
 have HQ := HT5.out
 rw [done4 r o hk]
 unfold ofR rep
 rw [HF.out]
 unfold noteR at HQ
 by_cases hf : f = 0
 ·rw [if_pos (show pE (oC o, oQ o, (f : Int), [], 0, []) = 0 by subst hf; rfl)] at HQ
  rw [if_pos hf]
  exact HQ
 ·rw [if_neg (show ¬ pE (oC o, oQ o, (f : Int), [], 0, []) = 0 from fun e => hf (Int.ofNat.inj e))] at HQ
  rw [if_neg hf]
  exact HQ
theorem tnDrop_any (a b g : Nat) (z : Int) (r : Rm) (x0 : Rp) (cs : List Ch) (w : World) (h : TnP a b g w r x0 cs) (hx : pE x0 = 0) (hl : cs.length + (mN r).length ≤ 50000) :
 Calls Tryz.prog 185 #[.pointer (some ⟨g, 0, none⟩), .int .i64 z] w (TnQ a b g (dropS (mN r) z, mT r, mS r, mW r, mL r) x0 (cs ++ (goneN (mN r) z).map (fun p => ((3 : Int), p))) w) := by
 obtain ⟨vN, vS, vW, vL, nv, vC, hX, hF, hC, hbg⟩ := h
 have hab := hF.ab
 have X1 := lhd hX
 have F1 := lhd hF
 have C1 := lhd hC
 have HL := lhd hl
 have hlt1 := hX.lt
 have HX0 := lhd hx
 have hb1 := lhd (show b ≤ w.heap.size by omega)
 have E1 := lhd (Kp.of (Below.refl w.heap.size w) hb1.out)
 clear hX hF hC hl hx
 go_enter Tryz.func185, Tryz.ntmps185
 obtain ⟨d9, hu9, hd9⟩ := rowShT
 go_wp2_with (refine wpList_load_part rfl 41 _ rfl g 0 (tnc (mT r) vN vS vW vL x0 nv vC) [vN] 206 rfl X1.out rfl hu9 hd9 szShT ?_)
 go_wp2_with fail
 refine (shDrop_own (mN r) z vN w F1.out.n.1 (by have := HL.out; omega)).mono ?_
 rintro e w2 ⟨u, p, rfl, hou, hop, hb⟩
 have G2 := lhd (GoE.own hou.toE (Nat.le_trans hab hb1.out))
 have P2 := lhd (GoE.own hop.toE (Nat.le_trans hab hb1.out))
 obtain ⟨Au, cu, hu, -, -⟩ := hou.rd.shape
 obtain ⟨nu, hnu⟩ : ∃ q, (dropS (mN r) z).length = q := ⟨_, rfl⟩
 rw [hnu] at hu
 obtain ⟨Ap, cp, hp, hcp, hcm⟩ := hop.rd.shape
 obtain ⟨np, hnp⟩ : ∃ q, (bas (goneN (mN r) z)).length = q := ⟨_, rfl⟩
 rw [hnp] at hp hcp
 have NP := lhd hnp
 unfold maxLen at hcm
 clear hnu hnp
 subst hu
 subst hp
 clear hou hop
 have X2 := lhd (X1.out.below hb hlt1)
 have F2 := lhd (F1.out.keep (.of hb hb1.out))
 have C2 := lhd (C1.out.below hb (Nat.le_refl _))
 have E2 := lhd (E1.out.trans (.of hb hb1.out))
 have hb2 := lhd (Nat.le_trans hb1.out hb.size)
 clear hb X1 F1 C1 E1 hb1 hlt1
 go_wp2_with (refine wpList_store_part rfl 41 _ _ rfl g 0 (tnc (mT r) vN vS vW vL x0 nv vC) [.slice Au nu cu] 206 rfl rfl X2.out szShT (by show 1 ≤ 12; decide) (one_of rfl) ?_)
 intro w3 e1 e2 e3 e4
 have X3 : Hid (Blk w3 g (tnc (mT r) (.slice Au nu cu) vS vW vL x0 nv vC) 206) := e1
 have F3 := lhd (F2.out.keep (.store X2.out (.inl rfl) hbg e2 e4))
 have C3 := lhd (C2.out.keep (T := fun e => e = 206) (.store X2.out rfl hbg e2 e4) (by decide))
 have G3 := lhd (G2.out.keep (.store X2.out (.inl rfl) hbg e2 e4) TT_nd hab)
 have P3 := lhd (P2.out.keep (.store X2.out (.inl rfl) hbg e2 e4) TT_st hab)
 have E3 := lhd (E2.out.trans (.store X2.out hbg e2 e3 e4))
 have hb3 := lhd (show b ≤ w3.heap.size by rw [e2]; exact hb2.out)
 clear e1 e2 e3 e4 X2 F2 C2 G2 P2 E2 hb2
 obtain ⟨R, hR⟩ : ∃ q : Rm, (dropS (mN r) z, mT r, mS r, mW r, mL r) = q := ⟨_, rfl⟩
 have HT : Hid (TnP a b g w3 R x0 (cs ++ ((goneN (mN r) z).take 0).map (fun p => ((3 : Int), p)))) := by
  show TnP _ _ _ _ _ _ _
  rw [← hR, List.take_zero, List.map_nil, List.append_nil]
  exact ⟨(.slice Au nu cu), vS, vW, vL, nv, vC, X3.out, ⟨G3.out, F3.out.s, F3.out.t, F3.out.l, F3.out.x, hab⟩, C3.out, hbg⟩
 have HR := lhd hR
 have NL : Hid ((goneN (mN r) z).length = np) := by
  have h1 := NP.out
  unfold bas at h1
  rw [List.length_map] at h1
  exact h1
 have NG : Hid ((goneN (mN r) z).length ≤ (mN r).length) := by
  show _ ≤ _
  unfold goneN
  rw [List.length_map]
  exact List.length_filter_le _ _
 obtain ⟨ps, hps⟩ : ∃ q, goneN (mN r) z = q := ⟨_, rfl⟩
 rw [hps] at HT P3 NL NG
 have HPS := lhd hps
 have hn9 : np ≤ 50000 := by have := HL.out; have := NG.out; have := NL.out; omega
 clear X3 F3 C3 G3 hR hps NP hcp hcm
 go_wp2
 go_loopw [23] (fun y wr => ∃ k : Nat, k ≤ np ∧ y = .int .i64 (k : Int) ∧ Hid (TnP a b g wr R x0 (cs ++ (ps.take k).map (fun p => ((3 : Int), p)))) ∧ Hid (Kp b w3 wr)) (fun y _ => np - (intOf y).toNat)
 case atStart => exact ⟨0, Nat.zero_le _, rfl, HT, lhd (Kp.of (Below.refl _ _) hb3.out)⟩
 case round =>
  obtain ⟨k, hk, rfl, HT1, HK⟩ := hrel
  clear HT
  by_cases hkn : k < np
  ·have zi : (k : Int) < (np : Int) := by omega
   have hkp : k < ps.length := by rw [NL.out]; exact hkn
   obtain ⟨aP, hA, hc0⟩ := (RdS.ofE (P3.out.keep HK.out.k TT_st hab).1).at_ k (by unfold bas; rw [List.length_map]; exact hkp)
   subst hA
   have hc : wr.cell? (aP.add k) = some (txt ps[k]) := by
    rw [hc0]
    unfold bas
    rw [List.getElem_map]
   clear hc0
   have HS : Hid (ps.take (k + 1) = ps.take k ++ [ps[k]]) := List.take_succ_eq_append_getElem hkp
   obtain ⟨q, hq⟩ : ∃ q, ps[k] = q := ⟨_, rfl⟩
   rw [hq] at hc HS
   clear hq
   go_wp2_with fail
   refine (tnChanged_any a b g 3 q R x0 _ wr HT1.out (by have h1 := HL.out; have h2 := NG.out; rw [List.length_append, List.length_map, List.length_take]; omega)).mono ?_
   rintro e w5 ⟨⟨vq, rfl⟩, hT, hb⟩
   have HT5 : Hid (TnP a b g w5 R x0 (cs ++ (ps.take (k + 1)).map (fun p => ((3 : Int), p)))) := by
    show TnP _ _ _ _ _ _ _
    rw [HS.out, List.map_append, ← List.append_assoc]
    rw [noteR, if_pos HX0.out] at hT
    exact hT
   have HK5 := lhd (HK.out.trans hb)
   clear hT hb HT1 HK hc
   go_wp2
   go_roundw
   case rel => exact ⟨k + 1, by omega, by go_num, HT5, HK5⟩
   case measure => simp [intOf]; omega
  ·obtain rfl : k = np := by omega
   go_wp2
   refine ⟨rfl, _, results_none rfl _ _ _, ⟨_, rfl⟩, ?_, E3.out.trans HK.out⟩
   have h1 := HT1.out
   rw [List.take_of_length_le (by rw [NL.out]; exact Nat.le_refl _)] at h1
   rw [HR.out, HPS.out]
   exact h1
end Go.Proofs.YtgfobinklijkpaaGreatDoor
