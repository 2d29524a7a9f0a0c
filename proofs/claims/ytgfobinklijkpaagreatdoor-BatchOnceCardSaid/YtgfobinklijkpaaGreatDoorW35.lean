/-
  Texts IX K3.
-/
import Derived.Test.YtgfobinklijkpaaGreatDoorW01
import Derived.Test.YtgfobinklijkpaaGreatDoorW12
import Derived.Test.YtgfobinklijkpaaGreatDoorW21
import Derived.Test.YtgfobinklijkpaaGreatDoorW26
import Derived.Test.YtgfobinklijkpaaGreatDoorW31
import Derived.Test.YtgfobinklijkpaaGreatDoorW32
namespace Go.Proofs.YtgfobinklijkpaaGreatDoor
set_option maxRecDepth 100000
set_option maxHeartbeats 16000000
open Go.RowKit
theorem tnList_any (a b g : Nat) (o : Or) (r : Rm) (w : World) (hR : RightR r) (h : TnP a b g w r (noR o 0) []) (_hi : fitI (oS o)) (hk : oK o = 5) :
 Calls Tryz.prog 152 #[.pointer (some ⟨g, 0, none⟩), .agg (orc o).toArray] w (TnQ a b g (doneR r o).1 (ofR o (doneR r o).2.1) (doneR r o).2.2 w) := by
 obtain ⟨vN, vS, vW, vL, nv, vC, hX, hF, hC, hbg⟩ := h
 have hab := hF.ab
 have X := lhd hX
 have F := lhd hF
 have C := lhd hC
 have hlt := hX.lt
 have HR := lhd hR
 clear hX hF hC hR
 go_enter Tryz.func152, Tryz.ntmps152
 go_wp2_with (refine wpList_box_blk rfl 86 _ rfl (orc o) rfl ?_)
 intro w1 b1 b2 b3
 obtain ⟨gO, hgO⟩ : ∃ q, w.heap.size = q := ⟨_, rfl⟩
 have hbO : b ≤ w.heap.size := by omega
 have hgo : g ≠ gO := by omega
 have hb1 := lhd (show b ≤ w1.heap.size by omega)
 have XO := lhd b1
 have X1 := lhd (X.out.below b3 hlt)
 have F1 := lhd (F.out.keep (.of b3 hbO))
 have C1 := lhd (C.out.below b3 (Nat.le_refl _))
 have E1 := lhd (Kp.of b3 hbO)
 have hlt1 := X1.out.lt
 rw [hgO] at XO ⊢
 clear b1 b2 b3 X F C hgO hlt hbO
 obtain ⟨f, hf⟩ : ∃ f : Nat, getE (mN r) (oP o) = f := ⟨_, rfl⟩
 have HF := lhd hf
 clear hf
 have XO := lhd XO.out.drew
 have X1 := lhd X1.out.drew
 have F1 := lhd (F1.out.keep (.of (Below.refl _ _).drew hb1.out))
 have C1 := lhd (C1.out.below ((Below.refl w1.heap.size w1).drew) (Nat.le_refl _))
 have E1 := lhd (E1.out.trans (.of (Below.refl _ _).drew hb1.out))
 have hb1 : Hid (b ≤ w1.drew.heap.size) := hb1.out
 have hlt1 : g < w1.drew.heap.size := X1.out.lt
 go_wp2
 obtain ⟨FF, hF⟩ : ∃ F : (Nat → Value) → Act, F = fun x => ⟨#[.pointer (some ⟨g, 0, none⟩), .agg (orc o).toArray, undef, .pointer (some ⟨gO, 0, none⟩), x 10, x 0, x 1, x 2, x 3, x 4, x 5, x 6, x 7, x 8, x 9, x 11, x 12, x 13, x 14, x 15, x 17, x 18, x 19], []⟩ := ⟨_, rfl⟩
 have HFF := lhd hF
 refine wp_region_tillK 21 FF (fun k => [undef, undef, undef, undef, undef, undef, undef, undef, undef, undef, undef, undef, undef, undef, undef, undef, undef, undef, undef, undef, undef].getD k undef) (fun w9 => Blk w9 gO (orc o) 86) (by rw [hF]; rfl) rfl (by kernel_rfl) ?_
 intro x hL
 clear hF
 obtain ⟨wA, hwA⟩ : ∃ q, w1.drew = q := ⟨_, rfl⟩
 rw [hwA] at XO X1 F1 C1 E1 hb1 hlt1 ⊢
 clear hwA
 refine AnyTill.tk 0 (.pointer (some ⟨g, 0, none⟩)) (wanted_none rfl) HFF hL (fun w9 hS9 => ?_) XO.out ?_
 ·(go_simp; try rfl)
 clear hL x
 intro x hL
 refine AnyTill.tk 1 (.pointer (some ⟨g, 0, none⟩)) (wanted_none rfl) HFF hL (fun w9 hS9 => ?_) XO.out ?_
 ·(go_simp; try rfl)
 clear hL x
 intro x hL
 refine AnyTill.tk 2 (.pointer (some ⟨g, 0, none⟩)) (wanted_none rfl) HFF hL (fun w9 hS9 => ?_) XO.out ?_
 ·(go_simp; try rfl)
 clear hL x
 intro x hL
 refine AnyTill.tk 3 (.pointer (some ⟨g, 0, none⟩)) (wanted_none rfl) HFF hL (fun w9 hS9 => ?_) XO.out ?_
 ·have q2 := hL.at_ 0 rfl
  rw [q2]
  (go_simp; try rfl)
 clear hL x
 intro x hL
 refine AnyTill.tk 4 (.pointer (some ⟨g, 0, none⟩)) (wanted_none rfl) HFF hL (fun w9 hS9 => ?_) XO.out ?_
 ·have q3 := hL.at_ 0 rfl
  rw [q3]
  (go_simp; try rfl)
 clear hL x
 intro x hL
 refine AnyTill.tk 5 (.pointer (some ⟨g, 0, none⟩)) (wanted_none rfl) HFF hL (fun w9 hS9 => ?_) XO.out ?_
 ·have q4 := hL.at_ 0 rfl
  rw [q4]
  (go_simp; try rfl)
 clear hL x
 intro x hL
 refine AnyTill.tk 7 (.pointer (some ⟨gO, 3, none⟩)) (wanted_none rfl) HFF hL (fun w9 hS9 => ?_) XO.out ?_
 ·(go_simp; try rfl)
 clear hL x
 intro x hL
 refine AnyTill.tk 8 (txt (oP o)) (wanted_none rfl) HFF hL (fun w9 hS9 => ?_) XO.out ?_
 ·have q7 := hL.at_ 0 rfl
  rw [q7]
  have cc := hS9.at_ 3 _ rfl
  (go_simp; try rfl)
 clear hL x
 intro x hL
 refine AnyTill.oneK 6 (by kernel_rfl) rfl HFF (wanted_none rfl) (fun _ _ => rfl) hL rfl (fun K hK => ?_)
 have q5 := lhd (hL.at_ 2 rfl)
 obtain ⟨d9, hu9, hd9⟩ := rowShT
 refine wp_load_part 41 _ rfl g 0 (tnc (mT r) vN vS vW vL (noR o 0) nv vC) [vN] 206 q5.out X1.out rfl hu9 hd9 szShT ?_
 refine hK.out _ _ XO.out ?_
 clear hK K
 clear hL q5 x
 intro x hL
 refine AnyTill.oneK 9 (by kernel_rfl) rfl HFF (wanted_none rfl) (fun _ _ => rfl) hL rfl (fun K hK => ?_)
 have q6 := lhd (hL.at_ 0 rfl)
 have q8 := lhd (hL.at_ 1 rfl)
 go_simp
 refine calls_args (args2 := #[.agg #[vN], txt (oP o)]) (by rw [q6.out, q8.out]) ?_
 refine (shList_any (mN r) (oP o) vN wA F1.out.n.1 (by have := HR.out.n.few; omega)).mono ?_
 rintro e w2 ⟨u, rfl, ho, hb⟩
 rw [HF.out]
 have G2 := lhd (GoE.own ho.toE (Nat.le_trans hab hb1.out))
 obtain ⟨Au, cu, hu, -, -⟩ := ho.rd.shape
 obtain ⟨nu, hnu⟩ : ∃ q, (bas (listS (mN r) (oP o))).length = q := ⟨_, rfl⟩
 rw [hnu] at hu
 clear hnu
 subst hu
 clear ho
 have XO2 := lhd (XO.out.below hb XO.out.lt)
 have X2 := lhd (X1.out.below hb hlt1)
 have F2 := lhd (F1.out.keep (.of hb hb1.out))
 have C2 := lhd (C1.out.below hb (Nat.le_refl _))
 have E2 := lhd (E1.out.trans (.of hb hb1.out))
 have hb2 := lhd (Nat.le_trans hb1.out hb.size)
 refine hK.out _ w2 XO2.out ?_
 clear hK K hb XO X1 F1 C1 E1 hb1 hlt1
 clear hL q6 q8 x
 intro x hL
 refine AnyTill.tk 10 (.tuple #[.slice Au nu cu, .int .i64 (f : Int)]) (wanted_none rfl) HFF hL (fun w9 hS9 => ?_) XO2.out ?_
 ·have q9 := hL.at_ 0 rfl
  rw [q9]
  (go_simp; try rfl)
 clear hL x
 intro x hL
 refine AnyTill.tk 11 (.slice Au nu cu) (wanted_none rfl) HFF hL (fun w9 hS9 => ?_) XO2.out ?_
 ·have q10 := hL.at_ 0 rfl
  rw [q10]
  (go_simp; try rfl)
 clear hL x
 intro x hL
 refine AnyTill.tk 12 (.int .i64 (f : Int)) (wanted_none rfl) HFF hL (fun w9 hS9 => ?_) XO2.out ?_
 ·have q10 := hL.at_ 1 rfl
  rw [q10]
  (go_simp; try rfl)
 clear hL x
 intro x hL
 refine AnyTill.tk 13 (.pointer (some ⟨g, 0, none⟩)) (wanted_none rfl) HFF hL (fun w9 hS9 => ?_) XO2.out ?_
 ·have q0 := hL.at_ 12 rfl
  rw [q0]
  (go_simp; try rfl)
 clear hL x
 intro x hL
 refine AnyTill.tk 14 (.pointer (some ⟨g, 5, none⟩)) (wanted_none rfl) HFF hL (fun w9 hS9 => ?_) XO2.out ?_
 ·have q13 := hL.at_ 0 rfl
  rw [q13]
  (go_simp; try rfl)
 clear hL x
 intro x hL
 refine AnyTill.tk 15 (.pointer (some ⟨g, 10, none⟩)) (wanted_none rfl) HFF hL (fun w9 hS9 => ?_) XO2.out ?_
 ·have q14 := hL.at_ 0 rfl
  rw [q14]
  (go_simp; try rfl)
 clear hL x
 intro x hL
 have q15 := hL.at_ 0 rfl
 have q11 := hL.at_ 4 rfl
 refine AnyTill.store1 16 (by kernel_rfl) rfl HFF (g := g) (a := 10) (cs := (tnc (mT r) vN vS vW vL (noR o 0) nv vC)) (vs := [.slice Au nu cu]) (u := 206) ⟨_, _, _, rfl, rfl, rfl, q15, .inr (by rw [show _ = _ from q11]; rfl), szNaT, (one_of rfl)⟩ X2.out (by show 11 ≤ 12; decide) (fun w9 z1 z2 => XO2.out.same (z2 gO hgo.symm)) ?_
 intro w3 e1 e2 e3 e4
 clear q15 q11
 have X3 := lhd e1
 have F3 := lhd (F2.out.keep (.store X2.out (.inl rfl) hbg e2 e4))
 have C3 := lhd (C2.out.keep (T := fun e => e = 206) (.store X2.out rfl hbg e2 e4) (by decide))
 have G3 := lhd (G2.out.keep (.store X2.out (.inl rfl) hbg e2 e4) TT_st hab)
 have E3 := lhd (E2.out.trans (.store X2.out hbg e2 e3 e4))
 have hb3 := lhd (show b ≤ w3.heap.size by rw [e2]; exact hb2.out)
 have XO3 := lhd (XO2.out.same (e4 gO hgo.symm))
 clear e1 e2 e3 e4 X2 F2 C2 G2 E2 hb2 XO2
 have X3 : Hid (Blk w3 g (tnc (mT r) vN vS vW vL (noR o 0) (.slice Au nu cu) vC) 206) := X3.out
 refine AnyTill.tk 17 (.pointer (some ⟨g, 0, none⟩)) (wanted_none rfl) HFF hL (fun w9 hS9 => ?_) XO3.out ?_
 ·have q1 := hL.at_ 14 rfl
  rw [q1]
  (go_simp; try rfl)
 clear hL x
 intro x hL
 refine AnyTill.tk 18 (.pointer (some ⟨g, 5, none⟩)) (wanted_none rfl) HFF hL (fun w9 hS9 => ?_) XO3.out ?_
 ·have q17 := hL.at_ 0 rfl
  rw [q17]
  (go_simp; try rfl)
 clear hL x
 intro x hL
 refine AnyTill.tk 19 (.pointer (some ⟨g, 7, none⟩)) (wanted_none rfl) HFF hL (fun w9 hS9 => ?_) XO3.out ?_
 ·have q18 := hL.at_ 0 rfl
  rw [q18]
  (go_simp; try rfl)
 clear hL x
 intro x hL
 have q19 := hL.at_ 0 rfl
 have q12 := hL.at_ 6 rfl
 refine AnyTill.store1 20 (by kernel_rfl) rfl HFF (g := g) (a := 7) (cs := (tnc (mT r) vN vS vW vL (noR o 0) (.slice Au nu cu) vC)) (vs := [.int .i64 (f : Int)]) (u := 206) ⟨_, _, _, rfl, rfl, rfl, q19, .inr (by rw [show _ = _ from q12]; rfl), szErT, (one_of rfl)⟩ X3.out (by show 8 ≤ 12; decide) (fun w9 z1 z2 => XO3.out.same (z2 gO hgo.symm)) ?_
 intro w4 e1 e2 e3 e4
 clear q19 q12
 have X4 : Hid (Blk w4 g (tnc (mT r) vN vS vW vL (oC o, oQ o, (f : Int), [], 0, []) (.slice Au nu cu) vC) 206) := e1
 have F4 := lhd (F3.out.keep (.store X3.out (.inl rfl) hbg e2 e4))
 have C4 := lhd (C3.out.keep (T := fun e => e = 206) (.store X3.out rfl hbg e2 e4) (by decide))
 have G4 := lhd (G3.out.keep (.store X3.out (.inl rfl) hbg e2 e4) TT_st hab)
 have E4 := lhd (E3.out.trans (.store X3.out hbg e2 e3 e4))
 have hb4 := lhd (show b ≤ w4.heap.size by rw [e2]; exact hb3.out)
 have XO4 := lhd (XO3.out.same (e4 gO hgo.symm))
 clear e1 e2 e3 e4 X3 F3 C3 G3 E3 hb3 XO3
 refine AnyTill.done (by kernel_rfl) ?_
 refine NoPanic.normal ?_
 rw [HFF.out]
 try dsimp only
 clear hL HFF
 go_wp2
 refine ⟨rfl, _, results_none rfl _ _ _, ⟨_, rfl⟩, ?_, E4.out⟩
 rw [done5 r o hk]
 unfold ofR rep
 rw [HF.out]
 exact ⟨vN, vS, vW, vL, (.slice Au nu cu), vC, X4.out, ⟨F4.out.n, F4.out.s, F4.out.t, F4.out.l, G4.out, hab⟩, C4.out, hbg⟩
theorem drops_one (l : List Nd) (i : Int) : dropsR l [i] = (dropS l i, (goneN l i).map fun p => ((3 : Int), p)) := by
 simp [dropsR]
theorem done8 (r : Rm) (o : Or) (h : oK o = 8) (f : Nat) (hf : leaseE (mS r) (oS o) = f) : doneR r o = if f = 0 then ((dropS (mN r) (oS o), mT r, closeS (mS r) (oS o), mW r, mL r), rep 0 [] 0 [], (goneN (mN r) (oS o)).map fun p => ((3 : Int), p)) else ((mN r, mT r, closeS (mS r) (oS o), mW r, mL r), rep (f : Int) [] 0 [], []) := by
 unfold doneR
 rw [h, hf]
 simp only [drops_one]
 rfl
theorem tnClose_any (a b g : Nat) (o : Or) (r : Rm) (w : World) (hR : RightR r) (h : TnP a b g w r (noR o 0) []) (_hi : fitI (oS o)) (hk : oK o = 8) :
 Calls Tryz.prog 155 #[.pointer (some ⟨g, 0, none⟩), .agg (orc o).toArray] w (TnQ a b g (doneR r o).1 (ofR o (doneR r o).2.1) (doneR r o).2.2 w) := by
 obtain ⟨vN, vS, vW, vL, nv, vC, hX, hF, hC, hbg⟩ := h
 have hab := hF.ab
 have X := lhd hX
 have F := lhd hF
 have C := lhd hC
 have hlt := hX.lt
 have HR := lhd hR
 clear hX hF hC hR
 go_enter Tryz.func155, Tryz.ntmps155
 go_wp2_with (refine wpList_box_blk rfl 86 _ rfl (orc o) rfl ?_)
 intro w1 b1 b2 b3
 obtain ⟨gO, hgO⟩ : ∃ q, w.heap.size = q := ⟨_, rfl⟩
 have hbO : b ≤ w.heap.size := by omega
 have hgo : g ≠ gO := by omega
 have hb1 := lhd (show b ≤ w1.heap.size by omega)
 have XO := lhd b1
 have X1 := lhd (X.out.below b3 hlt)
 have F1 := lhd (F.out.keep (.of b3 hbO))
 have C1 := lhd (C.out.below b3 (Nat.le_refl _))
 have E1 := lhd (Kp.of b3 hbO)
 have hlt1 := X1.out.lt
 rw [hgO] at XO ⊢
 clear b1 b2 b3 X F C hgO hlt hbO
 obtain ⟨f, hf⟩ : ∃ f : Nat, leaseE (mS r) (oS o) = f := ⟨_, rfl⟩
 have HF := lhd hf
 clear hf
 have XO := lhd XO.out.drew
 have X1 := lhd X1.out.drew
 have F1 := lhd (F1.out.keep (.of (Below.refl _ _).drew hb1.out))
 have C1 := lhd (C1.out.below ((Below.refl w1.heap.size w1).drew) (Nat.le_refl _))
 have E1 := lhd (E1.out.trans (.of (Below.refl _ _).drew hb1.out))
 have hb1 : Hid (b ≤ w1.drew.heap.size) := hb1.out
 have hlt1 : g < w1.drew.heap.size := X1.out.lt
 go_wp2
 obtain ⟨FF, hF⟩ : ∃ F : (Nat → Value) → Act, F = fun x => ⟨#[.pointer (some ⟨g, 0, none⟩), .agg (orc o).toArray, undef, .pointer (some ⟨gO, 0, none⟩), x 10, x 0, x 1, x 2, x 3, x 4, x 5, x 6, x 7, x 8, x 9, x 11, x 12, x 13, x 14, x 15, x 17, x 18, x 19, undef, undef, undef, undef, undef, undef, undef, undef, undef, undef], []⟩ := ⟨_, rfl⟩
 have HFF := lhd hF
 refine wp_region_tillK 21 FF (fun k => [undef, undef, undef, undef, undef, undef, undef, undef, undef, undef, undef, undef, undef, undef, undef, undef, undef, undef, undef, undef, undef].getD k undef) (fun w9 => Blk w9 gO (orc o) 86) (by rw [hF]; rfl) rfl (by kernel_rfl) ?_
 intro x hL
 clear hF
 obtain ⟨wA, hwA⟩ : ∃ q, w1.drew = q := ⟨_, rfl⟩
 rw [hwA] at XO X1 F1 C1 E1 hb1 hlt1 ⊢
 clear hwA
 refine AnyTill.tk 0 (.pointer (some ⟨g, 0, none⟩)) (wanted_none rfl) HFF hL (fun w9 hS9 => ?_) XO.out ?_
 ·(go_simp; try rfl)
 clear hL x
 intro x hL
 refine AnyTill.tk 1 (.pointer (some ⟨g, 0, none⟩)) (wanted_none rfl) HFF hL (fun w9 hS9 => ?_) XO.out ?_
 ·(go_simp; try rfl)
 clear hL x
 intro x hL
 refine AnyTill.tk 2 (.pointer (some ⟨g, 0, none⟩)) (wanted_none rfl) HFF hL (fun w9 hS9 => ?_) XO.out ?_
 ·(go_simp; try rfl)
 clear hL x
 intro x hL
 refine AnyTill.tk 3 (.pointer (some ⟨g, 0, none⟩)) (wanted_none rfl) HFF hL (fun w9 hS9 => ?_) XO.out ?_
 ·have q2 := hL.at_ 0 rfl
  rw [q2]
  (go_simp; try rfl)
 clear hL x
 intro x hL
 refine AnyTill.tk 4 (.pointer (some ⟨g, 0, none⟩)) (wanted_none rfl) HFF hL (fun w9 hS9 => ?_) XO.out ?_
 ·have q3 := hL.at_ 0 rfl
  rw [q3]
  (go_simp; try rfl)
 clear hL x
 intro x hL
 refine AnyTill.tk 5 (.pointer (some ⟨g, 1, none⟩)) (wanted_none rfl) HFF hL (fun w9 hS9 => ?_) XO.out ?_
 ·have q4 := hL.at_ 0 rfl
  rw [q4]
  (go_simp; try rfl)
 clear hL x
 intro x hL
 refine AnyTill.tk 7 (.pointer (some ⟨gO, 6, none⟩)) (wanted_none rfl) HFF hL (fun w9 hS9 => ?_) XO.out ?_
 ·(go_simp; try rfl)
 clear hL x
 intro x hL
 refine AnyTill.tk 8 (.int .i64 (oS o)) (wanted_none rfl) HFF hL (fun w9 hS9 => ?_) XO.out ?_
 ·have q7 := hL.at_ 0 rfl
  rw [q7]
  have cc := hS9.at_ 6 _ rfl
  (go_simp; try rfl)
 clear hL x
 intro x hL
 refine AnyTill.oneK 6 (by kernel_rfl) rfl HFF (wanted_none rfl) (fun _ _ => rfl) hL rfl (fun K hK => ?_)
 have q5 := lhd (hL.at_ 2 rfl)
 obtain ⟨d9, hu9, hd9⟩ := rowBkT
 refine wp_load_part 44 _ rfl g 1 (tnc (mT r) vN vS vW vL (noR o 0) nv vC) [.int .i64 (mT r), vS] 206 q5.out X1.out rfl hu9 hd9 szBkT ?_
 refine hK.out _ _ XO.out ?_
 clear hK K
 clear hL q5 x
 intro x hL
 refine AnyTill.oneK 9 (by kernel_rfl) rfl HFF (wanted_none rfl) (fun _ _ => rfl) hL rfl (fun K hK => ?_)
 have q6 := lhd (hL.at_ 0 rfl)
 have q8 := lhd (hL.at_ 1 rfl)
 go_simp
 refine calls_args (args2 := #[.agg #[.int .i64 (mT r), vS], .int .i64 (oS o)]) (by rw [q6.out, q8.out]) ?_
 refine (bkClose_own (mT r) (mS r) (oS o) vS wA F1.out.s.1 HR.out.b).mono ?_
 rintro e w2 ⟨u, rfl, hr, ho, hb⟩
 rw [HF.out]
 have G2 := lhd (F1.out.s.next hr ho hb (Nat.le_trans hab hb1.out))
 obtain ⟨Au, cu, hu, -, -⟩ := hr.shape
 obtain ⟨nu, hnu⟩ : ∃ q, (closeS (mS r) (oS o)).length = q := ⟨_, rfl⟩
 rw [hnu] at hu
 clear hnu
 subst hu
 clear hr ho
 have XO2 := lhd (XO.out.below hb XO.out.lt)
 have X2 := lhd (X1.out.below hb hlt1)
 have F2 := lhd (F1.out.keep (.of hb hb1.out))
 have C2 := lhd (C1.out.below hb (Nat.le_refl _))
 have E2 := lhd (E1.out.trans (.of hb hb1.out))
 have hb2 := lhd (Nat.le_trans hb1.out hb.size)
 refine hK.out _ w2 XO2.out ?_
 clear hK K hb XO X1 F1 C1 E1 hb1 hlt1
 clear hL q6 q8 x
 intro x hL
 refine AnyTill.tk 10 (.tuple #[.agg #[.int .i64 (mT r), .slice Au nu cu], .int .i64 (f : Int)]) (wanted_none rfl) HFF hL (fun w9 hS9 => ?_) XO2.out ?_
 ·have q9 := hL.at_ 0 rfl
  rw [q9]
  (go_simp; try rfl)
 clear hL x
 intro x hL
 refine AnyTill.tk 11 (.agg #[.int .i64 (mT r), .slice Au nu cu]) (wanted_none rfl) HFF hL (fun w9 hS9 => ?_) XO2.out ?_
 ·have q10 := hL.at_ 0 rfl
  rw [q10]
  (go_simp; try rfl)
 clear hL x
 intro x hL
 refine AnyTill.tk 12 (.int .i64 (f : Int)) (wanted_none rfl) HFF hL (fun w9 hS9 => ?_) XO2.out ?_
 ·have q10 := hL.at_ 1 rfl
  rw [q10]
  (go_simp; try rfl)
 clear hL x
 intro x hL
 refine AnyTill.tk 13 (.pointer (some ⟨g, 0, none⟩)) (wanted_none rfl) HFF hL (fun w9 hS9 => ?_) XO2.out ?_
 ·have q0 := hL.at_ 12 rfl
  rw [q0]
  (go_simp; try rfl)
 clear hL x
 intro x hL
 refine AnyTill.tk 14 (.pointer (some ⟨g, 0, none⟩)) (wanted_none rfl) HFF hL (fun w9 hS9 => ?_) XO2.out ?_
 ·have q13 := hL.at_ 0 rfl
  rw [q13]
  (go_simp; try rfl)
 clear hL x
 intro x hL
 refine AnyTill.tk 15 (.pointer (some ⟨g, 1, none⟩)) (wanted_none rfl) HFF hL (fun w9 hS9 => ?_) XO2.out ?_
 ·have q14 := hL.at_ 0 rfl
  rw [q14]
  (go_simp; try rfl)
 clear hL x
 intro x hL
 have q15 := hL.at_ 0 rfl
 have q11 := hL.at_ 4 rfl
 refine AnyTill.store1 16 (by kernel_rfl) rfl HFF (g := g) (a := 1) (cs := (tnc (mT r) vN vS vW vL (noR o 0) nv vC)) (vs := [.int .i64 (mT r), .slice Au nu cu]) (u := 206) ⟨_, _, _, rfl, rfl, rfl, q15, .inl q11, szBkT, (book_one _ _ _ _)⟩ X2.out (by show 3 ≤ 12; decide) (fun w9 z1 z2 => XO2.out.same (z2 gO hgo.symm)) ?_
 intro w3 e1 e2 e3 e4
 clear q15 q11
 have X3 := lhd e1
 have F3 := lhd (F2.out.keep (.store X2.out (.inl rfl) hbg e2 e4))
 have C3 := lhd (C2.out.keep (T := fun e => e = 206) (.store X2.out rfl hbg e2 e4) (by decide))
 have G3 := lhd (G2.out.keep (.store X2.out (.inl rfl) hbg e2 e4) TT_se hab)
 have E3 := lhd (E2.out.trans (.store X2.out hbg e2 e3 e4))
 have hb3 := lhd (show b ≤ w3.heap.size by rw [e2]; exact hb2.out)
 have XO3 := lhd (XO2.out.same (e4 gO hgo.symm))
 clear e1 e2 e3 e4 X2 F2 C2 G2 E2 hb2 XO2
 have X3 : Hid (Blk w3 g (tnc (mT r) vN (.slice Au nu cu) vW vL (noR o 0) nv vC) 206) := X3.out
 refine AnyTill.tk 17 (.pointer (some ⟨g, 0, none⟩)) (wanted_none rfl) HFF hL (fun w9 hS9 => ?_) XO3.out ?_
 ·have q1 := hL.at_ 14 rfl
  rw [q1]
  (go_simp; try rfl)
 clear hL x
 intro x hL
 refine AnyTill.tk 18 (.pointer (some ⟨g, 5, none⟩)) (wanted_none rfl) HFF hL (fun w9 hS9 => ?_) XO3.out ?_
 ·have q17 := hL.at_ 0 rfl
  rw [q17]
  (go_simp; try rfl)
 clear hL x
 intro x hL
 refine AnyTill.tk 19 (.pointer (some ⟨g, 7, none⟩)) (wanted_none rfl) HFF hL (fun w9 hS9 => ?_) XO3.out ?_
 ·have q18 := hL.at_ 0 rfl
  rw [q18]
  (go_simp; try rfl)
 clear hL x
 intro x hL
 have q19 := hL.at_ 0 rfl
 have q12 := hL.at_ 6 rfl
 refine AnyTill.store1 20 (by kernel_rfl) rfl HFF (g := g) (a := 7) (cs := (tnc (mT r) vN (.slice Au nu cu) vW vL (noR o 0) nv vC)) (vs := [.int .i64 (f : Int)]) (u := 206) ⟨_, _, _, rfl, rfl, rfl, q19, .inr (by rw [show _ = _ from q12]; rfl), szErT, (one_of rfl)⟩ X3.out (by show 8 ≤ 12; decide) (fun w9 z1 z2 => XO3.out.same (z2 gO hgo.symm)) ?_
 intro w4 e1 e2 e3 e4
 clear q19 q12
 have X4 : Hid (Blk w4 g (tnc (mT r) vN (.slice Au nu cu) vW vL (oC o, oQ o, (f : Int), [], 0, []) nv vC) 206) := e1
 have F4 := lhd (F3.out.keep (.store X3.out (.inl rfl) hbg e2 e4))
 have C4 := lhd (C3.out.keep (T := fun e => e = 206) (.store X3.out rfl hbg e2 e4) (by decide))
 have G4 := lhd (G3.out.keep (.store X3.out (.inl rfl) hbg e2 e4) TT_se hab)
 have E4 := lhd (E3.out.trans (.store X3.out hbg e2 e3 e4))
 have hb4 := lhd (show b ≤ w4.heap.size by rw [e2]; exact hb3.out)
 have XO4 := lhd (XO3.out.same (e4 gO hgo.symm))
 clear e1 e2 e3 e4 X3 F3 C3 G3 E3 hb3 XO3
 refine AnyTill.done (by kernel_rfl) ?_
 refine NoPanic.normal ?_
 rw [HFF.out]
 try dsimp only
 clear hL HFF
 have HT := lhd (show TnP a b g w4 (mN r, mT r, closeS (mS r) (oS o), mW r, mL r) (oC o, oQ o, (f : Int), [], 0, []) [] from ⟨vN, (.slice Au nu cu), vW, vL, nv, vC, X4.out, ⟨F4.out.n, G4.out, F4.out.t, F4.out.l, F4.out.x, hab⟩, C4.out, hbg⟩)
 have c7 : w4.cell? ⟨g, 7, none⟩ = some (.int .i64 (f : Int)) := X4.out.at_ 7 _ rfl
 have c6 := XO4.out.at_ 6 _ rfl
 clear X4 F4 C4 G4
 by_cases hf : f = 0
 ·subst hf
  go_wp2_with fail
  refine (tnDrop_any a b g (oS o) (mN r, mT r, closeS (mS r) (oS o), mW r, mL r) (oC o, oQ o, ((0 : Nat) : Int), [], 0, []) [] w4 HT.out rfl (by have := HR.out.n.few; show 0 + (mN r).length ≤ 50000; omega)).mono ?_
  rintro e w5 ⟨⟨vq, rfl⟩, hT, hb⟩
  go_wp2
  refine ⟨rfl, _, results_none rfl _ _ _, ⟨_, rfl⟩, ?_, E4.out.trans hb⟩
  rw [done8 r o hk 0 HF.out, if_pos rfl]
  exact hT
 ·have hE : ((f : Int) == 0) = false := by rw [beq_eq_false_iff_ne]; omega
  have HNF := lhd hf
  clear hf
  go_wp2
  refine ⟨rfl, _, results_none rfl _ _ _, ⟨_, rfl⟩, ?_, E4.out⟩
  rw [done8 r o hk f HF.out, if_neg HNF.out]
  exact HT.out
theorem TT_in : ¬ TT 3 := by unfold TT; decide
theorem drops_append : ∀ (a b : List Int) (l : List Nd), dropsR l (a ++ b) = ((dropsR (dropsR l a).1 b).1, (dropsR l a).2 ++ (dropsR (dropsR l a).1 b).2)
 | [], b, l => rfl
 | i :: a, b, l => by
   rw [List.cons_append, dropsR, drops_append a b, dropsR]
   simp only [List.append_assoc]
theorem drops_snoc (l : List Nd) (a : List Int) (i : Int) : dropsR l (a ++ [i]) = (dropS (dropsR l a).1 i, (dropsR l a).2 ++ (goneN (dropsR l a).1 i).map fun p => ((3 : Int), p)) := by
 rw [drops_append, drops_one]
theorem drops_len : ∀ (a : List Int) (l : List Nd), (dropsR l a).2.length + (dropsR l a).1.length = l.length
 | [], l => by simp [dropsR]
 | i :: a, l => by
   have h1 := drops_len a (dropS l i)
   have h2 := filter_both (ownB i) l
   simp only [dropsR, List.length_append, List.length_map]
   have h3 : (goneN l i).length = (l.filter (ownB i)).length := by unfold goneN; rw [List.length_map]
   have h4 : (dropS l i).length = (l.filter fun x => !ownB i x).length := rfl
   omega
theorem done9 (r : Rm) (o : Or) (h : oK o = 9) (f : Nat) (tt : Int) (gl : List Int) (sl : List Se) (hf : tickE (mT r) (oT o) = f) (ht : tickT (mT r) (oT o) = tt) (hg : goneS (mT r) (mS r) (oT o) = gl) (hs : tickS (mT r) (mS r) (oT o) = sl) :
 doneR r o = if f = 0 then (((dropsR (mN r) gl).1, tt, sl, mW r, mL r), rep 0 [] tt [], (dropsR (mN r) gl).2) else ((mN r, tt, sl, mW r, mL r), rep (f : Int) [] 0 [], []) := by
 unfold doneR
 rw [h, hf, ht, hg, hs]
 rfl
theorem tnTick_any (a b g : Nat) (o : Or) (r : Rm) (w : World) (hR : RightR r) (h : TnP a b g w r (noR o 0) []) (_hi : fitI (oS o)) (hk : oK o = 9) :
 Calls Tryz.prog 156 #[.pointer (some ⟨g, 0, none⟩), .agg (orc o).toArray] w (TnQ a b g (doneR r o).1 (ofR o (doneR r o).2.1) (doneR r o).2.2 w) := by
 obtain ⟨vN, vS, vW, vL, nv, vC, hX, hF, hC, hbg⟩ := h
 have hab := hF.ab
 have X := lhd hX
 have F := lhd hF
 have C := lhd hC
 have hlt := hX.lt
 have HR := lhd hR
 clear hX hF hC hR
 go_enter Tryz.func156, Tryz.ntmps156
 go_wp2_with (refine wpList_box_blk rfl 86 _ rfl (orc o) rfl ?_)
 intro w1 b1 b2 b3
 obtain ⟨gO, hgO⟩ : ∃ q, w.heap.size = q := ⟨_, rfl⟩
 have hbO : b ≤ w.heap.size := by omega
 have hgo : g ≠ gO := by omega
 have hb1 := lhd (show b ≤ w1.heap.size by omega)
 have XO := lhd b1
 have X1 := lhd (X.out.below b3 hlt)
 have F1 := lhd (F.out.keep (.of b3 hbO))
 have C1 := lhd (C.out.below b3 (Nat.le_refl _))
 have E1 := lhd (Kp.of b3 hbO)
 have hlt1 := X1.out.lt
 rw [hgO] at XO ⊢
 clear b1 b2 b3 X F C hgO hlt hbO
 obtain ⟨f, hf⟩ : ∃ f : Nat, tickE (mT r) (oT o) = f := ⟨_, rfl⟩
 obtain ⟨tt, htt⟩ : ∃ q, tickT (mT r) (oT o) = q := ⟨_, rfl⟩
 obtain ⟨gl, hgl⟩ : ∃ q, goneS (mT r) (mS r) (oT o) = q := ⟨_, rfl⟩
 obtain ⟨sl, hsl⟩ : ∃ q, tickS (mT r) (mS r) (oT o) = q := ⟨_, rfl⟩
 have hzz : f ≠ 0 → gl = [] := fun h => by rw [← hgl, goneS, if_neg (by rw [hf]; exact h)]
 have HZZ := lhd hzz
 have HF := lhd hf
 have HTT := lhd htt
 have HGL := lhd hgl
 have HSL := lhd hsl
 clear hf htt hgl hsl hzz
 go_wp2
 have XO := lhd XO.out.drew
 have X1 := lhd X1.out.drew
 have F1 := lhd (F1.out.keep (.of (Below.refl _ _).drew hb1.out))
 have C1 := lhd (C1.out.below ((Below.refl w1.heap.size w1).drew) (Nat.le_refl _))
 have E1 := lhd (E1.out.trans (.of (Below.refl _ _).drew hb1.out))
 have hb1 : Hid (b ≤ w1.drew.heap.size) := hb1.out
 have hlt1 : g < w1.drew.heap.size := X1.out.lt
 obtain ⟨FF, hF⟩ : ∃ F : (Nat → Value) → Act, F = fun x => ⟨#[.pointer (some ⟨g, 0, none⟩), .agg (orc o).toArray, undef, .pointer (some ⟨gO, 0, none⟩), x 18, undef, undef, x 10, x 0, x 1, x 2, x 3, x 4, x 5, x 6, x 7, x 8, x 9, x 11, x 12, x 13, x 14, x 15, x 16, x 19, x 20, x 21, undef, undef, undef, undef, undef, undef, undef, undef, undef, undef, undef, undef, undef, undef, undef, undef, undef, undef, undef, undef, undef, undef, undef, undef, undef, undef], []⟩ := ⟨_, rfl⟩
 have HFF := lhd hF
 refine wp_region_tillK 23 FF (fun k => [undef, undef, undef, undef, undef, undef, undef, undef, undef, undef, undef, undef, undef, undef, undef, undef, undef, undef, .slice none 0 0, undef, undef, undef, undef].getD k undef) (fun w9 => Blk w9 gO (orc o) 86) (by rw [hF]; rfl) rfl (by kernel_rfl) ?_
 intro x hL
 clear hF
 obtain ⟨wA, hwA⟩ : ∃ q, w1.drew = q := ⟨_, rfl⟩
 rw [hwA] at XO X1 F1 C1 E1 hb1 hlt1 ⊢
 clear hwA
 refine AnyTill.tk 0 (.pointer (some ⟨g, 0, none⟩)) (wanted_none rfl) HFF hL (fun w9 hS9 => ?_) XO.out ?_
 ·(go_simp; try rfl)
 clear hL x
 intro x hL
 refine AnyTill.tk 1 (.pointer (some ⟨g, 0, none⟩)) (wanted_none rfl) HFF hL (fun w9 hS9 => ?_) XO.out ?_
 ·(go_simp; try rfl)
 clear hL x
 intro x hL
 refine AnyTill.tk 2 (.pointer (some ⟨g, 0, none⟩)) (wanted_none rfl) HFF hL (fun w9 hS9 => ?_) XO.out ?_
 ·(go_simp; try rfl)
 clear hL x
 intro x hL
 refine AnyTill.tk 3 (.pointer (some ⟨g, 0, none⟩)) (wanted_none rfl) HFF hL (fun w9 hS9 => ?_) XO.out ?_
 ·have q2 := hL.at_ 0 rfl
  rw [q2]
  (go_simp; try rfl)
 clear hL x
 intro x hL
 refine AnyTill.tk 4 (.pointer (some ⟨g, 0, none⟩)) (wanted_none rfl) HFF hL (fun w9 hS9 => ?_) XO.out ?_
 ·have q3 := hL.at_ 0 rfl
  rw [q3]
  (go_simp; try rfl)
 clear hL x
 intro x hL
 refine AnyTill.tk 5 (.pointer (some ⟨g, 1, none⟩)) (wanted_none rfl) HFF hL (fun w9 hS9 => ?_) XO.out ?_
 ·have q4 := hL.at_ 0 rfl
  rw [q4]
  (go_simp; try rfl)
 clear hL x
 intro x hL
 refine AnyTill.tk 7 (.pointer (some ⟨gO, 7, none⟩)) (wanted_none rfl) HFF hL (fun w9 hS9 => ?_) XO.out ?_
 ·(go_simp; try rfl)
 clear hL x
 intro x hL
 refine AnyTill.tk 8 (.int .i64 (oT o)) (wanted_none rfl) HFF hL (fun w9 hS9 => ?_) XO.out ?_
 ·have q7 := hL.at_ 0 rfl
  rw [q7]
  have cc := hS9.at_ 7 _ rfl
  (go_simp; try rfl)
 clear hL x
 intro x hL
 refine AnyTill.oneK 6 (by kernel_rfl) rfl HFF (wanted_none rfl) (fun _ _ => rfl) hL rfl (fun K hK => ?_)
 have q5 := lhd (hL.at_ 2 rfl)
 obtain ⟨d9, hu9, hd9⟩ := rowBkT
 refine wp_load_part 44 _ rfl g 1 (tnc (mT r) vN vS vW vL (noR o 0) nv vC) [.int .i64 (mT r), vS] 206 q5.out X1.out rfl hu9 hd9 szBkT ?_
 refine hK.out _ _ XO.out ?_
 clear hK K
 clear hL q5 x
 intro x hL
 refine AnyTill.oneK 9 (by kernel_rfl) rfl HFF (wanted_none rfl) (fun _ _ => rfl) hL rfl (fun K hK => ?_)
 have q6 := lhd (hL.at_ 0 rfl)
 have q8 := lhd (hL.at_ 1 rfl)
 go_simp
 refine calls_args (args2 := #[.agg #[.int .i64 (mT r), vS], .int .i64 (oT o)]) (by rw [q6.out, q8.out]) ?_
 refine (bkTick_own (mT r) (mS r) (oT o) vS wA F1.out.s.1 HR.out.b).mono ?_
 rintro e w2 ⟨u, p, rfl, hr, hq, ho, hoq, hb⟩
 rw [HF.out, HTT.out]
 rw [HSL.out] at hr ho
 rw [HGL.out] at hq hoq
 have G2 := lhd (F1.out.s.next hr ho hb (Nat.le_trans hab hb1.out))
 have P2 : Hid (GoE InK 3 a w2 p gl) := ⟨hq, by
  rcases hoq with rfl | hoq
  ·exact .inl (Lo.nil a)
  ·exact .inr (hoq.base (Nat.le_trans hab hb1.out))⟩
 obtain ⟨Au, cu, hu, -, -⟩ := hr.shape
 obtain ⟨nu, hnu⟩ : ∃ q, sl.length = q := ⟨_, rfl⟩
 rw [hnu] at hu
 obtain ⟨Ap, cp, hp, -, -⟩ := hq.shape
 obtain ⟨np, hnp⟩ : ∃ q, gl.length = q := ⟨_, rfl⟩
 rw [hnp] at hp
 have NP := lhd hnp
 clear hnu hnp
 subst hu
 subst hp
 clear hr ho hq hoq
 have XO2 := lhd (XO.out.below hb XO.out.lt)
 have X2 := lhd (X1.out.below hb hlt1)
 have F2 := lhd (F1.out.keep (.of hb hb1.out))
 have C2 := lhd (C1.out.below hb (Nat.le_refl _))
 have E2 := lhd (E1.out.trans (.of hb hb1.out))
 have hb2 := lhd (Nat.le_trans hb1.out hb.size)
 refine hK.out _ w2 XO2.out ?_
 clear hK K hb XO X1 F1 C1 E1 hb1 hlt1
 clear hL q6 q8 x
 intro x hL
 refine AnyTill.tk 10 (.tuple #[.agg #[.int .i64 tt, .slice Au nu cu], .slice Ap np cp, .int .i64 (f : Int)]) (wanted_none rfl) HFF hL (fun w9 hS9 => ?_) XO2.out ?_
 ·have q9 := hL.at_ 0 rfl
  rw [q9]
  (go_simp; try rfl)
 clear hL x
 intro x hL
 refine AnyTill.tk 11 (.agg #[.int .i64 tt, .slice Au nu cu]) (wanted_none rfl) HFF hL (fun w9 hS9 => ?_) XO2.out ?_
 ·have q10 := hL.at_ 0 rfl
  rw [q10]
  (go_simp; try rfl)
 clear hL x
 intro x hL
 refine AnyTill.tk 12 (.slice Ap np cp) (wanted_none rfl) HFF hL (fun w9 hS9 => ?_) XO2.out ?_
 ·have q10 := hL.at_ 1 rfl
  rw [q10]
  (go_simp; try rfl)
 clear hL x
 intro x hL
 refine AnyTill.tk 13 (.int .i64 (f : Int)) (wanted_none rfl) HFF hL (fun w9 hS9 => ?_) XO2.out ?_
 ·have q10 := hL.at_ 2 rfl
  rw [q10]
  (go_simp; try rfl)
 clear hL x
 intro x hL
 refine AnyTill.tk 14 (.pointer (some ⟨g, 0, none⟩)) (wanted_none rfl) HFF hL (fun w9 hS9 => ?_) XO2.out ?_
 ·have q0 := hL.at_ 13 rfl
  rw [q0]
  (go_simp; try rfl)
 clear hL x
 intro x hL
 refine AnyTill.tk 15 (.pointer (some ⟨g, 0, none⟩)) (wanted_none rfl) HFF hL (fun w9 hS9 => ?_) XO2.out ?_
 ·have q14 := hL.at_ 0 rfl
  rw [q14]
  (go_simp; try rfl)
 clear hL x
 intro x hL
 refine AnyTill.tk 16 (.pointer (some ⟨g, 1, none⟩)) (wanted_none rfl) HFF hL (fun w9 hS9 => ?_) XO2.out ?_
 ·have q15 := hL.at_ 0 rfl
  rw [q15]
  (go_simp; try rfl)
 clear hL x
 intro x hL
 have q16 := hL.at_ 0 rfl
 have q11 := hL.at_ 5 rfl
 refine AnyTill.store1 17 (by kernel_rfl) rfl HFF (g := g) (a := 1) (cs := (tnc (mT r) vN vS vW vL (noR o 0) nv vC)) (vs := [.int .i64 tt, .slice Au nu cu]) (u := 206) ⟨_, _, _, rfl, rfl, rfl, q16, .inl q11, szBkT, (book_one _ _ _ _)⟩ X2.out (by show 3 ≤ 12; decide) (fun w9 z1 z2 => XO2.out.same (z2 gO hgo.symm)) ?_
 intro w3 e1 e2 e3 e4
 clear q16 q11
 have P3 := lhd (P2.out.keep (.store X2.out (.inl rfl) hbg e2 e4) TT_in hab)
 have X3 := lhd e1
 have F3 := lhd (F2.out.keep (.store X2.out (.inl rfl) hbg e2 e4))
 have C3 := lhd (C2.out.keep (T := fun e => e = 206) (.store X2.out rfl hbg e2 e4) (by decide))
 have G3 := lhd (G2.out.keep (.store X2.out (.inl rfl) hbg e2 e4) TT_se hab)
 have E3 := lhd (E2.out.trans (.store X2.out hbg e2 e3 e4))
 have hb3 := lhd (show b ≤ w3.heap.size by rw [e2]; exact hb2.out)
 have XO3 := lhd (XO2.out.same (e4 gO hgo.symm))
 clear e1 e2 e3 e4 X2 F2 C2 G2 E2 hb2 XO2
 have X3 : Hid (Blk w3 g (tnc tt vN (.slice Au nu cu) vW vL (noR o 0) nv vC) 206) := X3.out
 refine AnyTill.tk 18 (.slice Ap np cp) (wanted_none rfl) HFF hL (fun w9 hS9 => ?_) XO3.out ?_
 ·have q12 := hL.at_ 4 rfl
  rw [q12]
  (go_simp; try rfl)
 clear hL x
 intro x hL
 refine AnyTill.tk 19 (.pointer (some ⟨g, 0, none⟩)) (wanted_none rfl) HFF hL (fun w9 hS9 => ?_) XO3.out ?_
 ·have q1 := hL.at_ 16 rfl
  rw [q1]
  (go_simp; try rfl)
 clear hL x
 intro x hL
 refine AnyTill.tk 20 (.pointer (some ⟨g, 5, none⟩)) (wanted_none rfl) HFF hL (fun w9 hS9 => ?_) XO3.out ?_
 ·have q19 := hL.at_ 0 rfl
  rw [q19]
  (go_simp; try rfl)
 clear hL x
 intro x hL
 refine AnyTill.tk 21 (.pointer (some ⟨g, 7, none⟩)) (wanted_none rfl) HFF hL (fun w9 hS9 => ?_) XO3.out ?_
 ·have q20 := hL.at_ 0 rfl
  rw [q20]
  (go_simp; try rfl)
 clear hL x
 intro x hL
 have q21 := hL.at_ 0 rfl
 have q13 := hL.at_ 7 rfl
 refine AnyTill.store1 22 (by kernel_rfl) rfl HFF (g := g) (a := 7) (cs := (tnc tt vN (.slice Au nu cu) vW vL (noR o 0) nv vC)) (vs := [.int .i64 (f : Int)]) (u := 206) ⟨_, _, _, rfl, rfl, rfl, q21, .inr (by rw [show _ = _ from q13]; rfl), szErT, (one_of rfl)⟩ X3.out (by show 8 ≤ 12; decide) (fun w9 z1 z2 => XO3.out.same (z2 gO hgo.symm)) ?_
 intro w4 e1 e2 e3 e4
 clear q21 q13
 have X4 : Hid (Blk w4 g (tnc tt vN (.slice Au nu cu) vW vL (oC o, oQ o, (f : Int), [], 0, []) nv vC) 206) := e1
 have F4 := lhd (F3.out.keep (.store X3.out (.inl rfl) hbg e2 e4))
 have C4 := lhd (C3.out.keep (T := fun e => e = 206) (.store X3.out rfl hbg e2 e4) (by decide))
 have G4 := lhd (G3.out.keep (.store X3.out (.inl rfl) hbg e2 e4) TT_se hab)
 have P4 := lhd (P3.out.keep (.store X3.out (.inl rfl) hbg e2 e4) TT_in hab)
 have E4 := lhd (E3.out.trans (.store X3.out hbg e2 e3 e4))
 have hb4 := lhd (show b ≤ w4.heap.size by rw [e2]; exact hb3.out)
 clear e1 e2 e3 e4 X3 F3 C3 G3 P3 E3 hb3 XO3 P2
 have q18 := hL.at_ 3 rfl
 refine AnyTill.done (by kernel_rfl) ?_
 refine NoPanic.normal ?_
 rw [HFF.out]
 try dsimp only
 rw [q18]
 clear q18
 clear hL HFF
 obtain ⟨X0, hX0⟩ : ∃ q : Rp, (oC o, oQ o, (f : Int), [], 0, []) = q := ⟨_, rfl⟩
 have HT : Hid (TnP a b g w4 ((dropsR (mN r) (gl.take 0)).1, tt, sl, mW r, mL r) X0 (dropsR (mN r) (gl.take 0)).2) := by
  show TnP _ _ _ _ _ _ _
  rw [← hX0]
  exact ⟨vN, (.slice Au nu cu), vW, vL, nv, vC, X4.out, ⟨F4.out.n, G4.out, F4.out.t, F4.out.l, F4.out.x, hab⟩, C4.out, hbg⟩
 have HX0 := lhd hX0
 have hpE : pE X0 = (f : Int) := by rw [← hX0]
 have HPE := lhd hpE
 have hn9 : np ≤ 50 := by
  have h1 := NP.out
  have h2 := HR.out.b.few
  have h3 := HGL.out
  unfold goneS at h3
  split at h3
  ·rw [← h3, List.length_map] at h1
   have := List.length_filter_le (lateS (oT o)) (mS r)
   omega
  ·rw [← h3] at h1
   simp at h1
   omega
 clear X4 F4 C4 G4 hX0 hpE
 obtain ⟨x8, hx8⟩ : ∃ q, x = q := ⟨_, rfl⟩
 rw [hx8]
 clear hx8 x
 go_wp2
 go_loopw [29] (fun y wr => ∃ k : Nat, k ≤ np ∧ y = .int .i64 (k : Int) ∧ Hid (TnP a b g wr ((dropsR (mN r) (gl.take k)).1, tt, sl, mW r, mL r) X0 (dropsR (mN r) (gl.take k)).2) ∧ Hid (Kp b w4 wr)) (fun y _ => np - (intOf y).toNat)
 case atStart => exact ⟨0, Nat.zero_le _, rfl, HT, lhd (Kp.of (Below.refl _ _) hb4.out)⟩
 case round =>
  obtain ⟨k, hk2, rfl, HT1, HK⟩ := hrel
  clear HT
  by_cases hkn : k < np
  ·have zi : (k : Int) < (np : Int) := by omega
   have hkp : k < gl.length := by rw [NP.out]; exact hkn
   have hf0 : f = 0 := by
    by_cases h : f = 0
    ·exact h
    ·rw [HZZ.out h] at hkp
     cases hkp
   obtain ⟨aP, hA, hc⟩ := (P4.out.keep HK.out.k TT_in hab).1.at1 k hkp
   subst hA
   have HS : Hid (gl.take (k + 1) = gl.take k ++ [gl.getD k 0]) := by
    show _ = _
    rw [List.take_succ_eq_append_getElem hkp, List.getD_eq_getElem?_getD, List.getElem?_eq_getElem hkp]
    rfl
   obtain ⟨q, hq⟩ : ∃ q, gl.getD k 0 = q := ⟨_, rfl⟩
   rw [hq] at hc HS
   have HF0 := lhd hf0
   clear hq hf0 hkp
   go_wp2_with fail
   refine (tnDrop_any a b g q ((dropsR (mN r) (gl.take k)).1, tt, sl, mW r, mL r) X0 (dropsR (mN r) (gl.take k)).2 wr HT1.out (by rw [HPE.out, HF0.out]; rfl) (by have h1 := HR.out.n.few; have h2 := drops_len (gl.take k) (mN r); show _ + (dropsR (mN r) (gl.take k)).1.length ≤ _; omega)).mono ?_
   rintro e w5 ⟨⟨vq, rfl⟩, hT, hb⟩
   have HT5 : Hid (TnP a b g w5 ((dropsR (mN r) (gl.take (k + 1))).1, tt, sl, mW r, mL r) X0 (dropsR (mN r) (gl.take (k + 1))).2) := by
    show TnP _ _ _ _ _ _ _
    rw [HS.out, drops_snoc]
    exact hT
   have HK5 := lhd (HK.out.trans hb)
   clear hT hb HT1 HK hc HF0
   go_wp2
   go_roundw
   case rel => exact ⟨k + 1, by omega, by go_num, HT5, HK5⟩
   case measure => simp [intOf]; omega
  ·obtain rfl : k = np := by omega
   have h1 := HT1.out
   rw [List.take_of_length_le (by rw [NP.out]; exact Nat.le_refl _)] at h1
   have HT2 := lhd h1
   clear h1 HT1
   obtain ⟨vN5, vS5, vW5, vL5, nv5, vC5, hX, hF, hC, -⟩ := HT2.out
   have c7 : wr.cell? ⟨g, 7, none⟩ = some (.int .i64 (f : Int)) := by
    rw [← HPE.out]
    exact hX.at_ 7 _ rfl
   have c1 : wr.cell? ⟨g, 1, none⟩ = some (.int .i64 tt) := hX.at_ 1 _ rfl
   by_cases hf : f = 0
   ·have hE : ((f : Int) == 0) = true := by rw [hf]; rfl
    have HF0 := lhd hf
    clear hf
    have X1 := lhd hX
    have F1 := lhd hF
    have C1 := lhd hC
    have E1 := lhd (E4.out.trans HK.out)
    clear hX hF hC HT2
    go_wp2_with (refine wpList_store_fld rfl 3 _ _ rfl g 9 (tnc tt vN5 vS5 vW5 vL5 X0 nv5 vC5) (.int .i64 tt) 206 rfl rfl X1.out szInT (by show 9 < 12; decide) rfl ?_)
    intro w6 e1 e2 e3 e4
    have F3 := lhd (F1.out.keep (.store X1.out (.inl rfl) hbg e2 e4))
    have C3 := lhd (C1.out.keep (T := fun e => e = 206) (.store X1.out rfl hbg e2 e4) (by decide))
    have E3 := lhd (E1.out.trans (.store X1.out hbg e2 e3 e4))
    have X3 := lhd e1
    clear e1 e2 e3 e4
    go_wp2
    refine ⟨rfl, _, results_none rfl _ _ _, ⟨_, rfl⟩, ?_, E3.out⟩
    rw [done9 r o hk f tt gl sl HF.out HTT.out HGL.out HSL.out, if_pos HF0.out]
    have hx := HX0.out
    subst hx
    rw [HF0.out] at X3 F3
    exact ⟨vN5, vS5, vW5, vL5, nv5, vC5, X3.out, ⟨F3.out.n, F3.out.s, F3.out.t, F3.out.l, F3.out.x, hab⟩, C3.out, hbg⟩
   ·have hE : ((f : Int) == 0) = false := by rw [beq_eq_false_iff_ne]; omega
    have HNF := lhd hf
    clear hf hX hF hC
    go_wp2
    refine ⟨rfl, _, results_none rfl _ _ _, ⟨_, rfl⟩, ?_, E4.out.trans HK.out⟩
    rw [done9 r o hk f tt gl sl HF.out HTT.out HGL.out HSL.out, if_neg HNF.out]
    have h1 := HT2.out
    rw [HZZ.out HNF.out, ← HX0.out] at h1
    exact h1
end Go.Proofs.YtgfobinklijkpaaGreatDoor
