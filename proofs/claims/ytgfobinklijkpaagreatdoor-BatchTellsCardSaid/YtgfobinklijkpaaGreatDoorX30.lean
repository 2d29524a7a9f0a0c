/-
  Texts K1.
-/
import Derived.Test.YtgfobinklijkpaaGreatDoorX01
import Derived.Test.YtgfobinklijkpaaGreatDoorX08
import Derived.Test.YtgfobinklijkpaaGreatDoorX22
import Derived.Test.YtgfobinklijkpaaGreatDoorX26
import Derived.Test.YtgfobinklijkpaaGreatDoorX27
import Derived.Test.YtgfobinklijkpaaGreatDoorX29
namespace Go.Proofs.YtgfobinklijkpaaGreatDoor
set_option maxRecDepth 100000
set_option maxHeartbeats 16000000
open Go.RowKit
theorem noLease_of (r : Rm) (o : Or) (hR : RightR r) (H : Bool) (h : hasSe (mS r) (oS o) = H) : (oS o = 0 ∨ H = true → noLease r o = false) ∧ (oS o ≠ 0 → H = false → noLease r o = true) := by
 subst h
 unfold noLease
 refine ⟨fun h => ?_, fun h1 h2 => ?_⟩
 ·rcases h with h | h
  ·rw [decide_eq_false (by omega)]
   rfl
  ·obtain ⟨x, hx, he⟩ := (hasS_iff _ _).1 h
   have := hR.b.fine x hx
   unfold fineS at this
   simp only [Bool.and_eq_true, decide_eq_true_eq] at this
   rw [h, decide_eq_false (show ¬ oS o < 0 by omega)]
   simp
 ·rw [h2, decide_eq_true h1]
  simp
theorem done1a (r : Rm) (o : Or) (h : oK o = 1) (hn : noLease r o = true) : doneR r o = (r, rep 14 [] 0 [], []) := by
 unfold doneR
 rw [h]
 exact if_pos hn
theorem done1b (r : Rm) (o : Or) (h : oK o = 1) (hn : noLease r o = false) : doneR r o = ((createS (mN r) (oP o) (oV o) (oS o), mT r, mS r, mW r, mL r), rep (createE (mN r) (oP o) (oV o) (oS o)) [] 0 [], if createE (mN r) (oP o) (oV o) (oS o) = 0 then [(1, oP o)] else []) := by
 unfold doneR
 rw [h]
 exact if_neg (show ¬ noLease r o = true by rw [hn]; decide)
theorem tnCreate_any (a b g : Nat) (o : Or) (r : Rm) (w : World) (hR : RightR r) (h : TnP a b g w r (noR o 0) []) (_hi : fitI (oS o)) (hk : oK o = 1) :
 Calls Tryz.prog 148 #[.pointer (some ⟨g, 0, none⟩), .agg (orc o).toArray] w (TnQ a b g (doneR r o).1 (ofR o (doneR r o).2.1) (doneR r o).2.2 w) := by
 obtain ⟨vN, vS, vW, vL, nv, vC, hX, hF, hC, hbg⟩ := h
 have hab := hF.ab
 have X := lhd hX
 have F := lhd hF
 have C := lhd hC
 have hlt := hX.lt
 have HR := lhd hR
 clear hX hF hC hR
 go_enter Tryz.func148, Tryz.ntmps148
 go_wp2_with (refine wpList_box_blk rfl 86 _ rfl (orc o) rfl ?_)
 intro w1 b1 b2 b3
 obtain ⟨gO, hgO⟩ : ∃ q, w.heap.size = q := ⟨_, rfl⟩
 have hbO : b ≤ w.heap.size := by omega
 have hgo : g ≠ gO := by omega
 have hb1 := lhd (show b ≤ w1.heap.size by omega)
 have XO := lhd b1
 have X1 := lhd (X.out.below b3 hlt)
 have F1 := lhd (F.out.keep (.of b3 hbO))
 have C1 := lhd (C.out.below b3 (Nat.le_refl _))
 have E1 := lhd (Kp.of b3 hbO)
 have hlt1 := X1.out.lt
 rw [hgO] at XO ⊢
 clear b1 b2 b3 X F C hgO hlt hbO
 obtain ⟨f, hf⟩ : ∃ f : Nat, createE (mN r) (oP o) (oV o) (oS o) = f := ⟨_, rfl⟩
 have HF := lhd hf
 clear hf
 obtain ⟨H, hH⟩ : ∃ q, hasSe (mS r) (oS o) = q := ⟨_, rfl⟩
 have HNL := lhd (noLease_of r o HR.out H hH)
 have HH := lhd hH
 clear hH
 by_cases hz : oS o = 0
 ·have hnl : Hid (noLease r o = false) := HNL.out.1 (.inl hz)
  have HZ := lhd (show (oS o != 0) = false by rw [hz]; rfl)
  clear hz HNL
  have XO := lhd XO.out.drew
  have X1 := lhd X1.out.drew
  have F1 := lhd (F1.out.keep (.of (Below.refl _ _).drew hb1.out))
  have C1 := lhd (C1.out.below ((Below.refl w1.heap.size w1).drew) (Nat.le_refl _))
  have E1 := lhd (E1.out.trans (.of (Below.refl _ _).drew hb1.out))
  have hb1 : Hid (b ≤ w1.drew.heap.size) := hb1.out
  have hlt1 : g < w1.drew.heap.size := X1.out.lt
  go_wp2
  obtain ⟨FF, hF⟩ : ∃ F : (Nat → Value) → Act, F = fun x => ⟨#[.pointer (some ⟨g, 0, none⟩), .agg (orc o).toArray, undef, .pointer (some ⟨gO, 0, none⟩), x 0, x 1, x 2, x 3, x 4, x 5, x 6, x 7, x 8, x 9, x 10, x 11, x 12, x 13, undef, undef, undef, undef, undef, undef, undef, undef, undef, undef, undef, undef, undef, undef, undef, undef, undef, undef, undef, undef, undef, undef, undef, undef, undef, undef, undef, undef, undef, undef, undef], []⟩ := ⟨_, rfl⟩
  have HFF := lhd hF
  refine wp_region_tillK 14 FF (fun k => [undef, undef, undef, undef, undef, undef, undef, undef, undef, undef, undef, undef, undef, undef].getD k undef) (fun w9 => Blk w9 gO (orc o) 86 ∧ Blk w9 g (tnc (mT r) vN vS vW vL (noR o 0) nv vC) 206) (by rw [hF]; rfl) rfl (by kernel_rfl) ?_
  intro x hL
  clear hF
  obtain ⟨wA, hwA⟩ : ∃ q, w1.drew = q := ⟨_, rfl⟩
  rw [hwA] at XO X1 F1 C1 E1 hb1 hlt1 ⊢
  clear hwA
  refine AnyTill.takeK 0 (.pointer (some ⟨gO, 6, none⟩)) rfl (by kernel_rfl) rfl rfl (by kernel_rfl) (by kernel_rfl) HFF (wanted_none rfl) (fun _ _ => rfl) hL rfl (fun w9 hS9 => ?_) (by exact ⟨XO.out, X1.out⟩) ?_
  ·(go_simp; try rfl)
  clear hL x
  intro x hL
  refine AnyTill.takeK 1 (.int .i64 (oS o)) rfl (by kernel_rfl) rfl rfl (by kernel_rfl) (by kernel_rfl) HFF (wanted_none rfl) (fun _ _ => rfl) hL rfl (fun w9 hS9 => ?_) (by exact ⟨XO.out, X1.out⟩) ?_
  ·have q0 := hL.at_ 0 rfl
   rw [q0]
   have cc := hS9.1.at_ 6 _ rfl
   (go_simp; try rfl)
  clear hL x
  intro x hL
  refine AnyTill.takeK 2 (.bool false) rfl (by kernel_rfl) rfl rfl (by kernel_rfl) (by kernel_rfl) HFF (wanted_none rfl) (fun _ _ => rfl) hL rfl (fun w9 hS9 => ?_) (by exact ⟨XO.out, X1.out⟩) ?_
  ·have q1 := hL.at_ 0 rfl
   rw [q1]
   have hz9 := HZ.out
   (go_simp; try rfl)
  clear hL x
  intro x hL
  refine AnyTill.takeK 3 (.bool false) rfl (by kernel_rfl) rfl rfl (by kernel_rfl) (by kernel_rfl) HFF (wanted_none rfl) (fun _ _ => rfl) hL rfl (fun w9 hS9 => ?_) (by exact ⟨XO.out, X1.out⟩) ?_
  ·have q2 := hL.at_ 0 rfl
   rw [q2]
   (go_simp; try rfl)
  clear hL x
  intro x hL
  refine AnyTill.skipK 4 rfl (by kernel_rfl) rfl rfl (by kernel_rfl) (by kernel_rfl) HFF (by have hG := hL.at_ 0 rfl; simp [Region.wanted, yielded, hG]) (fun _ _ => rfl) hL rfl (by exact ⟨XO.out, X1.out⟩) ?_
  clear hL x
  intro x hL
  refine AnyTill.skipK 5 rfl (by kernel_rfl) rfl rfl (by kernel_rfl) (by kernel_rfl) HFF (by have hG := hL.at_ 1 rfl; simp [Region.wanted, yielded, hG]) (fun _ _ => rfl) hL rfl (by exact ⟨XO.out, X1.out⟩) ?_
  clear hL x
  intro x hL
  refine AnyTill.skipK 6 rfl (by kernel_rfl) rfl rfl (by kernel_rfl) (by kernel_rfl) HFF (by have hG := hL.at_ 2 rfl; simp [Region.wanted, yielded, hG]) (fun _ _ => rfl) hL rfl (by exact ⟨XO.out, X1.out⟩) ?_
  clear hL x
  intro x hL
  refine AnyTill.skipK 7 rfl (by kernel_rfl) rfl rfl (by kernel_rfl) (by kernel_rfl) HFF (by have hG := hL.at_ 3 rfl; simp [Region.wanted, yielded, hG]) (fun _ _ => rfl) hL rfl (by exact ⟨XO.out, X1.out⟩) ?_
  clear hL x
  intro x hL
  refine AnyTill.skipK 8 rfl (by kernel_rfl) rfl rfl (by kernel_rfl) (by kernel_rfl) HFF (by have hG := hL.at_ 4 rfl; simp [Region.wanted, yielded, hG]) (fun _ _ => rfl) hL rfl (by exact ⟨XO.out, X1.out⟩) ?_
  clear hL x
  intro x hL
  refine AnyTill.skipK 9 rfl (by kernel_rfl) rfl rfl (by kernel_rfl) (by kernel_rfl) HFF (by have hG := hL.at_ 5 rfl; simp [Region.wanted, yielded, hG]) (fun _ _ => rfl) hL rfl (by exact ⟨XO.out, X1.out⟩) ?_
  clear hL x
  intro x hL
  refine AnyTill.skipK 10 rfl (by kernel_rfl) rfl rfl (by kernel_rfl) (by kernel_rfl) HFF (by have hG := hL.at_ 6 rfl; simp [Region.wanted, yielded, hG]) (fun _ _ => rfl) hL rfl (by exact ⟨XO.out, X1.out⟩) ?_
  clear hL x
  intro x hL
  refine AnyTill.skipK 11 rfl (by kernel_rfl) rfl rfl (by kernel_rfl) (by kernel_rfl) HFF (by have hG := hL.at_ 7 rfl; simp [Region.wanted, yielded, hG]) (fun _ _ => rfl) hL rfl (by exact ⟨XO.out, X1.out⟩) ?_
  clear hL x
  intro x hL
  refine AnyTill.skipK 12 rfl (by kernel_rfl) rfl rfl (by kernel_rfl) (by kernel_rfl) HFF (by have hG := hL.at_ 8 rfl; simp [Region.wanted, yielded, hG]) (fun _ _ => rfl) hL rfl (by exact ⟨XO.out, X1.out⟩) ?_
  clear hL x
  intro x hL
  refine AnyTill.takeK 13 (.bool false) rfl (by kernel_rfl) rfl rfl (by kernel_rfl) (by kernel_rfl) HFF (wanted_none rfl) (fun _ _ => rfl) hL rfl (fun w9 hS9 => ?_) (by exact ⟨XO.out, X1.out⟩) ?_
  ·have q3 := hL.at_ 9 rfl
   have q12 := hL.at_ 0 rfl
   rw [q3, q12]
   (go_simp; try rfl)
  clear hL x
  intro x hL
  obtain ⟨w1, hw1⟩ : ∃ q, wA = q := ⟨_, rfl⟩
  rw [hw1] at XO X1 F1 C1 E1 hb1 ⊢
  clear hw1
  have q13 := hL.at_ 0 rfl
  refine AnyTill.done (by kernel_rfl) ?_
  refine NoPanic.normal ?_
  rw [HFF.out]
  try dsimp only
  rw [q13]
  clear q13
  clear hL HFF
  have hlt1 := X1.out.lt
  have hnl := hnl
  go_wp2
  have XO := lhd XO.out.drew
  have X1 := lhd X1.out.drew
  have F1 := lhd (F1.out.keep (.of (Below.refl _ _).drew hb1.out))
  have C1 := lhd (C1.out.below ((Below.refl w1.heap.size w1).drew) (Nat.le_refl _))
  have E1 := lhd (E1.out.trans (.of (Below.refl _ _).drew hb1.out))
  have hb1 : Hid (b ≤ w1.drew.heap.size) := hb1.out
  have hlt1 : g < w1.drew.heap.size := X1.out.lt
  obtain ⟨x9, hx9⟩ : ∃ q, x = q := ⟨_, rfl⟩
  rw [hx9]
  clear hx9 x
  obtain ⟨FF, hF⟩ : ∃ F : (Nat → Value) → Act, F = fun x => ⟨#[.pointer (some ⟨g, 0, none⟩), .agg (orc o).toArray, undef, .pointer (some ⟨gO, 0, none⟩), x9 0, x9 1, x9 2, x9 3, x9 4, x9 5, x9 6, x9 7, x9 8, x9 9, x9 10, x9 11, x9 12, .bool false, undef, undef, undef, undef, x 14, x 0, x 1, x 2, x 3, x 4, x 5, x 6, x 7, x 8, x 9, x 10, x 11, x 12, x 13, x 15, x 16, x 17, x 18, x 19, x 21, x 22, x 23, undef, undef, undef, undef], []⟩ := ⟨_, rfl⟩
  have HFF := lhd hF
  refine wp_region_tillK 25 FF (fun k => [undef, undef, undef, undef, undef, undef, undef, undef, undef, undef, undef, undef, undef, undef, undef, undef, undef, undef, undef, undef, undef, undef, undef, undef, undef].getD k undef) (fun w9 => Blk w9 gO (orc o) 86) (by rw [hF]; rfl) rfl (by kernel_rfl) ?_
  intro x hL
  clear hF
  obtain ⟨wA, hwA⟩ : ∃ q, w1.drew = q := ⟨_, rfl⟩
  rw [hwA] at XO X1 F1 C1 E1 hb1 hlt1 ⊢
  clear hwA
  refine AnyTill.tk 0 (.pointer (some ⟨g, 0, none⟩)) (wanted_none rfl) HFF hL (fun w9 hS9 => ?_) XO.out ?_
  ·(go_simp; try rfl)
  clear hL x
  intro x hL
  refine AnyTill.tk 1 (.pointer (some ⟨g, 0, none⟩)) (wanted_none rfl) HFF hL (fun w9 hS9 => ?_) XO.out ?_
  ·(go_simp; try rfl)
  clear hL x
  intro x hL
  refine AnyTill.tk 2 (.pointer (some ⟨g, 0, none⟩)) (wanted_none rfl) HFF hL (fun w9 hS9 => ?_) XO.out ?_
  ·(go_simp; try rfl)
  clear hL x
  intro x hL
  refine AnyTill.tk 3 (.pointer (some ⟨g, 0, none⟩)) (wanted_none rfl) HFF hL (fun w9 hS9 => ?_) XO.out ?_
  ·have q2 := hL.at_ 0 rfl
   rw [q2]
   (go_simp; try rfl)
  clear hL x
  intro x hL
  refine AnyTill.tk 4 (.pointer (some ⟨g, 0, none⟩)) (wanted_none rfl) HFF hL (fun w9 hS9 => ?_) XO.out ?_
  ·have q3 := hL.at_ 0 rfl
   rw [q3]
   (go_simp; try rfl)
  clear hL x
  intro x hL
  refine AnyTill.tk 5 (.pointer (some ⟨g, 0, none⟩)) (wanted_none rfl) HFF hL (fun w9 hS9 => ?_) XO.out ?_
  ·have q4 := hL.at_ 0 rfl
   rw [q4]
   (go_simp; try rfl)
  clear hL x
  intro x hL
  refine AnyTill.tk 7 (.pointer (some ⟨gO, 3, none⟩)) (wanted_none rfl) HFF hL (fun w9 hS9 => ?_) XO.out ?_
  ·(go_simp; try rfl)
  clear hL x
  intro x hL
  refine AnyTill.tk 8 (txt (oP o)) (wanted_none rfl) HFF hL (fun w9 hS9 => ?_) XO.out ?_
  ·have q7 := hL.at_ 0 rfl
   rw [q7]
   have cc := hS9.at_ 3 _ rfl
   (go_simp; try rfl)
  clear hL x
  intro x hL
  refine AnyTill.tk 9 (.pointer (some ⟨gO, 4, none⟩)) (wanted_none rfl) HFF hL (fun w9 hS9 => ?_) XO.out ?_
  ·(go_simp; try rfl)
  clear hL x
  intro x hL
  refine AnyTill.tk 10 (txt (oV o)) (wanted_none rfl) HFF hL (fun w9 hS9 => ?_) XO.out ?_
  ·have q9 := hL.at_ 0 rfl
   rw [q9]
   have cc := hS9.at_ 4 _ rfl
   (go_simp; try rfl)
  clear hL x
  intro x hL
  refine AnyTill.tk 11 (.pointer (some ⟨gO, 6, none⟩)) (wanted_none rfl) HFF hL (fun w9 hS9 => ?_) XO.out ?_
  ·(go_simp; try rfl)
  clear hL x
  intro x hL
  refine AnyTill.tk 12 (.int .i64 (oS o)) (wanted_none rfl) HFF hL (fun w9 hS9 => ?_) XO.out ?_
  ·have q11 := hL.at_ 0 rfl
   rw [q11]
   have cc := hS9.at_ 6 _ rfl
   (go_simp; try rfl)
  clear hL x
  intro x hL
  refine AnyTill.oneK 6 (by kernel_rfl) rfl HFF (wanted_none rfl) (fun _ _ => rfl) hL rfl (fun K hK => ?_)
  have q5 := lhd (hL.at_ 6 rfl)
  obtain ⟨d9, hu9, hd9⟩ := rowShT
  refine wp_load_part 41 _ rfl g 0 (tnc (mT r) vN vS vW vL (noR o 0) nv vC) [vN] 206 q5.out X1.out rfl hu9 hd9 szShT ?_
  refine hK.out _ _ XO.out ?_
  clear hK K
  clear hL q5 x
  intro x hL
  refine AnyTill.oneK 13 (by kernel_rfl) rfl HFF (wanted_none rfl) (fun _ _ => rfl) hL rfl (fun K hK => ?_)
  have q6 := lhd (hL.at_ 0 rfl)
  have q8 := lhd (hL.at_ 5 rfl)
  have q10 := lhd (hL.at_ 3 rfl)
  have q12 := lhd (hL.at_ 1 rfl)
  go_simp
  refine calls_args (args2 := #[.agg #[vN], txt (oP o), txt (oV o), .int .i64 (oS o)]) (by rw [q6.out, q8.out, q10.out, q12.out]) ?_
  refine (shCreate_own (mN r) (oP o) (oV o) (oS o) vN wA F1.out.n.1 (by have := HR.out.n.few; omega) ((rightN_iff _).2 HR.out.n)).mono ?_
  rintro e w2 ⟨u, rfl, hr, ho, hb⟩
  rw [HF.out]
  have G2 := lhd (F1.out.n.next hr.toE (ho.imp id OwnNd.toE) hb (Nat.le_trans hab hb1.out))
  obtain ⟨Au, cu, hu, -, -⟩ := hr.shape
  obtain ⟨nu, hnu⟩ : ∃ q, (createS (mN r) (oP o) (oV o) (oS o)).length = q := ⟨_, rfl⟩
  rw [hnu] at hu
  clear hnu
  subst hu
  clear hr ho
  have XO2 := lhd (XO.out.below hb XO.out.lt)
  have X2 := lhd (X1.out.below hb hlt1)
  have F2 := lhd (F1.out.keep (.of hb hb1.out))
  have C2 := lhd (C1.out.below hb (Nat.le_refl _))
  have E2 := lhd (E1.out.trans (.of hb hb1.out))
  have hb2 := lhd (Nat.le_trans hb1.out hb.size)
  refine hK.out _ w2 XO2.out ?_
  clear hK K hb XO X1 F1 C1 E1 hb1 hlt1
  clear hL q6 q8 q10 q12 x
  intro x hL
  refine AnyTill.tk 14 (.tuple #[.agg #[.slice Au nu cu], .int .i64 (f : Int)]) (wanted_none rfl) HFF hL (fun w9 hS9 => ?_) XO2.out ?_
  ·have q13 := hL.at_ 0 rfl
   rw [q13]
   (go_simp; try rfl)
  clear hL x
  intro x hL
  refine AnyTill.tk 15 (.agg #[.slice Au nu cu]) (wanted_none rfl) HFF hL (fun w9 hS9 => ?_) XO2.out ?_
  ·have q14 := hL.at_ 0 rfl
   rw [q14]
   (go_simp; try rfl)
  clear hL x
  intro x hL
  refine AnyTill.tk 16 (.int .i64 (f : Int)) (wanted_none rfl) HFF hL (fun w9 hS9 => ?_) XO2.out ?_
  ·have q14 := hL.at_ 1 rfl
   rw [q14]
   (go_simp; try rfl)
  clear hL x
  intro x hL
  refine AnyTill.tk 17 (.pointer (some ⟨g, 0, none⟩)) (wanted_none rfl) HFF hL (fun w9 hS9 => ?_) XO2.out ?_
  ·have q0 := hL.at_ 16 rfl
   rw [q0]
   (go_simp; try rfl)
  clear hL x
  intro x hL
  refine AnyTill.tk 18 (.pointer (some ⟨g, 0, none⟩)) (wanted_none rfl) HFF hL (fun w9 hS9 => ?_) XO2.out ?_
  ·have q17 := hL.at_ 0 rfl
   rw [q17]
   (go_simp; try rfl)
  clear hL x
  intro x hL
  refine AnyTill.tk 19 (.pointer (some ⟨g, 0, none⟩)) (wanted_none rfl) HFF hL (fun w9 hS9 => ?_) XO2.out ?_
  ·have q18 := hL.at_ 0 rfl
   rw [q18]
   (go_simp; try rfl)
  clear hL x
  intro x hL
  have q19 := hL.at_ 0 rfl
  have q15 := hL.at_ 4 rfl
  refine AnyTill.store1 20 (by kernel_rfl) rfl HFF (g := g) (a := 0) (cs := (tnc (mT r) vN vS vW vL (noR o 0) nv vC)) (vs := [.slice Au nu cu]) (u := 206) ⟨_, _, _, rfl, rfl, rfl, q19, .inl q15, szShT, (one_of rfl)⟩ X2.out (by show 1 ≤ 12; decide) (fun w9 z1 z2 => XO2.out.same (z2 gO hgo.symm)) ?_
  intro w3 e1 e2 e3 e4
  clear q19 q15
  have X3 := lhd e1
  have F3 := lhd (F2.out.keep (.store X2.out (.inl rfl) hbg e2 e4))
  have C3 := lhd (C2.out.keep (T := fun e => e = 206) (.store X2.out rfl hbg e2 e4) (by decide))
  have G3 := lhd (G2.out.keep (.store X2.out (.inl rfl) hbg e2 e4) TT_nd hab)
  have E3 := lhd (E2.out.trans (.store X2.out hbg e2 e3 e4))
  have hb3 := lhd (show b ≤ w3.heap.size by rw [e2]; exact hb2.out)
  have XO3 := lhd (XO2.out.same (e4 gO hgo.symm))
  clear e1 e2 e3 e4 X2 F2 C2 G2 E2 hb2 XO2
  have X3 : Hid (Blk w3 g (tnc (mT r) (.slice Au nu cu) vS vW vL (noR o 0) nv vC) 206) := X3.out
  refine AnyTill.tk 21 (.pointer (some ⟨g, 0, none⟩)) (wanted_none rfl) HFF hL (fun w9 hS9 => ?_) XO3.out ?_
  ·have q1 := hL.at_ 18 rfl
   rw [q1]
   (go_simp; try rfl)
  clear hL x
  intro x hL
  refine AnyTill.tk 22 (.pointer (some ⟨g, 5, none⟩)) (wanted_none rfl) HFF hL (fun w9 hS9 => ?_) XO3.out ?_
  ·have q21 := hL.at_ 0 rfl
   rw [q21]
   (go_simp; try rfl)
  clear hL x
  intro x hL
  refine AnyTill.tk 23 (.pointer (some ⟨g, 7, none⟩)) (wanted_none rfl) HFF hL (fun w9 hS9 => ?_) XO3.out ?_
  ·have q22 := hL.at_ 0 rfl
   rw [q22]
   (go_simp; try rfl)
  clear hL x
  intro x hL
  have q23 := hL.at_ 0 rfl
  have q16 := hL.at_ 6 rfl
  refine AnyTill.store1 24 (by kernel_rfl) rfl HFF (g := g) (a := 7) (cs := (tnc (mT r) (.slice Au nu cu) vS vW vL (noR o 0) nv vC)) (vs := [.int .i64 (f : Int)]) (u := 206) ⟨_, _, _, rfl, rfl, rfl, q23, .inr (by rw [show _ = _ from q16]; rfl), szErT, (one_of rfl)⟩ X3.out (by show 8 ≤ 12; decide) (fun w9 z1 z2 => XO3.out.same (z2 gO hgo.symm)) ?_
  intro w4 e1 e2 e3 e4
  clear q23 q16
  have X4 : Hid (Blk w4 g (tnc (mT r) (.slice Au nu cu) vS vW vL (oC o, oQ o, (f : Int), [], 0, []) nv vC) 206) := e1
  have F4 := lhd (F3.out.keep (.store X3.out (.inl rfl) hbg e2 e4))
  have C4 := lhd (C3.out.keep (T := fun e => e = 206) (.store X3.out rfl hbg e2 e4) (by decide))
  have G4 := lhd (G3.out.keep (.store X3.out (.inl rfl) hbg e2 e4) TT_nd hab)
  have E4 := lhd (E3.out.trans (.store X3.out hbg e2 e3 e4))
  have hb4 := lhd (show b ≤ w4.heap.size by rw [e2]; exact hb3.out)
  have XO4 := lhd (XO3.out.same (e4 gO hgo.symm))
  clear e1 e2 e3 e4 X3 F3 C3 G3 E3 hb3 XO3
  refine AnyTill.done (by kernel_rfl) ?_
  refine NoPanic.normal ?_
  rw [HFF.out]
  try dsimp only
  clear hL HFF
  have HT := lhd (show TnP a b g w4 (createS (mN r) (oP o) (oV o) (oS o), mT r, mS r, mW r, mL r) (oC o, oQ o, (f : Int), [], 0, []) [] from ⟨(.slice Au nu cu), vS, vW, vL, nv, vC, X4.out, ⟨G4.out, F4.out.s, F4.out.t, F4.out.l, F4.out.x, hab⟩, C4.out, hbg⟩)
  have cp := XO4.out.at_ 3 _ rfl
  clear X4 F4 C4 G4
  go_wp2_with fail
  refine (tnChanged_any a b g 1 (oP o) (createS (mN r) (oP o) (oV o) (oS o), mT r, mS r, mW r, mL r) (oC o, oQ o, (f : Int), [], 0, []) [] w4 HT.out (by simp)).mono ?_
  rintro e w5 ⟨⟨vq, rfl⟩, hT, hb⟩
  have HT5 := lhd hT
  have E5 := lhd (E4.out.trans hb)
  have XO5 := lhd (XO4.out.keepT hb.k TT_or)
  clear hT hb cp HT E4 XO4
  go_wp2
  refine ⟨rfl, _, results_none rfl _ _ _, ⟨_, rfl⟩, ?_, E5.out⟩
  have HQ := HT5.out
  rw [done1b r o hk hnl.out]
  unfold ofR rep
  rw [HF.out]
  unfold noteR at HQ
  by_cases hf : f = 0
  ·rw [if_pos (show pE (oC o, oQ o, (f : Int), [], 0, []) = 0 by subst hf; rfl)] at HQ
   rw [if_pos hf]
   exact HQ
  ·rw [if_neg (show ¬ pE (oC o, oQ o, (f : Int), [], 0, []) = 0 from fun e => hf (Int.ofNat.inj e))] at HQ
   rw [if_neg hf]
   exact HQ
 ·have HZ := lhd (show (oS o != 0) = true by rw [bne_iff_ne]; exact hz)
  cases H with
  | true =>
    have hnl : Hid (noLease r o = false) := HNL.out.1 (.inr rfl)
    clear hz HNL
    have XO := lhd XO.out.drew
    have X1 := lhd X1.out.drew
    have F1 := lhd (F1.out.keep (.of (Below.refl _ _).drew hb1.out))
    have C1 := lhd (C1.out.below ((Below.refl w1.heap.size w1).drew) (Nat.le_refl _))
    have E1 := lhd (E1.out.trans (.of (Below.refl _ _).drew hb1.out))
    have hb1 : Hid (b ≤ w1.drew.heap.size) := hb1.out
    have hlt1 : g < w1.drew.heap.size := X1.out.lt
    go_wp2
    obtain ⟨FF, hF⟩ : ∃ F : (Nat → Value) → Act, F = fun x => ⟨#[.pointer (some ⟨g, 0, none⟩), .agg (orc o).toArray, undef, .pointer (some ⟨gO, 0, none⟩), x 0, x 1, x 2, x 3, x 4, x 5, x 6, x 7, x 8, x 9, x 10, x 11, x 12, x 13, undef, undef, undef, undef, undef, undef, undef, undef, undef, undef, undef, undef, undef, undef, undef, undef, undef, undef, undef, undef, undef, undef, undef, undef, undef, undef, undef, undef, undef, undef, undef], []⟩ := ⟨_, rfl⟩
    have HFF := lhd hF
    refine wp_region_tillK 14 FF (fun k => [undef, undef, undef, undef, undef, undef, undef, undef, undef, undef, undef, undef, undef, undef].getD k undef) (fun w9 => Blk w9 gO (orc o) 86 ∧ Blk w9 g (tnc (mT r) vN vS vW vL (noR o 0) nv vC) 206) (by rw [hF]; rfl) rfl (by kernel_rfl) ?_
    intro x hL
    clear hF
    obtain ⟨wA, hwA⟩ : ∃ q, w1.drew = q := ⟨_, rfl⟩
    rw [hwA] at XO X1 F1 C1 E1 hb1 hlt1 ⊢
    clear hwA
    refine AnyTill.takeK 0 (.pointer (some ⟨gO, 6, none⟩)) rfl (by kernel_rfl) rfl rfl (by kernel_rfl) (by kernel_rfl) HFF (wanted_none rfl) (fun _ _ => rfl) hL rfl (fun w9 hS9 => ?_) (by exact ⟨XO.out, X1.out⟩) ?_
    ·(go_simp; try rfl)
    clear hL x
    intro x hL
    refine AnyTill.takeK 1 (.int .i64 (oS o)) rfl (by kernel_rfl) rfl rfl (by kernel_rfl) (by kernel_rfl) HFF (wanted_none rfl) (fun _ _ => rfl) hL rfl (fun w9 hS9 => ?_) (by exact ⟨XO.out, X1.out⟩) ?_
    ·have q0 := hL.at_ 0 rfl
     rw [q0]
     have cc := hS9.1.at_ 6 _ rfl
     (go_simp; try rfl)
    clear hL x
    intro x hL
    refine AnyTill.takeK 2 (.bool true) rfl (by kernel_rfl) rfl rfl (by kernel_rfl) (by kernel_rfl) HFF (wanted_none rfl) (fun _ _ => rfl) hL rfl (fun w9 hS9 => ?_) (by exact ⟨XO.out, X1.out⟩) ?_
    ·have q1 := hL.at_ 0 rfl
     rw [q1]
     have hz9 := HZ.out
     (go_simp; try rfl)
    clear hL x
    intro x hL
    refine AnyTill.takeK 3 (.bool true) rfl (by kernel_rfl) rfl rfl (by kernel_rfl) (by kernel_rfl) HFF (wanted_none rfl) (fun _ _ => rfl) hL rfl (fun w9 hS9 => ?_) (by exact ⟨XO.out, X1.out⟩) ?_
    ·have q2 := hL.at_ 0 rfl
     rw [q2]
     (go_simp; try rfl)
    clear hL x
    intro x hL
    refine AnyTill.takeK 4 (.pointer (some ⟨g, 0, none⟩)) rfl (by kernel_rfl) rfl rfl (by kernel_rfl) (by kernel_rfl) HFF (by have hG := hL.at_ 0 rfl; simp [Region.wanted, yielded, hG]) (fun _ _ => rfl) hL rfl (fun w9 hS9 => ?_) (by exact ⟨XO.out, X1.out⟩) ?_
    ·(go_simp; try rfl)
    clear hL x
    intro x hL
    refine AnyTill.takeK 5 (.pointer (some ⟨g, 0, none⟩)) rfl (by kernel_rfl) rfl rfl (by kernel_rfl) (by kernel_rfl) HFF (by have hG := hL.at_ 1 rfl; simp [Region.wanted, yielded, hG]) (fun _ _ => rfl) hL rfl (fun w9 hS9 => ?_) (by exact ⟨XO.out, X1.out⟩) ?_
    ·have q4 := hL.at_ 0 rfl
     rw [q4]
     (go_simp; try rfl)
    clear hL x
    intro x hL
    refine AnyTill.takeK 6 (.pointer (some ⟨g, 0, none⟩)) rfl (by kernel_rfl) rfl rfl (by kernel_rfl) (by kernel_rfl) HFF (by have hG := hL.at_ 2 rfl; simp [Region.wanted, yielded, hG]) (fun _ _ => rfl) hL rfl (fun w9 hS9 => ?_) (by exact ⟨XO.out, X1.out⟩) ?_
    ·have q5 := hL.at_ 0 rfl
     rw [q5]
     (go_simp; try rfl)
    clear hL x
    intro x hL
    refine AnyTill.takeK 7 (.pointer (some ⟨g, 1, none⟩)) rfl (by kernel_rfl) rfl rfl (by kernel_rfl) (by kernel_rfl) HFF (by have hG := hL.at_ 3 rfl; simp [Region.wanted, yielded, hG]) (fun _ _ => rfl) hL rfl (fun w9 hS9 => ?_) (by exact ⟨XO.out, X1.out⟩) ?_
    ·have q6 := hL.at_ 0 rfl
     rw [q6]
     (go_simp; try rfl)
    clear hL x
    intro x hL
    refine AnyTill.takeK 9 (.pointer (some ⟨gO, 6, none⟩)) rfl (by kernel_rfl) rfl rfl (by kernel_rfl) (by kernel_rfl) HFF (by have hG := hL.at_ 4 rfl; simp [Region.wanted, yielded, hG]) (fun _ _ => rfl) hL rfl (fun w9 hS9 => ?_) (by exact ⟨XO.out, X1.out⟩) ?_
    ·(go_simp; try rfl)
    clear hL x
    intro x hL
    refine AnyTill.takeK 10 (.int .i64 (oS o)) rfl (by kernel_rfl) rfl rfl (by kernel_rfl) (by kernel_rfl) HFF (by have hG := hL.at_ 5 rfl; simp [Region.wanted, yielded, hG]) (fun _ _ => rfl) hL rfl (fun w9 hS9 => ?_) (by exact ⟨XO.out, X1.out⟩) ?_
    ·have q9 := hL.at_ 0 rfl
     rw [q9]
     have cc := hS9.1.at_ 6 _ rfl
     (go_simp; try rfl)
    clear hL x
    intro x hL
    refine AnyTill.takeK 8 (.agg #[.int .i64 (mT r), vS]) rfl (by kernel_rfl) rfl rfl (by kernel_rfl) (by kernel_rfl) HFF (by have hG := hL.at_ 6 rfl; simp [Region.wanted, yielded, hG]) (fun _ _ => rfl) hL rfl (fun w9 hS9 => ?_) (by exact ⟨XO.out, X1.out⟩) ?_
    ·have q7 := hL.at_ 2 rfl
     rw [q7]
     obtain ⟨d9, hu9, hd9⟩ := rowBkT
     exact run_load_part 44 _ rfl g 1 (tnc (mT r) vN vS vW vL (noR o 0) nv vC) [.int .i64 (mT r), vS] 206 rfl hS9.2 rfl hu9 hd9 szBkT
    clear hL x
    intro x hL
    refine AnyTill.oneK 11 (by kernel_rfl) rfl HFF (by have hG := hL.at_ 7 rfl; simp [Region.wanted, yielded, hG]) (fun _ _ => rfl) hL rfl (fun K hK => ?_)
    have q8 := lhd (hL.at_ 0 rfl)
    have q10 := lhd (hL.at_ 1 rfl)
    go_simp
    refine calls_args (args2 := #[.agg #[.int .i64 (mT r), vS], .int .i64 (oS o)]) (by rw [q8.out, q10.out]) ?_
    refine (bkHas_any (mT r) (mS r) (oS o) vS wA F1.out.s.1 HR.out.b).mono ?_
    rintro e w2 ⟨rfl, hb⟩
    rw [HH.out]
    have XO2 := lhd (XO.out.below hb XO.out.lt)
    have X2 := lhd (X1.out.below hb hlt1)
    have F2 := lhd (F1.out.keep (.of hb hb1.out))
    have C2 := lhd (C1.out.below hb (Nat.le_refl _))
    have E2 := lhd (E1.out.trans (.of hb hb1.out))
    have hb2 := lhd (Nat.le_trans hb1.out hb.size)
    refine hK.out _ w2 ⟨XO2.out, X2.out⟩ ?_
    clear hK K hb XO X1 F1 C1 E1 hb1 hlt1
    clear hL q8 q10 x
    intro x hL
    refine AnyTill.takeK 12 (.bool false) rfl (by kernel_rfl) rfl rfl (by kernel_rfl) (by kernel_rfl) HFF (by have hG := hL.at_ 8 rfl; simp [Region.wanted, yielded, hG]) (fun _ _ => rfl) hL rfl (fun w9 hS9 => ?_) (by exact ⟨XO2.out, X2.out⟩) ?_
    ·have q11 := hL.at_ 0 rfl
     rw [q11]
     (go_simp; try rfl)
    clear hL x
    intro x hL
    refine AnyTill.takeK 13 (.bool false) rfl (by kernel_rfl) rfl rfl (by kernel_rfl) (by kernel_rfl) HFF (wanted_none rfl) (fun _ _ => rfl) hL rfl (fun w9 hS9 => ?_) (by exact ⟨XO2.out, X2.out⟩) ?_
    ·have q3 := hL.at_ 9 rfl
     have q12 := hL.at_ 0 rfl
     rw [q3, q12]
     (go_simp; try rfl)
    clear hL x
    intro x hL
    have XO := XO2
    have X1 := X2
    have F1 := F2
    have C1 := C2
    have E1 := E2
    have hb1 := hb2
    clear XO2 X2 F2 C2 E2 hb2
    obtain ⟨w1, hw1⟩ : ∃ q, w2 = q := ⟨_, rfl⟩
    rw [hw1] at XO X1 F1 C1 E1 hb1 ⊢
    clear hw1 w2
    have q13 := hL.at_ 0 rfl
    refine AnyTill.done (by kernel_rfl) ?_
    refine NoPanic.normal ?_
    rw [HFF.out]
    try dsimp only
    rw [q13]
    clear q13
    clear hL HFF
    have hlt1 := X1.out.lt
    have hnl := hnl
    go_wp2
    have XO := lhd XO.out.drew
    have X1 := lhd X1.out.drew
    have F1 := lhd (F1.out.keep (.of (Below.refl _ _).drew hb1.out))
    have C1 := lhd (C1.out.below ((Below.refl w1.heap.size w1).drew) (Nat.le_refl _))
    have E1 := lhd (E1.out.trans (.of (Below.refl _ _).drew hb1.out))
    have hb1 : Hid (b ≤ w1.drew.heap.size) := hb1.out
    have hlt1 : g < w1.drew.heap.size := X1.out.lt
    obtain ⟨x9, hx9⟩ : ∃ q, x = q := ⟨_, rfl⟩
    rw [hx9]
    clear hx9 x
    obtain ⟨FF, hF⟩ : ∃ F : (Nat → Value) → Act, F = fun x => ⟨#[.pointer (some ⟨g, 0, none⟩), .agg (orc o).toArray, undef, .pointer (some ⟨gO, 0, none⟩), x9 0, x9 1, x9 2, x9 3, x9 4, x9 5, x9 6, x9 7, x9 8, x9 9, x9 10, x9 11, x9 12, .bool false, undef, undef, undef, undef, x 14, x 0, x 1, x 2, x 3, x 4, x 5, x 6, x 7, x 8, x 9, x 10, x 11, x 12, x 13, x 15, x 16, x 17, x 18, x 19, x 21, x 22, x 23, undef, undef, undef, undef], []⟩ := ⟨_, rfl⟩
    have HFF := lhd hF
    refine wp_region_tillK 25 FF (fun k => [undef, undef, undef, undef, undef, undef, undef, undef, undef, undef, undef, undef, undef, undef, undef, undef, undef, undef, undef, undef, undef, undef, undef, undef, undef].getD k undef) (fun w9 => Blk w9 gO (orc o) 86) (by rw [hF]; rfl) rfl (by kernel_rfl) ?_
    intro x hL
    clear hF
    obtain ⟨wA, hwA⟩ : ∃ q, w1.drew = q := ⟨_, rfl⟩
    rw [hwA] at XO X1 F1 C1 E1 hb1 hlt1 ⊢
    clear hwA
    refine AnyTill.tk 0 (.pointer (some ⟨g, 0, none⟩)) (wanted_none rfl) HFF hL (fun w9 hS9 => ?_) XO.out ?_
    ·(go_simp; try rfl)
    clear hL x
    intro x hL
    refine AnyTill.tk 1 (.pointer (some ⟨g, 0, none⟩)) (wanted_none rfl) HFF hL (fun w9 hS9 => ?_) XO.out ?_
    ·(go_simp; try rfl)
    clear hL x
    intro x hL
    refine AnyTill.tk 2 (.pointer (some ⟨g, 0, none⟩)) (wanted_none rfl) HFF hL (fun w9 hS9 => ?_) XO.out ?_
    ·(go_simp; try rfl)
    clear hL x
    intro x hL
    refine AnyTill.tk 3 (.pointer (some ⟨g, 0, none⟩)) (wanted_none rfl) HFF hL (fun w9 hS9 => ?_) XO.out ?_
    ·have q2 := hL.at_ 0 rfl
     rw [q2]
     (go_simp; try rfl)
    clear hL x
    intro x hL
    refine AnyTill.tk 4 (.pointer (some ⟨g, 0, none⟩)) (wanted_none rfl) HFF hL (fun w9 hS9 => ?_) XO.out ?_
    ·have q3 := hL.at_ 0 rfl
     rw [q3]
     (go_simp; try rfl)
    clear hL x
    intro x hL
    refine AnyTill.tk 5 (.pointer (some ⟨g, 0, none⟩)) (wanted_none rfl) HFF hL (fun w9 hS9 => ?_) XO.out ?_
    ·have q4 := hL.at_ 0 rfl
     rw [q4]
     (go_simp; try rfl)
    clear hL x
    intro x hL
    refine AnyTill.tk 7 (.pointer (some ⟨gO, 3, none⟩)) (wanted_none rfl) HFF hL (fun w9 hS9 => ?_) XO.out ?_
    ·(go_simp; try rfl)
    clear hL x
    intro x hL
    refine AnyTill.tk 8 (txt (oP o)) (wanted_none rfl) HFF hL (fun w9 hS9 => ?_) XO.out ?_
    ·have q7 := hL.at_ 0 rfl
     rw [q7]
     have cc := hS9.at_ 3 _ rfl
     (go_simp; try rfl)
    clear hL x
    intro x hL
    refine AnyTill.tk 9 (.pointer (some ⟨gO, 4, none⟩)) (wanted_none rfl) HFF hL (fun w9 hS9 => ?_) XO.out ?_
    ·(go_simp; try rfl)
    clear hL x
    intro x hL
    refine AnyTill.tk 10 (txt (oV o)) (wanted_none rfl) HFF hL (fun w9 hS9 => ?_) XO.out ?_
    ·have q9 := hL.at_ 0 rfl
     rw [q9]
     have cc := hS9.at_ 4 _ rfl
     (go_simp; try rfl)
    clear hL x
    intro x hL
    refine AnyTill.tk 11 (.pointer (some ⟨gO, 6, none⟩)) (wanted_none rfl) HFF hL (fun w9 hS9 => ?_) XO.out ?_
    ·(go_simp; try rfl)
    clear hL x
    intro x hL
    refine AnyTill.tk 12 (.int .i64 (oS o)) (wanted_none rfl) HFF hL (fun w9 hS9 => ?_) XO.out ?_
    ·have q11 := hL.at_ 0 rfl
     rw [q11]
     have cc := hS9.at_ 6 _ rfl
     (go_simp; try rfl)
    clear hL x
    intro x hL
    refine AnyTill.oneK 6 (by kernel_rfl) rfl HFF (wanted_none rfl) (fun _ _ => rfl) hL rfl (fun K hK => ?_)
    have q5 := lhd (hL.at_ 6 rfl)
    obtain ⟨d9, hu9, hd9⟩ := rowShT
    refine wp_load_part 41 _ rfl g 0 (tnc (mT r) vN vS vW vL (noR o 0) nv vC) [vN] 206 q5.out X1.out rfl hu9 hd9 szShT ?_
    refine hK.out _ _ XO.out ?_
    clear hK K
    clear hL q5 x
    intro x hL
    refine AnyTill.oneK 13 (by kernel_rfl) rfl HFF (wanted_none rfl) (fun _ _ => rfl) hL rfl (fun K hK => ?_)
    have q6 := lhd (hL.at_ 0 rfl)
    have q8 := lhd (hL.at_ 5 rfl)
    have q10 := lhd (hL.at_ 3 rfl)
    have q12 := lhd (hL.at_ 1 rfl)
    go_simp
    refine calls_args (args2 := #[.agg #[vN], txt (oP o), txt (oV o), .int .i64 (oS o)]) (by rw [q6.out, q8.out, q10.out, q12.out]) ?_
    refine (shCreate_own (mN r) (oP o) (oV o) (oS o) vN wA F1.out.n.1 (by have := HR.out.n.few; omega) ((rightN_iff _).2 HR.out.n)).mono ?_
    rintro e w2 ⟨u, rfl, hr, ho, hb⟩
    rw [HF.out]
    have G2 := lhd (F1.out.n.next hr.toE (ho.imp id OwnNd.toE) hb (Nat.le_trans hab hb1.out))
    obtain ⟨Au, cu, hu, -, -⟩ := hr.shape
    obtain ⟨nu, hnu⟩ : ∃ q, (createS (mN r) (oP o) (oV o) (oS o)).length = q := ⟨_, rfl⟩
    rw [hnu] at hu
    clear hnu
    subst hu
    clear hr ho
    have XO2 := lhd (XO.out.below hb XO.out.lt)
    have X2 := lhd (X1.out.below hb hlt1)
    have F2 := lhd (F1.out.keep (.of hb hb1.out))
    have C2 := lhd (C1.out.below hb (Nat.le_refl _))
    have E2 := lhd (E1.out.trans (.of hb hb1.out))
    have hb2 := lhd (Nat.le_trans hb1.out hb.size)
    refine hK.out _ w2 XO2.out ?_
    clear hK K hb XO X1 F1 C1 E1 hb1 hlt1
    clear hL q6 q8 q10 q12 x
    intro x hL
    refine AnyTill.tk 14 (.tuple #[.agg #[.slice Au nu cu], .int .i64 (f : Int)]) (wanted_none rfl) HFF hL (fun w9 hS9 => ?_) XO2.out ?_
    ·have q13 := hL.at_ 0 rfl
     rw [q13]
     (go_simp; try rfl)
    clear hL x
    intro x hL
    refine AnyTill.tk 15 (.agg #[.slice Au nu cu]) (wanted_none rfl) HFF hL (fun w9 hS9 => ?_) XO2.out ?_
    ·have q14 := hL.at_ 0 rfl
     rw [q14]
     (go_simp; try rfl)
    clear hL x
    intro x hL
    refine AnyTill.tk 16 (.int .i64 (f : Int)) (wanted_none rfl) HFF hL (fun w9 hS9 => ?_) XO2.out ?_
    ·have q14 := hL.at_ 1 rfl
     rw [q14]
     (go_simp; try rfl)
    clear hL x
    intro x hL
    refine AnyTill.tk 17 (.pointer (some ⟨g, 0, none⟩)) (wanted_none rfl) HFF hL (fun w9 hS9 => ?_) XO2.out ?_
    ·have q0 := hL.at_ 16 rfl
     rw [q0]
     (go_simp; try rfl)
    clear hL x
    intro x hL
    refine AnyTill.tk 18 (.pointer (some ⟨g, 0, none⟩)) (wanted_none rfl) HFF hL (fun w9 hS9 => ?_) XO2.out ?_
    ·have q17 := hL.at_ 0 rfl
     rw [q17]
     (go_simp; try rfl)
    clear hL x
    intro x hL
    refine AnyTill.tk 19 (.pointer (some ⟨g, 0, none⟩)) (wanted_none rfl) HFF hL (fun w9 hS9 => ?_) XO2.out ?_
    ·have q18 := hL.at_ 0 rfl
     rw [q18]
     (go_simp; try rfl)
    clear hL x
    intro x hL
    have q19 := hL.at_ 0 rfl
    have q15 := hL.at_ 4 rfl
    refine AnyTill.store1 20 (by kernel_rfl) rfl HFF (g := g) (a := 0) (cs := (tnc (mT r) vN vS vW vL (noR o 0) nv vC)) (vs := [.slice Au nu cu]) (u := 206) ⟨_, _, _, rfl, rfl, rfl, q19, .inl q15, szShT, (one_of rfl)⟩ X2.out (by show 1 ≤ 12; decide) (fun w9 z1 z2 => XO2.out.same (z2 gO hgo.symm)) ?_
    intro w3 e1 e2 e3 e4
    clear q19 q15
    have X3 := lhd e1
    have F3 := lhd (F2.out.keep (.store X2.out (.inl rfl) hbg e2 e4))
    have C3 := lhd (C2.out.keep (T := fun e => e = 206) (.store X2.out rfl hbg e2 e4) (by decide))
    have G3 := lhd (G2.out.keep (.store X2.out (.inl rfl) hbg e2 e4) TT_nd hab)
    have E3 := lhd (E2.out.trans (.store X2.out hbg e2 e3 e4))
    have hb3 := lhd (show b ≤ w3.heap.size by rw [e2]; exact hb2.out)
    have XO3 := lhd (XO2.out.same (e4 gO hgo.symm))
    clear e1 e2 e3 e4 X2 F2 C2 G2 E2 hb2 XO2
    have X3 : Hid (Blk w3 g (tnc (mT r) (.slice Au nu cu) vS vW vL (noR o 0) nv vC) 206) := X3.out
    refine AnyTill.tk 21 (.pointer (some ⟨g, 0, none⟩)) (wanted_none rfl) HFF hL (fun w9 hS9 => ?_) XO3.out ?_
    ·have q1 := hL.at_ 18 rfl
     rw [q1]
     (go_simp; try rfl)
    clear hL x
    intro x hL
    refine AnyTill.tk 22 (.pointer (some ⟨g, 5, none⟩)) (wanted_none rfl) HFF hL (fun w9 hS9 => ?_) XO3.out ?_
    ·have q21 := hL.at_ 0 rfl
     rw [q21]
     (go_simp; try rfl)
    clear hL x
    intro x hL
    refine AnyTill.tk 23 (.pointer (some ⟨g, 7, none⟩)) (wanted_none rfl) HFF hL (fun w9 hS9 => ?_) XO3.out ?_
    ·have q22 := hL.at_ 0 rfl
     rw [q22]
     (go_simp; try rfl)
    clear hL x
    intro x hL
    have q23 := hL.at_ 0 rfl
    have q16 := hL.at_ 6 rfl
    refine AnyTill.store1 24 (by kernel_rfl) rfl HFF (g := g) (a := 7) (cs := (tnc (mT r) (.slice Au nu cu) vS vW vL (noR o 0) nv vC)) (vs := [.int .i64 (f : Int)]) (u := 206) ⟨_, _, _, rfl, rfl, rfl, q23, .inr (by rw [show _ = _ from q16]; rfl), szErT, (one_of rfl)⟩ X3.out (by show 8 ≤ 12; decide) (fun w9 z1 z2 => XO3.out.same (z2 gO hgo.symm)) ?_
    intro w4 e1 e2 e3 e4
    clear q23 q16
    have X4 : Hid (Blk w4 g (tnc (mT r) (.slice Au nu cu) vS vW vL (oC o, oQ o, (f : Int), [], 0, []) nv vC) 206) := e1
    have F4 := lhd (F3.out.keep (.store X3.out (.inl rfl) hbg e2 e4))
    have C4 := lhd (C3.out.keep (T := fun e => e = 206) (.store X3.out rfl hbg e2 e4) (by decide))
    have G4 := lhd (G3.out.keep (.store X3.out (.inl rfl) hbg e2 e4) TT_nd hab)
    have E4 := lhd (E3.out.trans (.store X3.out hbg e2 e3 e4))
    have hb4 := lhd (show b ≤ w4.heap.size by rw [e2]; exact hb3.out)
    have XO4 := lhd (XO3.out.same (e4 gO hgo.symm))
    clear e1 e2 e3 e4 X3 F3 C3 G3 E3 hb3 XO3
    refine AnyTill.done (by kernel_rfl) ?_
    refine NoPanic.normal ?_
    rw [HFF.out]
    try dsimp only
    clear hL HFF
    have HT := lhd (show TnP a b g w4 (createS (mN r) (oP o) (oV o) (oS o), mT r, mS r, mW r, mL r) (oC o, oQ o, (f : Int), [], 0, []) [] from ⟨(.slice Au nu cu), vS, vW, vL, nv, vC, X4.out, ⟨G4.out, F4.out.s, F4.out.t, F4.out.l, F4.out.x, hab⟩, C4.out, hbg⟩)
    have cp := XO4.out.at_ 3 _ rfl
    clear X4 F4 C4 G4
    go_wp2_with fail
    refine (tnChanged_any a b g 1 (oP o) (createS (mN r) (oP o) (oV o) (oS o), mT r, mS r, mW r, mL r) (oC o, oQ o, (f : Int), [], 0, []) [] w4 HT.out (by simp)).mono ?_
    rintro e w5 ⟨⟨vq, rfl⟩, hT, hb⟩
    have HT5 := lhd hT
    have E5 := lhd (E4.out.trans hb)
    have XO5 := lhd (XO4.out.keepT hb.k TT_or)
    clear hT hb cp HT E4 XO4
    go_wp2
    refine ⟨rfl, _, results_none rfl _ _ _, ⟨_, rfl⟩, ?_, E5.out⟩
    have HQ := HT5.out
    rw [done1b r o hk hnl.out]
    unfold ofR rep
    rw [HF.out]
    unfold noteR at HQ
    by_cases hf : f = 0
    ·rw [if_pos (show pE (oC o, oQ o, (f : Int), [], 0, []) = 0 by subst hf; rfl)] at HQ
     rw [if_pos hf]
     exact HQ
    ·rw [if_neg (show ¬ pE (oC o, oQ o, (f : Int), [], 0, []) = 0 from fun e => hf (Int.ofNat.inj e))] at HQ
     rw [if_neg hf]
     exact HQ
  | false =>
    have hnl : Hid (noLease r o = true) := HNL.out.2 hz rfl
    clear hz HNL
    have XO := lhd XO.out.drew
    have X1 := lhd X1.out.drew
    have F1 := lhd (F1.out.keep (.of (Below.refl _ _).drew hb1.out))
    have C1 := lhd (C1.out.below ((Below.refl w1.heap.size w1).drew) (Nat.le_refl _))
    have E1 := lhd (E1.out.trans (.of (Below.refl _ _).drew hb1.out))
    have hb1 : Hid (b ≤ w1.drew.heap.size) := hb1.out
    have hlt1 : g < w1.drew.heap.size := X1.out.lt
    go_wp2
    obtain ⟨FF, hF⟩ : ∃ F : (Nat → Value) → Act, F = fun x => ⟨#[.pointer (some ⟨g, 0, none⟩), .agg (orc o).toArray, undef, .pointer (some ⟨gO, 0, none⟩), x 0, x 1, x 2, x 3, x 4, x 5, x 6, x 7, x 8, x 9, x 10, x 11, x 12, x 13, undef, undef, undef, undef, undef, undef, undef, undef, undef, undef, undef, undef, undef, undef, undef, undef, undef, undef, undef, undef, undef, undef, undef, undef, undef, undef, undef, undef, undef, undef, undef], []⟩ := ⟨_, rfl⟩
    have HFF := lhd hF
    refine wp_region_tillK 14 FF (fun k => [undef, undef, undef, undef, undef, undef, undef, undef, undef, undef, undef, undef, undef, undef].getD k undef) (fun w9 => Blk w9 gO (orc o) 86 ∧ Blk w9 g (tnc (mT r) vN vS vW vL (noR o 0) nv vC) 206) (by rw [hF]; rfl) rfl (by kernel_rfl) ?_
    intro x hL
    clear hF
    obtain ⟨wA, hwA⟩ : ∃ q, w1.drew = q := ⟨_, rfl⟩
    rw [hwA] at XO X1 F1 C1 E1 hb1 hlt1 ⊢
    clear hwA
    refine AnyTill.takeK 0 (.pointer (some ⟨gO, 6, none⟩)) rfl (by kernel_rfl) rfl rfl (by kernel_rfl) (by kernel_rfl) HFF (wanted_none rfl) (fun _ _ => rfl) hL rfl (fun w9 hS9 => ?_) (by exact ⟨XO.out, X1.out⟩) ?_
    ·(go_simp; try rfl)
    clear hL x
    intro x hL
    refine AnyTill.takeK 1 (.int .i64 (oS o)) rfl (by kernel_rfl) rfl rfl (by kernel_rfl) (by kernel_rfl) HFF (wanted_none rfl) (fun _ _ => rfl) hL rfl (fun w9 hS9 => ?_) (by exact ⟨XO.out, X1.out⟩) ?_
    ·have q0 := hL.at_ 0 rfl
     rw [q0]
     have cc := hS9.1.at_ 6 _ rfl
     (go_simp; try rfl)
    clear hL x
    intro x hL
    refine AnyTill.takeK 2 (.bool true) rfl (by kernel_rfl) rfl rfl (by kernel_rfl) (by kernel_rfl) HFF (wanted_none rfl) (fun _ _ => rfl) hL rfl (fun w9 hS9 => ?_) (by exact ⟨XO.out, X1.out⟩) ?_
    ·have q1 := hL.at_ 0 rfl
     rw [q1]
     have hz9 := HZ.out
     (go_simp; try rfl)
    clear hL x
    intro x hL
    refine AnyTill.takeK 3 (.bool true) rfl (by kernel_rfl) rfl rfl (by kernel_rfl) (by kernel_rfl) HFF (wanted_none rfl) (fun _ _ => rfl) hL rfl (fun w9 hS9 => ?_) (by exact ⟨XO.out, X1.out⟩) ?_
    ·have q2 := hL.at_ 0 rfl
     rw [q2]
     (go_simp; try rfl)
    clear hL x
    intro x hL
    refine AnyTill.takeK 4 (.pointer (some ⟨g, 0, none⟩)) rfl (by kernel_rfl) rfl rfl (by kernel_rfl) (by kernel_rfl) HFF (by have hG := hL.at_ 0 rfl; simp [Region.wanted, yielded, hG]) (fun _ _ => rfl) hL rfl (fun w9 hS9 => ?_) (by exact ⟨XO.out, X1.out⟩) ?_
    ·(go_simp; try rfl)
    clear hL x
    intro x hL
    refine AnyTill.takeK 5 (.pointer (some ⟨g, 0, none⟩)) rfl (by kernel_rfl) rfl rfl (by kernel_rfl) (by kernel_rfl) HFF (by have hG := hL.at_ 1 rfl; simp [Region.wanted, yielded, hG]) (fun _ _ => rfl) hL rfl (fun w9 hS9 => ?_) (by exact ⟨XO.out, X1.out⟩) ?_
    ·have q4 := hL.at_ 0 rfl
     rw [q4]
     (go_simp; try rfl)
    clear hL x
    intro x hL
    refine AnyTill.takeK 6 (.pointer (some ⟨g, 0, none⟩)) rfl (by kernel_rfl) rfl rfl (by kernel_rfl) (by kernel_rfl) HFF (by have hG := hL.at_ 2 rfl; simp [Region.wanted, yielded, hG]) (fun _ _ => rfl) hL rfl (fun w9 hS9 => ?_) (by exact ⟨XO.out, X1.out⟩) ?_
    ·have q5 := hL.at_ 0 rfl
     rw [q5]
     (go_simp; try rfl)
    clear hL x
    intro x hL
    refine AnyTill.takeK 7 (.pointer (some ⟨g, 1, none⟩)) rfl (by kernel_rfl) rfl rfl (by kernel_rfl) (by kernel_rfl) HFF (by have hG := hL.at_ 3 rfl; simp [Region.wanted, yielded, hG]) (fun _ _ => rfl) hL rfl (fun w9 hS9 => ?_) (by exact ⟨XO.out, X1.out⟩) ?_
    ·have q6 := hL.at_ 0 rfl
     rw [q6]
     (go_simp; try rfl)
    clear hL x
    intro x hL
    refine AnyTill.takeK 9 (.pointer (some ⟨gO, 6, none⟩)) rfl (by kernel_rfl) rfl rfl (by kernel_rfl) (by kernel_rfl) HFF (by have hG := hL.at_ 4 rfl; simp [Region.wanted, yielded, hG]) (fun _ _ => rfl) hL rfl (fun w9 hS9 => ?_) (by exact ⟨XO.out, X1.out⟩) ?_
    ·(go_simp; try rfl)
    clear hL x
    intro x hL
    refine AnyTill.takeK 10 (.int .i64 (oS o)) rfl (by kernel_rfl) rfl rfl (by kernel_rfl) (by kernel_rfl) HFF (by have hG := hL.at_ 5 rfl; simp [Region.wanted, yielded, hG]) (fun _ _ => rfl) hL rfl (fun w9 hS9 => ?_) (by exact ⟨XO.out, X1.out⟩) ?_
    ·have q9 := hL.at_ 0 rfl
     rw [q9]
     have cc := hS9.1.at_ 6 _ rfl
     (go_simp; try rfl)
    clear hL x
    intro x hL
    refine AnyTill.takeK 8 (.agg #[.int .i64 (mT r), vS]) rfl (by kernel_rfl) rfl rfl (by kernel_rfl) (by kernel_rfl) HFF (by have hG := hL.at_ 6 rfl; simp [Region.wanted, yielded, hG]) (fun _ _ => rfl) hL rfl (fun w9 hS9 => ?_) (by exact ⟨XO.out, X1.out⟩) ?_
    ·have q7 := hL.at_ 2 rfl
     rw [q7]
     obtain ⟨d9, hu9, hd9⟩ := rowBkT
     exact run_load_part 44 _ rfl g 1 (tnc (mT r) vN vS vW vL (noR o 0) nv vC) [.int .i64 (mT r), vS] 206 rfl hS9.2 rfl hu9 hd9 szBkT
    clear hL x
    intro x hL
    refine AnyTill.oneK 11 (by kernel_rfl) rfl HFF (by have hG := hL.at_ 7 rfl; simp [Region.wanted, yielded, hG]) (fun _ _ => rfl) hL rfl (fun K hK => ?_)
    have q8 := lhd (hL.at_ 0 rfl)
    have q10 := lhd (hL.at_ 1 rfl)
    go_simp
    refine calls_args (args2 := #[.agg #[.int .i64 (mT r), vS], .int .i64 (oS o)]) (by rw [q8.out, q10.out]) ?_
    refine (bkHas_any (mT r) (mS r) (oS o) vS wA F1.out.s.1 HR.out.b).mono ?_
    rintro e w2 ⟨rfl, hb⟩
    rw [HH.out]
    have XO2 := lhd (XO.out.below hb XO.out.lt)
    have X2 := lhd (X1.out.below hb hlt1)
    have F2 := lhd (F1.out.keep (.of hb hb1.out))
    have C2 := lhd (C1.out.below hb (Nat.le_refl _))
    have E2 := lhd (E1.out.trans (.of hb hb1.out))
    have hb2 := lhd (Nat.le_trans hb1.out hb.size)
    refine hK.out _ w2 ⟨XO2.out, X2.out⟩ ?_
    clear hK K hb XO X1 F1 C1 E1 hb1 hlt1
    clear hL q8 q10 x
    intro x hL
    refine AnyTill.takeK 12 (.bool true) rfl (by kernel_rfl) rfl rfl (by kernel_rfl) (by kernel_rfl) HFF (by have hG := hL.at_ 8 rfl; simp [Region.wanted, yielded, hG]) (fun _ _ => rfl) hL rfl (fun w9 hS9 => ?_) (by exact ⟨XO2.out, X2.out⟩) ?_
    ·have q11 := hL.at_ 0 rfl
     rw [q11]
     (go_simp; try rfl)
    clear hL x
    intro x hL
    refine AnyTill.takeK 13 (.bool true) rfl (by kernel_rfl) rfl rfl (by kernel_rfl) (by kernel_rfl) HFF (wanted_none rfl) (fun _ _ => rfl) hL rfl (fun w9 hS9 => ?_) (by exact ⟨XO2.out, X2.out⟩) ?_
    ·have q3 := hL.at_ 9 rfl
     have q12 := hL.at_ 0 rfl
     rw [q3, q12]
     (go_simp; try rfl)
    clear hL x
    intro x hL
    have XO := XO2
    have X1 := X2
    have F1 := F2
    have C1 := C2
    have E1 := E2
    have hb1 := hb2
    clear XO2 X2 F2 C2 E2 hb2
    obtain ⟨w1, hw1⟩ : ∃ q, w2 = q := ⟨_, rfl⟩
    rw [hw1] at XO X1 F1 C1 E1 hb1 ⊢
    clear hw1 w2
    have q13 := hL.at_ 0 rfl
    refine AnyTill.done (by kernel_rfl) ?_
    refine NoPanic.normal ?_
    rw [HFF.out]
    try dsimp only
    rw [q13]
    clear q13
    clear hL HFF
    have hlt1 := X1.out.lt
    go_wp2_with (refine wpList_store_fld rfl 25 _ _ rfl g 7 (tnc (mT r) vN vS vW vL (noR o 0) nv vC) (.int .i64 14) 206 rfl rfl X1.out szErT (by show 7 < 12; decide) rfl ?_)
    intro w3 e1 e2 e3 e4
    have F3 := lhd (F1.out.keep (.store X1.out (.inl rfl) hbg e2 e4))
    have C3 := lhd (C1.out.keep (T := fun e => e = 206) (.store X1.out rfl hbg e2 e4) (by decide))
    have E3 := lhd (E1.out.trans (.store X1.out hbg e2 e3 e4))
    have X3 : Hid (Blk w3 g (tnc (mT r) vN vS vW vL (oC o, oQ o, 14, [], 0, []) nv vC) 206) := e1
    clear e1 e2 e3 e4
    go_wp2
    refine ⟨rfl, _, results_none rfl _ _ _, ⟨_, rfl⟩, ?_, E3.out⟩
    rw [done1a r o hk hnl.out]
    unfold ofR rep
    exact ⟨vN, vS, vW, vL, nv, vC, X3.out, ⟨F3.out.n, F3.out.s, F3.out.t, F3.out.l, F3.out.x, hab⟩, C3.out, hbg⟩
end Go.Proofs.YtgfobinklijkpaaGreatDoor
