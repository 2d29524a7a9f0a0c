/-
  Texts K2.
-/
import Derived.Test.YtgfobinklijkpaaGreatDoorW01
import Derived.Test.YtgfobinklijkpaaGreatDoorW12
import Derived.Test.YtgfobinklijkpaaGreatDoorW18
import Derived.Test.YtgfobinklijkpaaGreatDoorW21
import Derived.Test.YtgfobinklijkpaaGreatDoorW25
import Derived.Test.YtgfobinklijkpaaGreatDoorW26
import Derived.Test.YtgfobinklijkpaaGreatDoorW31
import Derived.Test.YtgfobinklijkpaaGreatDoorW32
namespace Go.Proofs.YtgfobinklijkpaaGreatDoor
set_option maxRecDepth 100000
set_option maxHeartbeats 16000000
open Go.RowKit
theorem done3 (r : Rm) (o : Or) (h : oK o = 3) (f : Nat) (hf : setE (mN r) (oP o) (oV o) (oR o) = f) : doneR r o = ((setS (mN r) (oP o) (oV o) (oR o), mT r, mS r, mW r, mL r), rep (f : Int) [] (if f = 0 then nR (getS (setS (mN r) (oP o) (oV o) (oR o)) (oP o)) else 0) [], if f = 0 then [(2, oP o)] else []) := by
 unfold doneR
 rw [h, hf]
 rfl
theorem tnSet_any (a b g : Nat) (o : Or) (r : Rm) (w : World) (hR : RightR r) (h : TnP a b g w r (noR o 0) []) (_hi : fitI (oS o)) (hk : oK o = 3) :
 Calls Tryz.prog 150 #[.pointer (some ⟨g, 0, none⟩), .agg (orc o).toArray] w (TnQ a b g (doneR r o).1 (ofR o (doneR r o).2.1) (doneR r o).2.2 w) := by
 obtain ⟨vN, vS, vW, vL, nv, vC, hX, hF, hC, hbg⟩ := h
 have hab := hF.ab
 have X := lhd hX
 have F := lhd hF
 have C := lhd hC
 have hlt := hX.lt
 have HR := lhd hR
 clear hX hF hC hR
 go_enter Tryz.func150, Tryz.ntmps150
 go_wp2_with (refine wpList_box_blk rfl 86 _ rfl (orc o) rfl ?_)
 intro w1 b1 b2 b3
 obtain ⟨gO, hgO⟩ : ∃ q, w.heap.size = q := ⟨_, rfl⟩
 have hbO : b ≤ w.heap.size := by omega
 have hgo : g ≠ gO := by omega
 have hb1 := lhd (show b ≤ w1.heap.size by omega)
 have XO := lhd b1
 have X1 := lhd (X.out.below b3 hlt)
 have F1 := lhd (F.out.keep (.of b3 hbO))
 have C1 := lhd (C.out.below b3 (Nat.le_refl _))
 have E1 := lhd (Kp.of b3 hbO)
 have hlt1 := X1.out.lt
 rw [hgO] at XO ⊢
 clear b1 b2 b3 X F C hgO hlt hbO
 obtain ⟨f, hf⟩ : ∃ f : Nat, setE (mN r) (oP o) (oV o) (oR o) = f := ⟨_, rfl⟩
 have HF := lhd hf
 clear hf
 have XO := lhd XO.out.drew
 have X1 := lhd X1.out.drew
 have F1 := lhd (F1.out.keep (.of (Below.refl _ _).drew hb1.out))
 have C1 := lhd (C1.out.below ((Below.refl w1.heap.size w1).drew) (Nat.le_refl _))
 have E1 := lhd (E1.out.trans (.of (Below.refl _ _).drew hb1.out))
 have hb1 : Hid (b ≤ w1.drew.heap.size) := hb1.out
 have hlt1 : g < w1.drew.heap.size := X1.out.lt
 go_wp2
 obtain ⟨FF, hF⟩ : ∃ F : (Nat → Value) → Act, F = fun x => ⟨#[.pointer (some ⟨g, 0, none⟩), .agg (orc o).toArray, undef, .pointer (some ⟨gO, 0, none⟩), undef, undef, x 14, x 0, x 1, x 2, x 3, x 4, x 5, x 6, x 7, x 8, x 9, x 10, x 11, x 12, x 13, x 15, x 16, x 17, x 18, x 19, x 21, x 22, x 23, undef, undef, undef, undef, undef, undef, undef, undef, undef, undef, undef, undef, undef, undef, undef, undef, undef, undef, undef, undef, undef, undef, undef, undef, undef, undef, undef], []⟩ := ⟨_, rfl⟩
 have HFF := lhd hF
 refine wp_region_tillK 25 FF (fun k => [undef, undef, undef, undef, undef, undef, undef, undef, undef, undef, undef, undef, undef, undef, undef, undef, undef, undef, undef, undef, undef, undef, undef, undef, undef].getD k undef) (fun w9 => Blk w9 gO (orc o) 86) (by rw [hF]; rfl) rfl (by kernel_rfl) ?_
 intro x hL
 clear hF
 obtain ⟨wA, hwA⟩ : ∃ q, w1.drew = q := ⟨_, rfl⟩
 rw [hwA] at XO X1 F1 C1 E1 hb1 hlt1 ⊢
 clear hwA
 refine AnyTill.tk 0 (.pointer (some ⟨g, 0, none⟩)) (wanted_none rfl) HFF hL (fun w9 hS9 => ?_) XO.out ?_
 ·(go_simp; try rfl)
 clear hL x
 intro x hL
 refine AnyTill.tk 1 (.pointer (some ⟨g, 0, none⟩)) (wanted_none rfl) HFF hL (fun w9 hS9 => ?_) XO.out ?_
 ·(go_simp; try rfl)
 clear hL x
 intro x hL
 refine AnyTill.tk 2 (.pointer (some ⟨g, 0, none⟩)) (wanted_none rfl) HFF hL (fun w9 hS9 => ?_) XO.out ?_
 ·(go_simp; try rfl)
 clear hL x
 intro x hL
 refine AnyTill.tk 3 (.pointer (some ⟨g, 0, none⟩)) (wanted_none rfl) HFF hL (fun w9 hS9 => ?_) XO.out ?_
 ·have q2 := hL.at_ 0 rfl
  rw [q2]
  (go_simp; try rfl)
 clear hL x
 intro x hL
 refine AnyTill.tk 4 (.pointer (some ⟨g, 0, none⟩)) (wanted_none rfl) HFF hL (fun w9 hS9 => ?_) XO.out ?_
 ·have q3 := hL.at_ 0 rfl
  rw [q3]
  (go_simp; try rfl)
 clear hL x
 intro x hL
 refine AnyTill.tk 5 (.pointer (some ⟨g, 0, none⟩)) (wanted_none rfl) HFF hL (fun w9 hS9 => ?_) XO.out ?_
 ·have q4 := hL.at_ 0 rfl
  rw [q4]
  (go_simp; try rfl)
 clear hL x
 intro x hL
 refine AnyTill.tk 7 (.pointer (some ⟨gO, 3, none⟩)) (wanted_none rfl) HFF hL (fun w9 hS9 => ?_) XO.out ?_
 ·(go_simp; try rfl)
 clear hL x
 intro x hL
 refine AnyTill.tk 8 (txt (oP o)) (wanted_none rfl) HFF hL (fun w9 hS9 => ?_) XO.out ?_
 ·have q7 := hL.at_ 0 rfl
  rw [q7]
  have cc := hS9.at_ 3 _ rfl
  (go_simp; try rfl)
 clear hL x
 intro x hL
 refine AnyTill.tk 9 (.pointer (some ⟨gO, 4, none⟩)) (wanted_none rfl) HFF hL (fun w9 hS9 => ?_) XO.out ?_
 ·(go_simp; try rfl)
 clear hL x
 intro x hL
 refine AnyTill.tk 10 (txt (oV o)) (wanted_none rfl) HFF hL (fun w9 hS9 => ?_) XO.out ?_
 ·have q9 := hL.at_ 0 rfl
  rw [q9]
  have cc := hS9.at_ 4 _ rfl
  (go_simp; try rfl)
 clear hL x
 intro x hL
 refine AnyTill.tk 11 (.pointer (some ⟨gO, 5, none⟩)) (wanted_none rfl) HFF hL (fun w9 hS9 => ?_) XO.out ?_
 ·(go_simp; try rfl)
 clear hL x
 intro x hL
 refine AnyTill.tk 12 (.int .i64 (oR o)) (wanted_none rfl) HFF hL (fun w9 hS9 => ?_) XO.out ?_
 ·have q11 := hL.at_ 0 rfl
  rw [q11]
  have cc := hS9.at_ 5 _ rfl
  (go_simp; try rfl)
 clear hL x
 intro x hL
 refine AnyTill.oneK 6 (by kernel_rfl) rfl HFF (wanted_none rfl) (fun _ _ => rfl) hL rfl (fun K hK => ?_)
 have q5 := lhd (hL.at_ 6 rfl)
 obtain ⟨d9, hu9, hd9⟩ := rowShT
 refine wp_load_part 41 _ rfl g 0 (tnc (mT r) vN vS vW vL (noR o 0) nv vC) [vN] 206 q5.out X1.out rfl hu9 hd9 szShT ?_
 refine hK.out _ _ XO.out ?_
 clear hK K
 clear hL q5 x
 intro x hL
 refine AnyTill.oneK 13 (by kernel_rfl) rfl HFF (wanted_none rfl) (fun _ _ => rfl) hL rfl (fun K hK => ?_)
 have q6 := lhd (hL.at_ 0 rfl)
 have q8 := lhd (hL.at_ 5 rfl)
 have q10 := lhd (hL.at_ 3 rfl)
 have q12 := lhd (hL.at_ 1 rfl)
 go_simp
 refine calls_args (args2 := #[.agg #[vN], txt (oP o), txt (oV o), .int .i64 (oR o)]) (by rw [q6.out, q8.out, q10.out, q12.out]) ?_
 refine (shSet_own (mN r) (oP o) (oV o) (oR o) vN wA F1.out.n.1 (by have := HR.out.n.few; omega) ((rightN_iff _).2 HR.out.n)).mono ?_
 rintro e w2 ⟨u, rfl, hr, ho, hb⟩
 rw [HF.out]
 have G2 := lhd (F1.out.n.next hr.toE (ho.imp id OwnNd.toE) hb (Nat.le_trans hab hb1.out))
 obtain ⟨Au, cu, hu, -, -⟩ := hr.shape
 obtain ⟨nu, hnu⟩ : ∃ q, (setS (mN r) (oP o) (oV o) (oR o)).length = q := ⟨_, rfl⟩
 rw [hnu] at hu
 clear hnu
 subst hu
 clear hr ho
 have XO2 := lhd (XO.out.below hb XO.out.lt)
 have X2 := lhd (X1.out.below hb hlt1)
 have F2 := lhd (F1.out.keep (.of hb hb1.out))
 have C2 := lhd (C1.out.below hb (Nat.le_refl _))
 have E2 := lhd (E1.out.trans (.of hb hb1.out))
 have hb2 := lhd (Nat.le_trans hb1.out hb.size)
 refine hK.out _ w2 XO2.out ?_
 clear hK K hb XO X1 F1 C1 E1 hb1 hlt1
 clear hL q6 q8 q10 q12 x
 intro x hL
 refine AnyTill.tk 14 (.tuple #[.agg #[.slice Au nu cu], .int .i64 (f : Int)]) (wanted_none rfl) HFF hL (fun w9 hS9 => ?_) XO2.out ?_
 ·have q13 := hL.at_ 0 rfl
  rw [q13]
  (go_simp; try rfl)
 clear hL x
 intro x hL
 refine AnyTill.tk 15 (.agg #[.slice Au nu cu]) (wanted_none rfl) HFF hL (fun w9 hS9 => ?_) XO2.out ?_
 ·have q14 := hL.at_ 0 rfl
  rw [q14]
  (go_simp; try rfl)
 clear hL x
 intro x hL
 refine AnyTill.tk 16 (.int .i64 (f : Int)) (wanted_none rfl) HFF hL (fun w9 hS9 => ?_) XO2.out ?_
 ·have q14 := hL.at_ 1 rfl
  rw [q14]
  (go_simp; try rfl)
 clear hL x
 intro x hL
 refine AnyTill.tk 17 (.pointer (some ⟨g, 0, none⟩)) (wanted_none rfl) HFF hL (fun w9 hS9 => ?_) XO2.out ?_
 ·have q0 := hL.at_ 16 rfl
  rw [q0]
  (go_simp; try rfl)
 clear hL x
 intro x hL
 refine AnyTill.tk 18 (.pointer (some ⟨g, 0, none⟩)) (wanted_none rfl) HFF hL (fun w9 hS9 => ?_) XO2.out ?_
 ·have q17 := hL.at_ 0 rfl
  rw [q17]
  (go_simp; try rfl)
 clear hL x
 intro x hL
 refine AnyTill.tk 19 (.pointer (some ⟨g, 0, none⟩)) (wanted_none rfl) HFF hL (fun w9 hS9 => ?_) XO2.out ?_
 ·have q18 := hL.at_ 0 rfl
  rw [q18]
  (go_simp; try rfl)
 clear hL x
 intro x hL
 have q19 := hL.at_ 0 rfl
 have q15 := hL.at_ 4 rfl
 refine AnyTill.store1 20 (by kernel_rfl) rfl HFF (g := g) (a := 0) (cs := (tnc (mT r) vN vS vW vL (noR o 0) nv vC)) (vs := [.slice Au nu cu]) (u := 206) ⟨_, _, _, rfl, rfl, rfl, q19, .inl q15, szShT, (one_of rfl)⟩ X2.out (by show 1 ≤ 12; decide) (fun w9 z1 z2 => XO2.out.same (z2 gO hgo.symm)) ?_
 intro w3 e1 e2 e3 e4
 clear q19 q15
 have X3 := lhd e1
 have F3 := lhd (F2.out.keep (.store X2.out (.inl rfl) hbg e2 e4))
 have C3 := lhd (C2.out.keep (T := fun e => e = 206) (.store X2.out rfl hbg e2 e4) (by decide))
 have G3 := lhd (G2.out.keep (.store X2.out (.inl rfl) hbg e2 e4) TT_nd hab)
 have E3 := lhd (E2.out.trans (.store X2.out hbg e2 e3 e4))
 have hb3 := lhd (show b ≤ w3.heap.size by rw [e2]; exact hb2.out)
 have XO3 := lhd (XO2.out.same (e4 gO hgo.symm))
 clear e1 e2 e3 e4 X2 F2 C2 G2 E2 hb2 XO2
 have X3 : Hid (Blk w3 g (tnc (mT r) (.slice Au nu cu) vS vW vL (noR o 0) nv vC) 206) := X3.out
 refine AnyTill.tk 21 (.pointer (some ⟨g, 0, none⟩)) (wanted_none rfl) HFF hL (fun w9 hS9 => ?_) XO3.out ?_
 ·have q1 := hL.at_ 18 rfl
  rw [q1]
  (go_simp; try rfl)
 clear hL x
 intro x hL
 refine AnyTill.tk 22 (.pointer (some ⟨g, 5, none⟩)) (wanted_none rfl) HFF hL (fun w9 hS9 => ?_) XO3.out ?_
 ·have q21 := hL.at_ 0 rfl
  rw [q21]
  (go_simp; try rfl)
 clear hL x
 intro x hL
 refine AnyTill.tk 23 (.pointer (some ⟨g, 7, none⟩)) (wanted_none rfl) HFF hL (fun w9 hS9 => ?_) XO3.out ?_
 ·have q22 := hL.at_ 0 rfl
  rw [q22]
  (go_simp; try rfl)
 clear hL x
 intro x hL
 have q23 := hL.at_ 0 rfl
 have q16 := hL.at_ 6 rfl
 refine AnyTill.store1 24 (by kernel_rfl) rfl HFF (g := g) (a := 7) (cs := (tnc (mT r) (.slice Au nu cu) vS vW vL (noR o 0) nv vC)) (vs := [.int .i64 (f : Int)]) (u := 206) ⟨_, _, _, rfl, rfl, rfl, q23, .inr (by rw [show _ = _ from q16]; rfl), szErT, (one_of rfl)⟩ X3.out (by show 8 ≤ 12; decide) (fun w9 z1 z2 => XO3.out.same (z2 gO hgo.symm)) ?_
 intro w4 e1 e2 e3 e4
 clear q23 q16
 have X4 : Hid (Blk w4 g (tnc (mT r) (.slice Au nu cu) vS vW vL (oC o, oQ o, (f : Int), [], 0, []) nv vC) 206) := e1
 have F4 := lhd (F3.out.keep (.store X3.out (.inl rfl) hbg e2 e4))
 have C4 := lhd (C3.out.keep (T := fun e => e = 206) (.store X3.out rfl hbg e2 e4) (by decide))
 have G4 := lhd (G3.out.keep (.store X3.out (.inl rfl) hbg e2 e4) TT_nd hab)
 have E4 := lhd (E3.out.trans (.store X3.out hbg e2 e3 e4))
 have hb4 := lhd (show b ≤ w4.heap.size by rw [e2]; exact hb3.out)
 have XO4 := lhd (XO3.out.same (e4 gO hgo.symm))
 clear e1 e2 e3 e4 X3 F3 C3 G3 E3 hb3 XO3
 refine AnyTill.done (by kernel_rfl) ?_
 refine NoPanic.normal ?_
 rw [HFF.out]
 try dsimp only
 clear hL HFF
 have HT := lhd (show TnP a b g w4 (setS (mN r) (oP o) (oV o) (oR o), mT r, mS r, mW r, mL r) (oC o, oQ o, (f : Int), [], 0, []) [] from ⟨(.slice Au nu cu), vS, vW, vL, nv, vC, X4.out, ⟨G4.out, F4.out.s, F4.out.t, F4.out.l, F4.out.x, hab⟩, C4.out, hbg⟩)
 have cp := XO4.out.at_ 3 _ rfl
 clear X4 F4 C4 G4
 go_wp2_with fail
 refine (tnChanged_any a b g 2 (oP o) (setS (mN r) (oP o) (oV o) (oR o), mT r, mS r, mW r, mL r) (oC o, oQ o, (f : Int), [], 0, []) [] w4 HT.out (by simp)).mono ?_
 rintro e w5 ⟨⟨vq, rfl⟩, hT, hb⟩
 have HT5 := lhd hT
 have E5 := lhd (E4.out.trans hb)
 have XO5 := lhd (XO4.out.keepT hb.k TT_or)
 clear hT hb cp HT E4 XO4
 obtain ⟨R5, hR5⟩ : ∃ q : Rm, (setS (mN r) (oP o) (oV o) (oR o), mT r, mS r, mW r, mL r) = q := ⟨_, rfl⟩
 obtain ⟨cs5, hcs5⟩ : ∃ q, noteR (oC o, oQ o, (f : Int), [], 0, []) [] (2, oP o) = q := ⟨_, rfl⟩
 have HR5 := lhd hR5
 have HC5 := lhd hcs5
 rw [hR5, hcs5] at HT5
 have hmN : setS (mN r) (oP o) (oV o) (oR o) = mN R5 := by rw [← hR5]
 have HMN := lhd hmN
 clear hR5 hcs5 hmN
 obtain ⟨vN, vS, vW, vL, nv, vC, hX, hF, hC, -⟩ := HT5.out
 have c7 : w5.cell? ⟨g, 7, none⟩ = some (.int .i64 (f : Int)) := hX.at_ 7 _ rfl
 by_cases hf : f = 0
 ·have HZ : Hid (f = 0) := lhd hf
  subst hf
  have XO := XO5
  have X1 := lhd hX
  have F1 := lhd hF
  have C1 := lhd hC
  have E1 := E5
  have hb1 := lhd E5.out.le
  have hlt1 := hX.lt
  clear hX hF hC HT5 XO5 E5 HZ
  obtain ⟨f, hf⟩ : ∃ f : Nat, getE (mN R5) (oP o) = f := ⟨_, rfl⟩
  obtain ⟨nn, hnn⟩ : ∃ q, getS (mN R5) (oP o) = q := ⟨_, rfl⟩
  have HNN := lhd hnn
  obtain ⟨wa, hwa⟩ : ∃ q, w5 = q := ⟨_, rfl⟩
  rw [hwa] at XO X1 F1 C1 E1 hb1 hlt1 c7 ⊢
  clear hwa w5
  have HC9 : Hid (∀ w', Below wa.heap.size wa w' → Calls Tryz.prog 178 #[.agg #[vN], txt (oP o)] w' (fun e w9 => e = .returned (.tuple #[ndv nn, .int .i64 (f : Int)]) ∧ Below w'.heap.size w' w9)) := by
   intro w' hb'
   have h1 := shGet_any (mN R5) (oP o) vN w' (((RdNd.ofE F1.out.n.1).below hb').more hb'.size)
   rw [hnn, hf] at h1
   exact h1
  clear hf hnn
  have hgOa := XO.out.lt
  go_wp2
  obtain ⟨x8, hx8⟩ : ∃ q, x = q := ⟨_, rfl⟩
  rw [hx8]
  clear hx8 x
  refine wp_region_relyF [10] 12 2 (fun x => ⟨#[.pointer (some { block := g, off := 0 }), .agg (orc o).toArray, undef, .pointer (some { block := gO, off := 0 }), x 11, undef, x8 14, x8 0, x8 1, x8 2, x8 3, x8 4, x8 5, x8 6, x8 7, x8 8, x8 9, x8 10, x8 11, x8 12, x8 13, x8 15, x8 16, x8 17, x8 18, x8 19, x8 21, x8 22, x8 23, .pointer (some { block := g, off := 0 }), .pointer (some { block := gO, off := 3 }), txt (oP o), vq, .pointer (some { block := g, off := 0 }), .pointer (some { block := g, off := 0 }), .pointer (some { block := g, off := 5 }), .pointer (some { block := g, off := 7 }), .int IntKind.i64 0, .bool true, x 8, x 0, x 1, x 2, x 3, x 4, x 5, x 6, x 7, x 9, x 10, undef, undef, undef, undef, undef, undef], []⟩) (fun jj => ([eqV (.pointer (some { block := g, off := 0 })), eqV (.pointer (some ⟨g, 0, none⟩)), eqV (.pointer (some ⟨g, 0, none⟩)), eqV (.pointer (some ⟨g, 0, none⟩)), eqV (.agg #[vN]), eqV (.pointer (some ⟨gO, 3, none⟩)), eqV (txt (oP o)), (eqV (.tuple #[ndv nn, .int .i64 (f : Int)])), eqV (.tuple #[ndv nn, .int .i64 (f : Int)]), eqV (ndv nn), eqV (.int .i64 (f : Int)), (NewBx 157 (ndc nd0) wa.heap.size)] : List (Value → World → Prop)).getD jj (fun _ _ => True)) rfl ⟨fun kk => [_, _, _, _, _, _, _, _, _, _, _, _].getD kk undef, rfl⟩ (by kernel_rfl) (by kernel_rfl) (by kernel_rfl) ?pure ?steps ?fin
  case steps =>
   refine StepsAt.val 0 (.pointer (some { block := g, off := 0 })) rfl (fun _ _ => rfl) rfl rfl (fun x w1 hb hd => ?_) ?_
   ·(go_simp; try rfl)
   refine StepsAt.val 1 (.pointer (some ⟨g, 0, none⟩)) rfl (fun _ _ => rfl) rfl rfl (fun x w1 hb hd => ?_) ?_
   ·have h0 : x 0 = .pointer (some { block := g, off := 0 }) := hd 0 (by kernel_rfl)
    rw [h0]
    (go_simp; try rfl)
   refine StepsAt.val 2 (.pointer (some ⟨g, 0, none⟩)) rfl (fun _ _ => rfl) rfl rfl (fun x w1 hb hd => ?_) ?_
   ·have h1 : x 1 = .pointer (some ⟨g, 0, none⟩) := hd 1 (by kernel_rfl)
    rw [h1]
    (go_simp; try rfl)
   refine StepsAt.val 3 (.pointer (some ⟨g, 0, none⟩)) rfl (fun _ _ => rfl) rfl rfl (fun x w1 hb hd => ?_) ?_
   ·have h2 : x 2 = .pointer (some ⟨g, 0, none⟩) := hd 2 (by kernel_rfl)
    rw [h2]
    (go_simp; try rfl)
   refine StepsAt.val 4 (.agg #[vN]) rfl (fun _ _ => rfl) rfl rfl (fun x w1 hb hd => ?_) ?_
   ·have h3 : x 3 = .pointer (some ⟨g, 0, none⟩) := hd 3 (by kernel_rfl)
    obtain ⟨d9, hu9, hd9⟩ := rowShT
    refine run_load_part 41 _ rfl g 0 (tnc (mT R5) vN vS vW vL (oC o, oQ o, ((0 : Nat) : Int), [], 0, []) nv vC) [vN] 206 ?_ (X1.out.below hb X1.out.lt) rfl hu9 hd9 szShT
    rw [h3]
    rfl
   refine StepsAt.val 5 (.pointer (some ⟨gO, 3, none⟩)) rfl (fun _ _ => rfl) rfl rfl (fun x w1 hb hd => ?_) ?_
   ·(go_simp; try rfl)
   refine StepsAt.val 6 (txt (oP o)) rfl (fun _ _ => rfl) rfl rfl (fun x w1 hb hd => ?_) ?_
   ·have h5 : x 5 = .pointer (some ⟨gO, 3, none⟩) := hd 5 (by kernel_rfl)
    have cc := ((XO.out.below hb XO.out.lt).cell 3).trans (show _ = some (txt (oP o)) from rfl)
    rw [h5]
    (go_simp; try rfl)
   refine StepsAt.cons 7 (fun _ _ _ h hb => h) (fun _ _ => rfl) rfl rfl (fun x w1 hb hd K hK => ?_) ?_
   ·have h4 : Hid (x 4 = .agg #[vN]) := hd 4 (by kernel_rfl)
    have h6 : Hid (x 6 = txt (oP o)) := hd 6 (by kernel_rfl)
    go_simp
    refine calls_args (args2 := #[.agg #[vN], txt (oP o)]) (by rw [h4.out, h6.out]) ?_
    refine (HC9.out w1 hb).mono ?_
    rintro e w99 ⟨rfl, hb99⟩
    exact hK.out _ _ hb99 rfl
   refine StepsAt.val 8 (.tuple #[ndv nn, .int .i64 (f : Int)]) rfl (fun _ _ => rfl) rfl rfl (fun x w1 hb hd => ?_) ?_
   ·have h7 : x 7 = .tuple #[ndv nn, .int .i64 (f : Int)] := hd 7 (by kernel_rfl)
    rw [h7]
    (go_simp; try rfl)
   refine StepsAt.val 9 (ndv nn) rfl (fun _ _ => rfl) rfl rfl (fun x w1 hb hd => ?_) ?_
   ·have h8 : x 8 = .tuple #[ndv nn, .int .i64 (f : Int)] := hd 8 (by kernel_rfl)
    rw [h8]
    (go_simp; try rfl)
   refine StepsAt.val 10 (.int .i64 (f : Int)) rfl (fun _ _ => rfl) rfl rfl (fun x w1 hb hd => ?_) ?_
   ·have h8 : x 8 = .tuple #[ndv nn, .int .i64 (f : Int)] := hd 8 (by kernel_rfl)
    rw [h8]
    (go_simp; try rfl)
   refine StepsAt.cons 11 (fun _ _ _ h hb => h.keep hb) (fun _ _ => rfl) rfl rfl (fun x w1 hb hd K hK => ?_) ?_
   ·refine wp_of_list rfl (wpList_alloc_blk rfl 157 rfl (ndc nd0) zPN ?_)
    intro w8 a1 a2 a3
    exact hK.out _ _ a3 ⟨_, rfl, a1, hb.size⟩
   exact StepsAt.done
  case pure =>
   intro p hp op ho xx w1 hd
   obtain rfl := List.mem_singleton.1 hp
   injection ho with ho
   subst ho
   have h8 : xx 8 = .tuple #[ndv nn, .int .i64 (f : Int)] := hd 8 (by kernel_rfl)
   refine ⟨rfl, .int .i64 (f : Int), fun w' => ?_, rfl⟩
   dsimp only
   rw [h8]
   (go_simp; try rfl)
  case fin =>
   intro xx w1 hb hd
   obtain ⟨gn, hxp, hbA, hgA⟩ : NewBx 157 (ndc nd0) wa.heap.size (xx 11) w1 := hd 11 (by omega)
   have hxv : xx 9 = ndv nn := hd 9 (by omega)
   have hxs : xx 10 = .int .i64 (f : Int) := hd 10 (by omega)
   have BA := lhd hbA
   have EB := lhd hb
   refine AnyTill.any (S := fun _ => True) (m := 14) _ _ _ _ ?_
   rw [hxv, hxp, hxs]
   clear hd hb hxv hxp hxs hbA
   refine AnyTill.one (i := 12) (by kernel_rfl) rfl (by rfl) (fun K hK => ?_)
   refine wp_of_list rfl (wpList_store_to rfl 157 _ _ rfl gn (ndc nn) (ndc nd0) 157 rfl rfl BA.out sPN rfl (enc_all NdK nn) ?_)
   intro w2 e1 e2 e3 e4
   refine hK.out _ _ (.inr trivial) ?_
   clear hK K
   refine AnyTill.one (i := 13) (by kernel_rfl) rfl (by rfl) (fun K hK => ?_)
   go_simp
   refine hK.out _ _ (.inr trivial) ?_
   clear hK K
   refine AnyTill.done (by kernel_rfl) ?_
   refine NoPanic.normal ?_
   try dsimp only
   have XN := lhd e1
   have hB2 := lhd (EB.out.trans (e3.mono hgA))
   clear e1 e2 e3 e4 BA EB
   have X1 := lhd (X1.out.below hB2.out hlt1)
   have F1 := lhd (F1.out.keep (.of hB2.out hb1.out))
   have C1 := lhd (C1.out.below hB2.out (Nat.le_refl _))
   have E1 := lhd (E1.out.trans (.of hB2.out hb1.out))
   have hgn : g ≠ gn := by omega
   have cn := XN.out.at_ 2 _ rfl
   clear hgA hB2 HC9 XO
   go_wp2_with (refine wpList_store_fld rfl 3 _ _ rfl g 9 (tnc (mT R5) vN vS vW vL (oC o, oQ o, ((0 : Nat) : Int), [], 0, []) nv vC) (.int .i64 (nR nn)) 206 rfl rfl X1.out szInT (by show 9 < 12; decide) rfl ?_)
   intro w3 e1 e2 e3 e4
   have F3 := lhd (F1.out.keep (.store X1.out (.inl rfl) hbg e2 e4))
   have C3 := lhd (C1.out.keep (T := fun e => e = 206) (.store X1.out rfl hbg e2 e4) (by decide))
   have E3 := lhd (E1.out.trans (.store X1.out hbg e2 e3 e4))
   have X3 : Hid (Blk w3 g (tnc (mT R5) vN vS vW vL (oC o, oQ o, 0, [], nR nn, []) nv vC) 206) := e1
   clear e1 e2 e3 e4
   go_wp2
   refine ⟨rfl, _, results_none rfl _ _ _, ⟨_, rfl⟩, ?_, E3.out⟩
   rw [done3 r o hk 0 HF.out, if_pos rfl]
   unfold ofR rep
   rw [HMN.out, HNN.out]
   have hq := HR5.out
   have hc := HC5.out
   rw [noteR, if_pos (show pE (oC o, oQ o, ((0 : Nat) : Int), [], 0, []) = 0 from rfl)] at hc
   rw [HMN.out] at hq
   rw [hq, if_pos (rfl : (0 : Nat) = 0)]
   have c3 := C3.out
   rw [← hc] at c3
   exact ⟨vN, vS, vW, vL, nv, vC, X3.out, ⟨F3.out.n, F3.out.s, F3.out.t, F3.out.l, F3.out.x, hab⟩, c3, hbg⟩
 ·have hE : ((f : Int) == 0) = false := by rw [beq_eq_false_iff_ne]; omega
  have HNF := lhd hf
  clear hf hX hF hC
  go_wp2
  refine ⟨rfl, _, results_none rfl _ _ _, ⟨_, rfl⟩, ?_, E5.out⟩
  rw [done3 r o hk f HF.out, if_neg HNF.out]
  unfold ofR rep
  have hc := HC5.out
  rw [noteR, if_neg (show ¬ pE (oC o, oQ o, (f : Int), [], 0, []) = 0 from fun e => HNF.out (Int.ofNat.inj e))] at hc
  rw [if_neg HNF.out]
  have h9 := HT5.out
  rw [← HR5.out, ← hc] at h9
  exact h9
end Go.Proofs.YtgfobinklijkpaaGreatDoor
