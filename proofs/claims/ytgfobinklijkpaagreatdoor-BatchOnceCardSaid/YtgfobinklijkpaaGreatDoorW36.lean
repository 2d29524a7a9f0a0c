/-
  Texts IY IZ K5.
-/
import Derived.Test.YtgfobinklijkpaaGreatDoorW01
import Derived.Test.YtgfobinklijkpaaGreatDoorW12
import Derived.Test.YtgfobinklijkpaaGreatDoorW18
import Derived.Test.YtgfobinklijkpaaGreatDoorW21
import Derived.Test.YtgfobinklijkpaaGreatDoorW26
import Derived.Test.YtgfobinklijkpaaGreatDoorW29
import Derived.Test.YtgfobinklijkpaaGreatDoorW30
import Derived.Test.YtgfobinklijkpaaGreatDoorW31
import Derived.Test.YtgfobinklijkpaaGreatDoorW32
import Derived.Test.YtgfobinklijkpaaGreatDoorW33
import Derived.Test.YtgfobinklijkpaaGreatDoorW34
import Derived.Test.YtgfobinklijkpaaGreatDoorW35
namespace Go.Proofs.YtgfobinklijkpaaGreatDoor
set_option maxRecDepth 100000
set_option maxHeartbeats 16000000
open Go.RowKit
theorem tnGet_any (a b g : Nat) (o : Or) (r : Rm) (w : World) (hR : RightR r) (h : TnP a b g w r (noR o 0) []) (_hi : fitI (oS o)) (hk : oK o = 2) :
 Calls Tryz.prog 149 #[.pointer (some ⟨g, 0, none⟩), .agg (orc o).toArray] w (TnQ a b g (doneR r o).1 (ofR o (doneR r o).2.1) (doneR r o).2.2 w) := by
 obtain ⟨vN, vS, vW, vL, nv, vC, hX, hF, hC, hbg⟩ := h
 have hab := hF.ab
 have X := lhd hX
 have F := lhd hF
 have C := lhd hC
 have hlt := hX.lt
 have HR := lhd hR
 clear hX hF hC hR
 go_enter Tryz.func149, Tryz.ntmps149
 go_wp2_with (refine wpList_box_blk rfl 86 _ rfl (orc o) rfl ?_)
 intro w1 b1 b2 b3
 obtain ⟨gO, hgO⟩ : ∃ q, w.heap.size = q := ⟨_, rfl⟩
 have hbO : b ≤ w.heap.size := by omega
 have hgo : g ≠ gO := by omega
 have hb1 := lhd (show b ≤ w1.heap.size by omega)
 have XO := lhd b1
 have X1 := lhd (X.out.below b3 hlt)
 have F1 := lhd (F.out.keep (.of b3 hbO))
 have C1 := lhd (C.out.below b3 (Nat.le_refl _))
 have E1 := lhd (Kp.of b3 hbO)
 have hlt1 := X1.out.lt
 rw [hgO] at XO ⊢
 clear b1 b2 b3 X F C hgO hlt hbO
 obtain ⟨f, hf⟩ : ∃ f : Nat, getE (mN r) (oP o) = f := ⟨_, rfl⟩
 obtain ⟨nn, hnn⟩ : ∃ q, getS (mN r) (oP o) = q := ⟨_, rfl⟩
 have HF := lhd hf
 have HNN := lhd hnn
 have HC9 : Hid (∀ w', Below w1.heap.size w1 w' → Calls Tryz.prog 178 #[.agg #[vN], txt (oP o)] w' (fun e w9 => e = .returned (.tuple #[ndv nn, .int .i64 (f : Int)]) ∧ Below w'.heap.size w' w9)) := by
  intro w' hb'
  have h1 := shGet_any (mN r) (oP o) vN w' (((RdNd.ofE F1.out.n.1).below hb').more hb'.size)
  rw [hnn, hf] at h1
  exact h1
 clear hf hnn
 obtain ⟨wa, hwa⟩ : ∃ q, w1 = q := ⟨_, rfl⟩
 rw [hwa] at XO X1 F1 C1 E1 hb1 hlt1 HC9 ⊢
 clear hwa w1
 have hgOa := XO.out.lt
 go_wp2
 refine wp_region_relyF [10] 12 2 (fun x => ⟨#[.pointer (some ⟨g, 0, none⟩), .agg (orc o).toArray, undef, .pointer (some ⟨gO, 0, none⟩), x 11, undef, x 8, x 0, x 1, x 2, x 3, x 4, x 5, x 6, x 7, x 9, x 10, undef, undef, undef, undef, undef, undef, undef, undef, undef, undef, undef, undef, undef, undef, undef, undef, undef], []⟩) (fun jj => ([eqV (.pointer (some ⟨g, 0, none⟩)), eqV (.pointer (some ⟨g, 0, none⟩)), eqV (.pointer (some ⟨g, 0, none⟩)), eqV (.pointer (some ⟨g, 0, none⟩)), eqV (.agg #[vN]), eqV (.pointer (some ⟨gO, 3, none⟩)), eqV (txt (oP o)), (eqV (.tuple #[ndv nn, .int .i64 (f : Int)])), eqV (.tuple #[ndv nn, .int .i64 (f : Int)]), eqV (ndv nn), eqV (.int .i64 (f : Int)), (NewBx 157 (ndc nd0) wa.heap.size)] : List (Value → World → Prop)).getD jj (fun _ _ => True)) rfl ⟨fun kk => [_, _, _, _, _, _, _, _, _, _, _, _].getD kk undef, rfl⟩ (by kernel_rfl) (by kernel_rfl) (by kernel_rfl) ?pure ?steps ?fin
 case steps =>
  refine StepsAt.val 0 (.pointer (some ⟨g, 0, none⟩)) rfl (fun _ _ => rfl) rfl rfl (fun x w1 hb hd => ?_) ?_
  ·(go_simp; try rfl)
  refine StepsAt.val 1 (.pointer (some ⟨g, 0, none⟩)) rfl (fun _ _ => rfl) rfl rfl (fun x w1 hb hd => ?_) ?_
  ·have h0 : x 0 = .pointer (some ⟨g, 0, none⟩) := hd 0 (by kernel_rfl)
   rw [h0]
   (go_simp; try rfl)
  refine StepsAt.val 2 (.pointer (some ⟨g, 0, none⟩)) rfl (fun _ _ => rfl) rfl rfl (fun x w1 hb hd => ?_) ?_
  ·have h1 : x 1 = .pointer (some ⟨g, 0, none⟩) := hd 1 (by kernel_rfl)
   rw [h1]
   (go_simp; try rfl)
  refine StepsAt.val 3 (.pointer (some ⟨g, 0, none⟩)) rfl (fun _ _ => rfl) rfl rfl (fun x w1 hb hd => ?_) ?_
  ·have h2 : x 2 = .pointer (some ⟨g, 0, none⟩) := hd 2 (by kernel_rfl)
   rw [h2]
   (go_simp; try rfl)
  refine StepsAt.val 4 (.agg #[vN]) rfl (fun _ _ => rfl) rfl rfl (fun x w1 hb hd => ?_) ?_
  ·have h3 : x 3 = .pointer (some ⟨g, 0, none⟩) := hd 3 (by kernel_rfl)
   obtain ⟨d9, hu9, hd9⟩ := rowShT
   refine run_load_part 41 _ rfl g 0 (tnc (mT r) vN vS vW vL (noR o 0) nv vC) [vN] 206 ?_ (X1.out.below hb X1.out.lt) rfl hu9 hd9 szShT
   rw [h3]
   rfl
  refine StepsAt.val 5 (.pointer (some ⟨gO, 3, none⟩)) rfl (fun _ _ => rfl) rfl rfl (fun x w1 hb hd => ?_) ?_
  ·(go_simp; try rfl)
  refine StepsAt.val 6 (txt (oP o)) rfl (fun _ _ => rfl) rfl rfl (fun x w1 hb hd => ?_) ?_
  ·have h5 : x 5 = .pointer (some ⟨gO, 3, none⟩) := hd 5 (by kernel_rfl)
   have cc := ((XO.out.below hb XO.out.lt).cell 3).trans (show _ = some (txt (oP o)) from rfl)
   rw [h5]
   (go_simp; try rfl)
  refine StepsAt.cons 7 (fun _ _ _ h hb => h) (fun _ _ => rfl) rfl rfl (fun x w1 hb hd K hK => ?_) ?_
  ·have h4 : Hid (x 4 = .agg #[vN]) := hd 4 (by kernel_rfl)
   have h6 : Hid (x 6 = txt (oP o)) := hd 6 (by kernel_rfl)
   go_simp
   refine calls_args (args2 := #[.agg #[vN], txt (oP o)]) (by rw [h4.out, h6.out]) ?_
   refine (HC9.out w1 hb).mono ?_
   rintro e w99 ⟨rfl, hb99⟩
   exact hK.out _ _ hb99 rfl
  refine StepsAt.val 8 (.tuple #[ndv nn, .int .i64 (f : Int)]) rfl (fun _ _ => rfl) rfl rfl (fun x w1 hb hd => ?_) ?_
  ·have h7 : x 7 = .tuple #[ndv nn, .int .i64 (f : Int)] := hd 7 (by kernel_rfl)
   rw [h7]
   (go_simp; try rfl)
  refine StepsAt.val 9 (ndv nn) rfl (fun _ _ => rfl) rfl rfl (fun x w1 hb hd => ?_) ?_
  ·have h8 : x 8 = .tuple #[ndv nn, .int .i64 (f : Int)] := hd 8 (by kernel_rfl)
   rw [h8]
   (go_simp; try rfl)
  refine StepsAt.val 10 (.int .i64 (f : Int)) rfl (fun _ _ => rfl) rfl rfl (fun x w1 hb hd => ?_) ?_
  ·have h8 : x 8 = .tuple #[ndv nn, .int .i64 (f : Int)] := hd 8 (by kernel_rfl)
   rw [h8]
   (go_simp; try rfl)
  refine StepsAt.cons 11 (fun _ _ _ h hb => h.keep hb) (fun _ _ => rfl) rfl rfl (fun x w1 hb hd K hK => ?_) ?_
  ·refine wp_of_list rfl (wpList_alloc_blk rfl 157 rfl (ndc nd0) zPN ?_)
   intro w8 a1 a2 a3
   exact hK.out _ _ a3 ⟨_, rfl, a1, hb.size⟩
  exact StepsAt.done
 case pure =>
  intro p hp op ho xx w1 hd
  obtain rfl := List.mem_singleton.1 hp
  injection ho with ho
  subst ho
  have h8 : xx 8 = .tuple #[ndv nn, .int .i64 (f : Int)] := hd 8 (by kernel_rfl)
  refine ⟨rfl, .int .i64 (f : Int), fun w' => ?_, rfl⟩
  dsimp only
  rw [h8]
  (go_simp; try rfl)
 case fin =>
  intro xx w1 hb hd
  obtain ⟨gn, hxp, hbA, hgA⟩ : NewBx 157 (ndc nd0) wa.heap.size (xx 11) w1 := hd 11 (by omega)
  have hxv : xx 9 = ndv nn := hd 9 (by omega)
  have hxs : xx 10 = .int .i64 (f : Int) := hd 10 (by omega)
  have BA := lhd hbA
  have EB := lhd hb
  refine AnyTill.any (S := fun _ => True) (m := 14) _ _ _ _ ?_
  rw [hxv, hxp, hxs]
  clear hd hb hxv hxp hxs hbA
  refine AnyTill.one (i := 12) (by kernel_rfl) rfl (by rfl) (fun K hK => ?_)
  refine wp_of_list rfl (wpList_store_to rfl 157 _ _ rfl gn (ndc nn) (ndc nd0) 157 rfl rfl BA.out sPN rfl (enc_all NdK nn) ?_)
  intro w2 e1 e2 e3 e4
  refine hK.out _ _ (.inr trivial) ?_
  clear hK K
  refine AnyTill.one (i := 13) (by kernel_rfl) rfl (by rfl) (fun K hK => ?_)
  go_simp
  refine hK.out _ _ (.inr trivial) ?_
  clear hK K
  refine AnyTill.done (by kernel_rfl) ?_
  refine NoPanic.normal ?_
  try dsimp only
  have XN := lhd e1
  have hB2 := lhd (EB.out.trans (e3.mono hgA))
  clear e1 e2 e3 e4 BA EB
  have XO := lhd (XO.out.below hB2.out hgOa)
  have X1 := lhd (X1.out.below hB2.out hlt1)
  have F1 := lhd (F1.out.keep (.of hB2.out hb1.out))
  have C1 := lhd (C1.out.below hB2.out (Nat.le_refl _))
  have E1 := lhd (E1.out.trans (.of hB2.out hb1.out))
  have hb1 := lhd (Nat.le_trans hb1.out hB2.out.size)
  have hgn : g ≠ gn := by omega
  have XN := XN
  clear hgA hB2 HC9
  go_wp2
  have XN := lhd XN.out.drew
  have X1 := lhd X1.out.drew
  have F1 := lhd (F1.out.keep (.of (Below.refl _ _).drew hb1.out))
  have C1 := lhd (C1.out.below ((Below.refl w2.heap.size w2).drew) (Nat.le_refl _))
  have E1 := lhd (E1.out.trans (.of (Below.refl _ _).drew hb1.out))
  have hb1 : Hid (b ≤ w2.drew.heap.size) := hb1.out
  obtain ⟨FF, hF⟩ : ∃ F : (Nat → Value) → Act, F = fun x => ⟨#[.pointer (some ⟨g, 0, none⟩), .agg (orc o).toArray, undef, .pointer (some ⟨gO, 0, none⟩), .pointer (some ⟨gn, 0, none⟩), .int .i64 (f : Int), xx 8, xx 0, xx 1, xx 2, xx 3, xx 4, xx 5, xx 6, xx 7, ndv nn, .int .i64 (f : Int), x 0, x 1, x 2, x 3, x 4, x 5, x 6, x 7, x 8, x 9, x 10, x 12, x 13, x 14, x 16, x 17, x 18], []⟩ := ⟨_, rfl⟩
  have HFF := lhd hF
  refine wp_region_tillK 20 FF (fun k => [undef, undef, undef, undef, undef, undef, undef, undef, undef, undef, undef, undef, undef, undef, undef, undef, undef, undef, undef, undef].getD k undef) (fun w9 => Blk w9 gn (ndc nn) 157) (by rw [hF]; rfl) rfl (by kernel_rfl) ?_
  intro x hL
  clear hF
  obtain ⟨wA, hwA⟩ : ∃ q, w2.drew = q := ⟨_, rfl⟩
  rw [hwA] at XN X1 F1 C1 E1 hb1 ⊢
  clear hwA
  refine AnyTill.tk 0 (.pointer (some ⟨g, 0, none⟩)) (wanted_none rfl) HFF hL (fun w9 hS9 => ?_) XN.out ?_
  ·(go_simp; try rfl)
  clear hL x
  intro x hL
  refine AnyTill.tk 1 (.pointer (some ⟨g, 0, none⟩)) (wanted_none rfl) HFF hL (fun w9 hS9 => ?_) XN.out ?_
  ·(go_simp; try rfl)
  clear hL x
  intro x hL
  refine AnyTill.tk 2 (.pointer (some ⟨g, 0, none⟩)) (wanted_none rfl) HFF hL (fun w9 hS9 => ?_) XN.out ?_
  ·(go_simp; try rfl)
  clear hL x
  intro x hL
  refine AnyTill.tk 3 (.pointer (some ⟨gn, 1, none⟩)) (wanted_none rfl) HFF hL (fun w9 hS9 => ?_) XN.out ?_
  ·(go_simp; try rfl)
  clear hL x
  intro x hL
  refine AnyTill.tk 4 (txt (nV nn)) (wanted_none rfl) HFF hL (fun w9 hS9 => ?_) XN.out ?_
  ·have q3 := hL.at_ 0 rfl
   rw [q3]
   have cc := hS9.at_ 1 _ rfl
   (go_simp; try rfl)
  clear hL x
  intro x hL
  refine AnyTill.tk 5 (.pointer (some ⟨gn, 2, none⟩)) (wanted_none rfl) HFF hL (fun w9 hS9 => ?_) XN.out ?_
  ·(go_simp; try rfl)
  clear hL x
  intro x hL
  refine AnyTill.tk 6 (.int .i64 (nR nn)) (wanted_none rfl) HFF hL (fun w9 hS9 => ?_) XN.out ?_
  ·have q5 := hL.at_ 0 rfl
   rw [q5]
   have cc := hS9.at_ 2 _ rfl
   (go_simp; try rfl)
  clear hL x
  intro x hL
  refine AnyTill.tk 7 (.int .i64 (f : Int)) (wanted_none rfl) HFF hL (fun w9 hS9 => ?_) XN.out ?_
  ·(go_simp; try rfl)
  clear hL x
  intro x hL
  refine AnyTill.tk 8 (.pointer (some ⟨g, 0, none⟩)) (wanted_none rfl) HFF hL (fun w9 hS9 => ?_) XN.out ?_
  ·have q0 := hL.at_ 7 rfl
   rw [q0]
   (go_simp; try rfl)
  clear hL x
  intro x hL
  refine AnyTill.tk 9 (.pointer (some ⟨g, 5, none⟩)) (wanted_none rfl) HFF hL (fun w9 hS9 => ?_) XN.out ?_
  ·have q8 := hL.at_ 0 rfl
   rw [q8]
   (go_simp; try rfl)
  clear hL x
  intro x hL
  refine AnyTill.tk 10 (.pointer (some ⟨g, 8, none⟩)) (wanted_none rfl) HFF hL (fun w9 hS9 => ?_) XN.out ?_
  ·have q9 := hL.at_ 0 rfl
   rw [q9]
   (go_simp; try rfl)
  clear hL x
  intro x hL
  have q10 := hL.at_ 0 rfl
  have q4 := hL.at_ 6 rfl
  refine AnyTill.store1 11 (by kernel_rfl) rfl HFF (g := g) (a := 8) (cs := (tnc (mT r) vN vS vW vL (noR o 0) nv vC)) (vs := [txt (nV nn)]) (u := 206) ⟨_, _, _, rfl, rfl, rfl, q10, .inr (by rw [show _ = _ from q4]; rfl), szStT, (one_of rfl)⟩ X1.out (by show 9 ≤ 12; decide) (fun w9 z1 z2 => XN.out.same (z2 _ hgn.symm)) ?_
  intro wB0 e1 e2 e3 e4
  clear q10 q4
  have F1 := lhd (F1.out.keep (.store X1.out (.inl rfl) hbg e2 e4))
  have C1 := lhd (C1.out.keep (T := fun e => e = 206) (.store X1.out rfl hbg e2 e4) (by decide))
  have E1 := lhd (E1.out.trans (.store X1.out hbg e2 e3 e4))
  have hb1 := lhd (show b ≤ wB0.heap.size by rw [e2]; exact hb1.out)
  have XN := lhd (XN.out.same (e4 _ hgn.symm))
  have X1 : Hid (Blk wB0 g (tnc (mT r) vN vS vW vL (oC o, oQ o, 0, nV nn, 0, []) nv vC) 206) := e1
  clear e1 e2 e3 e4
  refine AnyTill.tk 12 (.pointer (some ⟨g, 0, none⟩)) (wanted_none rfl) HFF hL (fun w9 hS9 => ?_) XN.out ?_
  ·have q1 := hL.at_ 9 rfl
   rw [q1]
   (go_simp; try rfl)
  clear hL x
  intro x hL
  refine AnyTill.tk 13 (.pointer (some ⟨g, 5, none⟩)) (wanted_none rfl) HFF hL (fun w9 hS9 => ?_) XN.out ?_
  ·have q12 := hL.at_ 0 rfl
   rw [q12]
   (go_simp; try rfl)
  clear hL x
  intro x hL
  refine AnyTill.tk 14 (.pointer (some ⟨g, 9, none⟩)) (wanted_none rfl) HFF hL (fun w9 hS9 => ?_) XN.out ?_
  ·have q13 := hL.at_ 0 rfl
   rw [q13]
   (go_simp; try rfl)
  clear hL x
  intro x hL
  have q14 := hL.at_ 0 rfl
  have q6 := hL.at_ 7 rfl
  refine AnyTill.store1 15 (by kernel_rfl) rfl HFF (g := g) (a := 9) (cs := (tnc (mT r) vN vS vW vL (oC o, oQ o, 0, nV nn, 0, []) nv vC)) (vs := [.int .i64 (nR nn)]) (u := 206) ⟨_, _, _, rfl, rfl, rfl, q14, .inr (by rw [show _ = _ from q6]; rfl), szInT, (one_of rfl)⟩ X1.out (by show 10 ≤ 12; decide) (fun w9 z1 z2 => XN.out.same (z2 _ hgn.symm)) ?_
  intro wB1 e1 e2 e3 e4
  clear q14 q6
  have F1 := lhd (F1.out.keep (.store X1.out (.inl rfl) hbg e2 e4))
  have C1 := lhd (C1.out.keep (T := fun e => e = 206) (.store X1.out rfl hbg e2 e4) (by decide))
  have E1 := lhd (E1.out.trans (.store X1.out hbg e2 e3 e4))
  have hb1 := lhd (show b ≤ wB1.heap.size by rw [e2]; exact hb1.out)
  have XN := lhd (XN.out.same (e4 _ hgn.symm))
  have X1 : Hid (Blk wB1 g (tnc (mT r) vN vS vW vL (oC o, oQ o, 0, nV nn, nR nn, []) nv vC) 206) := e1
  clear e1 e2 e3 e4
  refine AnyTill.tk 16 (.pointer (some ⟨g, 0, none⟩)) (wanted_none rfl) HFF hL (fun w9 hS9 => ?_) XN.out ?_
  ·have q2 := hL.at_ 11 rfl
   rw [q2]
   (go_simp; try rfl)
  clear hL x
  intro x hL
  refine AnyTill.tk 17 (.pointer (some ⟨g, 5, none⟩)) (wanted_none rfl) HFF hL (fun w9 hS9 => ?_) XN.out ?_
  ·have q16 := hL.at_ 0 rfl
   rw [q16]
   (go_simp; try rfl)
  clear hL x
  intro x hL
  refine AnyTill.tk 18 (.pointer (some ⟨g, 7, none⟩)) (wanted_none rfl) HFF hL (fun w9 hS9 => ?_) XN.out ?_
  ·have q17 := hL.at_ 0 rfl
   rw [q17]
   (go_simp; try rfl)
  clear hL x
  intro x hL
  have q18 := hL.at_ 0 rfl
  have q7 := hL.at_ 9 rfl
  refine AnyTill.store1 19 (by kernel_rfl) rfl HFF (g := g) (a := 7) (cs := (tnc (mT r) vN vS vW vL (oC o, oQ o, 0, nV nn, nR nn, []) nv vC)) (vs := [.int .i64 (f : Int)]) (u := 206) ⟨_, _, _, rfl, rfl, rfl, q18, .inr (by rw [show _ = _ from q7]; rfl), szErT, (one_of rfl)⟩ X1.out (by show 8 ≤ 12; decide) (fun w9 z1 z2 => XN.out.same (z2 _ hgn.symm)) ?_
  intro wB2 e1 e2 e3 e4
  clear q18 q7
  have F1 := lhd (F1.out.keep (.store X1.out (.inl rfl) hbg e2 e4))
  have C1 := lhd (C1.out.keep (T := fun e => e = 206) (.store X1.out rfl hbg e2 e4) (by decide))
  have E1 := lhd (E1.out.trans (.store X1.out hbg e2 e3 e4))
  have hb1 := lhd (show b ≤ wB2.heap.size by rw [e2]; exact hb1.out)
  have XN := lhd (XN.out.same (e4 _ hgn.symm))
  have X1 : Hid (Blk wB2 g (tnc (mT r) vN vS vW vL (oC o, oQ o, (f : Int), nV nn, nR nn, []) nv vC) 206) := e1
  clear e1 e2 e3 e4
  refine AnyTill.done (by kernel_rfl) ?_
  refine NoPanic.normal ?_
  rw [HFF.out]
  try dsimp only
  clear hL HFF
  go_wp2
  refine ⟨rfl, _, results_none rfl _ _ _, ⟨_, rfl⟩, ?_, E1.out⟩
  rw [done2 r o hk]
  unfold ofR rep
  rw [HF.out, HNN.out]
  exact ⟨vN, vS, vW, vL, nv, vC, X1.out, ⟨F1.out.n, F1.out.s, F1.out.t, F1.out.l, F1.out.x, hab⟩, C1.out, hbg⟩
theorem tnAdd_any (a b g : Nat) (wt : Wa) (o : Or) (r : Rm) (w : World) (hR : RightR r) (h : TnP a b g w r (noR o 0) []) :
 Calls Tryz.prog 187 #[.pointer (some ⟨g, 0, none⟩), .agg (wac wt).toArray] w (TnQ a b g (mN r, mT r, mS r, addW (mW r) wt, mL r) (oC o, oQ o, (addE (mW r) wt : Int), [], 0, []) [] w) := by
 obtain ⟨vN, vS, vW, vL, nv, vC, hX, hF, hC, hbg⟩ := h
 have hab := hF.ab
 have X := lhd hX
 have F := lhd hF
 have C := lhd hC
 have hlt := hX.lt
 have HR := lhd hR
 clear hX hF hC hR
 go_enter Tryz.func187, Tryz.ntmps187
 go_wp2_with (refine wpList_box_blk rfl 163 _ rfl (wac wt) rfl ?_)
 intro w1 b1 b2 b3
 obtain ⟨gO, hgO⟩ : ∃ q, w.heap.size = q := ⟨_, rfl⟩
 have hbO : b ≤ w.heap.size := by omega
 have hgo : g ≠ gO := by omega
 have hb1 := lhd (show b ≤ w1.heap.size by omega)
 have XO := lhd b1
 have X1 := lhd (X.out.below b3 hlt)
 have F1 := lhd (F.out.keep (.of b3 hbO))
 have C1 := lhd (C.out.below b3 (Nat.le_refl _))
 have E1 := lhd (Kp.of b3 hbO)
 have hlt1 := X1.out.lt
 rw [hgO] at XO ⊢
 clear b1 b2 b3 X F C hgO hlt hbO
 obtain ⟨f, hf⟩ : ∃ f : Nat, addE (mW r) wt = f := ⟨_, rfl⟩
 have HF := lhd hf
 clear hf
 have XO := lhd XO.out.drew
 have X1 := lhd X1.out.drew
 have F1 := lhd (F1.out.keep (.of (Below.refl _ _).drew hb1.out))
 have C1 := lhd (C1.out.below ((Below.refl w1.heap.size w1).drew) (Nat.le_refl _))
 have E1 := lhd (E1.out.trans (.of (Below.refl _ _).drew hb1.out))
 have hb1 : Hid (b ≤ w1.drew.heap.size) := hb1.out
 have hlt1 : g < w1.drew.heap.size := X1.out.lt
 go_wp2
 obtain ⟨FF, hF⟩ : ∃ F : (Nat → Value) → Act, F = fun x => ⟨#[.pointer (some ⟨g, 0, none⟩), .agg (wac wt).toArray, undef, .pointer (some ⟨gO, 0, none⟩), x 9, x 0, x 1, x 2, x 3, x 4, x 5, x 6, x 7, x 8, x 10, x 11, x 12, x 13, x 14, x 16, x 17, x 18], []⟩ := ⟨_, rfl⟩
 have HFF := lhd hF
 refine wp_region_tillK 20 FF (fun k => [undef, undef, undef, undef, undef, undef, undef, undef, undef, undef, undef, undef, undef, undef, undef, undef, undef, undef, undef, undef].getD k undef) (fun w9 => Blk w9 gO (wac wt) 163) (by rw [hF]; rfl) rfl (by kernel_rfl) ?_
 intro x hL
 clear hF
 obtain ⟨wA, hwA⟩ : ∃ q, w1.drew = q := ⟨_, rfl⟩
 rw [hwA] at XO X1 F1 C1 E1 hb1 hlt1 ⊢
 clear hwA
 refine AnyTill.tk 0 (.pointer (some ⟨g, 0, none⟩)) (wanted_none rfl) HFF hL (fun w9 hS9 => ?_) XO.out ?_
 ·(go_simp; try rfl)
 clear hL x
 intro x hL
 refine AnyTill.tk 1 (.pointer (some ⟨g, 0, none⟩)) (wanted_none rfl) HFF hL (fun w9 hS9 => ?_) XO.out ?_
 ·(go_simp; try rfl)
 clear hL x
 intro x hL
 refine AnyTill.tk 2 (.pointer (some ⟨g, 0, none⟩)) (wanted_none rfl) HFF hL (fun w9 hS9 => ?_) XO.out ?_
 ·(go_simp; try rfl)
 clear hL x
 intro x hL
 refine AnyTill.tk 3 (.pointer (some ⟨g, 0, none⟩)) (wanted_none rfl) HFF hL (fun w9 hS9 => ?_) XO.out ?_
 ·have q2 := hL.at_ 0 rfl
  rw [q2]
  (go_simp; try rfl)
 clear hL x
 intro x hL
 refine AnyTill.tk 4 (.pointer (some ⟨g, 0, none⟩)) (wanted_none rfl) HFF hL (fun w9 hS9 => ?_) XO.out ?_
 ·have q3 := hL.at_ 0 rfl
  rw [q3]
  (go_simp; try rfl)
 clear hL x
 intro x hL
 refine AnyTill.tk 5 (.pointer (some ⟨g, 3, none⟩)) (wanted_none rfl) HFF hL (fun w9 hS9 => ?_) XO.out ?_
 ·have q4 := hL.at_ 0 rfl
  rw [q4]
  (go_simp; try rfl)
 clear hL x
 intro x hL
 refine AnyTill.tk 7 (.agg (wac wt).toArray) (wanted_none rfl) HFF hL (fun w9 hS9 => ?_) XO.out ?_
 ·obtain ⟨d9, hu9, hd9⟩ := rowWaP
  exact run_load_part 163 _ rfl gO 0 (wac wt) (wac wt) 163 rfl hS9 rfl hu9 hd9 szWaP
 clear hL x
 intro x hL
 refine AnyTill.oneK 6 (by kernel_rfl) rfl HFF (wanted_none rfl) (fun _ _ => rfl) hL rfl (fun K hK => ?_)
 have q5 := lhd (hL.at_ 1 rfl)
 obtain ⟨d9, hu9, hd9⟩ := rowTaT
 refine wp_load_part 47 _ rfl g 3 (tnc (mT r) vN vS vW vL (noR o 0) nv vC) [vW] 206 q5.out X1.out rfl hu9 hd9 szTaT ?_
 refine hK.out _ _ XO.out ?_
 clear hK K
 clear hL q5 x
 intro x hL
 refine AnyTill.oneK 8 (by kernel_rfl) rfl HFF (wanted_none rfl) (fun _ _ => rfl) hL rfl (fun K hK => ?_)
 have q6 := lhd (hL.at_ 0 rfl)
 have q7 := lhd (hL.at_ 1 rfl)
 go_simp
 refine calls_args (args2 := #[.agg #[vW], .agg (wac wt).toArray]) (by rw [q6.out, q7.out]) ?_
 refine (waAdd_own (mW r) wt vW wA F1.out.t.1 HR.out.w).mono ?_
 rintro e w2 ⟨u, rfl, hr, ho, hb⟩
 rw [HF.out]
 have G2 := lhd (F1.out.t.next hr ho hb (Nat.le_trans hab hb1.out))
 obtain ⟨Au, cu, hu, -, -⟩ := hr.shape
 obtain ⟨nu, hnu⟩ : ∃ q, (addW (mW r) wt).length = q := ⟨_, rfl⟩
 rw [hnu] at hu
 clear hnu
 subst hu
 clear hr ho
 have XO2 := lhd (XO.out.below hb XO.out.lt)
 have X2 := lhd (X1.out.below hb hlt1)
 have F2 := lhd (F1.out.keep (.of hb hb1.out))
 have C2 := lhd (C1.out.below hb (Nat.le_refl _))
 have E2 := lhd (E1.out.trans (.of hb hb1.out))
 have hb2 := lhd (Nat.le_trans hb1.out hb.size)
 refine hK.out _ w2 XO2.out ?_
 clear hK K hb XO X1 F1 C1 E1 hb1 hlt1
 clear hL q6 q7 x
 intro x hL
 refine AnyTill.tk 9 (.tuple #[.agg #[.slice Au nu cu], .int .i64 (f : Int)]) (wanted_none rfl) HFF hL (fun w9 hS9 => ?_) XO2.out ?_
 ·have q8 := hL.at_ 0 rfl
  rw [q8]
  (go_simp; try rfl)
 clear hL x
 intro x hL
 refine AnyTill.tk 10 (.agg #[.slice Au nu cu]) (wanted_none rfl) HFF hL (fun w9 hS9 => ?_) XO2.out ?_
 ·have q9 := hL.at_ 0 rfl
  rw [q9]
  (go_simp; try rfl)
 clear hL x
 intro x hL
 refine AnyTill.tk 11 (.int .i64 (f : Int)) (wanted_none rfl) HFF hL (fun w9 hS9 => ?_) XO2.out ?_
 ·have q9 := hL.at_ 1 rfl
  rw [q9]
  (go_simp; try rfl)
 clear hL x
 intro x hL
 refine AnyTill.tk 12 (.pointer (some ⟨g, 0, none⟩)) (wanted_none rfl) HFF hL (fun w9 hS9 => ?_) XO2.out ?_
 ·have q0 := hL.at_ 11 rfl
  rw [q0]
  (go_simp; try rfl)
 clear hL x
 intro x hL
 refine AnyTill.tk 13 (.pointer (some ⟨g, 0, none⟩)) (wanted_none rfl) HFF hL (fun w9 hS9 => ?_) XO2.out ?_
 ·have q12 := hL.at_ 0 rfl
  rw [q12]
  (go_simp; try rfl)
 clear hL x
 intro x hL
 refine AnyTill.tk 14 (.pointer (some ⟨g, 3, none⟩)) (wanted_none rfl) HFF hL (fun w9 hS9 => ?_) XO2.out ?_
 ·have q13 := hL.at_ 0 rfl
  rw [q13]
  (go_simp; try rfl)
 clear hL x
 intro x hL
 have q14 := hL.at_ 0 rfl
 have q10 := hL.at_ 4 rfl
 refine AnyTill.store1 15 (by kernel_rfl) rfl HFF (g := g) (a := 3) (cs := (tnc (mT r) vN vS vW vL (noR o 0) nv vC)) (vs := [.slice Au nu cu]) (u := 206) ⟨_, _, _, rfl, rfl, rfl, q14, .inl q10, szTaT, (one_of rfl)⟩ X2.out (by show 4 ≤ 12; decide) (fun w9 z1 z2 => XO2.out.same (z2 gO hgo.symm)) ?_
 intro w3 e1 e2 e3 e4
 clear q14 q10
 have X3 := lhd e1
 have F3 := lhd (F2.out.keep (.store X2.out (.inl rfl) hbg e2 e4))
 have C3 := lhd (C2.out.keep (T := fun e => e = 206) (.store X2.out rfl hbg e2 e4) (by decide))
 have G3 := lhd (G2.out.keep (.store X2.out (.inl rfl) hbg e2 e4) TT_wa hab)
 have E3 := lhd (E2.out.trans (.store X2.out hbg e2 e3 e4))
 have hb3 := lhd (show b ≤ w3.heap.size by rw [e2]; exact hb2.out)
 have XO3 := lhd (XO2.out.same (e4 gO hgo.symm))
 clear e1 e2 e3 e4 X2 F2 C2 G2 E2 hb2 XO2
 have X3 : Hid (Blk w3 g (tnc (mT r) vN vS (.slice Au nu cu) vL (noR o 0) nv vC) 206) := X3.out
 refine AnyTill.tk 16 (.pointer (some ⟨g, 0, none⟩)) (wanted_none rfl) HFF hL (fun w9 hS9 => ?_) XO3.out ?_
 ·have q1 := hL.at_ 13 rfl
  rw [q1]
  (go_simp; try rfl)
 clear hL x
 intro x hL
 refine AnyTill.tk 17 (.pointer (some ⟨g, 5, none⟩)) (wanted_none rfl) HFF hL (fun w9 hS9 => ?_) XO3.out ?_
 ·have q16 := hL.at_ 0 rfl
  rw [q16]
  (go_simp; try rfl)
 clear hL x
 intro x hL
 refine AnyTill.tk 18 (.pointer (some ⟨g, 7, none⟩)) (wanted_none rfl) HFF hL (fun w9 hS9 => ?_) XO3.out ?_
 ·have q17 := hL.at_ 0 rfl
  rw [q17]
  (go_simp; try rfl)
 clear hL x
 intro x hL
 have q18 := hL.at_ 0 rfl
 have q11 := hL.at_ 6 rfl
 refine AnyTill.store1 19 (by kernel_rfl) rfl HFF (g := g) (a := 7) (cs := (tnc (mT r) vN vS (.slice Au nu cu) vL (noR o 0) nv vC)) (vs := [.int .i64 (f : Int)]) (u := 206) ⟨_, _, _, rfl, rfl, rfl, q18, .inr (by rw [show _ = _ from q11]; rfl), szErT, (one_of rfl)⟩ X3.out (by show 8 ≤ 12; decide) (fun w9 z1 z2 => XO3.out.same (z2 gO hgo.symm)) ?_
 intro w4 e1 e2 e3 e4
 clear q18 q11
 have X4 : Hid (Blk w4 g (tnc (mT r) vN vS (.slice Au nu cu) vL (oC o, oQ o, (f : Int), [], 0, []) nv vC) 206) := e1
 have F4 := lhd (F3.out.keep (.store X3.out (.inl rfl) hbg e2 e4))
 have C4 := lhd (C3.out.keep (T := fun e => e = 206) (.store X3.out rfl hbg e2 e4) (by decide))
 have G4 := lhd (G3.out.keep (.store X3.out (.inl rfl) hbg e2 e4) TT_wa hab)
 have E4 := lhd (E3.out.trans (.store X3.out hbg e2 e3 e4))
 have hb4 := lhd (show b ≤ w4.heap.size by rw [e2]; exact hb3.out)
 have XO4 := lhd (XO3.out.same (e4 gO hgo.symm))
 clear e1 e2 e3 e4 X3 F3 C3 G3 E3 hb3 XO3
 refine AnyTill.done (by kernel_rfl) ?_
 refine NoPanic.normal ?_
 rw [HFF.out]
 try dsimp only
 clear hL HFF
 go_wp2
 refine ⟨rfl, _, results_none rfl _ _ _, ⟨_, rfl⟩, ?_, E4.out⟩
 rw [HF.out]
 exact ⟨vN, vS, (.slice Au nu cu), vL, nv, vC, X4.out, ⟨F4.out.n, F4.out.s, G4.out, F4.out.l, F4.out.x, hab⟩, C4.out, hbg⟩
theorem done10 (r : Rm) (o : Or) (k : Bool) (h : oK o = if k = true then 11 else 10) : doneR r o = ((mN r, mT r, mS r, addW (mW r) (oP o, oC o, k), mL r), rep (addE (mW r) (oP o, oC o, k)) [] 0 [], []) := by
 unfold doneR
 rw [h]
 cases k <;> rfl
theorem tnWatch_any (a b g : Nat) (o : Or) (r : Rm) (w : World) (hR : RightR r) (h : TnP a b g w r (noR o 0) []) (_hi : fitI (oS o)) (hk : oK o = 10) :
 Calls Tryz.prog 157 #[.pointer (some ⟨g, 0, none⟩), .agg (orc o).toArray] w (TnQ a b g (doneR r o).1 (ofR o (doneR r o).2.1) (doneR r o).2.2 w) := by
 obtain ⟨vN, vS, vW, vL, nv, vC, hX, hF, hC, hbg⟩ := h
 have HT := lhd (show TnP a b g w r (noR o 0) [] from ⟨vN, vS, vW, vL, nv, vC, hX, hF, hC, hbg⟩)
 have hlt := hX.lt
 have HR := lhd hR
 clear hX hF hC hR
 go_enter Tryz.func157, Tryz.ntmps157
 go_wp2_with (refine wpList_box_blk rfl 86 _ rfl (orc o) rfl ?_)
 intro w1 b1 b2 b3
 have hbO : b ≤ w.heap.size := by omega
 have E1 := lhd (Kp.of b3 hbO)
 have HT1 := lhd (HT.out.keep b3 hbO)
 have c0 := b1.at_ 0 _ rfl
 have c3 := b1.at_ 3 _ rfl
 clear b1 b2 b3 HT
 go_wp2_with fail
 refine (tnAdd_any a b g (oP o, oC o, false) o r w1 HR.out HT1.out).mono ?_
 rintro e w2 ⟨⟨vq, rfl⟩, hT, hb⟩
 go_wp2
 refine ⟨rfl, _, results_none rfl _ _ _, ⟨_, rfl⟩, ?_, E1.out.trans hb⟩
 rw [done10 r o false hk]
 exact hT
theorem tnWatchKids_any (a b g : Nat) (o : Or) (r : Rm) (w : World) (hR : RightR r) (h : TnP a b g w r (noR o 0) []) (_hi : fitI (oS o)) (hk : oK o = 11) :
 Calls Tryz.prog 158 #[.pointer (some ⟨g, 0, none⟩), .agg (orc o).toArray] w (TnQ a b g (doneR r o).1 (ofR o (doneR r o).2.1) (doneR r o).2.2 w) := by
 obtain ⟨vN, vS, vW, vL, nv, vC, hX, hF, hC, hbg⟩ := h
 have HT := lhd (show TnP a b g w r (noR o 0) [] from ⟨vN, vS, vW, vL, nv, vC, hX, hF, hC, hbg⟩)
 have hlt := hX.lt
 have HR := lhd hR
 clear hX hF hC hR
 go_enter Tryz.func158, Tryz.ntmps158
 go_wp2_with (refine wpList_box_blk rfl 86 _ rfl (orc o) rfl ?_)
 intro w1 b1 b2 b3
 have hbO : b ≤ w.heap.size := by omega
 have E1 := lhd (Kp.of b3 hbO)
 have HT1 := lhd (HT.out.keep b3 hbO)
 have c0 := b1.at_ 0 _ rfl
 have c3 := b1.at_ 3 _ rfl
 clear b1 b2 b3 HT
 go_wp2_with fail
 refine (tnAdd_any a b g (oP o, oC o, true) o r w1 HR.out HT1.out).mono ?_
 rintro e w2 ⟨⟨vq, rfl⟩, hT, hb⟩
 go_wp2
 refine ⟨rfl, _, results_none rfl _ _ _, ⟨_, rfl⟩, ?_, E1.out.trans hb⟩
 rw [done10 r o true hk]
 exact hT
abbrev fnv (f : FuncId) : Value := .func (.func f) #[] #[]
def fnc : List Value := [fnv 147, fnv 148, fnv 149, fnv 150, fnv 151, fnv 152, fnv 153, fnv 154, fnv 155, fnv 156, fnv 157, fnv 158]
def TabF (w : World) (e : Ending) (w' : World) : Prop := ∃ g, e = .returned (.slice (some ⟨g, 0, none⟩) 12 12) ∧ Blk w' g fnc 207 ∧ w.heap.size ≤ g ∧ Below w.heap.size w w'
theorem effects_any (w : World) : Calls Tryz.prog 124 #[] w (TabF w) := by
 go_enter Tryz.func124, Tryz.ntmps124
 go_wp2
 go_ret
 exact ⟨_, rfl, heap_alloc_new w _, Nat.le_refl _, (Below.refl _ _).alloc (Nat.le_refl _) _⟩
theorem tnNothing_any (a b g : Nat) (o : Or) (r : Rm) (w : World) (h : TnP a b g w r (noR o 0) []) (hk : oK o = 0) :
 Calls Tryz.prog 147 #[.pointer (some ⟨g, 0, none⟩), .agg (orc o).toArray] w (TnQ a b g (doneR r o).1 (ofR o (doneR r o).2.1) (doneR r o).2.2 w) := by
 obtain ⟨vN, vS, vW, vL, nv, vC, hX, hF, hC, hbg⟩ := h
 have HT := lhd (show TnP a b g w r (noR o 0) [] from ⟨vN, vS, vW, vL, nv, vC, hX, hF, hC, hbg⟩)
 have hlt := hX.lt
 clear hX hF hC
 go_enter Tryz.func147, Tryz.ntmps147
 go_wp2_with (refine wpList_box_blk rfl 86 _ rfl (orc o) rfl ?_)
 intro w1 b1 b2 b3
 have hbO : b ≤ w.heap.size := by omega
 have E1 := lhd (Kp.of b3 hbO)
 have HT1 := lhd (HT.out.keep b3 hbO)
 clear b1 b2 b3 HT
 go_wp2
 refine ⟨rfl, _, results_none rfl _ _ _, ⟨_, rfl⟩, ?_, E1.out⟩
 rw [done0 r o hk]
 exact HT1.out
theorem kind_fn (o : Or) (k : Nat) (hk : oK o = k) (hk2 : k < 12) (hi : fitI (oS o)) :
 ∃ f, fnc[k]? = some (fnv f) ∧ (∀ args w, (callFunc f args).run Tryz.prog w = .ok (.enter f args) w) ∧ ∀ (a b g : Nat) (r : Rm) (w : World), RightR r → TnP a b g w r (noR o 0) [] →
   Calls Tryz.prog f #[.pointer (some ⟨g, 0, none⟩), .agg (orc o).toArray] w (TnQ a b g (doneR r o).1 (ofR o (doneR r o).2.1) (doneR r o).2.2 w) := by
 match k, hk2 with
 | 0, _ => exact ⟨_, rfl, fun args w => enters_of Tryz.func147 (by kernel_rfl) rfl args w, fun a b g r w _ h => tnNothing_any a b g o r w h hk⟩
 | 1, _ => exact ⟨_, rfl, fun args w => enters_of Tryz.func148 (by kernel_rfl) rfl args w, fun a b g r w hR h => tnCreate_any a b g o r w hR h hi hk⟩
 | 2, _ => exact ⟨_, rfl, fun args w => enters_of Tryz.func149 (by kernel_rfl) rfl args w, fun a b g r w hR h => tnGet_any a b g o r w hR h hi hk⟩
 | 3, _ => exact ⟨_, rfl, fun args w => enters_of Tryz.func150 (by kernel_rfl) rfl args w, fun a b g r w hR h => tnSet_any a b g o r w hR h hi hk⟩
 | 4, _ => exact ⟨_, rfl, fun args w => enters_of Tryz.func151 (by kernel_rfl) rfl args w, fun a b g r w hR h => tnDelete_any a b g o r w hR h hi hk⟩
 | 5, _ => exact ⟨_, rfl, fun args w => enters_of Tryz.func152 (by kernel_rfl) rfl args w, fun a b g r w hR h => tnList_any a b g o r w hR h hi hk⟩
 | 6, _ => exact ⟨_, rfl, fun args w => enters_of Tryz.func153 (by kernel_rfl) rfl args w, fun a b g r w hR h => tnOpen_any a b g o r w hR h hi hk⟩
 | 7, _ => exact ⟨_, rfl, fun args w => enters_of Tryz.func154 (by kernel_rfl) rfl args w, fun a b g r w hR h => tnTouch_any a b g o r w hR h hi hk⟩
 | 8, _ => exact ⟨_, rfl, fun args w => enters_of Tryz.func155 (by kernel_rfl) rfl args w, fun a b g r w hR h => tnClose_any a b g o r w hR h hi hk⟩
 | 9, _ => exact ⟨_, rfl, fun args w => enters_of Tryz.func156 (by kernel_rfl) rfl args w, fun a b g r w hR h => tnTick_any a b g o r w hR h hi hk⟩
 | 10, _ => exact ⟨_, rfl, fun args w => enters_of Tryz.func157 (by kernel_rfl) rfl args w, fun a b g r w hR h => tnWatch_any a b g o r w hR h hi hk⟩
 | 11, _ => exact ⟨_, rfl, fun args w => enters_of Tryz.func158 (by kernel_rfl) rfl args w, fun a b g r w hR h => tnWatchKids_any a b g o r w hR h hi hk⟩
theorem done_few (r : Rm) (o : Or) (h : RightR r) : (doneR r o).2.2.length ≤ 200 := by
 have hN := h.n.few
 have hd : ∀ ids, (dropsR (mN r) ids).2.length ≤ 200 := fun ids => by
  have := drops_len ids (mN r)
  omega
 have hif : ∀ (P : Prop) [Decidable P] (c : Ch), (if P then [c] else []).length ≤ 200 := fun P _ c => by split <;> simp
 have key : ∀ x, doneR r o = x → x.2.2.length ≤ 200 := by
  intro x hx
  unfold doneR at hx
  by_cases k : oK o = 1
  ·rw [if_pos k] at hx
   by_cases k2 : noLease r o = true
   ·rw [if_pos k2] at hx
    subst hx
    first | exact hd _ | exact Nat.zero_le _
   ·rw [if_neg k2] at hx
    subst hx
    first | exact hif _ _ | exact Nat.zero_le _
  rw [if_neg k] at hx
  clear k
  by_cases k : oK o = 2
  ·rw [if_pos k] at hx
   subst hx
   first | exact hif _ _ | exact Nat.zero_le _
  rw [if_neg k] at hx
  clear k
  by_cases k : oK o = 3
  ·rw [if_pos k] at hx
   subst hx
   first | exact hif _ _ | exact Nat.zero_le _
  rw [if_neg k] at hx
  clear k
  by_cases k : oK o = 4
  ·rw [if_pos k] at hx
   subst hx
   first | exact hif _ _ | exact Nat.zero_le _
  rw [if_neg k] at hx
  clear k
  by_cases k : oK o = 5
  ·rw [if_pos k] at hx
   subst hx
   first | exact hif _ _ | exact Nat.zero_le _
  rw [if_neg k] at hx
  clear k
  by_cases k : oK o = 6
  ·rw [if_pos k] at hx
   subst hx
   first | exact hif _ _ | exact Nat.zero_le _
  rw [if_neg k] at hx
  clear k
  by_cases k : oK o = 7
  ·rw [if_pos k] at hx
   subst hx
   first | exact hif _ _ | exact Nat.zero_le _
  rw [if_neg k] at hx
  clear k
  by_cases k : oK o = 8
  ·rw [if_pos k] at hx
   by_cases k2 : leaseE (mS r) (oS o) = 0
   ·rw [if_pos k2] at hx
    subst hx
    first | exact hd _ | exact Nat.zero_le _
   ·rw [if_neg k2] at hx
    subst hx
    first | exact hif _ _ | exact Nat.zero_le _
  rw [if_neg k] at hx
  clear k
  by_cases k : oK o = 9
  ·rw [if_pos k] at hx
   by_cases k2 : tickE (mT r) (oT o) = 0
   ·rw [if_pos k2] at hx
    subst hx
    first | exact hd _ | exact Nat.zero_le _
   ·rw [if_neg k2] at hx
    subst hx
    first | exact hif _ _ | exact Nat.zero_le _
  rw [if_neg k] at hx
  clear k
  by_cases k : oK o = 10 ∨ oK o = 11
  ·rw [if_pos k] at hx
   subst hx
   first | exact hif _ _ | exact Nat.zero_le _
  rw [if_neg k] at hx
  clear k
  subst hx
  exact Nat.zero_le _
 exact key _ rfl
end Go.Proofs.YtgfobinklijkpaaGreatDoor
