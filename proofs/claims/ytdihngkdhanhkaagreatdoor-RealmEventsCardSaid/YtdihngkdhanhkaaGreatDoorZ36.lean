/-
  Texts IX.
-/
import Derived.Test.YtdihngkdhanhkaaGreatDoorZ10
import Derived.Test.YtdihngkdhanhkaaGreatDoorZ19
import Derived.Test.YtdihngkdhanhkaaGreatDoorZ24
import Derived.Test.YtdihngkdhanhkaaGreatDoorZ31
import Derived.Test.YtdihngkdhanhkaaGreatDoorZ32
import Derived.Test.YtdihngkdhanhkaaGreatDoorZ33
namespace Go.Proofs.YtdihngkdhanhkaaGreatDoor
open Go.RowKit

set_option maxRecDepth 100000 in
set_option maxHeartbeats 8000000 in
theorem tnList_any (a b g : Nat) (o : Or) (r : Rm) (w : World) (hR : RightR r) (h : TnP a b g w r (noR o 0) []) (_hi : fitI (oS o)) (hk : oK o = 5) :
    Calls Tryz.prog 134 #[.pointer (some ⟨g, 0, none⟩), .agg (orc o).toArray] w (TnQ a b g (doneR r o).1 (ofR o (doneR r o).2.1) (doneR r o).2.2 w) := by
  obtain ⟨vN, vS, vW, vL, nv, vC, hX, hF, hC, hbg⟩ := h
  have hab := hF.ab
  have X := Lib.hid hX
  have F := Lib.hid hF
  have C := Lib.hid hC
  have hlt := hX.lt
  have HR := Lib.hid hR
  clear hX hF hC hR
  go_enter Tryz.func134, Tryz.ntmps134
  go_wp2_with (refine wpList_box_blk rfl 35 _ rfl (orc o) rfl ?_)
  intro w1 b1 b2 b3
  obtain ⟨gO, hgO⟩ : ∃ q, w.heap.size = q := ⟨_, rfl⟩
  have hbO : b ≤ w.heap.size := by omega
  have hgo : g ≠ gO := by omega
  have hb1 := Lib.hid (show b ≤ w1.heap.size by omega)
  have XO := Lib.hid b1
  have X1 := Lib.hid (X.out.below b3 hlt)
  have F1 := Lib.hid (F.out.keep (.of b3 hbO))
  have C1 := Lib.hid (C.out.below b3 (Nat.le_refl _))
  have E1 := Lib.hid (Kp.of b3 hbO)
  have hlt1 := X1.out.lt
  rw [hgO] at XO ⊢
  clear b1 b2 b3 X F C hgO hlt hbO
  obtain ⟨f, hf⟩ : ∃ f : Nat, getE (mN r) (oP o) = f := ⟨_, rfl⟩
  have HF := Lib.hid hf
  clear hf
  have XO := Lib.hid XO.out.drew
  have X1 := Lib.hid X1.out.drew
  have F1 := Lib.hid (F1.out.keep (.of (Below.refl _ _).drew hb1.out))
  have C1 := Lib.hid (C1.out.below ((Below.refl w1.heap.size w1).drew) (Nat.le_refl _))
  have E1 := Lib.hid (E1.out.trans (.of (Below.refl _ _).drew hb1.out))
  have hb1 : Hid (b ≤ w1.drew.heap.size) := hb1.out
  have hlt1 : g < w1.drew.heap.size := X1.out.lt
  go_wp2
  obtain ⟨FF, hF⟩ : ∃ F : (Nat → Value) → Act, F = fun x => ⟨#[.pointer (some ⟨g, 0, none⟩), .agg (orc o).toArray, undef, .pointer (some ⟨gO, 0, none⟩), x 10, x 0, x 1, x 2, x 3, x 4, x 5, x 6, x 7, x 8, x 9, x 11, x 12, x 13, x 14, x 15, x 17, x 18, x 19], []⟩ := ⟨_, rfl⟩
  have HFF := Lib.hid hF
  refine wp_region_tillK 21 FF (fun k => [undef, undef, undef, undef, undef, undef, undef, undef, undef, undef, undef, undef, undef, undef, undef, undef, undef, undef, undef, undef, undef].getD k undef) (fun w9 => Blk w9 gO (orc o) 35) (by rw [hF]; rfl) rfl (by kernel_rfl) ?_
  intro x hL
  clear hF
  obtain ⟨wA, hwA⟩ : ∃ q, w1.drew = q := ⟨_, rfl⟩
  rw [hwA] at XO X1 F1 C1 E1 hb1 hlt1 ⊢
  clear hwA
  refine AnyTill.takeK 0 (.pointer (some ⟨g, 0, none⟩)) rfl (by kernel_rfl) rfl rfl (by kernel_rfl) (by kernel_rfl) HFF (wanted_none rfl) (fun _ _ => rfl) hL rfl (fun w9 hS9 => ?_) (by exact XO.out) ?_
  · first | (go_simp; done) | (go_simp; rfl)
  clear hL x
  intro x hL
  refine AnyTill.takeK 1 (.pointer (some ⟨g, 0, none⟩)) rfl (by kernel_rfl) rfl rfl (by kernel_rfl) (by kernel_rfl) HFF (wanted_none rfl) (fun _ _ => rfl) hL rfl (fun w9 hS9 => ?_) (by exact XO.out) ?_
  · first | (go_simp; done) | (go_simp; rfl)
  clear hL x
  intro x hL
  refine AnyTill.takeK 2 (.pointer (some ⟨g, 0, none⟩)) rfl (by kernel_rfl) rfl rfl (by kernel_rfl) (by kernel_rfl) HFF (wanted_none rfl) (fun _ _ => rfl) hL rfl (fun w9 hS9 => ?_) (by exact XO.out) ?_
  · first | (go_simp; done) | (go_simp; rfl)
  clear hL x
  intro x hL
  refine AnyTill.takeK 3 (.pointer (some ⟨g, 0, none⟩)) rfl (by kernel_rfl) rfl rfl (by kernel_rfl) (by kernel_rfl) HFF (wanted_none rfl) (fun _ _ => rfl) hL rfl (fun w9 hS9 => ?_) (by exact XO.out) ?_
  · have q2 := hL.at_ 0 rfl
    rw [q2]
    first | (go_simp; done) | (go_simp; rfl)
  clear hL x
  intro x hL
  refine AnyTill.takeK 4 (.pointer (some ⟨g, 0, none⟩)) rfl (by kernel_rfl) rfl rfl (by kernel_rfl) (by kernel_rfl) HFF (wanted_none rfl) (fun _ _ => rfl) hL rfl (fun w9 hS9 => ?_) (by exact XO.out) ?_
  · have q3 := hL.at_ 0 rfl
    rw [q3]
    first | (go_simp; done) | (go_simp; rfl)
  clear hL x
  intro x hL
  refine AnyTill.takeK 5 (.pointer (some ⟨g, 0, none⟩)) rfl (by kernel_rfl) rfl rfl (by kernel_rfl) (by kernel_rfl) HFF (wanted_none rfl) (fun _ _ => rfl) hL rfl (fun w9 hS9 => ?_) (by exact XO.out) ?_
  · have q4 := hL.at_ 0 rfl
    rw [q4]
    first | (go_simp; done) | (go_simp; rfl)
  clear hL x
  intro x hL
  refine AnyTill.takeK 7 (.pointer (some ⟨gO, 3, none⟩)) rfl (by kernel_rfl) rfl rfl (by kernel_rfl) (by kernel_rfl) HFF (wanted_none rfl) (fun _ _ => rfl) hL rfl (fun w9 hS9 => ?_) (by exact XO.out) ?_
  · first | (go_simp; done) | (go_simp; rfl)
  clear hL x
  intro x hL
  refine AnyTill.takeK 8 (txt (oP o)) rfl (by kernel_rfl) rfl rfl (by kernel_rfl) (by kernel_rfl) HFF (wanted_none rfl) (fun _ _ => rfl) hL rfl (fun w9 hS9 => ?_) (by exact XO.out) ?_
  · have q7 := hL.at_ 0 rfl
    rw [q7]
    have cc := hS9.at_ 3 _ rfl
    first | (go_simp; done) | (go_simp; rfl)
  clear hL x
  intro x hL
  refine AnyTill.oneK 6 (by kernel_rfl) rfl HFF (wanted_none rfl) (fun _ _ => rfl) hL rfl (fun K hK => ?_)
  have q5 := Lib.hid (hL.at_ 2 rfl)
  obtain ⟨d9, hu9, hd9⟩ := rowShT
  refine wp_load_part 24 _ rfl g 0 (tnc (mT r) vN vS vW vL (noR o 0) nv vC) [vN] 189 q5.out X1.out rfl hu9 hd9 szShT ?_
  refine hK.out _ _ XO.out ?_
  clear hK K
  clear hL q5 x
  intro x hL
  refine AnyTill.oneK 9 (by kernel_rfl) rfl HFF (wanted_none rfl) (fun _ _ => rfl) hL rfl (fun K hK => ?_)
  have q6 := Lib.hid (hL.at_ 0 rfl)
  have q8 := Lib.hid (hL.at_ 1 rfl)
  go_simp
  refine calls_args (args2 := #[.agg #[vN], txt (oP o)]) (by rw [q6.out, q8.out]) ?_
  refine (shList_any (mN r) (oP o) vN wA F1.out.n.1 (by have := HR.out.n.few; omega)).mono ?_
  rintro e w2 ⟨u, rfl, ho, hb⟩
  rw [HF.out]
  have G2 := Lib.hid (GoE.own ho.toE (Nat.le_trans hab hb1.out))
  obtain ⟨Au, cu, hu, -, -⟩ := ho.rd.shape
  obtain ⟨nu, hnu⟩ : ∃ q, (bas (listS (mN r) (oP o))).length = q := ⟨_, rfl⟩
  rw [hnu] at hu
  clear hnu
  subst hu
  clear ho
  have XO2 := Lib.hid (XO.out.below hb XO.out.lt)
  have X2 := Lib.hid (X1.out.below hb hlt1)
  have F2 := Lib.hid (F1.out.keep (.of hb hb1.out))
  have C2 := Lib.hid (C1.out.below hb (Nat.le_refl _))
  have E2 := Lib.hid (E1.out.trans (.of hb hb1.out))
  have hb2 := Lib.hid (Nat.le_trans hb1.out hb.size)
  refine hK.out _ w2 XO2.out ?_
  clear hK K hb XO X1 F1 C1 E1 hb1 hlt1
  clear hL q6 q8 x
  intro x hL
  refine AnyTill.takeK 10 (.tuple #[.slice Au nu cu, .int .i64 (f : Int)]) rfl (by kernel_rfl) rfl rfl (by kernel_rfl) (by kernel_rfl) HFF (wanted_none rfl) (fun _ _ => rfl) hL rfl (fun w9 hS9 => ?_) (by exact XO2.out) ?_
  · have q9 := hL.at_ 0 rfl
    rw [q9]
    first | (go_simp; done) | (go_simp; rfl)
  clear hL x
  intro x hL
  refine AnyTill.takeK 11 (.slice Au nu cu) rfl (by kernel_rfl) rfl rfl (by kernel_rfl) (by kernel_rfl) HFF (wanted_none rfl) (fun _ _ => rfl) hL rfl (fun w9 hS9 => ?_) (by exact XO2.out) ?_
  · have q10 := hL.at_ 0 rfl
    rw [q10]
    first | (go_simp; done) | (go_simp; rfl)
  clear hL x
  intro x hL
  refine AnyTill.takeK 12 (.int .i64 (f : Int)) rfl (by kernel_rfl) rfl rfl (by kernel_rfl) (by kernel_rfl) HFF (wanted_none rfl) (fun _ _ => rfl) hL rfl (fun w9 hS9 => ?_) (by exact XO2.out) ?_
  · have q10 := hL.at_ 1 rfl
    rw [q10]
    first | (go_simp; done) | (go_simp; rfl)
  clear hL x
  intro x hL
  refine AnyTill.takeK 13 (.pointer (some ⟨g, 0, none⟩)) rfl (by kernel_rfl) rfl rfl (by kernel_rfl) (by kernel_rfl) HFF (wanted_none rfl) (fun _ _ => rfl) hL rfl (fun w9 hS9 => ?_) (by exact XO2.out) ?_
  · have q0 := hL.at_ 12 rfl
    rw [q0]
    first | (go_simp; done) | (go_simp; rfl)
  clear hL x
  intro x hL
  refine AnyTill.takeK 14 (.pointer (some ⟨g, 5, none⟩)) rfl (by kernel_rfl) rfl rfl (by kernel_rfl) (by kernel_rfl) HFF (wanted_none rfl) (fun _ _ => rfl) hL rfl (fun w9 hS9 => ?_) (by exact XO2.out) ?_
  · have q13 := hL.at_ 0 rfl
    rw [q13]
    first | (go_simp; done) | (go_simp; rfl)
  clear hL x
  intro x hL
  refine AnyTill.takeK 15 (.pointer (some ⟨g, 10, none⟩)) rfl (by kernel_rfl) rfl rfl (by kernel_rfl) (by kernel_rfl) HFF (wanted_none rfl) (fun _ _ => rfl) hL rfl (fun w9 hS9 => ?_) (by exact XO2.out) ?_
  · have q14 := hL.at_ 0 rfl
    rw [q14]
    first | (go_simp; done) | (go_simp; rfl)
  clear hL x
  intro x hL
  have q15 := hL.at_ 0 rfl
  have q11 := hL.at_ 4 rfl
  refine AnyTill.store1 16 (by kernel_rfl) rfl HFF (g := g) (a := 10) (cs := (tnc (mT r) vN vS vW vL (noR o 0) nv vC)) (vs := [.slice Au nu cu]) (u := 189) ⟨_, _, _, rfl, rfl, rfl, q15, .inr (by rw [show _ = _ from q11]; rfl), szNaT, (one_of rfl)⟩ X2.out (by show 11 ≤ 12; decide) (fun w9 z1 z2 => XO2.out.same (z2 gO hgo.symm)) ?_
  intro w3 e1 e2 e3 e4
  clear q15 q11
  have X3 := Lib.hid e1
  have F3 := Lib.hid (F2.out.keep (.store X2.out (.inl rfl) hbg e2 e4))
  have C3 := Lib.hid (C2.out.keep (T := fun e => e = 189) (.store X2.out rfl hbg e2 e4) (by decide))
  have G3 := Lib.hid (G2.out.keep (.store X2.out (.inl rfl) hbg e2 e4) TT_st hab)
  have E3 := Lib.hid (E2.out.trans (.store X2.out hbg e2 e3 e4))
  have hb3 := Lib.hid (show b ≤ w3.heap.size by rw [e2]; exact hb2.out)
  have XO3 := Lib.hid (XO2.out.same (e4 gO hgo.symm))
  clear e1 e2 e3 e4 X2 F2 C2 G2 E2 hb2 XO2
  have X3 : Hid (Blk w3 g (tnc (mT r) vN vS vW vL (noR o 0) (.slice Au nu cu) vC) 189) := X3.out
  refine AnyTill.takeK 17 (.pointer (some ⟨g, 0, none⟩)) rfl (by kernel_rfl) rfl rfl (by kernel_rfl) (by kernel_rfl) HFF (wanted_none rfl) (fun _ _ => rfl) hL rfl (fun w9 hS9 => ?_) (by exact XO3.out) ?_
  · have q1 := hL.at_ 14 rfl
    rw [q1]
    first | (go_simp; done) | (go_simp; rfl)
  clear hL x
  intro x hL
  refine AnyTill.takeK 18 (.pointer (some ⟨g, 5, none⟩)) rfl (by kernel_rfl) rfl rfl (by kernel_rfl) (by kernel_rfl) HFF (wanted_none rfl) (fun _ _ => rfl) hL rfl (fun w9 hS9 => ?_) (by exact XO3.out) ?_
  · have q17 := hL.at_ 0 rfl
    rw [q17]
    first | (go_simp; done) | (go_simp; rfl)
  clear hL x
  intro x hL
  refine AnyTill.takeK 19 (.pointer (some ⟨g, 7, none⟩)) rfl (by kernel_rfl) rfl rfl (by kernel_rfl) (by kernel_rfl) HFF (wanted_none rfl) (fun _ _ => rfl) hL rfl (fun w9 hS9 => ?_) (by exact XO3.out) ?_
  · have q18 := hL.at_ 0 rfl
    rw [q18]
    first | (go_simp; done) | (go_simp; rfl)
  clear hL x
  intro x hL
  have q19 := hL.at_ 0 rfl
  have q12 := hL.at_ 6 rfl
  refine AnyTill.store1 20 (by kernel_rfl) rfl HFF (g := g) (a := 7) (cs := (tnc (mT r) vN vS vW vL (noR o 0) (.slice Au nu cu) vC)) (vs := [.int .i64 (f : Int)]) (u := 189) ⟨_, _, _, rfl, rfl, rfl, q19, .inr (by rw [show _ = _ from q12]; rfl), szErT, (one_of rfl)⟩ X3.out (by show 8 ≤ 12; decide) (fun w9 z1 z2 => XO3.out.same (z2 gO hgo.symm)) ?_
  intro w4 e1 e2 e3 e4
  clear q19 q12
  have X4 : Hid (Blk w4 g (tnc (mT r) vN vS vW vL (oC o, oQ o, (f : Int), [], 0, []) (.slice Au nu cu) vC) 189) := e1
  have F4 := Lib.hid (F3.out.keep (.store X3.out (.inl rfl) hbg e2 e4))
  have C4 := Lib.hid (C3.out.keep (T := fun e => e = 189) (.store X3.out rfl hbg e2 e4) (by decide))
  have G4 := Lib.hid (G3.out.keep (.store X3.out (.inl rfl) hbg e2 e4) TT_st hab)
  have E4 := Lib.hid (E3.out.trans (.store X3.out hbg e2 e3 e4))
  have hb4 := Lib.hid (show b ≤ w4.heap.size by rw [e2]; exact hb3.out)
  have XO4 := Lib.hid (XO3.out.same (e4 gO hgo.symm))
  clear e1 e2 e3 e4 X3 F3 C3 G3 E3 hb3 XO3
  refine AnyTill.done (by kernel_rfl) ?_
  refine NoPanic.normal ?_
  rw [HFF.out]
  try dsimp only
  clear hL HFF
  go_wp2
  refine ⟨rfl, _, results_none rfl _ _ _, ⟨_, rfl⟩, ?_, E4.out⟩
  rw [done5 r o hk]
  unfold ofR rep
  rw [HF.out]
  exact ⟨vN, vS, vW, vL, (.slice Au nu cu), vC, X4.out, ⟨F4.out.n, F4.out.s, F4.out.t, F4.out.l, G4.out, hab⟩, C4.out, hbg⟩
theorem drops_one (l : List Nd) (i : Int) : dropsR l [i] = (dropS l i, (goneN l i).map fun p => ((3 : Int), p)) := by
  simp [dropsR]
theorem done8 (r : Rm) (o : Or) (h : oK o = 8) (f : Nat) (hf : leaseE (mS r) (oS o) = f) : doneR r o = if f = 0 then ((dropS (mN r) (oS o), mT r, closeS (mS r) (oS o), mW r, mL r), rep 0 [] 0 [], (goneN (mN r) (oS o)).map fun p => ((3 : Int), p)) else ((mN r, mT r, closeS (mS r) (oS o), mW r, mL r), rep (f : Int) [] 0 [], []) := by
  unfold doneR
  rw [h, hf]
  simp only [drops_one]
  rfl
set_option maxRecDepth 100000 in
set_option maxHeartbeats 8000000 in
theorem tnClose_any (a b g : Nat) (o : Or) (r : Rm) (w : World) (hR : RightR r) (h : TnP a b g w r (noR o 0) []) (_hi : fitI (oS o)) (hk : oK o = 8) :
    Calls Tryz.prog 137 #[.pointer (some ⟨g, 0, none⟩), .agg (orc o).toArray] w (TnQ a b g (doneR r o).1 (ofR o (doneR r o).2.1) (doneR r o).2.2 w) := by
  obtain ⟨vN, vS, vW, vL, nv, vC, hX, hF, hC, hbg⟩ := h
  have hab := hF.ab
  have X := Lib.hid hX
  have F := Lib.hid hF
  have C := Lib.hid hC
  have hlt := hX.lt
  have HR := Lib.hid hR
  clear hX hF hC hR
  go_enter Tryz.func137, Tryz.ntmps137
  go_wp2_with (refine wpList_box_blk rfl 35 _ rfl (orc o) rfl ?_)
  intro w1 b1 b2 b3
  obtain ⟨gO, hgO⟩ : ∃ q, w.heap.size = q := ⟨_, rfl⟩
  have hbO : b ≤ w.heap.size := by omega
  have hgo : g ≠ gO := by omega
  have hb1 := Lib.hid (show b ≤ w1.heap.size by omega)
  have XO := Lib.hid b1
  have X1 := Lib.hid (X.out.below b3 hlt)
  have F1 := Lib.hid (F.out.keep (.of b3 hbO))
  have C1 := Lib.hid (C.out.below b3 (Nat.le_refl _))
  have E1 := Lib.hid (Kp.of b3 hbO)
  have hlt1 := X1.out.lt
  rw [hgO] at XO ⊢
  clear b1 b2 b3 X F C hgO hlt hbO
  obtain ⟨f, hf⟩ : ∃ f : Nat, leaseE (mS r) (oS o) = f := ⟨_, rfl⟩
  have HF := Lib.hid hf
  clear hf
  have XO := Lib.hid XO.out.drew
  have X1 := Lib.hid X1.out.drew
  have F1 := Lib.hid (F1.out.keep (.of (Below.refl _ _).drew hb1.out))
  have C1 := Lib.hid (C1.out.below ((Below.refl w1.heap.size w1).drew) (Nat.le_refl _))
  have E1 := Lib.hid (E1.out.trans (.of (Below.refl _ _).drew hb1.out))
  have hb1 : Hid (b ≤ w1.drew.heap.size) := hb1.out
  have hlt1 : g < w1.drew.heap.size := X1.out.lt
  go_wp2
  obtain ⟨FF, hF⟩ : ∃ F : (Nat → Value) → Act, F = fun x => ⟨#[.pointer (some ⟨g, 0, none⟩), .agg (orc o).toArray, undef, .pointer (some ⟨gO, 0, none⟩), x 10, x 0, x 1, x 2, x 3, x 4, x 5, x 6, x 7, x 8, x 9, x 11, x 12, x 13, x 14, x 15, x 17, x 18, x 19, undef, undef, undef, undef, undef, undef, undef, undef, undef, undef], []⟩ := ⟨_, rfl⟩
  have HFF := Lib.hid hF
  refine wp_region_tillK 21 FF (fun k => [undef, undef, undef, undef, undef, undef, undef, undef, undef, undef, undef, undef, undef, undef, undef, undef, undef, undef, undef, undef, undef].getD k undef) (fun w9 => Blk w9 gO (orc o) 35) (by rw [hF]; rfl) rfl (by kernel_rfl) ?_
  intro x hL
  clear hF
  obtain ⟨wA, hwA⟩ : ∃ q, w1.drew = q := ⟨_, rfl⟩
  rw [hwA] at XO X1 F1 C1 E1 hb1 hlt1 ⊢
  clear hwA
  refine AnyTill.takeK 0 (.pointer (some ⟨g, 0, none⟩)) rfl (by kernel_rfl) rfl rfl (by kernel_rfl) (by kernel_rfl) HFF (wanted_none rfl) (fun _ _ => rfl) hL rfl (fun w9 hS9 => ?_) (by exact XO.out) ?_
  · first | (go_simp; done) | (go_simp; rfl)
  clear hL x
  intro x hL
  refine AnyTill.takeK 1 (.pointer (some ⟨g, 0, none⟩)) rfl (by kernel_rfl) rfl rfl (by kernel_rfl) (by kernel_rfl) HFF (wanted_none rfl) (fun _ _ => rfl) hL rfl (fun w9 hS9 => ?_) (by exact XO.out) ?_
  · first | (go_simp; done) | (go_simp; rfl)
  clear hL x
  intro x hL
  refine AnyTill.takeK 2 (.pointer (some ⟨g, 0, none⟩)) rfl (by kernel_rfl) rfl rfl (by kernel_rfl) (by kernel_rfl) HFF (wanted_none rfl) (fun _ _ => rfl) hL rfl (fun w9 hS9 => ?_) (by exact XO.out) ?_
  · first | (go_simp; done) | (go_simp; rfl)
  clear hL x
  intro x hL
  refine AnyTill.takeK 3 (.pointer (some ⟨g, 0, none⟩)) rfl (by kernel_rfl) rfl rfl (by kernel_rfl) (by kernel_rfl) HFF (wanted_none rfl) (fun _ _ => rfl) hL rfl (fun w9 hS9 => ?_) (by exact XO.out) ?_
  · have q2 := hL.at_ 0 rfl
    rw [q2]
    first | (go_simp; done) | (go_simp; rfl)
  clear hL x
  intro x hL
  refine AnyTill.takeK 4 (.pointer (some ⟨g, 0, none⟩)) rfl (by kernel_rfl) rfl rfl (by kernel_rfl) (by kernel_rfl) HFF (wanted_none rfl) (fun _ _ => rfl) hL rfl (fun w9 hS9 => ?_) (by exact XO.out) ?_
  · have q3 := hL.at_ 0 rfl
    rw [q3]
    first | (go_simp; done) | (go_simp; rfl)
  clear hL x
  intro x hL
  refine AnyTill.takeK 5 (.pointer (some ⟨g, 1, none⟩)) rfl (by kernel_rfl) rfl rfl (by kernel_rfl) (by kernel_rfl) HFF (wanted_none rfl) (fun _ _ => rfl) hL rfl (fun w9 hS9 => ?_) (by exact XO.out) ?_
  · have q4 := hL.at_ 0 rfl
    rw [q4]
    first | (go_simp; done) | (go_simp; rfl)
  clear hL x
  intro x hL
  refine AnyTill.takeK 7 (.pointer (some ⟨gO, 6, none⟩)) rfl (by kernel_rfl) rfl rfl (by kernel_rfl) (by kernel_rfl) HFF (wanted_none rfl) (fun _ _ => rfl) hL rfl (fun w9 hS9 => ?_) (by exact XO.out) ?_
  · first | (go_simp; done) | (go_simp; rfl)
  clear hL x
  intro x hL
  refine AnyTill.takeK 8 (.int .i64 (oS o)) rfl (by kernel_rfl) rfl rfl (by kernel_rfl) (by kernel_rfl) HFF (wanted_none rfl) (fun _ _ => rfl) hL rfl (fun w9 hS9 => ?_) (by exact XO.out) ?_
  · have q7 := hL.at_ 0 rfl
    rw [q7]
    have cc := hS9.at_ 6 _ rfl
    first | (go_simp; done) | (go_simp; rfl)
  clear hL x
  intro x hL
  refine AnyTill.oneK 6 (by kernel_rfl) rfl HFF (wanted_none rfl) (fun _ _ => rfl) hL rfl (fun K hK => ?_)
  have q5 := Lib.hid (hL.at_ 2 rfl)
  obtain ⟨d9, hu9, hd9⟩ := rowBkT
  refine wp_load_part 27 _ rfl g 1 (tnc (mT r) vN vS vW vL (noR o 0) nv vC) [.int .i64 (mT r), vS] 189 q5.out X1.out rfl hu9 hd9 szBkT ?_
  refine hK.out _ _ XO.out ?_
  clear hK K
  clear hL q5 x
  intro x hL
  refine AnyTill.oneK 9 (by kernel_rfl) rfl HFF (wanted_none rfl) (fun _ _ => rfl) hL rfl (fun K hK => ?_)
  have q6 := Lib.hid (hL.at_ 0 rfl)
  have q8 := Lib.hid (hL.at_ 1 rfl)
  go_simp
  refine calls_args (args2 := #[.agg #[.int .i64 (mT r), vS], .int .i64 (oS o)]) (by rw [q6.out, q8.out]) ?_
  refine (bkClose_own (mT r) (mS r) (oS o) vS wA F1.out.s.1 HR.out.b).mono ?_
  rintro e w2 ⟨u, rfl, hr, ho, hb⟩
  rw [HF.out]
  have G2 := Lib.hid (F1.out.s.next hr ho hb (Nat.le_trans hab hb1.out))
  obtain ⟨Au, cu, hu, -, -⟩ := hr.shape
  obtain ⟨nu, hnu⟩ : ∃ q, (closeS (mS r) (oS o)).length = q := ⟨_, rfl⟩
  rw [hnu] at hu
  clear hnu
  subst hu
  clear hr ho
  have XO2 := Lib.hid (XO.out.below hb XO.out.lt)
  have X2 := Lib.hid (X1.out.below hb hlt1)
  have F2 := Lib.hid (F1.out.keep (.of hb hb1.out))
  have C2 := Lib.hid (C1.out.below hb (Nat.le_refl _))
  have E2 := Lib.hid (E1.out.trans (.of hb hb1.out))
  have hb2 := Lib.hid (Nat.le_trans hb1.out hb.size)
  refine hK.out _ w2 XO2.out ?_
  clear hK K hb XO X1 F1 C1 E1 hb1 hlt1
  clear hL q6 q8 x
  intro x hL
  refine AnyTill.takeK 10 (.tuple #[.agg #[.int .i64 (mT r), .slice Au nu cu], .int .i64 (f : Int)]) rfl (by kernel_rfl) rfl rfl (by kernel_rfl) (by kernel_rfl) HFF (wanted_none rfl) (fun _ _ => rfl) hL rfl (fun w9 hS9 => ?_) (by exact XO2.out) ?_
  · have q9 := hL.at_ 0 rfl
    rw [q9]
    first | (go_simp; done) | (go_simp; rfl)
  clear hL x
  intro x hL
  refine AnyTill.takeK 11 (.agg #[.int .i64 (mT r), .slice Au nu cu]) rfl (by kernel_rfl) rfl rfl (by kernel_rfl) (by kernel_rfl) HFF (wanted_none rfl) (fun _ _ => rfl) hL rfl (fun w9 hS9 => ?_) (by exact XO2.out) ?_
  · have q10 := hL.at_ 0 rfl
    rw [q10]
    first | (go_simp; done) | (go_simp; rfl)
  clear hL x
  intro x hL
  refine AnyTill.takeK 12 (.int .i64 (f : Int)) rfl (by kernel_rfl) rfl rfl (by kernel_rfl) (by kernel_rfl) HFF (wanted_none rfl) (fun _ _ => rfl) hL rfl (fun w9 hS9 => ?_) (by exact XO2.out) ?_
  · have q10 := hL.at_ 1 rfl
    rw [q10]
    first | (go_simp; done) | (go_simp; rfl)
  clear hL x
  intro x hL
  refine AnyTill.takeK 13 (.pointer (some ⟨g, 0, none⟩)) rfl (by kernel_rfl) rfl rfl (by kernel_rfl) (by kernel_rfl) HFF (wanted_none rfl) (fun _ _ => rfl) hL rfl (fun w9 hS9 => ?_) (by exact XO2.out) ?_
  · have q0 := hL.at_ 12 rfl
    rw [q0]
    first | (go_simp; done) | (go_simp; rfl)
  clear hL x
  intro x hL
  refine AnyTill.takeK 14 (.pointer (some ⟨g, 0, none⟩)) rfl (by kernel_rfl) rfl rfl (by kernel_rfl) (by kernel_rfl) HFF (wanted_none rfl) (fun _ _ => rfl) hL rfl (fun w9 hS9 => ?_) (by exact XO2.out) ?_
  · have q13 := hL.at_ 0 rfl
    rw [q13]
    first | (go_simp; done) | (go_simp; rfl)
  clear hL x
  intro x hL
  refine AnyTill.takeK 15 (.pointer (some ⟨g, 1, none⟩)) rfl (by kernel_rfl) rfl rfl (by kernel_rfl) (by kernel_rfl) HFF (wanted_none rfl) (fun _ _ => rfl) hL rfl (fun w9 hS9 => ?_) (by exact XO2.out) ?_
  · have q14 := hL.at_ 0 rfl
    rw [q14]
    first | (go_simp; done) | (go_simp; rfl)
  clear hL x
  intro x hL
  have q15 := hL.at_ 0 rfl
  have q11 := hL.at_ 4 rfl
  refine AnyTill.store1 16 (by kernel_rfl) rfl HFF (g := g) (a := 1) (cs := (tnc (mT r) vN vS vW vL (noR o 0) nv vC)) (vs := [.int .i64 (mT r), .slice Au nu cu]) (u := 189) ⟨_, _, _, rfl, rfl, rfl, q15, .inl q11, szBkT, (book_one _ _ _ _)⟩ X2.out (by show 3 ≤ 12; decide) (fun w9 z1 z2 => XO2.out.same (z2 gO hgo.symm)) ?_
  intro w3 e1 e2 e3 e4
  clear q15 q11
  have X3 := Lib.hid e1
  have F3 := Lib.hid (F2.out.keep (.store X2.out (.inl rfl) hbg e2 e4))
  have C3 := Lib.hid (C2.out.keep (T := fun e => e = 189) (.store X2.out rfl hbg e2 e4) (by decide))
  have G3 := Lib.hid (G2.out.keep (.store X2.out (.inl rfl) hbg e2 e4) TT_se hab)
  have E3 := Lib.hid (E2.out.trans (.store X2.out hbg e2 e3 e4))
  have hb3 := Lib.hid (show b ≤ w3.heap.size by rw [e2]; exact hb2.out)
  have XO3 := Lib.hid (XO2.out.same (e4 gO hgo.symm))
  clear e1 e2 e3 e4 X2 F2 C2 G2 E2 hb2 XO2
  have X3 : Hid (Blk w3 g (tnc (mT r) vN (.slice Au nu cu) vW vL (noR o 0) nv vC) 189) := X3.out
  refine AnyTill.takeK 17 (.pointer (some ⟨g, 0, none⟩)) rfl (by kernel_rfl) rfl rfl (by kernel_rfl) (by kernel_rfl) HFF (wanted_none rfl) (fun _ _ => rfl) hL rfl (fun w9 hS9 => ?_) (by exact XO3.out) ?_
  · have q1 := hL.at_ 14 rfl
    rw [q1]
    first | (go_simp; done) | (go_simp; rfl)
  clear hL x
  intro x hL
  refine AnyTill.takeK 18 (.pointer (some ⟨g, 5, none⟩)) rfl (by kernel_rfl) rfl rfl (by kernel_rfl) (by kernel_rfl) HFF (wanted_none rfl) (fun _ _ => rfl) hL rfl (fun w9 hS9 => ?_) (by exact XO3.out) ?_
  · have q17 := hL.at_ 0 rfl
    rw [q17]
    first | (go_simp; done) | (go_simp; rfl)
  clear hL x
  intro x hL
  refine AnyTill.takeK 19 (.pointer (some ⟨g, 7, none⟩)) rfl (by kernel_rfl) rfl rfl (by kernel_rfl) (by kernel_rfl) HFF (wanted_none rfl) (fun _ _ => rfl) hL rfl (fun w9 hS9 => ?_) (by exact XO3.out) ?_
  · have q18 := hL.at_ 0 rfl
    rw [q18]
    first | (go_simp; done) | (go_simp; rfl)
  clear hL x
  intro x hL
  have q19 := hL.at_ 0 rfl
  have q12 := hL.at_ 6 rfl
  refine AnyTill.store1 20 (by kernel_rfl) rfl HFF (g := g) (a := 7) (cs := (tnc (mT r) vN (.slice Au nu cu) vW vL (noR o 0) nv vC)) (vs := [.int .i64 (f : Int)]) (u := 189) ⟨_, _, _, rfl, rfl, rfl, q19, .inr (by rw [show _ = _ from q12]; rfl), szErT, (one_of rfl)⟩ X3.out (by show 8 ≤ 12; decide) (fun w9 z1 z2 => XO3.out.same (z2 gO hgo.symm)) ?_
  intro w4 e1 e2 e3 e4
  clear q19 q12
  have X4 : Hid (Blk w4 g (tnc (mT r) vN (.slice Au nu cu) vW vL (oC o, oQ o, (f : Int), [], 0, []) nv vC) 189) := e1
  have F4 := Lib.hid (F3.out.keep (.store X3.out (.inl rfl) hbg e2 e4))
  have C4 := Lib.hid (C3.out.keep (T := fun e => e = 189) (.store X3.out rfl hbg e2 e4) (by decide))
  have G4 := Lib.hid (G3.out.keep (.store X3.out (.inl rfl) hbg e2 e4) TT_se hab)
  have E4 := Lib.hid (E3.out.trans (.store X3.out hbg e2 e3 e4))
  have hb4 := Lib.hid (show b ≤ w4.heap.size by rw [e2]; exact hb3.out)
  have XO4 := Lib.hid (XO3.out.same (e4 gO hgo.symm))
  clear e1 e2 e3 e4 X3 F3 C3 G3 E3 hb3 XO3
  refine AnyTill.done (by kernel_rfl) ?_
  refine NoPanic.normal ?_
  rw [HFF.out]
  try dsimp only
  clear hL HFF
  have HT := Lib.hid (show TnP a b g w4 (mN r, mT r, closeS (mS r) (oS o), mW r, mL r) (oC o, oQ o, (f : Int), [], 0, []) [] from ⟨vN, (.slice Au nu cu), vW, vL, nv, vC, X4.out, ⟨F4.out.n, G4.out, F4.out.t, F4.out.l, F4.out.x, hab⟩, C4.out, hbg⟩)
  have c7 : w4.cell? ⟨g, 7, none⟩ = some (.int .i64 (f : Int)) := X4.out.at_ 7 _ rfl
  have c6 := XO4.out.at_ 6 _ rfl
  clear X4 F4 C4 G4
  by_cases hf : f = 0
  · subst hf
    go_wp2_with fail
    refine (tnDrop_any a b g (oS o) (mN r, mT r, closeS (mS r) (oS o), mW r, mL r) (oC o, oQ o, ((0 : Nat) : Int), [], 0, []) [] w4 HT.out rfl (by have := HR.out.n.few; show 0 + (mN r).length ≤ 50000; omega)).mono ?_
    rintro e w5 ⟨⟨vq, rfl⟩, hT, hb⟩
    go_wp2
    refine ⟨rfl, _, results_none rfl _ _ _, ⟨_, rfl⟩, ?_, E4.out.trans hb⟩
    rw [done8 r o hk 0 HF.out, if_pos rfl]
    exact hT
  · have hE : ((f : Int) == 0) = false := by rw [beq_eq_false_iff_ne]; omega
    have HNF := Lib.hid hf
    clear hf
    go_wp2
    refine ⟨rfl, _, results_none rfl _ _ _, ⟨_, rfl⟩, ?_, E4.out⟩
    rw [done8 r o hk f HF.out, if_neg HNF.out]
    exact HT.out
end Go.Proofs.YtdihngkdhanhkaaGreatDoor
