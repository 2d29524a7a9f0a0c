/-
  Texts IY IZ.
-/
import Derived.Test.YtdihngkdhanhkaaGreatDoorZ10
import Derived.Test.YtdihngkdhanhkaaGreatDoorZ18
import Derived.Test.YtdihngkdhanhkaaGreatDoorZ19
import Derived.Test.YtdihngkdhanhkaaGreatDoorZ24
import Derived.Test.YtdihngkdhanhkaaGreatDoorZ29
import Derived.Test.YtdihngkdhanhkaaGreatDoorZ31
import Derived.Test.YtdihngkdhanhkaaGreatDoorZ32
import Derived.Test.YtdihngkdhanhkaaGreatDoorZ33
namespace Go.Proofs.YtdihngkdhanhkaaGreatDoor
open Go.RowKit

set_option maxRecDepth 100000 in
set_option maxHeartbeats 8000000 in
theorem tnGet_any (a b g : Nat) (o : Or) (r : Rm) (w : World) (hR : RightR r) (h : TnP a b g w r (noR o 0) []) (_hi : fitI (oS o)) (hk : oK o = 2) :
    Calls Tryz.prog 131 #[.pointer (some ⟨g, 0, none⟩), .agg (orc o).toArray] w (TnQ a b g (doneR r o).1 (ofR o (doneR r o).2.1) (doneR r o).2.2 w) := by
  obtain ⟨vN, vS, vW, vL, nv, vC, hX, hF, hC, hbg⟩ := h
  have hab := hF.ab
  have X := Lib.hid hX
  have F := Lib.hid hF
  have C := Lib.hid hC
  have hlt := hX.lt
  have HR := Lib.hid hR
  clear hX hF hC hR
  go_enter Tryz.func131, Tryz.ntmps131
  go_wp2_with (refine wpList_box_blk rfl 35 _ rfl (orc o) rfl ?_)
  intro w1 b1 b2 b3
  obtain ⟨gO, hgO⟩ : ∃ q, w.heap.size = q := ⟨_, rfl⟩
  have hbO : b ≤ w.heap.size := by omega
  have hgo : g ≠ gO := by omega
  have hb1 := Lib.hid (show b ≤ w1.heap.size by omega)
  have XO := Lib.hid b1
  have X1 := Lib.hid (X.out.below b3 hlt)
  have F1 := Lib.hid (F.out.keep (.of b3 hbO))
  have C1 := Lib.hid (C.out.below b3 (Nat.le_refl _))
  have E1 := Lib.hid (Kp.of b3 hbO)
  have hlt1 := X1.out.lt
  rw [hgO] at XO ⊢
  clear b1 b2 b3 X F C hgO hlt hbO
  obtain ⟨f, hf⟩ : ∃ f : Nat, getE (mN r) (oP o) = f := ⟨_, rfl⟩
  obtain ⟨nn, hnn⟩ : ∃ q, getS (mN r) (oP o) = q := ⟨_, rfl⟩
  have HF := Lib.hid hf
  have HNN := Lib.hid hnn
  have HC9 : Hid (∀ w', Below w1.heap.size w1 w' → Calls Tryz.prog 159 #[.agg #[vN], txt (oP o)] w' (fun e w9 => e = .returned (.tuple #[ndv nn, .int .i64 (f : Int)]) ∧ Below w'.heap.size w' w9)) := by
    intro w' hb'
    have h1 := shGet_any (mN r) (oP o) vN w' (((RdNd.ofE F1.out.n.1).below hb').more hb'.size)
    rw [hnn, hf] at h1
    exact h1
  clear hf hnn
  obtain ⟨wa, hwa⟩ : ∃ q, w1 = q := ⟨_, rfl⟩
  rw [hwa] at XO X1 F1 C1 E1 hb1 hlt1 HC9 ⊢
  clear hwa w1
  have hgOa := XO.out.lt
  go_wp2
  refine wp_region_relyF [10] 12 2 (fun x => ⟨#[.pointer (some ⟨g, 0, none⟩), .agg (orc o).toArray, undef, .pointer (some ⟨gO, 0, none⟩), x 11, undef, x 8, x 0, x 1, x 2, x 3, x 4, x 5, x 6, x 7, x 9, x 10, undef, undef, undef, undef, undef, undef, undef, undef, undef, undef, undef, undef, undef, undef, undef, undef, undef], []⟩) (fun jj => ([eqV (.pointer (some ⟨g, 0, none⟩)), eqV (.pointer (some ⟨g, 0, none⟩)), eqV (.pointer (some ⟨g, 0, none⟩)), eqV (.pointer (some ⟨g, 0, none⟩)), eqV (.agg #[vN]), eqV (.pointer (some ⟨gO, 3, none⟩)), eqV (txt (oP o)), (eqV (.tuple #[ndv nn, .int .i64 (f : Int)])), eqV (.tuple #[ndv nn, .int .i64 (f : Int)]), eqV (ndv nn), eqV (.int .i64 (f : Int)), (NewBx 91 (ndc nd0) wa.heap.size)] : List (Value → World → Prop)).getD jj (fun _ _ => True)) rfl ⟨fun kk => [_, _, _, _, _, _, _, _, _, _, _, _].getD kk undef, rfl⟩ (by kernel_rfl) (by kernel_rfl) (by kernel_rfl) ?pure ?steps ?fin
  case steps =>
    refine StepsAt.val 0 (.pointer (some ⟨g, 0, none⟩)) rfl (fun _ _ => rfl) rfl rfl (fun x w1 hb hd => ?_) ?_
    · first | (go_simp; done) | (go_simp; rfl)
    refine StepsAt.val 1 (.pointer (some ⟨g, 0, none⟩)) rfl (fun _ _ => rfl) rfl rfl (fun x w1 hb hd => ?_) ?_
    · have h0 : x 0 = .pointer (some ⟨g, 0, none⟩) := hd 0 (by kernel_rfl)
      rw [h0]
      first | (go_simp; done) | (go_simp; rfl)
    refine StepsAt.val 2 (.pointer (some ⟨g, 0, none⟩)) rfl (fun _ _ => rfl) rfl rfl (fun x w1 hb hd => ?_) ?_
    · have h1 : x 1 = .pointer (some ⟨g, 0, none⟩) := hd 1 (by kernel_rfl)
      rw [h1]
      first | (go_simp; done) | (go_simp; rfl)
    refine StepsAt.val 3 (.pointer (some ⟨g, 0, none⟩)) rfl (fun _ _ => rfl) rfl rfl (fun x w1 hb hd => ?_) ?_
    · have h2 : x 2 = .pointer (some ⟨g, 0, none⟩) := hd 2 (by kernel_rfl)
      rw [h2]
      first | (go_simp; done) | (go_simp; rfl)
    refine StepsAt.val 4 (.agg #[vN]) rfl (fun _ _ => rfl) rfl rfl (fun x w1 hb hd => ?_) ?_
    · have h3 : x 3 = .pointer (some ⟨g, 0, none⟩) := hd 3 (by kernel_rfl)
      obtain ⟨d9, hu9, hd9⟩ := rowShT
      refine run_load_part 24 _ rfl g 0 (tnc (mT r) vN vS vW vL (noR o 0) nv vC) [vN] 189 ?_ (X1.out.below hb X1.out.lt) rfl hu9 hd9 szShT
      rw [h3]
      rfl
    refine StepsAt.val 5 (.pointer (some ⟨gO, 3, none⟩)) rfl (fun _ _ => rfl) rfl rfl (fun x w1 hb hd => ?_) ?_
    · first | (go_simp; done) | (go_simp; rfl)
    refine StepsAt.val 6 (txt (oP o)) rfl (fun _ _ => rfl) rfl rfl (fun x w1 hb hd => ?_) ?_
    · have h5 : x 5 = .pointer (some ⟨gO, 3, none⟩) := hd 5 (by kernel_rfl)
      have cc := ((XO.out.below hb XO.out.lt).cell 3).trans (show _ = some (txt (oP o)) from rfl)
      rw [h5]
      first | (go_simp; done) | (go_simp; rfl)
    refine StepsAt.cons 7 (fun _ _ _ h hb => h) (fun _ _ => rfl) rfl rfl (fun x w1 hb hd K hK => ?_) ?_
    · have h4 : Hid (x 4 = .agg #[vN]) := hd 4 (by kernel_rfl)
      have h6 : Hid (x 6 = txt (oP o)) := hd 6 (by kernel_rfl)
      go_simp
      refine calls_args (args2 := #[.agg #[vN], txt (oP o)]) (by rw [h4.out, h6.out]) ?_
      refine (HC9.out w1 hb).mono ?_
      rintro e w99 ⟨rfl, hb99⟩
      exact hK.out _ _ hb99 rfl
    refine StepsAt.val 8 (.tuple #[ndv nn, .int .i64 (f : Int)]) rfl (fun _ _ => rfl) rfl rfl (fun x w1 hb hd => ?_) ?_
    · have h7 : x 7 = .tuple #[ndv nn, .int .i64 (f : Int)] := hd 7 (by kernel_rfl)
      rw [h7]
      first | (go_simp; done) | (go_simp; rfl)
    refine StepsAt.val 9 (ndv nn) rfl (fun _ _ => rfl) rfl rfl (fun x w1 hb hd => ?_) ?_
    · have h8 : x 8 = .tuple #[ndv nn, .int .i64 (f : Int)] := hd 8 (by kernel_rfl)
      rw [h8]
      first | (go_simp; done) | (go_simp; rfl)
    refine StepsAt.val 10 (.int .i64 (f : Int)) rfl (fun _ _ => rfl) rfl rfl (fun x w1 hb hd => ?_) ?_
    · have h8 : x 8 = .tuple #[ndv nn, .int .i64 (f : Int)] := hd 8 (by kernel_rfl)
      rw [h8]
      first | (go_simp; done) | (go_simp; rfl)
    refine StepsAt.cons 11 (fun _ _ _ h hb => h.keep hb) (fun _ _ => rfl) rfl rfl (fun x w1 hb hd K hK => ?_) ?_
    · refine wp_of_list rfl (wpList_alloc_blk rfl 91 rfl (ndc nd0) zPN ?_)
      intro w8 a1 a2 a3
      exact hK.out _ _ a3 ⟨_, rfl, a1, hb.size⟩
    exact StepsAt.done
  case pure =>
    intro p hp op ho xx w1 hd
    obtain rfl := List.mem_singleton.1 hp
    injection ho with ho
    subst ho
    have h8 : xx 8 = .tuple #[ndv nn, .int .i64 (f : Int)] := hd 8 (by kernel_rfl)
    refine ⟨rfl, .int .i64 (f : Int), fun w' => ?_, rfl⟩
    dsimp only
    rw [h8]
    first | (go_simp; done) | (go_simp; rfl)
  case fin =>
    intro xx w1 hb hd
    obtain ⟨gn, hxp, hbA, hgA⟩ : NewBx 91 (ndc nd0) wa.heap.size (xx 11) w1 := hd 11 (by omega)
    have hxv : xx 9 = ndv nn := hd 9 (by omega)
    have hxs : xx 10 = .int .i64 (f : Int) := hd 10 (by omega)
    have BA := Lib.hid hbA
    have EB := Lib.hid hb
    refine AnyTill.any (S := fun _ => True) (m := 14) _ _ _ _ ?_
    rw [hxv, hxp, hxs]
    clear hd hb hxv hxp hxs hbA
    refine AnyTill.one (i := 12) (by kernel_rfl) rfl (by rfl) (fun K hK => ?_)
    refine wp_of_list rfl (wpList_store_to rfl 91 _ _ rfl gn (ndc nn) (ndc nd0) 91 rfl rfl BA.out sPN rfl (enc_all NdK nn) ?_)
    intro w2 e1 e2 e3 e4
    refine hK.out _ _ (.inr trivial) ?_
    clear hK K
    refine AnyTill.one (i := 13) (by kernel_rfl) rfl (by rfl) (fun K hK => ?_)
    go_simp
    refine hK.out _ _ (.inr trivial) ?_
    clear hK K
    refine AnyTill.done (by kernel_rfl) ?_
    refine NoPanic.normal ?_
    try dsimp only
    have XN := Lib.hid e1
    have hB2 := Lib.hid (EB.out.trans (e3.mono hgA))
    clear e1 e2 e3 e4 BA EB
    have XO := Lib.hid (XO.out.below hB2.out hgOa)
    have X1 := Lib.hid (X1.out.below hB2.out hlt1)
    have F1 := Lib.hid (F1.out.keep (.of hB2.out hb1.out))
    have C1 := Lib.hid (C1.out.below hB2.out (Nat.le_refl _))
    have E1 := Lib.hid (E1.out.trans (.of hB2.out hb1.out))
    have hb1 := Lib.hid (Nat.le_trans hb1.out hB2.out.size)
    have hgn : g ≠ gn := by omega
    have XN := XN
    clear hgA hB2 HC9
    go_wp2
    have XN := Lib.hid XN.out.drew
    have X1 := Lib.hid X1.out.drew
    have F1 := Lib.hid (F1.out.keep (.of (Below.refl _ _).drew hb1.out))
    have C1 := Lib.hid (C1.out.below ((Below.refl w2.heap.size w2).drew) (Nat.le_refl _))
    have E1 := Lib.hid (E1.out.trans (.of (Below.refl _ _).drew hb1.out))
    have hb1 : Hid (b ≤ w2.drew.heap.size) := hb1.out
    obtain ⟨FF, hF⟩ : ∃ F : (Nat → Value) → Act, F = fun x => ⟨#[.pointer (some ⟨g, 0, none⟩), .agg (orc o).toArray, undef, .pointer (some ⟨gO, 0, none⟩), .pointer (some ⟨gn, 0, none⟩), .int .i64 (f : Int), xx 8, xx 0, xx 1, xx 2, xx 3, xx 4, xx 5, xx 6, xx 7, ndv nn, .int .i64 (f : Int), x 0, x 1, x 2, x 3, x 4, x 5, x 6, x 7, x 8, x 9, x 10, x 12, x 13, x 14, x 16, x 17, x 18], []⟩ := ⟨_, rfl⟩
    have HFF := Lib.hid hF
    refine wp_region_tillK 20 FF (fun k => [undef, undef, undef, undef, undef, undef, undef, undef, undef, undef, undef, undef, undef, undef, undef, undef, undef, undef, undef, undef].getD k undef) (fun w9 => Blk w9 gn (ndc nn) 91) (by rw [hF]; rfl) rfl (by kernel_rfl) ?_
    intro x hL
    clear hF
    obtain ⟨wA, hwA⟩ : ∃ q, w2.drew = q := ⟨_, rfl⟩
    rw [hwA] at XN X1 F1 C1 E1 hb1 ⊢
    clear hwA
    refine AnyTill.takeK 0 (.pointer (some ⟨g, 0, none⟩)) rfl (by kernel_rfl) rfl rfl (by kernel_rfl) (by kernel_rfl) HFF (wanted_none rfl) (fun _ _ => rfl) hL rfl (fun w9 hS9 => ?_) (by exact XN.out) ?_
    · first | (go_simp; done) | (go_simp; rfl)
    clear hL x
    intro x hL
    refine AnyTill.takeK 1 (.pointer (some ⟨g, 0, none⟩)) rfl (by kernel_rfl) rfl rfl (by kernel_rfl) (by kernel_rfl) HFF (wanted_none rfl) (fun _ _ => rfl) hL rfl (fun w9 hS9 => ?_) (by exact XN.out) ?_
    · first | (go_simp; done) | (go_simp; rfl)
    clear hL x
    intro x hL
    refine AnyTill.takeK 2 (.pointer (some ⟨g, 0, none⟩)) rfl (by kernel_rfl) rfl rfl (by kernel_rfl) (by kernel_rfl) HFF (wanted_none rfl) (fun _ _ => rfl) hL rfl (fun w9 hS9 => ?_) (by exact XN.out) ?_
    · first | (go_simp; done) | (go_simp; rfl)
    clear hL x
    intro x hL
    refine AnyTill.takeK 3 (.pointer (some ⟨gn, 1, none⟩)) rfl (by kernel_rfl) rfl rfl (by kernel_rfl) (by kernel_rfl) HFF (wanted_none rfl) (fun _ _ => rfl) hL rfl (fun w9 hS9 => ?_) (by exact XN.out) ?_
    · first | (go_simp; done) | (go_simp; rfl)
    clear hL x
    intro x hL
    refine AnyTill.takeK 4 (txt (nV nn)) rfl (by kernel_rfl) rfl rfl (by kernel_rfl) (by kernel_rfl) HFF (wanted_none rfl) (fun _ _ => rfl) hL rfl (fun w9 hS9 => ?_) (by exact XN.out) ?_
    · have q3 := hL.at_ 0 rfl
      rw [q3]
      have cc := hS9.at_ 1 _ rfl
      first | (go_simp; done) | (go_simp; rfl)
    clear hL x
    intro x hL
    refine AnyTill.takeK 5 (.pointer (some ⟨gn, 2, none⟩)) rfl (by kernel_rfl) rfl rfl (by kernel_rfl) (by kernel_rfl) HFF (wanted_none rfl) (fun _ _ => rfl) hL rfl (fun w9 hS9 => ?_) (by exact XN.out) ?_
    · first | (go_simp; done) | (go_simp; rfl)
    clear hL x
    intro x hL
    refine AnyTill.takeK 6 (.int .i64 (nR nn)) rfl (by kernel_rfl) rfl rfl (by kernel_rfl) (by kernel_rfl) HFF (wanted_none rfl) (fun _ _ => rfl) hL rfl (fun w9 hS9 => ?_) (by exact XN.out) ?_
    · have q5 := hL.at_ 0 rfl
      rw [q5]
      have cc := hS9.at_ 2 _ rfl
      first | (go_simp; done) | (go_simp; rfl)
    clear hL x
    intro x hL
    refine AnyTill.takeK 7 (.int .i64 (f : Int)) rfl (by kernel_rfl) rfl rfl (by kernel_rfl) (by kernel_rfl) HFF (wanted_none rfl) (fun _ _ => rfl) hL rfl (fun w9 hS9 => ?_) (by exact XN.out) ?_
    · first | (go_simp; done) | (go_simp; rfl)
    clear hL x
    intro x hL
    refine AnyTill.takeK 8 (.pointer (some ⟨g, 0, none⟩)) rfl (by kernel_rfl) rfl rfl (by kernel_rfl) (by kernel_rfl) HFF (wanted_none rfl) (fun _ _ => rfl) hL rfl (fun w9 hS9 => ?_) (by exact XN.out) ?_
    · have q0 := hL.at_ 7 rfl
      rw [q0]
      first | (go_simp; done) | (go_simp; rfl)
    clear hL x
    intro x hL
    refine AnyTill.takeK 9 (.pointer (some ⟨g, 5, none⟩)) rfl (by kernel_rfl) rfl rfl (by kernel_rfl) (by kernel_rfl) HFF (wanted_none rfl) (fun _ _ => rfl) hL rfl (fun w9 hS9 => ?_) (by exact XN.out) ?_
    · have q8 := hL.at_ 0 rfl
      rw [q8]
      first | (go_simp; done) | (go_simp; rfl)
    clear hL x
    intro x hL
    refine AnyTill.takeK 10 (.pointer (some ⟨g, 8, none⟩)) rfl (by kernel_rfl) rfl rfl (by kernel_rfl) (by kernel_rfl) HFF (wanted_none rfl) (fun _ _ => rfl) hL rfl (fun w9 hS9 => ?_) (by exact XN.out) ?_
    · have q9 := hL.at_ 0 rfl
      rw [q9]
      first | (go_simp; done) | (go_simp; rfl)
    clear hL x
    intro x hL
    have q10 := hL.at_ 0 rfl
    have q4 := hL.at_ 6 rfl
    refine AnyTill.store1 11 (by kernel_rfl) rfl HFF (g := g) (a := 8) (cs := (tnc (mT r) vN vS vW vL (noR o 0) nv vC)) (vs := [txt (nV nn)]) (u := 189) ⟨_, _, _, rfl, rfl, rfl, q10, .inr (by rw [show _ = _ from q4]; rfl), szStT, (one_of rfl)⟩ X1.out (by show 9 ≤ 12; decide) (fun w9 z1 z2 => XN.out.same (z2 _ hgn.symm)) ?_
    intro wB0 e1 e2 e3 e4
    clear q10 q4
    have F1 := Lib.hid (F1.out.keep (.store X1.out (.inl rfl) hbg e2 e4))
    have C1 := Lib.hid (C1.out.keep (T := fun e => e = 189) (.store X1.out rfl hbg e2 e4) (by decide))
    have E1 := Lib.hid (E1.out.trans (.store X1.out hbg e2 e3 e4))
    have hb1 := Lib.hid (show b ≤ wB0.heap.size by rw [e2]; exact hb1.out)
    have XN := Lib.hid (XN.out.same (e4 _ hgn.symm))
    have X1 : Hid (Blk wB0 g (tnc (mT r) vN vS vW vL (oC o, oQ o, 0, nV nn, 0, []) nv vC) 189) := e1
    clear e1 e2 e3 e4
    refine AnyTill.takeK 12 (.pointer (some ⟨g, 0, none⟩)) rfl (by kernel_rfl) rfl rfl (by kernel_rfl) (by kernel_rfl) HFF (wanted_none rfl) (fun _ _ => rfl) hL rfl (fun w9 hS9 => ?_) (by exact XN.out) ?_
    · have q1 := hL.at_ 9 rfl
      rw [q1]
      first | (go_simp; done) | (go_simp; rfl)
    clear hL x
    intro x hL
    refine AnyTill.takeK 13 (.pointer (some ⟨g, 5, none⟩)) rfl (by kernel_rfl) rfl rfl (by kernel_rfl) (by kernel_rfl) HFF (wanted_none rfl) (fun _ _ => rfl) hL rfl (fun w9 hS9 => ?_) (by exact XN.out) ?_
    · have q12 := hL.at_ 0 rfl
      rw [q12]
      first | (go_simp; done) | (go_simp; rfl)
    clear hL x
    intro x hL
    refine AnyTill.takeK 14 (.pointer (some ⟨g, 9, none⟩)) rfl (by kernel_rfl) rfl rfl (by kernel_rfl) (by kernel_rfl) HFF (wanted_none rfl) (fun _ _ => rfl) hL rfl (fun w9 hS9 => ?_) (by exact XN.out) ?_
    · have q13 := hL.at_ 0 rfl
      rw [q13]
      first | (go_simp; done) | (go_simp; rfl)
    clear hL x
    intro x hL
    have q14 := hL.at_ 0 rfl
    have q6 := hL.at_ 7 rfl
    refine AnyTill.store1 15 (by kernel_rfl) rfl HFF (g := g) (a := 9) (cs := (tnc (mT r) vN vS vW vL (oC o, oQ o, 0, nV nn, 0, []) nv vC)) (vs := [.int .i64 (nR nn)]) (u := 189) ⟨_, _, _, rfl, rfl, rfl, q14, .inr (by rw [show _ = _ from q6]; rfl), szInT, (one_of rfl)⟩ X1.out (by show 10 ≤ 12; decide) (fun w9 z1 z2 => XN.out.same (z2 _ hgn.symm)) ?_
    intro wB1 e1 e2 e3 e4
    clear q14 q6
    have F1 := Lib.hid (F1.out.keep (.store X1.out (.inl rfl) hbg e2 e4))
    have C1 := Lib.hid (C1.out.keep (T := fun e => e = 189) (.store X1.out rfl hbg e2 e4) (by decide))
    have E1 := Lib.hid (E1.out.trans (.store X1.out hbg e2 e3 e4))
    have hb1 := Lib.hid (show b ≤ wB1.heap.size by rw [e2]; exact hb1.out)
    have XN := Lib.hid (XN.out.same (e4 _ hgn.symm))
    have X1 : Hid (Blk wB1 g (tnc (mT r) vN vS vW vL (oC o, oQ o, 0, nV nn, nR nn, []) nv vC) 189) := e1
    clear e1 e2 e3 e4
    refine AnyTill.takeK 16 (.pointer (some ⟨g, 0, none⟩)) rfl (by kernel_rfl) rfl rfl (by kernel_rfl) (by kernel_rfl) HFF (wanted_none rfl) (fun _ _ => rfl) hL rfl (fun w9 hS9 => ?_) (by exact XN.out) ?_
    · have q2 := hL.at_ 11 rfl
      rw [q2]
      first | (go_simp; done) | (go_simp; rfl)
    clear hL x
    intro x hL
    refine AnyTill.takeK 17 (.pointer (some ⟨g, 5, none⟩)) rfl (by kernel_rfl) rfl rfl (by kernel_rfl) (by kernel_rfl) HFF (wanted_none rfl) (fun _ _ => rfl) hL rfl (fun w9 hS9 => ?_) (by exact XN.out) ?_
    · have q16 := hL.at_ 0 rfl
      rw [q16]
      first | (go_simp; done) | (go_simp; rfl)
    clear hL x
    intro x hL
    refine AnyTill.takeK 18 (.pointer (some ⟨g, 7, none⟩)) rfl (by kernel_rfl) rfl rfl (by kernel_rfl) (by kernel_rfl) HFF (wanted_none rfl) (fun _ _ => rfl) hL rfl (fun w9 hS9 => ?_) (by exact XN.out) ?_
    · have q17 := hL.at_ 0 rfl
      rw [q17]
      first | (go_simp; done) | (go_simp; rfl)
    clear hL x
    intro x hL
    have q18 := hL.at_ 0 rfl
    have q7 := hL.at_ 9 rfl
    refine AnyTill.store1 19 (by kernel_rfl) rfl HFF (g := g) (a := 7) (cs := (tnc (mT r) vN vS vW vL (oC o, oQ o, 0, nV nn, nR nn, []) nv vC)) (vs := [.int .i64 (f : Int)]) (u := 189) ⟨_, _, _, rfl, rfl, rfl, q18, .inr (by rw [show _ = _ from q7]; rfl), szErT, (one_of rfl)⟩ X1.out (by show 8 ≤ 12; decide) (fun w9 z1 z2 => XN.out.same (z2 _ hgn.symm)) ?_
    intro wB2 e1 e2 e3 e4
    clear q18 q7
    have F1 := Lib.hid (F1.out.keep (.store X1.out (.inl rfl) hbg e2 e4))
    have C1 := Lib.hid (C1.out.keep (T := fun e => e = 189) (.store X1.out rfl hbg e2 e4) (by decide))
    have E1 := Lib.hid (E1.out.trans (.store X1.out hbg e2 e3 e4))
    have hb1 := Lib.hid (show b ≤ wB2.heap.size by rw [e2]; exact hb1.out)
    have XN := Lib.hid (XN.out.same (e4 _ hgn.symm))
    have X1 : Hid (Blk wB2 g (tnc (mT r) vN vS vW vL (oC o, oQ o, (f : Int), nV nn, nR nn, []) nv vC) 189) := e1
    clear e1 e2 e3 e4
    refine AnyTill.done (by kernel_rfl) ?_
    refine NoPanic.normal ?_
    rw [HFF.out]
    try dsimp only
    clear hL HFF
    go_wp2
    refine ⟨rfl, _, results_none rfl _ _ _, ⟨_, rfl⟩, ?_, E1.out⟩
    rw [done2 r o hk]
    unfold ofR rep
    rw [HF.out, HNN.out]
    exact ⟨vN, vS, vW, vL, nv, vC, X1.out, ⟨F1.out.n, F1.out.s, F1.out.t, F1.out.l, F1.out.x, hab⟩, C1.out, hbg⟩
end Go.Proofs.YtdihngkdhanhkaaGreatDoor
namespace Go.Proofs.YtdihngkdhanhkaaGreatDoor
open Go.RowKit

set_option maxRecDepth 100000 in
set_option maxHeartbeats 8000000 in
theorem tnAdd_any (a b g : Nat) (wt : Wa) (o : Or) (r : Rm) (w : World) (hR : RightR r) (h : TnP a b g w r (noR o 0) []) :
    Calls Tryz.prog 168 #[.pointer (some ⟨g, 0, none⟩), .agg (wac wt).toArray] w (TnQ a b g (mN r, mT r, mS r, addW (mW r) wt, mL r) (oC o, oQ o, (addE (mW r) wt : Int), [], 0, []) [] w) := by
  obtain ⟨vN, vS, vW, vL, nv, vC, hX, hF, hC, hbg⟩ := h
  have hab := hF.ab
  have X := Lib.hid hX
  have F := Lib.hid hF
  have C := Lib.hid hC
  have hlt := hX.lt
  have HR := Lib.hid hR
  clear hX hF hC hR
  go_enter Tryz.func168, Tryz.ntmps168
  go_wp2_with (refine wpList_box_blk rfl 94 _ rfl (wac wt) rfl ?_)
  intro w1 b1 b2 b3
  obtain ⟨gO, hgO⟩ : ∃ q, w.heap.size = q := ⟨_, rfl⟩
  have hbO : b ≤ w.heap.size := by omega
  have hgo : g ≠ gO := by omega
  have hb1 := Lib.hid (show b ≤ w1.heap.size by omega)
  have XO := Lib.hid b1
  have X1 := Lib.hid (X.out.below b3 hlt)
  have F1 := Lib.hid (F.out.keep (.of b3 hbO))
  have C1 := Lib.hid (C.out.below b3 (Nat.le_refl _))
  have E1 := Lib.hid (Kp.of b3 hbO)
  have hlt1 := X1.out.lt
  rw [hgO] at XO ⊢
  clear b1 b2 b3 X F C hgO hlt hbO
  obtain ⟨f, hf⟩ : ∃ f : Nat, addE (mW r) wt = f := ⟨_, rfl⟩
  have HF := Lib.hid hf
  clear hf
  have XO := Lib.hid XO.out.drew
  have X1 := Lib.hid X1.out.drew
  have F1 := Lib.hid (F1.out.keep (.of (Below.refl _ _).drew hb1.out))
  have C1 := Lib.hid (C1.out.below ((Below.refl w1.heap.size w1).drew) (Nat.le_refl _))
  have E1 := Lib.hid (E1.out.trans (.of (Below.refl _ _).drew hb1.out))
  have hb1 : Hid (b ≤ w1.drew.heap.size) := hb1.out
  have hlt1 : g < w1.drew.heap.size := X1.out.lt
  go_wp2
  obtain ⟨FF, hF⟩ : ∃ F : (Nat → Value) → Act, F = fun x => ⟨#[.pointer (some ⟨g, 0, none⟩), .agg (wac wt).toArray, undef, .pointer (some ⟨gO, 0, none⟩), x 9, x 0, x 1, x 2, x 3, x 4, x 5, x 6, x 7, x 8, x 10, x 11, x 12, x 13, x 14, x 16, x 17, x 18], []⟩ := ⟨_, rfl⟩
  have HFF := Lib.hid hF
  refine wp_region_tillK 20 FF (fun k => [undef, undef, undef, undef, undef, undef, undef, undef, undef, undef, undef, undef, undef, undef, undef, undef, undef, undef, undef, undef].getD k undef) (fun w9 => Blk w9 gO (wac wt) 94) (by rw [hF]; rfl) rfl (by kernel_rfl) ?_
  intro x hL
  clear hF
  obtain ⟨wA, hwA⟩ : ∃ q, w1.drew = q := ⟨_, rfl⟩
  rw [hwA] at XO X1 F1 C1 E1 hb1 hlt1 ⊢
  clear hwA
  refine AnyTill.takeK 0 (.pointer (some ⟨g, 0, none⟩)) rfl (by kernel_rfl) rfl rfl (by kernel_rfl) (by kernel_rfl) HFF (wanted_none rfl) (fun _ _ => rfl) hL rfl (fun w9 hS9 => ?_) (by exact XO.out) ?_
  · first | (go_simp; done) | (go_simp; rfl)
  clear hL x
  intro x hL
  refine AnyTill.takeK 1 (.pointer (some ⟨g, 0, none⟩)) rfl (by kernel_rfl) rfl rfl (by kernel_rfl) (by kernel_rfl) HFF (wanted_none rfl) (fun _ _ => rfl) hL rfl (fun w9 hS9 => ?_) (by exact XO.out) ?_
  · first | (go_simp; done) | (go_simp; rfl)
  clear hL x
  intro x hL
  refine AnyTill.takeK 2 (.pointer (some ⟨g, 0, none⟩)) rfl (by kernel_rfl) rfl rfl (by kernel_rfl) (by kernel_rfl) HFF (wanted_none rfl) (fun _ _ => rfl) hL rfl (fun w9 hS9 => ?_) (by exact XO.out) ?_
  · first | (go_simp; done) | (go_simp; rfl)
  clear hL x
  intro x hL
  refine AnyTill.takeK 3 (.pointer (some ⟨g, 0, none⟩)) rfl (by kernel_rfl) rfl rfl (by kernel_rfl) (by kernel_rfl) HFF (wanted_none rfl) (fun _ _ => rfl) hL rfl (fun w9 hS9 => ?_) (by exact XO.out) ?_
  · have q2 := hL.at_ 0 rfl
    rw [q2]
    first | (go_simp; done) | (go_simp; rfl)
  clear hL x
  intro x hL
  refine AnyTill.takeK 4 (.pointer (some ⟨g, 0, none⟩)) rfl (by kernel_rfl) rfl rfl (by kernel_rfl) (by kernel_rfl) HFF (wanted_none rfl) (fun _ _ => rfl) hL rfl (fun w9 hS9 => ?_) (by exact XO.out) ?_
  · have q3 := hL.at_ 0 rfl
    rw [q3]
    first | (go_simp; done) | (go_simp; rfl)
  clear hL x
  intro x hL
  refine AnyTill.takeK 5 (.pointer (some ⟨g, 3, none⟩)) rfl (by kernel_rfl) rfl rfl (by kernel_rfl) (by kernel_rfl) HFF (wanted_none rfl) (fun _ _ => rfl) hL rfl (fun w9 hS9 => ?_) (by exact XO.out) ?_
  · have q4 := hL.at_ 0 rfl
    rw [q4]
    first | (go_simp; done) | (go_simp; rfl)
  clear hL x
  intro x hL
  refine AnyTill.takeK 7 (.agg (wac wt).toArray) rfl (by kernel_rfl) rfl rfl (by kernel_rfl) (by kernel_rfl) HFF (wanted_none rfl) (fun _ _ => rfl) hL rfl (fun w9 hS9 => ?_) (by exact XO.out) ?_
  · obtain ⟨d9, hu9, hd9⟩ := rowWaP
    exact run_load_part 94 _ rfl gO 0 (wac wt) (wac wt) 94 rfl hS9 rfl hu9 hd9 szWaP
  clear hL x
  intro x hL
  refine AnyTill.oneK 6 (by kernel_rfl) rfl HFF (wanted_none rfl) (fun _ _ => rfl) hL rfl (fun K hK => ?_)
  have q5 := Lib.hid (hL.at_ 1 rfl)
  obtain ⟨d9, hu9, hd9⟩ := rowTaT
  refine wp_load_part 30 _ rfl g 3 (tnc (mT r) vN vS vW vL (noR o 0) nv vC) [vW] 189 q5.out X1.out rfl hu9 hd9 szTaT ?_
  refine hK.out _ _ XO.out ?_
  clear hK K
  clear hL q5 x
  intro x hL
  refine AnyTill.oneK 8 (by kernel_rfl) rfl HFF (wanted_none rfl) (fun _ _ => rfl) hL rfl (fun K hK => ?_)
  have q6 := Lib.hid (hL.at_ 0 rfl)
  have q7 := Lib.hid (hL.at_ 1 rfl)
  go_simp
  refine calls_args (args2 := #[.agg #[vW], .agg (wac wt).toArray]) (by rw [q6.out, q7.out]) ?_
  refine (waAdd_own (mW r) wt vW wA F1.out.t.1 HR.out.w).mono ?_
  rintro e w2 ⟨u, rfl, hr, ho, hb⟩
  rw [HF.out]
  have G2 := Lib.hid (F1.out.t.next hr ho hb (Nat.le_trans hab hb1.out))
  obtain ⟨Au, cu, hu, -, -⟩ := hr.shape
  obtain ⟨nu, hnu⟩ : ∃ q, (addW (mW r) wt).length = q := ⟨_, rfl⟩
  rw [hnu] at hu
  clear hnu
  subst hu
  clear hr ho
  have XO2 := Lib.hid (XO.out.below hb XO.out.lt)
  have X2 := Lib.hid (X1.out.below hb hlt1)
  have F2 := Lib.hid (F1.out.keep (.of hb hb1.out))
  have C2 := Lib.hid (C1.out.below hb (Nat.le_refl _))
  have E2 := Lib.hid (E1.out.trans (.of hb hb1.out))
  have hb2 := Lib.hid (Nat.le_trans hb1.out hb.size)
  refine hK.out _ w2 XO2.out ?_
  clear hK K hb XO X1 F1 C1 E1 hb1 hlt1
  clear hL q6 q7 x
  intro x hL
  refine AnyTill.takeK 9 (.tuple #[.agg #[.slice Au nu cu], .int .i64 (f : Int)]) rfl (by kernel_rfl) rfl rfl (by kernel_rfl) (by kernel_rfl) HFF (wanted_none rfl) (fun _ _ => rfl) hL rfl (fun w9 hS9 => ?_) (by exact XO2.out) ?_
  · have q8 := hL.at_ 0 rfl
    rw [q8]
    first | (go_simp; done) | (go_simp; rfl)
  clear hL x
  intro x hL
  refine AnyTill.takeK 10 (.agg #[.slice Au nu cu]) rfl (by kernel_rfl) rfl rfl (by kernel_rfl) (by kernel_rfl) HFF (wanted_none rfl) (fun _ _ => rfl) hL rfl (fun w9 hS9 => ?_) (by exact XO2.out) ?_
  · have q9 := hL.at_ 0 rfl
    rw [q9]
    first | (go_simp; done) | (go_simp; rfl)
  clear hL x
  intro x hL
  refine AnyTill.takeK 11 (.int .i64 (f : Int)) rfl (by kernel_rfl) rfl rfl (by kernel_rfl) (by kernel_rfl) HFF (wanted_none rfl) (fun _ _ => rfl) hL rfl (fun w9 hS9 => ?_) (by exact XO2.out) ?_
  · have q9 := hL.at_ 1 rfl
    rw [q9]
    first | (go_simp; done) | (go_simp; rfl)
  clear hL x
  intro x hL
  refine AnyTill.takeK 12 (.pointer (some ⟨g, 0, none⟩)) rfl (by kernel_rfl) rfl rfl (by kernel_rfl) (by kernel_rfl) HFF (wanted_none rfl) (fun _ _ => rfl) hL rfl (fun w9 hS9 => ?_) (by exact XO2.out) ?_
  · have q0 := hL.at_ 11 rfl
    rw [q0]
    first | (go_simp; done) | (go_simp; rfl)
  clear hL x
  intro x hL
  refine AnyTill.takeK 13 (.pointer (some ⟨g, 0, none⟩)) rfl (by kernel_rfl) rfl rfl (by kernel_rfl) (by kernel_rfl) HFF (wanted_none rfl) (fun _ _ => rfl) hL rfl (fun w9 hS9 => ?_) (by exact XO2.out) ?_
  · have q12 := hL.at_ 0 rfl
    rw [q12]
    first | (go_simp; done) | (go_simp; rfl)
  clear hL x
  intro x hL
  refine AnyTill.takeK 14 (.pointer (some ⟨g, 3, none⟩)) rfl (by kernel_rfl) rfl rfl (by kernel_rfl) (by kernel_rfl) HFF (wanted_none rfl) (fun _ _ => rfl) hL rfl (fun w9 hS9 => ?_) (by exact XO2.out) ?_
  · have q13 := hL.at_ 0 rfl
    rw [q13]
    first | (go_simp; done) | (go_simp; rfl)
  clear hL x
  intro x hL
  have q14 := hL.at_ 0 rfl
  have q10 := hL.at_ 4 rfl
  refine AnyTill.store1 15 (by kernel_rfl) rfl HFF (g := g) (a := 3) (cs := (tnc (mT r) vN vS vW vL (noR o 0) nv vC)) (vs := [.slice Au nu cu]) (u := 189) ⟨_, _, _, rfl, rfl, rfl, q14, .inl q10, szTaT, (one_of rfl)⟩ X2.out (by show 4 ≤ 12; decide) (fun w9 z1 z2 => XO2.out.same (z2 gO hgo.symm)) ?_
  intro w3 e1 e2 e3 e4
  clear q14 q10
  have X3 := Lib.hid e1
  have F3 := Lib.hid (F2.out.keep (.store X2.out (.inl rfl) hbg e2 e4))
  have C3 := Lib.hid (C2.out.keep (T := fun e => e = 189) (.store X2.out rfl hbg e2 e4) (by decide))
  have G3 := Lib.hid (G2.out.keep (.store X2.out (.inl rfl) hbg e2 e4) TT_wa hab)
  have E3 := Lib.hid (E2.out.trans (.store X2.out hbg e2 e3 e4))
  have hb3 := Lib.hid (show b ≤ w3.heap.size by rw [e2]; exact hb2.out)
  have XO3 := Lib.hid (XO2.out.same (e4 gO hgo.symm))
  clear e1 e2 e3 e4 X2 F2 C2 G2 E2 hb2 XO2
  have X3 : Hid (Blk w3 g (tnc (mT r) vN vS (.slice Au nu cu) vL (noR o 0) nv vC) 189) := X3.out
  refine AnyTill.takeK 16 (.pointer (some ⟨g, 0, none⟩)) rfl (by kernel_rfl) rfl rfl (by kernel_rfl) (by kernel_rfl) HFF (wanted_none rfl) (fun _ _ => rfl) hL rfl (fun w9 hS9 => ?_) (by exact XO3.out) ?_
  · have q1 := hL.at_ 13 rfl
    rw [q1]
    first | (go_simp; done) | (go_simp; rfl)
  clear hL x
  intro x hL
  refine AnyTill.takeK 17 (.pointer (some ⟨g, 5, none⟩)) rfl (by kernel_rfl) rfl rfl (by kernel_rfl) (by kernel_rfl) HFF (wanted_none rfl) (fun _ _ => rfl) hL rfl (fun w9 hS9 => ?_) (by exact XO3.out) ?_
  · have q16 := hL.at_ 0 rfl
    rw [q16]
    first | (go_simp; done) | (go_simp; rfl)
  clear hL x
  intro x hL
  refine AnyTill.takeK 18 (.pointer (some ⟨g, 7, none⟩)) rfl (by kernel_rfl) rfl rfl (by kernel_rfl) (by kernel_rfl) HFF (wanted_none rfl) (fun _ _ => rfl) hL rfl (fun w9 hS9 => ?_) (by exact XO3.out) ?_
  · have q17 := hL.at_ 0 rfl
    rw [q17]
    first | (go_simp; done) | (go_simp; rfl)
  clear hL x
  intro x hL
  have q18 := hL.at_ 0 rfl
  have q11 := hL.at_ 6 rfl
  refine AnyTill.store1 19 (by kernel_rfl) rfl HFF (g := g) (a := 7) (cs := (tnc (mT r) vN vS (.slice Au nu cu) vL (noR o 0) nv vC)) (vs := [.int .i64 (f : Int)]) (u := 189) ⟨_, _, _, rfl, rfl, rfl, q18, .inr (by rw [show _ = _ from q11]; rfl), szErT, (one_of rfl)⟩ X3.out (by show 8 ≤ 12; decide) (fun w9 z1 z2 => XO3.out.same (z2 gO hgo.symm)) ?_
  intro w4 e1 e2 e3 e4
  clear q18 q11
  have X4 : Hid (Blk w4 g (tnc (mT r) vN vS (.slice Au nu cu) vL (oC o, oQ o, (f : Int), [], 0, []) nv vC) 189) := e1
  have F4 := Lib.hid (F3.out.keep (.store X3.out (.inl rfl) hbg e2 e4))
  have C4 := Lib.hid (C3.out.keep (T := fun e => e = 189) (.store X3.out rfl hbg e2 e4) (by decide))
  have G4 := Lib.hid (G3.out.keep (.store X3.out (.inl rfl) hbg e2 e4) TT_wa hab)
  have E4 := Lib.hid (E3.out.trans (.store X3.out hbg e2 e3 e4))
  have hb4 := Lib.hid (show b ≤ w4.heap.size by rw [e2]; exact hb3.out)
  have XO4 := Lib.hid (XO3.out.same (e4 gO hgo.symm))
  clear e1 e2 e3 e4 X3 F3 C3 G3 E3 hb3 XO3
  refine AnyTill.done (by kernel_rfl) ?_
  refine NoPanic.normal ?_
  rw [HFF.out]
  try dsimp only
  clear hL HFF
  go_wp2
  refine ⟨rfl, _, results_none rfl _ _ _, ⟨_, rfl⟩, ?_, E4.out⟩
  rw [HF.out]
  exact ⟨vN, vS, (.slice Au nu cu), vL, nv, vC, X4.out, ⟨F4.out.n, F4.out.s, G4.out, F4.out.l, F4.out.x, hab⟩, C4.out, hbg⟩
theorem done10 (r : Rm) (o : Or) (k : Bool) (h : oK o = if k = true then 11 else 10) : doneR r o = ((mN r, mT r, mS r, addW (mW r) (oP o, oC o, k), mL r), rep (addE (mW r) (oP o, oC o, k)) [] 0 [], []) := by
  unfold doneR
  rw [h]
  cases k <;> rfl
set_option maxRecDepth 100000 in
set_option maxHeartbeats 8000000 in
theorem tnWatch_any (a b g : Nat) (o : Or) (r : Rm) (w : World) (hR : RightR r) (h : TnP a b g w r (noR o 0) []) (_hi : fitI (oS o)) (hk : oK o = 10) :
    Calls Tryz.prog 139 #[.pointer (some ⟨g, 0, none⟩), .agg (orc o).toArray] w (TnQ a b g (doneR r o).1 (ofR o (doneR r o).2.1) (doneR r o).2.2 w) := by
  obtain ⟨vN, vS, vW, vL, nv, vC, hX, hF, hC, hbg⟩ := h
  have HT := Lib.hid (show TnP a b g w r (noR o 0) [] from ⟨vN, vS, vW, vL, nv, vC, hX, hF, hC, hbg⟩)
  have hlt := hX.lt
  have HR := Lib.hid hR
  clear hX hF hC hR
  go_enter Tryz.func139, Tryz.ntmps139
  go_wp2_with (refine wpList_box_blk rfl 35 _ rfl (orc o) rfl ?_)
  intro w1 b1 b2 b3
  have hbO : b ≤ w.heap.size := by omega
  have E1 := Lib.hid (Kp.of b3 hbO)
  have HT1 := Lib.hid (HT.out.keep b3 hbO)
  have c0 := b1.at_ 0 _ rfl
  have c3 := b1.at_ 3 _ rfl
  clear b1 b2 b3 HT
  go_wp2_with fail
  refine (tnAdd_any a b g (oP o, oC o, false) o r w1 HR.out HT1.out).mono ?_
  rintro e w2 ⟨⟨vq, rfl⟩, hT, hb⟩
  go_wp2
  refine ⟨rfl, _, results_none rfl _ _ _, ⟨_, rfl⟩, ?_, E1.out.trans hb⟩
  rw [done10 r o false hk]
  exact hT
set_option maxRecDepth 100000 in
set_option maxHeartbeats 8000000 in
theorem tnWatchKids_any (a b g : Nat) (o : Or) (r : Rm) (w : World) (hR : RightR r) (h : TnP a b g w r (noR o 0) []) (_hi : fitI (oS o)) (hk : oK o = 11) :
    Calls Tryz.prog 140 #[.pointer (some ⟨g, 0, none⟩), .agg (orc o).toArray] w (TnQ a b g (doneR r o).1 (ofR o (doneR r o).2.1) (doneR r o).2.2 w) := by
  obtain ⟨vN, vS, vW, vL, nv, vC, hX, hF, hC, hbg⟩ := h
  have HT := Lib.hid (show TnP a b g w r (noR o 0) [] from ⟨vN, vS, vW, vL, nv, vC, hX, hF, hC, hbg⟩)
  have hlt := hX.lt
  have HR := Lib.hid hR
  clear hX hF hC hR
  go_enter Tryz.func140, Tryz.ntmps140
  go_wp2_with (refine wpList_box_blk rfl 35 _ rfl (orc o) rfl ?_)
  intro w1 b1 b2 b3
  have hbO : b ≤ w.heap.size := by omega
  have E1 := Lib.hid (Kp.of b3 hbO)
  have HT1 := Lib.hid (HT.out.keep b3 hbO)
  have c0 := b1.at_ 0 _ rfl
  have c3 := b1.at_ 3 _ rfl
  clear b1 b2 b3 HT
  go_wp2_with fail
  refine (tnAdd_any a b g (oP o, oC o, true) o r w1 HR.out HT1.out).mono ?_
  rintro e w2 ⟨⟨vq, rfl⟩, hT, hb⟩
  go_wp2
  refine ⟨rfl, _, results_none rfl _ _ _, ⟨_, rfl⟩, ?_, E1.out.trans hb⟩
  rw [done10 r o true hk]
  exact hT
end Go.Proofs.YtdihngkdhanhkaaGreatDoor
