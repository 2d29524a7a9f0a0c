/-
  Texts IU JN JI OP.
-/
import Derived.Test.YtgfobinklijkpaaGreatDoorW01
import Derived.ProofKit
import Derived.SizedLaws
import Derived.SliceStrings
import Derived.OpenShut
import Derived.Lib.SmallJoins
import Derived.Test.YtgfobinklijkpaaGreatDoorW02
import Derived.Test.YtgfobinklijkpaaGreatDoorW06
import Derived.Test.YtgfobinklijkpaaGreatDoorW12
import Derived.Test.YtgfobinklijkpaaGreatDoorW18
import Derived.Test.YtgfobinklijkpaaGreatDoorW21
import Derived.Test.YtgfobinklijkpaaGreatDoorW23
import Derived.Test.YtgfobinklijkpaaGreatDoorW29
namespace Go.Proofs.YtgfobinklijkpaaGreatDoor
set_option maxRecDepth 100000
set_option maxHeartbeats 16000000
open Go.RowKit
def noteR (x : Rp) (cs : List Ch) (c : Ch) : List Ch := if pE x = 0 then cs ++ [c] else cs
theorem tnChanged_any (a b g : Nat) (k : Int) (p : List UInt8) (r : Rm) (x : Rp) (cs : List Ch) (w : World) (h : TnP a b g w r x cs) (hl : cs.length ≤ 100000) :
 Calls Tryz.prog 177 #[.pointer (some ⟨g, 0, none⟩), .int .i64 k, txt p] w (TnQ a b g r x (noteR x cs (k, p)) w) := by
 obtain ⟨vN, vS, vW, vL, nv, vC, hX, hF, hC, hbg⟩ := h
 have X := lhd hX
 have F := lhd hF
 have C := lhd hC
 have HL := lhd hl
 have hlt := hX.lt
 have c7 := hX.at_ 7 _ rfl
 clear hX hF hC hl
 go_enter Tryz.func177, Tryz.ntmps177
 by_cases he : pE x = 0
 ·have hE : (pE x == 0) = true := by rw [he]; rfl
  have HE := lhd he
  clear he
  obtain ⟨Ac, cc, hv⟩ := C.out.shape
  obtain ⟨nc, hnc⟩ : ∃ q, cs.length = q := ⟨_, rfl⟩
  rw [hnc] at hv
  subst hv
  have HN := lhd hnc
  clear hnc
  have c11 := X.out.at_ 11 _ rfl
  have hb1 : Below w.heap.size w (w.alloc (.cells (chc (k, p)).toArray 235)) := (Below.refl _ _).alloc (Nat.le_refl _) _
  have HB1 := lhd hb1
  clear hb1
  have X1 := lhd (X.out.below HB1.out hlt)
  have hbw : b ≤ w.heap.size := by omega
  have F1 := lhd (F.out.keep (.of HB1.out hbw))
  have C1 := lhd (C.out.below HB1.out (Nat.le_refl _))
  go_wp2_with (at_builtin; refine wpList_appE (E := ChK) rfl _ _ 204 rfl 235 24 Tryz.underlying204 kindChP b _ _ _ cs [(k, p)] rfl C1.out rfl (RdE.one w 235 (k, p)) (by simp) ?d1 ?d2 (Nat.le_trans hbw HB1.out.size) ?_)
  case d1 => have := HL.out; simp; omega
  case d2 => have := HL.out; simp; omega
  intro vq w2 hown hb2 hg2 _
  have K2 := lhd (Keep.grown (T := TT) C1.out (.inr rfl) (Nat.le_trans hbw HB1.out.size) hb2 hg2)
  have F2 := lhd (F1.out.keep K2.out)
  have X2 : Hid (Blk w2 g _ 206) := lhd (by
   have h1 := X1.out
   refine h1.same (hg2.block g (Nat.lt_of_lt_of_le hlt HB1.out.size) fun e => ?_)
   exact C1.out.not_blk h1 (by decide) e.symm)
  have E2 := lhd ((Kp.of HB1.out hbw).trans ⟨hb2, K2.out⟩)
  obtain ⟨A2, c2, hvq⟩ := hown.shape
  obtain ⟨n2, hn2⟩ : ∃ q, (cs ++ [(k, p)]).length = q := ⟨_, rfl⟩
  rw [hn2] at hvq
  subst hvq
  have C2 := lhd hown
  clear hown hb2 hg2 HB1 X1 F1 C1 K2 X F C c7 c11 hn2
  go_wp2_with (refine wpList_store_fld rfl 204 _ _ rfl g 11 (tnc (mT r) vN vS vW vL x nv (.slice Ac nc cc)) (.slice A2 n2 c2) 206 rfl rfl X2.out szChT (by show 11 < 12; decide) rfl ?_)
  intro w3 e1 e2 e3 e4
  have X3 : Hid (Blk w3 g (tnc (mT r) vN vS vW vL x nv (.slice A2 n2 c2)) 206) := e1
  have F3 := lhd (F2.out.keep (.store X2.out (.inl rfl) hbg e2 e4))
  have C3 := lhd (C2.out.keep (T := fun e => e = 206) (.store X2.out rfl hbg e2 e4) (by decide))
  have E3 := lhd (E2.out.trans (.store X2.out hbg e2 e3 e4))
  clear e1 e2 e3 e4 X2 F2 C2 E2
  go_wp2
  refine ⟨rfl, _, results_none rfl _ _ _, ⟨_, rfl⟩, ?_, E3.out⟩
  rw [noteR, if_pos HE.out]
  exact ⟨vN, vS, vW, vL, nv, _, X3.out, F3.out, C3.out, hbg⟩
 ·have hE : (pE x == 0) = false := by rw [beq_eq_false_iff_ne]; exact he
  have HE := lhd he
  clear he
  go_wp2
  refine ⟨rfl, _, results_none rfl _ _ _, ⟨_, rfl⟩, ?_, Kp.of (Below.refl _ _) (by omega)⟩
  rw [noteR, if_neg HE.out]
  exact ⟨vN, vS, vW, vL, nv, vC, X.out, F.out, C.out, hbg⟩
theorem rowBP : ∃ d, Tryz.prog.underlying 44 = some d ∧ d.isRow = true := ⟨_, Tryz.underlying44, rfl⟩
theorem sBP : (Tryz.prog.info? 44).map (·.size) = some 2 := by kernel_rfl
theorem zBP : (Tryz.prog.info? 44).map (·.zero) = some (some (.agg [Value.int .i64 0, .slice none 0 0].toArray)) := by kernel_rfl
theorem bkNew_any (w : World) : Calls Tryz.prog 46 #[] w (Book1 0 [] w) := by
 obtain ⟨d30, hu30, hd30⟩ := rowBP
 have HU := lhd hu30
 have HD := lhd hd30
 clear hu30 hd30
 go_enter Tryz.func46, Tryz.ntmps46
 go_wp2_with (refine wpList_alloc_blk rfl 44 rfl [.int .i64 0, .slice none 0 0] zBP ?_)
 intro w1 a1 a2 a3
 obtain ⟨g0, hg0⟩ : ∃ g, w.heap.size = g := ⟨_, rfl⟩
 have X0 := lhd a1
 have HB := lhd a3
 rw [hg0] at X0 ⊢
 clear a1 a2 a3
 go_wp2_with (refine wpList_store_to rfl 44 _ _ rfl g0 [.int .i64 0, .slice none 0 0] [.int .i64 0, .slice none 0 0] 44 rfl rfl X0.out sBP rfl (book_one _ _ _ _) ?_)
 intro w2 e1 e2 e3 e4
 go_wp2
 refine bodyPost_ret (v := .agg [Value.int .i64 0, .slice none 0 0].toArray) ?_ rfl ?_
 ·exact ret_blkUL rfl _ _ g0 44 [.int .i64 0, .slice none 0 0] rfl e1 d30 HU.out HD.out sBP
 ·exact ⟨_, rfl, RdE.nil _ _, HB.out.trans (e3.mono (by omega))⟩
def Own1 (t : Int) (l : List Se) (w : World) (e : Ending) (w' : World) : Prop := ∃ u, e = .returned (.agg #[.int .i64 t, u]) ∧ OwnE SeK 160 w' w.heap.size u l ∧ Below w.heap.size w w'
def OwnV (l : List Se) (B : Nat) (u : Value) (w : World) : Prop := OwnE SeK 160 w B u l
def OwnA (t : Int) (l : List Se) (B : Nat) (v : Value) (w : World) : Prop := ∃ u, v = .agg #[.int .i64 t, u] ∧ OwnE SeK 160 w B u l
theorem bkClone_any (t : Int) (l : List Se) (v : Value) (w : World) (hr : RdE SeK w.heap.size w v l) (hl : l.length ≤ 100000) : Calls Tryz.prog 220 #[.agg #[.int .i64 t, v]] w (Own1 t l w) := by
 obtain ⟨d30, hu30, hd30⟩ := rowBP
 have HU := lhd hu30
 have HD := lhd hd30
 have HR := lhd hr
 have HL := lhd hl
 clear hr hl hu30 hd30
 go_enter Tryz.func220, Tryz.ntmps220
 go_wp2_with (refine wpList_box_blk rfl 44 _ rfl [.int .i64 t, v] rfl ?_)
 intro w1 b1 b2 b3
 go_wp2_with (refine wpList_alloc_blk rfl 44 rfl [.int .i64 0, .slice none 0 0] zBP ?_)
 intro W a1 a2 a3
 obtain ⟨g0, hg0⟩ : ∃ g, w.heap.size = g := ⟨_, rfl⟩
 obtain ⟨g1, hg1⟩ : ∃ g, w.heap.size + 1 = g := ⟨_, rfl⟩
 have X0 := lhd (b1.below a3 (by omega))
 have X1 := lhd a1
 have HB := lhd (b3.trans (a3.mono (by omega)))
 have HR2 := lhd ((HR.out.below HB.out).more HB.out.size)
 have hgW : g1 < W.heap.size := by omega
 have hg0W : g0 < W.heap.size := by omega
 have hwg : w.heap.size ≤ g1 := by omega
 rw [hg1] at X1 ⊢
 rw [hg0] at X0 ⊢
 clear b1 b2 b3 a1 a2 a3 hg0 hg1 HR
 go_wp2
 refine wp_region_rely3 6 1 (fun x => ⟨#[.agg #[Value.int IntKind.i64 t, v], .pointer (some { block := g0, off := 0 }), .pointer (some { block := g1, off := 0 }), x 0, x 1, x 2, x 3, x 4, x 5], []⟩) (fun jj => ([eqV (.pointer (some ⟨g0, 0, none⟩)), eqV (.int .i64 t), eqV (.pointer (some ⟨g0, 1, none⟩)), eqV (v), (OwnV l W.heap.size), (OwnA t l W.heap.size)] : List (Value → World → Prop)).getD jj (fun _ _ => True)) rfl ⟨fun kk => [_, _, _, _, _, _].getD kk undef, rfl⟩ (by kernel_rfl) (by kernel_rfl) ?steps ?fin
 case steps =>
  refine StepsAt.val 0 (.pointer (some ⟨g0, 0, none⟩)) rfl (fun _ _ => rfl) rfl rfl (fun x wx hb hd => ?_) ?_
  ·(go_simp; try rfl)
  refine StepsAt.val 1 (.int .i64 t) rfl (fun _ _ => rfl) rfl rfl (fun x wx hb hd => ?_) ?_
  ·have h0 : x 0 = .pointer (some ⟨g0, 0, none⟩) := hd 0 (by kernel_rfl)
   have cc := (hb.cell hg0W).trans (X0.out.at_ 0 _ rfl)
   rw [h0]
   (go_simp; try rfl)
  refine StepsAt.val 2 (.pointer (some ⟨g0, 1, none⟩)) rfl (fun _ _ => rfl) rfl rfl (fun x wx hb hd => ?_) ?_
  ·(go_simp; try rfl)
  refine StepsAt.val 3 (v) rfl (fun _ _ => rfl) rfl rfl (fun x wx hb hd => ?_) ?_
  ·have h2 : x 2 = .pointer (some ⟨g0, 1, none⟩) := hd 2 (by kernel_rfl)
   have cc := (hb.cell hg0W).trans (X0.out.at_ 1 _ rfl)
   rw [h2]
   (go_simp; try rfl)
  refine StepsAt.cons 4 (fun _ _ _ h hb => OwnE.below h hb (Nat.le_refl _)) (fun _ _ => rfl) rfl rfl (fun x wx hb hd K hK => ?_) ?_
  ·have h3 : Hid (x 3 = v) := hd 3 (by kernel_rfl)
   go_simp
   refine calls_args (args2 := #[v]) (by rw [h3.out]) ?_
   refine (clone_anySe l v _ ((HR2.out.below hb).more hb.size) HL.out).mono ?_
   rintro e w99 ⟨u, rfl, ho, hb99⟩
   exact hK.out _ _ hb99 (OwnE.base ho hb.size)
  refine StepsAt.cons 5 (fun _ _ _ h hb => (by obtain ⟨u, h1, h2⟩ := h; exact ⟨u, h1, OwnE.below h2 hb (Nat.le_refl _)⟩)) (fun _ _ => rfl) rfl rfl (fun x wx hb hd K hK => ?_) ?_
  ·have h1 : Hid (x 1 = .int .i64 t) := hd 1 (by kernel_rfl)
   have h4 : OwnV l W.heap.size (x 4) wx := hd 4 (by kernel_rfl)
   obtain ⟨A, c, hu, -, -⟩ := (OwnE.rd h4).shape
   obtain ⟨LL, hLL⟩ : ∃ LL, l.length = LL := ⟨_, rfl⟩
   rw [hLL] at hu
   have h9 : OwnE SeK 160 wx W.heap.size (.slice A LL c) l := by rw [← hu]; exact h4
   have HO9 := lhd h9
   have e1 := h1.out
   rw [e1, hu] at hK ⊢
   clear h9 h4 hLL hd e1 h1 hu
   go_simp
   exact hK.out _ _ (Below.refl _ _) ⟨_, rfl, HO9.out⟩
  exact StepsAt.done
 case fin =>
  intro x wx hb hd
  obtain ⟨u, hx5, ho⟩ : OwnA t l W.heap.size (x 5) wx := hd 5 (by omega)
  obtain ⟨A, c, hu, -, -⟩ := ho.rd.shape
  obtain ⟨LL, hLL⟩ : ∃ LL, l.length = LL := ⟨_, rfl⟩
  rw [hLL] at hu
  subst hu
  have HO := lhd ho
  have HBx := lhd hb
  have Xx := lhd (X1.out.below hb hgW)
  rw [hx5]
  clear hd hb hx5 ho hLL
  refine AnyTill.any (S := fun _ => True) (m := 7) _ _ _ _ ?_
  refine AnyTill.one (i := 6) (by kernel_rfl) rfl (by rfl) (fun K hK => ?_)
  refine wp_of_list rfl (wpList_store_to rfl 44 _ _ rfl g1 [.int .i64 t, .slice A LL c] [.int .i64 0, .slice none 0 0] 44 rfl rfl Xx.out sBP rfl (book_one _ _ _ _) ?_)
  intro w9 e1 e2 e3 e4
  refine hK.out _ _ (.inr trivial) ?_
  clear hK K
  refine AnyTill.done (by kernel_rfl) ?_
  refine NoPanic.normal ?_
  try dsimp only
  have HO9 : Hid (OwnE SeK 160 w9 W.heap.size (.slice A LL c) l) := ownsRow_same HO.out (fun k hk => e4 k (by omega))
  have HB9 := lhd (HB.out.trans ((HBx.out.mono HB.out.size).trans (e3.mono hwg)))
  go_wp2
  refine bodyPost_ret (v := .agg [Value.int .i64 t, .slice A LL c].toArray) ?_ rfl ?_
  ·exact ret_blkUL rfl _ _ g1 44 [.int .i64 t, .slice A LL c] rfl e1 d30 HU.out HD.out sBP
  ·exact ⟨_, rfl, OwnE.base HO9.out HB.out.size, HB9.out⟩
theorem bkSame_anyL (t s : Int) (l m : List Se) (v u : Value) (w : World) (hr : RdE SeK w.heap.size w v l) (hr2 : RdE SeK w.heap.size w u m) (_hl : l.length ≤ 1000) (_hm : m.length ≤ 1000) : Calls Tryz.prog 58 #[.agg #[.int .i64 t, v], .agg #[.int .i64 s, u]] w (One (.bool (sameB t s l m)) w) := by
 have HR := lhd hr
 have HR2 := lhd hr2
 clear hr hr2
 go_enter Tryz.func58, Tryz.ntmps58
 go_wp2_with (refine wpList_box_blk rfl 44 _ rfl [.int .i64 t, v] rfl ?_)
 intro w1 b1 b2 b3
 go_wp2_with (refine wpList_box_blk rfl 44 _ rfl [.int .i64 s, u] rfl ?_)
 intro w2 a1 a2 a3
 obtain ⟨g0, hg0⟩ : ∃ g, w.heap.size = g := ⟨_, rfl⟩
 obtain ⟨g1, hg1⟩ : ∃ g, w.heap.size + 1 = g := ⟨_, rfl⟩
 have X0 := lhd (b1.below a3 (by omega))
 have HB := lhd (b3.trans (a3.mono (by omega)))
 have hw2 : w.heap.size ≤ w2.heap.size := by omega
 have HRa := lhd ((HR.out.below HB.out).more hw2)
 have HRb := lhd ((HR2.out.below HB.out).more hw2)
 have X1 := lhd a1
 rw [hg1] at X1 ⊢
 rw [hg0] at X0 ⊢
 have ca := X0.out.at_ 0 _ rfl
 have cb := X1.out.at_ 0 _ rfl
 have ca1 := X0.out.at_ 1 _ rfl
 have cb1 := X1.out.at_ 1 _ rfl
 clear b1 b2 b3 a1 a2 a3 HR HR2
 by_cases hts : t = s
 rotate_left
 ·have HF : Hid (sameB t s l m = false) := by
   show _ = _
   unfold sameB
   rw [decide_eq_false hts]; rfl
  have hz : (t == s) = false := by rw [beq_eq_false_iff_ne]; exact hts
  clear hts
  go_wp2
  go_ret
  exact ⟨by rw [HF.out]; rfl, HB.out⟩
 have HE : Hid (sameB t s l m = decide (l = m)) := by
  show _ = _
  unfold sameB
  rw [decide_eq_true hts]; rfl
 have hzt : (t == s) = true := by rw [hts]; simp
 clear hts
 go_wp2_with fail
 refine (eqFunc_anySe l m v u w2 HRa.out HRb.out).mono ?_
 rintro e w3 ⟨rfl, hb⟩
 have HB3 := lhd (HB.out.trans (hb.mono hw2))
 clear hb ca cb ca1 cb1
 go_wp2
 go_ret
 exact ⟨by rw [HE.out]; rfl, HB3.out⟩
theorem bkTouch_own (t : Int) (l : List Se) (id : Int) (v : Value) (w : World) (hr : RdE SeK w.heap.size w v l) (hR : RightB t l) : Calls Tryz.prog 183 #[.agg #[.int .i64 t, v], .int .i64 id] w (BooksO 160 v t (touchS t l id) (leaseE l id) w) := by
 obtain ⟨d30, hu30, hd30⟩ := rowBP
 have HU := lhd hu30
 have HD := lhd hd30
 have HR := lhd hr
 have HRT := lhd hR
 have hl0 := hR.few
 have HL : Hid (l.length ≤ 100000) := by
  show _ ≤ _
  omega
 clear hr hR hu30 hd30 hl0
 go_enter Tryz.func183, Tryz.ntmps183
 go_wp2_with (refine wpList_box_blk rfl 44 _ rfl [.int .i64 t, v] rfl ?_)
 intro w1 b1 b2 b3
 go_wp2_with (refine wpList_alloc_blk rfl 44 rfl [.int .i64 0, .slice none 0 0] zBP ?_)
 intro w2 a1 a2 a3
 obtain ⟨g0, hg0⟩ : ∃ g, w.heap.size = g := ⟨_, rfl⟩
 obtain ⟨g1, hg1⟩ : ∃ g, w.heap.size + 1 = g := ⟨_, rfl⟩
 obtain ⟨B0, hB0⟩ : ∃ g, w2.heap.size = g := ⟨_, rfl⟩
 have X0 := lhd (b1.below a3 (by omega))
 have X1 := lhd a1
 have HB := lhd (b3.trans (a3.mono (by omega)))
 have HR2 := lhd ((HR.out.below HB.out).more HB.out.size)
 have hg1B : g1 < B0 := by omega
 have hwg : w.heap.size ≤ g1 := by omega
 have hwB : w.heap.size ≤ B0 := by omega
 have hg0B : g0 < B0 := by omega
 have HB0 := lhd hB0
 rw [hg1] at X1 ⊢
 rw [hg0] at X0 ⊢
 have ca := X0.out.at_ 0 _ rfl
 have cb := X0.out.at_ 1 _ rfl
 clear b1 b2 b3 a1 a2 a3 hg0 hg1 HR hB0
 go_wp2_with fail
 refine (bkClone_any t l v w2 HR2.out HL.out).mono ?_
 rintro e w3 ⟨u, rfl, ho, hb⟩
 rw [HB0.out] at ho hb
 obtain ⟨n, hn⟩ : ∃ n, l.length = n := ⟨_, rfl⟩
 have HN := lhd hn
 obtain ⟨A, c, hu, hc, hm⟩ := ho.rd.shape
 rw [hn] at hu hc
 subst hu
 unfold maxLen at hm
 have HO := lhd ho
 have Y1 := lhd (X1.out.below hb hg1B)
 have HB3 := lhd (HB.out.trans (hb.mono hwB))
 have hs3 : B0 ≤ w3.heap.size := by
  have := hb.size
  rw [HB0.out] at this
  exact this
 clear ho hb hn ca cb X0 X1 HB HR2
 go_wp2_with (refine wpList_alloc_blk rfl 44 rfl [.int .i64 0, .slice none 0 0] zBP ?_)
 intro w4 a1 a2 a3
 obtain ⟨g2, hg2⟩ : ∃ g, w3.heap.size = g := ⟨_, rfl⟩
 have A1 := lhd a1
 have HO4 := lhd (HO.out.below a3 (Nat.le_refl _))
 have Y14 := lhd (Y1.out.below a3 (by omega))
 have HB4 := lhd (HB3.out.trans (a3.mono (by omega)))
 have hne := World.ownsRow.lt HO.out
 rw [hg2] at A1 hne hs3 ⊢
 have hs4 : w4.heap.size = g2 + 1 := by omega
 have HNE := lhd hne
 clear a1 a2 a3 HO Y1 HB3 hg2 hne
 go_wp2_with (refine wpList_store_to rfl 44 _ _ rfl g2 [.int .i64 t, .slice A n c] [.int .i64 0, .slice none 0 0] 44 rfl rfl A1.out sBP rfl (book_one _ _ _ _) ?_)
 intro w5 e1 e2 e3 e4
 have HO5 : Hid (OwnE SeK 160 w5 B0 (.slice A n c) l) := ownsRow_but HO4.out (fun e => by have := (HNE.out g2 e).2; omega) e4
 have X15 := lhd (Y14.out.same (e4 g1 (by omega)))
 have X25 := lhd e1
 have HB5 := lhd (HB4.out.trans (e3.mono (by omega)))
 have hs5 : w5.heap.size = g2 + 1 := by omega
 clear e1 e2 e3 e4 HO4 Y14 A1 HB4 hs4
 have ca := X25.out.at_ 1 _ rfl
 go_wp2_with fail
 refine (find_any l id _ w5 HO5.out.rd HL.out HRT.out.order).mono ?_
 rintro e w6 ⟨rfl, hb⟩
 have HO6 := lhd (HO5.out.below hb (Nat.le_refl _))
 have X16 := lhd (X15.out.below hb (by omega))
 have X26 := lhd (X25.out.below hb (by omega))
 have HB6 := lhd (HB5.out.trans (hb.mono (by omega)))
 have hs6 : g2 < w6.heap.size := by
  have := hb.size
  omega
 clear hb ca HO5 X15 X25 HB5 hs5
 have ca := X26.out.at_ 0 _ rfl
 have cb := X26.out.at_ 1 _ rfl
 cases hH : hasSe l id
 ·have HE := lhd (touch_none t l id hH)
  clear hH
  go_wp2_with (refine wpList_store_to rfl 44 _ _ rfl g1 [.int .i64 t, .slice A n c] [.int .i64 0, .slice none 0 0] 44 rfl rfl X16.out sBP rfl (book_one _ _ _ _) ?_)
  intro w9 e1 e2 e3 e4
  go_wp2
  refine bodyPost_ret (v := .tuple #[.agg #[.int .i64 t, .slice A n c], .int .i64 14]) ?_ rfl ?_
  ·exact ret_blk2U rfl _ _ g1 44 [.int .i64 t, .slice A n c] _ rfl rfl e1 d30 HU.out HD.out sBP
  ·rw [HE.out.1, HE.out.2]
   have hq := ownsRow_same HO6.out (fun k hk => e4 k (by omega))
   exact ⟨_, rfl, OwnE.rd hq, .inr (OwnE.base hq (by first | exact Nat.le_refl _ | assumption | omega)), HB6.out.trans (e3.mono hwg)⟩
 have HE := lhd (lease_yes l id hH)
 have HP := lhd (touchS_pos t l id HRT.out.order hH)
 obtain ⟨p1, p2⟩ := pos_is l id HRT.out.order hH
 have hft := (touch_fit t l HRT.out (l.getD (posS l id) se0) (getD_memS l _ p1))
 clear hH p2
 obtain ⟨i, hi⟩ : ∃ i, posS l id = i := ⟨_, rfl⟩
 rw [hi] at HP p1 hft ⊢
 have ho := HO6.out
 rw [← HN.out] at ho
 obtain ⟨g, c', hA, -, hgB, hgW⟩ := ho.inBlock (by omega)
 injection hA with hA _ hc'
 subst hA
 subst hc'
 have hne2 := (HNE.out g rfl).2
 obtain ⟨x9, hx⟩ : ∃ x, l.getD i se0 = x := ⟨_, rfl⟩
 have HX := lhd hx
 rw [hx] at HP hft
 obtain ⟨f1, f2⟩ := hft
 have hin : i < n := by rw [← HN.out]; exact p1
 have zi : (i : Int) < (n : Int) := by omega
 have k1 := (ho.cellK i 1 p1 (by decide)).1
 have k2 := (ho.cellK i 2 p1 (by decide)).1
 have kf := (ho.cellK i 2 p1 (by decide)).2
 change OwnE SeK _ _ _ _ _ at ho
 rw [show SeK.d = se0 from rfl, hx] at k1 k2
 change w6.cell? ⟨g, i * 3 + 1, none⟩ = some (.int .i64 (sP x9)) at k1
 change w6.cell? ⟨g, i * 3 + 2, none⟩ = some (.int .i64 (sU x9)) at k2
 change w6.frozen? ⟨g, i * 3 + 2, none⟩ = false at kf
 have K1 := lhd k1
 have K2 := lhd k2
 have hwp : IntKind.i64.wrap (t + sP x9) = t + sP x9 := f2
 have KF := lhd kf
 clear hx ho k1 k2 kf hi
 go_wp2
 refine wp_region_rely3 14 1 (fun x => ⟨#[.agg #[Value.int IntKind.i64 t, v], .int IntKind.i64 id, .pointer (some { block := g0, off := 0 }), undef, .pointer (some { block := g1, off := 0 }), .int IntKind.i64 0, .pointer (some { block := g2, off := 0 }), .int IntKind.i64 ↑i, .bool true, .agg #[Value.int IntKind.i64 t, v], .agg #[Value.int IntKind.i64 t, Value.slice (some { block := g, off := 0 }) n c], .tuple #[Value.int IntKind.i64 ↑i, Value.bool true], .pointer (some { block := g2, off := 1 }), .slice (some { block := g, off := 0 }) n c, .int IntKind.i64 id, .tuple #[Value.int IntKind.i64 ↑i, Value.bool true], .int IntKind.i64 ↑i, .bool true, .bool true, .bool false, undef, x 0, x 1, x 2, x 3, x 4, x 5, x 6, x 7, x 8, x 9, x 10, x 11, x 12, x 13, undef], []⟩) (fun jj => ([eqV (.pointer (some ⟨g2, 1, none⟩)), eqV (.slice (some ⟨g, 0, none⟩) n c), eqV (.int IntKind.i64 ↑i), eqV (.pointer (some ⟨g2, 0, none⟩)), eqV (.int .i64 t), eqV (.pointer (some ⟨g2, 1, none⟩)), eqV (.slice (some ⟨g, 0, none⟩) n c), eqV (.int IntKind.i64 ↑i), eqV (.pointer (some ⟨g, i * 3, none⟩)), eqV (.pointer (some ⟨g, i * 3 + 1, none⟩)), eqV (.int .i64 (sP x9)), eqV (.int .i64 (t + sP x9)), eqV (.pointer (some ⟨g, i * 3, none⟩)), eqV (.pointer (some ⟨g, i * 3 + 2, none⟩))] : List (Value → World → Prop)).getD jj (fun _ _ => True)) rfl ⟨fun kk => [_, _, _, _, _, _, _, _, _, _, _, _, _, _].getD kk undef, rfl⟩ (by kernel_rfl) (by kernel_rfl) ?steps ?fin
 case steps =>
  refine StepsAt.val 0 (.pointer (some ⟨g2, 1, none⟩)) rfl (fun _ _ => rfl) rfl rfl (fun x wx hb hd => ?_) ?_
  ·(go_simp; try rfl)
  refine StepsAt.val 1 (.slice (some ⟨g, 0, none⟩) n c) rfl (fun _ _ => rfl) rfl rfl (fun x wx hb hd => ?_) ?_
  ·have h0 : x 0 = .pointer (some ⟨g2, 1, none⟩) := hd 0 (by kernel_rfl)
   have cc := ((X26.out.below hb X26.out.lt).cell 1).trans (show _ = some (.slice (some ⟨g, 0, none⟩) n c) from rfl)
   rw [h0]
   (go_simp; try rfl)
  refine StepsAt.val 2 (.int IntKind.i64 ↑i) rfl (fun _ _ => rfl) rfl rfl (fun x wx hb hd => ?_) ?_
  ·(go_simp; try rfl)
  refine StepsAt.val 3 (.pointer (some ⟨g2, 0, none⟩)) rfl (fun _ _ => rfl) rfl rfl (fun x wx hb hd => ?_) ?_
  ·(go_simp; try rfl)
  refine StepsAt.val 4 (.int .i64 t) rfl (fun _ _ => rfl) rfl rfl (fun x wx hb hd => ?_) ?_
  ·have h3 : x 3 = .pointer (some ⟨g2, 0, none⟩) := hd 3 (by kernel_rfl)
   have cc := ((X26.out.below hb X26.out.lt).cell 0).trans (show _ = some (.int .i64 t) from rfl)
   rw [h3]
   (go_simp; try rfl)
  refine StepsAt.val 5 (.pointer (some ⟨g2, 1, none⟩)) rfl (fun _ _ => rfl) rfl rfl (fun x wx hb hd => ?_) ?_
  ·(go_simp; try rfl)
  refine StepsAt.val 6 (.slice (some ⟨g, 0, none⟩) n c) rfl (fun _ _ => rfl) rfl rfl (fun x wx hb hd => ?_) ?_
  ·have h5 : x 5 = .pointer (some ⟨g2, 1, none⟩) := hd 5 (by kernel_rfl)
   have cc := ((X26.out.below hb X26.out.lt).cell 1).trans (show _ = some (.slice (some ⟨g, 0, none⟩) n c) from rfl)
   rw [h5]
   (go_simp; try rfl)
  refine StepsAt.val 7 (.int IntKind.i64 ↑i) rfl (fun _ _ => rfl) rfl rfl (fun x wx hb hd => ?_) ?_
  ·(go_simp; try rfl)
  refine StepsAt.val 8 (.pointer (some ⟨g, i * 3, none⟩)) rfl (fun _ _ => rfl) rfl rfl (fun x wx hb hd => ?_) ?_
  ·have h6 : x 6 = .slice (some ⟨g, 0, none⟩) n c := hd 6 (by kernel_rfl)
   have h7 : x 7 = .int IntKind.i64 ↑i := hd 7 (by kernel_rfl)
   rw [h6, h7]
   (go_simp; try rfl)
  refine StepsAt.val 9 (.pointer (some ⟨g, i * 3 + 1, none⟩)) rfl (fun _ _ => rfl) rfl rfl (fun x wx hb hd => ?_) ?_
  ·have h8 : x 8 = .pointer (some ⟨g, i * 3, none⟩) := hd 8 (by kernel_rfl)
   rw [h8]
   (go_simp; try rfl)
  refine StepsAt.val 10 (.int .i64 (sP x9)) rfl (fun _ _ => rfl) rfl rfl (fun x wx hb hd => ?_) ?_
  ·have h9 : x 9 = .pointer (some ⟨g, i * 3 + 1, none⟩) := hd 9 (by kernel_rfl)
   have cc := (hb.cell hgW).trans K1.out
   rw [h9]
   (go_simp; try rfl)
  refine StepsAt.val 11 (.int .i64 (t + sP x9)) rfl (fun _ _ => rfl) rfl rfl (fun x wx hb hd => ?_) ?_
  ·have h4 : x 4 = .int .i64 t := hd 4 (by kernel_rfl)
   have h10 : x 10 = .int .i64 (sP x9) := hd 10 (by kernel_rfl)
   rw [h4, h10]
   (go_simp; try rfl)
  refine StepsAt.val 12 (.pointer (some ⟨g, i * 3, none⟩)) rfl (fun _ _ => rfl) rfl rfl (fun x wx hb hd => ?_) ?_
  ·have h1 : x 1 = .slice (some ⟨g, 0, none⟩) n c := hd 1 (by kernel_rfl)
   have h2 : x 2 = .int IntKind.i64 ↑i := hd 2 (by kernel_rfl)
   rw [h1, h2]
   (go_simp; try rfl)
  refine StepsAt.val 13 (.pointer (some ⟨g, i * 3 + 2, none⟩)) rfl (fun _ _ => rfl) rfl rfl (fun x wx hb hd => ?_) ?_
  ·have h12 : x 12 = .pointer (some ⟨g, i * 3, none⟩) := hd 12 (by kernel_rfl)
   rw [h12]
   (go_simp; try rfl)
  exact StepsAt.done
 case fin =>
  intro x wx hb hd
  have hx0 : x 0 = .pointer (some ⟨g2, 1, none⟩) := hd 0 (by omega)
  have hx1 : x 1 = .slice (some ⟨g, 0, none⟩) n c := hd 1 (by omega)
  have hx2 : x 2 = .int IntKind.i64 ↑i := hd 2 (by omega)
  have hx3 : x 3 = .pointer (some ⟨g2, 0, none⟩) := hd 3 (by omega)
  have hx4 : x 4 = .int .i64 t := hd 4 (by omega)
  have hx5 : x 5 = .pointer (some ⟨g2, 1, none⟩) := hd 5 (by omega)
  have hx6 : x 6 = .slice (some ⟨g, 0, none⟩) n c := hd 6 (by omega)
  have hx7 : x 7 = .int IntKind.i64 ↑i := hd 7 (by omega)
  have hx8 : x 8 = .pointer (some ⟨g, i * 3, none⟩) := hd 8 (by omega)
  have hx9 : x 9 = .pointer (some ⟨g, i * 3 + 1, none⟩) := hd 9 (by omega)
  have hx10 : x 10 = .int .i64 (sP x9) := hd 10 (by omega)
  have hx11 : x 11 = .int .i64 (t + sP x9) := hd 11 (by omega)
  have hx12 : x 12 = .pointer (some ⟨g, i * 3, none⟩) := hd 12 (by omega)
  have hx13 : x 13 = .pointer (some ⟨g, i * 3 + 2, none⟩) := hd 13 (by omega)
  have HOx := lhd (HO6.out.below hb (Nat.le_refl _))
  have HBx := lhd (HB6.out.trans (hb.mono HB6.out.size))
  have X1x := lhd (X16.out.below hb X16.out.lt)
  have X2x := lhd (X26.out.below hb X26.out.lt)
  have cc := (hb.cell hgW).trans K2.out
  have cf := (hb.frozen hgW).trans KF.out
  have hgx : g2 < wx.heap.size := X2x.out.lt
  have HS : Hid (OwnE SeK 160 (wx.setCell ⟨g, i * 3 + 2, none⟩ (.int .i64 (t + sP x9))) B0 (.slice (some ⟨g, 0, none⟩) n c) (l.set i (sI x9, sP x9, t + sP x9)) ∧ Below B0 wx (wx.setCell ⟨g, i * 3 + 2, none⟩ (.int .i64 (t + sP x9)))) :=
   HOx.out.storedK i 2 p1 (by decide) (.int .i64 (t + sP x9)) (sI x9, sP x9, t + sP x9) (by rw [show SeK.d = se0 from rfl, HX.out]; rfl)
  refine AnyTill.any (S := fun _ => True) (m := 14) _ _ _ _ ?_
  rw [hx0, hx1, hx2, hx3, hx4, hx5, hx6, hx7, hx8, hx9, hx10, hx11, hx12, hx13]
  clear hd hb hx0 hx1 hx2 hx3 hx4 hx5 hx6 hx7 hx8 hx9 hx10 hx11 hx12 hx13
  refine AnyTill.one (i := 14) (by kernel_rfl) rfl (by rfl) (fun K hK => ?_)
  go_simp
  refine hK.out _ _ (.inr trivial) ?_
  clear hK K
  refine AnyTill.done (by kernel_rfl) ?_
  refine NoPanic.normal ?_
  try dsimp only
  have X27 : Hid (Blk (wx.setCell ⟨g, i * 3 + 2, none⟩ (.int .i64 (t + sP x9))) g2 [.int .i64 t, .slice (some ⟨g, 0, none⟩) n c] 44) := X2x.out.same (heap_setCell_other wx ⟨g, i * 3 + 2, none⟩ g2 _ (by show g2 ≠ g; omega))
  have X17 : Hid (Blk (wx.setCell ⟨g, i * 3 + 2, none⟩ (.int .i64 (t + sP x9))) g1 [.int .i64 0, .slice none 0 0] 44) := X1x.out.same (heap_setCell_other wx ⟨g, i * 3 + 2, none⟩ g1 _ (by show g1 ≠ g; omega))
  have HB7 : Hid (Below w.heap.size w (wx.setCell ⟨g, i * 3 + 2, none⟩ (.int .i64 (t + sP x9)))) := HBx.out.setCell (show w.heap.size ≤ g by omega) _
  have HO7 := lhd HS.out.1
  obtain ⟨w7, hw7⟩ : ∃ q, wx.setCell ⟨g, i * 3 + 2, none⟩ (.int .i64 (t + sP x9)) = q := ⟨_, rfl⟩
  have HW7 := lhd hw7
  rw [hw7] at X27 X17 HB7 HO7
  clear hw7 cc cf HS
  have da := X27.out.at_ 0 _ rfl
  have db := X27.out.at_ 1 _ rfl
  go_wp2_with (first | (rw [HW7.out]) | (refine wpList_store_to rfl 44 _ _ rfl g1 [.int .i64 t, .slice (some ⟨g, 0, none⟩) n c] [.int .i64 0, .slice none 0 0] 44 rfl rfl X17.out sBP rfl (book_one _ _ _ _) ?_))
  intro w9 e1 e2 e3 e4
  go_wp2
  refine bodyPost_ret (v := .tuple #[.agg #[.int .i64 t, .slice (some ⟨g, 0, none⟩) n c], .int .i64 0]) ?_ rfl ?_
  ·exact ret_blk2U rfl _ _ g1 44 [.int .i64 t, .slice (some ⟨g, 0, none⟩) n c] _ rfl rfl e1 d30 HU.out HD.out sBP
  ·rw [HE.out, HP.out]
   have hq := ownsRow_same HO7.out (fun k hk => e4 k (by omega))
   exact ⟨_, rfl, OwnE.rd hq, .inr (OwnE.base hq (by first | exact Nat.le_refl _ | assumption | omega)), HB7.out.trans (e3.mono hwg)⟩
theorem bkClose_own (t : Int) (l : List Se) (id : Int) (v : Value) (w : World) (hr : RdE SeK w.heap.size w v l) (hR : RightB t l) : Calls Tryz.prog 184 #[.agg #[.int .i64 t, v], .int .i64 id] w (BooksO 160 v t (closeS l id) (leaseE l id) w) := by
 obtain ⟨d30, hu30, hd30⟩ := rowBP
 have HU := lhd hu30
 have HD := lhd hd30
 have HR := lhd hr
 have HRT := lhd hR
 have hl0 := hR.few
 have HL : Hid (l.length ≤ 100000) := by
  show _ ≤ _
  omega
 clear hr hR hu30 hd30 hl0
 go_enter Tryz.func184, Tryz.ntmps184
 go_wp2_with (refine wpList_box_blk rfl 44 _ rfl [.int .i64 t, v] rfl ?_)
 intro w1 b1 b2 b3
 go_wp2_with (refine wpList_alloc_blk rfl 44 rfl [.int .i64 0, .slice none 0 0] zBP ?_)
 intro w2 a1 a2 a3
 obtain ⟨g0, hg0⟩ : ∃ g, w.heap.size = g := ⟨_, rfl⟩
 obtain ⟨g1, hg1⟩ : ∃ g, w.heap.size + 1 = g := ⟨_, rfl⟩
 obtain ⟨B0, hB0⟩ : ∃ g, w2.heap.size = g := ⟨_, rfl⟩
 have X0 := lhd (b1.below a3 (by omega))
 have X1 := lhd a1
 have HB := lhd (b3.trans (a3.mono (by omega)))
 have HR2 := lhd ((HR.out.below HB.out).more HB.out.size)
 have hg1B : g1 < B0 := by omega
 have hwg : w.heap.size ≤ g1 := by omega
 have hwB : w.heap.size ≤ B0 := by omega
 have hg0B : g0 < B0 := by omega
 have HB0 := lhd hB0
 rw [hg1] at X1 ⊢
 rw [hg0] at X0 ⊢
 have ca := X0.out.at_ 0 _ rfl
 have cb := X0.out.at_ 1 _ rfl
 clear b1 b2 b3 a1 a2 a3 hg0 hg1 HR hB0
 go_wp2_with fail
 refine (bkClone_any t l v w2 HR2.out HL.out).mono ?_
 rintro e w3 ⟨u, rfl, ho, hb⟩
 rw [HB0.out] at ho hb
 obtain ⟨n, hn⟩ : ∃ n, l.length = n := ⟨_, rfl⟩
 have HN := lhd hn
 obtain ⟨A, c, hu, hc, hm⟩ := ho.rd.shape
 rw [hn] at hu hc
 subst hu
 unfold maxLen at hm
 have HO := lhd ho
 have Y1 := lhd (X1.out.below hb hg1B)
 have HB3 := lhd (HB.out.trans (hb.mono hwB))
 have hs3 : B0 ≤ w3.heap.size := by
  have := hb.size
  rw [HB0.out] at this
  exact this
 clear ho hb hn ca cb X0 X1 HB HR2
 go_wp2_with (refine wpList_alloc_blk rfl 44 rfl [.int .i64 0, .slice none 0 0] zBP ?_)
 intro w4 a1 a2 a3
 obtain ⟨g2, hg2⟩ : ∃ g, w3.heap.size = g := ⟨_, rfl⟩
 have A1 := lhd a1
 have HO4 := lhd (HO.out.below a3 (Nat.le_refl _))
 have Y14 := lhd (Y1.out.below a3 (by omega))
 have HB4 := lhd (HB3.out.trans (a3.mono (by omega)))
 have hne := World.ownsRow.lt HO.out
 rw [hg2] at A1 hne hs3 ⊢
 have hs4 : w4.heap.size = g2 + 1 := by omega
 have HNE := lhd hne
 clear a1 a2 a3 HO Y1 HB3 hg2 hne
 go_wp2_with (refine wpList_store_to rfl 44 _ _ rfl g2 [.int .i64 t, .slice A n c] [.int .i64 0, .slice none 0 0] 44 rfl rfl A1.out sBP rfl (book_one _ _ _ _) ?_)
 intro w5 e1 e2 e3 e4
 have HO5 : Hid (OwnE SeK 160 w5 B0 (.slice A n c) l) := ownsRow_but HO4.out (fun e => by have := (HNE.out g2 e).2; omega) e4
 have X15 := lhd (Y14.out.same (e4 g1 (by omega)))
 have X25 := lhd e1
 have HB5 := lhd (HB4.out.trans (e3.mono (by omega)))
 have hs5 : w5.heap.size = g2 + 1 := by omega
 clear e1 e2 e3 e4 HO4 Y14 A1 HB4 hs4
 have ca := X25.out.at_ 1 _ rfl
 go_wp2_with fail
 refine (find_any l id _ w5 HO5.out.rd HL.out HRT.out.order).mono ?_
 rintro e w6 ⟨rfl, hb⟩
 have HO6 := lhd (HO5.out.below hb (Nat.le_refl _))
 have X16 := lhd (X15.out.below hb (by omega))
 have X26 := lhd (X25.out.below hb (by omega))
 have HB6 := lhd (HB5.out.trans (hb.mono (by omega)))
 have hs6 : g2 < w6.heap.size := by
  have := hb.size
  omega
 clear hb ca HO5 X15 X25 HB5 hs5
 have ca := X26.out.at_ 0 _ rfl
 have cb := X26.out.at_ 1 _ rfl
 cases hH : hasSe l id
 ·have HE := lhd (close_none l id hH)
  clear hH
  go_wp2_with (refine wpList_store_to rfl 44 _ _ rfl g1 [.int .i64 t, .slice A n c] [.int .i64 0, .slice none 0 0] 44 rfl rfl X16.out sBP rfl (book_one _ _ _ _) ?_)
  intro w9 e1 e2 e3 e4
  go_wp2
  refine bodyPost_ret (v := .tuple #[.agg #[.int .i64 t, .slice A n c], .int .i64 14]) ?_ rfl ?_
  ·exact ret_blk2U rfl _ _ g1 44 [.int .i64 t, .slice A n c] _ rfl rfl e1 d30 HU.out HD.out sBP
  ·rw [HE.out.1, HE.out.2]
   have hq := ownsRow_same HO6.out (fun k hk => e4 k (by omega))
   exact ⟨_, rfl, OwnE.rd hq, .inr (OwnE.base hq (by first | exact Nat.le_refl _ | assumption | omega)), HB6.out.trans (e3.mono hwg)⟩
 have HE := lhd (lease_yes l id hH)
 have HP := lhd (closeS_pos l id HRT.out.order hH)
 have HP1 := lhd (pos_is l id HRT.out.order hH).1
 clear hH
 obtain ⟨i, hi⟩ : ∃ i, posS l id = i := ⟨_, rfl⟩
 rw [hi] at HP HP1 ⊢
 have hin : i < n := by
  have := HP1.out
  rw [HN.out] at this
  exact this
 have hn50 : n ≤ 100000 := by
  have := HL.out
  rw [HN.out] at this
  exact this
 have hwp : IntKind.i64.wrap ((i : Int) + 1) = (i : Int) + 1 := by rw [IntKind.wrap_i64]; omega
 clear hi
 go_wp2_with fail
 refine (delE_anySe l i B0 _ w6 HO6.out HP1.out).mono ?_
 rintro e w7 ⟨u7, rfl, ho, hb, hoth⟩
 have X27 := lhd (X26.out.same (hoth g2 hs6 (fun e => by have := (HNE.out g2 e).2; omega)))
 have HNE7 := lhd (OwnE.not_blk ho X27.out (by decide))
 have X17 := lhd (X16.out.below hb (by omega))
 have HB7 := lhd (HB6.out.trans (hb.mono (by omega)))
 have hs7 : g2 < w7.heap.size := X27.out.lt
 have HO7 := lhd ho
 obtain ⟨A7, c7, hu7, -, -⟩ := ho.rd.shape
 obtain ⟨l7, hl7⟩ : ∃ q, (l.eraseIdx i) = q := ⟨_, rfl⟩
 rw [hl7] at hu7 HO7 HP
 obtain ⟨n7, hn7⟩ : ∃ n7, l7.length = n7 := ⟨_, rfl⟩
 rw [hn7] at hu7
 subst hu7
 clear ho hb hoth hl7 hn7 ca cb
 have cb := X27.out.at_ 1 _ rfl
 have cf := X27.out.frozen 1
 have X28 : Hid (Blk (w7.setCell ⟨g2, 1, none⟩ (.slice A7 n7 c7)) g2 [.int .i64 t, .slice A7 n7 c7] 44) := X27.out.set 1 (.slice A7 n7 c7)
 have HO8 : Hid (OwnE SeK 160 (w7.setCell ⟨g2, 1, none⟩ (.slice A7 n7 c7)) B0 (.slice A7 n7 c7) l7) := ownsRow_but HO7.out HNE7.out (fun k hk => heap_setCell_other w7 ⟨g2, 1, none⟩ k (.slice A7 n7 c7) hk)
 have X18 : Hid (Blk (w7.setCell ⟨g2, 1, none⟩ (.slice A7 n7 c7)) g1 [.int .i64 0, .slice none 0 0] 44) := X17.out.same (heap_setCell_other w7 ⟨g2, 1, none⟩ g1 (.slice A7 n7 c7) (by show g1 ≠ g2; omega))
 have HB8 : Hid (Below w.heap.size w (w7.setCell ⟨g2, 1, none⟩ (.slice A7 n7 c7))) := HB7.out.setCell (show w.heap.size ≤ g2 by omega) _
 obtain ⟨w8, hw8⟩ : ∃ q, w7.setCell ⟨g2, 1, none⟩ (.slice A7 n7 c7) = q := ⟨_, rfl⟩
 have HW8 := lhd hw8
 rw [hw8] at X28 HO8 X18 HB8
 clear hw8
 have da := X28.out.at_ 0 _ rfl
 have db := X28.out.at_ 1 _ rfl
 go_wp2_with (first | (rw [HW8.out]) | (refine wpList_store_to rfl 44 _ _ rfl g1 [.int .i64 t, .slice A7 n7 c7] [.int .i64 0, .slice none 0 0] 44 rfl rfl X18.out sBP rfl (book_one _ _ _ _) ?_))
 intro w9 e1 e2 e3 e4
 go_wp2
 refine bodyPost_ret (v := .tuple #[.agg #[.int .i64 t, .slice A7 n7 c7], .int .i64 0]) ?_ rfl ?_
 ·exact ret_blk2U rfl _ _ g1 44 [.int .i64 t, .slice A7 n7 c7] _ rfl rfl e1 d30 HU.out HD.out sBP
 ·rw [HE.out, HP.out]
  have hq := ownsRow_same HO8.out (fun k hk => e4 k (by omega))
  exact ⟨_, rfl, OwnE.rd hq, .inr (OwnE.base hq (by first | exact Nat.le_refl _ | assumption | omega)), HB8.out.trans (e3.mono hwg)⟩
open Go.RowKit Go.ChangeShapes Go.WideShapes
section
variable {H : Type} {enc : TypeId × Value → H} {P : Program} {W : World}
end
section
variable {H : Type} {enc : TypeId × Value → H} {P : Program} {W : World} {spare : TypeId → Bool} {held : Bool}
end
end Go.Proofs.YtgfobinklijkpaaGreatDoor
