/-
  Texts KW.
-/
import Derived.Test.YtdihngkdhanhkaaGreatDoorV01
import Derived.Test.YtdihngkdhanhkaaGreatDoorV17
import Derived.Test.YtdihngkdhanhkaaGreatDoorV41
import Derived.Test.YtdihngkdhanhkaaGreatDoorV42
namespace Go.Proofs.YtdihngkdhanhkaaGreatDoor
set_option maxRecDepth 100000
set_option maxHeartbeats 16000000
open Go.RowKit
theorem szNd13 : (Tryz.prog.info? 91).map (·.size) = some 4 := by kernel_rfl
theorem zeroNd13 : (Tryz.prog.info? 91).map (·.zero) = some (some (.agg (ndc nd0).toArray)) := by kernel_rfl
theorem szSe13 : (Tryz.prog.info? 105).map (·.size) = some 3 := by kernel_rfl
theorem zeroSe13 : (Tryz.prog.info? 105).map (·.zero) = some (some (.agg (sec se0).toArray)) := by kernel_rfl
theorem kindNd13 : KindOf Tryz.prog 103 NdK 48 := kind_of (z := .agg (ndc nd0).toArray) (by kernel_rfl) rfl
theorem rowRow13 : ∃ d, Tryz.prog.underlying 91 = some d ∧ d.isRow = true := ⟨_, Tryz.underlying91, rfl⟩
theorem rowSe13 : ∃ d, Tryz.prog.underlying 105 = some d ∧ d.isRow = true := ⟨_, Tryz.underlying105, rfl⟩
def PlainO (r : Rm) (w : World) (e : Ending) (w' : World) : Prop := ∃ uN uS uW uL, e = .returned (.agg (rmc (mT r) uN uS uW uL).toArray) ∧ RdRm w'.heap.size w' uN uS uW uL r ∧ Below w.heap.size w w'
def RpsV (B : Nat) (l : List Rp) (v : Value) (w : World) : Prop := B ≤ w.heap.size ∧ ∃ A c, v = .slice A l.length c ∧ OwnRp 61 w B B v l
def PlV (B : Nat) (r : Rm) (v : Value) (w : World) : Prop := B ≤ w.heap.size ∧ ∃ A c, v = .agg (rmc (mT r) (.slice none 0 0) (.slice none 0 0) (.slice none 0 0) (.slice A (mL r).length c)).toArray ∧ OwnRp 61 w B B (.slice A (mL r).length c) (mL r)
theorem RpsV.keep {B : Nat} {l : List Rp} {v : Value} {w w' : World} (h : RpsV B l v w) (hb : Below w.heap.size w w') : RpsV B l v w' := by
 obtain ⟨hB, A, c, h1, h2⟩ := h
 exact ⟨Nat.le_trans hB hb.size, A, c, h1, h2.below hb (Nat.le_refl _) hB⟩
theorem PlV.keep {B : Nat} {r : Rm} {v : Value} {w w' : World} (h : PlV B r v w) (hb : Below w.heap.size w w') : PlV B r v w' := by
 obtain ⟨hB, A, c, h1, h2⟩ := h
 exact ⟨Nat.le_trans hB hb.size, A, c, h1, h2.below hb (Nat.le_refl _) hB⟩
theorem RpsV.of {B b : Nat} {l : List Rp} {v : Value} {w : World} (h1 : B ≤ b) (h2 : B ≤ w.heap.size) (h : OwnRp 61 w b B v l) : RpsV B l v w := by
 obtain ⟨ss, q1, q2, q3⟩ := h
 obtain ⟨A, c, hv⟩ := q2.shape
 rw [rvs_len q1] at hv
 exact ⟨h2, A, c, hv, ss, q1, q2.base h1, q3⟩
theorem OwnRp.keepT {T : TypeId → Prop} {e : TypeId} {b B d : Nat} {w w' : World} {v : Value} {l : List Rp} (h : OwnRp e w b B v l) (hk : Keep T d w w') (hT : ¬ T e) (hd : B ≤ d) : OwnRp e w' b B v l := by
 obtain ⟨ss, h1, h2, h3⟩ := h
 exact ⟨ss, h1, h2.keep hk hT, fun j hj => RdS.ofE ((h3 j hj).toE.lo_keep (h3 j hj).toE.lo (fun k hk2 => hk.low k (Nat.lt_of_lt_of_le hk2 hd)) (Nat.le_refl _))⟩
theorem plain13 (r : Rm) (vN vS vW vL : Value) (w : World) (hr : RdRm w.heap.size w vN vS vW vL r) (hlN : (mN r).length ≤ 1000) (hlS : (mS r).length ≤ 1000) (hlW : (mW r).length ≤ 1000) (hlL : (mL r).length ≤ 1000) : Calls Tryz.prog 12 #[.agg (rmc (mT r) vN vS vW vL).toArray] w (PlainO r w) := by
 obtain ⟨AN, cN, hvN, -, -⟩ := hr.n.shape
 obtain ⟨nN, hnN⟩ : ∃ q, (mN r).length = q := ⟨_, rfl⟩
 rw [hnN] at hvN hlN
 subst hvN
 have HNN := lhd hnN
 have HLN := lhd hlN
 obtain ⟨AS, cS, hvS, -, -⟩ := hr.s.shape
 obtain ⟨nS, hnS⟩ : ∃ q, (mS r).length = q := ⟨_, rfl⟩
 rw [hnS] at hvS hlS
 subst hvS
 have HNS := lhd hnS
 have HLS := lhd hlS
 obtain ⟨AW, cW, hvW, -, -⟩ := hr.t.shape
 obtain ⟨nW, hnW⟩ : ∃ q, (mW r).length = q := ⟨_, rfl⟩
 rw [hnW] at hvW hlW
 subst hvW
 have HNW := lhd hnW
 have HLW := lhd hlW
 obtain ⟨AL, cL, hvL, -, -⟩ := hr.l.shape
 obtain ⟨nL, hnL⟩ : ∃ q, (mL r).length = q := ⟨_, rfl⟩
 rw [hnL] at hvL hlL
 subst hvL
 have HNL := lhd hnL
 have HLL := lhd hlL
 have RM := lhd hr
 clear hr hnN hnS hnW hnL
 obtain ⟨dN, huN, hdN⟩ := rowRow13
 obtain ⟨dS, huS, hdS⟩ := rowSe13
 obtain ⟨dW, huW, hdW⟩ := rowWaP
 obtain ⟨dR, huR, hdR⟩ := rowRmR
 have HU := lhd huR
 have HD := lhd hdR
 clear huR hdR
 go_enter Tryz.func12, Tryz.ntmps12
 go_wp2_with (refine wpList_box_blk rfl 33 _ rfl (rmc (mT r) (.slice AN nN cN) (.slice AS nS cS) (.slice AW nW cW) (.slice AL nL cL)) rfl ?_)
 intro w1 b1 b2 b3
 go_wp2_with (refine wpList_alloc_blk rfl 51 rfl (rmc 0 (.slice none 0 0) (.slice none 0 0) (.slice none 0 0) (.slice none 0 0)) zeroRmR ?_)
 intro w2 a1 a2 a3
 obtain ⟨B, hB⟩ : ∃ g, w.heap.size = g := ⟨_, rfl⟩
 obtain ⟨g1, hg1⟩ : ∃ g, w.heap.size + 1 = g := ⟨_, rfl⟩
 have X0 := lhd (b1.below a3 (by omega))
 have X1 := lhd a1
 have HB := lhd (b3.trans (a3.mono (by omega)))
 have HG1 := lhd (show g1 = B + 1 by omega)
 have HW2 := lhd (show w2.heap.size = B + 2 by omega)
 have HB2 := lhd (show B ≤ w2.heap.size by omega)
 rw [hg1] at X1 ⊢
 rw [hB] at X0 ⊢
 have HBB := lhd hB
 have RM2 : Hid (RdRm B w2 (.slice AN nN cN) (.slice AS nS cS) (.slice AW nW cW) (.slice AL nL cL) r) := lhd (by rw [← hB]; exact RM.out.below HB.out)
 clear b1 b2 b3 a1 a2 a3 hg1 hB RM
 go_wp2
 refine wp_region_relyF [] 9 1 (fun x => ⟨#[.agg (rmc (mT r) (.slice AN nN cN) (.slice AS nS cS) (.slice AW nW cW) (.slice AL nL cL)).toArray, .pointer (some ⟨B, 0, none⟩), .pointer (some ⟨g1, 0, none⟩), x 8, undef, undef, undef, undef, undef, undef, x 0, x 1, x 2, x 3, x 4, x 5, x 6, x 7, undef, undef, undef, undef, undef, undef, undef, undef, undef, undef, undef, undef, undef, undef, undef, undef, undef, undef, undef, undef, undef, undef, undef, undef, undef, undef, undef, undef, undef, undef, undef, undef, undef, undef, undef, undef, undef, undef, undef, undef, undef, undef, undef, undef, undef, undef, undef, undef, undef, undef, undef, undef, undef, undef, undef, undef, undef, undef, undef, undef, undef, undef, undef, undef, undef, undef, undef, undef, undef, undef, undef, undef, undef, undef, undef, undef, undef, undef, undef, undef, undef, undef, undef, undef, undef, undef, undef], []⟩) (fun jj => ([(eqV (.pointer (some ⟨B, 1, none⟩))), (eqV (.pointer (some ⟨B, 1, none⟩))), (eqV (.int .i64 (mT r))), (eqV (.agg #[.int .i64 (mT r), (.slice none 0 0)])), (eqV (.pointer (some ⟨B, 4, none⟩))), (eqV (.slice AL nL cL)), (RpsV B (mL r)), (PlV B r), (NewBx 51 (rmc 0 (.slice none 0 0) (.slice none 0 0) (.slice none 0 0) (.slice none 0 0)) w2.heap.size)] : List (Value → World → Prop)).getD jj (fun _ _ => True)) rfl ⟨fun kk => [undef, undef, undef, undef, undef, undef, undef, undef, undef].getD kk undef, rfl⟩ (by kernel_rfl) (lateF_of 2 (by decide) (by kernel_rfl)) (by kernel_rfl) ?pure ?steps ?fin
 case pure => exact fun p hp => by cases hp
 case steps =>
  refine StepsAt.val 0 (.pointer (some ⟨B, 1, none⟩)) rfl (fun _ _ => rfl) rfl rfl (fun x w1 hb hd => ?_) ?_
  ·(go_simp; try rfl)
  refine StepsAt.val 1 (.pointer (some ⟨B, 1, none⟩)) rfl (fun _ _ => rfl) rfl rfl (fun x w1 hb hd => ?_) ?_
  ·have h0 : x 0 = .pointer (some ⟨B, 1, none⟩) := hd 0 (by kernel_rfl)
   rw [h0]
   clear h0
   (go_simp; try rfl)
  refine StepsAt.val 2 (.int .i64 (mT r)) rfl (fun _ _ => rfl) rfl rfl (fun x w1 hb hd => ?_) ?_
  ·have h1 : x 1 = .pointer (some ⟨B, 1, none⟩) := hd 1 (by kernel_rfl)
   have cc := (X0.out.below hb X0.out.lt).at_ 1 _ rfl
   rw [h1]
   clear h1
   (go_simp; try rfl)
  refine StepsAt.val 3 (.agg #[.int .i64 (mT r), (.slice none 0 0)]) rfl (fun _ _ => rfl) rfl rfl (fun x w1 hb hd => ?_) ?_
  ·have h2 : x 2 = .int .i64 (mT r) := hd 2 (by kernel_rfl)
   rw [h2]
   clear h2
   (go_simp; try rfl)
  refine StepsAt.val 4 (.pointer (some ⟨B, 4, none⟩)) rfl (fun _ _ => rfl) rfl rfl (fun x w1 hb hd => ?_) ?_
  ·(go_simp; try rfl)
  refine StepsAt.val 5 (.slice AL nL cL) rfl (fun _ _ => rfl) rfl rfl (fun x w1 hb hd => ?_) ?_
  ·have h4 : x 4 = .pointer (some ⟨B, 4, none⟩) := hd 4 (by kernel_rfl)
   have cc := (X0.out.below hb X0.out.lt).at_ 4 _ rfl
   rw [h4]
   clear h4
   (go_simp; try rfl)
  refine StepsAt.cons 6 (fun _ _ _ h hb => h.keep hb) (fun _ _ => rfl) rfl rfl (fun x w1 hb hd K hK => ?_) ?_
  ·have h5 : x 5 = .slice AL nL cL := hd 5 (by kernel_rfl)
   have H5 := lhd h5
   clear h5
   go_simp
   refine calls_args (args2 := #[.slice AL nL cL]) (by rw [H5.out]) ?_
   refine (replies13 B (mL r) (.slice AL nL cL) w1 ((RM2.out.below (hb.mono HB2.out)).l) (Nat.le_trans HB2.out hb.size) (by rw [HNL.out]; exact HLL.out)).mono ?_
   rintro e w99 ⟨u, rfl, hu, hb99⟩
   refine hK.out _ _ hb99 ?_
   exact RpsV.of (Nat.le_trans HB2.out hb.size) (Nat.le_trans (Nat.le_trans HB2.out hb.size) hb99.size) hu
  refine StepsAt.rel 7 (fun _ _ _ h hb => PlV.keep h hb) (fun _ _ => rfl) rfl rfl (fun x w1 hb hd => ?_) ?_
  ·have h3 : x 3 = .agg #[.int .i64 (mT r), .slice none 0 0] := hd 3 (by kernel_rfl)
   obtain ⟨hsz, A9, c9, h6, ho⟩ : RpsV B (mL r) (x 6) w1 := hd 6 (by kernel_rfl)
   refine ⟨.agg (rmc (mT r) (.slice none 0 0) (.slice none 0 0) (.slice none 0 0) (.slice A9 (mL r).length c9)).toArray, ?_, ⟨hsz, A9, c9, rfl, by rw [← h6]; exact ho⟩⟩
   rw [h3, h6]
   clear h3 h6 ho
   (go_simp; try rfl)
  refine StepsAt.cons 8 (fun _ _ _ h hb => NewBx.keep h hb) (fun _ _ => rfl) rfl rfl (fun x w1 hb hd K hK => ?_) ?_
  ·refine wp_of_list rfl (wpList_alloc_blk rfl 51 rfl (rmc 0 (.slice none 0 0) (.slice none 0 0) (.slice none 0 0) (.slice none 0 0)) zeroRmR ?_)
   intro w8 a1 a2 a3
   exact hK.out _ _ a3 ⟨_, rfl, a1, hb.size⟩
  exact StepsAt.done
 case fin =>
  intro xx w3 hb hd
  obtain ⟨hsz, A9, c9, h7, ho⟩ : PlV B r (xx 7) w3 := hd 7 (by omega)
  obtain ⟨g3, h8, hbR, hgR⟩ : NewBx 51 (rmc 0 (.slice none 0 0) (.slice none 0 0) (.slice none 0 0) (.slice none 0 0)) w2.heap.size (xx 8) w3 := hd 8 (by omega)
  have HNl := HNL.out
  rw [HNl] at h7 ho
  clear HNl
  have OL := lhd ho
  have BR := lhd hbR
  have EB := lhd hb
  have hg13 : g1 < g3 := by
   have h1 := HG1.out
   have h2 := HW2.out
   omega
  have hg03 : B < g3 := by
   have h1 := HG1.out
   omega
  have HGR := lhd hgR
  refine AnyTill.any (S := fun _ => True) (m := 10) _ _ _ _ ?_
  rw [h7, h8]
  clear hd hb h7 h8 hbR ho hgR
  refine AnyTill.one (i := 9) (by kernel_rfl) rfl (by rfl) (fun K hK => ?_)
  refine wp_of_list rfl (wpList_store_to rfl 51 _ _ rfl g3 (rmc (mT r) (.slice none 0 0) (.slice none 0 0) (.slice none 0 0) (.slice A9 nL c9)) (rmc 0 (.slice none 0 0) (.slice none 0 0) (.slice none 0 0) (.slice none 0 0)) 51 rfl rfl BR.out szRmR rfl (rmc_all _ _ _ _ _ _ _ _ _ _ _ _ _) ?_)
  intro w4 e1 e2 e3 e4
  refine hK.out _ _ (.inr trivial) ?_
  clear hK K
  refine AnyTill.done (by kernel_rfl) ?_
  refine NoPanic.normal ?_
  try dsimp only
  have hB3 : B ≤ g3 := Nat.le_of_lt hg03
  have X3 := lhd e1
  have EB4 := lhd (EB.out.trans (e3.mono HGR.out))
  have HB4 := lhd (HB.out.trans (EB4.out.mono HB.out.size))
  have X0 := lhd (X0.out.below EB4.out X0.out.lt)
  have X1 := lhd (X1.out.below EB4.out X1.out.lt)
  have OL := lhd (OL.out.keepT (T := fun e => e = 51) (Keep.store BR.out rfl hB3 e2 e4) (by decide) (Nat.le_refl _))
  have RM4 := lhd (RM2.out.below (EB4.out.mono HB2.out))
  obtain ⟨G, hG⟩ : ∃ q, w4.heap.size = q := ⟨_, rfl⟩
  have hg3G : g3 < G := by rw [← hG]; exact X3.out.lt
  have hBG : B ≤ G := by omega
  have HG : Hid (G ≤ w4.heap.size) := lhd (by rw [hG]; exact Nat.le_refl _)
  have HW := lhd (Below.refl g3 w4)
  clear e1 e2 e3 e4 BR EB EB4 hG hsz HB RM2
  go_wp2
  have KQN : Hid (Keep (fun e => e = 51 ∨ e = 103) B w4 w4) := lhd (Keep.of (Below.refl _ _) (Nat.le_trans hBG HG.out))
  go_loopw [4] (fun x wr => ∃ (i : Nat) (o : Value), i ≤ nN ∧ x = .int .i64 (i : Int) ∧ Hid (Blk wr g3 (rmc (mT r) o (.slice none 0 0) (.slice none 0 0) (.slice A9 nL c9)) 51) ∧ Hid (OwnE NdK 103 wr G o ((mN r).take i)) ∧ Hid (Below g3 w4 wr) ∧ Hid (Keep (fun e => e = 51 ∨ e = 103) B w4 wr) ∧ Hid (G ≤ wr.heap.size)) (fun x _ => nN - (intOf x).toNat)
  case atStart => exact ⟨0, _, Nat.zero_le _, rfl, X3, lhd (OwnE.nil _ _ _), HW, KQN, HG⟩
  case round =>
   clear X3 HW KQN HG
   obtain ⟨i, o, hi, rfl, X3, HO, HW, HK, HG⟩ := hrel
   obtain ⟨wQ, rfl⟩ : ∃ q, q = wr := ⟨_, rfl⟩
   have X0r := lhd (X0.out.below HW.out hg03)
   have RMr := lhd (RM4.out.below (HW.out.mono hB3))
   have z0 := X0r.out.at_ 0 _ rfl
   by_cases hi2 : i < nN
   ·have zi : (i : Int) < (nN : Int) := by omega
    have hil : i < (mN r).length := by rw [HNN.out]; exact hi2
    have hrr := RMr.out.n.toE
    obtain ⟨a, hA, -⟩ := hrr.cells i hil
    subst hA
    have HT : Hid ((mN r).take (i + 1) = (mN r).take i ++ [(mN r).getD i nd0]) := lhd (by rw [List.take_add_one, List.getD_eq_getElem?_getD, List.getElem?_eq_getElem hil]; rfl)
    have hnd : ∀ j v, (ndc ((mN r).getD i nd0))[j]? = some v → wQ.cell? ((a.add (i * 4)).add j) = some v := fun j v hv => hrr.node i hil j v hv
    obtain ⟨x, hx⟩ : ∃ x, (mN r).getD i nd0 = x := ⟨_, rfl⟩
    rw [hx] at hnd HT
    have HLE : Hid (((mN r).take i).length ≤ 1000) := lhd (by have := HLN.out; have := HNN.out; rw [List.length_take]; omega)
    clear hx hrr hil
    go_wp2_with (first | refine wpList_load_rowE rfl 91 _ rfl (a.add (i * 4)) (by first | rfl | (simp [Act.eval, Act.put, Addr.add])) (ndc x) hnd dN huN hdN szNd13 ?_ | refine wpList_alloc_blk rfl 91 rfl (ndc nd0) zeroNd13 ?_)
    intro wa a1 a2 a3
    obtain ⟨gA, hgA⟩ : ∃ g, wQ.heap.size = g := ⟨_, rfl⟩
    have A1 := lhd a1
    have BA := lhd a3
    have hGA : G ≤ gA := by have := HG.out; omega
    rw [hgA] at A1 BA ⊢
    have HGA := lhd hgA
    clear a1 a2 a3 hgA hnd z0
    go_wp2_with (refine wpList_store_to rfl 91 _ _ rfl gA (ndc x) (ndc nd0) 91 rfl rfl A1.out szNd13 rfl (enc_all NdK x) ?_)
    intro wb e1 e2 e3 e4
    have BB : Hid (Below wQ.heap.size wQ wb) := lhd (by rw [HGA.out]; exact BA.out.trans e3)
    have hws : wQ.heap.size ≤ wb.heap.size := BB.out.size
    have HGb := lhd (Nat.le_trans HG.out hws)
    have d0 := e1.at_ 0 _ rfl
    have d1 := e1.at_ 1 _ rfl
    have d2 := e1.at_ 2 _ rfl
    have d3 := e1.at_ 3 _ rfl
    have X3b := lhd (X3.out.below BB.out X3.out.lt)
    have HOb := lhd (HO.out.below BB.out (Nat.le_refl _))
    have HWb := lhd (HW.out.trans (BB.out.mono (Nat.le_of_lt X3.out.lt)))
    have HKb := lhd (HK.out.trans (.of BB.out (Nat.le_trans hBG HG.out)))
    have cb := X3b.out.at_ 0 _ rfl
    clear e1 e2 e3 e4 A1 BA BB X3 HO HW HK HG HGA hws X0r RMr
    have hba : Below wb.heap.size wb (wb.alloc (.cells (ndc x).toArray 103)) := (Below.refl _ _).alloc (Nat.le_refl _) _
    have HOc := lhd (HOb.out.below hba (Nat.le_refl _))
    have X3c := lhd (X3b.out.below hba X3b.out.lt)
    have HWc := lhd (HWb.out.trans (hba.mono (Nat.le_of_lt X3b.out.lt)))
    have HKc := lhd (HKb.out.trans (.of hba (Nat.le_trans hBG HGb.out)))
    have HGc := lhd (Nat.le_trans HGb.out hba.size)
    clear hba HOb X3b HWb HKb
    go_wp2_with (at_builtin; refine wpList_appE (E := NdK) rfl _ _ 40 rfl 103 48 Tryz.underlying40 kindNd13 G _ _ _ ((mN r).take i) [x] rfl HOc.out rfl (RdE.one (E := NdK) wb 103 x) (by simp) ?d1 ?d2 HGc.out ?_)
    case d1 => have := HLE.out; simp only [List.length_cons, List.length_nil]; omega
    case d2 => have := HLE.out; simp only [List.length_cons, List.length_nil]; omega
    intro v9 w9 ho9 hb9 hg9 _
    have HK9 := lhd (HKc.out.trans (Keep.grown (HOc.out.base hBG) (.inr rfl) (Nat.le_trans hBG HGc.out) (hb9.mono hBG) hg9))
    rw [← HT.out] at ho9
    have X39 := lhd (X3c.out.below hb9 hg3G)
    have HW9 := lhd (HWc.out.trans (hb9.mono (Nat.le_of_lt hg3G)))
    have HO9 := lhd ho9
    have HG9 := lhd (Nat.le_trans HGc.out hb9.size)
    clear ho9 hb9 hg9 HOc X3c HWc HKc HGc HGb cb d0 d1 d2 d3
    obtain ⟨Ao, co, ho, -, -⟩ := HO9.out.rd.shape
    obtain ⟨LL, hLL⟩ : ∃ LL, ((mN r).take (i + 1)).length = LL := ⟨_, rfl⟩
    rw [hLL] at ho
    subst ho
    clear hLL
    have cb := X39.out.at_ 0 _ rfl
    have cf := X39.out.frozen 0
    have X3d : Hid (Blk (w9.setCell ⟨g3, 0, none⟩ (.slice Ao LL co)) g3 (rmc (mT r) (.slice Ao LL co) (.slice none 0 0) (.slice none 0 0) (.slice A9 nL c9)) 51) := X39.out.set 0 (.slice Ao LL co)
    have hoo : ∀ k : Nat, k ≠ g3 → (w9.setCell ⟨g3, 0, none⟩ (.slice Ao LL co)).heap[k]? = w9.heap[k]? := fun k hk => heap_setCell_other w9 ⟨g3, 0, none⟩ k (.slice Ao LL co) hk
    have hss : (w9.setCell ⟨g3, 0, none⟩ (.slice Ao LL co)).heap.size = w9.heap.size := by simp
    have HOd : Hid (OwnE NdK 103 (w9.setCell ⟨g3, 0, none⟩ (.slice Ao LL co)) G (.slice Ao LL co) ((mN r).take (i + 1))) := lhd (ownsRow_same HO9.out (fun k hk => hoo k (by omega)))
    have HWd : Hid (Below g3 w4 (w9.setCell ⟨g3, 0, none⟩ (.slice Ao LL co))) := lhd (HW9.out.setCell (Nat.le_refl _) _)
    have HKd : Hid (Keep (fun e => e = 51 ∨ e = 103) B w4 (w9.setCell ⟨g3, 0, none⟩ (.slice Ao LL co))) := lhd (HK9.out.trans (.store X39.out (.inl rfl) hB3 hss hoo))
    have HGd : Hid (G ≤ (w9.setCell ⟨g3, 0, none⟩ (.slice Ao LL co)).heap.size) := lhd (by rw [hss]; exact HG9.out)
    clear hoo hss X39 HO9 HW9 HK9 HG9
    go_wp2
    go_roundw
    case rel => exact ⟨i + 1, _, by omega, by go_num, X3d, HOd, HWd, HKd, HGd⟩
    case measure => simp [intOf]; omega
   ·have hE : i = nN := by omega
    subst hE
    have zi : ¬ (i : Int) < (i : Int) := by omega
    have HF : Hid ((mN r).take i = mN r) := lhd (List.take_of_length_le (by rw [HNN.out]; exact Nat.le_refl _))
    rw [HF.out] at HO
    clear HF
    obtain ⟨AN9, cN9, ho, -, -⟩ := HO.out.rd.shape
    obtain ⟨LN9, hLL⟩ : ∃ LL, (mN r).length = LL := ⟨_, rfl⟩
    rw [hLL] at ho
    subst ho
    clear hLL
    have ON := HO
    have OL := lhd (OL.out.keepT HK.out (by decide) (Nat.le_refl _))
    clear HO HK X0r RMr
    obtain ⟨wN, rfl⟩ : ∃ q, q = wQ := ⟨_, rfl⟩
    go_wp2
    clear z0 zi
    have KQS : Hid (Keep (fun e => e = 51 ∨ e = 106) B wN wN) := lhd (Keep.of (Below.refl _ _) (Nat.le_trans hBG HG.out))
    go_loopw [6] (fun x wr => ∃ (i : Nat) (o : Value), i ≤ nS ∧ x = .int .i64 (i : Int) ∧ Hid (Blk wr g3 (rmc (mT r) (.slice AN9 LN9 cN9) o (.slice none 0 0) (.slice A9 nL c9)) 51) ∧ Hid (OwnE SeK 106 wr G o ((mS r).take i)) ∧ Hid (Below g3 w4 wr) ∧ Hid (Keep (fun e => e = 51 ∨ e = 106) B wN wr) ∧ Hid (G ≤ wr.heap.size)) (fun x _ => nS - (intOf x).toNat)
    case atStart => exact ⟨0, _, Nat.zero_le _, rfl, X3, lhd (OwnE.nil _ _ _), HW, KQS, HG⟩
    case round =>
     clear X3 HW KQS HG
     obtain ⟨i, o, hi, rfl, X3, HO, HW, HK, HG⟩ := hrel
     obtain ⟨wQ, rfl⟩ : ∃ q, q = wr := ⟨_, rfl⟩
     have X0r := lhd (X0.out.below HW.out hg03)
     have RMr := lhd (RM4.out.below (HW.out.mono hB3))
     have z0 := X0r.out.at_ 2 _ rfl
     by_cases hi2 : i < nS
     ·have zi : (i : Int) < (nS : Int) := by omega
      have hil : i < (mS r).length := by rw [HNS.out]; exact hi2
      have hrr := RMr.out.s
      obtain ⟨a, hA, -⟩ := hrr.cells i hil
      subst hA
      have HT : Hid ((mS r).take (i + 1) = (mS r).take i ++ [(mS r).getD i se0]) := lhd (by rw [List.take_add_one, List.getD_eq_getElem?_getD, List.getElem?_eq_getElem hil]; rfl)
      have hnd : ∀ j v, (sec ((mS r).getD i se0))[j]? = some v → wQ.cell? ((a.add (i * 3)).add j) = some v := fun j v hv => hrr.node i hil j v hv
      obtain ⟨x, hx⟩ : ∃ x, (mS r).getD i se0 = x := ⟨_, rfl⟩
      rw [hx] at hnd HT
      have HLE : Hid (((mS r).take i).length ≤ 1000) := lhd (by have := HLS.out; have := HNS.out; rw [List.length_take]; omega)
      clear hx hrr hil
      go_wp2_with (first | refine wpList_load_rowE rfl 105 _ rfl (a.add (i * 3)) (by first | rfl | (simp [Act.eval, Act.put, Addr.add])) (sec x) hnd dS huS hdS szSe13 ?_ | refine wpList_alloc_blk rfl 105 rfl (sec se0) zeroSe13 ?_)
      intro wa a1 a2 a3
      obtain ⟨gA, hgA⟩ : ∃ g, wQ.heap.size = g := ⟨_, rfl⟩
      have A1 := lhd a1
      have BA := lhd a3
      have hGA : G ≤ gA := by have := HG.out; omega
      rw [hgA] at A1 BA ⊢
      have HGA := lhd hgA
      clear a1 a2 a3 hgA hnd z0
      go_wp2_with (refine wpList_store_to rfl 105 _ _ rfl gA (sec x) (sec se0) 105 rfl rfl A1.out szSe13 rfl (enc_all SeK x) ?_)
      intro wb e1 e2 e3 e4
      have BB : Hid (Below wQ.heap.size wQ wb) := lhd (by rw [HGA.out]; exact BA.out.trans e3)
      have hws : wQ.heap.size ≤ wb.heap.size := BB.out.size
      have HGb := lhd (Nat.le_trans HG.out hws)
      have d0 := e1.at_ 0 _ rfl
      have d1 := e1.at_ 1 _ rfl
      have d2 := e1.at_ 2 _ rfl
      have X3b := lhd (X3.out.below BB.out X3.out.lt)
      have HOb := lhd (HO.out.below BB.out (Nat.le_refl _))
      have HWb := lhd (HW.out.trans (BB.out.mono (Nat.le_of_lt X3.out.lt)))
      have HKb := lhd (HK.out.trans (.of BB.out (Nat.le_trans hBG HG.out)))
      have cb := X3b.out.at_ 2 _ rfl
      clear e1 e2 e3 e4 A1 BA BB X3 HO HW HK HG HGA hws X0r RMr
      have hba : Below wb.heap.size wb (wb.alloc (.cells (sec x).toArray 106)) := (Below.refl _ _).alloc (Nat.le_refl _) _
      have HOc := lhd (HOb.out.below hba (Nat.le_refl _))
      have X3c := lhd (X3b.out.below hba X3b.out.lt)
      have HWc := lhd (HWb.out.trans (hba.mono (Nat.le_of_lt X3b.out.lt)))
      have HKc := lhd (HKb.out.trans (.of hba (Nat.le_trans hBG HGb.out)))
      have HGc := lhd (Nat.le_trans HGb.out hba.size)
      clear hba HOb X3b HWb HKb
      go_wp2_with (at_builtin; refine wpList_appE (E := SeK) rfl _ _ 43 rfl 106 24 Tryz.underlying43 kindSe G _ _ _ ((mS r).take i) [x] rfl HOc.out rfl (RdE.one (E := SeK) wb 106 x) (by simp) ?d1 ?d2 HGc.out ?_)
      case d1 => have := HLE.out; simp only [List.length_cons, List.length_nil]; omega
      case d2 => have := HLE.out; simp only [List.length_cons, List.length_nil]; omega
      intro v9 w9 ho9 hb9 hg9 _
      have HK9 := lhd (HKc.out.trans (Keep.grown (HOc.out.base hBG) (.inr rfl) (Nat.le_trans hBG HGc.out) (hb9.mono hBG) hg9))
      rw [← HT.out] at ho9
      have X39 := lhd (X3c.out.below hb9 hg3G)
      have HW9 := lhd (HWc.out.trans (hb9.mono (Nat.le_of_lt hg3G)))
      have HO9 := lhd ho9
      have HG9 := lhd (Nat.le_trans HGc.out hb9.size)
      clear ho9 hb9 hg9 HOc X3c HWc HKc HGc HGb cb d0 d1 d2
      obtain ⟨Ao, co, ho, -, -⟩ := HO9.out.rd.shape
      obtain ⟨LL, hLL⟩ : ∃ LL, ((mS r).take (i + 1)).length = LL := ⟨_, rfl⟩
      rw [hLL] at ho
      subst ho
      clear hLL
      have cb := X39.out.at_ 2 _ rfl
      have cf := X39.out.frozen 2
      have X3d : Hid (Blk (w9.setCell ⟨g3, 2, none⟩ (.slice Ao LL co)) g3 (rmc (mT r) (.slice AN9 LN9 cN9) (.slice Ao LL co) (.slice none 0 0) (.slice A9 nL c9)) 51) := X39.out.set 2 (.slice Ao LL co)
      have hoo : ∀ k : Nat, k ≠ g3 → (w9.setCell ⟨g3, 2, none⟩ (.slice Ao LL co)).heap[k]? = w9.heap[k]? := fun k hk => heap_setCell_other w9 ⟨g3, 2, none⟩ k (.slice Ao LL co) hk
      have hss : (w9.setCell ⟨g3, 2, none⟩ (.slice Ao LL co)).heap.size = w9.heap.size := by simp
      have HOd : Hid (OwnE SeK 106 (w9.setCell ⟨g3, 2, none⟩ (.slice Ao LL co)) G (.slice Ao LL co) ((mS r).take (i + 1))) := lhd (ownsRow_same HO9.out (fun k hk => hoo k (by omega)))
      have HWd : Hid (Below g3 w4 (w9.setCell ⟨g3, 2, none⟩ (.slice Ao LL co))) := lhd (HW9.out.setCell (Nat.le_refl _) _)
      have HKd : Hid (Keep (fun e => e = 51 ∨ e = 106) B wN (w9.setCell ⟨g3, 2, none⟩ (.slice Ao LL co))) := lhd (HK9.out.trans (.store X39.out (.inl rfl) hB3 hss hoo))
      have HGd : Hid (G ≤ (w9.setCell ⟨g3, 2, none⟩ (.slice Ao LL co)).heap.size) := lhd (by rw [hss]; exact HG9.out)
      clear hoo hss X39 HO9 HW9 HK9 HG9
      go_wp2
      go_roundw
      case rel => exact ⟨i + 1, _, by omega, by go_num, X3d, HOd, HWd, HKd, HGd⟩
      case measure => simp [intOf]; omega
     ·have hE : i = nS := by omega
      subst hE
      have zi : ¬ (i : Int) < (i : Int) := by omega
      have HF : Hid ((mS r).take i = mS r) := lhd (List.take_of_length_le (by rw [HNS.out]; exact Nat.le_refl _))
      rw [HF.out] at HO
      clear HF
      obtain ⟨AS9, cS9, ho, -, -⟩ := HO.out.rd.shape
      obtain ⟨LS9, hLL⟩ : ∃ LL, (mS r).length = LL := ⟨_, rfl⟩
      rw [hLL] at ho
      subst ho
      clear hLL
      have OS := HO
      have ON := lhd (ON.out.keep HK.out (by decide))
      have OL := lhd (OL.out.keepT HK.out (by decide) (Nat.le_refl _))
      clear HO HK X0r RMr
      obtain ⟨wS, rfl⟩ : ∃ q, q = wQ := ⟨_, rfl⟩
      go_wp2
      clear z0 zi
      have KQW : Hid (Keep (fun e => e = 51 ∨ e = 107) B wS wS) := lhd (Keep.of (Below.refl _ _) (Nat.le_trans hBG HG.out))
      go_loopw [8] (fun x wr => ∃ (i : Nat) (o : Value), i ≤ nW ∧ x = .int .i64 (i : Int) ∧ Hid (Blk wr g3 (rmc (mT r) (.slice AN9 LN9 cN9) (.slice AS9 LS9 cS9) o (.slice A9 nL c9)) 51) ∧ Hid (OwnE WaK 107 wr G o ((mW r).take i)) ∧ Hid (Below g3 w4 wr) ∧ Hid (Keep (fun e => e = 51 ∨ e = 107) B wS wr) ∧ Hid (G ≤ wr.heap.size)) (fun x _ => nW - (intOf x).toNat)
      case atStart => exact ⟨0, _, Nat.zero_le _, rfl, X3, lhd (OwnE.nil _ _ _), HW, KQW, HG⟩
      case round =>
       clear X3 HW KQW HG
       obtain ⟨i, o, hi, rfl, X3, HO, HW, HK, HG⟩ := hrel
       obtain ⟨wQ, rfl⟩ : ∃ q, q = wr := ⟨_, rfl⟩
       have X0r := lhd (X0.out.below HW.out hg03)
       have RMr := lhd (RM4.out.below (HW.out.mono hB3))
       have z0 := X0r.out.at_ 3 _ rfl
       by_cases hi2 : i < nW
       ·have zi : (i : Int) < (nW : Int) := by omega
        have hil : i < (mW r).length := by rw [HNW.out]; exact hi2
        have hrr := RMr.out.t
        obtain ⟨a, hA, -⟩ := hrr.cells i hil
        subst hA
        have HT : Hid ((mW r).take (i + 1) = (mW r).take i ++ [(mW r).getD i wa0]) := lhd (by rw [List.take_add_one, List.getD_eq_getElem?_getD, List.getElem?_eq_getElem hil]; rfl)
        have hnd : ∀ j v, (wac ((mW r).getD i wa0))[j]? = some v → wQ.cell? ((a.add (i * 3)).add j) = some v := fun j v hv => hrr.node i hil j v hv
        obtain ⟨x, hx⟩ : ∃ x, (mW r).getD i wa0 = x := ⟨_, rfl⟩
        rw [hx] at hnd HT
        have HLE : Hid (((mW r).take i).length ≤ 1000) := lhd (by have := HLW.out; have := HNW.out; rw [List.length_take]; omega)
        clear hx hrr hil
        go_wp2_with (first | refine wpList_load_rowE rfl 94 _ rfl (a.add (i * 3)) (by first | rfl | (simp [Act.eval, Act.put, Addr.add])) (wac x) hnd dW huW hdW szWaP ?_ | refine wpList_alloc_blk rfl 94 rfl (wac wa0) zeroWaP ?_)
        intro wa a1 a2 a3
        obtain ⟨gA, hgA⟩ : ∃ g, wQ.heap.size = g := ⟨_, rfl⟩
        have A1 := lhd a1
        have BA := lhd a3
        have hGA : G ≤ gA := by have := HG.out; omega
        rw [hgA] at A1 BA ⊢
        have HGA := lhd hgA
        clear a1 a2 a3 hgA hnd z0
        go_wp2_with (refine wpList_store_to rfl 94 _ _ rfl gA (wac x) (wac wa0) 94 rfl rfl A1.out szWaP rfl (enc_all WaK x) ?_)
        intro wb e1 e2 e3 e4
        have BB : Hid (Below wQ.heap.size wQ wb) := lhd (by rw [HGA.out]; exact BA.out.trans e3)
        have hws : wQ.heap.size ≤ wb.heap.size := BB.out.size
        have HGb := lhd (Nat.le_trans HG.out hws)
        have d0 := e1.at_ 0 _ rfl
        have d1 := e1.at_ 1 _ rfl
        have d2 := e1.at_ 2 _ rfl
        have X3b := lhd (X3.out.below BB.out X3.out.lt)
        have HOb := lhd (HO.out.below BB.out (Nat.le_refl _))
        have HWb := lhd (HW.out.trans (BB.out.mono (Nat.le_of_lt X3.out.lt)))
        have HKb := lhd (HK.out.trans (.of BB.out (Nat.le_trans hBG HG.out)))
        have cb := X3b.out.at_ 3 _ rfl
        clear e1 e2 e3 e4 A1 BA BB X3 HO HW HK HG HGA hws X0r RMr
        have hba : Below wb.heap.size wb (wb.alloc (.cells (wac x).toArray 107)) := (Below.refl _ _).alloc (Nat.le_refl _) _
        have HOc := lhd (HOb.out.below hba (Nat.le_refl _))
        have X3c := lhd (X3b.out.below hba X3b.out.lt)
        have HWc := lhd (HWb.out.trans (hba.mono (Nat.le_of_lt X3b.out.lt)))
        have HKc := lhd (HKb.out.trans (.of hba (Nat.le_trans hBG HGb.out)))
        have HGc := lhd (Nat.le_trans HGb.out hba.size)
        clear hba HOb X3b HWb HKb
        go_wp2_with (at_builtin; refine wpList_appE (E := WaK) rfl _ _ 46 rfl 107 32 Tryz.underlying46 kindWaR G _ _ _ ((mW r).take i) [x] rfl HOc.out rfl (RdE.one (E := WaK) wb 107 x) (by simp) ?d1 ?d2 HGc.out ?_)
        case d1 => have := HLE.out; simp only [List.length_cons, List.length_nil]; omega
        case d2 => have := HLE.out; simp only [List.length_cons, List.length_nil]; omega
        intro v9 w9 ho9 hb9 hg9 _
        have HK9 := lhd (HKc.out.trans (Keep.grown (HOc.out.base hBG) (.inr rfl) (Nat.le_trans hBG HGc.out) (hb9.mono hBG) hg9))
        rw [← HT.out] at ho9
        have X39 := lhd (X3c.out.below hb9 hg3G)
        have HW9 := lhd (HWc.out.trans (hb9.mono (Nat.le_of_lt hg3G)))
        have HO9 := lhd ho9
        have HG9 := lhd (Nat.le_trans HGc.out hb9.size)
        clear ho9 hb9 hg9 HOc X3c HWc HKc HGc HGb cb d0 d1 d2
        obtain ⟨Ao, co, ho, -, -⟩ := HO9.out.rd.shape
        obtain ⟨LL, hLL⟩ : ∃ LL, ((mW r).take (i + 1)).length = LL := ⟨_, rfl⟩
        rw [hLL] at ho
        subst ho
        clear hLL
        have cb := X39.out.at_ 3 _ rfl
        have cf := X39.out.frozen 3
        have X3d : Hid (Blk (w9.setCell ⟨g3, 3, none⟩ (.slice Ao LL co)) g3 (rmc (mT r) (.slice AN9 LN9 cN9) (.slice AS9 LS9 cS9) (.slice Ao LL co) (.slice A9 nL c9)) 51) := X39.out.set 3 (.slice Ao LL co)
        have hoo : ∀ k : Nat, k ≠ g3 → (w9.setCell ⟨g3, 3, none⟩ (.slice Ao LL co)).heap[k]? = w9.heap[k]? := fun k hk => heap_setCell_other w9 ⟨g3, 3, none⟩ k (.slice Ao LL co) hk
        have hss : (w9.setCell ⟨g3, 3, none⟩ (.slice Ao LL co)).heap.size = w9.heap.size := by simp
        have HOd : Hid (OwnE WaK 107 (w9.setCell ⟨g3, 3, none⟩ (.slice Ao LL co)) G (.slice Ao LL co) ((mW r).take (i + 1))) := lhd (ownsRow_same HO9.out (fun k hk => hoo k (by omega)))
        have HWd : Hid (Below g3 w4 (w9.setCell ⟨g3, 3, none⟩ (.slice Ao LL co))) := lhd (HW9.out.setCell (Nat.le_refl _) _)
        have HKd : Hid (Keep (fun e => e = 51 ∨ e = 107) B wS (w9.setCell ⟨g3, 3, none⟩ (.slice Ao LL co))) := lhd (HK9.out.trans (.store X39.out (.inl rfl) hB3 hss hoo))
        have HGd : Hid (G ≤ (w9.setCell ⟨g3, 3, none⟩ (.slice Ao LL co)).heap.size) := lhd (by rw [hss]; exact HG9.out)
        clear hoo hss X39 HO9 HW9 HK9 HG9
        go_wp2
        go_roundw
        case rel => exact ⟨i + 1, _, by omega, by go_num, X3d, HOd, HWd, HKd, HGd⟩
        case measure => simp [intOf]; omega
       ·have hE : i = nW := by omega
        subst hE
        have zi : ¬ (i : Int) < (i : Int) := by omega
        have HF : Hid ((mW r).take i = mW r) := lhd (List.take_of_length_le (by rw [HNW.out]; exact Nat.le_refl _))
        rw [HF.out] at HO
        clear HF
        obtain ⟨AW9, cW9, ho, -, -⟩ := HO.out.rd.shape
        obtain ⟨LW9, hLL⟩ : ∃ LL, (mW r).length = LL := ⟨_, rfl⟩
        rw [hLL] at ho
        subst ho
        clear hLL
        have OW := HO
        have ON := lhd (ON.out.keep HK.out (by decide))
        have OS := lhd (OS.out.keep HK.out (by decide))
        have OL := lhd (OL.out.keepT HK.out (by decide) (Nat.le_refl _))
        clear HO HK X0r RMr
        obtain ⟨wW, rfl⟩ : ∃ q, q = wQ := ⟨_, rfl⟩
        have X1e := lhd (X1.out.below HW.out hg13)
        go_wp2_with (first | refine wpList_load_part rfl 51 _ rfl g3 0 (rmc (mT r) (.slice AN9 LN9 cN9) (.slice AS9 LS9 cS9) (.slice AW9 LW9 cW9) (.slice A9 nL c9)) (rmc (mT r) (.slice AN9 LN9 cN9) (.slice AS9 LS9 cS9) (.slice AW9 LW9 cW9) (.slice A9 nL c9)) 51 rfl X3.out rfl HU.out HD.out szRmR ?_ | refine wpList_store_to rfl 51 _ _ rfl g1 (rmc (mT r) (.slice AN9 LN9 cN9) (.slice AS9 LS9 cS9) (.slice AW9 LW9 cW9) (.slice A9 nL c9)) (rmc 0 (.slice none 0 0) (.slice none 0 0) (.slice none 0 0) (.slice none 0 0)) 51 rfl rfl X1e.out szRmR rfl (rmc_all _ _ _ _ _ _ _ _ _ _ _ _ _) ?_)
        intro wE e1 e2 e3 e4
        have KE := Keep.store (T := fun e => e = 51) (b := B) X1e.out rfl (by rw [HG1.out]; omega) e2 e4
        have ON := ON.out.keep KE (by decide)
        have OS := OS.out.keep KE (by decide)
        have OW := OW.out.keep KE (by decide)
        have OL := OL.out.keepT KE (by decide) (Nat.le_refl _)
        go_wp2
        refine bodyPost_ret (v := .agg (rmc (mT r) (.slice AN9 LN9 cN9) (.slice AS9 LS9 cS9) (.slice AW9 LW9 cW9) (.slice A9 nL c9)).toArray) ?_ rfl ?_
        ·exact ret_blkUL rfl _ _ g1 51 (rmc (mT r) (.slice AN9 LN9 cN9) (.slice AS9 LS9 cS9) (.slice AW9 LW9 cW9) (.slice A9 nL c9)) rfl e1 dR HU.out HD.out szRmR
        ·exact ⟨_, _, _, _, rfl, ⟨RdNd.ofE ON.rd, OS.rd, OW.rd, OL.rd (Nat.le_trans KE.le KE.size)⟩, HB4.out.trans ((HW.out.mono (by rw [HBB.out]; exact hB3)).trans (e3.mono (by rw [HBB.out, HG1.out]; omega)))⟩
end Go.Proofs.YtdihngkdhanhkaaGreatDoor
