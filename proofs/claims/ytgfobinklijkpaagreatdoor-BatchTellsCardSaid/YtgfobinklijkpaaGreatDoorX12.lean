/-
  Texts NH R3 R6 R7 R8 R9.
-/
import Derived.Test.YtgfobinklijkpaaGreatDoorX01
import Derived.BigFrame
import Derived.Test.YtgfobinklijkpaaGreatDoorX02
import Derived.Test.YtgfobinklijkpaaGreatDoorX07
import Derived.Test.YtgfobinklijkpaaGreatDoorX08
import Derived.Test.YtgfobinklijkpaaGreatDoorX09
import Derived.Test.YtgfobinklijkpaaGreatDoorX11
namespace Go.Proofs.YtgfobinklijkpaaGreatDoor
set_option maxRecDepth 100000
set_option maxHeartbeats 16000000
open Go.RowKit
theorem ret_blk3O {P : Program} {fn : Func} {p u v : Tmp} {ty : TypeId} (h : fn.results = #[.cell p ty, .tmp u, .tmp v]) (tmps : Array Value) (w : World) (g : Nat) (t : TypeId) (cs : List Value) (x y : Value)
 (hp : tmps.getD p undef = .pointer (some ⟨g, 0, none⟩)) (hx : tmps.getD u undef = x) (hy : tmps.getD v undef = y) (hb : Blk w g cs t) (d : TypeDesc) (hu : P.underlying ty = some d) (hd : d.isRow = true) (hi : (P.info? ty).map (·.size) = some cs.length) :
 (results fn tmps).run P w = .ok (.tuple #[.agg cs.toArray, x, y]) w := by
 have hl := run_loadVar_row w g t ty cs.toArray (0, 0) d hb hu (by cases d <;> first | rfl | cases hd) (by simpa using hi)
 have hp' : tmps[p]?.getD undef = .pointer (some ⟨g, 0, none⟩) := by simpa using hp
 have hx' : tmps[u]?.getD undef = x := by simpa using hx
 have hy' : tmps[v]?.getD undef = y := by simpa using hy
 simp [results, h, Result.andThen, hp', hx', hy', asAddr, hl]
def NewBo (t : TypeId) (cs : List Value) (B : Nat) (u : Value) (w : World) : Prop := ∃ g, u = .pointer (some ⟨g, 0, none⟩) ∧ Blk w g cs t ∧ B ≤ g
theorem NewBo.keep {t : TypeId} {cs : List Value} {B : Nat} {u : Value} {w w' : World} (h : NewBo t cs B u w) (hb : Below w.heap.size w w') : NewBo t cs B u w' := by
 obtain ⟨g, h1, h2, h3⟩ := h
 exact ⟨g, h1, h2.below hb h2.lt, h3⟩
theorem takeIs_len (k : Nat) (l : List UInt8) (h : (takeIs k l).2.2 = 0) : (takeIs k l).1.length = k := (takeIs_only k l _ _ (by rw [← h])).2.1
theorem takeO_1 {l r1 : List UInt8} {ns : List Int} {e1 : Nat} (h : takeIs 6 l = (ns, r1, e1)) (he : e1 ≠ 0) : takeO l = (or0, [], e1) := by
 unfold takeO
 rw [h, if_pos he]
theorem takeO_2 {l r1 r2 p : List UInt8} {ns : List Int} {e2 : Nat} (h : takeIs 6 l = (ns, r1, 0)) (h2 : takeS r1 100 = (p, r2, e2)) (he : e2 ≠ 0) : takeO l = (or0, [], e2) := by
 unfold takeO
 rw [h]
 simp only [h2]
 rw [if_neg (by simp), if_pos he]
theorem takeO_3 {l r1 r2 r3 p q : List UInt8} {ns : List Int} {e3 : Nat} (h : takeIs 6 l = (ns, r1, 0)) (h2 : takeS r1 100 = (p, r2, 0)) (h3 : takeS r2 1000 = (q, r3, e3)) (he : e3 ≠ 0) : takeO l = (or0, [], e3) := by
 unfold takeO
 rw [h]
 simp only [h2, h3]
 rw [if_neg (by simp), if_neg (by simp), if_pos he]
theorem takeO_4 {l r1 r2 r3 p q : List UInt8} {ns : List Int} (h : takeIs 6 l = (ns, r1, 0)) (h2 : takeS r1 100 = (p, r2, 0)) (h3 : takeS r2 1000 = (q, r3, 0)) : takeO l = if mayO (ofTaken ns p q) = true then (ofTaken ns p q, r3, 0) else (or0, [], 3) := by
 unfold takeO
 rw [h]
 simp only [h2, h3]
 rw [if_neg (by simp), if_neg (by simp), if_neg (by simp)]
 cases mayO (ofTaken ns p q) <;> simp
def TookB (B : Nat) (r : Or × List UInt8 × Nat) (w : World) (e : Ending) (w' : World) : Prop :=
 ∃ vr, e = .returned (.tuple #[.agg (orc r.1).toArray, vr, .int .i64 (r.2.2 : Int)]) ∧ Rd B w' vr r.2.1 ∧ Below w.heap.size w w'
set_option maxRecDepth 1000000 in
theorem rfTakeO_at (v : Value) (l : List UInt8) (Bb : Nat) (w : World) (hr : Rd Bb w v l) (hBb : Bb ≤ w.heap.size) : Calls Tryz.prog 39 #[v] w (TookB Bb (takeO l) w) := by
 obtain ⟨d30, hu30, hd30⟩ := rowOrR
 have HU := lhd hu30
 have HD := lhd hd30
 have HR := lhd hr
 clear hr hu30 hd30
 go_enter Tryz.func39, Tryz.ntmps39
 go_wp2_with (refine wpList_alloc_blk rfl 97 rfl (orc or0) zeroOrR ?_)
 intro w1 a1 a2 a3
 obtain ⟨g, hg⟩ : ∃ g, w.heap.size = g := ⟨_, rfl⟩
 have X0 := lhd a1
 have E1 := lhd a3
 have hg1 : g ≤ w1.heap.size := by omega
 have HG := lhd hg
 rw [hg] at X0 E1 hBb ⊢
 clear a1 a2 a3 hg
 have HR1 : Hid (Rd Bb w1 v l) := HR.out.below (E1.out.mono hBb)
 go_wp2_with fail
 refine (rfInts_any v l 6 Bb w1 HR1.out (Nat.le_trans hBb hg1) (by omega)).mono ?_
 rintro e w2 ⟨vl, vr, rfl, hL, hrr, hb⟩
 obtain ⟨ns, r1, e1, hT⟩ : ∃ a b c, takeIs 6 l = (a, b, c) := ⟨_, _, _, rfl⟩
 rw [hT] at hL hrr ⊢
 have HT := lhd hT
 have HL := lhd hL
 have HR2 := lhd hrr
 have E2 := lhd (E1.out.trans (hb.mono hg1))
 have X2 := lhd (X0.out.below hb X0.out.lt)
 have hg2 : g ≤ w2.heap.size := Nat.le_trans hg1 hb.size
 have HR2 := lhd (HR2.out)
 have hs12 : w1.heap.size ≤ w2.heap.size := hb.size
 clear hT hL hrr hb X0 E1 HR1 hg1
 by_cases he1 : e1 = 0
 case neg =>
  have hne : ((e1 : Int) != 0) = true := by rw [bne_iff_ne]; omega
  go_wp2_with (refine wpList_store_to rfl 97 _ _ rfl g (orc or0) (orc or0) 97 rfl rfl X2.out szOrR rfl (orc_all or0) ?_)
  intro w20 e1' e2' e3' e4'
  go_wp2
  refine bodyPost_ret (v := .tuple #[.agg (orc or0).toArray, .slice none 0 0, .int .i64 (e1 : Int)]) ?_ rfl ?_
  ·exact ret_blk3O rfl _ _ g 97 (orc or0) _ _ rfl rfl rfl e1' d30 HU.out HD.out szOrR
  ·rw [takeO_1 HT.out he1]
   exact ⟨_, rfl, Rd.nil _ _, by rw [HG.out]; exact E2.out.trans (e3'.mono (Nat.le_refl _))⟩
 subst he1
 go_wp2_with fail
 refine (refText_any vr r1 100 Bb w2 HR2.out (Nat.le_trans hBb hg2) (by omega) (by omega)).mono ?_
 rintro e w3 ⟨vr2, rfl, hrr, hb⟩
 obtain ⟨p, r2, e2, hT⟩ : ∃ a b c, takeS r1 100 = (a, b, c) := ⟨_, _, _, rfl⟩
 rw [hT] at hrr ⊢
 have HT3 := lhd hT
 have HR3 : Hid (Rd Bb w3 vr2 r2) := hrr
 have E3 := lhd (E2.out.trans (hb.mono hg2))
 have X3 := lhd (X2.out.below hb X2.out.lt)
 have hg3 : g ≤ w3.heap.size := Nat.le_trans hg2 hb.size
 have hs13 : w1.heap.size ≤ w3.heap.size := Nat.le_trans hs12 hb.size
 have HL3 := lhd ((HL.out.below hb).more hb.size)
 clear hT hrr hb HR2 E2 X2 HL
 by_cases he2 : e2 = 0
 case neg =>
  have hne : ((e2 : Int) != 0) = true := by rw [bne_iff_ne]; omega
  go_wp2_with (refine wpList_store_to rfl 97 _ _ rfl g (orc or0) (orc or0) 97 rfl rfl X3.out szOrR rfl (orc_all or0) ?_)
  intro w20 e1' e2' e3' e4'
  go_wp2
  refine bodyPost_ret (v := .tuple #[.agg (orc or0).toArray, .slice none 0 0, .int .i64 (e2 : Int)]) ?_ rfl ?_
  ·exact ret_blk3O rfl _ _ g 97 (orc or0) _ _ rfl rfl rfl e1' d30 HU.out HD.out szOrR
  ·rw [takeO_2 HT.out HT3.out he2]
   exact ⟨_, rfl, Rd.nil _ _, by rw [HG.out]; exact E3.out.trans (e3'.mono (Nat.le_refl _))⟩
 subst he2
 go_wp2_with fail
 refine (refText_any vr2 r2 1000 Bb w3 HR3.out (Nat.le_trans hBb hg3) (by omega) (by omega)).mono ?_
 rintro e w4 ⟨vr3, rfl, hrr, hb⟩
 obtain ⟨q, r3, e3, hT⟩ : ∃ a b c, takeS r2 1000 = (a, b, c) := ⟨_, _, _, rfl⟩
 rw [hT] at hrr ⊢
 have HT4 := lhd hT
 have HR4 : Hid (Rd Bb w4 vr3 r3) := hrr
 have E4 := lhd (E3.out.trans (hb.mono hg3))
 have X4 := lhd (X3.out.below hb X3.out.lt)
 have hg4 : g ≤ w4.heap.size := Nat.le_trans hg3 hb.size
 have hs14 : w1.heap.size ≤ w4.heap.size := Nat.le_trans hs13 hb.size
 have HL4 := lhd ((HL3.out.below hb).more hb.size)
 clear hT hrr hb HR3 E3 X3 HL3
 by_cases he3 : e3 = 0
 case neg =>
  have hne : ((e3 : Int) != 0) = true := by rw [bne_iff_ne]; omega
  go_wp2_with (refine wpList_store_to rfl 97 _ _ rfl g (orc or0) (orc or0) 97 rfl rfl X4.out szOrR rfl (orc_all or0) ?_)
  intro w20 e1' e2' e3' e4'
  go_wp2
  refine bodyPost_ret (v := .tuple #[.agg (orc or0).toArray, .slice none 0 0, .int .i64 (e3 : Int)]) ?_ rfl ?_
  ·exact ret_blk3O rfl _ _ g 97 (orc or0) _ _ rfl rfl rfl e1' d30 HU.out HD.out szOrR
  ·rw [takeO_3 HT.out HT3.out HT4.out he3]
   exact ⟨_, rfl, Rd.nil _ _, by rw [HG.out]; exact E4.out.trans (e3'.mono (Nat.le_refl _))⟩
 subst he3
 have HNL : Hid (ns.length = 6) := by
  have h := takeIs_len 6 l (by rw [HT.out])
  rw [HT.out] at h
  exact h
 have HF := lhd (takeO_4 HT.out HT3.out HT4.out)
 obtain ⟨n0, n1, n2, n3, n4, n5, rfl⟩ : ∃ n0 n1 n2 n3 n4 n5, ns = [n0, n1, n2, n3, n4, n5] := by
  have h := HNL.out
  clear HNL HF HT HL4
  match ns, h with
  | [n0, n1, n2, n3, n4, n5], _ => exact ⟨n0, n1, n2, n3, n4, n5, rfl⟩
 clear HNL
 obtain ⟨AL, cL, rfl, -, -⟩ := HL4.out.shape
 have hA0 := HL4.out.at1 0 (by show (0 : Nat) < 6; decide)
 obtain ⟨aL, rfl, -⟩ := hA0
 go_wp2
 refine wp_region_rely3 22 1 (fun x => ⟨#[v, undef, .pointer (some { block := g, off := 0 }), .slice none 0 0, .int IntKind.i64 0, .slice (some aL) 6 cL, vr3, .int IntKind.i64 0, .string { data := p.toArray }, .string { data := q.toArray }, x 21, .tuple #[Value.slice (some aL) 6 cL, vr, Value.int IntKind.i64 0], v, .tuple #[Value.slice (some aL) 6 cL, vr, Value.int IntKind.i64 0], .slice (some aL) 6 cL, vr, .int IntKind.i64 0, .int IntKind.i64 0, .bool false, undef, undef, .tuple #[Value.string { data := p.toArray }, vr2, Value.int IntKind.i64 0], vr, .tuple #[Value.string { data := p.toArray }, vr2, Value.int IntKind.i64 0], .string { data := p.toArray }, vr2, .int IntKind.i64 0, .int IntKind.i64 0, .bool false, undef, undef, .tuple #[Value.string { data := q.toArray }, vr3, Value.int IntKind.i64 0], vr2, .tuple #[Value.string { data := q.toArray }, vr3, Value.int IntKind.i64 0], .string { data := q.toArray }, vr3, .int IntKind.i64 0, .int IntKind.i64 0, .bool false, undef, undef, x 0, x 1, x 2, x 3, x 4, x 5, x 6, x 7, x 8, x 9, x 10, x 11, x 12, x 13, x 14, x 15, x 16, x 17, x 18, x 19, x 20, undef, undef, undef, undef, undef, undef], []⟩) (fun jj => ([eqV (.slice (some aL) 6 cL), eqV (.pointer (some (aL.add 0))), eqV (.int .i64 n0), eqV (.slice (some aL) 6 cL), eqV (.pointer (some (aL.add 1))), eqV (.int .i64 n1), eqV (.slice (some aL) 6 cL), eqV (.pointer (some (aL.add 2))), eqV (.int .i64 n2), eqV (.string { data := p.toArray }), eqV (.string { data := q.toArray }), eqV (.slice (some aL) 6 cL), eqV (.pointer (some (aL.add 3))), eqV (.int .i64 n3), eqV (.slice (some aL) 6 cL), eqV (.pointer (some (aL.add 4))), eqV (.int .i64 n4), eqV (.slice (some aL) 6 cL), eqV (.pointer (some (aL.add 5))), eqV (.int .i64 n5), eqV (.agg (orc (n0, n1, n2, p, q, n3, n4, n5)).toArray), (NewBo 97 (orc or0) w4.heap.size)] : List (Value → World → Prop)).getD jj (fun _ _ => True)) rfl ⟨fun kk => [_, _, _, _, _, _, _, _, _, _, _, _, _, _, _, _, _, _, _, _, _, _].getD kk undef, rfl⟩ (by kernel_rfl) (by kernel_rfl) ?steps ?fin
 case steps =>
  refine StepsAt.val 0 (.slice (some aL) 6 cL) rfl (fun _ _ => rfl) rfl rfl (fun x wx hb hd => ?_) ?_
  ·(go_simp; try rfl)
  refine StepsAt.val 1 (.pointer (some (aL.add 0))) rfl (fun _ _ => rfl) rfl rfl (fun x wx hb hd => ?_) ?_
  ·have h0 : x 0 = .slice (some aL) 6 cL := hd 0 (by kernel_rfl)
   rw [h0]
   (go_simp; try rfl)
  refine StepsAt.val 2 (.int .i64 n0) rfl (fun _ _ => rfl) rfl rfl (fun x wx hb hd => ?_) ?_
  ·have h1 : x 1 = .pointer (some (aL.add 0)) := hd 1 (by kernel_rfl)
   obtain ⟨a9, hA9, cc⟩ := ((HL4.out.below hb).at1 0 (by show (0 : Nat) < 6; decide))
   obtain rfl : aL = a9 := Option.some.inj hA9
   rw [add_zeroA] at cc
   change wx.cell? aL = some (.int .i64 n0) at cc
   rw [h1]
   (go_simp; try rfl)
  refine StepsAt.val 3 (.slice (some aL) 6 cL) rfl (fun _ _ => rfl) rfl rfl (fun x wx hb hd => ?_) ?_
  ·(go_simp; try rfl)
  refine StepsAt.val 4 (.pointer (some (aL.add 1))) rfl (fun _ _ => rfl) rfl rfl (fun x wx hb hd => ?_) ?_
  ·have h3 : x 3 = .slice (some aL) 6 cL := hd 3 (by kernel_rfl)
   rw [h3]
   (go_simp; try rfl)
  refine StepsAt.val 5 (.int .i64 n1) rfl (fun _ _ => rfl) rfl rfl (fun x wx hb hd => ?_) ?_
  ·have h4 : x 4 = .pointer (some (aL.add 1)) := hd 4 (by kernel_rfl)
   obtain ⟨a9, hA9, cc⟩ := ((HL4.out.below hb).at1 1 (by show (1 : Nat) < 6; decide))
   obtain rfl : aL = a9 := Option.some.inj hA9
   change wx.cell? ⟨aL.block, aL.off + 1, none⟩ = some (.int .i64 n1) at cc
   rw [h4]
   (go_simp; try rfl)
  refine StepsAt.val 6 (.slice (some aL) 6 cL) rfl (fun _ _ => rfl) rfl rfl (fun x wx hb hd => ?_) ?_
  ·(go_simp; try rfl)
  refine StepsAt.val 7 (.pointer (some (aL.add 2))) rfl (fun _ _ => rfl) rfl rfl (fun x wx hb hd => ?_) ?_
  ·have h6 : x 6 = .slice (some aL) 6 cL := hd 6 (by kernel_rfl)
   rw [h6]
   (go_simp; try rfl)
  refine StepsAt.val 8 (.int .i64 n2) rfl (fun _ _ => rfl) rfl rfl (fun x wx hb hd => ?_) ?_
  ·have h7 : x 7 = .pointer (some (aL.add 2)) := hd 7 (by kernel_rfl)
   obtain ⟨a9, hA9, cc⟩ := ((HL4.out.below hb).at1 2 (by show (2 : Nat) < 6; decide))
   obtain rfl : aL = a9 := Option.some.inj hA9
   change wx.cell? ⟨aL.block, aL.off + 2, none⟩ = some (.int .i64 n2) at cc
   rw [h7]
   (go_simp; try rfl)
  refine StepsAt.val 9 (.string { data := p.toArray }) rfl (fun _ _ => rfl) rfl rfl (fun x wx hb hd => ?_) ?_
  ·(go_simp; try rfl)
  refine StepsAt.val 10 (.string { data := q.toArray }) rfl (fun _ _ => rfl) rfl rfl (fun x wx hb hd => ?_) ?_
  ·(go_simp; try rfl)
  refine StepsAt.val 11 (.slice (some aL) 6 cL) rfl (fun _ _ => rfl) rfl rfl (fun x wx hb hd => ?_) ?_
  ·(go_simp; try rfl)
  refine StepsAt.val 12 (.pointer (some (aL.add 3))) rfl (fun _ _ => rfl) rfl rfl (fun x wx hb hd => ?_) ?_
  ·have h11 : x 11 = .slice (some aL) 6 cL := hd 11 (by kernel_rfl)
   rw [h11]
   (go_simp; try rfl)
  refine StepsAt.val 13 (.int .i64 n3) rfl (fun _ _ => rfl) rfl rfl (fun x wx hb hd => ?_) ?_
  ·have h12 : x 12 = .pointer (some (aL.add 3)) := hd 12 (by kernel_rfl)
   obtain ⟨a9, hA9, cc⟩ := ((HL4.out.below hb).at1 3 (by show (3 : Nat) < 6; decide))
   obtain rfl : aL = a9 := Option.some.inj hA9
   change wx.cell? ⟨aL.block, aL.off + 3, none⟩ = some (.int .i64 n3) at cc
   rw [h12]
   (go_simp; try rfl)
  refine StepsAt.val 14 (.slice (some aL) 6 cL) rfl (fun _ _ => rfl) rfl rfl (fun x wx hb hd => ?_) ?_
  ·(go_simp; try rfl)
  refine StepsAt.val 15 (.pointer (some (aL.add 4))) rfl (fun _ _ => rfl) rfl rfl (fun x wx hb hd => ?_) ?_
  ·have h14 : x 14 = .slice (some aL) 6 cL := hd 14 (by kernel_rfl)
   rw [h14]
   (go_simp; try rfl)
  refine StepsAt.val 16 (.int .i64 n4) rfl (fun _ _ => rfl) rfl rfl (fun x wx hb hd => ?_) ?_
  ·have h15 : x 15 = .pointer (some (aL.add 4)) := hd 15 (by kernel_rfl)
   obtain ⟨a9, hA9, cc⟩ := ((HL4.out.below hb).at1 4 (by show (4 : Nat) < 6; decide))
   obtain rfl : aL = a9 := Option.some.inj hA9
   change wx.cell? ⟨aL.block, aL.off + 4, none⟩ = some (.int .i64 n4) at cc
   rw [h15]
   (go_simp; try rfl)
  refine StepsAt.val 17 (.slice (some aL) 6 cL) rfl (fun _ _ => rfl) rfl rfl (fun x wx hb hd => ?_) ?_
  ·(go_simp; try rfl)
  refine StepsAt.val 18 (.pointer (some (aL.add 5))) rfl (fun _ _ => rfl) rfl rfl (fun x wx hb hd => ?_) ?_
  ·have h17 : x 17 = .slice (some aL) 6 cL := hd 17 (by kernel_rfl)
   rw [h17]
   (go_simp; try rfl)
  refine StepsAt.val 19 (.int .i64 n5) rfl (fun _ _ => rfl) rfl rfl (fun x wx hb hd => ?_) ?_
  ·have h18 : x 18 = .pointer (some (aL.add 5)) := hd 18 (by kernel_rfl)
   obtain ⟨a9, hA9, cc⟩ := ((HL4.out.below hb).at1 5 (by show (5 : Nat) < 6; decide))
   obtain rfl : aL = a9 := Option.some.inj hA9
   change wx.cell? ⟨aL.block, aL.off + 5, none⟩ = some (.int .i64 n5) at cc
   rw [h18]
   (go_simp; try rfl)
  refine StepsAt.val 20 (.agg (orc (n0, n1, n2, p, q, n3, n4, n5)).toArray) rfl (fun _ _ => rfl) rfl rfl (fun x wx hb hd => ?_) ?_
  ·have h2 : x 2 = .int .i64 n0 := hd 2 (by kernel_rfl)
   have h5 : x 5 = .int .i64 n1 := hd 5 (by kernel_rfl)
   have h8 : x 8 = .int .i64 n2 := hd 8 (by kernel_rfl)
   have h9 : x 9 = .string { data := p.toArray } := hd 9 (by kernel_rfl)
   have h10 : x 10 = .string { data := q.toArray } := hd 10 (by kernel_rfl)
   have h13 : x 13 = .int .i64 n3 := hd 13 (by kernel_rfl)
   have h16 : x 16 = .int .i64 n4 := hd 16 (by kernel_rfl)
   have h19 : x 19 = .int .i64 n5 := hd 19 (by kernel_rfl)
   rw [h2, h5, h8, h9, h10, h13, h16, h19]
   (go_simp; try rfl)
  refine StepsAt.cons 21 (fun _ _ _ h hb => h.keep hb) (fun _ _ => rfl) rfl rfl (fun x wx hb hd K hK => ?_) ?_
  ·refine wp_of_list rfl (wpList_alloc_blk rfl 97 rfl (orc or0) zeroOrR ?_)
   intro w8 a1 a2 a3
   exact hK.out _ _ a3 ⟨_, rfl, a1, hb.size⟩
  exact StepsAt.done
 case fin =>
  intro x wx hb hd
  obtain ⟨gN, hxp, hbA, hgA⟩ : NewBo 97 (orc or0) w4.heap.size (x 21) wx := hd 21 (by omega)
  have hxv : x 20 = .agg (orc (n0, n1, n2, p, q, n3, n4, n5)).toArray := hd 20 (by omega)
  have EB := lhd hb
  have BA := lhd hbA
  refine AnyTill.any (S := fun _ => True) (m := 22) _ _ _ _ ?_
  rw [hxv, hxp]
  clear hd hb hxv hxp hbA
  refine AnyTill.one (i := 22) (by kernel_rfl) rfl (by rfl) (fun K hK => ?_)
  refine wp_of_list rfl (wpList_store_to rfl 97 _ _ rfl gN (orc (n0, n1, n2, p, q, n3, n4, n5)) (orc or0) 97 rfl rfl BA.out szOrR rfl (orc_all _) ?_)
  intro w5 e1 e2 e3 e4
  refine hK.out _ _ (.inr trivial) ?_
  clear hK K
  refine AnyTill.done (by kernel_rfl) ?_
  refine NoPanic.normal ?_
  try dsimp only
  have X5 := lhd e1
  have EE := lhd (EB.out.trans (e3.mono hgA))
  have E5 := lhd (E4.out.trans (EE.out.mono hg4))
  have XR := lhd (X4.out.below EE.out X4.out.lt)
  have HR5 := lhd (HR4.out.below (EE.out.mono (Nat.le_trans hBb hg4)))
  have hg5 : g ≤ w5.heap.size := Nat.le_trans hg4 EE.out.size
  obtain ⟨OO, hOO⟩ : ∃ o : Or, (n0, n1, n2, p, q, n3, n4, n5) = o := ⟨_, rfl⟩
  change Hid (takeO l = if mayO (n0, n1, n2, p, q, n3, n4, n5) = true then ((n0, n1, n2, p, q, n3, n4, n5), r3, 0) else (or0, [], 3)) at HF
  rw [hOO] at X5 HF
  clear e1 e2 e3 e4 EB BA hgA hOO E4 X4 HR4 HL4
  have c5_0 := X5.out.at_ 0 _ rfl
  have c5_1 := X5.out.at_ 1 _ rfl
  have c5_2 := X5.out.at_ 2 _ rfl
  have c5_3 := X5.out.at_ 3 _ rfl
  have c5_4 := X5.out.at_ 4 _ rfl
  have c5_5 := X5.out.at_ 5 _ rfl
  have c5_6 := X5.out.at_ 6 _ rfl
  have c5_7 := X5.out.at_ 7 _ rfl
  go_wp2_with fail
  refine (rfMayO_any OO w5).mono ?_
  rintro e w6 ⟨rfl, hb⟩
  have E6 := lhd (E5.out.trans (hb.mono hg5))
  have XR6 := lhd (XR.out.below hb XR.out.lt)
  have X6 := lhd (X5.out.below hb X5.out.lt)
  have HR6 := lhd (HR5.out.below (hb.mono (Nat.le_trans hBb hg5)))
  have hg6 : g ≤ w6.heap.size := Nat.le_trans hg5 hb.size
  clear hb c5_0 c5_1 c5_2 c5_3 c5_4 c5_5 c5_6 c5_7 X5 XR HR5 EE E5
  cases hM : mayO OO with
  | false =>
    rw [hM] at HF
    clear hM
    go_wp2_with (refine wpList_store_to rfl 97 _ _ rfl g (orc or0) (orc or0) 97 rfl rfl XR6.out szOrR rfl (orc_all or0) ?_)
    intro w20 e1' e2' e3' e4'
    go_wp2
    refine bodyPost_ret (v := .tuple #[.agg (orc or0).toArray, .slice none 0 0, .int .i64 3]) ?_ rfl ?_
    ·exact ret_blk3O rfl _ _ g 97 (orc or0) _ _ rfl rfl rfl e1' d30 HU.out HD.out szOrR
    ·rw [HF.out, if_neg Bool.false_ne_true]
     exact ⟨_, rfl, Rd.nil _ _, by rw [HG.out]; exact E6.out.trans (e3'.mono (Nat.le_refl _))⟩
  | true =>
    rw [hM] at HF
    clear hM
    have c6_0 := X6.out.at_ 0 _ rfl
    have c6_1 := X6.out.at_ 1 _ rfl
    have c6_2 := X6.out.at_ 2 _ rfl
    have c6_3 := X6.out.at_ 3 _ rfl
    have c6_4 := X6.out.at_ 4 _ rfl
    have c6_5 := X6.out.at_ 5 _ rfl
    have c6_6 := X6.out.at_ 6 _ rfl
    have c6_7 := X6.out.at_ 7 _ rfl
    go_wp2_with (refine wpList_store_to rfl 97 _ _ rfl g (orc OO) (orc or0) 97 rfl rfl XR6.out szOrR rfl (orc_all OO) ?_)
    intro w20 e1' e2' e3' e4'
    clear c6_0 c6_1 c6_2 c6_3 c6_4 c6_5 c6_6 c6_7
    go_wp2
    refine bodyPost_ret (v := .tuple #[.agg (orc OO).toArray, vr3, .int .i64 0]) ?_ rfl ?_
    ·exact ret_blk3O rfl _ _ g 97 (orc OO) _ _ rfl rfl rfl e1' d30 HU.out HD.out szOrR
    ·rw [HF.out, if_pos trivial]
     exact ⟨_, rfl, HR6.out.below (e3'.mono hBb), by rw [HG.out]; exact E6.out.trans (e3'.mono (Nat.le_refl _))⟩
theorem cell_spot {w : World} {a : Addr} {v : Value} (h : w.cell? a = some v) : a.spot = none := by
 unfold World.cell? at h
 split at h
 ·cases hs : a.spot with
  | none => rfl
  | some k => rw [hs] at h; simp at h
 ·cases h
theorem cell_heap {w w' : World} (p : Addr) (h : w'.heap[p.block]? = w.heap[p.block]?) : w'.cell? p = w.cell? p := by
 unfold World.cell?
 rw [h]
theorem RdE.apart {α : Type} {E : RowK α} {B : Nat} {w : World} {a : Addr} {n c : Nat} {l : List α} (h : RdE E B w (.slice (some a) n c) l) (hl : 0 < l.length) {g : Nat} {cs : List Value} {t : TypeId} (hx : Blk w g cs t)
 (hk : ∀ off, off + E.k ≤ cs.length → ∃ i, i < E.k ∧ ∀ x : α, (E.enc x)[i]? ≠ cs[off + i]?) : a.block ≠ g := by
 intro e
 have hn := h.node 0 hl
 rw [Nat.zero_mul] at hn
 have ha0 : a.add 0 = a := by cases a; rfl
 rw [ha0] at hn
 obtain ⟨x, hxx⟩ : ∃ x, l.getD 0 E.d = x := ⟨_, rfl⟩
 rw [hxx] at hn
 have hs : a.spot = none := by
  have h0 := hn 0 _ (enc_get E x 0 E.pos)
  rw [ha0] at h0
  exact cell_spot h0
 have hc : ∀ i, i < E.k → w.cell? (a.add i) = cs[a.off + i]? := by
  intro i _
  rw [show a.add i = ⟨g, a.off + i, none⟩ from by
   cases a
   simp only at e hs
   subst e hs
   unfold Addr.add
   split
   ·rename_i h0; subst h0; rfl
   ·rfl]
  exact hx.cell _
 have hlen : a.off + E.k ≤ cs.length := by
  have hp := E.pos
  have h1 := hn (E.k - 1) _ (enc_get E x (E.k - 1) (by omega))
  rw [hc (E.k - 1) (by omega)] at h1
  have := (List.getElem?_eq_some_iff.1 h1).1
  omega
 obtain ⟨i, hi, hne⟩ := hk a.off hlen
 refine hne x ?_
 rw [enc_get E x i hi, ← hc i hi]
 exact (hn i _ (enc_get E x i hi)).symm
theorem RdE.but {α : Type} {E : RowK α} {B : Nat} {w w' : World} {v : Value} {l : List α} (h : RdE E B w v l) {g : Nat} {cs : List Value} {t : TypeId} (hx : Blk w g cs t)
 (hk : ∀ off, off + E.k ≤ cs.length → ∃ i, i < E.k ∧ ∀ x : α, (E.enc x)[i]? ≠ cs[off + i]?) (ho : ∀ k, k ≠ g → w'.heap[k]? = w.heap[k]?) : RdE E B w' v l := by
 have h' := h
 obtain ⟨A, c, rfl, hc, hm, hn, hr⟩ := h
 refine ⟨A, c, rfl, hc, hm, hn, fun a ha => ⟨(hr a ha).1, fun j u hu => ?_⟩⟩
 subst ha
 have hl : 0 < l.length := by
  cases l with
  | nil => simp [rowsE] at hu
  | cons x r => simp
 have hne := h'.apart hl hx hk
 have e : w'.cell? (a.add j) = w.cell? (a.add j) := cell_heap _ (by rw [addr_block]; exact ho _ hne)
 rw [e]
 exact (hr a rfl).2 j u hu
theorem AnyTill.of_any {P : Program} {md : Region.Mode} {ops : Array Oper} {Q : Exit → Act → World → Prop} {m : Nat} : ∀ (n : Nat) (listed : Array Bool) (a : Act) (w : World), wpAny P md ops Q n listed a w → AnyTill P md ops Q (fun _ => True) m n listed a w
 | 0, _, _, _, h => h
 | n + 1, _, _, _, h => ⟨h.1, fun i hi => wpOp_mono (fun a' w' h' => ⟨.inr trivial, AnyTill.of_any n _ a' w' h'⟩) (h.2 i hi)⟩
section
variable {P : Program} {l : List Oper} {Q : Exit → Act → World → Prop} {F : (Nat → Value) → Act} {Φ : Nat → Value → World → Prop} {w0 : World}
end
def lstF (l : List Oper) (p : Nat) : Array Bool := ((List.range l.length).map fun j => (depsOf l p).contains j).toArray
theorem lstF_at (l : List Oper) (p j : Nat) (hj : j < l.length) (h : j ∉ depsOf l p) : (lstF l p).getD j true = false := by
 unfold lstF
 simp [hj, h]
def lateF (l : List Oper) (m : Nat) (pu : List Nat) : Bool :=
 decide (m ≤ l.length) && (pu.all fun p => decide (p < m) && Region.free .any l.toArray (lstF l p) p) && (List.range l.length).all fun j =>
  if j < m then ((l[j]?).map fun o => o.after.all fun e => !Region.binds .any e || decide (e.on < j)).getD false
  else (List.range m).all fun k => (clos l l.length (depsOf l j)).contains k || (pu.contains k && (depsOf l k).all fun q => (clos l l.length (depsOf l j)).contains q)
section
variable {P : Program} {l : List Oper} {Q : Exit → Act → World → Prop} {F : (Nat → Value) → Act} {Φ : Nat → Value → World → Prop} {w0 : World}
end
section
variable {P : Program} {l : List Oper} {Q : Exit → Act → World → Prop} {F : (Nat → Value) → Act} {Φ : Nat → (Nat → Value) → World → Prop} {S : Nat → (Nat → Value) → World → World → Prop} {sp : List Nat} {x0 : Nat → Value} {w0 : World}
def effX (sp : List Nat) (S : Nat → (Nat → Value) → World → World → Prop) (i : Nat) (x : Nat → Value) (w w' : World) : Prop := if sp.contains i = true then S i x w w' else Below w.heap.size w w'
structure StepX (P : Program) (l : List Oper) (Q : Exit → Act → World → Prop) (F : (Nat → Value) → Act) (Φ : Nat → (Nat → Value) → World → Prop) (S : Nat → (Nat → Value) → World → World → Prop) (sp : List Nat) (x0 : Nat → Value) (w0 : World) (j : Nat) (o : Oper) : Prop where
 keep : ∀ x i v w w', i ≠ j → i ∉ clos l l.length (depsOf l j) → Φ j x w → effX sp S i x w w' → Φ i (upd x i v) w' → Φ j (upd x i v) w'
 put : ∀ x v, (F x).put o.dst v = F (upd x j v)
 step : ∀ x w, Below w0.heap.size w0 w → x j = x0 j → (∀ k, waitsB .any l.toArray j k = true → Φ k x w) →
  wpOp P l.toArray (NoPanic Q) j (fun a' w' => ∃ v, a' = (F x).put o.dst v ∧ Below w0.heap.size w w' ∧ effX sp S j x w w' ∧ Φ j (upd x j v) w') (F x) w
def StepsX (P : Program) (l : List Oper) (Q : Exit → Act → World → Prop) (F : (Nat → Value) → Act) (Φ : Nat → (Nat → Value) → World → Prop) (S : Nat → (Nat → Value) → World → World → Prop) (sp : List Nat) (x0 : Nat → Value) (w0 : World) : Nat → List Oper → Nat → Prop
 | 0, _, _ => True
 | _ + 1, [], _ => True
 | n + 1, o :: r, j => StepX P l Q F Φ S sp x0 w0 j o ∧ StepsX P l Q F Φ S sp x0 w0 n r (j + 1)
theorem StepsX.done {r : List Oper} {j : Nat} : StepsX P l Q F Φ S sp x0 w0 0 r j := trivial
theorem StepsX.get : ∀ (n : Nat) (r : List Oper) (j : Nat), StepsX P l Q F Φ S sp x0 w0 n r j → ∀ i o, i < n → r[i]? = some o → StepX P l Q F Φ S sp x0 w0 (j + i) o
 | 0, _, _, _, i, _, hi, _ => by omega
 | n + 1, [], _, _, i, _, _, ho => by simp at ho
 | n + 1, o :: r, j, h, 0, o', _, ho => by simp at ho; subst ho; exact h.1
 | n + 1, o :: r, j, h, i + 1, o', hi, ho => by
   have := StepsX.get n r (j + 1) h.2 i o' (by omega) (by simpa using ho)
   rwa [show j + 1 + i = j + (i + 1) by omega] at this
theorem StepsX.cons (j : Nat) {n : Nat} {o : Oper} {r : List Oper} (hk : ∀ x i v w w', i ≠ j → i ∉ clos l l.length (depsOf l j) → Φ j x w → effX sp S i x w w' → Φ i (upd x i v) w' → Φ j (upd x i v) w') (hp : ∀ x v, (F x).put o.dst v = F (upd x j v)) (ho : l[j]? = some o) (hw : o.guard = none)
 (h : ∀ x w, Below w0.heap.size w0 w → x j = x0 j → (∀ k, waitsB .any l.toArray j k = true → Φ k x w) → ∀ K : Act → World → Prop, Shut (∀ v w', Below w0.heap.size w w' → effX sp S j x w w' → Φ j (upd x j v) w' → K ((F x).put o.dst v) w') → Oper.wp P o (F x) w K (NoPanic Q))
 (hr : StepsX P l Q F Φ S sp x0 w0 n r (j + 1)) : StepsX P l Q F Φ S sp x0 w0 (n + 1) (o :: r) j := by
 refine ⟨⟨hk, hp, fun x w hb hx hd => ?_⟩, hr⟩
 unfold wpOp
 rw [show l.toArray[j]? = some o by simpa using ho]
 have hwt : Region.wanted o (yielded l.toArray (F x).tmps) = true := by simp [Region.wanted, hw]
 simp only [hwt, if_true]
 exact .inl (h x w hb hx hd _ fun v w' h1 h2 h3 => ⟨v, rfl, h1, h2, h3⟩)
theorem StepsX.row (j : Nat) (φ : Value → World → Prop) {n : Nat} {o : Oper} {r : List Oper} (hφ : Φ j = fun x w => φ (x j) w) (hjp : sp.contains j = false) (hk1 : ∀ v w w', φ v w → Below w.heap.size w w' → φ v w') (hk2 : ∀ i v x w w', sp.contains i = true → φ v w → S i x w w' → φ v w')
 (hp : ∀ x v, (F x).put o.dst v = F (upd x j v)) (ho : l[j]? = some o) (hw : o.guard = none)
 (h : ∀ x w, Below w0.heap.size w0 w → (∀ k, waitsB .any l.toArray j k = true → Φ k x w) → ∀ K : Act → World → Prop, Shut (∀ v w', Below w.heap.size w w' → φ v w' → K ((F x).put o.dst v) w') → Oper.wp P o (F x) w K (NoPanic Q))
 (hr : StepsX P l Q F Φ S sp x0 w0 n r (j + 1)) : StepsX P l Q F Φ S sp x0 w0 (n + 1) (o :: r) j := by
 refine StepsX.cons j (fun x i v w w' hij _ h1 h2 _ => ?_) hp ho hw (fun x w hb _ hd K hK => h x w hb hd K fun v w' h1 h2 => hK.out v w' (h1.mono hb.size) ?_ ?_) hr
 ·rw [hφ] at h1 ⊢
  show φ (upd x i v j) w'
  rw [upd_ne _ _ _ _ (Ne.symm hij)]
  unfold effX at h2
  split at h2
  ·rename_i hsp
   exact hk2 _ _ _ _ _ hsp h1 h2
  ·exact hk1 _ _ _ h1 h2
 ·unfold effX
  rw [if_neg (by rw [hjp]; simp)]
  exact h1
 ·rw [hφ]
  show φ (upd x j v j) w'
  rw [upd_same]
  exact h2
theorem StepsX.val (j : Nat) (v : Value) {n : Nat} {o : Oper} {r : List Oper} (hφ : Φ j = fun x w => eqV v (x j) w) (hjp : sp.contains j = false) (hp : ∀ x v, (F x).put o.dst v = F (upd x j v)) (ho : l[j]? = some o) (hw : o.guard = none)
 (h : ∀ x w, Below w0.heap.size w0 w → (∀ k, waitsB .any l.toArray j k = true → Φ k x w) → (execOp (F x).eval o).run P w = .ok (.value v) w)
 (hr : StepsX P l Q F Φ S sp x0 w0 n r (j + 1)) : StepsX P l Q F Φ S sp x0 w0 (n + 1) (o :: r) j := by
 refine StepsX.row j (eqV v) hφ hjp (fun _ _ _ h _ => h) (fun _ _ _ _ _ _ h _ => h) hp ho hw (fun x w hb hd K hK => ?_) hr
 unfold Oper.wp
 rw [h x w hb hd]
 exact hK.out v w (Below.refl _ _) rfl
def PureX (P : Program) (l : List Oper) (F : (Nat → Value) → Act) (Φ : Nat → (Nat → Value) → World → Prop) (p : Nat) : Prop :=
 ∀ op, l[p]? = some op → ∀ x w, (∀ k, waitsB .any l.toArray p k = true → Φ k x w) → Region.wanted op (yielded l.toArray (F x).tmps) = true ∧ ∃ v, (∀ w', (execOp (F x).eval op).run P w' = .ok (.value v) w') ∧ Φ p (upd x p v) w
end
end Go.Proofs.YtgfobinklijkpaaGreatDoor
