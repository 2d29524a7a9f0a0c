/-
  Texts R2 JP.
-/
import Derived.Test.YtgfobinklijkpaaGreatDoorW01
import Derived.Lib.SmallJoins
import Derived.SizedLaws
import Derived.Test.YtgfobinklijkpaaGreatDoorW11
import Derived.Test.YtgfobinklijkpaaGreatDoorW30
namespace Go.Proofs.YtgfobinklijkpaaGreatDoor
set_option maxRecDepth 100000
set_option maxHeartbeats 16000000
open Go.RowKit Go.ChangeShapes Go.WideShapes
def fitI (z : Int) : Prop := -9223372036854775808 ≤ z ∧ z ≤ 9223372036854775807
theorem fit_wf {z : Int} (h : (Lit.int .i64 z).wf = true) : fitI z := by
 unfold fitI
 simpa [Lit.wf, IntKind.min, IntKind.max, IntKind.signed, IntKind.bits] using h
section
variable {H : Type} {enc : TypeId × Value → H} {P : Program} {W : World} {spare : TypeId → Bool} {held : Bool}
theorem open_rowsE {α : Type} {E : RowK α} {F : α → Prop} {ts te : TypeId} (ht : P.underlying ts = some (.slice te)) (ck : P.cellsOf te = E.k)
 (elem : ∀ fuel cs x, DataW.trod enc P W 0 spare held fuel te cs = some x → ∃ a, cs = E.enc a ∧ F a) {fuel : Nat} {cs : List Value} {x : DataW H × List MemPlace} (h : DataW.trod enc P W 0 spare held fuel ts cs = some x) :
 ∃ v l, cs = [v] ∧ RdE E W.heap.size W v l ∧ (∀ n ∈ l, F n) ∧ (l.length = 0 ∨ ∃ m ∈ x.1.weights P ts, l.length * P.bytesOf te ≤ m) := by
 rcases DataW.trod_slice ht h with ⟨rfl, _⟩ | ⟨a, len, cap, elems, rest, n, _, rfl, hx, _, hl, hm, hlen, hel, _, _⟩
 ·exact ⟨_, [], rfl, RdE.nil _ _, fun _ h => (by cases h), .inl rfl⟩
 ·rw [ck] at hel
  have each : ∀ i : Fin len, ∃ nd : α, W.cells? 0 (a.add (i.1 * E.k)) E.k = some (E.enc nd) ∧ F nd := by
   intro i
   have h1 := hel i.1 i.2
   rw [List.getElem?_eq_getElem (by omega)] at h1
   obtain ⟨cs', hcs, ht⟩ := Option.bind_eq_some_iff.1 h1
   obtain ⟨nd, rfl, hf⟩ := elem _ _ _ ht
   exact ⟨nd, hcs, hf⟩
  obtain ⟨f, hf⟩ := Classical.axiomOfChoice each
  obtain ⟨l, hL⟩ : ∃ l : List α, l = List.ofFn f := ⟨_, rfl⟩
  have hll : l.length = len := by rw [hL, List.length_ofFn]
  have hlc : ∀ i, i < len → W.cells? 0 (a.add (i * E.k)) E.k = some (E.enc (l.getD i E.d)) := by
   intro i hi
   have h1 := (hf ⟨i, hi⟩).1
   rw [h1, hL, List.getD_eq_getElem?_getD, List.getElem?_ofFn, dif_pos hi]
   rfl
  refine ⟨_, l, rfl, ⟨some a, cap, by rw [hll], by omega, hm, (fun h => (by cases h)), fun b hb => ?_⟩, fun m hm' => ?_, .inr ⟨(elems.length + rest.length) * P.bytesOf te, ?_, ?_⟩⟩
  ·cases hb
   refine ⟨fun h0 => ?_, fun j u hj => ?_⟩
   ·have := World.cells?_block (hlc 0 (by omega)) E.pos
    rwa [addr_block] at this
   ·have hj4 : j < l.length * E.k := by
     have := (List.getElem?_eq_some_iff.1 hj).1
     rwa [rowsE_length] at this
    have hpos := E.pos
    have hjd : j / E.k < len := by
     rw [hll] at hj4
     exact Nat.div_lt_of_lt_mul (by rw [Nat.mul_comm]; exact hj4)
    have hmod := Nat.mod_lt j hpos
    have hsum : j / E.k * E.k + j % E.k = j := by
     rw [Nat.mul_comm]
     exact Nat.div_add_mod j E.k
    have h1 := (World.cells?_some (hlc (j / E.k) hjd)).2.2 (j % E.k) hmod
    rw [Addr.add_add, hsum] at h1
    rw [h1, ← rowsE_get E l (j / E.k) (j % E.k) (by omega) hmod, hsum]
    exact hj
  ·rw [hL, List.mem_ofFn] at hm'
   obtain ⟨i, rfl⟩ := hm'
   exact (hf i).2
  ·rw [hx]
   simp [DataW.weights, ht]
  ·rw [hll, hlen, Nat.add_mul]
   omega
end
section
variable {H : Type} {enc : TypeId × Value → H} {P : Program} {W : World} {spare : TypeId → Bool} {held : Bool}
end
open Go.RowKit
theorem bkOpen_own (t : Int) (l : List Se) (id sp : Int) (v : Value) (w : World) (hr : RdE SeK w.heap.size w v l) (hR : RightB t l) (_hi : fitI id) : Calls Tryz.prog 182 #[.agg #[.int .i64 t, v], .int .i64 id, .int .i64 sp] w (BooksO 160 v t (openS t l id sp) (openE l id sp) w) := by
 obtain ⟨d30, hu30, hd30⟩ := rowBP
 have HU := lhd hu30
 have HD := lhd hd30
 have HR := lhd hr
 have HRT := lhd hR
 have hl0 := hR.few
 have HL : Hid (l.length ≤ 100000) := by
  show _ ≤ _
  omega
 clear hr hR hu30 hd30 hl0
 go_enter Tryz.func182, Tryz.ntmps182
 go_wp2_with (refine wpList_box_blk rfl 44 _ rfl [.int .i64 t, v] rfl ?_)
 intro w1 b1 b2 b3
 go_wp2_with (refine wpList_alloc_blk rfl 44 rfl [.int .i64 0, .slice none 0 0] zBP ?_)
 intro w2 a1 a2 a3
 obtain ⟨g0, hg0⟩ : ∃ g, w.heap.size = g := ⟨_, rfl⟩
 obtain ⟨g1, hg1⟩ : ∃ g, w.heap.size + 1 = g := ⟨_, rfl⟩
 obtain ⟨B0, hB0⟩ : ∃ g, w2.heap.size = g := ⟨_, rfl⟩
 have X0 := lhd (b1.below a3 (by omega))
 have X1 := lhd a1
 have HB := lhd (b3.trans (a3.mono (by omega)))
 have HR2 := lhd ((HR.out.below HB.out).more HB.out.size)
 have hg1B : g1 < B0 := by omega
 have hwg : w.heap.size ≤ g1 := by omega
 have hwB : w.heap.size ≤ B0 := by omega
 have hg0B : g0 < B0 := by omega
 have HB0 := lhd hB0
 rw [hg1] at X1 ⊢
 rw [hg0] at X0 ⊢
 have ca := X0.out.at_ 0 _ rfl
 have cb := X0.out.at_ 1 _ rfl
 clear b1 b2 b3 a1 a2 a3 hg0 hg1 HR hB0
 go_wp2_with fail
 refine (bkClone_any t l v w2 HR2.out HL.out).mono ?_
 rintro e w3 ⟨u, rfl, ho, hb⟩
 rw [HB0.out] at ho hb
 obtain ⟨n, hn⟩ : ∃ n, l.length = n := ⟨_, rfl⟩
 have HN := lhd hn
 obtain ⟨A, c, hu, hc, hm⟩ := ho.rd.shape
 rw [hn] at hu hc
 subst hu
 unfold maxLen at hm
 have HO := lhd ho
 have Y1 := lhd (X1.out.below hb hg1B)
 have HB3 := lhd (HB.out.trans (hb.mono hwB))
 have hs3 : B0 ≤ w3.heap.size := by
  have := hb.size
  rw [HB0.out] at this
  exact this
 clear ho hb hn ca cb X0 X1 HB HR2
 go_wp2_with (refine wpList_alloc_blk rfl 44 rfl [.int .i64 0, .slice none 0 0] zBP ?_)
 intro w4 a1 a2 a3
 obtain ⟨g2, hg2⟩ : ∃ g, w3.heap.size = g := ⟨_, rfl⟩
 have A1 := lhd a1
 have HO4 := lhd (HO.out.below a3 (Nat.le_refl _))
 have Y14 := lhd (Y1.out.below a3 (by omega))
 have HB4 := lhd (HB3.out.trans (a3.mono (by omega)))
 have hne := World.ownsRow.lt HO.out
 rw [hg2] at A1 hne hs3 ⊢
 have hs4 : w4.heap.size = g2 + 1 := by omega
 have HNE := lhd hne
 clear a1 a2 a3 HO Y1 HB3 hg2 hne
 go_wp2_with (refine wpList_store_to rfl 44 _ _ rfl g2 [.int .i64 t, .slice A n c] [.int .i64 0, .slice none 0 0] 44 rfl rfl A1.out sBP rfl (book_one _ _ _ _) ?_)
 intro w5 e1 e2 e3 e4
 have HO5 : Hid (OwnE SeK 160 w5 B0 (.slice A n c) l) := ownsRow_but HO4.out (fun e => by have := (HNE.out g2 e).2; omega) e4
 have X15 := lhd (Y14.out.same (e4 g1 (by omega)))
 have X25 := lhd e1
 have HB5 := lhd (HB4.out.trans (e3.mono (by omega)))
 have hs5 : w5.heap.size = g2 + 1 := by omega
 clear e1 e2 e3 e4 HO4 Y14 A1 HB4 hs4
 have ca := X25.out.at_ 1 _ rfl
 go_wp2_with fail
 refine (find_any l id _ w5 HO5.out.rd HL.out HRT.out.order).mono ?_
 rintro e w6 ⟨rfl, hb⟩
 have HO6 := lhd (HO5.out.below hb (Nat.le_refl _))
 have X16 := lhd (X15.out.below hb (by omega))
 have X26 := lhd (X25.out.below hb (by omega))
 have HB6 := lhd (HB5.out.trans (hb.mono (by omega)))
 have hs6 : g2 < w6.heap.size := by
  have := hb.size
  omega
 clear hb ca HO5 X15 X25 HB5 hs5
 have ca := X26.out.at_ 0 _ rfl
 have cb := X26.out.at_ 1 _ rfl
 by_cases ha1 : id < 1
 ·have HE := lhd (open_err t l id sp 1 (openE_arg l id sp (by omega)) (by decide))
  go_wp2_with (refine wpList_store_to rfl 44 _ _ rfl g1 [.int .i64 t, .slice A n c] [.int .i64 0, .slice none 0 0] 44 rfl rfl X16.out sBP rfl (book_one _ _ _ _) ?_)
  intro w9 e1 e2 e3 e4
  go_wp2
  refine bodyPost_ret (v := .tuple #[.agg #[.int .i64 t, .slice A n c], .int .i64 1]) ?_ rfl ?_
  ·exact ret_blk2U rfl _ _ g1 44 [.int .i64 t, .slice A n c] _ rfl rfl e1 d30 HU.out HD.out sBP
  ·rw [HE.out.1, HE.out.2]
   have hq := ownsRow_same HO6.out (fun k hk => e4 k (by omega))
   exact ⟨_, rfl, OwnE.rd hq, .inr (OwnE.base hq (by first | exact Nat.le_refl _ | assumption | omega)), HB6.out.trans (e3.mono hwg)⟩
 have hsp := isSpan_any sp w6
 obtain ⟨B, hB⟩ : ∃ B, (decide (1 ≤ sp) && decide (sp ≤ 1000)) = B := ⟨_, rfl⟩
 rw [hB] at hsp
 have HSP := lhd hsp
 have HBB := lhd hB
 clear hsp hB
 obtain ⟨H, hH⟩ : ∃ H, hasSe l id = H := ⟨_, rfl⟩
 have HH := lhd hH
 rw [hH]
 clear hH
 go_wp2_with fail
 refine HSP.out.mono ?_
 rintro e wS ⟨rfl, hb⟩
 have HO7 := lhd (HO6.out.below hb (Nat.le_refl _))
 have X17 := lhd (X16.out.below hb X16.out.lt)
 have X27 := lhd (X26.out.below hb X26.out.lt)
 have HB7 := lhd (HB6.out.trans (hb.mono HB6.out.size))
 clear hb ca cb HO6 X16 X26 HB6 hs6
 have ca := X27.out.at_ 0 _ rfl
 have cb := X27.out.at_ 1 _ rfl
 cases B
 ·have hbb := HBB.out
  have HE : Hid (openE l id sp = 1 ∧ openS t l id sp = l) := by
   refine open_err t l id sp 1 (openE_arg l id sp ?_) (by decide)
   by_cases q1 : 1 ≤ sp
   ·by_cases q2 : sp ≤ 1000
    ·rw [decide_eq_true q1, decide_eq_true q2] at hbb
     simp at hbb
    ·omega
   ·omega
  clear hbb
  go_wp2_with (refine wpList_store_to rfl 44 _ _ rfl g1 [.int .i64 t, .slice A n c] [.int .i64 0, .slice none 0 0] 44 rfl rfl X17.out sBP rfl (book_one _ _ _ _) ?_)
  intro w9 e1 e2 e3 e4
  go_wp2
  refine bodyPost_ret (v := .tuple #[.agg #[.int .i64 t, .slice A n c], .int .i64 1]) ?_ rfl ?_
  ·exact ret_blk2U rfl _ _ g1 44 [.int .i64 t, .slice A n c] _ rfl rfl e1 d30 HU.out HD.out sBP
  ·rw [HE.out.1, HE.out.2]
   have hq := ownsRow_same HO7.out (fun k hk => e4 k (by omega))
   exact ⟨_, rfl, OwnE.rd hq, .inr (OwnE.base hq (by first | exact Nat.le_refl _ | assumption | omega)), HB7.out.trans (e3.mono hwg)⟩
 have hbb := HBB.out
 rw [Bool.and_eq_true, decide_eq_true_eq, decide_eq_true_eq] at hbb
 obtain ⟨p1, p2⟩ := hbb
 have HNA : Hid (¬ (id < 1 ∨ sp < 1 ∨ 1000 < sp)) := by
  show ¬ _
  omega
 cases H
 rotate_left
 ·have HE := lhd (open_err t l id sp 7 (openE_has l id sp HNA.out HH.out) (by decide))
  go_wp2_with (refine wpList_store_to rfl 44 _ _ rfl g1 [.int .i64 t, .slice A n c] [.int .i64 0, .slice none 0 0] 44 rfl rfl X17.out sBP rfl (book_one _ _ _ _) ?_)
  intro w9 e1 e2 e3 e4
  go_wp2
  refine bodyPost_ret (v := .tuple #[.agg #[.int .i64 t, .slice A n c], .int .i64 7]) ?_ rfl ?_
  ·exact ret_blk2U rfl _ _ g1 44 [.int .i64 t, .slice A n c] _ rfl rfl e1 d30 HU.out HD.out sBP
  ·rw [HE.out.1, HE.out.2]
   have hq := ownsRow_same HO7.out (fun k hk => e4 k (by omega))
   exact ⟨_, rfl, OwnE.rd hq, .inr (OwnE.base hq (by first | exact Nat.le_refl _ | assumption | omega)), HB7.out.trans (e3.mono hwg)⟩
 by_cases hfull : (50 : Int) ≤ (n : Int)
 ·have HE := lhd (open_err t l id sp 9 (openE_full l id sp HNA.out HH.out (by rw [HN.out]; omega)) (by decide))
  go_wp2_with (refine wpList_store_to rfl 44 _ _ rfl g1 [.int .i64 t, .slice A n c] [.int .i64 0, .slice none 0 0] 44 rfl rfl X17.out sBP rfl (book_one _ _ _ _) ?_)
  intro w9 e1 e2 e3 e4
  go_wp2
  refine bodyPost_ret (v := .tuple #[.agg #[.int .i64 t, .slice A n c], .int .i64 9]) ?_ rfl ?_
  ·exact ret_blk2U rfl _ _ g1 44 [.int .i64 t, .slice A n c] _ rfl rfl e1 d30 HU.out HD.out sBP
  ·rw [HE.out.1, HE.out.2]
   have hq := ownsRow_same HO7.out (fun k hk => e4 k (by omega))
   exact ⟨_, rfl, OwnE.rd hq, .inr (OwnE.base hq (by first | exact Nat.le_refl _ | assumption | omega)), HB7.out.trans (e3.mono hwg)⟩
 have hoo := open_ok t l id sp (openE_ok l id sp HNA.out HH.out (by rw [HN.out]; omega))
 rw [insS_pos (id, sp, t + sp) l HH.out] at hoo
 have HE := lhd hoo.1
 have HP := lhd hoo.2
 change Hid (openS t l id sp = insE l (id, sp, t + sp) (posS l id)) at HP
 have hple := posS_le l id
 obtain ⟨i, hi⟩ : ∃ i, posS l id = i := ⟨_, rfl⟩
 rw [hi] at HP hple ⊢
 have HI := lhd hple
 have ht1 := HRT.out.lo
 have ht2 := HRT.out.hi
 have hwp : IntKind.i64.wrap (t + sp) = t + sp := by rw [IntKind.wrap_i64]; omega
 clear hi hoo hple
 obtain ⟨gv, hgv⟩ : ∃ g, wS.heap.size = g := ⟨_, rfl⟩
 have hgv2 : g2 < gv := by
  have := X27.out.lt
  omega
 have HV0 := lhd (heap_alloc_new wS (.cells (sec (id, sp, t + sp)).toArray 160))
 have HO60 := lhd (HO7.out.alloc (.cells (sec (id, sp, t + sp)).toArray 160))
 have X160 := lhd (X17.out.alloc (.cells (sec (id, sp, t + sp)).toArray 160))
 have X260 := lhd (X27.out.alloc (.cells (sec (id, sp, t + sp)).toArray 160))
 have HB60 := lhd (HB7.out.alloc HB7.out.size (.cells (sec (id, sp, t + sp)).toArray 160))
 have HGV := lhd hgv
 obtain ⟨wv, hwv⟩ : ∃ q, wS.alloc (.cells (sec (id, sp, t + sp)).toArray 160) = q := ⟨_, rfl⟩
 have HWV := lhd hwv
 have HV : Hid (Blk wv gv (sec (id, sp, t + sp)) 160) := by
  rw [← hwv, ← hgv]
  exact HV0.out
 have HO6 : Hid (OwnE SeK 160 wv B0 (.slice A n c) l) := by rw [← hwv]; exact HO60.out
 have X16 : Hid (Blk wv g1 [.int .i64 0, .slice none 0 0] 44) := by rw [← hwv]; exact X160.out
 have X26 : Hid (Blk wv g2 [.int .i64 t, .slice A n c] 44) := by rw [← hwv]; exact X260.out
 have HB6 : Hid (Below w.heap.size w wv) := by rw [← hwv]; exact HB60.out
 have hsv : gv < wv.heap.size := HV.out.lt
 have hs6 : g2 < wv.heap.size := by omega
 clear HV0 HO60 X160 X260 HB60 hwv
 clear HO7 X17 X27 HB7
 go_wp2_with fail
 rw [show wS.alloc (.cells #[.int .i64 id, .int .i64 sp, .int .i64 (t + sp)] 160) = wv from HWV.out]
 refine (insE_anySe l (id, sp, t + sp) i B0 gv (.slice A n c) wv (by omega) HO6.out HL.out HV.out (fun e => by have := (HNE.out gv e).2; omega) HI.out).mono ?_
 rintro e w7 ⟨u7, rfl, ho, hb, hoth⟩
 have X27 := lhd (X26.out.same (hoth g2 hs6 (fun e => by have := (HNE.out g2 e).2; omega)))
 have HNE7 := lhd (OwnE.not_blk ho X27.out (by decide))
 have X17 := lhd (X16.out.below hb (by omega))
 have HB7 := lhd (HB6.out.trans (hb.mono (by omega)))
 have hs7 : g2 < w7.heap.size := X27.out.lt
 have HO7 := lhd ho
 obtain ⟨A7, c7, hu7, -, -⟩ := ho.rd.shape
 obtain ⟨l7, hl7⟩ : ∃ q, (insE l (id, sp, t + sp) i) = q := ⟨_, rfl⟩
 rw [hl7] at hu7 HO7 HP
 obtain ⟨n7, hn7⟩ : ∃ n7, l7.length = n7 := ⟨_, rfl⟩
 rw [hn7] at hu7
 subst hu7
 clear ho hb hoth hl7 hn7 ca cb
 have cb := X27.out.at_ 1 _ rfl
 have cf := X27.out.frozen 1
 have X28 : Hid (Blk (w7.setCell ⟨g2, 1, none⟩ (.slice A7 n7 c7)) g2 [.int .i64 t, .slice A7 n7 c7] 44) := X27.out.set 1 (.slice A7 n7 c7)
 have HO8 : Hid (OwnE SeK 160 (w7.setCell ⟨g2, 1, none⟩ (.slice A7 n7 c7)) B0 (.slice A7 n7 c7) l7) := ownsRow_but HO7.out HNE7.out (fun k hk => heap_setCell_other w7 ⟨g2, 1, none⟩ k (.slice A7 n7 c7) hk)
 have X18 : Hid (Blk (w7.setCell ⟨g2, 1, none⟩ (.slice A7 n7 c7)) g1 [.int .i64 0, .slice none 0 0] 44) := X17.out.same (heap_setCell_other w7 ⟨g2, 1, none⟩ g1 (.slice A7 n7 c7) (by show g1 ≠ g2; omega))
 have HB8 : Hid (Below w.heap.size w (w7.setCell ⟨g2, 1, none⟩ (.slice A7 n7 c7))) := HB7.out.setCell (show w.heap.size ≤ g2 by omega) _
 obtain ⟨w8, hw8⟩ : ∃ q, w7.setCell ⟨g2, 1, none⟩ (.slice A7 n7 c7) = q := ⟨_, rfl⟩
 have HW8 := lhd hw8
 rw [hw8] at X28 HO8 X18 HB8
 clear hw8
 have da := X28.out.at_ 0 _ rfl
 have db := X28.out.at_ 1 _ rfl
 go_wp2_with (first | (rw [HW8.out]) | (refine wpList_store_to rfl 44 _ _ rfl g1 [.int .i64 t, .slice A7 n7 c7] [.int .i64 0, .slice none 0 0] 44 rfl rfl X18.out sBP rfl (book_one _ _ _ _) ?_))
 intro w9 e1 e2 e3 e4
 go_wp2
 refine bodyPost_ret (v := .tuple #[.agg #[.int .i64 t, .slice A7 n7 c7], .int .i64 0]) ?_ rfl ?_
 ·exact ret_blk2U rfl _ _ g1 44 [.int .i64 t, .slice A7 n7 c7] _ rfl rfl e1 d30 HU.out HD.out sBP
 ·rw [HE.out, HP.out]
  have hq := ownsRow_same HO8.out (fun k hk => e4 k (by omega))
  exact ⟨_, rfl, OwnE.rd hq, .inr (OwnE.base hq (by first | exact Nat.le_refl _ | assumption | omega)), HB8.out.trans (e3.mono hwg)⟩
theorem bkTick_own (t : Int) (l : List Se) (z : Int) (v : Value) (w : World) (hr : RdE SeK w.heap.size w v l) (hR : RightB t l) : Calls Tryz.prog 186 #[.agg #[.int .i64 t, v], .int .i64 z] w (TicksO 160 3 v (tickT t z) (tickS t l z) (goneS t l z) (tickE t z) w) := by
 obtain ⟨A, cp, rfl, hc, hm⟩ := hr.shape
 unfold maxLen at hm
 obtain ⟨n, hn⟩ : ∃ n, l.length = n := ⟨_, rfl⟩
 have HN := lhd hn
 have HR := lhd hr
 have hl := hR.few
 rw [hn] at hc HR hl ⊢
 have HL := lhd hl
 obtain ⟨d30, hu30, hd30⟩ := rowBP
 have HU := lhd hu30
 have HD := lhd hd30
 clear hr hn hl hu30 hd30 hR
 go_enter Tryz.func186, Tryz.ntmps186
 go_wp2_with (refine wpList_box_blk rfl 44 _ rfl [.int .i64 t, .slice A n cp] rfl ?_)
 intro w1 b1 b2 b3
 go_wp2_with (refine wpList_alloc_blk rfl 44 rfl [.int .i64 0, .slice none 0 0] zBP ?_)
 intro w2 a1 a2 a3
 obtain ⟨g0, hg0⟩ : ∃ g, w.heap.size = g := ⟨_, rfl⟩
 obtain ⟨g1, hg1⟩ : ∃ g, w.heap.size + 1 = g := ⟨_, rfl⟩
 have X0 := lhd (b1.below a3 (by omega))
 have X1 := lhd a1
 have HB := lhd (b3.trans (a3.mono (by omega)))
 have HR2 := lhd ((HR.out.below HB.out).more (show w.heap.size ≤ w2.heap.size by omega))
 have hg01 : g0 < g1 := by omega
 have hg2 : g1 < w2.heap.size := by omega
 have hw1 : w.heap.size ≤ g1 := by omega
 rw [hg1] at X1 ⊢
 rw [hg0] at X0 ⊢
 have ca := X0.out.at_ 0 _ rfl
 have cb := X0.out.at_ 1 _ rfl
 clear b1 b2 b3 a1 a2 a3 hg1 hg0
 by_cases ha1 : z < t
 ·have HE := lhd (tick_err t l z 15 (by unfold tickE; rw [if_pos ha1]) (by decide))
  go_wp2_with fail
  refine (bkClone_any t l _ w2 HR2.out (by have := HL.out; have := HN.out; omega)).mono ?_
  rintro e w3 ⟨u, rfl, ho, hb⟩
  obtain ⟨A3, c3, hu3, -, -⟩ := ho.rd.shape
  rw [HN.out] at hu3
  subst hu3
  have HO := lhd ho
  have X13 := lhd (X1.out.below hb hg2)
  have HB3 := lhd (HB.out.trans (hb.mono HB.out.size))
  clear ho hb
  go_wp2_with (refine wpList_store_to rfl 44 _ _ rfl g1 [.int .i64 t, .slice A3 n c3] [.int .i64 0, .slice none 0 0] 44 rfl rfl X13.out sBP rfl (book_one _ _ _ _) ?_)
  intro w20 e1 e2 e3 e4
  go_wp2
  refine bodyPost_ret (v := .tuple #[.agg #[.int .i64 t, .slice A3 n c3], .slice none 0 0, .int .i64 15]) ?_ rfl ?_
  ·exact ret_blk3K rfl _ _ g1 44 [.int .i64 t, .slice A3 n c3] _ _ rfl rfl rfl e1 d30 HU.out HD.out sBP
  ·rw [HE.out.1, HE.out.2.1, HE.out.2.2.1, HE.out.2.2.2]
   have hq := ownsRow_same HO.out (fun k hk => e4 k (by omega))
   exact ⟨_, _, rfl, OwnE.rd hq, RdE.nil _ _, .inr (OwnE.base hq (by first | exact Nat.le_refl _ | assumption | omega)), .inl rfl, HB3.out.trans (e3.mono hw1)⟩
 by_cases ha2 : 1000000000 < z
 ·have HE := lhd (tick_err t l z 5 (by unfold tickE; rw [if_neg ha1, if_pos ha2]) (by decide))
  go_wp2_with fail
  refine (bkClone_any t l _ w2 HR2.out (by have := HL.out; have := HN.out; omega)).mono ?_
  rintro e w3 ⟨u, rfl, ho, hb⟩
  obtain ⟨A3, c3, hu3, -, -⟩ := ho.rd.shape
  rw [HN.out] at hu3
  subst hu3
  have HO := lhd ho
  have X13 := lhd (X1.out.below hb hg2)
  have HB3 := lhd (HB.out.trans (hb.mono HB.out.size))
  clear ho hb
  go_wp2_with (refine wpList_store_to rfl 44 _ _ rfl g1 [.int .i64 t, .slice A3 n c3] [.int .i64 0, .slice none 0 0] 44 rfl rfl X13.out sBP rfl (book_one _ _ _ _) ?_)
  intro w20 e1 e2 e3 e4
  go_wp2
  refine bodyPost_ret (v := .tuple #[.agg #[.int .i64 t, .slice A3 n c3], .slice none 0 0, .int .i64 5]) ?_ rfl ?_
  ·exact ret_blk3K rfl _ _ g1 44 [.int .i64 t, .slice A3 n c3] _ _ rfl rfl rfl e1 d30 HU.out HD.out sBP
  ·rw [HE.out.1, HE.out.2.1, HE.out.2.2.1, HE.out.2.2.2]
   have hq := ownsRow_same HO.out (fun k hk => e4 k (by omega))
   exact ⟨_, _, rfl, OwnE.rd hq, RdE.nil _ _, .inr (OwnE.base hq (by first | exact Nat.le_refl _ | assumption | omega)), .inl rfl, HB3.out.trans (e3.mono hw1)⟩
 have HE := lhd (tick_ok t l z (by omega) (by omega))
 clear HR2
 go_wp2_with (refine wpList_alloc_blk rfl 44 rfl [.int .i64 0, .slice none 0 0] zBP ?_)
 intro w3 a1 a2 a3
 obtain ⟨g3, hg3⟩ : ∃ g, w2.heap.size = g := ⟨_, rfl⟩
 have Y0 := lhd (X0.out.below a3 (by omega))
 have Y1 := lhd (X1.out.below a3 (by omega))
 have HB3 := lhd (HB.out.trans (a3.mono (by omega)))
 have A1 := lhd a1
 have hg13 : g1 < g3 := by omega
 have hw3 : w.heap.size ≤ g3 := by omega
 have hs3 : w3.heap.size = g3 + 1 := by omega
 rw [hg3] at A1 ⊢
 clear a1 a2 a3 X0 X1 HB hg2 hg3 ca cb
 go_wp2_with (refine wpList_store_to rfl 44 _ _ rfl g3 [.int .i64 z, .slice none 0 0] [.int .i64 0, .slice none 0 0] 44 rfl rfl A1.out sBP rfl (book_one _ _ _ _) ?_)
 intro w4 e1 e2 e3 e4
 have X0 := lhd (Y0.out.same (e4 g0 (by omega)))
 have X1 := lhd (Y1.out.same (e4 g1 (by omega)))
 have HB := lhd (HB3.out.trans (e3.mono hw3))
 have hs4 : w4.heap.size = g3 + 1 := by omega
 obtain ⟨G, hG⟩ : ∃ G, g3 + 1 = G := ⟨_, rfl⟩
 have X3 := lhd e1
 have ca := X0.out.at_ 1 _ rfl
 have HS4 := lhd hs4
 have hg3G : g3 < G := by omega
 clear e1 e2 e3 e4 Y0 Y1 HB3 A1 hs3 hs4
 go_wp2
 go_loopw [8, 28] (fun u x wr => ∃ (i : Nat) (o : Value), i ≤ n ∧ x = .int .i64 (i : Int) ∧ Hid (Blk wr g3 [.int .i64 z, o] 44) ∧ Hid (OwnE SeK 160 wr G o (keepS (l.take i) z)) ∧ Hid (OwnE InK 3 wr G u (lateN (l.take i) z)) ∧ Hid (Below g3 w4 wr) ∧ G ≤ wr.heap.size) (fun _ x _ => n - (intOf x).toNat)
 case atStart => exact ⟨0, _, by omega, rfl, X3, OwnE.nil _ _ _, OwnE.nil _ _ _, Below.refl _ _, by have := HS4.out; omega⟩
 case round =>
  obtain ⟨i, o, hi, rfl, H3, HO, HS, HW, hGr⟩ := hrel
  clear ca
  by_cases hi2 : i < n
  ·have zi : (i : Int) < (n : Int) := by omega
   obtain ⟨a, hA, c0, c1, c2⟩ := (HR.out.below (HB.out.trans (HW.out.mono hw3))).at3 i (by rw [HN.out]; exact hi2)
   subst hA
   have HT := lhd (keep_snoc l z i (by rw [HN.out]; exact hi2))
   have HKL : Hid ((keepS (l.take i) z).length ≤ n) := by
    show _ ≤ _
    have h1 := keep_len (l.take i) z
    have h2 := List.length_take_le i l
    omega
   have HGL : Hid ((lateN (l.take i) z).length ≤ n) := by
    show _ ≤ _
    have h1 := late_len (l.take i) z
    have h2 := List.length_take_le i l
    omega
   obtain ⟨x, hx⟩ : ∃ x, l.getD i se0 = x := ⟨_, rfl⟩
   rw [hx] at c0 c1 c2 HT
   clear hx
   go_wp2_with (refine wpList_alloc_blk rfl 160 rfl (sec se0) zSeL ?_)
   intro wa a1 a2 a3
   obtain ⟨gA, hgA⟩ : ∃ g, wr.heap.size = g := ⟨_, rfl⟩
   have A1 := lhd a1
   have H3a := lhd (H3.out.below a3 H3.out.lt)
   have HOa := lhd (HO.out.below a3 (Nat.le_refl _))
   have HSa := lhd (HS.out.below a3 (Nat.le_refl _))
   have hlt := H3.out.lt
   have HWa := lhd (HW.out.trans (a3.mono (by omega)))
   have hne := World.ownsRow.lt HO.out
   have hnf := World.ownsRow.lt HS.out
   rw [hgA] at A1 hne hnf ⊢
   clear a1 a3 H3 HO HS HW c0 c1 c2
   go_wp2_with (refine wpList_store_to rfl 160 _ _ rfl gA (sec x) (sec se0) 160 rfl rfl A1.out sSeL rfl (sec_all _) ?_)
   intro wb e1 e2 e3 e4
   have H3b := lhd (H3a.out.same (e4 g3 (by omega)))
   have HOb : Hid (OwnE SeK 160 wb G o (keepS (l.take i) z)) := by
    refine ownsRow_but HOa.out (fun e => ?_) e4
    have := (hne gA e).2
    omega
   have HSb : Hid (OwnE InK 3 wb G u8 (lateN (l.take i) z)) := by
    refine ownsRow_but HSa.out (fun e => ?_) e4
    have := (hnf gA e).2
    omega
   have HWb := lhd (HWa.out.trans (e3.mono (by omega)))
   have d0 := e1.at_ 0 _ rfl
   have d1 := e1.at_ 1 _ rfl
   have d2 := e1.at_ 2 _ rfl
   have cb := H3b.out.at_ 1 _ rfl
   have hsb : G ≤ wb.heap.size := by omega
   have hgb : g3 ≤ wb.heap.size := by omega
   clear e1 e2 e3 e4 a2 A1 H3a HOa HSa HWa hne hnf
   by_cases he : sU x ≤ z
   ·have HT2 : Hid (keepS (l.take (i + 1)) z = keepS (l.take i) z ∧ lateN (l.take (i + 1)) z = lateN (l.take i) z ++ [sI x]) := by
     show _ ∧ _
     rw [HT.out.1, HT.out.2, if_pos he, if_pos he]; simp
    have HO4 : Hid (OwnE SeK 160 (wb.alloc (.cells #[.int .i64 (sI x)] 3)) G o (keepS (l.take i) z)) := HOb.out.alloc _
    have HS4 : Hid (OwnE InK 3 (wb.alloc (.cells #[.int .i64 (sI x)] 3)) G u8 (lateN (l.take i) z)) := HSb.out.alloc _
    have HW4 : Hid (Below g3 w4 (wb.alloc (.cells #[.int .i64 (sI x)] 3))) := HWb.out.alloc (by omega) _
    have H34 : Hid (Blk (wb.alloc (.cells #[.int .i64 (sI x)] 3)) g3 [.int .i64 z, o] 44) := H3b.out.alloc _
    go_wp2_with (at_builtin; refine wpList_appE (E := InK) rfl _ _ 136 rfl 3 8 Tryz.underlying136 kindIn G _ _ _ (lateN (l.take i) z) [sI x] rfl HS4.out rfl (RdE.one (E := InK) wb 3 (sI x)) (by simp) ?d1 ?d2 ?d3 ?_)
    case d1 => have := HGL.out; have := HL.out; first | (simp only [List.length_cons, List.length_nil]; omega) | omega
    case d2 => have := HGL.out; have := HL.out; first | (simp only [List.length_cons, List.length_nil]; omega) | omega
    case d3 => first | omega | (simp; omega)
    intro v5 w5 h5 hb5 hg5 _
    have HS5 : Hid (OwnE InK 3 w5 G v5 (lateN (l.take (i + 1)) z)) := by
     show OwnE _ _ _ _ _ _
     rw [HT2.out.2]
     exact h5
    have HO5 : Hid (OwnE SeK 160 w5 G o (keepS (l.take (i + 1)) z)) := by
     show OwnE _ _ _ _ _ _
     rw [HT2.out.1]
     exact ownsRow_other (by decide) HO4.out HS4.out hg5
    have H35 := lhd (H34.out.below hb5 hg3G)
    have HW5 : Hid (Below g3 w4 w5) := HW4.out.trans (hb5.mono (by omega))
    have hs5 : G ≤ w5.heap.size := by
     have := hb5.size
     simp at this
     omega
    clear h5 hb5 hg5 d0 d1 d2 cb
    go_wp2
    go_roundw
    case rel => exact ⟨i + 1, o, by omega, by go_num, H35, HO5, HS5, HW5, hs5⟩
    case measure => simp [intOf]; omega
   ·have HT2 : Hid (keepS (l.take (i + 1)) z = keepS (l.take i) z ++ [x] ∧ lateN (l.take (i + 1)) z = lateN (l.take i) z) := by
     show _ ∧ _
     rw [HT.out.1, HT.out.2, if_neg he, if_neg he]; simp
    have HO4 : Hid (OwnE SeK 160 (wb.alloc (.cells (sec x).toArray 160)) G o (keepS (l.take i) z)) := HOb.out.alloc _
    have HS4 : Hid (OwnE InK 3 (wb.alloc (.cells (sec x).toArray 160)) G u8 (lateN (l.take i) z)) := HSb.out.alloc _
    have HW4 : Hid (Below g3 w4 (wb.alloc (.cells (sec x).toArray 160))) := HWb.out.alloc (by omega) _
    have H34 : Hid (Blk (wb.alloc (.cells (sec x).toArray 160)) g3 [.int .i64 z, o] 44) := H3b.out.alloc _
    go_wp2_with (at_builtin; refine wpList_appE (E := SeK) rfl _ _ 42 rfl 160 24 Tryz.underlying42 kindPSe G _ _ _ (keepS (l.take i) z) [x] rfl HO4.out rfl (RdE.one wb 160 x) (by simp) ?d1 ?d2 ?d3 ?_)
    case d1 => have := HKL.out; have := HL.out; first | (simp only [List.length_cons, List.length_nil]; omega) | omega
    case d2 => have := HKL.out; have := HL.out; first | (simp only [List.length_cons, List.length_nil]; omega) | omega
    case d3 => first | omega | (simp; omega)
    intro v5 w5 h5 hb5 hg5 _
    have HO9 : Hid (OwnE SeK 160 w5 G v5 (keepS (l.take (i + 1)) z)) := by
     show OwnE _ _ _ _ _ _
     rw [HT2.out.1]
     exact h5
    have HS9 : Hid (OwnE InK 3 w5 G u8 (lateN (l.take (i + 1)) z)) := by
     show OwnE _ _ _ _ _ _
     rw [HT2.out.2]
     exact ownsRow_other (by decide) HS4.out HO4.out hg5
    have H39 := lhd (H34.out.below hb5 hg3G)
    have HW9 : Hid (Below g3 w4 w5) := HW4.out.trans (hb5.mono (by omega))
    have hs9 : G ≤ w5.heap.size := by
     have := hb5.size
     simp at this
     omega
    clear h5 hb5 hg5 d0 d1 d2 cb
    obtain ⟨Ao, co, ho, -, -⟩ := HO9.out.rd.shape
    obtain ⟨LL, hLL⟩ : ∃ LL, (keepS (l.take (i + 1)) z).length = LL := ⟨_, rfl⟩
    rw [hLL] at ho
    subst ho
    clear hLL
    have cb := H39.out.at_ 1 _ rfl
    have cf := H39.out.frozen 1
    have H3d : Hid (Blk (w5.setCell ⟨g3, 1, none⟩ (.slice Ao LL co)) g3 [.int .i64 z, (.slice Ao LL co)] 44) := H39.out.set 1 (.slice Ao LL co)
    have HOd : Hid (OwnE SeK 160 (w5.setCell ⟨g3, 1, none⟩ (.slice Ao LL co)) G (.slice Ao LL co) (keepS (l.take (i + 1)) z)) := ownsRow_same HO9.out (fun k hk => heap_setCell_other w5 ⟨g3, 1, none⟩ k (.slice Ao LL co) (by show k ≠ g3; omega))
    have HSd : Hid (OwnE InK 3 (w5.setCell ⟨g3, 1, none⟩ (.slice Ao LL co)) G u8 (lateN (l.take (i + 1)) z)) := ownsRow_same HS9.out (fun k hk => heap_setCell_other w5 ⟨g3, 1, none⟩ k (.slice Ao LL co) (by show k ≠ g3; omega))
    have HWd : Hid (Below g3 w4 (w5.setCell ⟨g3, 1, none⟩ (.slice Ao LL co))) := HW9.out.setCell (Nat.le_refl _) _
    have hsd : G ≤ (w5.setCell ⟨g3, 1, none⟩ (.slice Ao LL co)).heap.size := by simp; omega
    go_wp2
    go_roundw
    case rel => exact ⟨i + 1, _, by omega, by go_num, H3d, HOd, HSd, HWd, hsd⟩
    case measure => simp [intOf]; omega
  ·have hE : i = n := by omega
   subst hE
   have HFL : Hid (l.take i = l) := List.take_of_length_le (by rw [HN.out]; exact Nat.le_refl _)
   rw [HFL.out] at HO HS
   have X1r := lhd (X1.out.below HW.out hg13)
   obtain ⟨Ao, co, ho, -, -⟩ := HO.out.rd.shape
   obtain ⟨LL, hLL⟩ : ∃ LL, (keepS l z).length = LL := ⟨_, rfl⟩
   rw [hLL] at ho
   subst ho
   clear hLL
   have cb0 := H3.out.at_ 0 _ rfl
   have cb := H3.out.at_ 1 _ rfl
   go_wp2_with (refine wpList_store_to rfl 44 _ _ rfl g1 [.int .i64 z, .slice Ao LL co] [.int .i64 0, .slice none 0 0] 44 rfl rfl X1r.out sBP rfl (book_one _ _ _ _) ?_)
   intro w20 e1 e2 e3 e4
   go_wp2
   refine bodyPost_ret (v := .tuple #[.agg #[.int .i64 z, .slice Ao LL co], u8, .int .i64 0]) ?_ rfl ?_
   ·exact ret_blk3K rfl _ _ g1 44 [.int .i64 z, .slice Ao LL co] _ _ rfl rfl rfl e1 d30 HU.out HD.out sBP
   ·rw [HE.out.1, HE.out.2.1, HE.out.2.2.1, HE.out.2.2.2]
    have hq := ownsRow_same HO.out (fun k hk => e4 k (by omega))
    have hq2 := ownsRow_same HS.out (fun k hk => e4 k (by omega))
    exact ⟨_, _, rfl, OwnE.rd hq, OwnE.rd hq2, .inr (OwnE.base hq (by first | exact Nat.le_refl _ | assumption | omega)), .inr (OwnE.base hq2 (by first | exact Nat.le_refl _ | assumption | omega)), HB.out.trans ((HW.out.mono hw3).trans (e3.mono hw1))⟩
end Go.Proofs.YtgfobinklijkpaaGreatDoor
