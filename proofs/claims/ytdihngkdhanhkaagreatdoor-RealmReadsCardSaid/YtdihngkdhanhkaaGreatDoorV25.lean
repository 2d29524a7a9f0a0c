/-
  Texts GF.
-/
import Derived.Test.YtdihngkdhanhkaaGreatDoorV01
import Derived.Test.YtdihngkdhanhkaaGreatDoorV03
import Derived.Test.YtdihngkdhanhkaaGreatDoorV24
namespace Go.Proofs.YtdihngkdhanhkaaGreatDoor
set_option maxRecDepth 100000
set_option maxHeartbeats 16000000
open Go.RowKit
theorem insNd_any (l : List Nd) (x : Nd) (m base gv : Nat) (u : Value) (W : World) (hB : base ≤ W.heap.size) (ho : OwnNd 91 W base u l) (hl : l.length ≤ 100000) (hv : Blk W gv (ndc x) 91) (hne : u.ownBlock ≠ some gv) (hm : m ≤ l.length) :
 Calls Tryz.prog 183 #[u, .int .i64 (m : Int), .slice (some ⟨gv, 0, none⟩) 1 1] W (EditsTo base (insAt l x m) W) := by
 by_cases he : m = l.length
 ·subst he
  exact insEnd_any l x base gv u W hB ho hl hv
 ·obtain ⟨g, cap, rfl, hcap, hbg, hgW⟩ := ho.inBlock (by omega)
  have hcm : cap ≤ maxLen := by
   obtain ⟨_, _, _, _, h5, _⟩ := ho.block
   exact h5
  by_cases hr : l.length + 1 ≤ cap
  ·exact insRoom_any l x m base gv g cap W ho hl hv (fun e => hne (by rw [e]; rfl)) (by omega) hr (by unfold maxLen at hcm; omega)
  ·exact insGrow_any l x m base gv g cap W hB ho hl hv (by omega) (by omega)
def NewNd (x : Nd) (B : Nat) (u : Value) (w : World) : Prop := ∃ g, u = .slice (some ⟨g, 0, none⟩) 1 1 ∧ Blk w g (ndc x) 91 ∧ B ≤ g
theorem NewNd.keep {x : Nd} {B : Nat} {u : Value} {w w' : World} (h : NewNd x B u w) (hb : Below w.heap.size w w') : NewNd x B u w' := by
 obtain ⟨g, h1, h2, h3⟩ := h
 exact ⟨g, h1, h2.below hb h2.lt, h3⟩
theorem plIs (l : List Nd) (p : List UInt8) (v : Value) (w : World) (hr : RdNd w.heap.size w v l) (hl : l.length ≤ 100000) (ho : inOrder l) (k : Nat) (hk : posN l p = k) : Calls Tryz.prog 184 #[v, txt p] w (One (.int .i64 (k : Int)) w) := by
 rw [← hk]
 exact shPlace_any l p v w hr hl ho
theorem crEd_any (l : List Nd) (p vl : List UInt8) (z : Int) (base : Nat) (u : Value) (gp gv go : Nat) (W : World) (hB : base ≤ W.heap.size) (ho : OwnNd 91 W base u l) (hl : l.length ≤ 100000) (hord : inOrder l) (b1 : gp < base) (b2 : gv < base) (b3 : go < base)
 (c1 : W.cell? ⟨gp, 0, none⟩ = some (txt p)) (c2 : W.cell? ⟨gv, 0, none⟩ = some (txt vl)) (c3 : W.cell? ⟨go, 0, none⟩ = some (.int .i64 z)) :
 Calls Tryz.prog 182 #[u, .pointer (some ⟨gp, 0, none⟩), .pointer (some ⟨gv, 0, none⟩), .pointer (some ⟨go, 0, none⟩)] W (EditsTo base (insAt l (p, vl, 0, z) (posN l p)) W) := by
 obtain ⟨A, cp, rfl, hc, hm⟩ := ho.rd.shape
 have HO := lhd ho
 have HR := lhd ho.rd
 have HL := lhd hl
 have HORD := lhd hord
 have C1 := lhd c1
 have C2 := lhd c2
 have C3 := lhd c3
 have l1 : gp < W.heap.size := by omega
 have l2 : gv < W.heap.size := by omega
 have l3 : go < W.heap.size := by omega
 have HOB := lhd (World.ownsRow.lt ho)
 obtain ⟨n, hn⟩ : ∃ n, l.length = n := ⟨_, rfl⟩
 have HN := lhd hn
 obtain ⟨k, hk⟩ : ∃ k, posN l p = k := ⟨_, rfl⟩
 have HK := lhd hk
 rw [hn] at HO HR HOB ⊢
 rw [hk]
 clear ho hl hord c1 c2 c3 hc hm hn hk
 obtain ⟨x9, hx9⟩ : ∃ q : Nd, (p, vl, 0, z) = q := ⟨_, rfl⟩
 have HX9 := lhd hx9
 rw [hx9]
 clear hx9
 go_enter Tryz.func182, Tryz.ntmps182
 go_wp2
 refine wp_region_rely3 9 2 (fun x => ⟨#[.slice A n cp, .pointer (some { block := gp, off := 0 }), .pointer (some { block := gv, off := 0 }), .pointer (some { block := go, off := 0 }), undef, .slice none 0 0, x 0, x 1, x 2, x 3, x 4, x 5, x 6, x 7, x 8, undef], []⟩) (fun jj => ([eqV (.slice A n cp), eqV (.slice A n cp), eqV (txt p), (eqV (.int .i64 (k : Int))), eqV (txt p), eqV (txt vl), eqV (.int .i64 z), eqV (.agg (ndc x9).toArray), (NewNd x9 W.heap.size)] : List (Value → World → Prop)).getD jj (fun _ _ => True)) rfl ⟨fun kk => [_, _, _, _, _, _, _, _, _].getD kk undef, rfl⟩ (by kernel_rfl) (by kernel_rfl) ?steps ?fin
 case steps =>
  refine StepsAt.val 0 (.slice A n cp) rfl (fun _ _ => rfl) rfl rfl (fun x wx hb hd => ?_) ?_
  ·(go_simp; try rfl)
  refine StepsAt.val 1 (.slice A n cp) rfl (fun _ _ => rfl) rfl rfl (fun x wx hb hd => ?_) ?_
  ·(go_simp; try rfl)
  refine StepsAt.val 2 (txt p) rfl (fun _ _ => rfl) rfl rfl (fun x wx hb hd => ?_) ?_
  ·have cc := (hb.cell l1).trans C1.out
   (go_simp; try rfl)
  refine StepsAt.cons 3 (fun _ _ _ h hb => h) (fun _ _ => rfl) rfl rfl (fun x wx hb hd K hK => ?_) ?_
  ·have h1 : Hid (x 1 = .slice A n cp) := hd 1 (by kernel_rfl)
   have h2 : Hid (x 2 = txt p) := hd 2 (by kernel_rfl)
   go_simp
   refine calls_args (args2 := #[.slice A n cp, txt p]) (by rw [h1.out, h2.out]) ?_
   refine (plIs l p _ _ ((HR.out.below hb).more hb.size) HL.out HORD.out k HK.out).mono ?_
   rintro e w99 ⟨rfl, hb99⟩
   exact hK.out _ _ hb99 rfl
  refine StepsAt.val 4 (txt p) rfl (fun _ _ => rfl) rfl rfl (fun x wx hb hd => ?_) ?_
  ·have cc := (hb.cell l1).trans C1.out
   (go_simp; try rfl)
  refine StepsAt.val 5 (txt vl) rfl (fun _ _ => rfl) rfl rfl (fun x wx hb hd => ?_) ?_
  ·have cc := (hb.cell l2).trans C2.out
   (go_simp; try rfl)
  refine StepsAt.val 6 (.int .i64 z) rfl (fun _ _ => rfl) rfl rfl (fun x wx hb hd => ?_) ?_
  ·have cc := (hb.cell l3).trans C3.out
   (go_simp; try rfl)
  refine StepsAt.val 7 (.agg (ndc x9).toArray) rfl (fun _ _ => rfl) rfl rfl (fun x wx hb hd => ?_) ?_
  ·have h4 : x 4 = txt p := hd 4 (by kernel_rfl)
   have h5 : x 5 = txt vl := hd 5 (by kernel_rfl)
   have h6 : x 6 = .int .i64 z := hd 6 (by kernel_rfl)
   rw [h4, h5, h6, ← HX9.out]
   (go_simp; try rfl)
  refine StepsAt.cons 8 (fun _ _ _ h hb => h.keep hb) (fun _ _ => rfl) rfl rfl (fun x wx hb hd K hK => ?_) ?_
  ·have h7 : Hid (x 7 = .agg (ndc x9).toArray) := hd 7 (by kernel_rfl)
   have e7 : x 7 = .agg #[txt (nP x9), txt (nV x9), .int .i64 (nR x9), .int .i64 (nO x9)] := h7.out
   go_simp
   rw [← e7]
   exact hK.out (.slice (some ⟨wx.heap.size, 0, none⟩) 1 1) (wx.alloc (.cells (ndc x9).toArray 91)) ((Below.refl _ _).alloc (Nat.le_refl _) _) ⟨_, rfl, heap_alloc_new wx _, hb.size⟩
  exact StepsAt.done
 case fin =>
  intro x wx hb hd
  have hx0 : x 0 = .slice A n cp := hd 0 (by omega)
  have hx3 : x 3 = .int .i64 (k : Int) := hd 3 (by omega)
  have hx8 : NewNd x9 W.heap.size (x 8) wx := hd 8 (by omega)
  obtain ⟨g9, hx8, hx8b, hx8c⟩ := hx8
  have HOx := lhd (HO.out.below hb (Nat.le_refl _))
  have HBx := lhd (hb.mono hB)
  have HG9 := lhd hx8b
  have hBx : base ≤ wx.heap.size := Nat.le_trans hB hb.size
  have hne : (Value.slice A n cp).ownBlock ≠ some g9 := fun e => by
   have := (HOB.out g9 e).2
   omega
  have HI := lhd (insNd_any l x9 k base g9 _ wx hBx HOx.out HL.out HG9.out hne (by rw [← HK.out]; exact posN_le l p))
  rw [hx0, hx3, hx8]
  clear hd hb hx0 hx3 hx8 hx8b hx8c
  refine AnyTill.any (S := fun _ => True) (m := 11) _ _ _ _ ?_
  refine AnyTill.one (i := 9) (by kernel_rfl) rfl (by rfl) (fun K hK => ?_)
  go_simp
  refine HI.out.mono ?_
  rintro e w9 ⟨u9, rfl, ho9, hb9⟩
  refine hK.out _ _ (.inr trivial) ?_
  clear hK K
  refine AnyTill.one (i := 10) (by kernel_rfl) rfl (by rfl) (fun K hK => ?_)
  go_simp
  refine hK.out _ _ (.inr trivial) ?_
  clear hK K
  refine AnyTill.done (by kernel_rfl) ?_
  refine NoPanic.normal ?_
  try dsimp only
  have HO9 := lhd ho9
  have HB9 := lhd (HBx.out.trans hb9)
  clear ho9 hb9
  go_wp2
  go_ret
  exact ⟨_, rfl, HO9.out, HB9.out⟩
theorem shCreate_own (l : List Nd) (p vl : List UInt8) (z : Int) (v : Value) (w : World) (hr : RdNd w.heap.size w v l) (hl : l.length ≤ 100000) (hR : rightN l = true) : Calls Tryz.prog 157 #[.agg #[v], txt p, txt vl, .int .i64 z] w (ShelvesE 91 v (createS l p vl z) (createE l p vl z) w) := by
 have hmf : ∀ (fn : Fn) (first cap : Array Value) (w : World), (Instr.makeFunc fn first cap).run Tryz.prog w = .ok (.func fn first cap) w := fun _ _ _ _ => rfl
 obtain ⟨d30, hu30, hd30⟩ := rowPS
 have HU := lhd hu30
 have HD := lhd hd30
 have HR := lhd hr
 have HL := lhd hl
 have HRT := lhd hR
 clear hR
 clear hr hl hu30 hd30
 go_enter Tryz.func157, Tryz.ntmps157
 go_wp2_with (refine wpList_box_blk rfl 24 _ rfl [v] rfl ?_)
 intro w1 b0 s0 l0
 go_wp2_with (refine wpList_box_one rfl 9 _ rfl (txt p) rfl rfl ?_)
 intro w2 b1 s1 l1
 go_wp2_with (refine wpList_box_one rfl 9 _ rfl (txt vl) rfl rfl ?_)
 intro w3 b2 s2 l2
 go_wp2_with (refine wpList_box_one rfl 3 _ rfl (.int .i64 z) rfl rfl ?_)
 intro w4 b3 s3 l3
 go_wp2_with (refine wpList_alloc_blk rfl 24 rfl [.slice none 0 0] zPS ?_)
 intro W b4 s4 l4
 obtain ⟨g0, hg0⟩ : ∃ g, w.heap.size = g := ⟨_, rfl⟩
 obtain ⟨g1, hg1⟩ : ∃ g, w.heap.size + 1 = g := ⟨_, rfl⟩
 obtain ⟨g2, hg2⟩ : ∃ g, w.heap.size + 1 + 1 = g := ⟨_, rfl⟩
 obtain ⟨g3, hg3⟩ : ∃ g, w.heap.size + 1 + 1 + 1 = g := ⟨_, rfl⟩
 obtain ⟨g4, hg4⟩ : ∃ g, w.heap.size + 1 + 1 + 1 + 1 = g := ⟨_, rfl⟩
 have z1 : w1.heap.size = w.heap.size + 1 := by omega
 have z2 : w2.heap.size = w.heap.size + 2 := by omega
 have z3 : w3.heap.size = w.heap.size + 3 := by omega
 have z4 : w4.heap.size = w.heap.size + 4 := by omega
 have zW : W.heap.size = w.heap.size + 5 := by omega
 have x0 := ((((b0.below l1 (by omega)).below l2 (by omega)).below l3 (by omega)).below l4 (by omega))
 have x1 := (((b1.below l2 (by omega)).below l3 (by omega)).below l4 (by omega))
 have x2 := ((b2.below l3 (by omega)).below l4 (by omega))
 have x3 := (b3.below l4 (by omega))
 have x4 := b4
 have hB : Below w.heap.size w W := ((((l0.trans (l1.mono (by omega))).trans (l2.mono (by omega))).trans (l3.mono (by omega))).trans (l4.mono (by omega)))
 rw [hg4] at x4 ⊢
 rw [hg3] at x3 ⊢
 rw [hg2] at x2 ⊢
 rw [hg1] at x1 ⊢
 rw [hg0] at x0 ⊢
 have X0 := lhd x0
 have X1 := lhd x1
 have X2 := lhd x2
 have X3 := lhd x3
 have X4 := lhd x4
 have HB := lhd hB
 have hgW : g4 < W.heap.size := by omega
 have hW0 : g0 < W.heap.size := by omega
 have hW1 : g1 < W.heap.size := by omega
 have hW2 : g2 < W.heap.size := by omega
 have hW3 : g3 < W.heap.size := by omega
 have hwg : w.heap.size ≤ g4 := by omega
 clear b0 s0 l0 x0 b1 s1 l1 x1 b2 s2 l2 x2 b3 s3 l3 x3 b4 s4 l4 x4 hB zW z1 z2 z3 z4 hg0 hg1 hg2 hg3 hg4
 have C0 := lhd (X0.out.cell 0)
 have C1 := lhd (X1.out.cell 0)
 have C2 := lhd (X2.out.cell 0)
 have C3 := lhd (X3.out.cell 0)
 have HRW : Hid (RdNd W.heap.size W v l) := (HR.out.below HB.out).more HB.out.size
 have ca := C0.out
 go_wp2_with fail
 refine (shChange_any l (insAt l (p, vl, 0, z) (posN l p)) (createS l p vl z) v 179 182 #[.pointer (some ⟨g0, 0, none⟩), .pointer (some ⟨g1, 0, none⟩), .pointer (some ⟨g2, 0, none⟩), .pointer (some ⟨g3, 0, none⟩)] #[.pointer (some ⟨g1, 0, none⟩), .pointer (some ⟨g2, 0, none⟩), .pointer (some ⟨g3, 0, none⟩)] (createE l p vl z) W HRW.out HL.out (fun args w => enters_of Tryz.func179 (by kernel_rfl) rfl args w) (fun args w => enters_of Tryz.func182 (by kernel_rfl) rfl args w) ?h1 ?h2 ?q1 ?q2).mono ?_
 case h1 =>
  intro W1 hW
  have h := crFn_any l p vl z v g0 g1 g2 g3 W1 ((HRW.out.below hW).more hW.size) (Nat.lt_of_lt_of_le hW0 hW.size) (Nat.lt_of_lt_of_le hW1 hW.size) (Nat.lt_of_lt_of_le hW2 hW.size) (Nat.lt_of_lt_of_le hW3 hW.size)
   ((hW.cell hW0).trans C0.out) ((hW.cell hW1).trans C1.out) ((hW.cell hW2).trans C2.out) ((hW.cell hW3).trans C3.out)
  rw [crF_eq l p vl z HRT.out] at h
  exact h
 case h2 =>
  intro hF base u W1 hb1 hb2 hW ho
  exact crEd_any l p vl z base u g1 g2 g3 W1 hb2 ho HL.out ((rightN_iff l).1 HRT.out).order (Nat.lt_of_lt_of_le hW1 hb1) (Nat.lt_of_lt_of_le hW2 hb1) (Nat.lt_of_lt_of_le hW3 hb1) ((hW.cell hW1).trans C1.out) ((hW.cell hW2).trans C2.out) ((hW.cell hW3).trans C3.out)
 case q1 => exact fun h => by rw [(create_ok l p vl z h).2, insN_pos]; rfl
 case q2 => exact fun h => (create_err l p vl z _ rfl h).2
 rintro e w6 ⟨u, rfl, ho, hb⟩
 have HO := lhd ho
 have HB6 := lhd (HB.out.trans (hb.mono HB.out.size))
 have X6 := lhd (X4.out.below hb hgW)
 obtain ⟨A, c, rfl, -, -⟩ := ho.rd.shape
 obtain ⟨F, hF⟩ : ∃ F, (createE l p vl z) = F := ⟨_, rfl⟩
 have HF := lhd hF
 obtain ⟨l9, hl9⟩ : ∃ q, (createS l p vl z) = q := ⟨_, rfl⟩
 have HL9 := lhd hl9
 obtain ⟨n9, hn9⟩ : ∃ q, l9.length = q := ⟨_, rfl⟩
 rw [hl9, hn9] at HO
 rw [hl9, hn9, hF]
 clear ho hb ca hF hl9 hn9
 go_wp2_with (refine wpList_store_to rfl 24 _ _ rfl g4 [.slice A n9 c] [.slice none 0 0] 24 rfl rfl X6.out sPS rfl (slice_one _ _ _) ?_)
 intro w9 e1 e2 e3 e4
 go_wp2
 refine bodyPost_ret (v := .tuple #[.agg [Value.slice A n9 c].toArray, .int .i64 (F : Int)]) ?_ rfl ?_
 ·exact ret_blk2U rfl _ _ g4 24 [.slice A n9 c] _ rfl rfl e1 d30 HU.out HD.out sPS
 ·rw [HF.out, HL9.out]
  have hq := ownsRow_same HO.out (fun k hk => e4 k (by omega))
  exact ⟨_, rfl, OwnNd.rd hq, .inr (OwnNd.base hq (by first | exact Nat.le_refl _ | assumption | omega)), HB6.out.trans (e3.mono hwg)⟩
end Go.Proofs.YtdihngkdhanhkaaGreatDoor
