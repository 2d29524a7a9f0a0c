/-
  Texts NP BC BD.
-/
import Derived.Test.YtgfobinklijkpaaGreatDoorW01
import Derived.Lib.ConvBytes
import Derived.Test.YtgfobinklijkpaaGreatDoorW06
import Derived.Test.YtgfobinklijkpaaGreatDoorW14
import Derived.Test.YtgfobinklijkpaaGreatDoorW20
import Derived.Test.YtgfobinklijkpaaGreatDoorW21
import Derived.Test.YtgfobinklijkpaaGreatDoorW43
namespace Go.Proofs.YtgfobinklijkpaaGreatDoor
set_option maxRecDepth 100000
set_option maxHeartbeats 16000000
open Go.RowKit
theorem wp_run {P : Program} {o : Oper} {a : Act} {w w' : World} {K : Act → World → Prop} {Q : Exit → Act → World → Prop} (v : Value) (h : (execOp a.eval o).run P w = .ok (.value v) w') (hK : K (a.put o.dst v) w') : Oper.wp P o a w K Q := by
 unfold Oper.wp
 rw [h]
 exact hK
def Four (l0 l1 l2 l3 : List UInt8) (v : Value) (w : World) : Prop := ∃ vs : List SlT, vs.length = 4 ∧ RdE SlK w.heap.size w v vs ∧ ∀ j, j < 4 → Rd w.heap.size w (slv (vs.getD j sl0)) ([l0, l1, l2, l3].getD j [])
theorem Four.keep {l0 l1 l2 l3 : List UInt8} {v : Value} {w w' : World} (h : Four l0 l1 l2 l3 v w) (hb : Below w.heap.size w w') : Four l0 l1 l2 l3 v w' := by
 obtain ⟨vs, h1, h2, h3⟩ := h
 exact ⟨vs, h1, (h2.below hb).more hb.size, fun j hj => ((h3 j hj).below hb).more hb.size⟩
theorem Four.new {l0 l1 l2 l3 : List UInt8} (s0 s1 s2 s3 : SlT) (e : TypeId) (w : World) (h0 : Rd w.heap.size w (slv s0) l0) (h1 : Rd w.heap.size w (slv s1) l1) (h2 : Rd w.heap.size w (slv s2) l2) (h3 : Rd w.heap.size w (slv s3) l3) :
 Four l0 l1 l2 l3 (.slice (some ⟨w.heap.size, 0, none⟩) 4 4) (w.alloc (.cells (rowsE SlK [s0, s1, s2, s3]).toArray e)) := by
 have hb : Below w.heap.size w (w.alloc (.cells (rowsE SlK [s0, s1, s2, s3]).toArray e)) := (Below.refl _ _).alloc (Nat.le_refl _) _
 refine ⟨[s0, s1, s2, s3], rfl, ?_, ?_⟩
 ·have h := RdE.ofBlks (E := SlK) (l := [s0, s1, s2, s3]) (heap_alloc_new w (.cells (rowsE SlK [s0, s1, s2, s3]).toArray e)) (by show (4 : Nat) ≤ _; decide)
  exact h.more (by simp)
 ·intro j hj
  match j, hj with
  | 0, _ => exact (h0.below hb).more hb.size
  | 1, _ => exact (h1.below hb).more hb.size
  | 2, _ => exact (h2.below hb).more hb.size
  | 3, _ => exact (h3.below hb).more hb.size
theorem rows_new (ns : List Int) (e : TypeId) (w : World) (n : Nat) (hn : ns.length = n) (hm : n ≤ 100) : RdE InK (w.alloc (.cells (rowsE InK ns).toArray e)).heap.size (w.alloc (.cells (rowsE InK ns).toArray e)) (.slice (some ⟨w.heap.size, 0, none⟩) n n) ns := by
 subst hn
 have h := RdE.ofBlks (E := InK) (l := ns) (heap_alloc_new w (.cells (rowsE InK ns).toArray e)) (by unfold maxLen; omega)
 exact h.more (by simp)
theorem concat4 (l0 l1 l2 l3 : List UInt8) (v : Value) (w : World) (h : Four l0 l1 l2 l3 v w) (hl : l0.length + l1.length + l2.length + l3.length ≤ 10000000) : Calls Tryz.prog 65 #[v] w (Gives w.heap.size (l0 ++ (l1 ++ (l2 ++ l3))) w) := by
 obtain ⟨vs, h1, h2, h3⟩ := h
 have hc := concat_any vs [l0, l1, l2, l3] v w h2 h1 h3 (by simp; omega) (by show 4 ≤ 100; decide)
 have e : [l0, l1, l2, l3].flatten = l0 ++ (l1 ++ (l2 ++ l3)) := by simp
 rw [e] at hc
 exact hc
set_option maxRecDepth 1000000 in
theorem orPut_any (v : Value) (l : List UInt8) (o : Or) (w : World) (hr : Rd w.heap.size w v l) (hf : ∀ n ∈ nsO o, fit64 n) (hl : l.length + (oP o).length + (oV o).length ≤ 1000000) : Calls Tryz.prog 32 #[v, .agg (orc o).toArray] w (Gives w.heap.size (l ++ encO o) w) := by
 have HR := lhd hr
 have HF := lhd hf
 have HL := lhd hl
 obtain ⟨A, c, rfl, -, -⟩ := hr.shape
 clear hr hf hl
 go_enter Tryz.func32, Tryz.ntmps32
 go_wp2_with (refine wpList_box_blk rfl 86 _ rfl (orc o) rfl ?_)
 intro y0 b1 b2 b3
 obtain ⟨gb0, hg⟩ : ∃ g, w.heap.size = g := ⟨_, rfl⟩
 have X0 := lhd b1
 have EB0 := lhd b3
 rw [hg] at X0 ⊢
 clear b1 b2 b3 hg
 go_wp2
 have ZX0 := lhd X0.out
 have ZR := lhd ((HR.out.below EB0.out).more EB0.out.size)
 refine wp_region_rely2 24 0 (fun x => ⟨#[.slice A l.length c, .agg (orc o).toArray, undef, .pointer (some { block := gb0, off := 0 }), x 23, x 0, x 1, x 2, x 3, x 4, x 5, x 6, x 7, x 8, x 9, x 10, x 11, x 12, x 13, x 14, x 15, x 16, x 17, x 18, x 19, x 20, x 21, x 22], []⟩) (fun jj => ([eqV (.slice A l.length c), eqV (.pointer (some ⟨gb0, 0, none⟩)), eqV (.int .i64 (oC o)), eqV (.pointer (some ⟨gb0, 1, none⟩)), eqV (.int .i64 (oQ o)), eqV (.pointer (some ⟨gb0, 2, none⟩)), eqV (.int .i64 (oK o)), eqV (.pointer (some ⟨gb0, 5, none⟩)), eqV (.int .i64 (oR o)), eqV (.pointer (some ⟨gb0, 6, none⟩)), eqV (.int .i64 (oS o)), eqV (.pointer (some ⟨gb0, 7, none⟩)), eqV (.int .i64 (oT o)), ((fun v w => RdE InK w.heap.size w v (nsO o))), ((fun v w => Rd w.heap.size w v (encIs (nsO o)))), eqV (.pointer (some ⟨gb0, 3, none⟩)), eqV (txt (oP o)), ((fun v w => Rd w.heap.size w v (encX (oP o)))), eqV (.pointer (some ⟨gb0, 4, none⟩)), eqV (txt (oV o)), ((fun v w => Rd w.heap.size w v (encX (oV o)))), ((fun v w => Four l (encIs (nsO o)) (encX (oP o)) (encX (oV o)) v w)), ((fun v w => Own 5 w y0.heap.size v (l ++ ((encIs (nsO o)) ++ ((encX (oP o)) ++ (encX (oV o))))))), ((fun v w => Own 5 w y0.heap.size v (l ++ ((encIs (nsO o)) ++ ((encX (oP o)) ++ (encX (oV o)))))))] : List (Value → World → Prop)).getD jj (fun _ _ => True)) rfl ⟨fun kk => [_, _, _, _, _, _, _, _, _, _, _, _, _, _, _, _, _, _, _, _, _, _, _, _].getD kk undef, rfl⟩ (by kernel_rfl) (by kernel_rfl) ?steps ?fin
 case steps =>
  refine StepsAt.val 0 (.slice A l.length c) rfl (fun _ _ => rfl) rfl rfl (fun x wx hb hd => ?_) ?_
  ·(go_simp; try rfl)
  refine StepsAt.val 1 (.pointer (some ⟨gb0, 0, none⟩)) rfl (fun _ _ => rfl) rfl rfl (fun x wx hb hd => ?_) ?_
  ·(go_simp; try rfl)
  refine StepsAt.val 2 (.int .i64 (oC o)) rfl (fun _ _ => rfl) rfl rfl (fun x wx hb hd => ?_) ?_
  ·have h1 : x 1 = .pointer (some ⟨gb0, 0, none⟩) := hd 1 (by kernel_rfl)
   have cc := ((ZX0.out.below hb ZX0.out.lt).cell 0).trans (show _ = some (.int .i64 (oC o)) from rfl)
   rw [h1]
   (go_simp; try rfl)
  refine StepsAt.val 3 (.pointer (some ⟨gb0, 1, none⟩)) rfl (fun _ _ => rfl) rfl rfl (fun x wx hb hd => ?_) ?_
  ·(go_simp; try rfl)
  refine StepsAt.val 4 (.int .i64 (oQ o)) rfl (fun _ _ => rfl) rfl rfl (fun x wx hb hd => ?_) ?_
  ·have h3 : x 3 = .pointer (some ⟨gb0, 1, none⟩) := hd 3 (by kernel_rfl)
   have cc := ((ZX0.out.below hb ZX0.out.lt).cell 1).trans (show _ = some (.int .i64 (oQ o)) from rfl)
   rw [h3]
   (go_simp; try rfl)
  refine StepsAt.val 5 (.pointer (some ⟨gb0, 2, none⟩)) rfl (fun _ _ => rfl) rfl rfl (fun x wx hb hd => ?_) ?_
  ·(go_simp; try rfl)
  refine StepsAt.val 6 (.int .i64 (oK o)) rfl (fun _ _ => rfl) rfl rfl (fun x wx hb hd => ?_) ?_
  ·have h5 : x 5 = .pointer (some ⟨gb0, 2, none⟩) := hd 5 (by kernel_rfl)
   have cc := ((ZX0.out.below hb ZX0.out.lt).cell 2).trans (show _ = some (.int .i64 (oK o)) from rfl)
   rw [h5]
   (go_simp; try rfl)
  refine StepsAt.val 7 (.pointer (some ⟨gb0, 5, none⟩)) rfl (fun _ _ => rfl) rfl rfl (fun x wx hb hd => ?_) ?_
  ·(go_simp; try rfl)
  refine StepsAt.val 8 (.int .i64 (oR o)) rfl (fun _ _ => rfl) rfl rfl (fun x wx hb hd => ?_) ?_
  ·have h7 : x 7 = .pointer (some ⟨gb0, 5, none⟩) := hd 7 (by kernel_rfl)
   have cc := ((ZX0.out.below hb ZX0.out.lt).cell 5).trans (show _ = some (.int .i64 (oR o)) from rfl)
   rw [h7]
   (go_simp; try rfl)
  refine StepsAt.val 9 (.pointer (some ⟨gb0, 6, none⟩)) rfl (fun _ _ => rfl) rfl rfl (fun x wx hb hd => ?_) ?_
  ·(go_simp; try rfl)
  refine StepsAt.val 10 (.int .i64 (oS o)) rfl (fun _ _ => rfl) rfl rfl (fun x wx hb hd => ?_) ?_
  ·have h9 : x 9 = .pointer (some ⟨gb0, 6, none⟩) := hd 9 (by kernel_rfl)
   have cc := ((ZX0.out.below hb ZX0.out.lt).cell 6).trans (show _ = some (.int .i64 (oS o)) from rfl)
   rw [h9]
   (go_simp; try rfl)
  refine StepsAt.val 11 (.pointer (some ⟨gb0, 7, none⟩)) rfl (fun _ _ => rfl) rfl rfl (fun x wx hb hd => ?_) ?_
  ·(go_simp; try rfl)
  refine StepsAt.val 12 (.int .i64 (oT o)) rfl (fun _ _ => rfl) rfl rfl (fun x wx hb hd => ?_) ?_
  ·have h11 : x 11 = .pointer (some ⟨gb0, 7, none⟩) := hd 11 (by kernel_rfl)
   have cc := ((ZX0.out.below hb ZX0.out.lt).cell 7).trans (show _ = some (.int .i64 (oT o)) from rfl)
   rw [h11]
   (go_simp; try rfl)
  refine StepsAt.cons 13 (fun _ _ _ h hb => (h.below hb).more hb.size) (fun _ _ => rfl) rfl rfl (fun x wx hb hd K hK => ?_) ?_
  ·have h2 : Hid (x 2 = .int .i64 (oC o)) := hd 2 (by kernel_rfl)
   have h4 : Hid (x 4 = .int .i64 (oQ o)) := hd 4 (by kernel_rfl)
   have h6 : Hid (x 6 = .int .i64 (oK o)) := hd 6 (by kernel_rfl)
   have h8 : Hid (x 8 = .int .i64 (oR o)) := hd 8 (by kernel_rfl)
   have h10 : Hid (x 10 = .int .i64 (oS o)) := hd 10 (by kernel_rfl)
   have h12 : Hid (x 12 = .int .i64 (oT o)) := hd 12 (by kernel_rfl)
   refine wp_run (w' := wx.alloc (.cells (rowsE InK (nsO o)).toArray 3)) (.slice (some ⟨wx.heap.size, 0, none⟩) 6 6) ?_ (hK.out _ _ ((Below.refl _ _).alloc (Nat.le_refl _) _) (rows_new (nsO o) _ wx 6 rfl (by decide)))
   rw [h2.out, h4.out, h6.out, h8.out, h10.out, h12.out]
   (go_simp; try rfl)
  refine StepsAt.cons 14 (fun _ _ _ h hb => (h.below hb).more hb.size) (fun _ _ => rfl) rfl rfl (fun x wx hb hd K hK => ?_) ?_
  ·have h13 : RdE InK wx.heap.size wx (x 13) (nsO o) := hd 13 (by kernel_rfl)
   go_simp
   refine (numbers_any (x 13) (nsO o) _ h13 HF.out (by show 6 ≤ 100; decide)).mono ?_
   rintro e w99 ⟨v99, rfl, hown, hb99⟩
   exact hK.out _ _ hb99 hown.rd
  refine StepsAt.val 15 (.pointer (some ⟨gb0, 3, none⟩)) rfl (fun _ _ => rfl) rfl rfl (fun x wx hb hd => ?_) ?_
  ·(go_simp; try rfl)
  refine StepsAt.val 16 (txt (oP o)) rfl (fun _ _ => rfl) rfl rfl (fun x wx hb hd => ?_) ?_
  ·have h15 : x 15 = .pointer (some ⟨gb0, 3, none⟩) := hd 15 (by kernel_rfl)
   have cc := ((ZX0.out.below hb ZX0.out.lt).cell 3).trans (show _ = some (txt (oP o)) from rfl)
   rw [h15]
   (go_simp; try rfl)
  refine StepsAt.cons 17 (fun _ _ _ h hb => (h.below hb).more hb.size) (fun _ _ => rfl) rfl rfl (fun x wx hb hd K hK => ?_) ?_
  ·have h16 : Hid (x 16 = txt (oP o)) := hd 16 (by kernel_rfl)
   go_simp
   refine calls_args (args2 := #[.slice none 0 0, txt (oP o)]) (by rw [h16.out]) ?_
   refine (text_any (.slice none 0 0) [] (ba (oP o)) _ (Rd.nil _ _) (by have := HL.out; rw [ba_size]; simp only [List.length_nil]; omega)).mono ?_
   rintro e w99 ⟨v99, rfl, hown, hb99⟩
   exact hK.out _ _ hb99 (show Rd _ _ _ (encS (ba (oP o))) from hown.rd)
  refine StepsAt.val 18 (.pointer (some ⟨gb0, 4, none⟩)) rfl (fun _ _ => rfl) rfl rfl (fun x wx hb hd => ?_) ?_
  ·(go_simp; try rfl)
  refine StepsAt.val 19 (txt (oV o)) rfl (fun _ _ => rfl) rfl rfl (fun x wx hb hd => ?_) ?_
  ·have h18 : x 18 = .pointer (some ⟨gb0, 4, none⟩) := hd 18 (by kernel_rfl)
   have cc := ((ZX0.out.below hb ZX0.out.lt).cell 4).trans (show _ = some (txt (oV o)) from rfl)
   rw [h18]
   (go_simp; try rfl)
  refine StepsAt.cons 20 (fun _ _ _ h hb => (h.below hb).more hb.size) (fun _ _ => rfl) rfl rfl (fun x wx hb hd K hK => ?_) ?_
  ·have h19 : Hid (x 19 = txt (oV o)) := hd 19 (by kernel_rfl)
   go_simp
   refine calls_args (args2 := #[.slice none 0 0, txt (oV o)]) (by rw [h19.out]) ?_
   refine (text_any (.slice none 0 0) [] (ba (oV o)) _ (Rd.nil _ _) (by have := HL.out; rw [ba_size]; simp only [List.length_nil]; omega)).mono ?_
   rintro e w99 ⟨v99, rfl, hown, hb99⟩
   exact hK.out _ _ hb99 (show Rd _ _ _ (encS (ba (oV o))) from hown.rd)
  refine StepsAt.cons 21 (fun _ _ _ h hb => h.keep hb) (fun _ _ => rfl) rfl rfl (fun x wx hb hd K hK => ?_) ?_
  ·have h0 : Hid (x 0 = .slice A l.length c) := hd 0 (by kernel_rfl)
   have h14 : Rd wx.heap.size wx (x 14) (encIs (nsO o)) := hd 14 (by kernel_rfl)
   have h17 : Rd wx.heap.size wx (x 17) (encX (oP o)) := hd 17 (by kernel_rfl)
   have h20 : Rd wx.heap.size wx (x 20) (encX (oV o)) := hd 20 (by kernel_rfl)
   obtain ⟨A1, c1, e1, -, -⟩ := h14.shape
   obtain ⟨A2, c2, e2, -, -⟩ := h17.shape
   obtain ⟨A3, c3, e3, -, -⟩ := h20.shape
   rw [e1] at h14
   rw [e2] at h17
   rw [e3] at h20
   refine wp_run (w' := wx.alloc (.cells (rowsE SlK [(A, l.length, c), (A1, (encIs (nsO o)).length, c1), (A2, (encX (oP o)).length, c2), (A3, (encX (oV o)).length, c3)]).toArray 92)) (.slice (some ⟨wx.heap.size, 0, none⟩) 4 4) ?_ (hK.out _ _ ((Below.refl _ _).alloc (Nat.le_refl _) _) (Four.new _ _ _ _ _ wx ((ZR.out.below hb).more hb.size) h14 h17 h20))
   rw [h0.out, e1, e2, e3]
   (go_simp; try rfl)
  refine StepsAt.cons 22 (fun _ _ _ h hb => h.belowB hb (Nat.le_refl _)) (fun _ _ => rfl) rfl rfl (fun x wx hb hd K hK => ?_) ?_
  ·have h21 : Four l (encIs (nsO o)) (encX (oP o)) (encX (oV o)) (x 21) wx := hd 21 (by kernel_rfl)
   go_simp
   refine (concat4 l (encIs (nsO o)) (encX (oP o)) (encX (oV o)) (x 21) _ h21 (by have h1 := HL.out; have h2 := encIs_len (nsO o); have h3 : (nsO o).length = 6 := rfl; have h4 := encX_len (oP o); have h5 := encX_len (oV o); omega)).mono ?_
   rintro e w99 ⟨v99, rfl, hown, hb99⟩
   exact hK.out _ _ hb99 (hown.base hb.size)
  refine StepsAt.cons 23 (fun _ _ _ h hb => h.belowB hb (Nat.le_refl _)) (fun _ _ => rfl) rfl rfl (fun x wx hb hd K hK => ?_) ?_
  ·have h22 : Own 5 wx y0.heap.size (x 22) (l ++ ((encIs (nsO o)) ++ ((encX (oP o)) ++ (encX (oV o))))) := hd 22 (by kernel_rfl)
   refine wp_run (w' := wx) (x 22) ?_ (hK.out _ _ (Below.refl _ _) h22)
   (go_simp; try rfl)
  exact StepsAt.done
 case fin =>
  intro x wx hb hd
  have hx0 : x 0 = .slice A l.length c := hd 0 (by omega)
  have hx1 : x 1 = .pointer (some ⟨gb0, 0, none⟩) := hd 1 (by omega)
  have hx2 : x 2 = .int .i64 (oC o) := hd 2 (by omega)
  have hx3 : x 3 = .pointer (some ⟨gb0, 1, none⟩) := hd 3 (by omega)
  have hx4 : x 4 = .int .i64 (oQ o) := hd 4 (by omega)
  have hx5 : x 5 = .pointer (some ⟨gb0, 2, none⟩) := hd 5 (by omega)
  have hx6 : x 6 = .int .i64 (oK o) := hd 6 (by omega)
  have hx7 : x 7 = .pointer (some ⟨gb0, 5, none⟩) := hd 7 (by omega)
  have hx8 : x 8 = .int .i64 (oR o) := hd 8 (by omega)
  have hx9 : x 9 = .pointer (some ⟨gb0, 6, none⟩) := hd 9 (by omega)
  have hx10 : x 10 = .int .i64 (oS o) := hd 10 (by omega)
  have hx11 : x 11 = .pointer (some ⟨gb0, 7, none⟩) := hd 11 (by omega)
  have hx12 : x 12 = .int .i64 (oT o) := hd 12 (by omega)
  have hx15 : x 15 = .pointer (some ⟨gb0, 3, none⟩) := hd 15 (by omega)
  have hx16 : x 16 = txt (oP o) := hd 16 (by omega)
  have hx18 : x 18 = .pointer (some ⟨gb0, 4, none⟩) := hd 18 (by omega)
  have hx19 : x 19 = txt (oV o) := hd 19 (by omega)
  refine AnyTill.any (S := fun _ => True) (m := 24) _ _ _ _ ?_
  refine AnyTill.done (by kernel_rfl) ?_
  refine NoPanic.normal ?_
  try dsimp only
  rw [hx0, hx1, hx2, hx3, hx4, hx5, hx6, hx7, hx8, hx9, hx10, hx11, hx12, hx15, hx16, hx18, hx19]
  have EF := lhd hb
  have HO := lhd (show Own 5 wx y0.heap.size (x 23) (l ++ ((encIs (nsO o)) ++ ((encX (oP o)) ++ (encX (oV o))))) from hd 23 (by omega))
  clear hx0 hx1 hx2 hx3 hx4 hx5 hx6 hx7 hx8 hx9 hx10 hx11 hx12 hx15 hx16 hx18 hx19 hd hb
  have P1_w := lhd (EB0.out.trans (EF.out.mono EB0.out.size))
  obtain ⟨vz, hvz⟩ : ∃ q, x 23 = q := ⟨_, rfl⟩
  rw [hvz] at HO ⊢
  clear hvz
  go_wp2
  go_ret
  refine ⟨vz, rfl, ?_, P1_w.out⟩
  have e : l ++ encO o = l ++ ((encIs (nsO o)) ++ ((encX (oP o)) ++ (encX (oV o)))) := rfl
  rw [e]
  exact HO.out.base EB0.out.size
def encV (l : List Or) : List UInt8 := if encE l = 0 then encB l else []
theorem fits_ns (o : Or) (h : mayO o = true) (hf : fitsO o) : ∀ n ∈ nsO o, fit64 n := by
 obtain ⟨m1, m2, m3, m4, m5, m6, m7, m8⟩ := may_sized h
 intro n hn
 have hn : n ∈ [oC o, oQ o, oK o, oR o, oS o, oT o] := hn
 simp only [List.mem_cons, List.not_mem_nil, or_false] at hn
 rcases hn with rfl | rfl | rfl | rfl | rfl | rfl
 ·exact ⟨by omega, by omega⟩
 ·exact ⟨by omega, by omega⟩
 ·exact ⟨by omega, by omega⟩
 ·exact hf.1
 ·exact hf.2.1
 ·exact hf.2.2
theorem enc_large (l : List Or) (h : 10 < l.length) : encV l = [] ∧ encE l = 5 := by
 have e : encE l = 5 := by unfold encE; rw [if_pos h]
 refine ⟨?_, e⟩
 unfold encV
 rw [e, if_neg (by decide)]
theorem enc_bad (l : List Or) (h : ¬ 10 < l.length) (i : Nat) (hi : i < l.length) (hb : mayO (l.getD i or0) = false) : encV l = [] ∧ encE l = 1 := by
 have e : encE l = 1 := by
  unfold encE
  rw [if_neg h, if_neg]
  intro ha
  rw [List.all_eq_true] at ha
  have := ha (l.getD i or0) (by rw [List.getD_eq_getElem?_getD, List.getElem?_eq_getElem hi]; exact List.getElem_mem hi)
  rw [hb] at this
  cases this
 refine ⟨?_, e⟩
 unfold encV
 rw [e, if_neg (by decide)]
theorem enc_good (l : List Or) (h : ¬ 10 < l.length) (ha : ∀ j, j < l.length → mayO (l.getD j or0) = true) : encV l = encB l ∧ encE l = 0 := by
 have e : encE l = 0 := by
  unfold encE
  rw [if_neg h, if_pos]
  rw [List.all_eq_true]
  intro x hx
  obtain ⟨j, hj, rfl⟩ := List.getElem_of_mem hx
  have := ha j hj
  rwa [List.getD_eq_getElem?_getD, List.getElem?_eq_getElem hj] at this
 refine ⟨?_, e⟩
 unfold encV
 rw [e, if_pos rfl]
theorem or_take (l : List Or) (i : Nat) (hi : i < l.length) : l.take (i + 1) = l.take i ++ [l.getD i or0] := by
 rw [List.getD_eq_getElem?_getD, List.getElem?_eq_getElem hi, List.take_add_one, List.getElem?_eq_getElem hi]
 rfl
theorem or_mem (l : List Or) (i : Nat) (hi : i < l.length) : l.getD i or0 ∈ l := by
 rw [List.getD_eq_getElem?_getD, List.getElem?_eq_getElem hi]
 exact List.getElem_mem hi
theorem encOs_few (l : List Or) (i : Nat) (hi : i ≤ l.length) (ha : ∀ j, j < i → mayO (l.getD j or0) = true) : (encOs (l.take i)).length ≤ 1200 * i := by
 have h := encOs_len (l.take i) (fun o ho => by
  obtain ⟨j, hj, rfl⟩ := List.getElem_of_mem ho
  rw [List.length_take] at hj
  have := ha j (by omega)
  rw [List.getD_eq_getElem?_getD, List.getElem?_eq_getElem (by omega)] at this
  rw [List.getElem_take]
  exact this)
 rw [List.length_take, Nat.min_eq_left hi] at h
 exact h
theorem btEncode_any (l : List Or) (v : Value) (w : World) (hr : RdE OrK w.heap.size w v l) (hf : ∀ o ∈ l, fitsO o) : Calls Tryz.prog 9 #[v] w (One (.tuple #[txt (encV l), .int .i64 (encE l)]) w) := by
 obtain ⟨A, cp, rfl, hc, hm⟩ := hr.shape
 unfold maxLen at hm
 obtain ⟨n, hn⟩ : ∃ n, l.length = n := ⟨_, rfl⟩
 have HN := lhd hn
 have HR := lhd hr
 have HF := lhd hf
 rw [hn] at hc HR
 clear hr hf
 obtain ⟨V, hV⟩ : ∃ V, encV l = V := ⟨_, rfl⟩
 obtain ⟨F, hE⟩ : ∃ F, encE l = F := ⟨_, rfl⟩
 have HV := lhd hV
 have HE := lhd hE
 rw [hV, hE, hn]
 clear hV hE hn
 obtain ⟨dO, huO, hdO⟩ := rowOrP
 go_enter Tryz.func9, Tryz.ntmps9
 have HB := lhd (Below.refl w.heap.size w)
 by_cases h10 : (10 : Int) < (n : Int)
 ·have h1 := enc_large l (by rw [HN.out]; omega)
  have HX : Hid (V = [] ∧ F = 5) := lhd (by rw [← HV.out, ← HE.out]; exact h1)
  clear h1
  go_wp2
  go_ret2
  exact ⟨by rw [HX.out.1, HX.out.2]; rfl, HB.out⟩
 have hw : IntKind.u64.wrap (n : Int) = (n : Int) := by rw [IntKind.wrap_u64]; omega
 go_wp2_with fail
 refine (put_any (.slice none 0 0) [] (n : Int) w (Rd.nil _ _) (by omega) (by omega) (by simp)).mono ?_
 rintro e w1 ⟨v1, rfl, hown, hb⟩
 have e1 : ([] : List UInt8) ++ enc (n : Int).toNat = enc n ++ encOs (l.take 0) := by simp [encOs]
 rw [e1] at hown
 have HO := lhd hown
 have HB1 := lhd hb
 clear e1 hown hb hw HB
 go_wp2
 go_loopw [4, 16] (fun o x wr => ∃ i : Nat, i ≤ n ∧ x = .int .i64 (i : Int) ∧ Hid (Own 5 wr w.heap.size o (enc n ++ encOs (l.take i))) ∧ Hid (∀ j, j < i → mayO (l.getD j or0) = true) ∧ Hid (Below w.heap.size w wr)) (fun _ x _ => n - (intOf x).toNat)
 case atStart => exact ⟨0, by omega, rfl, HO, lhd (fun j hj => by omega), HB1⟩
 case round =>
  clear HO HB1
  obtain ⟨i, hi, rfl, HO, HA, HB⟩ := hrel
  have hsz := HB.out.size
  by_cases hi2 : i < n
  ·have zi : (i : Int) < (n : Int) := by omega
   have hil : i < l.length := by rw [HN.out]; exact hi2
   obtain ⟨a, hA, c0, c1, c2, c3, c4, c5, c6, c7⟩ := ((HR.out.below HB.out).more hsz).atOr i hil
   subst hA
   have hT := or_take l i hil
   have hM := or_mem l i hil
   have hfo := HF.out _ hM
   have hfew := encOs_few l i (by omega) HA.out
   obtain ⟨o, ho⟩ : ∃ o, l.getD i or0 = o := ⟨_, rfl⟩
   rw [ho] at c0 c1 c2 c3 c4 c5 c6 c7 hT hfo
   have HT := lhd hT
   have HFO := lhd hfo
   have HOO := lhd ho
   have HFW := lhd hfew
   clear hil hT hM hfo ho hfew
   go_wp2_with (refine wpList_alloc_blk rfl 86 rfl (orc or0) zeroOrP ?_)
   intro wa a1 a2 a3
   obtain ⟨g, hg⟩ : ∃ g, wr.heap.size = g := ⟨_, rfl⟩
   have A1 := lhd a1
   have BA := lhd a3
   have HG := lhd hg
   rw [hg] at A1 ⊢
   clear a1 a2 a3 hg c0 c1 c2 c3 c4 c5 c6 c7
   go_wp2_with (refine wpList_store_to rfl 86 _ _ rfl g (orc o) (orc or0) 86 rfl rfl A1.out szOrP rfl (orc_all o) ?_)
   intro wb e1 e2 e3 e4
   have A2 := lhd e1
   have BB : Hid (Below wr.heap.size wr wb) := lhd (BA.out.trans (by rw [HG.out]; exact e3))
   clear e1 e2 e3 e4 A1 BA
   go_wp2_with (refine wpList_load_part rfl 86 _ rfl g 0 (orc o) (orc o) 86 rfl A2.out rfl huO hdO szOrP ?_)
   refine (orMay_any o wb).mono ?_
   rintro e w3 ⟨rfl, hb⟩
   have hbb : wb.heap.size ≤ w3.heap.size := hb.size
   have B3 : Hid (Below wr.heap.size wr w3) := lhd (BB.out.trans (hb.mono BB.out.size))
   have A3 := lhd (A2.out.below hb A2.out.lt)
   clear hb hbb A2 BB
   obtain ⟨M, hM⟩ : ∃ M, mayO o = M := ⟨_, rfl⟩
   have HM := lhd hM
   rw [hM]
   clear hM
   cases M
   ·have h1 := enc_bad l (by rw [HN.out]; omega) i (by rw [HN.out]; exact hi2) (by rw [HOO.out]; exact HM.out)
    have HX : Hid (V = [] ∧ F = 1) := lhd (by rw [← HV.out, ← HE.out]; exact h1)
    have HB4 : Hid (Below w.heap.size w w3) := lhd (HB.out.trans (B3.out.mono hsz))
    clear h1
    go_wp2
    go_ret2
    exact ⟨by rw [HX.out.1, HX.out.2]; rfl, HB4.out⟩
   have O3 : Hid (Own 5 w3 w.heap.size u4 (enc n ++ encOs (l.take i))) := lhd (HO.out.below B3.out (Nat.le_refl _))
   have hlen : (enc n ++ encOs (l.take i)).length + (oP o).length + (oV o).length ≤ 1000000 := by
    have h1 := HFW.out
    have h2 := may_sized HM.out
    have h3 := enc_length n
    have h4 := wid_le n
    rw [List.length_append]
    omega
   have HLE := lhd hlen
   clear hlen
   go_wp2_with (refine wpList_load_part rfl 86 _ rfl g 0 (orc o) (orc o) 86 rfl A3.out rfl huO hdO szOrP ?_)
   refine (orPut_any u4 (enc n ++ encOs (l.take i)) o w3 O3.out.rd (fits_ns o HM.out HFO.out) HLE.out).mono ?_
   rintro e w4 ⟨v4, rfl, hown, hb⟩
   have hs3 : w.heap.size ≤ w3.heap.size := Nat.le_trans hsz B3.out.size
   have e5 : (enc n ++ encOs (l.take i)) ++ encO o = enc n ++ encOs (l.take (i + 1)) := by
    rw [HT.out, encOs_append, encOs_one, List.append_assoc]
   rw [e5] at hown
   have HO4 : Hid (Own 5 w4 w.heap.size v4 (enc n ++ encOs (l.take (i + 1)))) := lhd (hown.base hs3)
   have HB4 : Hid (Below w.heap.size w w4) := lhd ((HB.out.trans (B3.out.mono hsz)).trans (hb.mono hs3))
   have HA4 : Hid (∀ j, j < i + 1 → mayO (l.getD j or0) = true) := by
    refine lhd (fun j hj => ?_)
    by_cases h : j < i
    ·exact HA.out j h
    ·obtain rfl : j = i := by omega
     rw [HOO.out]
     exact HM.out
   clear e5 hown hb hs3
   go_wp2
   go_roundw
   case rel => exact ⟨i + 1, by omega, by go_num, HO4, HA4, HB4⟩
   case measure => first | (simp [intOf]; done) | (simp [intOf]; omega)
  ·obtain rfl : i = n := by omega
   have h1 := enc_good l (by rw [HN.out]; omega) (fun j hj => HA.out j (by rw [← HN.out]; exact hj))
   have e2 : enc i ++ encOs (l.take i) = V := by
    rw [← HV.out, h1.1, ← HN.out, List.take_length]
    rfl
   have HX : Hid (F = 0) := lhd (by rw [← HE.out]; exact h1.2)
   have hrd := HO.out.rd
   rw [e2] at hrd
   obtain ⟨A3, c3, rfl, -, -⟩ := hrd.shape
   have hst := run_string_rd 92 9 5 Tryz.underlying92 Tryz.underlying5 Tryz.underlying9 hrd
   clear h1 e2 hrd HO
   go_wp2
   go_ret2
   exact ⟨by rw [HX.out]; rfl, HB.out⟩
theorem bytes_any {P : Program} (w : World) (src dst e : TypeId) (s : List UInt8) (hs : P.underlying src = some .string) (hd : P.underlying dst = some (.slice e)) (he : P.underlying e = some (.int .u8)) (hl : s.length ≤ maxLen) :
 ∃ A c w', (convert src dst (txt s)).run P w = .ok (.slice A s.length c) w' ∧ Rd w'.heap.size w' (.slice A s.length c) s ∧ Below w.heap.size w w' := by
 have hsz : (⟨s.toArray⟩ : ByteArray).size = s.length := ba_size s
 refine ⟨some ⟨w.heap.size, 0, none⟩, grownCap w s.length 0 e, Lib.bytesWorld w e ⟨s.toArray⟩, ?_, ?_, ?_⟩
 ·have h := Lib.run_convert_string_bytes w src dst e ⟨s.toArray⟩ hs hd he
  rw [hsz] at h
  exact h
 ·refine ⟨_, _, rfl, grownCap_ge _ _ _ _, grownCap_le_maxLen _ _ _ _ hl, (fun h => by cases h), fun a ha => ?_⟩
  injection ha with ha
  subst ha
  refine ⟨fun _ => by rw [Lib.bytesWorld_size]; exact Nat.lt_succ_self _, fun j hj => ?_⟩
  have h := Lib.bytesWorld_cell w e ⟨s.toArray⟩ j (by rw [hsz]; exact hj)
  have ha : (⟨w.heap.size, 0, none⟩ : Addr).add j = ⟨w.heap.size, j, none⟩ := by simp only [Addr.add]; split <;> simp_all
  rw [ha, h]
  simp [hj]
 ·exact ⟨rfl, rfl, rfl, by rw [Lib.bytesWorld_size]; omega, fun k hk => Lib.bytesWorld_at_old w e _ k hk⟩
def DecO (d : Option (List Or)) (w : World) (e : Ending) (w' : World) : Prop :=
 ∃ v, e = .returned (.tuple #[v, .int .i64 (if d.isSome then 0 else 3)]) ∧ RdE OrK w'.heap.size w' v (d.getD []) ∧ Below w.heap.size w w'
theorem DecO.no {d : Option (List Or)} {w w' : World} (h : d = none) (hb : Below w.heap.size w w') : DecO d w (.returned (.tuple #[.slice none 0 0, .int .i64 3])) w' := by
 subst h
 exact ⟨_, rfl, RdE.nil _ _, hb⟩
theorem takeOs_stop (k : Nat) (acc : List Or) (b : List UInt8) (h : (takeO b).2.2 ≠ 0) : takeOs (k + 1) acc b = none := by
 show (if (takeO b).2.2 = 0 then _ else none) = none
 rw [if_neg h]
theorem takeOs_step (k : Nat) (acc : List Or) (b r : List UInt8) (o : Or) (h : takeO b = (o, r, 0)) : takeOs (k + 1) acc b = takeOs k (acc ++ [o]) r := by
 show (if (takeO b).2.2 = 0 then takeOs k (acc ++ [(takeO b).1]) (takeO b).2.1 else none) = _
 rw [h, if_pos rfl]
theorem btDecode_any (s : List UInt8) (w : World) (hl : s.length ≤ 1000000) : Calls Tryz.prog 12 #[txt s] w (DecO (decB s) w) := by
 obtain ⟨dO, huO, hdO⟩ := rowOrP
 have HL := lhd hl
 clear hl
 go_enter Tryz.func12, Tryz.ntmps12
 obtain ⟨A, c, w1, hcv, hrd, hb1⟩ := bytes_any (P := Tryz.prog) w 9 92 5 s Tryz.underlying9 Tryz.underlying92 Tryz.underlying5 (by have := HL.out; unfold maxLen; omega)
 have R1 := lhd hrd
 have B1 := lhd hb1
 clear hrd hb1
 go_wp2_with fail
 refine (take_any (.slice A s.length c) s w1 R1.out (by have := HL.out; omega)).mono ?_
 rintro e w2 ⟨v2, rfl, hown, hb⟩
 have hsz1 := B1.out.size
 have hN := takeN_lt s
 have hrest := takeN_rest s
 obtain ⟨⟨n, rest, er⟩, hT⟩ : ∃ q, takeN s = q := ⟨_, rfl⟩
 rw [hT] at hown hN hrest
 dsimp only at hown hN hrest
 have hrl : rest.length ≤ 1000000 := Nat.le_trans hrest HL.out
 have HT := lhd hT
 have R2 : Hid (Rd w2.heap.size w2 v2 rest) := lhd hown.rd
 have B2 := lhd (B1.out.trans (hb.mono hsz1))
 have hn2 : (n : Int) ≤ 18446744073709551615 := by omega
 rw [hT]
 dsimp only
 clear hT hown hb hrest hcv R1 B1 hsz1
 by_cases he : er = 0
 ·subst he
  by_cases h10 : (10 : Int) < (n : Int)
  ·have HX := lhd (decB_few s (.inr (by rw [HT.out]; show 10 < n; omega)))
   go_wp2
   go_ret2
   exact DecO.no HX.out B2.out
  have hk10 : n ≤ 10 := by omega
  have h10f : decide ((10 : Int) < (n : Int)) = false := decide_eq_false h10
  go_wp2
  go_loopw [5, 6, 7, 23] (fun vr er vl x wr => ∃ k : Nat, k ≤ n ∧ x = .int .u64 (k : Int) ∧ ∃ (acc : List Or) (r : List UInt8), er = .int .i64 0 ∧ acc.length = k ∧ r.length ≤ 1000000 ∧ Hid (takeOs n [] rest = takeOs (n - k) acc r) ∧ Hid (Rd wr.heap.size wr vr r) ∧ Hid (OwnE OrK 86 wr w.heap.size vl acc) ∧ Hid (Below w.heap.size w wr)) (fun _ _ _ x _ => n - (intOf x).toNat)
  case atStart => exact ⟨0, Nat.zero_le _, rfl, [], rest, rfl, rfl, hrl, rfl, R2, OwnE.nil _ _ _, B2⟩
  case round =>
   clear R2 B2 hrl
   obtain ⟨k, hk, rfl, acc, r, rfl, hac, hrl, HK, HR, HO, HB⟩ := hrel
   have hsz := HB.out.size
   by_cases hlt : k < n
   ·have hlt2 : decide ((k : Int) < (n : Int)) = true := by simp; omega
    go_wp2_with (refine wpList_alloc_blk rfl 86 rfl (orc or0) zeroOrP ?_)
    intro wa a1 a2 a3
    obtain ⟨g, hg⟩ : ∃ g, wr.heap.size = g := ⟨_, rfl⟩
    have A1 := lhd a1
    have BA := lhd a3
    have HG := lhd hg
    have Ra := lhd ((HR.out.below a3).more a3.size)
    have hga : g < wa.heap.size := by rw [← hg]; exact a1.lt
    rw [hg] at A1 ⊢
    clear a1 a2 a3 hg
    go_wp2_with fail
    refine (orTake_own u5 r wa Ra.out hrl).mono ?_
    rintro e w3 ⟨v3, rfl, hr3, hb⟩
    obtain ⟨⟨o, r', er'⟩, hq⟩ : ∃ q, takeO r = q := ⟨_, rfl⟩
    have hless := takeO_lessB r
    rw [hq] at hr3 hless ⊢
    dsimp only at hr3 hless ⊢
    have hrl2 : r'.length ≤ 1000000 := Nat.le_trans hless hrl
    have HQ := lhd hq
    have R3 := lhd hr3
    have A3 := lhd (A1.out.below hb A1.out.lt)
    have B3 : Hid (Below wr.heap.size wr w3) := lhd (BA.out.trans (hb.mono BA.out.size))
    have ek : n - k = (n - (k + 1)) + 1 := by omega
    have HE := lhd ek
    clear hq hless hr3 hb ek Ra A1 BA HR
    go_wp2_with (refine wpList_store_to rfl 86 _ _ rfl g (orc o) (orc or0) 86 rfl rfl A3.out szOrP rfl (orc_all o) ?_)
    intro w4 e1 e2 e3 e4
    have A4 := lhd e1
    have B4 : Hid (Below wr.heap.size wr w4) := lhd (B3.out.trans (by rw [HG.out]; exact e3))
    have R4 : Hid (Own 5 w4 wa.heap.size v3 r') := lhd (R3.out.storedB hga e4)
    clear e1 e2 e3 e4 A3 B3 R3
    by_cases he3 : er' = 0
    ·subst he3
     have HK2 : Hid (takeOs n [] rest = takeOs (n - (k + 1)) (acc ++ [o]) r') := lhd (by rw [HK.out, HE.out, takeOs_step _ _ _ _ _ HQ.out])
     have O4 := lhd (HO.out.below B4.out (Nat.le_refl _))
     have hex : orc o = [.int .i64 (oC o), .int .i64 (oQ o), .int .i64 (oK o), txt (oP o), txt (oV o), .int .i64 (oR o), .int .i64 (oS o), .int .i64 (oT o)] := rfl
     clear HK HE HQ
     clear hex
     go_wp2_with (first | refine wpList_load_part rfl 86 _ rfl g 0 (orc o) [.int .i64 (oC o), .int .i64 (oQ o), .int .i64 (oK o), txt (oP o), txt (oV o), .int .i64 (oR o), .int .i64 (oS o), .int .i64 (oT o)] 86 rfl A4.out rfl huO hdO szOrP ?_ | (at_builtin; refine wpList_appF (E := OrK) rfl _ _ 22 rfl 86 80 Tryz.underlying22 kindOrP w.heap.size _ _ _ acc [o] rfl (O4.out.alloc _) rfl (RdE.one w4 86 o) ?d1 ?d2 ?d3 ?_))
     case d1 => simp only [List.length_cons, List.length_nil, hac]; omega
     case d2 => simp only [List.length_cons, List.length_nil, hac]; omega
     case d3 => have := B4.out.size; simp; omega
     intro v' we m1 m2 m3
     have hba : Below w4.heap.size w4 (w4.alloc (.cells (orc o).toArray 86)) := (Below.refl w4.heap.size w4).alloc (Nat.le_refl _) _
     have hs4 : w.heap.size ≤ w4.heap.size := Nat.le_trans hsz B4.out.size
     have HOe := lhd m1
     have HBe : Hid (Below w.heap.size w we) := lhd ((HB.out.trans (B4.out.mono hsz)).trans ((hba.mono hs4).trans m2))
     have Re : Hid (Rd we.heap.size we v3 r') := lhd (Own.rd (ownsRow_other (by decide) (R4.out.alloc (.cells (orc o).toArray 86)) (O4.out.alloc (.cells (orc o).toArray 86)) m3))
     clear m1 m2 m3 hba hs4 O4 B4 R4 A4 HB HO HG
     go_wp2
     go_roundw
     case rel => exact ⟨k + 1, by omega, by go_num, acc ++ [o], r', rfl, by simp only [List.length_append, List.length_cons, List.length_nil]; omega, hrl2, HK2, Re, HOe, HBe⟩
     case measure => simp [intOf]; omega
    ·have he4 : ((er' : Int) != 0) = true := by simp; omega
     have HX := lhd (decB_bad s (by rw [HT.out]; show takeOs n [] rest = none; rw [HK.out, HE.out]; exact takeOs_stop _ _ _ (by rw [HQ.out]; exact he3)))
     have HB5 := lhd (HB.out.trans (B4.out.mono hsz))
     go_wp2
     go_ret2
     exact DecO.no HX.out HB5.out
   ·obtain rfl : k = n := by omega
    have h1 := decB_ends s acc r (by rw [HT.out]) (by rw [HT.out]; exact hk10) (by rw [HT.out]; show takeOs k [] rest = _; rw [HK.out, Nat.sub_self]; rfl)
    have HX := lhd h1
    clear h1
    obtain ⟨A5, c5, rfl, -, -⟩ := HR.out.shape
    obtain ⟨m, hm⟩ : ∃ m, r.length = m := ⟨_, rfl⟩
    have HM := lhd hm
    rw [hm] at hrl ⊢
    clear hm
    by_cases hm0 : (0 : Int) < (m : Int)
    ·have HX2 : Hid (decB s = none) := lhd (by
      rw [HX.out, if_neg]
      intro h
      have := HM.out
      rw [h] at this
      simp only [List.length_nil] at this
      omega)
     go_wp2
     go_ret2
     exact DecO.no HX2.out HB.out
    ·have HX2 : Hid (decB s = some acc) := lhd (by
      rw [HX.out, if_pos]
      apply List.length_eq_zero_iff.1
      rw [HM.out]
      omega)
     have HR7 := lhd HO.out.rd
     go_wp2
     go_ret2
     rw [HX2.out]
     exact ⟨_, rfl, HR7.out, HB.out⟩
 ·have he1 : ((er : Int) != 0) = true := by simp; omega
  have HX := lhd (decB_few s (.inl (by rw [HT.out]; exact he)))
  go_wp2
  go_ret2
  exact DecO.no HX.out B2.out
end Go.Proofs.YtgfobinklijkpaaGreatDoor
