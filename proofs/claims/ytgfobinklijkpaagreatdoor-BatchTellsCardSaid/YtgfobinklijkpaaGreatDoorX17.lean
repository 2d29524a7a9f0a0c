/-
  Texts NP Y2 Y3 Y4 Y5 Y6 Y7 Q0.
-/
import Derived.Test.YtgfobinklijkpaaGreatDoorX01
import Derived.Deep.QuietTactic
import Derived.BigQuiet
import Derived.Lib.SplitLaws
import Derived.Lib.LastIndexByte
import Derived.Test.YtgfobinklijkpaaGreatDoorX07
import Derived.Test.YtgfobinklijkpaaGreatDoorX16
namespace Go.Proofs.YtgfobinklijkpaaGreatDoor
set_option maxRecDepth 100000
set_option maxHeartbeats 16000000
open Go.RowKit
theorem wp_run {P : Program} {o : Oper} {a : Act} {w w' : World} {K : Act → World → Prop} {Q : Exit → Act → World → Prop} (v : Value) (h : (execOp a.eval o).run P w = .ok (.value v) w') (hK : K (a.put o.dst v) w') : Oper.wp P o a w K Q := by
 unfold Oper.wp
 rw [h]
 exact hK
def Four (l0 l1 l2 l3 : List UInt8) (v : Value) (w : World) : Prop := ∃ vs : List SlT, vs.length = 4 ∧ RdE SlK w.heap.size w v vs ∧ ∀ j, j < 4 → Rd w.heap.size w (slv (vs.getD j sl0)) ([l0, l1, l2, l3].getD j [])
theorem Four.keep {l0 l1 l2 l3 : List UInt8} {v : Value} {w w' : World} (h : Four l0 l1 l2 l3 v w) (hb : Below w.heap.size w w') : Four l0 l1 l2 l3 v w' := by
 obtain ⟨vs, h1, h2, h3⟩ := h
 exact ⟨vs, h1, (h2.below hb).more hb.size, fun j hj => ((h3 j hj).below hb).more hb.size⟩
theorem Four.new {l0 l1 l2 l3 : List UInt8} (s0 s1 s2 s3 : SlT) (e : TypeId) (w : World) (h0 : Rd w.heap.size w (slv s0) l0) (h1 : Rd w.heap.size w (slv s1) l1) (h2 : Rd w.heap.size w (slv s2) l2) (h3 : Rd w.heap.size w (slv s3) l3) :
 Four l0 l1 l2 l3 (.slice (some ⟨w.heap.size, 0, none⟩) 4 4) (w.alloc (.cells (rowsE SlK [s0, s1, s2, s3]).toArray e)) := by
 have hb : Below w.heap.size w (w.alloc (.cells (rowsE SlK [s0, s1, s2, s3]).toArray e)) := (Below.refl _ _).alloc (Nat.le_refl _) _
 refine ⟨[s0, s1, s2, s3], rfl, ?_, ?_⟩
 ·have h := RdE.ofBlks (E := SlK) (l := [s0, s1, s2, s3]) (heap_alloc_new w (.cells (rowsE SlK [s0, s1, s2, s3]).toArray e)) (by show (4 : Nat) ≤ _; decide)
  exact h.more (by simp)
 ·intro j hj
  match j, hj with
  | 0, _ => exact (h0.below hb).more hb.size
  | 1, _ => exact (h1.below hb).more hb.size
  | 2, _ => exact (h2.below hb).more hb.size
  | 3, _ => exact (h3.below hb).more hb.size
theorem rows_new (ns : List Int) (e : TypeId) (w : World) (n : Nat) (hn : ns.length = n) (hm : n ≤ 100) : RdE InK (w.alloc (.cells (rowsE InK ns).toArray e)).heap.size (w.alloc (.cells (rowsE InK ns).toArray e)) (.slice (some ⟨w.heap.size, 0, none⟩) n n) ns := by
 subst hn
 have h := RdE.ofBlks (E := InK) (l := ns) (heap_alloc_new w (.cells (rowsE InK ns).toArray e)) (by unfold maxLen; omega)
 exact h.more (by simp)
theorem concat4 (l0 l1 l2 l3 : List UInt8) (v : Value) (w : World) (h : Four l0 l1 l2 l3 v w) (hl : l0.length + l1.length + l2.length + l3.length ≤ 10000000) : Calls Tryz.prog 65 #[v] w (Gives w.heap.size (l0 ++ (l1 ++ (l2 ++ l3))) w) := by
 obtain ⟨vs, h1, h2, h3⟩ := h
 have hc := concat_any vs [l0, l1, l2, l3] v w h2 h1 h3 (by simp; omega) (by show 4 ≤ 100; decide)
 have e : [l0, l1, l2, l3].flatten = l0 ++ (l1 ++ (l2 ++ l3)) := by simp
 rw [e] at hc
 exact hc
set_option maxRecDepth 1000000 in
theorem orPut_any (v : Value) (l : List UInt8) (o : Or) (w : World) (hr : Rd w.heap.size w v l) (hf : ∀ n ∈ nsO o, fit64 n) (hl : l.length + (oP o).length + (oV o).length ≤ 1000000) : Calls Tryz.prog 32 #[v, .agg (orc o).toArray] w (Gives w.heap.size (l ++ encO o) w) := by
 have HR := lhd hr
 have HF := lhd hf
 have HL := lhd hl
 obtain ⟨A, c, rfl, -, -⟩ := hr.shape
 clear hr hf hl
 go_enter Tryz.func32, Tryz.ntmps32
 go_wp2_with (refine wpList_box_blk rfl 86 _ rfl (orc o) rfl ?_)
 intro y0 b1 b2 b3
 obtain ⟨gb0, hg⟩ : ∃ g, w.heap.size = g := ⟨_, rfl⟩
 have X0 := lhd b1
 have EB0 := lhd b3
 rw [hg] at X0 ⊢
 clear b1 b2 b3 hg
 go_wp2
 have ZX0 := lhd X0.out
 have ZR := lhd ((HR.out.below EB0.out).more EB0.out.size)
 refine wp_region_rely2 24 0 (fun x => ⟨#[.slice A l.length c, .agg (orc o).toArray, undef, .pointer (some { block := gb0, off := 0 }), x 23, x 0, x 1, x 2, x 3, x 4, x 5, x 6, x 7, x 8, x 9, x 10, x 11, x 12, x 13, x 14, x 15, x 16, x 17, x 18, x 19, x 20, x 21, x 22], []⟩) (fun jj => ([eqV (.slice A l.length c), eqV (.pointer (some ⟨gb0, 0, none⟩)), eqV (.int .i64 (oC o)), eqV (.pointer (some ⟨gb0, 1, none⟩)), eqV (.int .i64 (oQ o)), eqV (.pointer (some ⟨gb0, 2, none⟩)), eqV (.int .i64 (oK o)), eqV (.pointer (some ⟨gb0, 5, none⟩)), eqV (.int .i64 (oR o)), eqV (.pointer (some ⟨gb0, 6, none⟩)), eqV (.int .i64 (oS o)), eqV (.pointer (some ⟨gb0, 7, none⟩)), eqV (.int .i64 (oT o)), ((fun v w => RdE InK w.heap.size w v (nsO o))), ((fun v w => Rd w.heap.size w v (encIs (nsO o)))), eqV (.pointer (some ⟨gb0, 3, none⟩)), eqV (txt (oP o)), ((fun v w => Rd w.heap.size w v (encX (oP o)))), eqV (.pointer (some ⟨gb0, 4, none⟩)), eqV (txt (oV o)), ((fun v w => Rd w.heap.size w v (encX (oV o)))), ((fun v w => Four l (encIs (nsO o)) (encX (oP o)) (encX (oV o)) v w)), ((fun v w => Own 5 w y0.heap.size v (l ++ ((encIs (nsO o)) ++ ((encX (oP o)) ++ (encX (oV o))))))), ((fun v w => Own 5 w y0.heap.size v (l ++ ((encIs (nsO o)) ++ ((encX (oP o)) ++ (encX (oV o)))))))] : List (Value → World → Prop)).getD jj (fun _ _ => True)) rfl ⟨fun kk => [_, _, _, _, _, _, _, _, _, _, _, _, _, _, _, _, _, _, _, _, _, _, _, _].getD kk undef, rfl⟩ (by kernel_rfl) (by kernel_rfl) ?steps ?fin
 case steps =>
  refine StepsAt.val 0 (.slice A l.length c) rfl (fun _ _ => rfl) rfl rfl (fun x wx hb hd => ?_) ?_
  ·(go_simp; try rfl)
  refine StepsAt.val 1 (.pointer (some ⟨gb0, 0, none⟩)) rfl (fun _ _ => rfl) rfl rfl (fun x wx hb hd => ?_) ?_
  ·(go_simp; try rfl)
  refine StepsAt.val 2 (.int .i64 (oC o)) rfl (fun _ _ => rfl) rfl rfl (fun x wx hb hd => ?_) ?_
  ·have h1 : x 1 = .pointer (some ⟨gb0, 0, none⟩) := hd 1 (by kernel_rfl)
   have cc := ((ZX0.out.below hb ZX0.out.lt).cell 0).trans (show _ = some (.int .i64 (oC o)) from rfl)
   rw [h1]
   (go_simp; try rfl)
  refine StepsAt.val 3 (.pointer (some ⟨gb0, 1, none⟩)) rfl (fun _ _ => rfl) rfl rfl (fun x wx hb hd => ?_) ?_
  ·(go_simp; try rfl)
  refine StepsAt.val 4 (.int .i64 (oQ o)) rfl (fun _ _ => rfl) rfl rfl (fun x wx hb hd => ?_) ?_
  ·have h3 : x 3 = .pointer (some ⟨gb0, 1, none⟩) := hd 3 (by kernel_rfl)
   have cc := ((ZX0.out.below hb ZX0.out.lt).cell 1).trans (show _ = some (.int .i64 (oQ o)) from rfl)
   rw [h3]
   (go_simp; try rfl)
  refine StepsAt.val 5 (.pointer (some ⟨gb0, 2, none⟩)) rfl (fun _ _ => rfl) rfl rfl (fun x wx hb hd => ?_) ?_
  ·(go_simp; try rfl)
  refine StepsAt.val 6 (.int .i64 (oK o)) rfl (fun _ _ => rfl) rfl rfl (fun x wx hb hd => ?_) ?_
  ·have h5 : x 5 = .pointer (some ⟨gb0, 2, none⟩) := hd 5 (by kernel_rfl)
   have cc := ((ZX0.out.below hb ZX0.out.lt).cell 2).trans (show _ = some (.int .i64 (oK o)) from rfl)
   rw [h5]
   (go_simp; try rfl)
  refine StepsAt.val 7 (.pointer (some ⟨gb0, 5, none⟩)) rfl (fun _ _ => rfl) rfl rfl (fun x wx hb hd => ?_) ?_
  ·(go_simp; try rfl)
  refine StepsAt.val 8 (.int .i64 (oR o)) rfl (fun _ _ => rfl) rfl rfl (fun x wx hb hd => ?_) ?_
  ·have h7 : x 7 = .pointer (some ⟨gb0, 5, none⟩) := hd 7 (by kernel_rfl)
   have cc := ((ZX0.out.below hb ZX0.out.lt).cell 5).trans (show _ = some (.int .i64 (oR o)) from rfl)
   rw [h7]
   (go_simp; try rfl)
  refine StepsAt.val 9 (.pointer (some ⟨gb0, 6, none⟩)) rfl (fun _ _ => rfl) rfl rfl (fun x wx hb hd => ?_) ?_
  ·(go_simp; try rfl)
  refine StepsAt.val 10 (.int .i64 (oS o)) rfl (fun _ _ => rfl) rfl rfl (fun x wx hb hd => ?_) ?_
  ·have h9 : x 9 = .pointer (some ⟨gb0, 6, none⟩) := hd 9 (by kernel_rfl)
   have cc := ((ZX0.out.below hb ZX0.out.lt).cell 6).trans (show _ = some (.int .i64 (oS o)) from rfl)
   rw [h9]
   (go_simp; try rfl)
  refine StepsAt.val 11 (.pointer (some ⟨gb0, 7, none⟩)) rfl (fun _ _ => rfl) rfl rfl (fun x wx hb hd => ?_) ?_
  ·(go_simp; try rfl)
  refine StepsAt.val 12 (.int .i64 (oT o)) rfl (fun _ _ => rfl) rfl rfl (fun x wx hb hd => ?_) ?_
  ·have h11 : x 11 = .pointer (some ⟨gb0, 7, none⟩) := hd 11 (by kernel_rfl)
   have cc := ((ZX0.out.below hb ZX0.out.lt).cell 7).trans (show _ = some (.int .i64 (oT o)) from rfl)
   rw [h11]
   (go_simp; try rfl)
  refine StepsAt.cons 13 (fun _ _ _ h hb => (h.below hb).more hb.size) (fun _ _ => rfl) rfl rfl (fun x wx hb hd K hK => ?_) ?_
  ·have h2 : Hid (x 2 = .int .i64 (oC o)) := hd 2 (by kernel_rfl)
   have h4 : Hid (x 4 = .int .i64 (oQ o)) := hd 4 (by kernel_rfl)
   have h6 : Hid (x 6 = .int .i64 (oK o)) := hd 6 (by kernel_rfl)
   have h8 : Hid (x 8 = .int .i64 (oR o)) := hd 8 (by kernel_rfl)
   have h10 : Hid (x 10 = .int .i64 (oS o)) := hd 10 (by kernel_rfl)
   have h12 : Hid (x 12 = .int .i64 (oT o)) := hd 12 (by kernel_rfl)
   refine wp_run (w' := wx.alloc (.cells (rowsE InK (nsO o)).toArray 3)) (.slice (some ⟨wx.heap.size, 0, none⟩) 6 6) ?_ (hK.out _ _ ((Below.refl _ _).alloc (Nat.le_refl _) _) (rows_new (nsO o) _ wx 6 rfl (by decide)))
   rw [h2.out, h4.out, h6.out, h8.out, h10.out, h12.out]
   (go_simp; try rfl)
  refine StepsAt.cons 14 (fun _ _ _ h hb => (h.below hb).more hb.size) (fun _ _ => rfl) rfl rfl (fun x wx hb hd K hK => ?_) ?_
  ·have h13 : RdE InK wx.heap.size wx (x 13) (nsO o) := hd 13 (by kernel_rfl)
   go_simp
   refine (numbers_any (x 13) (nsO o) _ h13 HF.out (by show 6 ≤ 100; decide)).mono ?_
   rintro e w99 ⟨v99, rfl, hown, hb99⟩
   exact hK.out _ _ hb99 hown.rd
  refine StepsAt.val 15 (.pointer (some ⟨gb0, 3, none⟩)) rfl (fun _ _ => rfl) rfl rfl (fun x wx hb hd => ?_) ?_
  ·(go_simp; try rfl)
  refine StepsAt.val 16 (txt (oP o)) rfl (fun _ _ => rfl) rfl rfl (fun x wx hb hd => ?_) ?_
  ·have h15 : x 15 = .pointer (some ⟨gb0, 3, none⟩) := hd 15 (by kernel_rfl)
   have cc := ((ZX0.out.below hb ZX0.out.lt).cell 3).trans (show _ = some (txt (oP o)) from rfl)
   rw [h15]
   (go_simp; try rfl)
  refine StepsAt.cons 17 (fun _ _ _ h hb => (h.below hb).more hb.size) (fun _ _ => rfl) rfl rfl (fun x wx hb hd K hK => ?_) ?_
  ·have h16 : Hid (x 16 = txt (oP o)) := hd 16 (by kernel_rfl)
   go_simp
   refine calls_args (args2 := #[.slice none 0 0, txt (oP o)]) (by rw [h16.out]) ?_
   refine (text_any (.slice none 0 0) [] (ba (oP o)) _ (Rd.nil _ _) (by have := HL.out; rw [ba_size]; simp only [List.length_nil]; omega)).mono ?_
   rintro e w99 ⟨v99, rfl, hown, hb99⟩
   exact hK.out _ _ hb99 (show Rd _ _ _ (encS (ba (oP o))) from hown.rd)
  refine StepsAt.val 18 (.pointer (some ⟨gb0, 4, none⟩)) rfl (fun _ _ => rfl) rfl rfl (fun x wx hb hd => ?_) ?_
  ·(go_simp; try rfl)
  refine StepsAt.val 19 (txt (oV o)) rfl (fun _ _ => rfl) rfl rfl (fun x wx hb hd => ?_) ?_
  ·have h18 : x 18 = .pointer (some ⟨gb0, 4, none⟩) := hd 18 (by kernel_rfl)
   have cc := ((ZX0.out.below hb ZX0.out.lt).cell 4).trans (show _ = some (txt (oV o)) from rfl)
   rw [h18]
   (go_simp; try rfl)
  refine StepsAt.cons 20 (fun _ _ _ h hb => (h.below hb).more hb.size) (fun _ _ => rfl) rfl rfl (fun x wx hb hd K hK => ?_) ?_
  ·have h19 : Hid (x 19 = txt (oV o)) := hd 19 (by kernel_rfl)
   go_simp
   refine calls_args (args2 := #[.slice none 0 0, txt (oV o)]) (by rw [h19.out]) ?_
   refine (text_any (.slice none 0 0) [] (ba (oV o)) _ (Rd.nil _ _) (by have := HL.out; rw [ba_size]; simp only [List.length_nil]; omega)).mono ?_
   rintro e w99 ⟨v99, rfl, hown, hb99⟩
   exact hK.out _ _ hb99 (show Rd _ _ _ (encS (ba (oV o))) from hown.rd)
  refine StepsAt.cons 21 (fun _ _ _ h hb => h.keep hb) (fun _ _ => rfl) rfl rfl (fun x wx hb hd K hK => ?_) ?_
  ·have h0 : Hid (x 0 = .slice A l.length c) := hd 0 (by kernel_rfl)
   have h14 : Rd wx.heap.size wx (x 14) (encIs (nsO o)) := hd 14 (by kernel_rfl)
   have h17 : Rd wx.heap.size wx (x 17) (encX (oP o)) := hd 17 (by kernel_rfl)
   have h20 : Rd wx.heap.size wx (x 20) (encX (oV o)) := hd 20 (by kernel_rfl)
   obtain ⟨A1, c1, e1, -, -⟩ := h14.shape
   obtain ⟨A2, c2, e2, -, -⟩ := h17.shape
   obtain ⟨A3, c3, e3, -, -⟩ := h20.shape
   rw [e1] at h14
   rw [e2] at h17
   rw [e3] at h20
   refine wp_run (w' := wx.alloc (.cells (rowsE SlK [(A, l.length, c), (A1, (encIs (nsO o)).length, c1), (A2, (encX (oP o)).length, c2), (A3, (encX (oV o)).length, c3)]).toArray 92)) (.slice (some ⟨wx.heap.size, 0, none⟩) 4 4) ?_ (hK.out _ _ ((Below.refl _ _).alloc (Nat.le_refl _) _) (Four.new _ _ _ _ _ wx ((ZR.out.below hb).more hb.size) h14 h17 h20))
   rw [h0.out, e1, e2, e3]
   (go_simp; try rfl)
  refine StepsAt.cons 22 (fun _ _ _ h hb => h.belowB hb (Nat.le_refl _)) (fun _ _ => rfl) rfl rfl (fun x wx hb hd K hK => ?_) ?_
  ·have h21 : Four l (encIs (nsO o)) (encX (oP o)) (encX (oV o)) (x 21) wx := hd 21 (by kernel_rfl)
   go_simp
   refine (concat4 l (encIs (nsO o)) (encX (oP o)) (encX (oV o)) (x 21) _ h21 (by have h1 := HL.out; have h2 := encIs_len (nsO o); have h3 : (nsO o).length = 6 := rfl; have h4 := encX_len (oP o); have h5 := encX_len (oV o); omega)).mono ?_
   rintro e w99 ⟨v99, rfl, hown, hb99⟩
   exact hK.out _ _ hb99 (hown.base hb.size)
  refine StepsAt.cons 23 (fun _ _ _ h hb => h.belowB hb (Nat.le_refl _)) (fun _ _ => rfl) rfl rfl (fun x wx hb hd K hK => ?_) ?_
  ·have h22 : Own 5 wx y0.heap.size (x 22) (l ++ ((encIs (nsO o)) ++ ((encX (oP o)) ++ (encX (oV o))))) := hd 22 (by kernel_rfl)
   refine wp_run (w' := wx) (x 22) ?_ (hK.out _ _ (Below.refl _ _) h22)
   (go_simp; try rfl)
  exact StepsAt.done
 case fin =>
  intro x wx hb hd
  have hx0 : x 0 = .slice A l.length c := hd 0 (by omega)
  have hx1 : x 1 = .pointer (some ⟨gb0, 0, none⟩) := hd 1 (by omega)
  have hx2 : x 2 = .int .i64 (oC o) := hd 2 (by omega)
  have hx3 : x 3 = .pointer (some ⟨gb0, 1, none⟩) := hd 3 (by omega)
  have hx4 : x 4 = .int .i64 (oQ o) := hd 4 (by omega)
  have hx5 : x 5 = .pointer (some ⟨gb0, 2, none⟩) := hd 5 (by omega)
  have hx6 : x 6 = .int .i64 (oK o) := hd 6 (by omega)
  have hx7 : x 7 = .pointer (some ⟨gb0, 5, none⟩) := hd 7 (by omega)
  have hx8 : x 8 = .int .i64 (oR o) := hd 8 (by omega)
  have hx9 : x 9 = .pointer (some ⟨gb0, 6, none⟩) := hd 9 (by omega)
  have hx10 : x 10 = .int .i64 (oS o) := hd 10 (by omega)
  have hx11 : x 11 = .pointer (some ⟨gb0, 7, none⟩) := hd 11 (by omega)
  have hx12 : x 12 = .int .i64 (oT o) := hd 12 (by omega)
  have hx15 : x 15 = .pointer (some ⟨gb0, 3, none⟩) := hd 15 (by omega)
  have hx16 : x 16 = txt (oP o) := hd 16 (by omega)
  have hx18 : x 18 = .pointer (some ⟨gb0, 4, none⟩) := hd 18 (by omega)
  have hx19 : x 19 = txt (oV o) := hd 19 (by omega)
  refine AnyTill.any (S := fun _ => True) (m := 24) _ _ _ _ ?_
  refine AnyTill.done (by kernel_rfl) ?_
  refine NoPanic.normal ?_
  try dsimp only
  rw [hx0, hx1, hx2, hx3, hx4, hx5, hx6, hx7, hx8, hx9, hx10, hx11, hx12, hx15, hx16, hx18, hx19]
  have EF := lhd hb
  have HO := lhd (show Own 5 wx y0.heap.size (x 23) (l ++ ((encIs (nsO o)) ++ ((encX (oP o)) ++ (encX (oV o))))) from hd 23 (by omega))
  clear hx0 hx1 hx2 hx3 hx4 hx5 hx6 hx7 hx8 hx9 hx10 hx11 hx12 hx15 hx16 hx18 hx19 hd hb
  have P1_w := lhd (EB0.out.trans (EF.out.mono EB0.out.size))
  obtain ⟨vz, hvz⟩ : ∃ q, x 23 = q := ⟨_, rfl⟩
  rw [hvz] at HO ⊢
  clear hvz
  go_wp2
  go_ret
  refine ⟨vz, rfl, ?_, P1_w.out⟩
  have e : l ++ encO o = l ++ ((encIs (nsO o)) ++ ((encX (oP o)) ++ (encX (oV o)))) := rfl
  rw [e]
  exact HO.out.base EB0.out.size
def bas (l : List (List UInt8)) : List ByteArray := l.map fun x => ⟨x.toArray⟩
theorem bas_length (l : List (List UInt8)) : (bas l).length = l.length := by simp [bas]
theorem joinL_take (l : List (List UInt8)) (i : Nat) : (joinL (l.take i)).length ≤ (joinL l).length := by
 have h : joinL l = joinL (l.take i) ++ joinL (l.drop i) := by
  conv => lhs; rw [← List.take_append_drop i l]
  simp only [joinL, List.flatMap_append]
 rw [h]; simp
theorem OwnS.empty (e : TypeId) (w : World) (base : Nat) (hb : base ≤ w.heap.size) : OwnS e (w.alloc (.cells #[] e)) base (.slice (some ⟨w.heap.size, 0, none⟩) 0 0) [] :=
 World.ownsRow_made w #[] 0 hb (by decide) rfl
theorem bas_at (l : List (List UInt8)) (i : Nat) (hi : i < l.length) (x : List UInt8) (hx : l.getD i [] = x) : (bas l)[i]'(by rw [bas_length]; exact hi) = ⟨x.toArray⟩ := by
 simp only [bas, List.getElem_map]
 congr 2
 rw [← hx, List.getD_eq_getElem?_getD, List.getElem?_eq_getElem hi]
 rfl
theorem rightB_long (s : List UInt8) (h : 100 < s.length) : rightB s = false := by
 unfold rightB
 have : decide (s.length ≤ 100) = false := by simp; omega
 rw [this]; simp
def Lists (l : List (List UInt8)) (f : Nat) (w : World) (e : Ending) (w' : World) : Prop :=
 ∃ v, e = .returned (.tuple #[v, .int .i64 (f : Int)]) ∧ OwnS 9 w' w.heap.size v (bas l) ∧ Below w.heap.size w w'
def namesL (s : List UInt8) : List (List UInt8) := if rightB s = true then cutL s else []
def namesE (s : List UInt8) : Nat := if rightB s = true then 0 else 13
theorem names_yes (s : List UInt8) (h : rightB s = true) : namesL s = cutL s ∧ namesE s = 0 := by simp [namesL, namesE, h]
theorem names_not (s : List UInt8) (h : rightB s = false) : namesL s = [] ∧ namesE s = 13 := by simp [namesL, namesE, h]
theorem rightB_len (s : List UInt8) (h : rightB s = true) : s.length ≤ 100 ∧ (cutL s).all nameB = true ∧ slashB s = true ∧ (cutL s).length ≤ 8 := by
 unfold rightB at h
 simp only [Bool.and_eq_true, decide_eq_true_eq] at h
 exact ⟨h.1.1.1, h.1.1.2, h.1.2, h.2⟩
theorem joinL_split (s nm : List UInt8) : (joinL (splitL nm s)).length = 1 + nm.length + s.length := by
 induction s generalizing nm with
 | nil => simp [splitL, joinL]; omega
 | cons c r ih =>
   rw [splitL]
   split
   ·rw [joinL_cons]
    have := ih []
    simp at this ⊢; omega
   ·have := ih (nm ++ [c]); simp at this ⊢; omega
theorem joinL_cut (s : List UInt8) : (joinL (cutL s)).length ≤ s.length := by
 match s with
 | [] => simp [cutL, joinL]
 | c :: r =>
   rw [cutL]
   split
   ·split
    ·simp [joinL]
    ·rw [joinL_split]; simp; omega
   ·simp [joinL]
theorem RdS.take {B : Nat} {w : World} {A : Option Addr} {n c : Nat} {l : List ByteArray} (h : RdS B w (.slice A n c) l) (k : Nat) (hk : k ≤ n) : RdS B w (.slice A k c) (l.take k) := by
 obtain ⟨A', c', hv, hc, hm, hn, hr⟩ := h
 injection hv with h1 h2 h3
 subst h1 h2 h3
 have hl : (l.take k).length = k := by simp; omega
 refine ⟨A, c, by rw [hl], by rw [hl]; omega, hm, hn, fun a ha => ⟨fun h0 => (hr a ha).1 (by omega), fun j hj => ?_⟩⟩
 rw [(hr a ha).2 j (by omega)]
 simp
def parentS (s : List UInt8) : List UInt8 := if rightB s = true ∧ cutL s ≠ [] then madeL ((cutL s).take ((cutL s).length - 1)) else []
def parentE (s : List UInt8) : Nat := if rightB s = true then (if cutL s = [] then 6 else 0) else 13
theorem parent_not (s : List UInt8) (h : rightB s = false) : parentS s = [] ∧ parentE s = 13 := by simp [parentS, parentE, h]
theorem parent_root (s : List UInt8) (h : rightB s = true) (h2 : cutL s = []) : parentS s = [] ∧ parentE s = 6 := by simp [parentS, parentE, h, h2]
theorem parent_yes (s : List UInt8) (h : rightB s = true) (h2 : cutL s ≠ []) : parentS s = madeL ((cutL s).take ((cutL s).length - 1)) ∧ parentE s = 0 := by simp [parentS, parentE, h, h2]
def Says (l : List UInt8) (f : Nat) (w : World) (e : Ending) (w' : World) : Prop := e = .returned (.tuple #[txt l, .int .i64 (f : Int)]) ∧ Below w.heap.size w w'
theorem aheadL_diff : ∀ (a b : List (List UInt8)) (i : Nat), i < a.length → i < b.length → (∀ j, j < i → a.getD j [] = b.getD j []) → a.getD i [] ≠ b.getD i [] → aheadL a b = lessB (a.getD i []) (b.getD i [])
 | [], _, _, h, _, _, _ => by simp at h
 | _ :: _, [], _, _, h, _, _ => by simp at h
 | x :: a, y :: b, i, h, h2, hj, hd => by
   unfold aheadL
   cases i with
   | zero =>
     have : x ≠ y := by simpa using hd
     rw [if_neg this]
     rfl
   | succ i =>
     have h0 : x = y := by simpa using hj 0 (by omega)
     rw [if_pos h0]
     simpa using aheadL_diff a b i (by simpa using h) (by simpa using h2) (fun j hj2 => by simpa using hj (j + 1) (by omega)) (by simpa using hd)
theorem aheadL_end : ∀ (a b : List (List UInt8)), (∀ i, i < a.length → i < b.length → a.getD i [] = b.getD i []) → aheadL a b = decide (a.length < b.length)
 | [], [], _ => rfl
 | [], _ :: _, _ => by simp [aheadL]
 | _ :: _, [], _ => by simp [aheadL]
 | x :: a, y :: b, hd => by
   unfold aheadL
   have h0 : x = y := by simpa using hd 0 (by simp) (by simp)
   rw [if_pos h0, aheadL_end a b (fun i h1 h2 => by simpa using hd (i + 1) (by simpa using h1) (by simpa using h2))]
   simp
def belowB (p q : List UInt8) : Bool := rightB p && rightB q && belowL (cutL p) (cutL q)
def aheadB (p q : List UInt8) : Bool := rightB p && rightB q && aheadL (cutL p) (cutL q)
theorem aheadB_not (p q : List UInt8) (h : (rightB p && rightB q) = false) : aheadB p q = false := by simp [aheadB, h]
theorem aheadB_yes (p q : List UInt8) (h : rightB p = true) (h2 : rightB q = true) : aheadB p q = aheadL (cutL p) (cutL q) := by simp [aheadB, h, h2]
theorem namesE_or (p : List UInt8) : (rightB p = true ∧ namesE p = 0 ∧ namesL p = cutL p) ∨ (rightB p = false ∧ namesE p = 13 ∧ namesL p = []) := by
 cases h : rightB p
 ·exact .inr ⟨rfl, (names_not p h).2, (names_not p h).1⟩
 ·exact .inl ⟨rfl, (names_yes p h).2, (names_yes p h).1⟩
theorem txt_ne (x y : List UInt8) (h : x ≠ y) : (x == y) = false := by simpa using h
def headS : List UInt8 → List UInt8
 | [] => []
 | c :: r => if c = 47 then [] else c :: headS r
def tailS : List UInt8 → List UInt8
 | [] => []
 | c :: r => if c = 47 then r else tailS r
def hasS : List UInt8 → Bool
 | [] => false
 | c :: r => if c = 47 then true else hasS r
theorem hasS_not : ∀ s, hasS s = false → headS s = s ∧ tailS s = []
 | [], _ => ⟨rfl, rfl⟩
 | c :: r, h => by
   unfold hasS at h
   by_cases hc : c = 47
   ·rw [if_pos hc] at h; cases h
   ·rw [if_neg hc] at h
    obtain ⟨h1, h2⟩ := hasS_not r h
    unfold headS tailS
    rw [if_neg hc, if_neg hc, h1, h2]
    exact ⟨rfl, rfl⟩
theorem hasS_yes : ∀ s, hasS s = true → s = headS s ++ 47 :: tailS s
 | [], h => by cases h
 | c :: r, h => by
   unfold hasS at h
   by_cases hc : c = 47
   ·unfold headS tailS
    rw [if_pos hc, if_pos hc, hc]
    rfl
   ·rw [if_neg hc] at h
    unfold headS tailS
    rw [if_neg hc, if_neg hc, List.cons_append, ← hasS_yes r h]
theorem hasS_len (s : List UInt8) (h : hasS s = true) : (headS s).length + 1 + (tailS s).length = s.length := by
 have e := congrArg List.length (hasS_yes s h)
 simp at e
 omega
theorem headS_take (s : List UInt8) (h : hasS s = true) : s.take (headS s).length = headS s := by
 have e := congrArg (List.take (headS s).length) (hasS_yes s h)
 exact e.trans (by simp)
theorem tailS_drop (s : List UInt8) (h : hasS s = true) : s.drop ((headS s).length + 1) = tailS s := by
 have e := congrArg (List.drop ((headS s).length + 1)) (hasS_yes s h)
 exact e.trans (by rw [← List.drop_drop]; simp)
theorem headS_le (s : List UInt8) : (headS s).length ≤ s.length := by
 cases h : hasS s
 ·rw [(hasS_not s h).1]; exact Nat.le_refl _
 ·have := hasS_len s h; omega
theorem index_head : ∀ s, Lib.indexByte s 47 = if hasS s = true then ((headS s).length : Int) else -1
 | [] => rfl
 | c :: r => by
   unfold Lib.indexByte hasS headS
   by_cases hc : c = 47
   ·subst hc; simp
   ·have h1 : (c == 47) = false := by simpa using hc
    rw [h1, if_neg hc, if_neg hc, index_head r]
    cases h : hasS r <;> simp
theorem split_head : ∀ s nm, splitL nm s = if hasS s = true then (nm ++ headS s) :: splitL [] (tailS s) else [nm ++ s]
 | [], nm => by simp [splitL, hasS]
 | c :: r, nm => by
   by_cases hc : c = 47
   ·simp [splitL, hasS, headS, tailS, hc]
   ·simp only [splitL, hasS, headS, tailS, if_neg hc]
    rw [split_head r (nm ++ [c])]
    simp
theorem split_not (s : List UInt8) (h : hasS s = false) : splitL [] s = [s] := by rw [split_head, h]; simp
theorem split_yes (s : List UInt8) (h : hasS s = true) : splitL [] s = headS s :: splitL [] (tailS s) := by rw [split_head, h]; simp
theorem split_count : ∀ s nm, (splitL nm s).length = s.count 47 + 1
 | [], nm => rfl
 | c :: r, nm => by
   unfold splitL
   by_cases hc : c = 47
   ·subst hc
    rw [if_pos rfl, List.length_cons, split_count r [], List.count_cons_self]
   ·rw [if_neg hc, split_count r, List.count_cons_of_ne (by simpa using hc)]
theorem right_root : rightB [47] = true := by decide
theorem right_many (p : List UInt8) (h : 8 < p.count 47) : rightB p = false := by
 cases p with
 | nil => rfl
 | cons c r =>
   by_cases hc : c = 47
   ·subst hc
    have hr : r ≠ [] := by
     intro e; subst e; simp at h
    have e : (cutL (47 :: r)).length = r.count 47 + 1 := by
     rw [cutL, if_pos rfl, if_neg hr, split_count]
    rw [List.count_cons_self] at h
    unfold rightB
    have : decide ((cutL (47 :: r)).length ≤ 8) = false := by rw [e]; simp; omega
    rw [this]; simp
   ·unfold rightB slashB
    simp [hc]
theorem right_start (p : List UInt8) (h : slashB p = false) : rightB p = false := by
 unfold rightB
 rw [h]; simp
theorem right_rest (r : List UInt8) (hr : r ≠ []) (hl : (47 :: r).length ≤ 100) (hc : (47 :: r).count 47 ≤ 8) : rightB (47 :: r) = (splitL [] r).all nameB := by
 have e : cutL (47 :: r) = splitL [] r := by rw [cutL, if_pos rfl, if_neg hr]
 rw [List.count_cons_self] at hc
 have h3 : (splitL [] r).length ≤ 8 := by rw [split_count]; omega
 unfold rightB
 rw [e]
 simp [slashB, h3]
 intro _
 simpa using hl
theorem slash_prefix (p : List UInt8) : Lib.hasPrefix p [47] = slashB p := by
 cases p with
 | nil => rfl
 | cons c r =>
   unfold Lib.hasPrefix slashB
   by_cases hc : c = 47
   ·subst hc; simp [List.isPrefixOf]
   ·have : ((47 : UInt8) == c) = false := by simpa using fun e => hc e.symm
    simp [List.isPrefixOf, this, hc]
theorem slash_trim (p : List UInt8) (h : slashB p = true) : p = 47 :: Lib.trimPrefix p [47] := by
 cases p with
 | nil => cases h
 | cons c r =>
   have hc : c = 47 := by simpa [slashB] using h
   subst hc
   unfold Lib.trimPrefix
   rw [slash_prefix, h]
   rfl
theorem right_slash (p : List UInt8) (h : rightB p = true) : slashB p = true := (rightB_len p h).2.2.1
theorem cut_root (p : List UInt8) (h : slashB p = true) : cutL p = [] ↔ p = [47] := by
 cases p with
 | nil => cases h
 | cons c r =>
   have hc : c = 47 := by simpa [slashB] using h
   subst hc
   rw [cutL, if_pos rfl]
   by_cases hr : r = []
   ·subst hr; simp
   ·rw [if_neg hr]
    constructor
    ·intro e
     have := split_count r []
     rw [e] at this; simp at this
    ·intro e; injection e with _ e; exact absurd e hr
theorem join_cut (p : List UInt8) (h : slashB p = true) (h2 : p ≠ [47]) : joinL (cutL p) = p := by
 have e := made_cut p h
 have hn : cutL p ≠ [] := fun e => h2 ((cut_root p h).1 e)
 unfold madeL at e
 split at e
 ·rename_i hj
  cases hc : cutL p with
  | nil => exact absurd hc hn
  | cons x l => rw [hc] at hj; simp [joinL] at hj
 ·exact e
theorem right_names (p : List UInt8) (h : rightB p = true) : ∀ y ∈ cutL p, y.all chrB = true := by
 intro y hy
 have h1 := (rightB_len p h).2.1
 rw [List.all_eq_true] at h1
 have := h1 y hy
 unfold nameB at this
 simp only [Bool.and_eq_true] at this
 exact this.1.1
theorem last_slash (p : List UInt8) (h : rightB p = true) (h1 : p ≠ [47]) : ∃ m : Nat, m < p.length ∧ p.getD m 0 = 47 ∧ (∀ j, m < j → j < p.length → p.getD j 0 ≠ 47) ∧ parentE p = 0 ∧ parentS p = if m = 0 then [47] else p.take m := by
 have sp := right_slash p h
 have hj := join_cut p sp h1
 have hn : cutL p ≠ [] := fun e => h1 ((cut_root p sp).1 e)
 obtain ⟨l, x, hlx⟩ : ∃ l x, cutL p = l ++ [x] := ⟨(cutL p).dropLast, (cutL p).getLast hn, (List.dropLast_concat_getLast hn).symm⟩
 have hx := right_names p h x (by rw [hlx]; simp)
 have e : p = joinL l ++ 47 :: x := by rw [← hj, hlx, joinL_snoc]
 have hy := parent_yes p h hn
 refine ⟨(joinL l).length, ?_, ?_, ?_, hy.2, ?_⟩
 ·have := congrArg List.length e
  simp at this; omega
 ·rw [e]; simp
 ·intro j hj1 hj2 hc
  have hl := congrArg List.length e
  simp at hl
  rw [e] at hc
  rw [List.getD_eq_getElem?_getD, List.getElem?_append_right (by omega)] at hc
  obtain ⟨k, hk⟩ : ∃ k, j - (joinL l).length = k + 1 := ⟨j - (joinL l).length - 1, by omega⟩
  rw [hk, List.getElem?_cons_succ, List.getElem?_eq_getElem (by omega)] at hc
  rw [List.all_eq_true] at hx
  have := hx _ (List.getElem_mem (l := x) (n := k) (by omega))
  simp at hc
  rw [hc] at this
  exact absurd this (by decide)
 ·rw [hy.1, hlx]
  simp only [List.length_append, List.length_cons, List.length_nil, Nat.zero_add, Nat.add_sub_cancel]
  rw [List.take_append_of_le_length (Nat.le_refl _), List.take_length]
  unfold madeL
  by_cases h0 : joinL l = []
  ·rw [if_pos h0, h0]; rfl
  ·rw [if_neg h0, if_neg (fun h2 => h0 (List.eq_nil_of_length_eq_zero h2))]
   conv => rhs; rw [e]
   simp
theorem last_of (p : List UInt8) (m : Nat) (hm : m < p.length) (h1 : p.getD m 0 = 47) (h2 : ∀ j, m < j → j < p.length → p.getD j 0 ≠ 47) : Lib.lastIndexByte ⟨p.toArray⟩ 47 = (m : Int) := by
 have hsz : (⟨p.toArray⟩ : ByteArray).size = p.length := rfl
 have hb : ∀ j, j < p.length → (⟨p.toArray⟩ : ByteArray).data[j]! = p.getD j 0 := by
  intro j hj
  rw [getElem!_pos _ j (by simpa using hj)]
  simp [List.getD_eq_getElem?_getD, List.getElem?_eq_getElem hj]
 unfold Lib.lastIndexByte
 rw [hsz]
 rcases Lib.lastIdx_spec ⟨p.toArray⟩ 47 p.length with ⟨_, hn⟩ | ⟨i, hi, e, hc, hn⟩
 ·have := hn m hm
  rw [hb m hm, h1] at this
  exact absurd rfl this
 ·rw [e]
  rw [hb i hi] at hc
  have hci : p.getD i 0 = 47 := by
   apply UInt8.toNat_inj.1
   have : ((47 : UInt8).toNat : Int) = 47 := rfl
   omega
  by_cases h : i < m
  ·have := hn m h hm
   rw [hb m hm, h1] at this
   exact absurd rfl this
  ·by_cases h3 : m < i
   ·exact absurd hci (h2 i h3 hi)
   ·congr 1; omega
end Go.Proofs.YtgfobinklijkpaaGreatDoor
