/-
  The program's orders: how one is written, and a reply. Each theorem states its own conditions.
-/
import Derived.Test.YtmlpiembglmggaaNY
namespace Go.Proofs.Ytmlpiembglmggaa
open Go.RowKit
theorem wp_run {P : Program} {o : Oper} {a : Act} {w w' : World} {K : Act → World → Prop} {Q : Exit → Act → World → Prop} (v : Value) (h : (execOp a.eval o).run P w = .ok (.value v) w') (hK : K (a.put o.dst v) w') : Oper.wp P o a w K Q := by
  unfold Oper.wp
  rw [h]
  exact hK
/-- A slice of four byte slices, each read. -/
def Four (l0 l1 l2 l3 : List UInt8) (v : Value) (w : World) : Prop := ∃ vs : List SlT, vs.length = 4 ∧ RdE SlK w.heap.size w v vs ∧ ∀ j, j < 4 → Rd w.heap.size w (slv (vs.getD j sl0)) ([l0, l1, l2, l3].getD j [])
theorem Four.keep {l0 l1 l2 l3 : List UInt8} {v : Value} {w w' : World} (h : Four l0 l1 l2 l3 v w) (hb : Below w.heap.size w w') : Four l0 l1 l2 l3 v w' := by
  obtain ⟨vs, h1, h2, h3⟩ := h
  exact ⟨vs, h1, (h2.below hb).more hb.size, fun j hj => ((h3 j hj).below hb).more hb.size⟩
theorem Four.new {l0 l1 l2 l3 : List UInt8} (s0 s1 s2 s3 : SlT) (e : TypeId) (w : World) (h0 : Rd w.heap.size w (slv s0) l0) (h1 : Rd w.heap.size w (slv s1) l1) (h2 : Rd w.heap.size w (slv s2) l2) (h3 : Rd w.heap.size w (slv s3) l3) :
    Four l0 l1 l2 l3 (.slice (some ⟨w.heap.size, 0, none⟩) 4 4) (w.alloc (.cells (rowsE SlK [s0, s1, s2, s3]).toArray e)) := by
  have hb : Below w.heap.size w (w.alloc (.cells (rowsE SlK [s0, s1, s2, s3]).toArray e)) := (Below.refl _ _).alloc (Nat.le_refl _) _
  refine ⟨[s0, s1, s2, s3], rfl, ?_, ?_⟩
  · have h := RdE.ofBlks (E := SlK) (l := [s0, s1, s2, s3]) (heap_alloc_new w (.cells (rowsE SlK [s0, s1, s2, s3]).toArray e)) (by show (4 : Nat) ≤ _; decide)
    exact h.more (by simp)
  · intro j hj
    match j, hj with
    | 0, _ => exact (h0.below hb).more hb.size
    | 1, _ => exact (h1.below hb).more hb.size
    | 2, _ => exact (h2.below hb).more hb.size
    | 3, _ => exact (h3.below hb).more hb.size
theorem rows_new (ns : List Int) (e : TypeId) (w : World) (n : Nat) (hn : ns.length = n) (hm : n ≤ 100) : RdE InK (w.alloc (.cells (rowsE InK ns).toArray e)).heap.size (w.alloc (.cells (rowsE InK ns).toArray e)) (.slice (some ⟨w.heap.size, 0, none⟩) n n) ns := by
  subst hn
  have h := RdE.ofBlks (E := InK) (l := ns) (heap_alloc_new w (.cells (rowsE InK ns).toArray e)) (by unfold maxLen; omega)
  exact h.more (by simp)
theorem concat4 (l0 l1 l2 l3 : List UInt8) (v : Value) (w : World) (h : Four l0 l1 l2 l3 v w) (hl : l0.length + l1.length + l2.length + l3.length ≤ 10000000) : Calls Try.prog 24 #[v] w (Gives w.heap.size (l0 ++ (l1 ++ (l2 ++ l3))) w) := by
  obtain ⟨vs, h1, h2, h3⟩ := h
  have hc := concat_any vs [l0, l1, l2, l3] v w h2 h1 h3 (by simp; omega) (by show 4 ≤ 100; decide)
  have e : [l0, l1, l2, l3].flatten = l0 ++ (l1 ++ (l2 ++ l3)) := by simp
  rw [e] at hc
  exact hc

set_option maxRecDepth 1000000 in
set_option maxHeartbeats 16000000 in
theorem orPut_any (v : Value) (l : List UInt8) (o : Or) (w : World) (hr : Rd w.heap.size w v l) (hf : ∀ n ∈ nsO o, fit64 n) (hl : l.length + (oP o).length + (oV o).length ≤ 1000000) : Calls Try.prog 10 #[v, .agg (orc o).toArray] w (Gives w.heap.size (l ++ encO o) w) := by
  have HR := Lib.hid hr
  have HF := Lib.hid hf
  have HL := Lib.hid hl
  obtain ⟨A, c, rfl, -, -⟩ := hr.shape
  clear hr hf hl
  go_enter Try.func10, Try.ntmps10
  go_wp2_with (refine wpList_box_blk rfl 24 _ rfl (orc o) rfl ?_)
  intro y0 b1 b2 b3
  obtain ⟨gb0, hg⟩ : ∃ g, w.heap.size = g := ⟨_, rfl⟩
  have X0 := Lib.hid b1
  have EB0 := Lib.hid b3
  rw [hg] at X0 ⊢
  clear b1 b2 b3 hg
  go_wp2
  have ZX0 := Lib.hid X0.out
  have ZR := Lib.hid ((HR.out.below EB0.out).more EB0.out.size)
  refine wp_region_rely2 24 0 (fun x => ⟨#[.slice A l.length c, .agg (orc o).toArray, undef, .pointer (some { block := gb0, off := 0 }), x 23, x 0, x 1, x 2, x 3, x 4, x 5, x 6, x 7, x 8, x 9, x 10, x 11, x 12, x 13, x 14, x 15, x 16, x 17, x 18, x 19, x 20, x 21, x 22], []⟩) (fun jj => ([eqV (.slice A l.length c), eqV (.pointer (some ⟨gb0, 0, none⟩)), eqV (.int .i64 (oC o)), eqV (.pointer (some ⟨gb0, 1, none⟩)), eqV (.int .i64 (oQ o)), eqV (.pointer (some ⟨gb0, 2, none⟩)), eqV (.int .i64 (oK o)), eqV (.pointer (some ⟨gb0, 5, none⟩)), eqV (.int .i64 (oR o)), eqV (.pointer (some ⟨gb0, 6, none⟩)), eqV (.int .i64 (oS o)), eqV (.pointer (some ⟨gb0, 7, none⟩)), eqV (.int .i64 (oT o)), ((fun v w => RdE InK w.heap.size w v (nsO o))), ((fun v w => Rd w.heap.size w v (encIs (nsO o)))), eqV (.pointer (some ⟨gb0, 3, none⟩)), eqV (txt (oP o)), ((fun v w => Rd w.heap.size w v (encX (oP o)))), eqV (.pointer (some ⟨gb0, 4, none⟩)), eqV (txt (oV o)), ((fun v w => Rd w.heap.size w v (encX (oV o)))), ((fun v w => Four l (encIs (nsO o)) (encX (oP o)) (encX (oV o)) v w)), ((fun v w => Own 5 w y0.heap.size v (l ++ ((encIs (nsO o)) ++ ((encX (oP o)) ++ (encX (oV o))))))), ((fun v w => Own 5 w y0.heap.size v (l ++ ((encIs (nsO o)) ++ ((encX (oP o)) ++ (encX (oV o)))))))] : List (Value → World → Prop)).getD jj (fun _ _ => True)) rfl ⟨fun kk => [_, _, _, _, _, _, _, _, _, _, _, _, _, _, _, _, _, _, _, _, _, _, _, _].getD kk undef, rfl⟩ (by kernel_rfl) (by kernel_rfl) ?steps ?fin
  case steps =>
    refine StepsAt.val 0 (.slice A l.length c) rfl (fun _ _ => rfl) rfl rfl (fun x wx hb hd => ?_) ?_
    · first | (go_simp; done) | (go_simp; rfl)
    refine StepsAt.val 1 (.pointer (some ⟨gb0, 0, none⟩)) rfl (fun _ _ => rfl) rfl rfl (fun x wx hb hd => ?_) ?_
    · first | (go_simp; done) | (go_simp; rfl)
    refine StepsAt.val 2 (.int .i64 (oC o)) rfl (fun _ _ => rfl) rfl rfl (fun x wx hb hd => ?_) ?_
    · have h1 : x 1 = .pointer (some ⟨gb0, 0, none⟩) := hd 1 (by kernel_rfl)
      have cc := ((ZX0.out.below hb ZX0.out.lt).cell 0).trans (show _ = some (.int .i64 (oC o)) from rfl)
      rw [h1]
      first | (go_simp; done) | (go_simp; rfl)
    refine StepsAt.val 3 (.pointer (some ⟨gb0, 1, none⟩)) rfl (fun _ _ => rfl) rfl rfl (fun x wx hb hd => ?_) ?_
    · first | (go_simp; done) | (go_simp; rfl)
    refine StepsAt.val 4 (.int .i64 (oQ o)) rfl (fun _ _ => rfl) rfl rfl (fun x wx hb hd => ?_) ?_
    · have h3 : x 3 = .pointer (some ⟨gb0, 1, none⟩) := hd 3 (by kernel_rfl)
      have cc := ((ZX0.out.below hb ZX0.out.lt).cell 1).trans (show _ = some (.int .i64 (oQ o)) from rfl)
      rw [h3]
      first | (go_simp; done) | (go_simp; rfl)
    refine StepsAt.val 5 (.pointer (some ⟨gb0, 2, none⟩)) rfl (fun _ _ => rfl) rfl rfl (fun x wx hb hd => ?_) ?_
    · first | (go_simp; done) | (go_simp; rfl)
    refine StepsAt.val 6 (.int .i64 (oK o)) rfl (fun _ _ => rfl) rfl rfl (fun x wx hb hd => ?_) ?_
    · have h5 : x 5 = .pointer (some ⟨gb0, 2, none⟩) := hd 5 (by kernel_rfl)
      have cc := ((ZX0.out.below hb ZX0.out.lt).cell 2).trans (show _ = some (.int .i64 (oK o)) from rfl)
      rw [h5]
      first | (go_simp; done) | (go_simp; rfl)
    refine StepsAt.val 7 (.pointer (some ⟨gb0, 5, none⟩)) rfl (fun _ _ => rfl) rfl rfl (fun x wx hb hd => ?_) ?_
    · first | (go_simp; done) | (go_simp; rfl)
    refine StepsAt.val 8 (.int .i64 (oR o)) rfl (fun _ _ => rfl) rfl rfl (fun x wx hb hd => ?_) ?_
    · have h7 : x 7 = .pointer (some ⟨gb0, 5, none⟩) := hd 7 (by kernel_rfl)
      have cc := ((ZX0.out.below hb ZX0.out.lt).cell 5).trans (show _ = some (.int .i64 (oR o)) from rfl)
      rw [h7]
      first | (go_simp; done) | (go_simp; rfl)
    refine StepsAt.val 9 (.pointer (some ⟨gb0, 6, none⟩)) rfl (fun _ _ => rfl) rfl rfl (fun x wx hb hd => ?_) ?_
    · first | (go_simp; done) | (go_simp; rfl)
    refine StepsAt.val 10 (.int .i64 (oS o)) rfl (fun _ _ => rfl) rfl rfl (fun x wx hb hd => ?_) ?_
    · have h9 : x 9 = .pointer (some ⟨gb0, 6, none⟩) := hd 9 (by kernel_rfl)
      have cc := ((ZX0.out.below hb ZX0.out.lt).cell 6).trans (show _ = some (.int .i64 (oS o)) from rfl)
      rw [h9]
      first | (go_simp; done) | (go_simp; rfl)
    refine StepsAt.val 11 (.pointer (some ⟨gb0, 7, none⟩)) rfl (fun _ _ => rfl) rfl rfl (fun x wx hb hd => ?_) ?_
    · first | (go_simp; done) | (go_simp; rfl)
    refine StepsAt.val 12 (.int .i64 (oT o)) rfl (fun _ _ => rfl) rfl rfl (fun x wx hb hd => ?_) ?_
    · have h11 : x 11 = .pointer (some ⟨gb0, 7, none⟩) := hd 11 (by kernel_rfl)
      have cc := ((ZX0.out.below hb ZX0.out.lt).cell 7).trans (show _ = some (.int .i64 (oT o)) from rfl)
      rw [h11]
      first | (go_simp; done) | (go_simp; rfl)
    refine StepsAt.cons 13 (fun _ _ _ h hb => (h.below hb).more hb.size) (fun _ _ => rfl) rfl rfl (fun x wx hb hd K hK => ?_) ?_
    · have h2 : Hid (x 2 = .int .i64 (oC o)) := hd 2 (by kernel_rfl)
      have h4 : Hid (x 4 = .int .i64 (oQ o)) := hd 4 (by kernel_rfl)
      have h6 : Hid (x 6 = .int .i64 (oK o)) := hd 6 (by kernel_rfl)
      have h8 : Hid (x 8 = .int .i64 (oR o)) := hd 8 (by kernel_rfl)
      have h10 : Hid (x 10 = .int .i64 (oS o)) := hd 10 (by kernel_rfl)
      have h12 : Hid (x 12 = .int .i64 (oT o)) := hd 12 (by kernel_rfl)
      refine wp_run (w' := wx.alloc (.cells (rowsE InK (nsO o)).toArray 3)) (.slice (some ⟨wx.heap.size, 0, none⟩) 6 6) ?_ (hK.out _ _ ((Below.refl _ _).alloc (Nat.le_refl _) _) (rows_new (nsO o) _ wx 6 rfl (by decide)))
      rw [h2.out, h4.out, h6.out, h8.out, h10.out, h12.out]
      first | (go_simp; done) | (go_simp; rfl)
    refine StepsAt.cons 14 (fun _ _ _ h hb => (h.below hb).more hb.size) (fun _ _ => rfl) rfl rfl (fun x wx hb hd K hK => ?_) ?_
    · have h13 : RdE InK wx.heap.size wx (x 13) (nsO o) := hd 13 (by kernel_rfl)
      go_simp
      refine (numbers_any (x 13) (nsO o) _ h13 HF.out (by show 6 ≤ 100; decide)).mono ?_
      rintro e w99 ⟨v99, rfl, hown, hb99⟩
      exact hK.out _ _ hb99 hown.rd
    refine StepsAt.val 15 (.pointer (some ⟨gb0, 3, none⟩)) rfl (fun _ _ => rfl) rfl rfl (fun x wx hb hd => ?_) ?_
    · first | (go_simp; done) | (go_simp; rfl)
    refine StepsAt.val 16 (txt (oP o)) rfl (fun _ _ => rfl) rfl rfl (fun x wx hb hd => ?_) ?_
    · have h15 : x 15 = .pointer (some ⟨gb0, 3, none⟩) := hd 15 (by kernel_rfl)
      have cc := ((ZX0.out.below hb ZX0.out.lt).cell 3).trans (show _ = some (txt (oP o)) from rfl)
      rw [h15]
      first | (go_simp; done) | (go_simp; rfl)
    refine StepsAt.cons 17 (fun _ _ _ h hb => (h.below hb).more hb.size) (fun _ _ => rfl) rfl rfl (fun x wx hb hd K hK => ?_) ?_
    · have h16 : Hid (x 16 = txt (oP o)) := hd 16 (by kernel_rfl)
      go_simp
      refine calls_args (args2 := #[.slice none 0 0, txt (oP o)]) (by rw [h16.out]) ?_
      refine (text_any (.slice none 0 0) [] (ba (oP o)) _ (Rd.nil _ _) (by have := HL.out; rw [ba_size]; simp only [List.length_nil]; omega)).mono ?_
      rintro e w99 ⟨v99, rfl, hown, hb99⟩
      exact hK.out _ _ hb99 (show Rd _ _ _ (encS (ba (oP o))) from hown.rd)
    refine StepsAt.val 18 (.pointer (some ⟨gb0, 4, none⟩)) rfl (fun _ _ => rfl) rfl rfl (fun x wx hb hd => ?_) ?_
    · first | (go_simp; done) | (go_simp; rfl)
    refine StepsAt.val 19 (txt (oV o)) rfl (fun _ _ => rfl) rfl rfl (fun x wx hb hd => ?_) ?_
    · have h18 : x 18 = .pointer (some ⟨gb0, 4, none⟩) := hd 18 (by kernel_rfl)
      have cc := ((ZX0.out.below hb ZX0.out.lt).cell 4).trans (show _ = some (txt (oV o)) from rfl)
      rw [h18]
      first | (go_simp; done) | (go_simp; rfl)
    refine StepsAt.cons 20 (fun _ _ _ h hb => (h.below hb).more hb.size) (fun _ _ => rfl) rfl rfl (fun x wx hb hd K hK => ?_) ?_
    · have h19 : Hid (x 19 = txt (oV o)) := hd 19 (by kernel_rfl)
      go_simp
      refine calls_args (args2 := #[.slice none 0 0, txt (oV o)]) (by rw [h19.out]) ?_
      refine (text_any (.slice none 0 0) [] (ba (oV o)) _ (Rd.nil _ _) (by have := HL.out; rw [ba_size]; simp only [List.length_nil]; omega)).mono ?_
      rintro e w99 ⟨v99, rfl, hown, hb99⟩
      exact hK.out _ _ hb99 (show Rd _ _ _ (encS (ba (oV o))) from hown.rd)
    refine StepsAt.cons 21 (fun _ _ _ h hb => h.keep hb) (fun _ _ => rfl) rfl rfl (fun x wx hb hd K hK => ?_) ?_
    · have h0 : Hid (x 0 = .slice A l.length c) := hd 0 (by kernel_rfl)
      have h14 : Rd wx.heap.size wx (x 14) (encIs (nsO o)) := hd 14 (by kernel_rfl)
      have h17 : Rd wx.heap.size wx (x 17) (encX (oP o)) := hd 17 (by kernel_rfl)
      have h20 : Rd wx.heap.size wx (x 20) (encX (oV o)) := hd 20 (by kernel_rfl)
      obtain ⟨A1, c1, e1, -, -⟩ := h14.shape
      obtain ⟨A2, c2, e2, -, -⟩ := h17.shape
      obtain ⟨A3, c3, e3, -, -⟩ := h20.shape
      rw [e1] at h14
      rw [e2] at h17
      rw [e3] at h20
      refine wp_run (w' := wx.alloc (.cells (rowsE SlK [(A, l.length, c), (A1, (encIs (nsO o)).length, c1), (A2, (encX (oP o)).length, c2), (A3, (encX (oV o)).length, c3)]).toArray 22)) (.slice (some ⟨wx.heap.size, 0, none⟩) 4 4) ?_ (hK.out _ _ ((Below.refl _ _).alloc (Nat.le_refl _) _) (Four.new _ _ _ _ _ wx ((ZR.out.below hb).more hb.size) h14 h17 h20))
      rw [h0.out, e1, e2, e3]
      first | (go_simp; done) | (go_simp; rfl)
    refine StepsAt.cons 22 (fun _ _ _ h hb => h.belowB hb (Nat.le_refl _)) (fun _ _ => rfl) rfl rfl (fun x wx hb hd K hK => ?_) ?_
    · have h21 : Four l (encIs (nsO o)) (encX (oP o)) (encX (oV o)) (x 21) wx := hd 21 (by kernel_rfl)
      go_simp
      refine (concat4 l (encIs (nsO o)) (encX (oP o)) (encX (oV o)) (x 21) _ h21 (by have h1 := HL.out; have h2 := encIs_len (nsO o); have h3 : (nsO o).length = 6 := rfl; have h4 := encX_len (oP o); have h5 := encX_len (oV o); omega)).mono ?_
      rintro e w99 ⟨v99, rfl, hown, hb99⟩
      exact hK.out _ _ hb99 (hown.base hb.size)
    refine StepsAt.cons 23 (fun _ _ _ h hb => h.belowB hb (Nat.le_refl _)) (fun _ _ => rfl) rfl rfl (fun x wx hb hd K hK => ?_) ?_
    · have h22 : Own 5 wx y0.heap.size (x 22) (l ++ ((encIs (nsO o)) ++ ((encX (oP o)) ++ (encX (oV o))))) := hd 22 (by kernel_rfl)
      refine wp_run (w' := wx) (x 22) ?_ (hK.out _ _ (Below.refl _ _) h22)
      first | (go_simp; done) | (go_simp; rfl)
    exact StepsAt.done
  case fin =>
    intro x wx hb hd
    have hx0 : x 0 = .slice A l.length c := hd 0 (by omega)
    have hx1 : x 1 = .pointer (some ⟨gb0, 0, none⟩) := hd 1 (by omega)
    have hx2 : x 2 = .int .i64 (oC o) := hd 2 (by omega)
    have hx3 : x 3 = .pointer (some ⟨gb0, 1, none⟩) := hd 3 (by omega)
    have hx4 : x 4 = .int .i64 (oQ o) := hd 4 (by omega)
    have hx5 : x 5 = .pointer (some ⟨gb0, 2, none⟩) := hd 5 (by omega)
    have hx6 : x 6 = .int .i64 (oK o) := hd 6 (by omega)
    have hx7 : x 7 = .pointer (some ⟨gb0, 5, none⟩) := hd 7 (by omega)
    have hx8 : x 8 = .int .i64 (oR o) := hd 8 (by omega)
    have hx9 : x 9 = .pointer (some ⟨gb0, 6, none⟩) := hd 9 (by omega)
    have hx10 : x 10 = .int .i64 (oS o) := hd 10 (by omega)
    have hx11 : x 11 = .pointer (some ⟨gb0, 7, none⟩) := hd 11 (by omega)
    have hx12 : x 12 = .int .i64 (oT o) := hd 12 (by omega)
    have hx15 : x 15 = .pointer (some ⟨gb0, 3, none⟩) := hd 15 (by omega)
    have hx16 : x 16 = txt (oP o) := hd 16 (by omega)
    have hx18 : x 18 = .pointer (some ⟨gb0, 4, none⟩) := hd 18 (by omega)
    have hx19 : x 19 = txt (oV o) := hd 19 (by omega)
    refine AnyTill.any (S := fun _ => True) (m := 24) _ _ _ _ ?_
    refine AnyTill.done (by kernel_rfl) ?_
    refine NoPanic.normal ?_
    try dsimp only
    rw [hx0, hx1, hx2, hx3, hx4, hx5, hx6, hx7, hx8, hx9, hx10, hx11, hx12, hx15, hx16, hx18, hx19]
    have EF := Lib.hid hb
    have HO := Lib.hid (show Own 5 wx y0.heap.size (x 23) (l ++ ((encIs (nsO o)) ++ ((encX (oP o)) ++ (encX (oV o))))) from hd 23 (by omega))
    clear hx0 hx1 hx2 hx3 hx4 hx5 hx6 hx7 hx8 hx9 hx10 hx11 hx12 hx15 hx16 hx18 hx19 hd hb

    have P1_w := Lib.hid (EB0.out.trans (EF.out.mono EB0.out.size))
    obtain ⟨vz, hvz⟩ : ∃ q, x 23 = q := ⟨_, rfl⟩
    rw [hvz] at HO ⊢
    clear hvz
    go_wp2
    go_ret
    refine ⟨vz, rfl, ?_, P1_w.out⟩
    have e : l ++ encO o = l ++ ((encIs (nsO o)) ++ ((encX (oP o)) ++ (encX (oV o)))) := rfl
    rw [e]
    exact HO.out.base EB0.out.size
theorem encL_len9 (ss : List ByteArray) : (encL ss).length ≤ 9 + (encs ss).length := by
  unfold encL
  rw [List.length_append, enc_length]
  have := wid_le ss.length
  omega
set_option maxRecDepth 1000000 in
set_option maxHeartbeats 16000000 in
theorem orPutR_any (v : Value) (l : List UInt8) (o : Rp) (nv : Value) (w : World) (hr : Rd w.heap.size w v l) (hr2 : RdS w.heap.size w nv (pN o)) (hf : ∀ n ∈ nsR o, fit64 n) (hl : l.length + (pV o).length + (encs (pN o)).length ≤ 1000000) (hn : (pN o).length ≤ 1000000) : Calls Try.prog 13 #[v, .agg (rpc o nv).toArray] w (Gives w.heap.size (l ++ encR o) w) := by
  have HR := Lib.hid hr
  have HF := Lib.hid hf
  have HL := Lib.hid hl
  obtain ⟨An, cn, rfl, -, -⟩ := hr2.shape
  have HS := Lib.hid hr2
  have HNN := Lib.hid hn
  clear hr2 hn
  obtain ⟨A, c, rfl, -, -⟩ := hr.shape
  clear hr hf hl
  go_enter Try.func13, Try.ntmps13
  go_wp2_with (refine wpList_box_blk rfl 28 _ rfl (rpc o (.slice An (pN o).length cn)) rfl ?_)
  intro y0 b1 b2 b3
  obtain ⟨gb0, hg⟩ : ∃ g, w.heap.size = g := ⟨_, rfl⟩
  have X0 := Lib.hid b1
  have EB0 := Lib.hid b3
  rw [hg] at X0 ⊢
  clear b1 b2 b3 hg
  go_wp2
  have ZX0 := Lib.hid X0.out
  have ZR := Lib.hid ((HR.out.below EB0.out).more EB0.out.size)
  have ZS := Lib.hid ((HS.out.below EB0.out).more EB0.out.size)
  refine wp_region_rely2 20 0 (fun x => ⟨#[.slice A l.length c, .agg (rpc o (Value.slice An (pN o).length cn)).toArray, undef, .pointer (some { block := gb0, off := 0 }), x 19, x 0, x 1, x 2, x 3, x 4, x 5, x 6, x 7, x 8, x 9, x 10, x 11, x 12, x 13, x 14, x 15, x 16, x 17, x 18], []⟩) (fun jj => ([eqV (.slice A l.length c), eqV (.pointer (some ⟨gb0, 0, none⟩)), eqV (.int .i64 (pC o)), eqV (.pointer (some ⟨gb0, 1, none⟩)), eqV (.int .i64 (pQ o)), eqV (.pointer (some ⟨gb0, 2, none⟩)), eqV (.int .i64 (pE o)), eqV (.pointer (some ⟨gb0, 4, none⟩)), eqV (.int .i64 (pR o)), ((fun v w => RdE InK w.heap.size w v (nsR o))), ((fun v w => Rd w.heap.size w v (encIs (nsR o)))), eqV (.pointer (some ⟨gb0, 3, none⟩)), eqV (txt (pV o)), ((fun v w => Rd w.heap.size w v (encX (pV o)))), eqV (.pointer (some ⟨gb0, 5, none⟩)), eqV (.slice An (pN o).length cn), ((fun v w => Rd w.heap.size w v (encL (pN o)))), ((fun v w => Four l (encIs (nsR o)) (encX (pV o)) (encL (pN o)) v w)), ((fun v w => Own 5 w y0.heap.size v (l ++ ((encIs (nsR o)) ++ ((encX (pV o)) ++ (encL (pN o))))))), ((fun v w => Own 5 w y0.heap.size v (l ++ ((encIs (nsR o)) ++ ((encX (pV o)) ++ (encL (pN o)))))))] : List (Value → World → Prop)).getD jj (fun _ _ => True)) rfl ⟨fun kk => [_, _, _, _, _, _, _, _, _, _, _, _, _, _, _, _, _, _, _, _].getD kk undef, rfl⟩ (by kernel_rfl) (by kernel_rfl) ?steps ?fin
  case steps =>
    refine StepsAt.val 0 (.slice A l.length c) rfl (fun _ _ => rfl) rfl rfl (fun x wx hb hd => ?_) ?_
    · first | (go_simp; done) | (go_simp; rfl)
    refine StepsAt.val 1 (.pointer (some ⟨gb0, 0, none⟩)) rfl (fun _ _ => rfl) rfl rfl (fun x wx hb hd => ?_) ?_
    · first | (go_simp; done) | (go_simp; rfl)
    refine StepsAt.val 2 (.int .i64 (pC o)) rfl (fun _ _ => rfl) rfl rfl (fun x wx hb hd => ?_) ?_
    · have h1 : x 1 = .pointer (some ⟨gb0, 0, none⟩) := hd 1 (by kernel_rfl)
      have cc := ((ZX0.out.below hb ZX0.out.lt).cell 0).trans (show _ = some (.int .i64 (pC o)) from rfl)
      rw [h1]
      first | (go_simp; done) | (go_simp; rfl)
    refine StepsAt.val 3 (.pointer (some ⟨gb0, 1, none⟩)) rfl (fun _ _ => rfl) rfl rfl (fun x wx hb hd => ?_) ?_
    · first | (go_simp; done) | (go_simp; rfl)
    refine StepsAt.val 4 (.int .i64 (pQ o)) rfl (fun _ _ => rfl) rfl rfl (fun x wx hb hd => ?_) ?_
    · have h3 : x 3 = .pointer (some ⟨gb0, 1, none⟩) := hd 3 (by kernel_rfl)
      have cc := ((ZX0.out.below hb ZX0.out.lt).cell 1).trans (show _ = some (.int .i64 (pQ o)) from rfl)
      rw [h3]
      first | (go_simp; done) | (go_simp; rfl)
    refine StepsAt.val 5 (.pointer (some ⟨gb0, 2, none⟩)) rfl (fun _ _ => rfl) rfl rfl (fun x wx hb hd => ?_) ?_
    · first | (go_simp; done) | (go_simp; rfl)
    refine StepsAt.val 6 (.int .i64 (pE o)) rfl (fun _ _ => rfl) rfl rfl (fun x wx hb hd => ?_) ?_
    · have h5 : x 5 = .pointer (some ⟨gb0, 2, none⟩) := hd 5 (by kernel_rfl)
      have cc := ((ZX0.out.below hb ZX0.out.lt).cell 2).trans (show _ = some (.int .i64 (pE o)) from rfl)
      rw [h5]
      first | (go_simp; done) | (go_simp; rfl)
    refine StepsAt.val 7 (.pointer (some ⟨gb0, 4, none⟩)) rfl (fun _ _ => rfl) rfl rfl (fun x wx hb hd => ?_) ?_
    · first | (go_simp; done) | (go_simp; rfl)
    refine StepsAt.val 8 (.int .i64 (pR o)) rfl (fun _ _ => rfl) rfl rfl (fun x wx hb hd => ?_) ?_
    · have h7 : x 7 = .pointer (some ⟨gb0, 4, none⟩) := hd 7 (by kernel_rfl)
      have cc := ((ZX0.out.below hb ZX0.out.lt).cell 4).trans (show _ = some (.int .i64 (pR o)) from rfl)
      rw [h7]
      first | (go_simp; done) | (go_simp; rfl)
    refine StepsAt.cons 9 (fun _ _ _ h hb => (h.below hb).more hb.size) (fun _ _ => rfl) rfl rfl (fun x wx hb hd K hK => ?_) ?_
    · have h2 : Hid (x 2 = .int .i64 (pC o)) := hd 2 (by kernel_rfl)
      have h4 : Hid (x 4 = .int .i64 (pQ o)) := hd 4 (by kernel_rfl)
      have h6 : Hid (x 6 = .int .i64 (pE o)) := hd 6 (by kernel_rfl)
      have h8 : Hid (x 8 = .int .i64 (pR o)) := hd 8 (by kernel_rfl)
      refine wp_run (w' := wx.alloc (.cells (rowsE InK (nsR o)).toArray 3)) (.slice (some ⟨wx.heap.size, 0, none⟩) 4 4) ?_ (hK.out _ _ ((Below.refl _ _).alloc (Nat.le_refl _) _) (rows_new (nsR o) _ wx 4 rfl (by decide)))
      rw [h2.out, h4.out, h6.out, h8.out]
      first | (go_simp; done) | (go_simp; rfl)
    refine StepsAt.cons 10 (fun _ _ _ h hb => (h.below hb).more hb.size) (fun _ _ => rfl) rfl rfl (fun x wx hb hd K hK => ?_) ?_
    · have h9 : RdE InK wx.heap.size wx (x 9) (nsR o) := hd 9 (by kernel_rfl)
      go_simp
      refine (numbers_any (x 9) (nsR o) _ h9 HF.out (by show 4 ≤ 100; decide)).mono ?_
      rintro e w99 ⟨v99, rfl, hown, hb99⟩
      exact hK.out _ _ hb99 hown.rd
    refine StepsAt.val 11 (.pointer (some ⟨gb0, 3, none⟩)) rfl (fun _ _ => rfl) rfl rfl (fun x wx hb hd => ?_) ?_
    · first | (go_simp; done) | (go_simp; rfl)
    refine StepsAt.val 12 (txt (pV o)) rfl (fun _ _ => rfl) rfl rfl (fun x wx hb hd => ?_) ?_
    · have h11 : x 11 = .pointer (some ⟨gb0, 3, none⟩) := hd 11 (by kernel_rfl)
      have cc := ((ZX0.out.below hb ZX0.out.lt).cell 3).trans (show _ = some (txt (pV o)) from rfl)
      rw [h11]
      first | (go_simp; done) | (go_simp; rfl)
    refine StepsAt.cons 13 (fun _ _ _ h hb => (h.below hb).more hb.size) (fun _ _ => rfl) rfl rfl (fun x wx hb hd K hK => ?_) ?_
    · have h12 : Hid (x 12 = txt (pV o)) := hd 12 (by kernel_rfl)
      go_simp
      refine calls_args (args2 := #[.slice none 0 0, txt (pV o)]) (by rw [h12.out]) ?_
      refine (text_any (.slice none 0 0) [] (ba (pV o)) _ (Rd.nil _ _) (by have := HL.out; rw [ba_size]; simp only [List.length_nil]; omega)).mono ?_
      rintro e w99 ⟨v99, rfl, hown, hb99⟩
      exact hK.out _ _ hb99 (show Rd _ _ _ (encS (ba (pV o))) from hown.rd)
    refine StepsAt.val 14 (.pointer (some ⟨gb0, 5, none⟩)) rfl (fun _ _ => rfl) rfl rfl (fun x wx hb hd => ?_) ?_
    · first | (go_simp; done) | (go_simp; rfl)
    refine StepsAt.val 15 (.slice An (pN o).length cn) rfl (fun _ _ => rfl) rfl rfl (fun x wx hb hd => ?_) ?_
    · have h14 : x 14 = .pointer (some ⟨gb0, 5, none⟩) := hd 14 (by kernel_rfl)
      have cc := ((ZX0.out.below hb ZX0.out.lt).cell 5).trans (show _ = some (.slice An (pN o).length cn) from rfl)
      rw [h14]
      first | (go_simp; done) | (go_simp; rfl)
    refine StepsAt.cons 16 (fun _ _ _ h hb => (h.below hb).more hb.size) (fun _ _ => rfl) rfl rfl (fun x wx hb hd K hK => ?_) ?_
    · have h15 : Hid (x 15 = .slice An (pN o).length cn) := hd 15 (by kernel_rfl)
      go_simp
      refine calls_args (args2 := #[.slice none 0 0, .slice An (pN o).length cn]) (by rw [h15.out]) ?_
      refine (list_any (.slice none 0 0) (.slice An (pN o).length cn) [] (pN o) _ (Rd.nil _ _) ((ZS.out.below hb).more hb.size) (by have := HL.out; simp only [List.length_nil]; omega) (by have := HNN.out; omega)).mono ?_
      rintro e w99 ⟨v99, rfl, hown, hb99⟩
      exact hK.out _ _ hb99 (show Rd _ _ _ (encL (pN o)) from hown.rd)
    refine StepsAt.cons 17 (fun _ _ _ h hb => h.keep hb) (fun _ _ => rfl) rfl rfl (fun x wx hb hd K hK => ?_) ?_
    · have h0 : Hid (x 0 = .slice A l.length c) := hd 0 (by kernel_rfl)
      have h10 : Rd wx.heap.size wx (x 10) (encIs (nsR o)) := hd 10 (by kernel_rfl)
      have h13 : Rd wx.heap.size wx (x 13) (encX (pV o)) := hd 13 (by kernel_rfl)
      have h16 : Rd wx.heap.size wx (x 16) (encL (pN o)) := hd 16 (by kernel_rfl)
      obtain ⟨A1, c1, e1, -, -⟩ := h10.shape
      obtain ⟨A2, c2, e2, -, -⟩ := h13.shape
      obtain ⟨A3, c3, e3, -, -⟩ := h16.shape
      rw [e1] at h10
      rw [e2] at h13
      rw [e3] at h16
      refine wp_run (w' := wx.alloc (.cells (rowsE SlK [(A, l.length, c), (A1, (encIs (nsR o)).length, c1), (A2, (encX (pV o)).length, c2), (A3, (encL (pN o)).length, c3)]).toArray 22)) (.slice (some ⟨wx.heap.size, 0, none⟩) 4 4) ?_ (hK.out _ _ ((Below.refl _ _).alloc (Nat.le_refl _) _) (Four.new _ _ _ _ _ wx ((ZR.out.below hb).more hb.size) h10 h13 h16))
      rw [h0.out, e1, e2, e3]
      first | (go_simp; done) | (go_simp; rfl)
    refine StepsAt.cons 18 (fun _ _ _ h hb => h.belowB hb (Nat.le_refl _)) (fun _ _ => rfl) rfl rfl (fun x wx hb hd K hK => ?_) ?_
    · have h17 : Four l (encIs (nsR o)) (encX (pV o)) (encL (pN o)) (x 17) wx := hd 17 (by kernel_rfl)
      go_simp
      refine (concat4 l (encIs (nsR o)) (encX (pV o)) (encL (pN o)) (x 17) _ h17 (by have h1 := HL.out; have h2 := encIs_len (nsR o); have h3 : (nsR o).length = 4 := rfl; have h4 := encX_len (pV o); have h5 := encL_len9 (pN o); omega)).mono ?_
      rintro e w99 ⟨v99, rfl, hown, hb99⟩
      exact hK.out _ _ hb99 (hown.base hb.size)
    refine StepsAt.cons 19 (fun _ _ _ h hb => h.belowB hb (Nat.le_refl _)) (fun _ _ => rfl) rfl rfl (fun x wx hb hd K hK => ?_) ?_
    · have h18 : Own 5 wx y0.heap.size (x 18) (l ++ ((encIs (nsR o)) ++ ((encX (pV o)) ++ (encL (pN o))))) := hd 18 (by kernel_rfl)
      refine wp_run (w' := wx) (x 18) ?_ (hK.out _ _ (Below.refl _ _) h18)
      first | (go_simp; done) | (go_simp; rfl)
    exact StepsAt.done
  case fin =>
    intro x wx hb hd
    have hx0 : x 0 = .slice A l.length c := hd 0 (by omega)
    have hx1 : x 1 = .pointer (some ⟨gb0, 0, none⟩) := hd 1 (by omega)
    have hx2 : x 2 = .int .i64 (pC o) := hd 2 (by omega)
    have hx3 : x 3 = .pointer (some ⟨gb0, 1, none⟩) := hd 3 (by omega)
    have hx4 : x 4 = .int .i64 (pQ o) := hd 4 (by omega)
    have hx5 : x 5 = .pointer (some ⟨gb0, 2, none⟩) := hd 5 (by omega)
    have hx6 : x 6 = .int .i64 (pE o) := hd 6 (by omega)
    have hx7 : x 7 = .pointer (some ⟨gb0, 4, none⟩) := hd 7 (by omega)
    have hx8 : x 8 = .int .i64 (pR o) := hd 8 (by omega)
    have hx11 : x 11 = .pointer (some ⟨gb0, 3, none⟩) := hd 11 (by omega)
    have hx12 : x 12 = txt (pV o) := hd 12 (by omega)
    have hx14 : x 14 = .pointer (some ⟨gb0, 5, none⟩) := hd 14 (by omega)
    have hx15 : x 15 = .slice An (pN o).length cn := hd 15 (by omega)
    refine AnyTill.any (S := fun _ => True) (m := 20) _ _ _ _ ?_
    refine AnyTill.done (by kernel_rfl) ?_
    refine NoPanic.normal ?_
    try dsimp only
    rw [hx0, hx1, hx2, hx3, hx4, hx5, hx6, hx7, hx8, hx11, hx12, hx14, hx15]
    have EF := Lib.hid hb
    have HO := Lib.hid (show Own 5 wx y0.heap.size (x 19) (l ++ ((encIs (nsR o)) ++ ((encX (pV o)) ++ (encL (pN o))))) from hd 19 (by omega))
    clear hx0 hx1 hx2 hx3 hx4 hx5 hx6 hx7 hx8 hx11 hx12 hx14 hx15 hd hb

    have P1_w := Lib.hid (EB0.out.trans (EF.out.mono EB0.out.size))
    obtain ⟨vz, hvz⟩ : ∃ q, x 19 = q := ⟨_, rfl⟩
    rw [hvz] at HO ⊢
    clear hvz
    go_wp2
    go_ret
    refine ⟨vz, rfl, ?_, P1_w.out⟩
    have e : l ++ encR o = l ++ ((encIs (nsR o)) ++ ((encX (pV o)) ++ (encL (pN o)))) := rfl
    rw [e]
    exact HO.out.base EB0.out.size
end Go.Proofs.Ytmlpiembglmggaa
