/-
  Package lms: leafHash and upperHash, for every input that they are called with.
-/
import Derived.Test.YtnemkefmlffigaaGreatL2
namespace Go.Proofs.YtnemkefmlffigaaGreat
open Go.RowKit

set_option maxRecDepth 100000 in
set_option maxHeartbeats 1000000 in
theorem leafHash_any (I p : List UInt8) (r : Nat) (w : World) (hI : I.length = 16) (hp : p.length = 32) (hr : r < 4294967296) : Calls Tryz.prog 53 #[.agg (bys I).toArray, .int .i64 (r : Int), .agg (bys p).toArray] w (Arr (bys (leafL I r p)) w) := by
  have HI := Lib.hid hI
  have HP := Lib.hid hp
  have HR := Lib.hid hr
  have H22 : Hid ((Tryz.prog.info? 22).map (·.size) = some (bys I).length) := by show _ = _; rw [bys_length, hI]; exact s22
  have H24 : Hid ((Tryz.prog.info? 23).map (·.size) = some (bys (leafL I r p)).length) := by show _ = _; rw [bys_length, leafL_length]; exact s24
  have HLZ : Hid (z32.length = (bys (leafL I r p)).length) := by show _ = _; rw [bys_length, leafL_length, z32_length]
  clear hI hp hr
  go_enter Tryz.func53, Tryz.ntmps53
  go_wp2_with (refine wpList_box_blk rfl 22 _ rfl (bys I) rfl ?_)
  intro w1 a1 a2 a3
  have A1 := Lib.hid a1
  have A2 := Lib.hid a2
  have A3 := Lib.hid a3
  clear a1 a2 a3
  go_wp2_with (refine wpList_box_blk rfl 23 _ rfl (bys p) rfl ?_)
  intro w2 a1 a2 a3
  rw [A2.out] at a1 a2 a3 ⊢
  have E0 : Hid (Blk w2 w.heap.size (bys I) 22) := A1.out.below a3 (by omega)
  have E1 : Hid (Blk w2 (w.heap.size + 1) (bys p) 23) := a1
  have EB : Hid (Below w.heap.size w w2) := A3.out.trans (a3.mono (by omega))
  have ES := Lib.hid a2
  clear a1 a2 a3 A1 A2 A3
  go_wp2_with (refine wpList_alloc_blk rfl 23 rfl _ z24 ?_)
  intro w3 a1 a2 a3
  rw [ES.out] at a1 a2 a3 ⊢
  obtain ⟨g0, hg0⟩ : ∃ g, w.heap.size = g := ⟨_, rfl⟩
  obtain ⟨g1, hg1⟩ : ∃ g, g0 + 1 = g := ⟨_, rfl⟩
  obtain ⟨gr, hg2⟩ : ∃ g, g1 + 1 = g := ⟨_, rfl⟩
  have G0 : Hid (Blk w3 g0 (bys I) 22) := by rw [← hg0]; exact E0.out.below a3 (by omega)
  have G1 : Hid (Blk w3 g1 (bys p) 23) := by rw [← hg1, ← hg0]; exact E1.out.below a3 (by omega)
  have GR : Hid (Blk w3 gr z32 23) := by rw [← hg2, ← hg1, ← hg0]; exact a1
  have GB : Hid (Below w.heap.size w w3) := EB.out.trans (a3.mono (by omega))
  have hwb : w.heap.size ≤ w3.heap.size := by omega
  have hgs : w.heap.size < gr := by omega
  rw [hg0, hg1, hg2]
  have hg00 : g0 < w3.heap.size := by omega
  have hg11 : g1 < w3.heap.size := by omega
  have hgr : gr < w3.heap.size := by omega
  clear a1 a2 a3 E0 E1 EB ES hg0 hg1 hg2
  have hg0 := hg00
  have hg1 := hg11
  go_wp2
  refine wp_region_rely2 6 1 (fun x => ⟨#[.agg (bys I).toArray, .int .i64 (r : Int), .agg (bys p).toArray, .pointer (some ⟨g0, 0, none⟩), undef, .pointer (some ⟨g1, 0, none⟩), .pointer (some ⟨gr, 0, none⟩), x 0, x 1, x 2, x 3, x 4, x 5], []⟩) (fun jj => ([eqV (.agg (bys I).toArray), eqV (.int .i64 (r : Int)), (RdN [130, 130]), eqV (.slice (some ⟨g1, 0, none⟩) 32 32), (RdLN 2 [[130, 130], p]), (eqV (.agg (bys (leafL I r p)).toArray))] : List (Value → World → Prop)).getD jj (fun _ _ => True)) rfl ⟨fun kk => [_, _, _, _, _, _].getD kk undef, rfl⟩ (by kernel_rfl) (by kernel_rfl) ?steps ?fin
  case steps =>
    refine StepsAt.val 0 (.agg (bys I).toArray) rfl (fun _ _ => rfl) rfl rfl (fun x w1 hb hd => ?_) ?_
    · exact run_load_blk 22 (.tmp 3) rfl g0 rfl (bys I) 22 (G0.out.below hb hg0) 16 5 tu22 H22.out
    refine StepsAt.val 1 (.int .i64 (r : Int)) rfl (fun _ _ => rfl) rfl rfl (fun x w1 hb hd => ?_) ?_
    · first | (go_simp; done) | (go_simp; rfl)
    refine StepsAt.cons 2 (fun _ _ _ h hb => RdN.keep h hb) (fun _ _ => rfl) rfl rfl (fun x w1 hb hd K hK => ?_) ?_
    · go_simp
      exact hK.out _ _ ((Below.refl _ _).alloc (Nat.le_refl _) _) (Own.lit 5 w1 _ 2 [130, 130] rfl (by omega) (by simp [bys])).rd
    refine StepsAt.val 3 (.slice (some ⟨g1, 0, none⟩) 32 32) rfl (fun _ _ => rfl) rfl rfl (fun x w1 hb hd => ?_) ?_
    · first | (go_simp; done) | (go_simp; rfl)
    refine StepsAt.cons 4 (fun _ _ _ h hb => RdLN.keep h hb) (fun _ _ => rfl) rfl rfl (fun x w1 hb hd K hK => ?_) ?_
    · have h2 : RdN [130, 130] (x 2) w1 := hd 2 (by kernel_rfl)
      have h3 : Hid (x 3 = .slice (some ⟨g1, 0, none⟩) 32 32) := hd 3 (by kernel_rfl)
      obtain ⟨A2, c2, e2, _, _⟩ := Rd.shape h2
      have e3 := h3.out
      have key := hK.out (.slice (some ⟨w1.heap.size, 0, none⟩) 2 2) (w1.alloc (.cells #[x 2, x 3] 34)) ((Below.refl _ _).alloc (Nat.le_refl _) _) (RdLN.two 34 w1 _ _ _ _ h2 (by rw [e3]; exact Rd.blk 32 HP.out (G1.out.below hb hg1) (Nat.lt_of_lt_of_le hg1 hb.size) (by omega)))
      simp only [Act.put, e2, e3, List.setIfInBounds_toArray, List.set_cons_zero, List.set_cons_succ] at key
      go_simp
      exact key
    refine StepsAt.cons 5 (fun _ _ _ h hb => h) (fun _ _ => rfl) rfl rfl (fun x w1 hb hd K hK => ?_) ?_
    · have h0 : Hid (x 0 = .agg (bys I).toArray) := hd 0 (by kernel_rfl)
      have h1 : Hid (x 1 = .int .i64 (r : Int)) := hd 1 (by kernel_rfl)
      have h4 : RdLN 2 [[130, 130], p] (x 4) w1 := hd 4 (by kernel_rfl)
      obtain ⟨A, e4, hl⟩ := h4
      have E4 := Lib.hid e4
      clear e4
      go_simp
      refine calls_args (args2 := #[.agg (bys I).toArray, .int .i64 (r : Int), .slice A 2 2]) (by rw [h0.out, h1.out, E4.out]) ?_
      refine (nodeHash_any I r A 2 2 [[130, 130], p] _ hl rfl HI.out HR.out ?_ ?_).mono ?_
      · have := HI.out; have := HP.out; simp [pre20_length I r HI.out]; omega
      · have := HP.out; simp; omega
      rintro e w2 ⟨rfl, hb2⟩
      exact hK.out _ _ hb2 rfl
    exact StepsAt.done
  case fin =>
    intro x w1 hb hd
    have hr : x 5 = .agg (bys (leafL I r p)).toArray := hd 5 (by omega)
    refine AnyTill.any (S := fun _ => True) (m := 7) _ _ _ _ ?_
    refine AnyTill.one (i := 6) (by kernel_rfl) rfl (by rfl) (fun K hK => ?_)
    refine wp_store_blk 23 (.tmp 6) (.tmp 12) rfl gr (bys (leafL I r p)) z32 23 rfl hr (GR.out.below hb hgr) H24.out HLZ.out (bys_one' _) ?_
    refine hK.out _ _ (.inr trivial) ?_
    clear hK K
    refine AnyTill.done (by kernel_rfl) ?_
    refine NoPanic.normal ?_
    simp only [Act.put]
    have L0 : Hid (Blk (w1.setRow gr (bys (leafL I r p)).toArray) gr (bys (leafL I r p)) 23) := (GR.out.below hb hgr).setRow
    have LB : Hid (Below w.heap.size w (w1.setRow gr (bys (leafL I r p)).toArray)) := below_setRow' (GB.out.trans (hb.mono (by omega))) (by omega) _
    clear hd hr
    go_wp2
    refine bodyPost_ret (v := .agg (bys (leafL I r p)).toArray) ?_ rfl ?_
    · exact ret_blk rfl _ _ gr 23 _ rfl L0.out 32 5 tu24 H24.out
    · exact ⟨rfl, LB.out⟩

set_option maxRecDepth 100000 in
set_option maxHeartbeats 1000000 in
theorem upperHash_any (I p q : List UInt8) (r : Nat) (w : World) (hI : I.length = 16) (hp : p.length = 32) (hq : q.length = 32) (hr : r < 4294967296) : Calls Tryz.prog 51 #[.agg (bys I).toArray, .int .i64 (r : Int), .agg (bys p).toArray, .agg (bys q).toArray] w (Arr (bys (upL I r p q)) w) := by
  have HI := Lib.hid hI
  have HP := Lib.hid hp
  have HQ := Lib.hid hq
  have HR := Lib.hid hr
  have H22 : Hid ((Tryz.prog.info? 22).map (·.size) = some (bys I).length) := by show _ = _; rw [bys_length, hI]; exact s22
  have H24 : Hid ((Tryz.prog.info? 23).map (·.size) = some (bys (upL I r p q)).length) := by show _ = _; rw [bys_length, upL_length]; exact s24
  have HLZ : Hid (z32.length = (bys (upL I r p q)).length) := by show _ = _; rw [bys_length, upL_length, z32_length]
  clear hI hp hq hr
  go_enter Tryz.func51, Tryz.ntmps51
  go_wp2_with (refine wpList_box_blk rfl 22 _ rfl (bys I) rfl ?_)
  intro w1 a1 a2 a3
  have A1 := Lib.hid a1
  have A2 := Lib.hid a2
  have A3 := Lib.hid a3
  clear a1 a2 a3
  go_wp2_with (refine wpList_box_blk rfl 23 _ rfl (bys p) rfl ?_)
  intro w2 a1 a2 a3
  rw [A2.out] at a1 a2 a3 ⊢
  have E0 : Hid (Blk w2 w.heap.size (bys I) 22) := A1.out.below a3 (by omega)
  have E1 : Hid (Blk w2 (w.heap.size + 1) (bys p) 23) := a1
  have EB : Hid (Below w.heap.size w w2) := A3.out.trans (a3.mono (by omega))
  have ES := Lib.hid a2
  clear a1 a2 a3 A1 A2 A3
  go_wp2_with (refine wpList_box_blk rfl 23 _ rfl (bys q) rfl ?_)
  intro w4 a1 a2 a3
  rw [ES.out] at a1 a2 a3 ⊢
  have F0 : Hid (Blk w4 w.heap.size (bys I) 22) := E0.out.below a3 (by omega)
  have F1 : Hid (Blk w4 (w.heap.size + 1) (bys p) 23) := E1.out.below a3 (by omega)
  have F2 : Hid (Blk w4 (w.heap.size + 1 + 1) (bys q) 23) := a1
  have FB : Hid (Below w.heap.size w w4) := EB.out.trans (a3.mono (by omega))
  have FS := Lib.hid a2
  clear a1 a2 a3 E0 E1 EB ES
  go_wp2_with (refine wpList_alloc_blk rfl 23 rfl _ z24 ?_)
  intro w3 a1 a2 a3
  rw [FS.out] at a1 a2 a3 ⊢
  obtain ⟨g0, hg0⟩ : ∃ g, w.heap.size = g := ⟨_, rfl⟩
  obtain ⟨g1, hg1⟩ : ∃ g, g0 + 1 = g := ⟨_, rfl⟩
  obtain ⟨g2, hg2⟩ : ∃ g, g1 + 1 = g := ⟨_, rfl⟩
  obtain ⟨gr, hg3⟩ : ∃ g, g2 + 1 = g := ⟨_, rfl⟩
  have G0 : Hid (Blk w3 g0 (bys I) 22) := by rw [← hg0]; exact F0.out.below a3 (by omega)
  have G1 : Hid (Blk w3 g1 (bys p) 23) := by rw [← hg1, ← hg0]; exact F1.out.below a3 (by omega)
  have G2 : Hid (Blk w3 g2 (bys q) 23) := by rw [← hg2, ← hg1, ← hg0]; exact F2.out.below a3 (by omega)
  have GR : Hid (Blk w3 gr z32 23) := by rw [← hg3, ← hg2, ← hg1, ← hg0]; exact a1
  have GB : Hid (Below w.heap.size w w3) := FB.out.trans (a3.mono (by omega))
  have hwb : w.heap.size ≤ w3.heap.size := by omega
  have hgs : w.heap.size < gr := by omega
  rw [hg0, hg1, hg2, hg3]
  have hg00 : g0 < w3.heap.size := by omega
  have hg11 : g1 < w3.heap.size := by omega
  have hg22 : g2 < w3.heap.size := by omega
  have hgr : gr < w3.heap.size := by omega
  clear a1 a2 a3 F0 F1 F2 FB FS hg0 hg1 hg2 hg3
  have hg0 := hg00
  have hg1 := hg11
  have hg2 := hg22
  go_wp2
  refine wp_region_rely2 7 1 (fun x => ⟨#[.agg (bys I).toArray, .int .i64 (r : Int), .agg (bys p).toArray, .agg (bys q).toArray, .pointer (some ⟨g0, 0, none⟩), undef, .pointer (some ⟨g1, 0, none⟩), .pointer (some ⟨g2, 0, none⟩), .pointer (some ⟨gr, 0, none⟩), x 0, x 1, x 2, x 3, x 4, x 5, x 6], []⟩) (fun jj => ([eqV (.agg (bys I).toArray), eqV (.int .i64 (r : Int)), (RdN [131, 131]), eqV (.slice (some ⟨g1, 0, none⟩) 32 32), eqV (.slice (some ⟨g2, 0, none⟩) 32 32), (RdLN 3 [[131, 131], p, q]), (eqV (.agg (bys (upL I r p q)).toArray))] : List (Value → World → Prop)).getD jj (fun _ _ => True)) rfl ⟨fun kk => [_, _, _, _, _, _, _].getD kk undef, rfl⟩ (by kernel_rfl) (by kernel_rfl) ?steps ?fin
  case steps =>
    refine StepsAt.val 0 (.agg (bys I).toArray) rfl (fun _ _ => rfl) rfl rfl (fun x w1 hb hd => ?_) ?_
    · exact run_load_blk 22 (.tmp 4) rfl g0 rfl (bys I) 22 (G0.out.below hb hg0) 16 5 tu22 H22.out
    refine StepsAt.val 1 (.int .i64 (r : Int)) rfl (fun _ _ => rfl) rfl rfl (fun x w1 hb hd => ?_) ?_
    · first | (go_simp; done) | (go_simp; rfl)
    refine StepsAt.cons 2 (fun _ _ _ h hb => RdN.keep h hb) (fun _ _ => rfl) rfl rfl (fun x w1 hb hd K hK => ?_) ?_
    · go_simp
      exact hK.out _ _ ((Below.refl _ _).alloc (Nat.le_refl _) _) (Own.lit 5 w1 _ 2 [131, 131] rfl (by omega) (by simp [bys])).rd
    refine StepsAt.val 3 (.slice (some ⟨g1, 0, none⟩) 32 32) rfl (fun _ _ => rfl) rfl rfl (fun x w1 hb hd => ?_) ?_
    · first | (go_simp; done) | (go_simp; rfl)
    refine StepsAt.val 4 (.slice (some ⟨g2, 0, none⟩) 32 32) rfl (fun _ _ => rfl) rfl rfl (fun x w1 hb hd => ?_) ?_
    · first | (go_simp; done) | (go_simp; rfl)
    refine StepsAt.cons 5 (fun _ _ _ h hb => RdLN.keep h hb) (fun _ _ => rfl) rfl rfl (fun x w1 hb hd K hK => ?_) ?_
    · have h2 : RdN [131, 131] (x 2) w1 := hd 2 (by kernel_rfl)
      have h3 : Hid (x 3 = .slice (some ⟨g1, 0, none⟩) 32 32) := hd 3 (by kernel_rfl)
      have h4 : Hid (x 4 = .slice (some ⟨g2, 0, none⟩) 32 32) := hd 4 (by kernel_rfl)
      obtain ⟨A2, c2, e2, _, _⟩ := Rd.shape h2
      have e3 := h3.out
      have e4 := h4.out
      have key := hK.out (.slice (some ⟨w1.heap.size, 0, none⟩) 3 3) (w1.alloc (.cells #[x 2, x 3, x 4] 34)) ((Below.refl _ _).alloc (Nat.le_refl _) _) (RdLN.three 34 w1 _ _ _ _ _ _ h2 (by rw [e3]; exact Rd.blk 32 HP.out (G1.out.below hb hg1) (Nat.lt_of_lt_of_le hg1 hb.size) (by omega)) (by rw [e4]; exact Rd.blk 32 HQ.out (G2.out.below hb hg2) (Nat.lt_of_lt_of_le hg2 hb.size) (by omega)))
      simp only [Act.put, e2, e3, e4, List.setIfInBounds_toArray, List.set_cons_zero, List.set_cons_succ] at key
      go_simp
      exact key
    refine StepsAt.cons 6 (fun _ _ _ h hb => h) (fun _ _ => rfl) rfl rfl (fun x w1 hb hd K hK => ?_) ?_
    · have h0 : Hid (x 0 = .agg (bys I).toArray) := hd 0 (by kernel_rfl)
      have h1 : Hid (x 1 = .int .i64 (r : Int)) := hd 1 (by kernel_rfl)
      have h5 : RdLN 3 [[131, 131], p, q] (x 5) w1 := hd 5 (by kernel_rfl)
      obtain ⟨A, e5, hl⟩ := h5
      have E4 := Lib.hid e5
      clear e5
      go_simp
      refine calls_args (args2 := #[.agg (bys I).toArray, .int .i64 (r : Int), .slice A 3 3]) (by rw [h0.out, h1.out, E4.out]) ?_
      refine (nodeHash_any I r A 3 3 [[131, 131], p, q] _ hl rfl HI.out HR.out ?_ ?_).mono ?_
      · have := HI.out; have := HP.out; have := HQ.out; simp [pre20_length I r HI.out]; omega
      · have := HP.out; have := HQ.out; simp; omega
      rintro e w2 ⟨rfl, hb2⟩
      exact hK.out _ _ hb2 rfl
    exact StepsAt.done
  case fin =>
    intro x w1 hb hd
    have hr : x 6 = .agg (bys (upL I r p q)).toArray := hd 6 (by omega)
    refine AnyTill.any (S := fun _ => True) (m := 8) _ _ _ _ ?_
    refine AnyTill.one (i := 7) (by kernel_rfl) rfl (by rfl) (fun K hK => ?_)
    refine wp_store_blk 23 (.tmp 8) (.tmp 15) rfl gr (bys (upL I r p q)) z32 23 rfl hr (GR.out.below hb hgr) H24.out HLZ.out (bys_one' _) ?_
    refine hK.out _ _ (.inr trivial) ?_
    clear hK K
    refine AnyTill.done (by kernel_rfl) ?_
    refine NoPanic.normal ?_
    simp only [Act.put]
    have L0 : Hid (Blk (w1.setRow gr (bys (upL I r p q)).toArray) gr (bys (upL I r p q)) 23) := (GR.out.below hb hgr).setRow
    have LB : Hid (Below w.heap.size w (w1.setRow gr (bys (upL I r p q)).toArray)) := below_setRow' (GB.out.trans (hb.mono (by omega))) (by omega) _
    clear hd hr
    go_wp2
    refine bodyPost_ret (v := .agg (bys (upL I r p q)).toArray) ?_ rfl ?_
    · exact ret_blk rfl _ _ gr 23 _ rfl L0.out 32 5 tu24 H24.out
    · exact ⟨rfl, LB.out⟩
end Go.Proofs.YtnemkefmlffigaaGreat
