/-
  The program's shelves: the faults of Delete. Each theorem states its own conditions.
-/
import Derived.Test.YtlpakfaoaodaiaaDoorG5
import Derived.Test.YtlpakfaoaodaiaaDoorRel4
namespace Go.Proofs.YtlpakfaoaodaiaaDoor
open Go.RowKit

/-- The function that asks for children of p, as a value. -/
def KidP (p : List UInt8) (u : Value) (w : World) : Prop := ∃ g, u = .func (.func 73) #[] #[.pointer (some ⟨g, 0, none⟩)] ∧ g < w.heap.size ∧ w.cell? ⟨g, 0, none⟩ = some (txt p)
theorem KidP.keep {p : List UInt8} {u : Value} {w w' : World} (h : KidP p u w) (hb : Below w.heap.size w w') : KidP p u w' := by
  obtain ⟨g, h1, h2, h3⟩ := h
  exact ⟨g, h1, Nat.lt_of_lt_of_le h2 hb.size, (hb.cell h2).trans h3⟩

set_option maxRecDepth 100000 in
set_option maxHeartbeats 4000000 in
/-- Delete's function of faults. -/
theorem delFn_any (l : List Nd) (p : List UInt8) (z : Int) (v : Value) (gs gp gz : Nat) (W0 : World) (hr : RdNd W0.heap.size W0 v l) (h1 : gs < W0.heap.size) (h2 : gp < W0.heap.size) (h3 : gz < W0.heap.size)
    (c1 : W0.cell? ⟨gs, 0, none⟩ = some v) (c2 : W0.cell? ⟨gp, 0, none⟩ = some (txt p)) (c3 : W0.cell? ⟨gz, 0, none⟩ = some (.int .i64 z)) :
    Calls Tryd.prog 50 #[.pointer (some ⟨gs, 0, none⟩), .pointer (some ⟨gp, 0, none⟩), .pointer (some ⟨gz, 0, none⟩)] W0 (One (.int .i64 (delF l p z)) W0) := by
  have HR := Lib.hid hr
  clear hr
  have K1 := Lib.hid c1
  have K2 := Lib.hid c2
  have K3 := Lib.hid c3
  have HB := Lib.hid (Below.refl W0.heap.size W0)
  clear c3
  go_enter Tryd.func50, Tryd.ntmps50
  go_wp2_with fail
  refine (shGet_any l p _ W0 ((HR.out.below HB.out).more HB.out.size)).mono ?_
  rintro e W0a ⟨rfl, hb⟩
  have HBa := Lib.hid (HB.out.trans (hb.mono HB.out.size))
  clear hb c1 c2
  go_wp2_with (refine wpList_alloc_blk rfl 53 rfl (ndc nd0) zPN ?_)
  intro W0b a1 a2 a3
  obtain ⟨g2, hg⟩ : ∃ g, W0a.heap.size = g := ⟨_, rfl⟩
  have A2 := Lib.hid a1
  have hBg2 : W0.heap.size ≤ g2 := by have := HBa.out.size; omega
  have HBb := Lib.hid (HBa.out.trans (a3.mono HBa.out.size))
  rw [hg] at A2 ⊢
  clear a1 a2 a3 hg
  obtain ⟨f2, hf⟩ : ∃ f, getE l p = f := ⟨_, rfl⟩
  have HF2 := Lib.hid hf
  obtain ⟨x2, hx⟩ : ∃ x, getS l p = x := ⟨_, rfl⟩
  have HX2 := Lib.hid hx
  rw [hx, hf]
  clear hx hf
  go_wp2_with (refine wpList_store_to rfl 53 _ _ rfl g2 (ndc x2) (ndc nd0) 53 rfl rfl A2.out sPN rfl (ndc_one _) ?_)
  intro W0c c1 c2 c3 c4
  have Y2 := Lib.hid c1
  have HBc := Lib.hid (HBb.out.trans (c3.mono hBg2))
  clear c1 c2 c3 c4 A2
  have HV : Hid (delF l p z = if f2 ≠ 0 then f2 else if p = [47] then 13 else if verB z (nR x2) = false then 8 else if l.any (kidN p) = true then 10 else 0) := by
    show _ = _
    unfold delF
    rw [HF2.out, HX2.out]
  by_cases h0 : f2 = 0
  rotate_left
  · have HE : Hid (delF l p z = f2) := by
      show _ = _
      rw [HV.out, if_pos h0]
    have z0 : ((f2 : Int) != 0) = true := by rw [bne_iff_ne]; omega
    clear h0
    go_wp2
    go_ret
    exact ⟨by rw [HE.out]; rfl, HBc.out⟩
  subst h0
  have c2 := (HBc.out.cell h2).trans K2.out
  by_cases hp : p = [47]
  · have HE : Hid (delF l p z = 13) := by
      show _ = _
      rw [HV.out, if_neg (by simp), if_pos hp]
    subst hp
    go_wp2
    go_ret
    exact ⟨by rw [HE.out]; rfl, HBc.out⟩
  have hpb := txt_ne p [47] hp
  have HP := Lib.hid hp
  clear hp
  have c3 := (HBc.out.cell h3).trans K3.out
  have d0 := Y2.out.at_ 0 _ rfl
  have d1 := Y2.out.at_ 1 _ rfl
  have d2 := Y2.out.at_ 2 _ rfl
  have d3 := Y2.out.at_ 3 _ rfl
  go_wp2_with fail
  refine (shOf_any x2 z W0c).mono ?_
  rintro e W1 ⟨rfl, hb⟩
  have HD := Lib.hid (HBc.out.trans (hb.mono HBc.out.size))
  clear hb d0 d1 d2 d3 c3 c2 HBa HBb HBc Y2
  obtain ⟨r, hr⟩ : ∃ r, nR x2 = r := ⟨_, rfl⟩
  rw [hr] at HV
  rw [hr]
  clear hr
  cases hv : verB z r
  · have HE : Hid (delF l p z = 8) := by
      show _ = _
      rw [HV.out, if_neg (by simp), if_neg HP.out, if_pos hv]
    clear hv
    go_wp2
    go_ret
    exact ⟨by rw [HE.out]; rfl, HD.out⟩
  have HV2 : Hid (delF l p z = if l.any (kidN p) = true then 10 else 0) := by
    show _ = _
    rw [HV.out, if_neg (by simp), if_neg HP.out, if_neg (by simp [hv])]
  clear hv
  have c1 := (HD.out.cell h1).trans K1.out
  have c2 := (HD.out.cell h2).trans K2.out
  have l1 : gs < W1.heap.size := Nat.lt_of_lt_of_le h1 HD.out.size
  have l2 : gp < W1.heap.size := Nat.lt_of_lt_of_le h2 HD.out.size
  have L1 := Lib.hid c1
  have L2 := Lib.hid c2
  clear c1 c2
  obtain ⟨B, hB⟩ : ∃ B, l.any (kidN p) = B := ⟨_, rfl⟩
  have HBB := Lib.hid hB
  clear hB
  go_wp2
  refine wp_region_rely2 6 0 (fun x => ⟨#[.pointer (some { block := gs, off := 0 }), .pointer (some { block := gp, off := 0 }), .pointer (some { block := gz, off := 0 }), .int IntKind.i64 0, .pointer (some { block := g2, off := 0 }), .int IntKind.i64 0, .tuple #[ndv x2, Value.int IntKind.i64 0], .agg #[v], txt p, .tuple #[ndv x2, Value.int IntKind.i64 0], ndv x2, .int IntKind.i64 0, .bool false, .int IntKind.i64 0, .bool false, undef, .bool false, txt p, .bool false, .bool false, .agg #[txt (nP x2), txt (nV x2), Value.int IntKind.i64 r, Value.int IntKind.i64 (nO x2)], .int IntKind.i64 z, .bool true, .bool false, x 5, x 0, x 1, x 2, x 3, x 4], []⟩) (fun jj => ([eqV (.pointer (some ⟨gs, 0, none⟩)), eqV (v), eqV (txt p), (KidP p), (eqV (.bool B)), eqV (.bool B)] : List (Value → World → Prop)).getD jj (fun _ _ => True)) rfl ⟨fun kk => [_, _, _, _, _, _].getD kk undef, rfl⟩ (by kernel_rfl) (by kernel_rfl) ?steps ?fin
  case steps =>
    refine StepsAt.val 0 (.pointer (some ⟨gs, 0, none⟩)) rfl (fun _ _ => rfl) rfl rfl (fun x wx hb hd => ?_) ?_
    · first | (go_simp; done) | (go_simp; rfl)
    refine StepsAt.val 1 (v) rfl (fun _ _ => rfl) rfl rfl (fun x wx hb hd => ?_) ?_
    · have h0 : x 0 = .pointer (some ⟨gs, 0, none⟩) := hd 0 (by kernel_rfl)
      have cc := (hb.cell l1).trans L1.out
      rw [h0]
      first | (go_simp; done) | (go_simp; rfl)
    refine StepsAt.val 2 (txt p) rfl (fun _ _ => rfl) rfl rfl (fun x wx hb hd => ?_) ?_
    · have cc := (hb.cell l2).trans L2.out
      first | (go_simp; done) | (go_simp; rfl)
    refine StepsAt.cons 3 (fun _ _ _ h hb => h.keep hb) (fun _ _ => rfl) rfl rfl (fun x wx hb hd K hK => ?_) ?_
    · have h2 : Hid (x 2 = txt p) := hd 2 (by kernel_rfl)
      go_simp
      refine calls_args (args2 := #[txt p]) (by rw [h2.out]) ?_
      refine (shChild_any p _).mono ?_
      rintro e w99 ⟨g, rfl, hk1, hk2, hb99⟩
      exact hK.out _ _ hb99 ⟨g, rfl, hk1, hk2⟩
    refine StepsAt.cons 4 (fun _ _ _ h hb => h) (fun _ _ => rfl) rfl rfl (fun x wx hb hd K hK => ?_) ?_
    · have h1 : Hid (x 1 = v) := hd 1 (by kernel_rfl)
      have h3 : KidP p (x 3) wx := hd 3 (by kernel_rfl)
      go_simp
      obtain ⟨g, hg, hk1, hk2⟩ := h3
      refine calls_args (args2 := #[v, .func (.func 73) #[] #[.pointer (some ⟨g, 0, none⟩)]]) (by rw [h1.out, hg]) ?_
      have HY := HD.out.trans (hb.mono HD.out.size)
      have HC := anyFunc_any l v 73 #[.pointer (some ⟨g, 0, none⟩)] (kidN p) _ ((HR.out.below HY).more HY.size) kidEnter (fun x W hW => kidFn_any x p g W (Nat.lt_of_lt_of_le hk1 hW.size) ((hW.cell hk1).trans hk2))
      rw [HBB.out] at HC
      refine HC.mono ?_
      rintro e w99 ⟨rfl, hb99⟩
      exact hK.out _ _ hb99 rfl
    refine StepsAt.val 5 (.bool B) rfl (fun _ _ => rfl) rfl rfl (fun x wx hb hd => ?_) ?_
    · have h4 : x 4 = .bool B := hd 4 (by kernel_rfl)
      rw [h4]
      first | (go_simp; done) | (go_simp; rfl)
    exact StepsAt.done
  case fin =>
    intro x wx hb hd
    have hx0 : x 0 = .pointer (some ⟨gs, 0, none⟩) := hd 0 (by omega)
    have hx1 : x 1 = v := hd 1 (by omega)
    have hx2 : x 2 = txt p := hd 2 (by omega)
    have hx4 : x 4 = .bool B := hd 4 (by omega)
    have hx5 : x 5 = .bool B := hd 5 (by omega)
    refine AnyTill.any (S := fun _ => True) (m := 6) _ _ _ _ ?_
    refine AnyTill.done (by kernel_rfl) ?_
    refine NoPanic.normal ?_
    try dsimp only
    rw [hx0, hx1, hx2, hx4, hx5]
    have HW := Lib.hid (HD.out.trans (hb.mono HD.out.size))
    clear hx0 hx1 hx2 hx4 hx5 hd hb
    cases B
    · have HE : Hid (delF l p z = 0) := by
        show _ = _
        rw [HV2.out, HBB.out]; rfl
      go_wp2
      go_ret
      exact ⟨by rw [HE.out]; rfl, HW.out⟩
    · have HE : Hid (delF l p z = 10) := by
        show _ = _
        rw [HV2.out, HBB.out]; rfl
      go_wp2
      go_ret
      exact ⟨by rw [HE.out]; rfl, HW.out⟩
end Go.Proofs.YtlpakfaoaodaiaaDoor
