/-
  Texts G6 G7 HH RC4 HG HI.
-/
import Derived.Deep.MidRow
import Derived.Test.YtdihngkdhanhkaaGreatDoorZ03
import Derived.Test.YtdihngkdhanhkaaGreatDoorZ21
import Derived.Test.YtdihngkdhanhkaaGreatDoorZ22
namespace Go.Proofs.YtdihngkdhanhkaaGreatDoor
open Go.RowKit

/-- The function that asks for children of p, as a value. -/
def KidP (p : List UInt8) (u : Value) (w : World) : Prop := ∃ g, u = .func (.func 209) #[] #[.pointer (some ⟨g, 0, none⟩)] ∧ g < w.heap.size ∧ w.cell? ⟨g, 0, none⟩ = some (txt p)
theorem KidP.keep {p : List UInt8} {u : Value} {w w' : World} (h : KidP p u w) (hb : Below w.heap.size w w') : KidP p u w' := by
  obtain ⟨g, h1, h2, h3⟩ := h
  exact ⟨g, h1, Nat.lt_of_lt_of_le h2 hb.size, (hb.cell h2).trans h3⟩

set_option maxRecDepth 100000 in
set_option maxHeartbeats 4000000 in
/-- Delete's function of faults. -/
theorem delFn_any (l : List Nd) (p : List UInt8) (z : Int) (v : Value) (gs gp gz : Nat) (W0 : World) (hr : RdNd W0.heap.size W0 v l) (h1 : gs < W0.heap.size) (h2 : gp < W0.heap.size) (h3 : gz < W0.heap.size)
    (c1 : W0.cell? ⟨gs, 0, none⟩ = some v) (c2 : W0.cell? ⟨gp, 0, none⟩ = some (txt p)) (c3 : W0.cell? ⟨gz, 0, none⟩ = some (.int .i64 z)) :
    Calls Tryz.prog 188 #[.pointer (some ⟨gs, 0, none⟩), .pointer (some ⟨gp, 0, none⟩), .pointer (some ⟨gz, 0, none⟩)] W0 (One (.int .i64 (delF l p z)) W0) := by
  have HR := Lib.hid hr
  clear hr
  have K1 := Lib.hid c1
  have K2 := Lib.hid c2
  have K3 := Lib.hid c3
  have HB := Lib.hid (Below.refl W0.heap.size W0)
  clear c3
  go_enter Tryz.func188, Tryz.ntmps188
  go_wp2_with fail
  refine (shGet_any l p _ W0 ((HR.out.below HB.out).more HB.out.size)).mono ?_
  rintro e W0a ⟨rfl, hb⟩
  have HBa := Lib.hid (HB.out.trans (hb.mono HB.out.size))
  clear hb c1 c2
  go_wp2_with (refine wpList_alloc_blk rfl 91 rfl (ndc nd0) zPN ?_)
  intro W0b a1 a2 a3
  obtain ⟨g2, hg⟩ : ∃ g, W0a.heap.size = g := ⟨_, rfl⟩
  have A2 := Lib.hid a1
  have hBg2 : W0.heap.size ≤ g2 := by have := HBa.out.size; omega
  have HBb := Lib.hid (HBa.out.trans (a3.mono HBa.out.size))
  rw [hg] at A2 ⊢
  clear a1 a2 a3 hg
  obtain ⟨f2, hf⟩ : ∃ f, getE l p = f := ⟨_, rfl⟩
  have HF2 := Lib.hid hf
  obtain ⟨x2, hx⟩ : ∃ x, getS l p = x := ⟨_, rfl⟩
  have HX2 := Lib.hid hx
  rw [hx, hf]
  clear hx hf
  go_wp2_with (refine wpList_store_to rfl 91 _ _ rfl g2 (ndc x2) (ndc nd0) 91 rfl rfl A2.out sPN rfl (ndc_one _) ?_)
  intro W0c c1 c2 c3 c4
  have Y2 := Lib.hid c1
  have HBc := Lib.hid (HBb.out.trans (c3.mono hBg2))
  clear c1 c2 c3 c4 A2
  have HV : Hid (delF l p z = if f2 ≠ 0 then f2 else if p = [47] then 13 else if verB z (nR x2) = false then 8 else if l.any (kidN p) = true then 10 else 0) := by
    show _ = _
    unfold delF
    rw [HF2.out, HX2.out]
  by_cases h0 : f2 = 0
  rotate_left
  · have HE : Hid (delF l p z = f2) := by
      show _ = _
      rw [HV.out, if_pos h0]
    have z0 : ((f2 : Int) != 0) = true := by rw [bne_iff_ne]; omega
    clear h0
    go_wp2
    go_ret
    exact ⟨by rw [HE.out]; rfl, HBc.out⟩
  subst h0
  have c2 := (HBc.out.cell h2).trans K2.out
  by_cases hp : p = [47]
  · have HE : Hid (delF l p z = 13) := by
      show _ = _
      rw [HV.out, if_neg (by simp), if_pos hp]
    subst hp
    go_wp2
    go_ret
    exact ⟨by rw [HE.out]; rfl, HBc.out⟩
  have hpb := txt_ne p [47] hp
  have HP := Lib.hid hp
  clear hp
  have c3 := (HBc.out.cell h3).trans K3.out
  have d0 := Y2.out.at_ 0 _ rfl
  have d1 := Y2.out.at_ 1 _ rfl
  have d2 := Y2.out.at_ 2 _ rfl
  have d3 := Y2.out.at_ 3 _ rfl
  go_wp2_with fail
  refine (shOf_any x2 z W0c).mono ?_
  rintro e W1 ⟨rfl, hb⟩
  have HD := Lib.hid (HBc.out.trans (hb.mono HBc.out.size))
  clear hb d0 d1 d2 d3 c3 c2 HBa HBb HBc Y2
  obtain ⟨r, hr⟩ : ∃ r, nR x2 = r := ⟨_, rfl⟩
  rw [hr] at HV
  rw [hr]
  clear hr
  cases hv : verB z r
  · have HE : Hid (delF l p z = 8) := by
      show _ = _
      rw [HV.out, if_neg (by simp), if_neg HP.out, if_pos hv]
    clear hv
    go_wp2
    go_ret
    exact ⟨by rw [HE.out]; rfl, HD.out⟩
  have HV2 : Hid (delF l p z = if l.any (kidN p) = true then 10 else 0) := by
    show _ = _
    rw [HV.out, if_neg (by simp), if_neg HP.out, if_neg (by simp [hv])]
  clear hv
  have c1 := (HD.out.cell h1).trans K1.out
  have c2 := (HD.out.cell h2).trans K2.out
  have l1 : gs < W1.heap.size := Nat.lt_of_lt_of_le h1 HD.out.size
  have l2 : gp < W1.heap.size := Nat.lt_of_lt_of_le h2 HD.out.size
  have L1 := Lib.hid c1
  have L2 := Lib.hid c2
  clear c1 c2
  obtain ⟨B, hB⟩ : ∃ B, l.any (kidN p) = B := ⟨_, rfl⟩
  have HBB := Lib.hid hB
  clear hB
  go_wp2
  refine wp_region_rely2 6 0 (fun x => ⟨#[.pointer (some { block := gs, off := 0 }), .pointer (some { block := gp, off := 0 }), .pointer (some { block := gz, off := 0 }), .int IntKind.i64 0, .pointer (some { block := g2, off := 0 }), .int IntKind.i64 0, .tuple #[ndv x2, Value.int IntKind.i64 0], .agg #[v], txt p, .tuple #[ndv x2, Value.int IntKind.i64 0], ndv x2, .int IntKind.i64 0, .bool false, .int IntKind.i64 0, .bool false, undef, .bool false, txt p, .bool false, .bool false, .agg #[txt (nP x2), txt (nV x2), Value.int IntKind.i64 r, Value.int IntKind.i64 (nO x2)], .int IntKind.i64 z, .bool true, .bool false, x 5, x 0, x 1, x 2, x 3, x 4], []⟩) (fun jj => ([eqV (.pointer (some ⟨gs, 0, none⟩)), eqV (v), eqV (txt p), (KidP p), (eqV (.bool B)), eqV (.bool B)] : List (Value → World → Prop)).getD jj (fun _ _ => True)) rfl ⟨fun kk => [_, _, _, _, _, _].getD kk undef, rfl⟩ (by kernel_rfl) (by kernel_rfl) ?steps ?fin
  case steps =>
    refine StepsAt.val 0 (.pointer (some ⟨gs, 0, none⟩)) rfl (fun _ _ => rfl) rfl rfl (fun x wx hb hd => ?_) ?_
    · first | (go_simp; done) | (go_simp; rfl)
    refine StepsAt.val 1 (v) rfl (fun _ _ => rfl) rfl rfl (fun x wx hb hd => ?_) ?_
    · have h0 : x 0 = .pointer (some ⟨gs, 0, none⟩) := hd 0 (by kernel_rfl)
      have cc := (hb.cell l1).trans L1.out
      rw [h0]
      first | (go_simp; done) | (go_simp; rfl)
    refine StepsAt.val 2 (txt p) rfl (fun _ _ => rfl) rfl rfl (fun x wx hb hd => ?_) ?_
    · have cc := (hb.cell l2).trans L2.out
      first | (go_simp; done) | (go_simp; rfl)
    refine StepsAt.cons 3 (fun _ _ _ h hb => h.keep hb) (fun _ _ => rfl) rfl rfl (fun x wx hb hd K hK => ?_) ?_
    · have h2 : Hid (x 2 = txt p) := hd 2 (by kernel_rfl)
      go_simp
      refine calls_args (args2 := #[txt p]) (by rw [h2.out]) ?_
      refine (shChild_any p _).mono ?_
      rintro e w99 ⟨g, rfl, hk1, hk2, hb99⟩
      exact hK.out _ _ hb99 ⟨g, rfl, hk1, hk2⟩
    refine StepsAt.cons 4 (fun _ _ _ h hb => h) (fun _ _ => rfl) rfl rfl (fun x wx hb hd K hK => ?_) ?_
    · have h1 : Hid (x 1 = v) := hd 1 (by kernel_rfl)
      have h3 : KidP p (x 3) wx := hd 3 (by kernel_rfl)
      go_simp
      obtain ⟨g, hg, hk1, hk2⟩ := h3
      refine calls_args (args2 := #[v, .func (.func 209) #[] #[.pointer (some ⟨g, 0, none⟩)]]) (by rw [h1.out, hg]) ?_
      have HY := HD.out.trans (hb.mono HD.out.size)
      have HC := anyFunc_any l v 209 #[.pointer (some ⟨g, 0, none⟩)] (kidN p) _ ((HR.out.below HY).more HY.size) kidEnter (fun x W hW => kidFn_any x p g W (Nat.lt_of_lt_of_le hk1 hW.size) ((hW.cell hk1).trans hk2))
      rw [HBB.out] at HC
      refine HC.mono ?_
      rintro e w99 ⟨rfl, hb99⟩
      exact hK.out _ _ hb99 rfl
    refine StepsAt.val 5 (.bool B) rfl (fun _ _ => rfl) rfl rfl (fun x wx hb hd => ?_) ?_
    · have h4 : x 4 = .bool B := hd 4 (by kernel_rfl)
      rw [h4]
      first | (go_simp; done) | (go_simp; rfl)
    exact StepsAt.done
  case fin =>
    intro x wx hb hd
    have hx0 : x 0 = .pointer (some ⟨gs, 0, none⟩) := hd 0 (by omega)
    have hx1 : x 1 = v := hd 1 (by omega)
    have hx2 : x 2 = txt p := hd 2 (by omega)
    have hx4 : x 4 = .bool B := hd 4 (by omega)
    have hx5 : x 5 = .bool B := hd 5 (by omega)
    refine AnyTill.any (S := fun _ => True) (m := 6) _ _ _ _ ?_
    refine AnyTill.done (by kernel_rfl) ?_
    refine NoPanic.normal ?_
    try dsimp only
    rw [hx0, hx1, hx2, hx4, hx5]
    have HW := Lib.hid (HD.out.trans (hb.mono HD.out.size))
    clear hx0 hx1 hx2 hx4 hx5 hd hb
    cases B
    · have HE : Hid (delF l p z = 0) := by
        show _ = _
        rw [HV2.out, HBB.out]; rfl
      go_wp2
      go_ret
      exact ⟨by rw [HE.out]; rfl, HW.out⟩
    · have HE : Hid (delF l p z = 10) := by
        show _ = _
        rw [HV2.out, HBB.out]; rfl
      go_wp2
      go_ret
      exact ⟨by rw [HE.out]; rfl, HW.out⟩
end Go.Proofs.YtdihngkdhanhkaaGreatDoor
namespace Go.Proofs.YtdihngkdhanhkaaGreatDoor
open Go.RowKit

/-- The call answers a row of its own. -/
def OwnsN (l : List Nd) (w : World) (e : Ending) (w' : World) : Prop := ∃ u, e = .returned u ∧ OwnNd 91 w' w.heap.size u l ∧ Below w.heap.size w w'

set_option maxRecDepth 100000 in
set_option maxHeartbeats 2000000 in
/-- slices.Clone over nodes. -/
theorem clone_any (l : List Nd) (v : Value) (w : World) (hr : RdNd w.heap.size w v l) (hl : l.length ≤ 100000) : Calls Tryz.prog 70 #[v] w (OwnsN l w) := by
  obtain ⟨i1, hJ, hy0, hy1, hy2⟩ := info_partsPN
  obtain ⟨A, cp, rfl, hc, hm⟩ := hr.shape
  unfold maxLen at hm
  cases A with
  | none =>
    obtain ⟨A', c', hv, _, _, hn, _⟩ := hr
    injection hv with q1 q2 q3
    subst q1 q3
    have h0 := hn rfl
    have h1 : l = [] := List.eq_nil_of_length_eq_zero (by omega)
    subst h1
    subst h0
    have he : ∀ w, (binOp .eql 22 (.slice none 0 0) (.slice none 0 0)).run Tryz.prog w = .ok (.bool true) w := fun _ => rfl
    go_enter Tryz.func70, Tryz.ntmps70
    go_wp2
    go_ret
    exact ⟨_, rfl, OwnNd.nil _ _ _, Below.refl _ _⟩
  | some a =>
    have HR := Lib.hid hr
    have HL := Lib.hid hl
    obtain ⟨n, hn⟩ : ∃ n, l.length = n := ⟨_, rfl⟩
    rw [hn] at HR hc ⊢
    clear hr hl hn
    have he : ∀ w, (binOp .eql 22 (.slice (some a) n cp) (.slice none 0 0)).run Tryz.prog w = .ok (.bool false) w := fun _ => rfl
    have HO : Hid (OwnNd 91 (w.alloc (.cells #[] 91)) w.heap.size (.slice (some ⟨w.heap.size, 0, none⟩) 0 0) []) := OwnNd.empty 91 w w.heap.size (Nat.le_refl _)
    have HA : Hid (Below w.heap.size w (w.alloc (.cells #[] 91))) := (Below.refl _ _).alloc (Nat.le_refl _) _
    have HR2 := Lib.hid (HR.out.below HA.out)
    go_enter Tryz.func70, Tryz.ntmps70
    go_wp2_with (at_builtin; refine wpList_appNd rfl _ _ 22 rfl 91 i1 Tryz.underlying22 hJ hy0 hy1 hy2 w.heap.size _ _ _ [] l rfl HO.out rfl HR2.out ?d1 ?d2 ?_)
    case d1 => have := HL.out; simp; omega
    case d2 => simp
    intro v' w' h1 h2 h3
    have H1 := Lib.hid h1
    have H2 := Lib.hid (HA.out.trans h2)
    clear h1 h2 h3
    go_wp2
    go_ret
    exact ⟨_, rfl, H1.out, H2.out⟩

/-- The call answers a shelf whose row is its own, and a fault. -/
def ShelvesO (l : List Nd) (f : Nat) (w : World) (e : Ending) (w' : World) : Prop := ∃ v, e = .returned (.tuple #[.agg #[v], .int .i64 (f : Int)]) ∧ OwnNd 91 w' w.heap.size v l ∧ Below w.heap.size w w'
/-- What an edit of a row of one's own comes to. -/
def EditsTo (base : Nat) (l' : List Nd) (W : World) (e : Ending) (w' : World) : Prop := ∃ u, e = .returned u ∧ OwnNd 91 w' base u l' ∧ Below base W w'

set_option maxRecDepth 100000 in
set_option maxHeartbeats 4000000 in
theorem shChange_any (l l' l9 : List Nd) (v : Value) (f1 f2 : Nat) (lb1 lb2 : Array Value) (F : Nat) (w : World) (hr : RdNd w.heap.size w v l) (hl : l.length ≤ 100000)
    (e1 : ∀ args w, (callFunc f1 args).run Tryz.prog w = .ok (.enter f1 args) w) (e2 : ∀ args w, (callFunc f2 args).run Tryz.prog w = .ok (.enter f2 args) w)
    (h1 : ∀ W, Below w.heap.size w W → Calls Tryz.prog f1 lb1 W (One (.int .i64 (F : Int)) W))
    (h2 : F = 0 → ∀ base u W, w.heap.size ≤ base → base ≤ W.heap.size → Below w.heap.size w W → OwnNd 91 W base u l → Calls Tryz.prog f2 (#[u] ++ lb2) W (EditsTo base l' W)) (q1 : F = 0 → l9 = l') (q2 : F ≠ 0 → l9 = l) :
    Calls Tryz.prog 181 #[.agg #[v], .func (.func f1) #[] lb1, .func (.func f2) #[] lb2] w (ShelvesO l9 F w) := by
  obtain ⟨d30, hu30, hd30⟩ := rowPS
  have HU := Lib.hid hu30
  have HD := Lib.hid hd30
  have HR := Lib.hid hr
  have HL := Lib.hid hl
  have H1 := Lib.hid h1
  have H2 := Lib.hid h2
  have Q1 := Lib.hid q1
  have Q2 := Lib.hid q2
  clear hr hl h1 h2 hu30 hd30 q1 q2
  go_enter Tryz.func181, Tryz.ntmps181
  go_wp2_with (refine wpList_box_blk rfl 24 _ rfl [v] rfl ?_)
  intro w1 b1 b2 b3
  go_wp2_with (refine wpList_alloc_blk rfl 24 rfl [.slice none 0 0] zPS ?_)
  intro w2 a1 a2 a3
  obtain ⟨g0, hg0⟩ : ∃ g, w.heap.size = g := ⟨_, rfl⟩
  obtain ⟨g1, hg1⟩ : ∃ g, w.heap.size + 1 = g := ⟨_, rfl⟩
  have X0 := Lib.hid (b1.below a3 (by omega))
  have X1 := Lib.hid a1
  have HB := Lib.hid (b3.trans (a3.mono (by omega)))
  have hg02 : g0 < w2.heap.size := by omega
  have hg12 : g1 < w2.heap.size := by omega
  have hw1 : w.heap.size ≤ g1 := by omega
  rw [hg1] at X1 ⊢
  rw [hg0] at X0 ⊢
  have ca := X0.out.cell 0
  clear b1 b2 b3 a1 a2 a3 hg0 hg1
  go_wp2_with fail
  refine (clone_any l v w2 ((HR.out.below HB.out).more HB.out.size) HL.out).mono ?_
  rintro e w3 ⟨u, rfl, ho, hb⟩
  have HO := Lib.hid ho
  have HC := Lib.hid hb
  clear ho hb ca
  obtain ⟨A, c, rfl, -, -⟩ := HO.out.rd.shape
  go_wp2_with fail
  refine (H1.out w3 (HB.out.trans (HC.out.mono HB.out.size))).mono ?_
  rintro e w4 ⟨rfl, hb⟩
  have HO4 := Lib.hid (HO.out.below hb (Nat.le_refl _))
  have HC4 := Lib.hid (HC.out.trans (hb.mono HC.out.size))
  clear hb HO HC
  by_cases hF : F = 0
  · have HE := Lib.hid (H2.out hF)
    have HQ := Lib.hid (Q1.out hF)
    subst hF
    clear H1 H2 Q1 Q2
    go_wp2_with fail
    refine (HE.out w2.heap.size _ w4 HB.out.size HC4.out.size (HB.out.trans (HC4.out.mono HB.out.size)) HO4.out).mono ?_
    rintro e w5 ⟨u, rfl, ho, hb⟩
    have HO5 := Lib.hid ho
    have HC5 := Lib.hid (HC4.out.trans hb)
    clear ho hb HO4 HC4
    obtain ⟨A5, c5, hq, -, -⟩ := HO5.out.rd.shape
    obtain ⟨n5, hn5⟩ : ∃ n, l'.length = n := ⟨_, rfl⟩
    rw [hn5] at hq
    subst hq
    clear hn5
    have X1c := Lib.hid (X1.out.below HC5.out hg12)
    go_wp2_with (refine wpList_store_to rfl 24 _ _ rfl g1 [.slice A5 n5 c5] [.slice none 0 0] 24 rfl rfl X1c.out sPS rfl (slice_one _ _ _) ?_)
    intro w9 e1 e2 e3 e4
    go_wp2
    refine bodyPost_ret (v := .tuple #[.agg [Value.slice A5 n5 c5].toArray, .int .i64 0]) ?_ rfl ?_
    · exact ret_blk2U rfl _ _ g1 24 [.slice A5 n5 c5] _ rfl rfl e1 d30 HU.out HD.out sPS
    · rw [HQ.out]
      exact ⟨_, rfl, OwnNd.base (ownsRow_same HO5.out (fun k hk => e4 k (by omega))) HB.out.size, HB.out.trans ((HC5.out.mono HB.out.size).trans (e3.mono hw1))⟩
  · have HQ := Lib.hid (Q2.out hF)
    clear H1 H2 Q1 Q2
    have z0 : ((F : Int) != 0) = true := by rw [bne_iff_ne]; omega
    have X1c := Lib.hid (X1.out.below HC4.out hg12)
    obtain ⟨n, hn⟩ : ∃ n, l.length = n := ⟨_, rfl⟩
    rw [hn] at HO4 ⊢
    clear hF hn
    go_wp2_with (refine wpList_store_to rfl 24 _ _ rfl g1 [.slice A n c] [.slice none 0 0] 24 rfl rfl X1c.out sPS rfl (slice_one _ _ _) ?_)
    intro w9 e1 e2 e3 e4
    go_wp2
    refine bodyPost_ret (v := .tuple #[.agg [Value.slice A n c].toArray, .int .i64 (F : Int)]) ?_ rfl ?_
    · exact ret_blk2U rfl _ _ g1 24 [.slice A n c] _ rfl rfl e1 d30 HU.out HD.out sPS
    · rw [HQ.out]
      exact ⟨_, rfl, OwnNd.base (ownsRow_same HO4.out (fun k hk => e4 k (by omega))) HB.out.size, HB.out.trans ((HC4.out.mono HB.out.size).trans (e3.mono hw1))⟩
end Go.Proofs.YtdihngkdhanhkaaGreatDoor
namespace Go.Proofs.YtdihngkdhanhkaaGreatDoor
open Go.RowKit

theorem nds_cut (l : List Nd) (i : Nat) (hi : i < l.length) : (nds l).take (i * 4) = nds (l.take i) ∧ (nds l).drop (i * 4 + 4) = nds (l.drop (i + 1)) := by
  have e : l = l.take i ++ (l[i] :: l.drop (i + 1)) := by
    rw [← List.drop_eq_getElem_cons hi, List.take_append_drop]
  have e1 : nds l = nds (l.take i) ++ (ndc l[i] ++ nds (l.drop (i + 1))) := by
    have h := congrArg nds e
    rw [nds_append, show l[i] :: l.drop (i + 1) = [l[i]] ++ l.drop (i + 1) from rfl, nds_append, nds_one] at h
    exact h
  have hl : (nds (l.take i)).length = i * 4 := by
    rw [nds_length, List.length_take, Nat.min_eq_left (by omega)]
    omega
  rw [e1]
  refine ⟨List.take_left' hl, ?_⟩
  rw [← List.drop_drop, List.drop_left' hl]
  exact List.drop_left' rfl
theorem nds_set (l : List Nd) (i : Nat) (x : Nd) (hi : i < l.length) : nds (l.set i x) = (nds l).take (i * 4) ++ (ndc x ++ (nds l).drop (i * 4 + 4)) := by
  rw [(nds_cut l i hi).1, (nds_cut l i hi).2, List.set_eq_take_append_cons_drop, if_pos hi, nds_append, show x :: l.drop (i + 1) = [x] ++ l.drop (i + 1) from rfl, nds_append, nds_one]
theorem below_setCells {B g : Nat} (hBg : B ≤ g) {w0 : World} : ∀ (vs : List Value) (o : Nat) (w : World), Below B w0 w → Below B w0 (w.setCells g o vs)
  | [], _, _, h => h
  | v :: r, o, w, h => below_setCells hBg r (o + 1) (w.setCell ⟨g, o, none⟩ v) (h.setCell hBg v)
theorem OwnNd.inBlock {e : TypeId} {w : World} {base : Nat} {v : Value} {l : List Nd} (h : OwnNd e w base v l) (hn : 0 < l.length) : ∃ g cap, v = .slice (some ⟨g, 0, none⟩) l.length cap ∧ l.length ≤ cap ∧ base ≤ g ∧ g < w.heap.size := by
  rcases h.2 with ⟨_, h1⟩ | ⟨g, cap, cur, h1, h2, h3, h4, _⟩
  · omega
  · exact ⟨g, cap, h1, h4, h2, (Array.getElem?_eq_some_iff.1 h3).1⟩
theorem OwnNd.block {e : TypeId} {w : World} {base n cap g : Nat} {l : List Nd} (h : OwnNd e w base (.slice (some ⟨g, 0, none⟩) n cap) l) : ∃ cur : Array Value, Blk w g cur.toList e ∧ base ≤ g ∧ l.length ≤ cap ∧ cap ≤ maxLen ∧ cur.size = cap * 4 ∧ cur.toList.take (l.length * 4) = nds l ∧ n = l.length := by
  rcases h.2 with ⟨h1, _⟩ | ⟨g', cap', cur, h1, h2, h3, h4, h5, h6, h7⟩
  · simp at h1
  · injection h1 with h1 hn hc
    injection h1 with h1
    injection h1 with h1
    subst h1 hc
    refine ⟨cur, ?_, h2, h4, h5, h6, h7, hn⟩
    unfold Blk
    simpa using h3
theorem take_mid (A X B C : List Value) (m n : Nat) (hA : A = C.take m) (hB : B = C.drop (m + X.length)) (hm : m + X.length ≤ n) (hC : n ≤ C.length) : (A ++ (X ++ B)).take n = (C.take n).take m ++ (X ++ (C.take n).drop (m + X.length)) := by
  have hAl : A.length = m := by rw [hA, List.length_take]; omega
  rw [List.take_append, List.take_append, hAl, List.take_of_length_le (by omega), List.take_of_length_le (by omega), hA, List.take_take, Nat.min_eq_left (by omega), hB, List.drop_take, Nat.sub_sub]
theorem OwnNd.stored {e : TypeId} {w : World} {base n cap g : Nat} {l : List Nd} (h : OwnNd e w base (.slice (some ⟨g, 0, none⟩) n cap) l) (i : Nat) (hi : i < l.length) (x : Nd) :
    OwnNd e (w.setCells g (i * 4) (ndc x)) base (.slice (some ⟨g, 0, none⟩) n cap) (l.set i x) ∧ w.there g (i * 4) 4 ∧ Below base w (w.setCells g (i * 4) (ndc x)) := by
  obtain ⟨cur, hb, h2, h4, h5, h6, h7, hn⟩ := h.block
  have hcl : cur.toList.length = cap * 4 := by rw [Array.length_toList, h6]
  have hx : (ndc x).length = 4 := rfl
  have hs := hb.setCells (ndc x) (i * 4) (by rw [hcl, hx]; omega)
  refine ⟨⟨?_, .inr ⟨g, cap, (cur.toList.take (i * 4) ++ (ndc x ++ cur.toList.drop (i * 4 + (ndc x).length))).toArray, ?_, h2, hs, ?_, h5, ?_, ?_⟩⟩, ?_, ?_⟩
  · rw [nds_length]; omega
  · rw [List.length_set, hn]
  · rw [List.length_set]; exact h4
  · simp only [List.size_toArray, List.length_append, List.length_take, List.length_drop, hcl, hx]
    omega
  · rw [List.length_set, nds_set l i x hi, ← h7]
    exact take_mid _ (ndc x) _ cur.toList (i * 4) (l.length * 4) rfl rfl (by rw [hx]; omega) (by rw [hcl]; omega)
  · intro j hj
    have hlt : i * 4 + j < cur.toList.length := by rw [hcl]; omega
    exact ⟨by rw [hb.cell, List.getElem?_eq_getElem hlt]; rfl, hb.frozen _⟩
  · exact below_setCells h2 _ _ _ (Below.refl _ _)
end Go.Proofs.YtdihngkdhanhkaaGreatDoor
namespace Go.Proofs.YtdihngkdhanhkaaGreatDoor
open Go.RowKit

section
variable {P : Program} {l : List Oper} {Q : Exit → Act → World → Prop} {F : (Nat → Value) → Act} {Φ : Nat → Value → World → Prop} {w0 : World}
end
end Go.Proofs.YtdihngkdhanhkaaGreatDoor
namespace Go.Proofs.YtdihngkdhanhkaaGreatDoor
open Go.RowKit

end Go.Proofs.YtdihngkdhanhkaaGreatDoor
namespace Go.Proofs.YtdihngkdhanhkaaGreatDoor
open Go.RowKit

theorem set_err (l : List Nd) (p v : List UInt8) (ver : Int) (f : Nat) (h : setE l p v ver = f) (h0 : f ≠ 0) : setE l p v ver = f ∧ setS l p v ver = l := by
  refine ⟨h, ?_⟩
  unfold setS
  rw [if_neg (by rw [h]; exact h0)]
theorem set_ok (l : List Nd) (p v : List UInt8) (ver : Int) (h : setE l p v ver = 0) : setE l p v ver = 0 ∧ setS l p v ver = l.set (placeN l p) (p, v, IntKind.i64.wrap (nR (nodeN l p) + 1), nO (nodeN l p)) := by
  refine ⟨h, ?_⟩
  unfold setS
  rw [if_pos h]

end Go.Proofs.YtdihngkdhanhkaaGreatDoor
