/-
  The document's shelves: Set.
-/
import Derived.Test.YtlpakfaoaodaiaaDoorHH
import Derived.Test.YtlpakfaoaodaiaaDoorHG
namespace Go.Proofs.YtlpakfaoaodaiaaDoor
open Go.RowKit

theorem atIs (l : List Nd) (p : List UInt8) (i : Nat) (h : atI l p = (i : Int)) (v : Value) (w : World) (hr : RdNd w.heap.size w v l) : Calls Tryd.prog 38 #[.agg #[v], txt p] w (One (.int .i64 (i : Int)) w) := by
  rw [← h]
  exact rfAt_any l p v w hr
theorem set_err (l : List Nd) (p v : List UInt8) (ver : Int) (f : Nat) (h : setE l p v ver = f) (h0 : f ≠ 0) : setE l p v ver = f ∧ setS l p v ver = l := by
  refine ⟨h, ?_⟩
  unfold setS
  rw [if_neg (by rw [h]; exact h0)]
theorem set_ok (l : List Nd) (p v : List UInt8) (ver : Int) (h : setE l p v ver = 0) : setE l p v ver = 0 ∧ setS l p v ver = l.set (placeN l p) (p, v, IntKind.i64.wrap (nR (nodeN l p) + 1), nO (nodeN l p)) := by
  refine ⟨h, ?_⟩
  unfold setS
  rw [if_pos h]

set_option maxRecDepth 100000 in
set_option maxHeartbeats 8000000 in
theorem rfSet_any (l : List Nd) (p vl : List UInt8) (z : Int) (v : Value) (w : World) (hr : RdNd w.heap.size w v l) (hl : l.length ≤ 100000) : Calls Tryd.prog 21 #[.agg #[v], txt p, txt vl, .int .i64 z] w (Shelves (setS l p vl z) (setE l p vl z) w) := by
  obtain ⟨A, cp, rfl, hc, hm⟩ := hr.shape
  unfold maxLen at hm
  obtain ⟨i1, hJ, hy0, hy1, hy2⟩ := info_partsNd
  obtain ⟨n, hn⟩ : ∃ n, l.length = n := ⟨_, rfl⟩
  obtain ⟨k, hk⟩ : ∃ k, vl.length = k := ⟨_, rfl⟩
  have hkz : (⟨vl.toArray⟩ : ByteArray).size = k := hk
  have HK := Lib.hid hk
  clear hk
  have HN := Lib.hid hn
  have HR := Lib.hid hr
  rw [hn] at hc HR hl ⊢
  have HL := Lib.hid hl
  obtain ⟨d30, hu30, hd30⟩ := rowSH
  have HU := Lib.hid hu30
  have HD := Lib.hid hd30
  clear hr hn hl hu30 hd30
  go_enter Tryd.func21, Tryd.ntmps21
  go_wp2_with (refine wpList_box_blk rfl 30 _ rfl [.slice A n cp] rfl ?_)
  intro w1 b1 b2 b3
  go_wp2_with (refine wpList_alloc_blk rfl 30 rfl [.slice none 0 0] zSH ?_)
  intro w2 a1 a2 a3
  obtain ⟨g0, hg0⟩ : ∃ g, w.heap.size = g := ⟨_, rfl⟩
  obtain ⟨g1, hg1⟩ : ∃ g, w.heap.size + 1 = g := ⟨_, rfl⟩
  have X0 := Lib.hid (b1.below a3 (by omega))
  have X1 := Lib.hid a1
  have HB := Lib.hid (b3.trans (a3.mono (by omega)))
  have hg01 : g0 < g1 := by omega
  have hg2 : g1 < w2.heap.size := by omega
  have hw1 : w.heap.size ≤ g1 := by omega
  rw [hg1] at X1 ⊢
  rw [hg0] at X0 ⊢
  have ca := X0.out.cell 0
  clear b1 b2 b3 a1 a2 a3 hg1 hg0
  go_wp2_with fail
  refine (rfGet_any l p _ w2 ((HR.out.below HB.out).more HB.out.size)).mono ?_
  rintro e w3 ⟨rfl, hb⟩
  have hs3 := hb.size
  have Y0 := Lib.hid (X0.out.below hb (by omega))
  have Y1 := Lib.hid (X1.out.below hb (by omega))
  have HB3 := Lib.hid (HB.out.trans (hb.mono (by omega)))
  have hg3 : g1 < w3.heap.size := by omega
  clear hb X0 X1 HB ca
  have X0 := Y0
  have X1 := Y1
  have HB := HB3
  clear Y0 Y1 HB3
  have ca := X0.out.cell 0
  go_wp2_with (refine wpList_alloc_blk rfl 56 rfl (ndc nd0) zND ?_)
  intro w4 a1 a2 a3
  obtain ⟨g2, hg2'⟩ : ∃ g, w3.heap.size = g := ⟨_, rfl⟩
  have Y0 := Lib.hid (X0.out.below a3 (by omega))
  have Y1 := Lib.hid (X1.out.below a3 (by omega))
  have HB4 := Lib.hid (HB.out.trans (a3.mono (by omega)))
  have A1 := Lib.hid a1
  have hg12 : g1 < g2 := by omega
  have hg4 : g2 < w4.heap.size := by omega
  have hwg2 : w.heap.size ≤ g2 := by omega
  rw [hg2'] at A1 ⊢
  clear a1 a2 a3 X0 X1 HB ca hg2'
  obtain ⟨nd, hx⟩ : ∃ x, getS l p = x := ⟨_, rfl⟩
  obtain ⟨f, hf⟩ : ∃ f, getE l p = f := ⟨_, rfl⟩
  have HGS := Lib.hid hx
  have HGE := Lib.hid hf
  rw [hx, hf]
  clear hx hf
  go_wp2_with (refine wpList_store_to rfl 56 _ _ rfl g2 (ndc nd) (ndc nd0) 56 rfl rfl A1.out sND rfl (ndc_one _) ?_)
  intro w5 c1 c2 c3 c4
  have X0 := Lib.hid (Y0.out.same (c4 g0 (by omega)))
  have X1 := Lib.hid (Y1.out.same (c4 g1 (by omega)))
  have HB := Lib.hid (HB4.out.trans (c3.mono hwg2))
  have hg5 : g1 < w5.heap.size := by omega
  have ca := X0.out.cell 0
  have cx := c1.at_ 2 _ rfl
  have X2c := Lib.hid c1
  have hg25 : g2 < w5.heap.size := by omega
  clear c1 c2 c3 c4 Y0 Y1 HB4 A1
  by_cases hf0 : f = 0
  rotate_left
  · have hz : ((f : Int) != 0) = true := by
      rw [bne_iff_ne]
      omega
    have HX := Lib.hid (set_err l p vl z f (by simp [setE, HGE.out, hf0]) (hf0))
    go_wp2_with (refine wpList_store_to rfl 30 _ _ rfl g1 [.slice A n cp] [.slice none 0 0] 30 rfl rfl X1.out sSH rfl (slice_one _ _ _) ?_)
    intro w9 e1 e2 e3 e4
    go_wp2
    refine bodyPost_ret (v := .tuple #[.agg [Value.slice A n cp].toArray, .int .i64 (f : Int)]) ?_ rfl ?_
    · exact ret_blk2U rfl _ _ g1 30 [.slice A n cp] _ rfl rfl e1 d30 HU.out HD.out sSH
    · have HB9 := HB.out.trans (e3.mono hw1)
      rw [HX.out.1, HX.out.2]
      exact ⟨_, rfl, (HR.out.below HB9).more HB9.size, HB9⟩
  subst hf0
  have HG0 := Lib.hid (getE_zero l p HGE.out)
  have HX2 : Hid (nodeN l p = nd) := by
    show _ = _
    have := HGS.out
    unfold getS at this
    rw [if_pos HGE.out] at this
    exact this

  by_cases hver : z ≠ -1 ∧ z ≠ nR nd
  · obtain ⟨hv1, hv2⟩ := hver
    have hv1b : (z != -1) = true := by rw [bne_iff_ne]; exact hv1
    have hv2b : (z != nR nd) = true := by rw [bne_iff_ne]; exact hv2
    have HX := Lib.hid (set_err l p vl z 8 (by simp [setE, HGE.out, hv1, hv2, HX2.out]) (by decide))
    go_wp2_with (refine wpList_store_to rfl 30 _ _ rfl g1 [.slice A n cp] [.slice none 0 0] 30 rfl rfl X1.out sSH rfl (slice_one _ _ _) ?_)
    intro w9 e1 e2 e3 e4
    go_wp2
    refine bodyPost_ret (v := .tuple #[.agg [Value.slice A n cp].toArray, .int .i64 8]) ?_ rfl ?_
    · exact ret_blk2U rfl _ _ g1 30 [.slice A n cp] _ rfl rfl e1 d30 HU.out HD.out sSH
    · have HB9 := HB.out.trans (e3.mono hw1)
      rw [HX.out.1, HX.out.2]
      exact ⟨_, rfl, (HR.out.below HB9).more HB9.size, HB9⟩
  have HV := Lib.hid hver
  have HVB : Hid ((z != -1) = false ∨ ((z != -1) = true ∧ (z != nR nd) = false)) := by
    show _ ∨ _
    by_cases h1 : z = -1
    · left; simpa using h1
    · by_cases h2 : z = nR nd
      · right; exact ⟨by rw [bne_iff_ne]; exact h1, by simpa using h2⟩
      · exact absurd ⟨h1, h2⟩ hver
  clear hver
  obtain ⟨r, hr⟩ : ∃ r, nR nd = r := ⟨_, rfl⟩
  have HRR := Lib.hid hr
  rw [hr] at cx HVB
  clear hr
  rcases HVB.out with hv1 | ⟨hv1, hv2⟩
  · by_cases h1000 : 1000 < (k : Int)
    · skip
      have HX := Lib.hid (set_err l p vl z 5 (by have e1 : 1000 < k := (by omega); simp only [setE, HGE.out, HX2.out, if_neg HV.out, ne_eq, not_true_eq_false, if_false, HK.out]; simp [e1]) (by decide))
      go_wp2_with (refine wpList_store_to rfl 30 _ _ rfl g1 [.slice A n cp] [.slice none 0 0] 30 rfl rfl X1.out sSH rfl (slice_one _ _ _) ?_)
      intro w9 e1 e2 e3 e4
      go_wp2
      refine bodyPost_ret (v := .tuple #[.agg [Value.slice A n cp].toArray, .int .i64 5]) ?_ rfl ?_
      · exact ret_blk2U rfl _ _ g1 30 [.slice A n cp] _ rfl rfl e1 d30 HU.out HD.out sSH
      · have HB9 := HB.out.trans (e3.mono hw1)
        rw [HX.out.1, HX.out.2]
        exact ⟨_, rfl, (HR.out.below HB9).more HB9.size, HB9⟩
    by_cases h9 : r = 1000000000
    · have hrb : (r == 1000000000) = true := by simpa using h9
      subst h9
      have HX := Lib.hid (set_err l p vl z 9 (by have e1 : ¬ 1000 < k := (by omega); simp only [setE, HGE.out, HX2.out, if_neg HV.out, ne_eq, not_true_eq_false, if_false, HK.out]; rw [HRR.out]; simp [e1]) (by decide))
      go_wp2_with (refine wpList_store_to rfl 30 _ _ rfl g1 [.slice A n cp] [.slice none 0 0] 30 rfl rfl X1.out sSH rfl (slice_one _ _ _) ?_)
      intro w9 e1 e2 e3 e4
      go_wp2
      refine bodyPost_ret (v := .tuple #[.agg [Value.slice A n cp].toArray, .int .i64 9]) ?_ rfl ?_
      · exact ret_blk2U rfl _ _ g1 30 [.slice A n cp] _ rfl rfl e1 d30 HU.out HD.out sSH
      · have HB9 := HB.out.trans (e3.mono hw1)
        rw [HX.out.1, HX.out.2]
        exact ⟨_, rfl, (HR.out.below HB9).more HB9.size, HB9⟩
    have hrb : (r == 1000000000) = false := by simpa using h9
    have HX := Lib.hid (set_ok l p vl z (by have e1 : ¬ 1000 < k := (by omega); simp only [setE, HGE.out, HX2.out, if_neg HV.out, ne_eq, not_true_eq_false, if_false, HK.out]; rw [HRR.out]; simp [e1, h9]))
    clear h9
    obtain ⟨G, hG⟩ : ∃ G, w5.heap.size = G := ⟨_, rfl⟩
    have hwG : w.heap.size ≤ G := by omega
    have hg0G : g0 < G := by omega
    have hg1G : g1 < G := by omega
    have HO0 : Hid (OwnNd 56 (w5.alloc (.cells #[] 56)) G (.slice (some ⟨G, 0, none⟩) 0 0) []) := by
      have := OwnNd.empty 56 w5 G (by omega)
      rw [hG] at this
      exact this
    have HW0 : Hid (Below G w5 (w5.alloc (.cells #[] 56))) := (Below.refl _ _).alloc (by omega) _
    have R0 := Lib.hid (HR.out.below (HB.out.trans (HW0.out.mono hwG)))
    go_wp2_with (at_builtin; refine wpList_appNd rfl _ _ 28 rfl 56 i1 Tryd.underlying28 hJ hy0 hy1 hy2 G _ _ _ [] l rfl HO0.out rfl R0.out (by have := HL.out; have := HN.out; simp; omega) (by simp; try omega) ?_)
    intro v8 w8 ho8 hb8 _
    have hlp : 0 < l.length := by
      have := (placeN_at l p (by have h := HG0.out.2; unfold hasN at h; simpa using h)).2
      exact List.length_pos_of_mem this
    obtain ⟨go, co, hv8, hco, hGo, hgo⟩ := OwnNd.inBlock ho8 (by simpa using hlp)
    subst hv8
    have HO8 := Lib.hid ho8
    have HW8 := Lib.hid (HW0.out.trans hb8)
    have hs8 : G ≤ w8.heap.size := by have := HW8.out.size; omega
    clear ho8 hb8 HO0 HW0 R0 ca cx
    have ca := (X0.out.below HW8.out hg0G).cell 0
    have hLN := HN.out
    rw [hLN] at HO8 hco ⊢
    obtain ⟨i, hi⟩ : ∃ i, placeN l p = i := ⟨_, rfl⟩
    have hip : i < n := by
      have h := HG0.out.2
      unfold hasN at h
      rw [decide_eq_true_eq, hi, hLN] at h
      exact h
    have HAT : Hid (atI l p = (i : Int)) := by
      show _ = _
      unfold atI
      rw [if_pos HG0.out.2, hi]
    have zi : (i : Int) < (n : Int) := by omega
    rw [hi] at HX
    clear hi hLN hlp
    obtain ⟨oo, hoo⟩ : ∃ r, nO nd = r := ⟨_, rfl⟩
    have X2 : Hid (Blk w5 g2 [txt (nP nd), txt (nV nd), .int .i64 r, .int .i64 oo] 56) := by
      show Blk _ _ _ _
      have h := X2c.out
      unfold ndc at h
      rw [HRR.out, hoo] at h
      exact h
    have HOO := Lib.hid hoo
    clear hoo X2c
    obtain ⟨q, hq⟩ : ∃ q, IntKind.i64.wrap (r + 1) = q := ⟨_, rfl⟩
    have HQ := Lib.hid hq
    clear hq
    go_wp2
    have HB8 : Hid (Below w.heap.size w w8) := Lib.hid (HB.out.trans (HW8.out.mono hwG))
    have E0 := Lib.hid (X0.out.below HW8.out hg0G)
    have E2 := Lib.hid (X2.out.below HW8.out (show g2 < G by omega))
    refine wp_region_rely3 13 1 (fun x => ⟨#[.agg #[Value.slice A n cp], txt p, txt vl, .int IntKind.i64 z, .pointer (some { block := g0, off := 0 }), undef, undef, undef, .pointer (some { block := g1, off := 0 }), .int IntKind.i64 0, .pointer (some { block := g2, off := 0 }), .int IntKind.i64 0, .slice (some { block := go, off := 0 }) n co, .tuple #[ndv nd, Value.int IntKind.i64 0], .agg #[Value.slice A n cp], txt p, .tuple #[ndv nd, Value.int IntKind.i64 0], ndv nd, .int IntKind.i64 0, .int IntKind.i64 0, .bool false, undef, undef, .int IntKind.i64 z, .bool false, .bool false, undef, undef, undef, undef, .bool false, undef, txt vl, .int IntKind.i64 ↑k, .bool false, undef, .pointer (some { block := g2, off := 2 }), .int IntKind.i64 r, .bool false, undef, .slice (some { block := G, off := 0 }) 0 0, .pointer (some { block := g0, off := 0 }), .slice A n cp, .slice (some { block := go, off := 0 }) n co, x 0, x 1, x 2, x 3, x 4, x 5, x 6, x 7, x 8, x 9, x 10, x 11, x 12, undef, undef], []⟩) (fun jj => ([eqV (.slice (some { block := go, off := 0 }) n co), eqV (.agg #[.slice A n cp]), eqV (txt p), (eqV (.int .i64 (i : Int))), eqV (txt p), eqV (txt vl), eqV (.pointer (some ⟨g2, 2, none⟩)), eqV (.int .i64 r), eqV (.int .i64 q), eqV (.pointer (some ⟨g2, 3, none⟩)), eqV (.int .i64 oo), eqV (.agg (ndc (p, vl, q, oo)).toArray), eqV (.pointer (some ⟨go, i * 4, none⟩))] : List (Value → World → Prop)).getD jj (fun _ _ => True)) rfl ⟨fun kk => [_, _, _, _, _, _, _, _, _, _, _, _, _].getD kk undef, rfl⟩ (by kernel_rfl) (by kernel_rfl) ?steps ?fin
    case steps =>
      refine StepsAt.val 0 (.slice (some { block := go, off := 0 }) n co) rfl (fun _ _ => rfl) rfl rfl (fun x w9 hb hd => ?_) ?_
      · first | (go_simp; done) | (go_simp; rfl)
      refine StepsAt.val 1 (.agg #[.slice A n cp]) rfl (fun _ _ => rfl) rfl rfl (fun x w9 hb hd => ?_) ?_
      · have cc := ((E0.out.below hb E0.out.lt).cell 0).trans (show _ = some (.slice A n cp) from rfl)
        first | (go_simp; done) | (go_simp; rfl)
      refine StepsAt.val 2 (txt p) rfl (fun _ _ => rfl) rfl rfl (fun x w9 hb hd => ?_) ?_
      · first | (go_simp; done) | (go_simp; rfl)
      refine StepsAt.cons 3 (fun _ _ _ h hb => h) (fun _ _ => rfl) rfl rfl (fun x w9 hb hd K hK => ?_) ?_
      · have h1 : Hid (x 1 = .agg #[.slice A n cp]) := hd 1 (by kernel_rfl)
        have h2 : Hid (x 2 = txt p) := hd 2 (by kernel_rfl)
        go_simp
        refine calls_args (args2 := #[.agg #[.slice A n cp], txt p]) (by rw [h1.out, h2.out]) ?_
        refine (atIs l p i HAT.out (.slice A n cp) _ ((HR.out.below (HB8.out.trans (hb.mono HB8.out.size))).more (HB8.out.trans (hb.mono HB8.out.size)).size)).mono ?_
        rintro e w99 ⟨rfl, hb99⟩
        exact hK.out _ _ hb99 rfl
      refine StepsAt.val 4 (txt p) rfl (fun _ _ => rfl) rfl rfl (fun x w9 hb hd => ?_) ?_
      · first | (go_simp; done) | (go_simp; rfl)
      refine StepsAt.val 5 (txt vl) rfl (fun _ _ => rfl) rfl rfl (fun x w9 hb hd => ?_) ?_
      · first | (go_simp; done) | (go_simp; rfl)
      refine StepsAt.val 6 (.pointer (some ⟨g2, 2, none⟩)) rfl (fun _ _ => rfl) rfl rfl (fun x w9 hb hd => ?_) ?_
      · first | (go_simp; done) | (go_simp; rfl)
      refine StepsAt.val 7 (.int .i64 r) rfl (fun _ _ => rfl) rfl rfl (fun x w9 hb hd => ?_) ?_
      · have h6 : x 6 = .pointer (some ⟨g2, 2, none⟩) := hd 6 (by kernel_rfl)
        have cc := ((E2.out.below hb E2.out.lt).cell 2).trans (show _ = some (.int .i64 r) from rfl)
        rw [h6]
        first | (go_simp; done) | (go_simp; rfl)
      refine StepsAt.val 8 (.int .i64 q) rfl (fun _ _ => rfl) rfl rfl (fun x w9 hb hd => ?_) ?_
      · have h7 : x 7 = .int .i64 r := hd 7 (by kernel_rfl)
        first | (go_simp; done) | (go_simp; rw [HQ.out])
      refine StepsAt.val 9 (.pointer (some ⟨g2, 3, none⟩)) rfl (fun _ _ => rfl) rfl rfl (fun x w9 hb hd => ?_) ?_
      · first | (go_simp; done) | (go_simp; rfl)
      refine StepsAt.val 10 (.int .i64 oo) rfl (fun _ _ => rfl) rfl rfl (fun x w9 hb hd => ?_) ?_
      · have h9 : x 9 = .pointer (some ⟨g2, 3, none⟩) := hd 9 (by kernel_rfl)
        have cc := ((E2.out.below hb E2.out.lt).cell 3).trans (show _ = some (.int .i64 oo) from rfl)
        rw [h9]
        first | (go_simp; done) | (go_simp; rfl)
      refine StepsAt.val 11 (.agg (ndc (p, vl, q, oo)).toArray) rfl (fun _ _ => rfl) rfl rfl (fun x w9 hb hd => ?_) ?_
      · have h4 : x 4 = txt p := hd 4 (by kernel_rfl)
        have h5 : x 5 = txt vl := hd 5 (by kernel_rfl)
        have h8 : x 8 = .int .i64 q := hd 8 (by kernel_rfl)
        have h10 : x 10 = .int .i64 oo := hd 10 (by kernel_rfl)
        rw [h4, h5, h8, h10]
        first | (go_simp; done) | (go_simp; rfl)
      refine StepsAt.val 12 (.pointer (some ⟨go, i * 4, none⟩)) rfl (fun _ _ => rfl) rfl rfl (fun x w9 hb hd => ?_) ?_
      · have h0 : x 0 = .slice (some { block := go, off := 0 }) n co := hd 0 (by kernel_rfl)
        have h3 : x 3 = .int .i64 (i : Int) := hd 3 (by kernel_rfl)
        rw [h0, h3]
        have haa : (⟨go, 0, none⟩ : Addr).add (i * 4) = ⟨go, i * 4, none⟩ := by rw [Addr.add_mid, Nat.zero_add]
        first | (go_simp; done) | (go_simp; rfl) | (go_simp; rw [haa])
      exact StepsAt.done
    case fin =>
      intro x9 w9 hb hd
      have hx0 : x9 0 = .slice (some ⟨go, 0, none⟩) n co := hd 0 (by omega)
      have hx1 : x9 1 = .agg #[.slice A n cp] := hd 1 (by omega)
      have hx3 : x9 3 = .int .i64 (i : Int) := hd 3 (by omega)
      have hx11 : x9 11 = .agg (ndc (p, vl, q, oo)).toArray := hd 11 (by omega)
      have hx12 : x9 12 = .pointer (some ⟨go, i * 4, none⟩) := hd 12 (by omega)
      try rw [hx0]
      try rw [hx1]
      try rw [hx3]
      rw [hx11, hx12]
      have F1 : Hid (Blk w9 g1 [.slice none 0 0] 30) := (X1.out.below HW8.out hg1G).below hb (by omega)
      have HO9 : Hid (OwnNd 56 w9 G (.slice (some ⟨go, 0, none⟩) n co) l) := HO8.out.below hb (by omega)
      have HW9 : Hid (Below G w5 w9) := HW8.out.trans (hb.mono (by omega))
      clear hd hb hx0 hx1 hx3 hx11 hx12
      refine AnyTill.any (S := fun _ => True) (m := 14) _ _ _ _ ?_
      refine AnyTill.one (i := 13) (by kernel_rfl) rfl (by rfl) (fun K hK => ?_)
      have hil : i < l.length := by have := HN.out; omega
      have H3 := Lib.hid (HO9.out.stored i hil (p, vl, q, oo))
      refine wp_store_mid 56 _ _ rfl go (i * 4) (ndc (p, vl, q, oo)).toArray rfl rfl H3.out.2.1 sND (ndc_one _) ?_
      rw [List.toList_toArray]
      refine hK.out _ _ (.inr trivial) ?_
      clear hK K
      simp only [Act.put]
      refine AnyTill.done (by kernel_rfl) ?_
      refine NoPanic.normal ?_
      try dsimp only
      have F2 : Hid (Blk (w9.setCells go (i * 4) (ndc (p, vl, q, oo))) g1 [.slice none 0 0] 30) := F1.out.same (setCells_other go _ _ _ g1 (by omega))
      have HO := Lib.hid H3.out.1
      have HW := Lib.hid (HW9.out.trans H3.out.2.2)
      have hG1 : g1 < G := by omega
      clear F1 HO9 HW9 H3
      obtain ⟨w10, hw10⟩ : ∃ w', w9.setCells go (i * 4) (ndc (p, vl, q, oo)) = w' := ⟨_, rfl⟩
      rw [hw10] at F2 HO HW ⊢
      clear hw10
      go_wp2_with (refine wpList_store_to rfl 30 _ _ rfl g1 [.slice (some ⟨go, 0, none⟩) n co] [.slice none 0 0] 30 rfl rfl F2.out sSH rfl (slice_one _ _ _) ?_)
      intro w20 e1 e2 e3 e4
      go_wp2
      refine bodyPost_ret (v := .tuple #[.agg [Value.slice (some ⟨go, 0, none⟩) n co].toArray, .int .i64 0]) ?_ rfl ?_
      · exact ret_blk2U rfl _ _ g1 30 [.slice (some ⟨go, 0, none⟩) n co] _ rfl rfl e1 d30 HU.out HD.out sSH
      · have HQ2 := HQ.out
        rw [HX.out.1, HX.out.2, HX2.out, HRR.out, HQ2, HOO.out]
        exact ⟨_, rfl, OwnNd.rd (ownsRow_same HO.out (fun k hk => e4 k (by omega))), HB.out.trans ((HW.out.mono hwG).trans (e3.mono hw1))⟩

  · by_cases h1000 : 1000 < (k : Int)
    · skip
      have HX := Lib.hid (set_err l p vl z 5 (by have e1 : 1000 < k := (by omega); simp only [setE, HGE.out, HX2.out, if_neg HV.out, ne_eq, not_true_eq_false, if_false, HK.out]; simp [e1]) (by decide))
      go_wp2_with (refine wpList_store_to rfl 30 _ _ rfl g1 [.slice A n cp] [.slice none 0 0] 30 rfl rfl X1.out sSH rfl (slice_one _ _ _) ?_)
      intro w9 e1 e2 e3 e4
      go_wp2
      refine bodyPost_ret (v := .tuple #[.agg [Value.slice A n cp].toArray, .int .i64 5]) ?_ rfl ?_
      · exact ret_blk2U rfl _ _ g1 30 [.slice A n cp] _ rfl rfl e1 d30 HU.out HD.out sSH
      · have HB9 := HB.out.trans (e3.mono hw1)
        rw [HX.out.1, HX.out.2]
        exact ⟨_, rfl, (HR.out.below HB9).more HB9.size, HB9⟩
    by_cases h9 : r = 1000000000
    · have hrb : (r == 1000000000) = true := by simpa using h9
      subst h9
      have HX := Lib.hid (set_err l p vl z 9 (by have e1 : ¬ 1000 < k := (by omega); simp only [setE, HGE.out, HX2.out, if_neg HV.out, ne_eq, not_true_eq_false, if_false, HK.out]; rw [HRR.out]; simp [e1]) (by decide))
      go_wp2_with (refine wpList_store_to rfl 30 _ _ rfl g1 [.slice A n cp] [.slice none 0 0] 30 rfl rfl X1.out sSH rfl (slice_one _ _ _) ?_)
      intro w9 e1 e2 e3 e4
      go_wp2
      refine bodyPost_ret (v := .tuple #[.agg [Value.slice A n cp].toArray, .int .i64 9]) ?_ rfl ?_
      · exact ret_blk2U rfl _ _ g1 30 [.slice A n cp] _ rfl rfl e1 d30 HU.out HD.out sSH
      · have HB9 := HB.out.trans (e3.mono hw1)
        rw [HX.out.1, HX.out.2]
        exact ⟨_, rfl, (HR.out.below HB9).more HB9.size, HB9⟩
    have hrb : (r == 1000000000) = false := by simpa using h9
    have HX := Lib.hid (set_ok l p vl z (by have e1 : ¬ 1000 < k := (by omega); simp only [setE, HGE.out, HX2.out, if_neg HV.out, ne_eq, not_true_eq_false, if_false, HK.out]; rw [HRR.out]; simp [e1, h9]))
    clear h9
    obtain ⟨G, hG⟩ : ∃ G, w5.heap.size = G := ⟨_, rfl⟩
    have hwG : w.heap.size ≤ G := by omega
    have hg0G : g0 < G := by omega
    have hg1G : g1 < G := by omega
    have HO0 : Hid (OwnNd 56 (w5.alloc (.cells #[] 56)) G (.slice (some ⟨G, 0, none⟩) 0 0) []) := by
      have := OwnNd.empty 56 w5 G (by omega)
      rw [hG] at this
      exact this
    have HW0 : Hid (Below G w5 (w5.alloc (.cells #[] 56))) := (Below.refl _ _).alloc (by omega) _
    have R0 := Lib.hid (HR.out.below (HB.out.trans (HW0.out.mono hwG)))
    go_wp2_with (at_builtin; refine wpList_appNd rfl _ _ 28 rfl 56 i1 Tryd.underlying28 hJ hy0 hy1 hy2 G _ _ _ [] l rfl HO0.out rfl R0.out (by have := HL.out; have := HN.out; simp; omega) (by simp; try omega) ?_)
    intro v8 w8 ho8 hb8 _
    have hlp : 0 < l.length := by
      have := (placeN_at l p (by have h := HG0.out.2; unfold hasN at h; simpa using h)).2
      exact List.length_pos_of_mem this
    obtain ⟨go, co, hv8, hco, hGo, hgo⟩ := OwnNd.inBlock ho8 (by simpa using hlp)
    subst hv8
    have HO8 := Lib.hid ho8
    have HW8 := Lib.hid (HW0.out.trans hb8)
    have hs8 : G ≤ w8.heap.size := by have := HW8.out.size; omega
    clear ho8 hb8 HO0 HW0 R0 ca cx
    have ca := (X0.out.below HW8.out hg0G).cell 0
    have hLN := HN.out
    rw [hLN] at HO8 hco ⊢
    obtain ⟨i, hi⟩ : ∃ i, placeN l p = i := ⟨_, rfl⟩
    have hip : i < n := by
      have h := HG0.out.2
      unfold hasN at h
      rw [decide_eq_true_eq, hi, hLN] at h
      exact h
    have HAT : Hid (atI l p = (i : Int)) := by
      show _ = _
      unfold atI
      rw [if_pos HG0.out.2, hi]
    have zi : (i : Int) < (n : Int) := by omega
    rw [hi] at HX
    clear hi hLN hlp
    obtain ⟨oo, hoo⟩ : ∃ r, nO nd = r := ⟨_, rfl⟩
    have X2 : Hid (Blk w5 g2 [txt (nP nd), txt (nV nd), .int .i64 r, .int .i64 oo] 56) := by
      show Blk _ _ _ _
      have h := X2c.out
      unfold ndc at h
      rw [HRR.out, hoo] at h
      exact h
    have HOO := Lib.hid hoo
    clear hoo X2c
    obtain ⟨q, hq⟩ : ∃ q, IntKind.i64.wrap (r + 1) = q := ⟨_, rfl⟩
    have HQ := Lib.hid hq
    clear hq
    go_wp2
    have HB8 : Hid (Below w.heap.size w w8) := Lib.hid (HB.out.trans (HW8.out.mono hwG))
    have E0 := Lib.hid (X0.out.below HW8.out hg0G)
    have E2 := Lib.hid (X2.out.below HW8.out (show g2 < G by omega))
    refine wp_region_rely3 13 1 (fun x => ⟨#[.agg #[Value.slice A n cp], txt p, txt vl, .int IntKind.i64 z, .pointer (some { block := g0, off := 0 }), undef, undef, undef, .pointer (some { block := g1, off := 0 }), .int IntKind.i64 0, .pointer (some { block := g2, off := 0 }), .int IntKind.i64 0, .slice (some { block := go, off := 0 }) n co, .tuple #[ndv nd, Value.int IntKind.i64 0], .agg #[Value.slice A n cp], txt p, .tuple #[ndv nd, Value.int IntKind.i64 0], ndv nd, .int IntKind.i64 0, .int IntKind.i64 0, .bool false, undef, undef, .int IntKind.i64 z, .bool true, .bool true, .int IntKind.i64 z, .pointer (some { block := g2, off := 2 }), .int IntKind.i64 r, .bool false, .bool false, undef, txt vl, .int IntKind.i64 ↑k, .bool false, undef, .pointer (some { block := g2, off := 2 }), .int IntKind.i64 r, .bool false, undef, .slice (some { block := G, off := 0 }) 0 0, .pointer (some { block := g0, off := 0 }), .slice A n cp, .slice (some { block := go, off := 0 }) n co, x 0, x 1, x 2, x 3, x 4, x 5, x 6, x 7, x 8, x 9, x 10, x 11, x 12, undef, undef], []⟩) (fun jj => ([eqV (.slice (some { block := go, off := 0 }) n co), eqV (.agg #[.slice A n cp]), eqV (txt p), (eqV (.int .i64 (i : Int))), eqV (txt p), eqV (txt vl), eqV (.pointer (some ⟨g2, 2, none⟩)), eqV (.int .i64 r), eqV (.int .i64 q), eqV (.pointer (some ⟨g2, 3, none⟩)), eqV (.int .i64 oo), eqV (.agg (ndc (p, vl, q, oo)).toArray), eqV (.pointer (some ⟨go, i * 4, none⟩))] : List (Value → World → Prop)).getD jj (fun _ _ => True)) rfl ⟨fun kk => [_, _, _, _, _, _, _, _, _, _, _, _, _].getD kk undef, rfl⟩ (by kernel_rfl) (by kernel_rfl) ?steps ?fin
    case steps =>
      refine StepsAt.val 0 (.slice (some { block := go, off := 0 }) n co) rfl (fun _ _ => rfl) rfl rfl (fun x w9 hb hd => ?_) ?_
      · first | (go_simp; done) | (go_simp; rfl)
      refine StepsAt.val 1 (.agg #[.slice A n cp]) rfl (fun _ _ => rfl) rfl rfl (fun x w9 hb hd => ?_) ?_
      · have cc := ((E0.out.below hb E0.out.lt).cell 0).trans (show _ = some (.slice A n cp) from rfl)
        first | (go_simp; done) | (go_simp; rfl)
      refine StepsAt.val 2 (txt p) rfl (fun _ _ => rfl) rfl rfl (fun x w9 hb hd => ?_) ?_
      · first | (go_simp; done) | (go_simp; rfl)
      refine StepsAt.cons 3 (fun _ _ _ h hb => h) (fun _ _ => rfl) rfl rfl (fun x w9 hb hd K hK => ?_) ?_
      · have h1 : Hid (x 1 = .agg #[.slice A n cp]) := hd 1 (by kernel_rfl)
        have h2 : Hid (x 2 = txt p) := hd 2 (by kernel_rfl)
        go_simp
        refine calls_args (args2 := #[.agg #[.slice A n cp], txt p]) (by rw [h1.out, h2.out]) ?_
        refine (atIs l p i HAT.out (.slice A n cp) _ ((HR.out.below (HB8.out.trans (hb.mono HB8.out.size))).more (HB8.out.trans (hb.mono HB8.out.size)).size)).mono ?_
        rintro e w99 ⟨rfl, hb99⟩
        exact hK.out _ _ hb99 rfl
      refine StepsAt.val 4 (txt p) rfl (fun _ _ => rfl) rfl rfl (fun x w9 hb hd => ?_) ?_
      · first | (go_simp; done) | (go_simp; rfl)
      refine StepsAt.val 5 (txt vl) rfl (fun _ _ => rfl) rfl rfl (fun x w9 hb hd => ?_) ?_
      · first | (go_simp; done) | (go_simp; rfl)
      refine StepsAt.val 6 (.pointer (some ⟨g2, 2, none⟩)) rfl (fun _ _ => rfl) rfl rfl (fun x w9 hb hd => ?_) ?_
      · first | (go_simp; done) | (go_simp; rfl)
      refine StepsAt.val 7 (.int .i64 r) rfl (fun _ _ => rfl) rfl rfl (fun x w9 hb hd => ?_) ?_
      · have h6 : x 6 = .pointer (some ⟨g2, 2, none⟩) := hd 6 (by kernel_rfl)
        have cc := ((E2.out.below hb E2.out.lt).cell 2).trans (show _ = some (.int .i64 r) from rfl)
        rw [h6]
        first | (go_simp; done) | (go_simp; rfl)
      refine StepsAt.val 8 (.int .i64 q) rfl (fun _ _ => rfl) rfl rfl (fun x w9 hb hd => ?_) ?_
      · have h7 : x 7 = .int .i64 r := hd 7 (by kernel_rfl)
        first | (go_simp; done) | (go_simp; rw [HQ.out])
      refine StepsAt.val 9 (.pointer (some ⟨g2, 3, none⟩)) rfl (fun _ _ => rfl) rfl rfl (fun x w9 hb hd => ?_) ?_
      · first | (go_simp; done) | (go_simp; rfl)
      refine StepsAt.val 10 (.int .i64 oo) rfl (fun _ _ => rfl) rfl rfl (fun x w9 hb hd => ?_) ?_
      · have h9 : x 9 = .pointer (some ⟨g2, 3, none⟩) := hd 9 (by kernel_rfl)
        have cc := ((E2.out.below hb E2.out.lt).cell 3).trans (show _ = some (.int .i64 oo) from rfl)
        rw [h9]
        first | (go_simp; done) | (go_simp; rfl)
      refine StepsAt.val 11 (.agg (ndc (p, vl, q, oo)).toArray) rfl (fun _ _ => rfl) rfl rfl (fun x w9 hb hd => ?_) ?_
      · have h4 : x 4 = txt p := hd 4 (by kernel_rfl)
        have h5 : x 5 = txt vl := hd 5 (by kernel_rfl)
        have h8 : x 8 = .int .i64 q := hd 8 (by kernel_rfl)
        have h10 : x 10 = .int .i64 oo := hd 10 (by kernel_rfl)
        rw [h4, h5, h8, h10]
        first | (go_simp; done) | (go_simp; rfl)
      refine StepsAt.val 12 (.pointer (some ⟨go, i * 4, none⟩)) rfl (fun _ _ => rfl) rfl rfl (fun x w9 hb hd => ?_) ?_
      · have h0 : x 0 = .slice (some { block := go, off := 0 }) n co := hd 0 (by kernel_rfl)
        have h3 : x 3 = .int .i64 (i : Int) := hd 3 (by kernel_rfl)
        rw [h0, h3]
        have haa : (⟨go, 0, none⟩ : Addr).add (i * 4) = ⟨go, i * 4, none⟩ := by rw [Addr.add_mid, Nat.zero_add]
        first | (go_simp; done) | (go_simp; rfl) | (go_simp; rw [haa])
      exact StepsAt.done
    case fin =>
      intro x9 w9 hb hd
      have hx0 : x9 0 = .slice (some ⟨go, 0, none⟩) n co := hd 0 (by omega)
      have hx1 : x9 1 = .agg #[.slice A n cp] := hd 1 (by omega)
      have hx3 : x9 3 = .int .i64 (i : Int) := hd 3 (by omega)
      have hx11 : x9 11 = .agg (ndc (p, vl, q, oo)).toArray := hd 11 (by omega)
      have hx12 : x9 12 = .pointer (some ⟨go, i * 4, none⟩) := hd 12 (by omega)
      try rw [hx0]
      try rw [hx1]
      try rw [hx3]
      rw [hx11, hx12]
      have F1 : Hid (Blk w9 g1 [.slice none 0 0] 30) := (X1.out.below HW8.out hg1G).below hb (by omega)
      have HO9 : Hid (OwnNd 56 w9 G (.slice (some ⟨go, 0, none⟩) n co) l) := HO8.out.below hb (by omega)
      have HW9 : Hid (Below G w5 w9) := HW8.out.trans (hb.mono (by omega))
      clear hd hb hx0 hx1 hx3 hx11 hx12
      refine AnyTill.any (S := fun _ => True) (m := 14) _ _ _ _ ?_
      refine AnyTill.one (i := 13) (by kernel_rfl) rfl (by rfl) (fun K hK => ?_)
      have hil : i < l.length := by have := HN.out; omega
      have H3 := Lib.hid (HO9.out.stored i hil (p, vl, q, oo))
      refine wp_store_mid 56 _ _ rfl go (i * 4) (ndc (p, vl, q, oo)).toArray rfl rfl H3.out.2.1 sND (ndc_one _) ?_
      rw [List.toList_toArray]
      refine hK.out _ _ (.inr trivial) ?_
      clear hK K
      simp only [Act.put]
      refine AnyTill.done (by kernel_rfl) ?_
      refine NoPanic.normal ?_
      try dsimp only
      have F2 : Hid (Blk (w9.setCells go (i * 4) (ndc (p, vl, q, oo))) g1 [.slice none 0 0] 30) := F1.out.same (setCells_other go _ _ _ g1 (by omega))
      have HO := Lib.hid H3.out.1
      have HW := Lib.hid (HW9.out.trans H3.out.2.2)
      have hG1 : g1 < G := by omega
      clear F1 HO9 HW9 H3
      obtain ⟨w10, hw10⟩ : ∃ w', w9.setCells go (i * 4) (ndc (p, vl, q, oo)) = w' := ⟨_, rfl⟩
      rw [hw10] at F2 HO HW ⊢
      clear hw10
      go_wp2_with (refine wpList_store_to rfl 30 _ _ rfl g1 [.slice (some ⟨go, 0, none⟩) n co] [.slice none 0 0] 30 rfl rfl F2.out sSH rfl (slice_one _ _ _) ?_)
      intro w20 e1 e2 e3 e4
      go_wp2
      refine bodyPost_ret (v := .tuple #[.agg [Value.slice (some ⟨go, 0, none⟩) n co].toArray, .int .i64 0]) ?_ rfl ?_
      · exact ret_blk2U rfl _ _ g1 30 [.slice (some ⟨go, 0, none⟩) n co] _ rfl rfl e1 d30 HU.out HD.out sSH
      · have HQ2 := HQ.out
        rw [HX.out.1, HX.out.2, HX2.out, HRR.out, HQ2, HOO.out]
        exact ⟨_, rfl, OwnNd.rd (ownsRow_same HO.out (fun k hk => e4 k (by omega))), HB.out.trans ((HW.out.mono hwG).trans (e3.mono hw1))⟩

end Go.Proofs.YtlpakfaoaodaiaaDoor
