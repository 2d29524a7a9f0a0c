/-
  The document's shelves: Delete.
-/
import Derived.Test.YtlpakfaoaodaiaaDoorHC
namespace Go.Proofs.YtlpakfaoaodaiaaDoor
open Go.RowKit

theorem RdNd.take {B : Nat} {w : World} {A : Option Addr} {n c : Nat} {l : List Nd} (h : RdNd B w (.slice A n c) l) (k : Nat) (hk : k ≤ n) : RdNd B w (.slice A k c) (l.take k) := by
  obtain ⟨A', c', hv, hc, hm, hn, hr⟩ := h
  injection hv with h1 h2 h3
  subst h1 h2 h3
  have hl : (l.take k).length = k := by simp; omega
  refine ⟨A, c, by rw [hl], by rw [hl]; omega, hm, hn, fun a ha => ⟨fun h0 => (hr a ha).1 (by omega), fun j u hu => (hr a ha).2 j u ?_⟩⟩
  have e : nds l = nds (l.take k) ++ nds (l.drop k) := by rw [← nds_append, List.take_append_drop]
  have hj := (List.getElem?_eq_some_iff.1 hu).1
  rw [e, List.getElem?_append_left hj]
  exact hu
theorem RdNd.drop {B : Nat} {w : World} {a : Addr} {n c : Nat} {l : List Nd} (h : RdNd B w (.slice (some a) n c) l) (k : Nat) (hk : k ≤ n) : RdNd B w (.slice (if c = k then some a else some (a.add (k * 4))) (n - k) (c - k)) (l.drop k) := by
  obtain ⟨A', c', hv, hc, hm, hn, hr⟩ := h
  injection hv with h1 h2 h3
  subst h1 h2 h3
  have hl : (l.drop k).length = l.length - k := List.length_drop
  refine ⟨_, c - k, by rw [hl], by omega, by omega, fun hnone => ?_, fun x hx => ⟨fun h0 => ?_, fun j u hu => ?_⟩⟩
  · split at hnone <;> cases hnone
  · have h1 := (hr a rfl).1 (by rw [hl] at h0; omega)
    split at hx
    · injection hx with hx; rw [← hx]; exact h1
    · injection hx with hx; rw [← hx, addr_block]; exact h1
  · have hj := (List.getElem?_eq_some_iff.1 hu).1
    rw [nds_length, hl] at hj
    split at hx
    · omega
    · injection hx with hx
      rw [← hx, Addr.add_add, show k * 4 = 4 * k from Nat.mul_comm _ _]
      refine (hr a rfl).2 (4 * k + j) u ?_
      have e : nds l = nds (l.take k) ++ nds (l.drop k) := by rw [← nds_append, List.take_append_drop]
      have e2 : (nds (l.take k)).length = 4 * k := by rw [nds_length]; simp; omega
      rw [e, List.getElem?_append_right (by omega), e2, Nat.add_sub_cancel_left]
      exact hu
theorem del_err (l : List Nd) (p : List UInt8) (ver : Int) (f : Nat) (h : delE l p ver = f) (h0 : f ≠ 0) : delE l p ver = f ∧ delS l p ver = l := by
  refine ⟨h, ?_⟩
  unfold delS
  rw [if_neg (by rw [h]; exact h0)]
theorem del_ok (l : List Nd) (p : List UInt8) (ver : Int) (h : delE l p ver = 0) : delE l p ver = 0 ∧ delS l p ver = l.take (placeN l p) ++ l.drop (placeN l p + 1) := by
  refine ⟨h, ?_⟩
  unfold delS
  rw [if_pos h, List.eraseIdx_eq_take_drop_succ]

set_option maxRecDepth 100000 in
set_option maxHeartbeats 8000000 in
theorem rfDel_any (l : List Nd) (p : List UInt8) (z : Int) (v : Value) (w : World) (hr : RdNd w.heap.size w v l) (hl : l.length ≤ 100000) : Calls Tryd.prog 23 #[.agg #[v], txt p, .int .i64 z] w (Shelves (delS l p z) (delE l p z) w) := by
  obtain ⟨A, cp, rfl, hc, hm⟩ := hr.shape
  unfold maxLen at hm
  obtain ⟨i1, hJ, hy0, hy1, hy2⟩ := info_partsNd
  obtain ⟨n, hn⟩ : ∃ n, l.length = n := ⟨_, rfl⟩
  have HN := Lib.hid hn
  have HR := Lib.hid hr
  rw [hn] at hc HR hl ⊢
  have HL := Lib.hid hl
  obtain ⟨d30, hu30, hd30⟩ := rowSH
  have HU := Lib.hid hu30
  have HD := Lib.hid hd30
  clear hr hn hl hu30 hd30
  go_enter Tryd.func23, Tryd.ntmps23
  go_wp2_with (refine wpList_box_blk rfl 30 _ rfl [.slice A n cp] rfl ?_)
  intro w1 b1 b2 b3
  go_wp2_with (refine wpList_alloc_blk rfl 30 rfl [.slice none 0 0] zSH ?_)
  intro w2 a1 a2 a3
  obtain ⟨g0, hg0⟩ : ∃ g, w.heap.size = g := ⟨_, rfl⟩
  obtain ⟨g1, hg1⟩ : ∃ g, w.heap.size + 1 = g := ⟨_, rfl⟩
  have X0 := Lib.hid (b1.below a3 (by omega))
  have X1 := Lib.hid a1
  have HB := Lib.hid (b3.trans (a3.mono (by omega)))
  have hg01 : g0 < g1 := by omega
  have hg2 : g1 < w2.heap.size := by omega
  have hw1 : w.heap.size ≤ g1 := by omega
  rw [hg1] at X1 ⊢
  rw [hg0] at X0 ⊢
  have ca := X0.out.cell 0
  clear b1 b2 b3 a1 a2 a3 hg1 hg0
  go_wp2_with fail
  refine (rfGet_any l p _ w2 ((HR.out.below HB.out).more HB.out.size)).mono ?_
  rintro e w3 ⟨rfl, hb⟩
  have hs3 := hb.size
  have Y0 := Lib.hid (X0.out.below hb (by omega))
  have Y1 := Lib.hid (X1.out.below hb (by omega))
  have HB3 := Lib.hid (HB.out.trans (hb.mono (by omega)))
  have hg3 : g1 < w3.heap.size := by omega
  clear hb X0 X1 HB ca
  have X0 := Y0
  have X1 := Y1
  have HB := HB3
  clear Y0 Y1 HB3
  have ca := X0.out.cell 0
  go_wp2_with (refine wpList_alloc_blk rfl 56 rfl (ndc nd0) zND ?_)
  intro w4 a1 a2 a3
  obtain ⟨g2, hg2'⟩ : ∃ g, w3.heap.size = g := ⟨_, rfl⟩
  have Y0 := Lib.hid (X0.out.below a3 (by omega))
  have Y1 := Lib.hid (X1.out.below a3 (by omega))
  have HB4 := Lib.hid (HB.out.trans (a3.mono (by omega)))
  have A1 := Lib.hid a1
  have hg12 : g1 < g2 := by omega
  have hg4 : g2 < w4.heap.size := by omega
  have hwg2 : w.heap.size ≤ g2 := by omega
  rw [hg2'] at A1 ⊢
  clear a1 a2 a3 X0 X1 HB ca hg2'
  obtain ⟨x, hx⟩ : ∃ x, getS l p = x := ⟨_, rfl⟩
  obtain ⟨f, hf⟩ : ∃ f, getE l p = f := ⟨_, rfl⟩
  have HGS := Lib.hid hx
  have HGE := Lib.hid hf
  rw [hx, hf]
  clear hx hf
  go_wp2_with (refine wpList_store_to rfl 56 _ _ rfl g2 (ndc x) (ndc nd0) 56 rfl rfl A1.out sND rfl (ndc_one _) ?_)
  intro w5 c1 c2 c3 c4
  have X0 := Lib.hid (Y0.out.same (c4 g0 (by omega)))
  have X1 := Lib.hid (Y1.out.same (c4 g1 (by omega)))
  have HB := Lib.hid (HB4.out.trans (c3.mono hwg2))
  have hg5 : g1 < w5.heap.size := by omega
  have ca := X0.out.cell 0
  have cx := c1.at_ 2 _ rfl
  clear c1 c2 c3 c4 Y0 Y1 HB4 A1
  by_cases hf0 : f = 0
  rotate_left
  · have hz : ((f : Int) != 0) = true := by
      rw [bne_iff_ne]
      omega
    have HX := Lib.hid (del_err l p z f (by simp [delE, HGE.out, hf0]) (hf0))
    go_wp2_with (refine wpList_store_to rfl 30 _ _ rfl g1 [.slice A n cp] [.slice none 0 0] 30 rfl rfl X1.out sSH rfl (slice_one _ _ _) ?_)
    intro w9 e1 e2 e3 e4
    go_wp2
    refine bodyPost_ret (v := .tuple #[.agg [Value.slice A n cp].toArray, .int .i64 (f : Int)]) ?_ rfl ?_
    · exact ret_blk2U rfl _ _ g1 30 [.slice A n cp] _ rfl rfl e1 d30 HU.out HD.out sSH
    · have HB9 := HB.out.trans (e3.mono hw1)
      rw [HX.out.1, HX.out.2]
      exact ⟨_, rfl, (HR.out.below HB9).more HB9.size, HB9⟩
  subst hf0
  have HG0 := Lib.hid (getE_zero l p HGE.out)
  have HX2 : Hid (nodeN l p = x) := by
    show _ = _
    have := HGS.out
    unfold getS at this
    rw [if_pos HGE.out] at this
    exact this
  by_cases hroot : p = [47]
  · subst hroot
    have HX := Lib.hid (del_err l [47] z 13 (by simp [delE, HGE.out]) (by decide))
    go_wp2_with (refine wpList_store_to rfl 30 _ _ rfl g1 [.slice A n cp] [.slice none 0 0] 30 rfl rfl X1.out sSH rfl (slice_one _ _ _) ?_)
    intro w9 e1 e2 e3 e4
    go_wp2
    refine bodyPost_ret (v := .tuple #[.agg [Value.slice A n cp].toArray, .int .i64 13]) ?_ rfl ?_
    · exact ret_blk2U rfl _ _ g1 30 [.slice A n cp] _ rfl rfl e1 d30 HU.out HD.out sSH
    · have HB9 := HB.out.trans (e3.mono hw1)
      rw [HX.out.1, HX.out.2]
      exact ⟨_, rfl, (HR.out.below HB9).more HB9.size, HB9⟩
  have hrb : (p == [47]) = false := txt_ne p [47] hroot
  by_cases hver : z ≠ -1 ∧ z ≠ nR x
  · obtain ⟨hv1, hv2⟩ := hver
    have hv1b : (z != -1) = true := by rw [bne_iff_ne]; exact hv1
    have hv2b : (z != nR x) = true := by rw [bne_iff_ne]; exact hv2
    have HX := Lib.hid (del_err l p z 8 (by simp [delE, HGE.out, hroot, hv1, hv2, HX2.out]) (by decide))
    go_wp2_with (refine wpList_store_to rfl 30 _ _ rfl g1 [.slice A n cp] [.slice none 0 0] 30 rfl rfl X1.out sSH rfl (slice_one _ _ _) ?_)
    intro w9 e1 e2 e3 e4
    go_wp2
    refine bodyPost_ret (v := .tuple #[.agg [Value.slice A n cp].toArray, .int .i64 8]) ?_ rfl ?_
    · exact ret_blk2U rfl _ _ g1 30 [.slice A n cp] _ rfl rfl e1 d30 HU.out HD.out sSH
    · have HB9 := HB.out.trans (e3.mono hw1)
      rw [HX.out.1, HX.out.2]
      exact ⟨_, rfl, (HR.out.below HB9).more HB9.size, HB9⟩
  have HV := Lib.hid hver
  have HVB : Hid ((z != -1) = false ∨ ((z != -1) = true ∧ (z != nR x) = false)) := by
    show _ ∨ _
    by_cases h1 : z = -1
    · left; simpa using h1
    · by_cases h2 : z = nR x
      · right; exact ⟨by rw [bne_iff_ne]; exact h1, by simpa using h2⟩
      · exact absurd ⟨h1, h2⟩ hver
  clear hver
  have HROOT := Lib.hid hroot
  clear hroot
  have HK1 : Hid (Calls Tryd.prog 55 #[.agg #[.slice A n cp], txt p] w5 (Rows (kidsN l p) w5)) := rfKids_any l p _ w5 ((HR.out.below HB.out).more HB.out.size) (by rw [HN.out]; have := HL.out; omega)
  rcases HVB.out with hv1 | ⟨hv1, hv2⟩
  all_goals
    go_wp2_with fail
    refine HK1.out.mono ?_
    rintro e w6 ⟨u, rfl, ho, hb⟩
    have hs6 := hb.size
    have Y0 := Lib.hid (X0.out.below hb (by omega))
    have Y1 := Lib.hid (X1.out.below hb (by omega))
    have HB6 := Lib.hid (HB.out.trans (hb.mono (by omega)))
    have hg6 : g1 < w6.heap.size := by omega
    clear hb X0 X1 HB ca cx HK1
    have X0 := Y0
    have X1 := Y1
    have HB := HB6
    clear Y0 Y1 HB6
    have ca := X0.out.cell 0
    obtain ⟨Au, cu, hu, -, -⟩ := ho.rd.shape
    subst hu
    rw [bas_length]
    obtain ⟨m, hm2⟩ : ∃ m, (kidsN l p).length = m := ⟨_, rfl⟩
    rw [hm2]
    have HM := Lib.hid hm2
    clear ho hm2
    by_cases hm0 : 0 < (m : Int)
    · skip
      have HX := Lib.hid (del_err l p z 10 (by have h1 : kidsN l p ≠ [] := (by intro h; have := HM.out; rw [h] at this; simp at this; omega); simp only [delE, HGE.out, HX2.out, if_neg HROOT.out, if_neg HV.out, h1, ne_eq, not_true_eq_false, if_false, not_false_eq_true, if_true]) (by decide))
      go_wp2_with (refine wpList_store_to rfl 30 _ _ rfl g1 [.slice A n cp] [.slice none 0 0] 30 rfl rfl X1.out sSH rfl (slice_one _ _ _) ?_)
      intro w9 e1 e2 e3 e4
      go_wp2
      refine bodyPost_ret (v := .tuple #[.agg [Value.slice A n cp].toArray, .int .i64 10]) ?_ rfl ?_
      · exact ret_blk2U rfl _ _ g1 30 [.slice A n cp] _ rfl rfl e1 d30 HU.out HD.out sSH
      · have HB9 := HB.out.trans (e3.mono hw1)
        rw [HX.out.1, HX.out.2]
        exact ⟨_, rfl, (HR.out.below HB9).more HB9.size, HB9⟩
    have HX := Lib.hid (del_ok l p z (by have h1 : kidsN l p = [] := (by have := HM.out; exact List.eq_nil_of_length_eq_zero (by omega)); simp only [delE, HGE.out, HX2.out, if_neg HROOT.out, if_neg HV.out, h1, ne_eq, not_true_eq_false, if_false]))
    go_wp2_with fail
    refine (rfAt_any l p _ w6 ((HR.out.below HB.out).more HB.out.size)).mono ?_
    rintro e w7 ⟨rfl, hb⟩
    have hs7 := hb.size
    have Y0 := Lib.hid (X0.out.below hb (by omega))
    have Y1 := Lib.hid (X1.out.below hb (by omega))
    have HB7 := Lib.hid (HB.out.trans (hb.mono (by omega)))
    have hg7 : g1 < w7.heap.size := by omega
    clear hb X0 X1 HB ca
    have X0 := Y0
    have X1 := Y1
    have HB := HB7
    clear Y0 Y1 HB7
    have ca := X0.out.cell 0
    rcases atI_or l p with ⟨h1, h2, h3⟩ | ⟨h1, h2⟩
    rotate_left
    · rw [HG0.out.2] at h1; cases h1
    rw [h2]
    rw [HN.out] at h3
    obtain ⟨i, hi⟩ : ∃ i, placeN l p = i := ⟨_, rfl⟩
    rw [hi] at h3 HX ⊢
    clear h1 h2 hi
    obtain ⟨a, hA, -⟩ := ((HR.out.below HB.out).more HB.out.size).at_ i (by rw [HN.out]; exact h3)
    subst hA
    obtain ⟨G, hG⟩ : ∃ G, w7.heap.size = G := ⟨_, rfl⟩
    have hwG : w.heap.size ≤ G := by omega
    have hg0G : g0 < G := by omega
    have hg1G : g1 < G := by omega
    have HO0 : Hid (OwnNd 56 (w7.alloc (.cells #[] 56)) G (.slice (some ⟨G, 0, none⟩) 0 0) []) := by
      have := OwnNd.empty 56 w7 G (by omega)
      rw [hG] at this
      exact this
    have HW0 : Hid (Below G w7 (w7.alloc (.cells #[] 56))) := (Below.refl _ _).alloc (by omega) _
    have R0 := Lib.hid (((HR.out.below HB.out).below (HW0.out.mono hwG)).take i (by omega))
    have z1 : (i : Int) ≤ (n : Int) := by omega
    have z2 : (i : Int) ≤ (cp : Int) := by omega
    go_wp2_with (at_builtin; refine wpList_appNd rfl _ _ 28 rfl 56 i1 Tryd.underlying28 hJ hy0 hy1 hy2 G _ _ _ [] (l.take i) rfl HO0.out rfl R0.out ?d1 ?d2 ?_)
    case d1 => have := HL.out; have := HN.out; simp; omega
    case d2 => simp; omega
    intro v8 w8 ho8 hb8 _
    have HO8 := Lib.hid ho8
    have HW8 := Lib.hid (HW0.out.trans hb8)
    have hs8 : G ≤ w8.heap.size := by have := HW8.out.size; omega
    clear ho8 hb8 HO0 HW0 R0 ca
    have ca := (X0.out.below HW8.out hg0G).cell 0
    have z3 : (i : Int) + 1 ≤ (n : Int) := by omega
    have z4 : (i : Int) + 1 ≤ (cp : Int) := by omega
    have z5 : (0 : Int) ≤ (i : Int) + 1 := by omega
    have c5 : IntKind.i64.wrap ((i : Int) + 1) = (i : Int) + 1 := by rw [IntKind.wrap_i64]; omega
    have HDL : Hid ((l.drop (i + 1)).length = n - (i + 1)) := by
      show _ = _
      rw [List.length_drop, HN.out]
    have HTL : Hid ((l.take i).length ≤ 100000) := by
      show _ ≤ _
      have := HL.out
      have := HN.out
      simp
      omega
    by_cases hci : cp = i + 1
    · have hni : n = i + 1 := by omega
      have R1 : Hid (RdNd w.heap.size w8 (.slice (some a) 0 0) (l.drop (i + 1))) := by
        show RdNd _ _ _ _
        have h1 := ((HR.out.below HB.out).below (HW8.out.mono hwG)).drop (i + 1) (by omega)
        rw [if_pos hci, hni, hci, Nat.sub_self] at h1
        exact h1
      subst hci hni
      go_wp2_with (at_builtin; refine wpList_appNd rfl _ _ 28 rfl 56 i1 Tryd.underlying28 hJ hy0 hy1 hy2 G _ _ _ (l.take i) (l.drop (i + 1)) rfl HO8.out rfl R1.out ?d1 ?d2 ?_)
      case d1 => have := HTL.out; have := HDL.out; have := HL.out; omega
      case d2 => omega
      intro v10 w10 ho10 hb10 _
      have HO := Lib.hid ho10
      have HW := Lib.hid (HW8.out.trans hb10)
      clear ho10 hb10 HO8 HW8 R1 ca
      obtain ⟨Ao, co, ho, -, -⟩ := HO.out.rd.shape
      obtain ⟨LL, hLL⟩ : ∃ LL, (l.take i ++ l.drop (i + 1)).length = LL := ⟨_, rfl⟩
      rw [hLL] at ho
      subst ho
      clear hLL
      have X1r := Lib.hid (X1.out.below HW.out hg1G)
      go_wp2_with (refine wpList_store_to rfl 30 _ _ rfl g1 [.slice Ao LL co] [.slice none 0 0] 30 rfl rfl X1r.out sSH rfl (slice_one _ _ _) ?_)
      intro w20 e1 e2 e3 e4
      go_wp2
      refine bodyPost_ret (v := .tuple #[.agg [Value.slice Ao LL co].toArray, .int .i64 0]) ?_ rfl ?_
      · exact ret_blk2U rfl _ _ g1 30 [.slice Ao LL co] _ rfl rfl e1 d30 HU.out HD.out sSH
      · rw [HX.out.1, HX.out.2]
        exact ⟨_, rfl, OwnNd.rd (ownsRow_same HO.out (fun k hk => e4 k (by omega))), HB.out.trans ((HW.out.mono hwG).trans (e3.mono hw1))⟩
    · have R1 : Hid (RdNd w.heap.size w8 (.slice (some (a.add ((i + 1) * 4))) (n - (i + 1)) (cp - (i + 1))) (l.drop (i + 1))) := by
        show RdNd _ _ _ _
        have h1 := ((HR.out.below HB.out).below (HW8.out.mono hwG)).drop (i + 1) (by omega)
        rw [if_neg hci] at h1
        exact h1
      go_wp2_with (at_builtin; refine wpList_appNd rfl _ _ 28 rfl 56 i1 Tryd.underlying28 hJ hy0 hy1 hy2 G _ _ _ (l.take i) (l.drop (i + 1)) rfl HO8.out rfl R1.out ?d1 ?d2 ?_)
      case d1 => have := HTL.out; have := HDL.out; have := HL.out; omega
      case d2 => omega
      intro v10 w10 ho10 hb10 _
      have HO := Lib.hid ho10
      have HW := Lib.hid (HW8.out.trans hb10)
      clear ho10 hb10 HO8 HW8 R1 ca
      obtain ⟨Ao, co, ho, -, -⟩ := HO.out.rd.shape
      obtain ⟨LL, hLL⟩ : ∃ LL, (l.take i ++ l.drop (i + 1)).length = LL := ⟨_, rfl⟩
      rw [hLL] at ho
      subst ho
      clear hLL
      have X1r := Lib.hid (X1.out.below HW.out hg1G)
      go_wp2_with (refine wpList_store_to rfl 30 _ _ rfl g1 [.slice Ao LL co] [.slice none 0 0] 30 rfl rfl X1r.out sSH rfl (slice_one _ _ _) ?_)
      intro w20 e1 e2 e3 e4
      go_wp2
      refine bodyPost_ret (v := .tuple #[.agg [Value.slice Ao LL co].toArray, .int .i64 0]) ?_ rfl ?_
      · exact ret_blk2U rfl _ _ g1 30 [.slice Ao LL co] _ rfl rfl e1 d30 HU.out HD.out sSH
      · rw [HX.out.1, HX.out.2]
        exact ⟨_, rfl, OwnNd.rd (ownsRow_same HO.out (fun k hk => e4 k (by omega))), HB.out.trans ((HW.out.mono hwG).trans (e3.mono hw1))⟩
end Go.Proofs.YtlpakfaoaodaiaaDoor
