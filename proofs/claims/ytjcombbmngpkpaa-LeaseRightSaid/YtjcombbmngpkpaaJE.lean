/-
  The document's books: Open.
-/
import Derived.Test.YtjcombbmngpkpaaJD
namespace Go.Proofs.Ytjcombbmngpkpaa
open Go.RowKit

theorem open_err (t : Int) (l : List Se) (id sp : Int) (f : Nat) (h : openE l id sp = f) (h0 : f ≠ 0) : openE l id sp = f ∧ openS t l id sp = l := by
  refine ⟨h, ?_⟩
  unfold openS
  rw [if_neg (by rw [h]; exact h0)]
theorem open_ok (t : Int) (l : List Se) (id sp : Int) (h : openE l id sp = 0) : openE l id sp = 0 ∧ openS t l id sp = insS (id, sp, t + sp) l := by
  refine ⟨h, ?_⟩
  unfold openS
  rw [if_pos h]
theorem openE_arg (l : List Se) (id sp : Int) (h : id < 1 ∨ sp < 1 ∨ 1000 < sp) : openE l id sp = 1 := by unfold openE; rw [if_pos h]
theorem openE_has (l : List Se) (id sp : Int) (h : ¬ (id < 1 ∨ sp < 1 ∨ 1000 < sp)) (h2 : hasS l id = true) : openE l id sp = 7 := by unfold openE; rw [if_neg h, if_pos h2]
theorem openE_full (l : List Se) (id sp : Int) (h : ¬ (id < 1 ∨ sp < 1 ∨ 1000 < sp)) (h2 : hasS l id = false) (h3 : 50 ≤ l.length) : openE l id sp = 9 := by unfold openE; rw [if_neg h, if_neg (by rw [h2]; simp), if_pos h3]
theorem openE_ok (l : List Se) (id sp : Int) (h : ¬ (id < 1 ∨ sp < 1 ∨ 1000 < sp)) (h2 : hasS l id = false) (h3 : ¬ 50 ≤ l.length) : openE l id sp = 0 := by unfold openE; rw [if_neg h, if_neg (by rw [h2]; simp), if_neg h3]
/-- How far the new session's row has come. -/
def insInvS (l : List Se) (n : Se) (i : Nat) (out : List Se) (b : Bool) : Prop :=
  out.length ≤ i + 1 ∧ if b = true then out ++ l.drop i = insS n l else out = l.take i ∧ insS n l = l.take i ++ insS n (l.drop i)
theorem insInvS_start (l : List Se) (n : Se) : insInvS l n 0 [] false := ⟨by simp, by simp⟩
theorem drop_se (l : List Se) (i : Nat) (hi : i < l.length) : l.drop i = l.getD i se0 :: l.drop (i + 1) := by
  rw [show l.getD i se0 = l[i] by rw [List.getD_eq_getElem?_getD, List.getElem?_eq_getElem hi]; rfl, List.drop_eq_getElem_cons hi]
theorem insInvS_in (l : List Se) (n : Se) (i : Nat) (hi : i < l.length) (out : List Se) (h : insInvS l n i out true) : insInvS l n (i + 1) (out ++ [l.getD i se0]) true := by
  refine ⟨by have := h.1; simp; omega, ?_⟩
  have h2 := h.2
  rw [if_pos rfl] at h2 ⊢
  rw [List.append_assoc, List.singleton_append, ← drop_se l i hi, h2]
theorem insInvS_now (l : List Se) (n : Se) (i : Nat) (hi : i < l.length) (out : List Se) (h : insInvS l n i out false) (ha : sI n < sI (l.getD i se0)) : insInvS l n (i + 1) (out ++ [n] ++ [l.getD i se0]) true ∧ out.length ≤ i := by
  have h2 := h.2
  rw [if_neg (by simp)] at h2
  obtain ⟨h3, h4⟩ := h2
  have hlen : out.length ≤ i := by rw [h3]; exact List.length_take_le i l
  refine ⟨⟨by simp; omega, ?_⟩, hlen⟩
  rw [if_pos rfl, h4, h3, drop_se l i hi, insS, if_pos ha]
  simp
theorem insInvS_not (l : List Se) (n : Se) (i : Nat) (hi : i < l.length) (out : List Se) (h : insInvS l n i out false) (ha : ¬ sI n < sI (l.getD i se0)) : insInvS l n (i + 1) (out ++ [l.getD i se0]) false := by
  have h2 := h.2
  rw [if_neg (by simp)] at h2
  obtain ⟨h3, h4⟩ := h2
  have hlen : out.length ≤ i := by rw [h3]; exact List.length_take_le i l
  refine ⟨by simp; omega, ?_⟩
  rw [if_neg (by simp), h3, take_se l i hi]
  refine ⟨rfl, ?_⟩
  rw [h4, drop_se l i hi, insS, if_neg ha]
  simp
theorem insInvS_end (l : List Se) (n : Se) (out : List Se) (b : Bool) (h : insInvS l n l.length out b) : insS n l = if b = true then out else out ++ [n] := by
  have h2 := h.2
  cases b
  · rw [if_neg (by simp)] at h2 ⊢
    rw [h2.2, h2.1]
    simp [insS]
  · rw [if_pos rfl] at h2 ⊢
    rw [← h2]
    simp

set_option maxRecDepth 100000 in
set_option maxHeartbeats 8000000 in
theorem rfOpenB_any (t : Int) (l : List Se) (id sp : Int) (v : Value) (w : World) (hr : RdE SeK w.heap.size w v l) (hl : l.length ≤ 1000000) (ht : 0 ≤ t ∧ t ≤ 1000000000) : Calls Try.prog 16 #[.agg #[.int .i64 t, v], .int .i64 id, .int .i64 sp] w (Books t (openS t l id sp) (openE l id sp) w) := by
  obtain ⟨ht1, ht2⟩ := ht
  obtain ⟨A, cp, rfl, hc, hm⟩ := hr.shape
  unfold maxLen at hm
  obtain ⟨n, hn⟩ : ∃ n, l.length = n := ⟨_, rfl⟩
  have HN := Lib.hid hn
  have HR := Lib.hid hr
  rw [hn] at hc HR hl ⊢
  have HL := Lib.hid hl
  obtain ⟨d30, hu30, hd30⟩ := rowBK
  have HU := Lib.hid hu30
  have HD := Lib.hid hd30
  clear hr hn hl hu30 hd30
  go_enter Try.func16, Try.ntmps16
  go_wp2_with (refine wpList_box_blk rfl 30 _ rfl [.int .i64 t, .slice A n cp] rfl ?_)
  intro w1 b1 b2 b3
  go_wp2_with (refine wpList_alloc_blk rfl 30 rfl [.int .i64 0, .slice none 0 0] zBK ?_)
  intro w2 a1 a2 a3
  obtain ⟨g0, hg0⟩ : ∃ g, w.heap.size = g := ⟨_, rfl⟩
  obtain ⟨g1, hg1⟩ : ∃ g, w.heap.size + 1 = g := ⟨_, rfl⟩
  obtain ⟨G, hG⟩ : ∃ G, w2.heap.size = G := ⟨_, rfl⟩
  have X0 := Lib.hid (b1.below a3 (by omega))
  have X1 := Lib.hid a1
  have HB := Lib.hid (b3.trans (a3.mono (by omega)))
  have HR2 := Lib.hid ((HR.out.below HB.out).more (show w.heap.size ≤ w2.heap.size by omega))
  have hwG : w.heap.size ≤ G := by omega
  have h0G : g0 < G := by omega
  have h1G : g1 < G := by omega
  have hw1 : w.heap.size ≤ g1 := by omega
  have HG := Lib.hid hG
  rw [hg1] at X1 ⊢
  rw [hg0] at X0 ⊢
  have ca := X0.out.cell 0
  have cb := X0.out.at_ 1 _ rfl
  clear b1 b2 b3 a1 a2 a3 hg1 hG
  by_cases ha1 : id < 1
  · have HE := Lib.hid (open_err t l id sp 1 (openE_arg l id sp (by omega)) (by decide))
    go_wp2_with (refine wpList_store_to rfl 30 _ _ rfl g1 [.int .i64 t, .slice A n cp] [.int .i64 0, .slice none 0 0] 30 rfl rfl X1.out sBK rfl (book_one _ _ _ _) ?_)
    intro w20 e1 e2 e3 e4
    go_wp2
    refine bodyPost_ret (v := .tuple #[.agg #[.int .i64 t, .slice A n cp], .int .i64 1]) ?_ rfl ?_
    · exact ret_blk2U rfl _ _ g1 30 [.int .i64 t, .slice A n cp] _ rfl rfl e1 d30 HU.out HD.out sBK
    · have HB20 : Below w.heap.size w w20 := HB.out.trans (e3.mono hw1)
      rw [HE.out.1, HE.out.2]
      exact ⟨_, rfl, (HR.out.below HB20).more HB20.size, HB20⟩
  by_cases ha2 : sp < 1
  · have HE := Lib.hid (open_err t l id sp 1 (openE_arg l id sp (by omega)) (by decide))
    go_wp2_with (refine wpList_store_to rfl 30 _ _ rfl g1 [.int .i64 t, .slice A n cp] [.int .i64 0, .slice none 0 0] 30 rfl rfl X1.out sBK rfl (book_one _ _ _ _) ?_)
    intro w20 e1 e2 e3 e4
    go_wp2
    refine bodyPost_ret (v := .tuple #[.agg #[.int .i64 t, .slice A n cp], .int .i64 1]) ?_ rfl ?_
    · exact ret_blk2U rfl _ _ g1 30 [.int .i64 t, .slice A n cp] _ rfl rfl e1 d30 HU.out HD.out sBK
    · have HB20 : Below w.heap.size w w20 := HB.out.trans (e3.mono hw1)
      rw [HE.out.1, HE.out.2]
      exact ⟨_, rfl, (HR.out.below HB20).more HB20.size, HB20⟩
  by_cases ha3 : 1000 < sp
  · have HE := Lib.hid (open_err t l id sp 1 (openE_arg l id sp (by omega)) (by decide))
    go_wp2_with (refine wpList_store_to rfl 30 _ _ rfl g1 [.int .i64 t, .slice A n cp] [.int .i64 0, .slice none 0 0] 30 rfl rfl X1.out sBK rfl (book_one _ _ _ _) ?_)
    intro w20 e1 e2 e3 e4
    go_wp2
    refine bodyPost_ret (v := .tuple #[.agg #[.int .i64 t, .slice A n cp], .int .i64 1]) ?_ rfl ?_
    · exact ret_blk2U rfl _ _ g1 30 [.int .i64 t, .slice A n cp] _ rfl rfl e1 d30 HU.out HD.out sBK
    · have HB20 : Below w.heap.size w w20 := HB.out.trans (e3.mono hw1)
      rw [HE.out.1, HE.out.2]
      exact ⟨_, rfl, (HR.out.below HB20).more HB20.size, HB20⟩
  have HNA : Hid (¬ (id < 1 ∨ sp < 1 ∨ 1000 < sp)) := by
    show ¬ _
    omega
  go_wp2_with fail
  refine (rfHasB_any t l id _ w2 HR2.out).mono ?_
  rintro e w3 ⟨rfl, hb⟩
  have hs3 := hb.size
  rw [HG.out] at hs3
  have X3 := Lib.hid (X0.out.below hb (by rw [HG.out]; exact h0G))
  have Y3 := Lib.hid (X1.out.below hb (by rw [HG.out]; exact h1G))
  have HB3 := Lib.hid (HB.out.trans (hb.mono (by rw [HG.out]; exact hwG)))
  clear hb ca cb X0 X1 HB HR2
  have ca := X3.out.cell 0
  have cb := X3.out.at_ 1 _ rfl
  obtain ⟨G3, hG3⟩ : ∃ G, w3.heap.size = G := ⟨_, rfl⟩
  have HG3 := Lib.hid hG3
  rw [hG3] at hs3
  have h0G3 : g0 < G3 := by omega
  have h1G3 : g1 < G3 := by omega
  have hwG3 : w.heap.size ≤ G3 := by omega
  clear hG3
  cases hH : hasS l id
  rotate_left
  · have HE := Lib.hid (open_err t l id sp 7 (openE_has l id sp HNA.out hH) (by decide))
    clear hH
    go_wp2_with (refine wpList_store_to rfl 30 _ _ rfl g1 [.int .i64 t, .slice A n cp] [.int .i64 0, .slice none 0 0] 30 rfl rfl Y3.out sBK rfl (book_one _ _ _ _) ?_)
    intro w20 e1 e2 e3 e4
    go_wp2
    refine bodyPost_ret (v := .tuple #[.agg #[.int .i64 t, .slice A n cp], .int .i64 7]) ?_ rfl ?_
    · exact ret_blk2U rfl _ _ g1 30 [.int .i64 t, .slice A n cp] _ rfl rfl e1 d30 HU.out HD.out sBK
    · have HB20 : Below w.heap.size w w20 := HB3.out.trans (e3.mono hw1)
      rw [HE.out.1, HE.out.2]
      exact ⟨_, rfl, (HR.out.below HB20).more HB20.size, HB20⟩
  by_cases h50 : 50 ≤ (n : Int)
  · have HE := Lib.hid (open_err t l id sp 9 (openE_full l id sp HNA.out hH (by rw [HN.out]; omega)) (by decide))
    clear hH
    go_wp2_with (refine wpList_store_to rfl 30 _ _ rfl g1 [.int .i64 t, .slice A n cp] [.int .i64 0, .slice none 0 0] 30 rfl rfl Y3.out sBK rfl (book_one _ _ _ _) ?_)
    intro w20 e1 e2 e3 e4
    go_wp2
    refine bodyPost_ret (v := .tuple #[.agg #[.int .i64 t, .slice A n cp], .int .i64 9]) ?_ rfl ?_
    · exact ret_blk2U rfl _ _ g1 30 [.int .i64 t, .slice A n cp] _ rfl rfl e1 d30 HU.out HD.out sBK
    · have HB20 : Below w.heap.size w w20 := HB3.out.trans (e3.mono hw1)
      rw [HE.out.1, HE.out.2]
      exact ⟨_, rfl, (HR.out.below HB20).more HB20.size, HB20⟩
  have HE := Lib.hid (open_ok t l id sp (openE_ok l id sp HNA.out hH (by rw [HN.out]; omega)))
  have wr1 : wrap64 (t + sp) = t + sp := by
    unfold wrap64
    omega
  have wr2 : IntKind.i64.wrap (t + sp) = t + sp := by
    rw [IntKind.wrap_i64]
    omega
  clear hH
  go_wp2_with (refine wpList_alloc_blk rfl 58 rfl (sec se0) zSe10 ?_)
  intro wa a1 a2 a3
  obtain ⟨g8, hg8⟩ : ∃ g, w3.heap.size = g := ⟨_, rfl⟩
  have hh0 : g0 < g8 := by rw [← hg8, HG3.out]; exact h0G3
  have hh1 : g1 < g8 := by rw [← hg8, HG3.out]; exact h1G3
  have hhw : w.heap.size ≤ g8 := by rw [← hg8, HG3.out]; exact hwG3
  have A1 := Lib.hid a1
  have XA := Lib.hid (X3.out.below a3 (by omega))
  have YA := Lib.hid (Y3.out.below a3 (by omega))
  have HBA := Lib.hid (HB3.out.trans (a3.mono (by omega)))
  rw [hg8] at A1 ⊢
  clear a1 ca cb
  go_wp2_with (refine wpList_store_to rfl 58 _ _ rfl g8 (sec (id, sp, t + sp)) (sec se0) 58 rfl rfl A1.out sSe10 rfl (sec_all _) ?_)
  intro wS e1 e2 e3 e4
  have X8 := Lib.hid e1
  have XS := Lib.hid (XA.out.below e3 (by omega))
  have YS := Lib.hid (YA.out.below e3 (by omega))
  have HBS := Lib.hid (HBA.out.trans (e3.mono (by omega)))
  obtain ⟨G5, hG5⟩ : ∃ G, wS.heap.size = G := ⟨_, rfl⟩
  have HG5 := Lib.hid hG5
  have h0G5 : g0 < G5 := by omega
  have h1G5 : g1 < G5 := by omega
  have h8G5 : g8 < G5 := by omega
  have hwG5 : w.heap.size ≤ G5 := by omega
  have ca := XS.out.cell 0
  have cb := XS.out.at_ 1 _ rfl
  clear a2 a3 e1 e2 e3 e4 A1 XA YA HBA X3 Y3 HB3 hg8
  have HO0 : Hid (OwnE SeK 58 (wS.alloc (.cells #[] 58)) G5 (.slice (some ⟨G5, 0, none⟩) 0 0) []) := by
    have := OwnE.empty (E := SeK) 58 wS G5 (by rw [HG5.out]; exact Nat.le_refl _)
    rw [HG5.out] at this
    exact this
  have HW0 : Hid (Below G5 wS (wS.alloc (.cells #[] 58))) := (Below.refl _ _).alloc (by rw [HG5.out]; exact Nat.le_refl _) _
  go_wp2
  clear hG5
  go_loopw [9, 10, 11] (fun o b x wr => ∃ (i : Nat) (out : List Se) (bb : Bool), i ≤ n ∧ x = .int .i64 (i : Int) ∧ b = .bool bb ∧ Hid (OwnE SeK 58 wr G5 o out) ∧ Hid (insInvS l (id, sp, t + sp) i out bb) ∧ Hid (Below G5 wS wr)) (fun _ _ x _ => n - (intOf x).toNat)
  case atStart => exact ⟨0, [], false, by omega, rfl, rfl, HO0, insInvS_start _ _, HW0⟩
  case round =>
    obtain ⟨i, out, bb, hi, rfl, rfl, HO, HI, HW⟩ := hrel
    have hwr := HW.out.size
    rw [HG5.out] at hwr
    clear ca cb
    have cb := (XS.out.below HW.out h0G5).at_ 1 _ rfl
    have ca := (XS.out.below HW.out h0G5).cell 0
    have HOL : Hid (out.length ≤ i + 1) := HI.out.1
    by_cases hi2 : i < n
    · have zi : (i : Int) < (n : Int) := by omega
      obtain ⟨a, hA, c0, c1, c2⟩ := (HR.out.below (HBS.out.trans (HW.out.mono hwG5))).at3 i (by rw [HN.out]; exact hi2)
      subst hA
      obtain ⟨x, hx⟩ : ∃ x, l.getD i se0 = x := ⟨_, rfl⟩
      have HX := Lib.hid hx
      rw [hx] at c0 c1 c2
      clear hx
      cases bb
      · by_cases hlt : id < sI x
        · have HI2 := insInvS_now l (id, sp, t + sp) i (by rw [HN.out]; exact hi2) out HI.out (by rw [HX.out]; exact hlt)
          rw [HX.out] at HI2
          have HI3 := Lib.hid HI2
          clear HI2
          have HKL : Hid (out.length ≤ n) := by
            have := HI3.out.2
            show _ ≤ _
            omega
          have H8 := Lib.hid (X8.out.below (show Below G5 wS wr from HW.out) h8G5)
          have q0 := H8.out.at_ 0 _ rfl
          have q1 := H8.out.at_ 1 _ rfl
          have q2 := H8.out.at_ 2 _ rfl
          have HO4 : Hid (OwnE SeK 58 (wr.alloc (.cells (sec (id, sp, t + sp)).toArray 58)) G5 u9 (out)) := HO.out.alloc _
          have HW4 : Hid (Below G5 wS (wr.alloc (.cells (sec (id, sp, t + sp)).toArray 58))) := HW.out.alloc hwr _
          go_wp2_with (at_builtin; refine wpList_appE (E := SeK) rfl _ _ 28 rfl 58 24 Try.underlying28 kindSe G5 _ _ _ (out) [(id, sp, t + sp)] rfl HO4.out rfl (RdE.one wr 58 (id, sp, t + sp)) (by simp) ?d1 ?d2 ?d3 ?_)
          case d1 => have := HKL.out; have := HL.out; first | (simp only [List.length_cons, List.length_nil]; omega) | omega
          case d2 => have := HKL.out; have := HL.out; first | (simp only [List.length_cons, List.length_nil]; omega) | omega
          case d3 => first | omega | (simp; omega)
          intro v5 w5 h5 hb5 hg5 _
          have HO6 := Lib.hid h5
          have HW6 : Hid (Below G5 wS w5) := HW4.out.trans hb5
          have hs6 : G5 ≤ w5.heap.size := by
            have := HW6.out.size
            rw [HG5.out] at this
            exact this
          obtain ⟨a9, hA9, k0, k1, k2⟩ := (HR.out.below (HBS.out.trans (HW6.out.mono hwG5))).at3 i (by rw [HN.out]; exact hi2)
          obtain rfl : a = a9 := Option.some.inj hA9
          rw [HX.out] at k0 k1 k2
          clear ca cb
          have cb := (XS.out.below HW6.out h0G5).at_ 1 _ rfl
          clear h5 hb5 hg5 c0 c1 c2 q0 q1 q2 hA9
          have HO7 : Hid (OwnE SeK 58 (w5.alloc (.cells (sec x).toArray 58)) G5 v5 (out ++ [(id, sp, t + sp)])) := HO6.out.alloc _
          have HW7 : Hid (Below G5 wS (w5.alloc (.cells (sec x).toArray 58))) := HW6.out.alloc hs6 _
          have HKL2 : Hid ((out ++ [(id, sp, t + sp)]).length ≤ n + 1) := by
            have := HKL.out
            show _ ≤ _
            rw [List.length_append, List.length_cons, List.length_nil]
            omega
          go_wp2_with (at_builtin; refine wpList_appE (E := SeK) rfl _ _ 28 rfl 58 24 Try.underlying28 kindSe G5 _ _ _ (out ++ [(id, sp, t + sp)]) [x] rfl HO7.out rfl (RdE.one w5 58 x) (by simp) ?d1 ?d2 ?d3 ?_)
          case d1 => have := HKL2.out; have := HL.out; first | (simp only [List.length_cons, List.length_nil]; omega) | omega
          case d2 => have := HKL2.out; have := HL.out; first | (simp only [List.length_cons, List.length_nil]; omega) | omega
          case d3 => first | omega | (simp; omega)
          intro v8 w8 h8 hb8 hg8 _
          have HO8 := Lib.hid h8
          have HW8 : Hid (Below G5 wS w8) := HW7.out.trans hb8
          clear h8 hb8 hg8
          go_wp2
          go_roundw
          case rel => exact ⟨i + 1, _, true, by omega, by go_num, rfl, HO8, (by have h := HI3.out.1; rw [List.append_assoc] at h; exact h), HW8⟩
          case measure => simp [intOf]; omega
        · have HI2 := insInvS_not l (id, sp, t + sp) i (by rw [HN.out]; exact hi2) out HI.out (by rw [HX.out]; exact hlt)
          rw [HX.out] at HI2
          have HI3 := Lib.hid HI2
          clear HI2
          have HKL : Hid (out.length ≤ n) := by
            have := HOL.out
            show _ ≤ _
            omega
          have HO4 : Hid (OwnE SeK 58 (wr.alloc (.cells (sec x).toArray 58)) G5 u9 out) := HO.out.alloc _
          have HW4 : Hid (Below G5 wS (wr.alloc (.cells (sec x).toArray 58))) := HW.out.alloc hwr _
          go_wp2_with (at_builtin; refine wpList_appE (E := SeK) rfl _ _ 28 rfl 58 24 Try.underlying28 kindSe G5 _ _ _ (out) [x] rfl HO4.out rfl (RdE.one wr 58 x) (by simp) ?d1 ?d2 ?d3 ?_)
          case d1 => have := HKL.out; have := HL.out; first | (simp only [List.length_cons, List.length_nil]; omega) | omega
          case d2 => have := HKL.out; have := HL.out; first | (simp only [List.length_cons, List.length_nil]; omega) | omega
          case d3 => first | omega | (simp; omega)
          intro v5 w5 h5 hb5 hg5 _
          have HO8 := Lib.hid h5
          have HW8 : Hid (Below G5 wS w5) := HW4.out.trans hb5
          clear h5 hb5 hg5
          go_wp2
          go_roundw
          case rel => exact ⟨i + 1, _, false, by omega, by go_num, rfl, HO8, HI3.out, HW8⟩
          case measure => simp [intOf]; omega
      · have HI2 := insInvS_in l (id, sp, t + sp) i (by rw [HN.out]; exact hi2) out HI.out
        rw [HX.out] at HI2
        have HI3 := Lib.hid HI2
        clear HI2
        have HKL : Hid (out.length ≤ n) := by
          have := HOL.out
          show _ ≤ _
          omega
        have HO4 : Hid (OwnE SeK 58 (wr.alloc (.cells (sec x).toArray 58)) G5 u9 out) := HO.out.alloc _
        have HW4 : Hid (Below G5 wS (wr.alloc (.cells (sec x).toArray 58))) := HW.out.alloc hwr _
        go_wp2_with (at_builtin; refine wpList_appE (E := SeK) rfl _ _ 28 rfl 58 24 Try.underlying28 kindSe G5 _ _ _ (out) [x] rfl HO4.out rfl (RdE.one wr 58 x) (by simp) ?d1 ?d2 ?d3 ?_)
        case d1 => have := HKL.out; have := HL.out; first | (simp only [List.length_cons, List.length_nil]; omega) | omega
        case d2 => have := HKL.out; have := HL.out; first | (simp only [List.length_cons, List.length_nil]; omega) | omega
        case d3 => first | omega | (simp; omega)
        intro v5 w5 h5 hb5 hg5 _
        have HO8 := Lib.hid h5
        have HW8 : Hid (Below G5 wS w5) := HW4.out.trans hb5
        clear h5 hb5 hg5
        go_wp2
        go_roundw
        case rel => exact ⟨i + 1, _, true, by omega, by go_num, rfl, HO8, HI3.out, HW8⟩
        case measure => simp [intOf]; omega
    · have hE : i = n := by omega
      subst hE
      have HIE := Lib.hid (insInvS_end l (id, sp, t + sp) out bb (by rw [HN.out]; exact HI.out))
      have Yr := Lib.hid (YS.out.below HW.out h1G5)
      cases bb
      · have HKL : Hid (out.length ≤ i + 1) := HOL
        have H8 := Lib.hid (X8.out.below (show Below G5 wS wr from HW.out) h8G5)
        have q0 := H8.out.at_ 0 _ rfl
        have q1 := H8.out.at_ 1 _ rfl
        have q2 := H8.out.at_ 2 _ rfl
        have HO4 : Hid (OwnE SeK 58 (wr.alloc (.cells (sec (id, sp, t + sp)).toArray 58)) G5 u9 (out)) := HO.out.alloc _
        have HW4 : Hid (Below G5 wS (wr.alloc (.cells (sec (id, sp, t + sp)).toArray 58))) := HW.out.alloc hwr _
        go_wp2_with (at_builtin; refine wpList_appE (E := SeK) rfl _ _ 28 rfl 58 24 Try.underlying28 kindSe G5 _ _ _ (out) [(id, sp, t + sp)] rfl HO4.out rfl (RdE.one wr 58 (id, sp, t + sp)) (by simp) ?d1 ?d2 ?d3 ?_)
        case d1 => have := HKL.out; have := HL.out; first | (simp only [List.length_cons, List.length_nil]; omega) | omega
        case d2 => have := HKL.out; have := HL.out; first | (simp only [List.length_cons, List.length_nil]; omega) | omega
        case d3 => first | omega | (simp; omega)
        intro v5 w5 h5 hb5 hg5 _
        have HO8 := Lib.hid h5
        have HW8 : Hid (Below G5 wS w5) := HW4.out.trans hb5
        have Yr8 := Lib.hid (YS.out.below HW8.out h1G5)
        clear ca cb
        have ca := (XS.out.below HW8.out h0G5).cell 0
        clear h5 hb5 hg5 q0 q1 q2
        have HIE2 : Hid (insS (id, sp, t + sp) l = out ++ [(id, sp, t + sp)]) := by
          show _ = _
          rw [HIE.out]; rfl
        obtain ⟨Ao, co, ho, -, -⟩ := HO8.out.rd.shape
        obtain ⟨LL, hLL⟩ : ∃ LL, (out ++ [(id, sp, t + sp)]).length = LL := ⟨_, rfl⟩
        rw [hLL] at ho
        subst ho
        clear hLL
        go_wp2_with (refine wpList_store_to rfl 30 _ _ rfl g1 [.int .i64 t, .slice Ao LL co] [.int .i64 0, .slice none 0 0] 30 rfl rfl Yr8.out sBK rfl (book_one _ _ _ _) ?_)
        intro w20 e1 e2 e3 e4
        go_wp2
        refine bodyPost_ret (v := .tuple #[.agg #[.int .i64 t, .slice Ao LL co], .int .i64 0]) ?_ rfl ?_
        · exact ret_blk2U rfl _ _ g1 30 [.int .i64 t, .slice Ao LL co] _ rfl rfl e1 d30 HU.out HD.out sBK
        · rw [HE.out.1, HE.out.2, HIE2.out]
          exact ⟨_, rfl, OwnE.rd (ownsRow_same HO8.out (fun k hk => e4 k (by omega))), HBS.out.trans ((HW8.out.mono hwG5).trans (e3.mono hw1))⟩
      · have HIE2 : Hid (insS (id, sp, t + sp) l = out) := by
          show _ = _
          rw [HIE.out]; rfl
        obtain ⟨Ao, co, ho, -, -⟩ := HO.out.rd.shape
        obtain ⟨LL, hLL⟩ : ∃ LL, out.length = LL := ⟨_, rfl⟩
        rw [hLL] at ho
        subst ho
        clear hLL
        go_wp2_with (refine wpList_store_to rfl 30 _ _ rfl g1 [.int .i64 t, .slice Ao LL co] [.int .i64 0, .slice none 0 0] 30 rfl rfl Yr.out sBK rfl (book_one _ _ _ _) ?_)
        intro w20 e1 e2 e3 e4
        go_wp2
        refine bodyPost_ret (v := .tuple #[.agg #[.int .i64 t, .slice Ao LL co], .int .i64 0]) ?_ rfl ?_
        · exact ret_blk2U rfl _ _ g1 30 [.int .i64 t, .slice Ao LL co] _ rfl rfl e1 d30 HU.out HD.out sBK
        · rw [HE.out.1, HE.out.2, HIE2.out]
          exact ⟨_, rfl, OwnE.rd (ownsRow_same HO.out (fun k hk => e4 k (by omega))), HBS.out.trans ((HW.out.mono hwG5).trans (e3.mono hw1))⟩
end Go.Proofs.Ytjcombbmngpkpaa
