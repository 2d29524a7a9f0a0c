/-
  The document's shelves: Create.
-/
import Derived.Test.YtlpakfaoaodaiaaDoorH6
namespace Go.Proofs.YtlpakfaoaodaiaaDoor
open Go.RowKit

/-- The call answers a shelf and a fault. -/
def Shelves (l : List Nd) (f : Nat) (w : World) (e : Ending) (w' : World) : Prop := ∃ v, e = .returned (.tuple #[.agg #[v], .int .i64 (f : Int)]) ∧ RdNd w'.heap.size w' v l ∧ Below w.heap.size w w'
theorem create_err (l : List Nd) (p v : List UInt8) (o : Int) (f : Nat) (h : createE l p v o = f) (h0 : f ≠ 0) : createE l p v o = f ∧ createS l p v o = l := by
  refine ⟨h, ?_⟩
  unfold createS
  rw [if_neg (by rw [h]; exact h0)]
theorem create_ok (l : List Nd) (p v : List UInt8) (o : Int) (h : createE l p v o = 0) : createE l p v o = 0 ∧ createS l p v o = insN (p, v, 0, o) l := by
  refine ⟨h, ?_⟩
  unfold createS
  rw [if_pos h]
/-- How far the new node's row has come. -/
def insInv (l : List Nd) (n : Nd) (i : Nat) (out : List Nd) (b : Bool) : Prop :=
  out.length ≤ i + 1 ∧ if b = true then out ++ l.drop i = insN n l else out = l.take i ∧ insN n l = l.take i ++ insN n (l.drop i)
theorem insInv_start (l : List Nd) (n : Nd) : insInv l n 0 [] false := ⟨by simp, by simp⟩
theorem drop_nd (l : List Nd) (i : Nat) (hi : i < l.length) : l.drop i = l.getD i nd0 :: l.drop (i + 1) ∧ l.take (i + 1) = l.take i ++ [l.getD i nd0] := by
  have e : l.getD i nd0 = l[i] := by
    rw [List.getD_eq_getElem?_getD, List.getElem?_eq_getElem hi]
    rfl
  refine ⟨by rw [e, List.drop_eq_getElem_cons hi], ?_⟩
  rw [List.take_add_one, List.getElem?_eq_getElem hi, e]
  rfl
theorem insInv_in (l : List Nd) (n : Nd) (i : Nat) (hi : i < l.length) (out : List Nd) (h : insInv l n i out true) (hl : out.length ≤ i + 1) : insInv l n (i + 1) (out ++ [l.getD i nd0]) true := by
  refine ⟨by simp; omega, ?_⟩
  have h2 := h.2
  rw [if_pos rfl] at h2 ⊢
  rw [List.append_assoc, List.singleton_append, ← (drop_nd l i hi).1, h2]
theorem insInv_now (l : List Nd) (n : Nd) (i : Nat) (hi : i < l.length) (out : List Nd) (h : insInv l n i out false) (ha : aheadB (nP n) (nP (l.getD i nd0)) = true) : insInv l n (i + 1) (out ++ [n] ++ [l.getD i nd0]) true := by
  have h2 := h.2
  rw [if_neg (by simp)] at h2
  obtain ⟨h3, h4⟩ := h2
  have hlen : out.length ≤ i := by rw [h3]; exact List.length_take_le i l
  refine ⟨by simp; omega, ?_⟩
  rw [if_pos rfl, h4, h3, (drop_nd l i hi).1, insN, if_pos ha]
  simp
theorem insInv_not (l : List Nd) (n : Nd) (i : Nat) (hi : i < l.length) (out : List Nd) (h : insInv l n i out false) (ha : aheadB (nP n) (nP (l.getD i nd0)) = false) : insInv l n (i + 1) (out ++ [l.getD i nd0]) false := by
  have h2 := h.2
  rw [if_neg (by simp)] at h2
  obtain ⟨h3, h4⟩ := h2
  have hlen : out.length ≤ i := by rw [h3]; exact List.length_take_le i l
  refine ⟨by simp; omega, ?_⟩
  rw [if_neg (by simp), h3, (drop_nd l i hi).2]
  refine ⟨rfl, ?_⟩
  rw [h4, (drop_nd l i hi).1, insN, if_neg (by rw [ha]; simp)]
  simp
theorem insInv_end (l : List Nd) (n : Nd) (out : List Nd) (b : Bool) (h : insInv l n l.length out b) : insN n l = if b = true then out else out ++ [n] := by
  have h2 := h.2
  cases b
  · rw [if_neg (by simp)] at h2 ⊢
    rw [h2.2, h2.1]
    simp [insN]
  · rw [if_pos rfl] at h2 ⊢
    rw [← h2]
    simp

theorem ownsRow_but {w w' : World} {b gN : Nat} {e : TypeId} {s : Nat} {v : Value} {n : Nat} {xs : List Value} (h : w.ownsRow b e s v n xs) (hne : v.ownBlock ≠ some gN) (hO : ∀ k, k ≠ gN → w'.heap[k]? = w.heap[k]?) : w'.ownsRow b e s v n xs := by
  refine ⟨h.1, ?_⟩
  rcases h.2 with hn | ⟨g, cap, cur, rfl, hg0, hg1, r⟩
  · exact .inl hn
  · exact .inr ⟨g, cap, cur, rfl, hg0, by rw [hO g (fun e => hne (by rw [← e]; rfl))]; exact hg1, r⟩
/-- The new row and the new node, in memory. -/
def CrSt (G gN : Nat) (w0 wr : World) (o : Value) (out : List Nd) (nd : Nd) : Prop :=
  OwnNd 56 wr G o out ∧ Blk wr gN (ndc nd) 56 ∧ o.ownBlock ≠ some gN ∧ Below G w0 wr ∧ G ≤ wr.heap.size
theorem CrSt.below {G gN : Nat} {w0 wr w' : World} {o : Value} {out : List Nd} {nd : Nd} (h : CrSt G gN w0 wr o out nd) (hb : Below wr.heap.size wr w') : CrSt G gN w0 w' o out nd := by
  obtain ⟨h1, h2, h3, h4, h5⟩ := h
  exact ⟨h1.below hb (Nat.le_refl _), h2.below hb h2.lt, h3, h4.trans (hb.mono h5), Nat.le_trans h5 hb.size⟩
theorem wpList_crApp {w wr : World} {ops : Array Oper} {rest : List Oper} {o : Oper} {a : Act} {Q : Exit → Act → World → Prop}
    (hgd : o.guard = none) (s x : Operand) (ho : o.op = .call { callee := .builtin .append, args := #[s, x], argTypes := #[28, 28] })
    (G gN : Nat) (v : Value) (out : List Nd) (nd y : Nd) (hs : a.eval s = v) (hx : a.eval x = .slice (some ⟨wr.heap.size, 0, none⟩) 1 1) (hst : CrSt G gN w wr v out nd) (hlen : out.length ≤ 200000)
    (h : ∀ v' w', CrSt G gN w w' v' (out ++ [y]) nd → wpList Tryd.prog ops Q rest (a.put o.dst v') w') : wpList Tryd.prog ops Q (o :: rest) a (wr.alloc (.cells (ndc y).toArray 56)) := by
  obtain ⟨i1, hJ, hy0, hy1, hy2⟩ := info_partsNd
  obtain ⟨h1, h2, h3, h4, h5⟩ := hst
  have hlt := h2.lt
  refine wpList_appNg hgd s x 28 ho 56 i1 Tryd.underlying28 hJ hy0 hy1 hy2 G _ v _ out [y] hs (h1.alloc _) hx (RdNd.one wr 56 y) (by simp) (by simp; omega) (by simp; omega) ?_
  intro v' w' g1 g2 g3 g4
  refine h v' w' ⟨g1, ?_, ?_, (h4.alloc h5 _).trans g2, Nat.le_trans (by simp; omega) g3.size⟩
  · exact (h2.alloc _).same (g3.block gN (by simp; omega) (fun e => h3 e.symm))
  · rcases g4 with e | ⟨k, e, hk⟩
    · rw [e]; exact h3
    · rw [e]
      intro e2
      injection e2 with e2
      simp at hk
      omega

set_option maxRecDepth 100000 in
set_option maxHeartbeats 8000000 in
theorem rfCreate_any (l : List Nd) (p vl : List UInt8) (z : Int) (v : Value) (w : World) (hr : RdNd w.heap.size w v l) (hl : l.length ≤ 100000) : Calls Tryd.prog 19 #[.agg #[v], txt p, txt vl, .int .i64 z] w (Shelves (createS l p vl z) (createE l p vl z) w) := by
  obtain ⟨A, cp, rfl, hc, hm⟩ := hr.shape
  unfold maxLen at hm
  obtain ⟨n, hn⟩ : ∃ n, l.length = n := ⟨_, rfl⟩
  obtain ⟨k, hk⟩ : ∃ k, vl.length = k := ⟨_, rfl⟩
  have hkz : (⟨vl.toArray⟩ : ByteArray).size = k := hk
  have HN := Lib.hid hn
  have HK := Lib.hid hk
  have HR := Lib.hid hr
  rw [hn] at hc HR hl ⊢
  have HL := Lib.hid hl
  obtain ⟨d30, hu30, hd30⟩ := rowSH
  have HU := Lib.hid hu30
  have HD := Lib.hid hd30
  clear hr hn hl hk hu30 hd30
  go_enter Tryd.func19, Tryd.ntmps19
  go_wp2_with (refine wpList_box_blk rfl 30 _ rfl [.slice A n cp] rfl ?_)
  intro w1 b1 b2 b3
  go_wp2_with (refine wpList_alloc_blk rfl 30 rfl [.slice none 0 0] zSH ?_)
  intro w2 a1 a2 a3
  obtain ⟨g0, hg0⟩ : ∃ g, w.heap.size = g := ⟨_, rfl⟩
  obtain ⟨g1, hg1⟩ : ∃ g, w.heap.size + 1 = g := ⟨_, rfl⟩
  have X0 := Lib.hid (b1.below a3 (by omega))
  have X1 := Lib.hid a1
  have HB := Lib.hid (b3.trans (a3.mono (by omega)))
  have hg01 : g0 < g1 := by omega
  have hg2 : g1 < w2.heap.size := by omega
  have hw1 : w.heap.size ≤ g1 := by omega
  rw [hg1] at X1 ⊢
  rw [hg0] at X0 ⊢
  have ca := X0.out.cell 0
  clear b1 b2 b3 a1 a2 a3 hg1 hg0
  go_wp2_with fail
  refine (rfRight_any p w2).mono ?_
  rintro e w3 ⟨rfl, hb⟩
  have hs3 := hb.size
  have Y0 := Lib.hid (X0.out.below hb (by omega))
  have Y1 := Lib.hid (X1.out.below hb (by omega))
  have HB3 := Lib.hid (HB.out.trans (hb.mono (by omega)))
  have hg3 : g1 < w3.heap.size := by omega
  clear hb X0 X1 HB ca
  have X0 := Y0
  have X1 := Y1
  have HB := HB3
  clear Y0 Y1 HB3
  have ca := X0.out.cell 0
  cases hR : rightB p
  · skip
    have HX := Lib.hid (create_err l p vl z 13 (by simp [createE, hR]) (by decide))
    go_wp2_with (refine wpList_store_to rfl 30 _ _ rfl g1 [.slice A n cp] [.slice none 0 0] 30 rfl rfl X1.out sSH rfl (slice_one _ _ _) ?_)
    intro w9 e1 e2 e3 e4
    go_wp2
    refine bodyPost_ret (v := .tuple #[.agg [Value.slice A n cp].toArray, .int .i64 13]) ?_ rfl ?_
    · exact ret_blk2U rfl _ _ g1 30 [.slice A n cp] _ rfl rfl e1 d30 HU.out HD.out sSH
    · have HB9 := HB.out.trans (e3.mono hw1)
      rw [HX.out.1, HX.out.2]
      exact ⟨_, rfl, (HR.out.below HB9).more HB9.size, HB9⟩
  have HRp := Lib.hid hR
  clear hR
  go_wp2_with fail
  refine (rfAt_any l p _ w3 ((HR.out.below HB.out).more HB.out.size)).mono ?_
  rintro e w4 ⟨rfl, hb⟩
  have hs4 := hb.size
  have Y0 := Lib.hid (X0.out.below hb (by omega))
  have Y1 := Lib.hid (X1.out.below hb (by omega))
  have HB4 := Lib.hid (HB.out.trans (hb.mono (by omega)))
  have hg4 : g1 < w4.heap.size := by omega
  clear hb X0 X1 HB ca
  have X0 := Y0
  have X1 := Y1
  have HB := HB4
  clear Y0 Y1 HB4
  have ca := X0.out.cell 0
  rcases atI_or l p with ⟨h1, h2, -⟩ | ⟨h1, h2⟩
  · rw [h2]
    have hz0 : (0 : Int) ≤ (placeN l p : Int) := by omega
    have HX := Lib.hid (create_err l p vl z 7 (by simp [createE, HRp.out, h1]) (by decide))
    go_wp2_with (refine wpList_store_to rfl 30 _ _ rfl g1 [.slice A n cp] [.slice none 0 0] 30 rfl rfl X1.out sSH rfl (slice_one _ _ _) ?_)
    intro w9 e1 e2 e3 e4
    go_wp2
    refine bodyPost_ret (v := .tuple #[.agg [Value.slice A n cp].toArray, .int .i64 7]) ?_ rfl ?_
    · exact ret_blk2U rfl _ _ g1 30 [.slice A n cp] _ rfl rfl e1 d30 HU.out HD.out sSH
    · have HB9 := HB.out.trans (e3.mono hw1)
      rw [HX.out.1, HX.out.2]
      exact ⟨_, rfl, (HR.out.below HB9).more HB9.size, HB9⟩
  rw [h2]
  have Hh := Lib.hid h1
  clear h1 h2
  go_wp2_with fail
  refine (rfParent_any p w4).mono ?_
  rintro e w5 ⟨rfl, hb⟩
  have hs5 := hb.size
  have Y0 := Lib.hid (X0.out.below hb (by omega))
  have Y1 := Lib.hid (X1.out.below hb (by omega))
  have HB5 := Lib.hid (HB.out.trans (hb.mono (by omega)))
  have hg5 : g1 < w5.heap.size := by omega
  clear hb X0 X1 HB ca
  have X0 := Y0
  have X1 := Y1
  have HB := HB5
  clear Y0 Y1 HB5
  have ca := X0.out.cell 0
  obtain ⟨up, hup⟩ : ∃ up, parentS p = up := ⟨_, rfl⟩
  have HUP := Lib.hid hup
  obtain ⟨pf, hpf⟩ : ∃ f, parentE p = f := ⟨_, rfl⟩
  rw [hup, hpf]
  clear hup hpf
  go_wp2_with fail
  refine (rfAt_any l up _ w5 ((HR.out.below HB.out).more HB.out.size)).mono ?_
  rintro e w6 ⟨rfl, hb⟩
  have hs6 := hb.size
  have Y0 := Lib.hid (X0.out.below hb (by omega))
  have Y1 := Lib.hid (X1.out.below hb (by omega))
  have HB6 := Lib.hid (HB.out.trans (hb.mono (by omega)))
  have hg6 : g1 < w6.heap.size := by omega
  clear hb X0 X1 HB ca
  have X0 := Y0
  have X1 := Y1
  have HB := HB6
  clear Y0 Y1 HB6
  have ca := X0.out.cell 0
  rcases atI_or l up with ⟨h1, h2, h3⟩ | ⟨h1, h2⟩
  rotate_left
  · rw [h2]
    have HX := Lib.hid (create_err l p vl z 6 (by simp [createE, HRp.out, Hh.out, HUP.out, h1]) (by decide))
    go_wp2_with (refine wpList_store_to rfl 30 _ _ rfl g1 [.slice A n cp] [.slice none 0 0] 30 rfl rfl X1.out sSH rfl (slice_one _ _ _) ?_)
    intro w9 e1 e2 e3 e4
    go_wp2
    refine bodyPost_ret (v := .tuple #[.agg [Value.slice A n cp].toArray, .int .i64 6]) ?_ rfl ?_
    · exact ret_blk2U rfl _ _ g1 30 [.slice A n cp] _ rfl rfl e1 d30 HU.out HD.out sSH
    · have HB9 := HB.out.trans (e3.mono hw1)
      rw [HX.out.1, HX.out.2]
      exact ⟨_, rfl, (HR.out.below HB9).more HB9.size, HB9⟩
  have Hu := Lib.hid h1
  rw [h2]
  rw [HN.out] at h3
  obtain ⟨i, hi⟩ : ∃ i, placeN l up = i := ⟨_, rfl⟩
  rw [hi] at h3 ⊢
  have zi : (i : Int) < (n : Int) := by omega
  have HNO : Hid (nodeN l up = l.getD i nd0) := by
    show _ = _
    unfold nodeN
    rw [hi]
  obtain ⟨a, hA, -, -, -, c3⟩ := ((HR.out.below HB.out).more HB.out.size).at_ i (by rw [HN.out]; exact h3)
  subst hA
  obtain ⟨y, hy⟩ : ∃ y, nO (l.getD i nd0) = y := ⟨_, rfl⟩
  rw [hy] at c3
  have HY : Hid (nO (nodeN l up) = y) := by
    show _ = _
    rw [HNO.out, hy]
  clear h1 h2 hi hy
  by_cases hy0 : y = 0
  rotate_left
  · have hyz : (y != 0) = true := by rw [bne_iff_ne]; exact hy0
    have HX := Lib.hid (create_err l p vl z 10 (by simp [createE, HRp.out, Hh.out, HUP.out, Hu.out, HY.out, hy0]) (by decide))
    go_wp2_with (refine wpList_store_to rfl 30 _ _ rfl g1 [.slice (some a) n cp] [.slice none 0 0] 30 rfl rfl X1.out sSH rfl (slice_one _ _ _) ?_)
    intro w9 e1 e2 e3 e4
    go_wp2
    refine bodyPost_ret (v := .tuple #[.agg [Value.slice (some a) n cp].toArray, .int .i64 10]) ?_ rfl ?_
    · exact ret_blk2U rfl _ _ g1 30 [.slice (some a) n cp] _ rfl rfl e1 d30 HU.out HD.out sSH
    · have HB9 := HB.out.trans (e3.mono hw1)
      rw [HX.out.1, HX.out.2]
      exact ⟨_, rfl, (HR.out.below HB9).more HB9.size, HB9⟩
  subst hy0
  by_cases h1000 : 1000 < (k : Int)
  · skip
    have HX := Lib.hid (create_err l p vl z 5 (by simp [createE, HRp.out, Hh.out, HUP.out, Hu.out, HY.out, HK.out]; omega) (by decide))
    go_wp2_with (refine wpList_store_to rfl 30 _ _ rfl g1 [.slice (some a) n cp] [.slice none 0 0] 30 rfl rfl X1.out sSH rfl (slice_one _ _ _) ?_)
    intro w9 e1 e2 e3 e4
    go_wp2
    refine bodyPost_ret (v := .tuple #[.agg [Value.slice (some a) n cp].toArray, .int .i64 5]) ?_ rfl ?_
    · exact ret_blk2U rfl _ _ g1 30 [.slice (some a) n cp] _ rfl rfl e1 d30 HU.out HD.out sSH
    · have HB9 := HB.out.trans (e3.mono hw1)
      rw [HX.out.1, HX.out.2]
      exact ⟨_, rfl, (HR.out.below HB9).more HB9.size, HB9⟩
  by_cases hz0 : z < 0
  · skip
    have HX := Lib.hid (create_err l p vl z 1 (by simp [createE, HRp.out, Hh.out, HUP.out, Hu.out, HY.out, HK.out, hz0]; omega) (by decide))
    go_wp2_with (refine wpList_store_to rfl 30 _ _ rfl g1 [.slice (some a) n cp] [.slice none 0 0] 30 rfl rfl X1.out sSH rfl (slice_one _ _ _) ?_)
    intro w9 e1 e2 e3 e4
    go_wp2
    refine bodyPost_ret (v := .tuple #[.agg [Value.slice (some a) n cp].toArray, .int .i64 1]) ?_ rfl ?_
    · exact ret_blk2U rfl _ _ g1 30 [.slice (some a) n cp] _ rfl rfl e1 d30 HU.out HD.out sSH
    · have HB9 := HB.out.trans (e3.mono hw1)
      rw [HX.out.1, HX.out.2]
      exact ⟨_, rfl, (HR.out.below HB9).more HB9.size, HB9⟩
  by_cases h200 : 200 ≤ (n : Int)
  · skip
    have HX := Lib.hid (create_err l p vl z 9 (by have e1 : ¬ 1000 < k := (by omega); simp [createE, HRp.out, Hh.out, HUP.out, Hu.out, HY.out, HK.out, hz0, HN.out, e1]; omega) (by decide))
    go_wp2_with (refine wpList_store_to rfl 30 _ _ rfl g1 [.slice (some a) n cp] [.slice none 0 0] 30 rfl rfl X1.out sSH rfl (slice_one _ _ _) ?_)
    intro w9 e1 e2 e3 e4
    go_wp2
    refine bodyPost_ret (v := .tuple #[.agg [Value.slice (some a) n cp].toArray, .int .i64 9]) ?_ rfl ?_
    · exact ret_blk2U rfl _ _ g1 30 [.slice (some a) n cp] _ rfl rfl e1 d30 HU.out HD.out sSH
    · have HB9 := HB.out.trans (e3.mono hw1)
      rw [HX.out.1, HX.out.2]
      exact ⟨_, rfl, (HR.out.below HB9).more HB9.size, HB9⟩
  have HX := Lib.hid (create_ok l p vl z (by
    have e1 : ¬ 1000 < k := by omega
    have e2 : ¬ 200 ≤ n := by omega
    simp [createE, HRp.out, Hh.out, HUP.out, Hu.out, HY.out, HK.out, hz0, HN.out, e1, e2]))
  obtain ⟨G, hG⟩ : ∃ G, w6.heap.size = G := ⟨_, rfl⟩
  have HO0 : Hid (OwnNd 56 (w6.alloc (.cells #[] 56)) G (.slice (some ⟨G, 0, none⟩) 0 0) []) := by
    have := OwnNd.empty 56 w6 G (by omega)
    rw [hG] at this
    exact this
  have HW0 : Hid (Below G w6 (w6.alloc (.cells #[] 56))) := (Below.refl _ _).alloc (by omega) _
  have hsz : (w6.alloc (.cells #[] 56)).heap.size = G + 1 := by simp; omega
  go_wp2_with (refine wpList_alloc_blk rfl 56 rfl (ndc nd0) zND ?_)
  intro w7 a1 a2 a3
  clear c3 h3 zi
  have e0 : w6.heap.size + 1 = G + 1 := by omega
  have e1 : w7.heap.size = G + 2 := by omega
  have A1 := Lib.hid a1
  have HO1 := Lib.hid (HO0.out.below a3 (by omega))
  have HW1 : Hid (Below G w6 w7) := HW0.out.trans (a3.mono (by omega))
  clear a1 a2 a3 HO0 HW0 e0
  obtain ⟨gN, hgN⟩ : ∃ g, G + 1 = g := ⟨_, rfl⟩
  rw [hgN] at A1 ⊢
  go_wp2_with (refine wpList_store_to rfl 56 _ _ rfl gN (ndc (p, vl, 0, z)) (ndc nd0) 56 rfl rfl A1.out sND rfl (ndc_one _) ?_)
  intro w8 d1 d2 d3 d4
  have HST : Hid (CrSt G gN w6 w8 (.slice (some ⟨G, 0, none⟩) 0 0) [] (p, vl, 0, z)) := by
    refine ⟨?_, d1, ?_, HW1.out.trans (d3.mono (by omega)), by omega⟩
    · exact ownsRow_but HO1.out (fun e => by injection e with e; have : G = gN := e; omega) d4
    · intro e
      injection e with e
      have : G = gN := e
      omega
  clear d1 d2 d3 d4 A1 HO1 HW1
  have HI0 := Lib.hid (insInv_start l (p, vl, 0, z))
  have hg0G : g0 < G := by omega
  have hg1G : g1 < G := by omega
  have hwG : w.heap.size ≤ G := by omega
  clear ca
  have ca := (X0.out.below HST.out.2.2.2.1 hg0G).cell 0
  go_wp2
  go_loopw [13, 15, 16] (fun o b x wr => ∃ i out fl, i ≤ n ∧ x = .int .i64 ((i : Nat) : Int) ∧ b = .bool fl ∧ Hid (insInv l (p, vl, 0, z) i out fl) ∧ Hid (CrSt G gN w6 wr o out (p, vl, 0, z))) (fun _ _ x _ => n - (intOf x).toNat)
  case atStart => exact ⟨0, [], false, by omega, rfl, rfl, HI0, HST⟩
  case round =>
    obtain ⟨i, out, fl, hi, rfl, rfl, HI, ST⟩ := hrel
    have hwr := ST.out.2.2.2.2
    clear ca
    have HOL := Lib.hid HI.out.1
    by_cases hi2 : i < n
    · have zi : (i : Int) < (n : Int) := by omega
      obtain ⟨x, hx⟩ : ∃ x, l.getD i nd0 = x := ⟨_, rfl⟩
      have HXX := Lib.hid hx
      clear hx
      have ca := (X0.out.below ST.out.2.2.2.1 hg0G).cell 0
      obtain ⟨a', hA', c0, c1, c2, c3⟩ := (HR.out.below (HB.out.trans (ST.out.2.2.2.1.mono hwG))).at_ i (by rw [HN.out]; exact hi2)
      obtain rfl : a = a' := Option.some.inj hA'
      rw [HXX.out] at c0 c1 c2 c3
      clear hA'
      cases fl
      · go_wp2_with fail
        refine (rfAhead_any p (nP x) _).mono ?_
        rintro e w9 ⟨rfl, hb⟩
        have ST9 := Lib.hid (ST.out.below hb)
        clear hb ca c0 c1 c2 c3 ST
        have ca := (X0.out.below ST9.out.2.2.2.1 hg0G).cell 0
        obtain ⟨a', hA', c0, c1, c2, c3⟩ := (HR.out.below (HB.out.trans (ST9.out.2.2.2.1.mono hwG))).at_ i (by rw [HN.out]; exact hi2)
        obtain rfl : a = a' := Option.some.inj hA'
        rw [HXX.out] at c0 c1 c2 c3
        clear hA'
        cases ha : aheadB p (nP x)
        · have HI2 := Lib.hid (insInv_not l (p, vl, 0, z) i (by rw [HN.out]; exact hi2) out HI.out (by rw [HXX.out]; exact ha))
          rw [HXX.out] at HI2
          clear ha
          go_wp2_with (at_builtin; refine wpList_crApp rfl _ _ rfl G gN _ out (p, vl, 0, z) x rfl rfl ST9.out ?d1 ?_)
          case d1 => have := HOL.out; have := HL.out; simp; omega
          intro v10 w10 hst10
          have ST10 := Lib.hid hst10
          clear hst10 ca c0 c1 c2 c3
          go_wp2
          go_roundw
          case rel => exact ⟨i + 1, _, false, by omega, by go_num, rfl, HI2, ST10⟩
          case measure => simp [intOf]; omega
        · have HI2 := Lib.hid (insInv_now l (p, vl, 0, z) i (by rw [HN.out]; exact hi2) out HI.out (by rw [HXX.out]; exact ha))
          rw [HXX.out] at HI2
          clear ha
          have d0 := ST9.out.2.1.at_ 0 _ rfl
          have d1 := ST9.out.2.1.at_ 1 _ rfl
          have d2 := ST9.out.2.1.at_ 2 _ rfl
          have d3 := ST9.out.2.1.at_ 3 _ rfl
          go_wp2_with (at_builtin; refine wpList_crApp rfl _ _ rfl G gN _ out (p, vl, 0, z) (p, vl, 0, z) rfl rfl ST9.out ?d1 ?_)
          case d1 => have := HOL.out; have := HL.out; simp; omega
          intro v10 w10 hst10
          have ST10 := Lib.hid hst10
          clear hst10 ca c0 c1 c2 c3
          clear d0 d1 d2 d3
          have ca := (X0.out.below ST10.out.2.2.2.1 hg0G).cell 0
          obtain ⟨a', hA', c0, c1, c2, c3⟩ := (HR.out.below (HB.out.trans (ST10.out.2.2.2.1.mono hwG))).at_ i (by rw [HN.out]; exact hi2)
          obtain rfl : a = a' := Option.some.inj hA'
          rw [HXX.out] at c0 c1 c2 c3
          clear hA'
          go_wp2_with (at_builtin; refine wpList_crApp rfl _ _ rfl G gN _ (out ++ [(p, vl, 0, z)]) (p, vl, 0, z) x rfl rfl ST10.out ?d1 ?_)
          case d1 => have := HOL.out; have := HL.out; simp; omega
          intro v11 w11 hst11
          have ST11 := Lib.hid hst11
          clear hst11 ca c0 c1 c2 c3
          go_wp2
          go_roundw
          case rel => exact ⟨i + 1, _, true, by omega, by go_num, rfl, HI2, by rw [List.append_assoc]; exact ST11⟩
          case measure => simp [intOf]; omega
      · have HI2 := Lib.hid (insInv_in l (p, vl, 0, z) i (by rw [HN.out]; exact hi2) out HI.out HI.out.1)
        rw [HXX.out] at HI2
        go_wp2_with (at_builtin; refine wpList_crApp rfl _ _ rfl G gN _ out (p, vl, 0, z) x rfl rfl ST.out ?d1 ?_)
        case d1 => have := HOL.out; have := HL.out; simp; omega
        intro v10 w10 hst10
        have ST10 := Lib.hid hst10
        clear hst10 ca c0 c1 c2 c3
        go_wp2
        go_roundw
        case rel => exact ⟨i + 1, _, true, by omega, by go_num, rfl, HI2, ST10⟩
        case measure => simp [intOf]; omega
    · have hE : i = n := by omega
      subst hE
      have HE := Lib.hid (insInv_end l (p, vl, 0, z) out fl (by rw [HN.out]; exact HI.out))
      have ca := (X0.out.below ST.out.2.2.2.1 hg0G).cell 0
      cases fl
      · have d0 := ST.out.2.1.at_ 0 _ rfl
        have d1 := ST.out.2.1.at_ 1 _ rfl
        have d2 := ST.out.2.1.at_ 2 _ rfl
        have d3 := ST.out.2.1.at_ 3 _ rfl
        go_wp2_with (at_builtin; refine wpList_crApp rfl _ _ rfl G gN _ out (p, vl, 0, z) (p, vl, 0, z) rfl rfl ST.out ?d1 ?_)
        case d1 => have := HOL.out; have := HL.out; omega
        intro v10 w10 hst10
        have ST10 := Lib.hid hst10
        clear hst10 ca d0 d1 d2 d3
        obtain ⟨Ao, co, ho, -, -⟩ := ST10.out.1.rd.shape
        obtain ⟨LL, hLL⟩ : ∃ LL, (out ++ [(p, vl, 0, z)]).length = LL := ⟨_, rfl⟩
        rw [hLL] at ho
        subst ho
        clear hLL
        have X1r := Lib.hid (X1.out.below ST10.out.2.2.2.1 hg1G)
        go_wp2_with (refine wpList_store_to rfl 30 _ _ rfl g1 [.slice Ao LL co] [.slice none 0 0] 30 rfl rfl X1r.out sSH rfl (slice_one _ _ _) ?_)
        intro w20 e1 e2 e3 e4
        go_wp2
        refine bodyPost_ret (v := .tuple #[.agg [Value.slice Ao LL co].toArray, .int .i64 0]) ?_ rfl ?_
        · exact ret_blk2U rfl _ _ g1 30 [.slice Ao LL co] _ rfl rfl e1 d30 HU.out HD.out sSH
        · rw [HX.out.1, HX.out.2, HE.out]
          exact ⟨_, rfl, OwnNd.rd (ownsRow_same ST10.out.1 (fun k hk => e4 k (by omega))), HB.out.trans ((ST10.out.2.2.2.1.mono hwG).trans (e3.mono hw1))⟩
      · skip
        obtain ⟨Ao, co, ho, -, -⟩ := ST.out.1.rd.shape
        obtain ⟨LL, hLL⟩ : ∃ LL, out.length = LL := ⟨_, rfl⟩
        rw [hLL] at ho
        subst ho
        clear hLL
        have X1r := Lib.hid (X1.out.below ST.out.2.2.2.1 hg1G)
        go_wp2_with (refine wpList_store_to rfl 30 _ _ rfl g1 [.slice Ao LL co] [.slice none 0 0] 30 rfl rfl X1r.out sSH rfl (slice_one _ _ _) ?_)
        intro w20 e1 e2 e3 e4
        go_wp2
        refine bodyPost_ret (v := .tuple #[.agg [Value.slice Ao LL co].toArray, .int .i64 0]) ?_ rfl ?_
        · exact ret_blk2U rfl _ _ g1 30 [.slice Ao LL co] _ rfl rfl e1 d30 HU.out HD.out sSH
        · rw [HX.out.1, HX.out.2, HE.out]
          exact ⟨_, rfl, OwnNd.rd (ownsRow_same ST.out.1 (fun k hk => e4 k (by omega))), HB.out.trans ((ST.out.2.2.2.1.mono hwG).trans (e3.mono hw1))⟩
end Go.Proofs.YtlpakfaoaodaiaaDoor
