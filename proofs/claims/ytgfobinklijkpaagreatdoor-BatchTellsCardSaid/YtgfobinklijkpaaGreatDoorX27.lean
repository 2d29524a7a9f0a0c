/-
  Texts GD GE GF UB UF.
-/
import Derived.Test.YtgfobinklijkpaaGreatDoorX01
import Derived.Great.BuildSlice
import Derived.Test.YtgfobinklijkpaaGreatDoorX07
import Derived.Test.YtgfobinklijkpaaGreatDoorX09
import Derived.Test.YtgfobinklijkpaaGreatDoorX20
import Derived.Test.YtgfobinklijkpaaGreatDoorX26
namespace Go.Proofs.YtgfobinklijkpaaGreatDoor
set_option maxRecDepth 100000
set_option maxHeartbeats 16000000
open Go.RowKit
theorem shape_blk {w : World} {g : Nat} {cs : List Value} {t : TypeId} (h : Blk w g cs t) : w.shape? g = some (t, cs.length) := by
 unfold Blk at h
 unfold World.shape?
 rw [h]
 simp
theorem ins_room {e : TypeId} {W : World} {base g cap m : Nat} {l : List Nd} (x : Nd) (h : OwnNd e W base (.slice (some ⟨g, 0, none⟩) l.length cap) l) (hm : m < l.length) (hr : l.length + 1 ≤ cap) :
 (∀ j u, (nds (l.drop m))[j]? = some u → W.cell? ⟨g, m * 4 + j, none⟩ = some u) ∧
 (∀ j, j < (l.length - m) * 4 → (W.cell? ⟨g, (m + 1) * 4 + j, none⟩).isSome = true ∧ W.frozen? ⟨g, (m + 1) * 4 + j, none⟩ = false) ∧
 (∀ j, j < 4 → ((W.setCells g ((m + 1) * 4) (nds (l.drop m))).cell? ⟨g, m * 4 + j, none⟩).isSome = true ∧ (W.setCells g ((m + 1) * 4) (nds (l.drop m))).frozen? ⟨g, m * 4 + j, none⟩ = false) ∧
 OwnNd e ((W.setCells g ((m + 1) * 4) (nds (l.drop m))).setCells g (m * 4) (ndc x)) base (.slice (some ⟨g, 0, none⟩) (l.length + 1) cap) (insAt l x m) ∧
 Below base W ((W.setCells g ((m + 1) * 4) (nds (l.drop m))).setCells g (m * 4) (ndc x)) ∧ W.shape? g = some (e, cap * 4) := by
 obtain ⟨cur, hb, h2, h4, h5, h6, h7, hn⟩ := h.block
 have hcl : cur.toList.length = cap * 4 := by rw [Array.length_toList, h6]
 have hnl : (nds (l.drop m)).length = (l.length - m) * 4 := by rw [nds_length, List.length_drop]; omega
 have hx : (ndc x).length = 4 := rfl
 have h0 : cur.toList.take (m * 4) = nds (l.take m) := by
  rw [← (nds_cut l m hm).1, ← h7, List.take_take, Nat.min_eq_left (by omega)]
 have b1 := hb.setCells (nds (l.drop m)) ((m + 1) * 4) (by rw [hnl, hcl]; omega)
 obtain ⟨C1, hC1⟩ : ∃ C, cur.toList.take ((m + 1) * 4) ++ (nds (l.drop m) ++ cur.toList.drop ((m + 1) * 4 + (nds (l.drop m)).length)) = C := ⟨_, rfl⟩
 rw [hC1] at b1
 have r1 := ins_row2 cur.toList l x m cap hcl hr (by omega) h0 C1 _ hC1.symm rfl
 have b2 := b1.setCells (ndc x) (m * 4) (by rw [hx, r1.1]; omega)
 obtain ⟨C2, hC2⟩ : ∃ C, C1.take (m * 4) ++ (ndc x ++ C1.drop (m * 4 + (ndc x).length)) = C := ⟨_, rfl⟩
 rw [hC2] at b2
 have r2 := ins_row2 cur.toList l x m cap hcl hr (by omega) h0 C1 C2 hC1.symm hC2.symm
 refine ⟨?_, ?_, ?_, ?_, below_setCells h2 _ _ _ (below_setCells h2 _ _ _ (Below.refl _ _)), ?_⟩
 ·intro j u hu
  have hj : j < (l.length - m) * 4 := by have := (List.getElem?_eq_some_iff.1 hu).1; rwa [hnl] at this
  have e0 : nds l = nds (l.take m) ++ nds (l.drop m) := by rw [← nds_append, List.take_append_drop]
  have hl0 : (nds (l.take m)).length = m * 4 := by rw [nds_length, List.length_take]; omega
  have : (cur.toList.take (l.length * 4))[m * 4 + j]? = some u := by
   rw [h7, e0, List.getElem?_append_right (by omega), hl0, Nat.add_sub_cancel_left]
   exact hu
  rw [List.getElem?_take, if_pos (by omega)] at this
  exact (hb.cell _).trans this
 ·intro j hj
  rw [hb.cell, List.getElem?_eq_getElem (by rw [hcl]; omega)]
  exact ⟨rfl, hb.frozen _⟩
 ·intro j hj
  rw [b1.cell, List.getElem?_eq_getElem (by rw [r1.1]; omega)]
  exact ⟨rfl, b1.frozen _⟩
 ·have := OwnNd.of (e := e) (base := base) (cap := cap) (l := insAt l x m) C2 b2 h2 (by unfold insAt; rw [ins_len l x m (by omega)]; exact hr) h5 r2.2.1 (by unfold insAt; rw [ins_len l x m (by omega)]; exact r2.2.2)
  unfold insAt at this ⊢
  rw [ins_len l x m (by omega)] at this
  exact this
 ·have := shape_blk hb
  rw [hcl] at this
  exact this
theorem insRoom_any (l : List Nd) (x : Nd) (m base gv g cap : Nat) (W : World) (ho : OwnNd 157 W base (.slice (some ⟨g, 0, none⟩) l.length cap) l) (hl : l.length ≤ 100000) (hv : Blk W gv (ndc x) 157) (hne : gv ≠ g) (hm : m < l.length) (hr : l.length + 1 ≤ cap) (_hcm : cap ≤ 9223372036854775807) :
 Calls Tryz.prog 208 #[.slice (some ⟨g, 0, none⟩) l.length cap, .int .i64 (m : Int), .slice (some ⟨gv, 0, none⟩) 1 1] W (EditsTo base (insAt l x m) W) := by
 obtain ⟨i1, hJ, hy0, hy1, hy2⟩ := info_partsPN
 obtain ⟨q1, q2, q3, q4, q5, q6⟩ := ins_room (W := W.drew) x ho hm hr
 have hnl : (nds (l.drop m)).length = (l.length - m) * 4 := by rw [nds_length, List.length_drop]; omega
 obtain ⟨n, hn⟩ : ∃ n, l.length = n := ⟨_, rfl⟩
 obtain ⟨tl, htl⟩ : ∃ t, nds (l.drop m) = t := ⟨_, rfl⟩
 have h1t : ∀ v ∈ tl, v.oneCell' = true := by rw [← htl]; exact nds_cell _
 rw [hn] at q2 q4 hnl hm hr hl ⊢
 rw [htl] at q1 q3 q4 q5 hnl
 have hov : ∀ lb cb, (callFunc 233 #[.slice (some ⟨gv, 0, none⟩) 1 1, .slice (some ⟨g, (m + 1) * 4, none⟩) lb cb]).run Tryz.prog W = .ok (.value (.bool false)) W := fun lb cb => by
  rw [run_callFunc_extern Tryz.func233 (by kernel_rfl) (by kernel_rfl) (by kernel_rfl) (e := Extern.SlicesOverlaps.overlaps #[39, 39] #[4]) (by kernel_rfl),
   Lib.run_overlaps_apart W 39 4 157 Tryz.underlying39 4 Tryz.sizeOf157 ⟨gv, 0, none⟩ ⟨g, (m + 1) * 4, none⟩ 1 1 lb cb hne 157 157 4 (cap * 4) (shape_blk hv) q6 (by omega) (hv.frozen 0) (hv.frozen 4)]
  rfl
 have hcp1 : ∀ ty dl dc sl sc, Nat.min sl dl = n - m → (Builtin.copy_ #[39, 39] ty #[.slice (some ⟨g, (m + 1) * 4, none⟩) dl dc, .slice (some ⟨g, m * 4, none⟩) sl sc]).run Tryz.prog W.drew = .ok (goInt (Nat.min sl dl)) (W.drew.setCells g ((m + 1) * 4) tl) := fun ty dl dc sl sc hmn =>
  run_copy_nds W.drew _ _ ty 157 g ((m + 1) * 4) dl dc ⟨g, m * 4, none⟩ sl sc tl Tryz.underlying39 sPN (by rw [hnl, hmn]) (fun j v hj => by rw [Addr.add_lit]; exact q1 j v hj) (fun j hj => q2 j (by rwa [hnl] at hj)) h1t
 have hvx : ∀ j v, (ndc x)[j]? = some v → (W.drew.setCells g ((m + 1) * 4) tl).cell? ⟨gv, j, none⟩ = some v := fun j v hj => by
  rw [World.cell?_setCells_out g _ _ _ _ (fun h => absurd h hne)]
  exact (hv.cell j).trans hj
 have hcp2 : ∀ ty dl dc, 1 ≤ dl → (Builtin.copy_ #[39, 39] ty #[.slice (some ⟨g, m * 4, none⟩) dl dc, .slice (some ⟨gv, 0, none⟩) 1 1]).run Tryz.prog (W.drew.setCells g ((m + 1) * 4) tl) = .ok (goInt (Nat.min 1 dl)) ((W.drew.setCells g ((m + 1) * 4) tl).setCells g (m * 4) (ndc x)) := fun ty dl dc hd =>
  run_copy_nds _ _ _ ty 157 g (m * 4) dl dc ⟨gv, 0, none⟩ 1 1 (ndc x) Tryz.underlying39 sPN (by rw [show Nat.min 1 dl = 1 from Nat.min_eq_left hd]; rfl) (fun j v hj => by rw [Addr.add_lit, Nat.zero_add]; exact hvx j v hj) q3 (fun v hv => nds_cell [x] v (by rw [nds_one]; exact hv))
 have HC1 := lhd hcp1
 have HC2 := lhd hcp2
 have HO := lhd q4
 have HB := lhd (((Below.refl base W).drew).trans q5)
 obtain ⟨L, hL⟩ : ∃ L, insAt l x m = L := ⟨_, rfl⟩
 rw [hL] at HO ⊢
 clear hcp1 hcp2 q1 q2 q3 q4 q5 q6 hvx h1t hnl htl hn ho hv hL
 have w1 : IntKind.i64.wrap ((m : Int) + 1) = (m : Int) + 1 := by rw [IntKind.wrap_i64]; omega
 have w2 : IntKind.i64.wrap ((n : Int) + 1) = (n : Int) + 1 := by rw [IntKind.wrap_i64]; omega
 have z2 : ¬ ((m : Int) = (n : Int)) := by omega
 have z3 : ¬ ((cap : Int) < (n : Int) + 1) := by omega
 have b1 : (0 : Int) ≤ (m : Int) + 1 := by omega
 have b2 : ((m : Int) + 1).toNat = m + 1 := by omega
 have b3 : (m : Int) ≤ (n : Int) := by omega
 have b4 : ¬ (cap = m) := by omega
 have b5 : ¬ (cap = m + 1) := by omega
 have b6 : ((n : Int) + 1).toNat = n + 1 := by omega
 have b7 : (m : Int) ≤ (n : Int) + 1 := by omega
 have b8 : (m : Int) + 1 ≤ (n : Int) + 1 := by omega
 have b9 : n + 1 ≤ cap := by omega
 go_enter Tryz.func208, Tryz.ntmps208
 go_wp2_with (simp only [hov])
 go_region_law (refine step_copy_run rfl _ _ 39 39 rfl (.slice (some ⟨g, (m + 1) * 4, none⟩) (n - m) (cap - (m + 1))) (.slice (some ⟨g, m * 4, none⟩) (n + 1 - m) (cap - m)) (by simp [Act.eval, Act.put]) (by simp [Act.eval, Act.put]) (HC1.out _ (n - m) (cap - (m + 1)) (n + 1 - m) (cap - m) (by simp only [Nat.min_def]; split <;> omega)) ?_)
 go_wp2_with (refine wpList_copy_run rfl _ _ 39 39 rfl _ _ rfl rfl (HC2.out _ (n + 1 - m) (cap - m) (by omega)) ?_)
 go_ret
 exact ⟨_, rfl, HO.out, HB.out⟩
theorem ins_grow {e : TypeId} {V : World} {base N G m : Nat} {l : List Nd} (x : Nd) (C : List Value) (hb : Blk V N C e) (hC : C.length = G * 4) (h0 : C.take (m * 4) = nds (l.take m)) (hbN : base ≤ N) (hG : G ≤ maxLen) (hm : m < l.length) (hr : l.length + 1 ≤ G) :
 (∀ j, j < 4 → (V.cell? ⟨N, m * 4 + j, none⟩).isSome = true ∧ V.frozen? ⟨N, m * 4 + j, none⟩ = false) ∧
 (∀ j, j < (l.length - m) * 4 → ((V.setCells N (m * 4) (ndc x)).cell? ⟨N, (m + 1) * 4 + j, none⟩).isSome = true ∧ (V.setCells N (m * 4) (ndc x)).frozen? ⟨N, (m + 1) * 4 + j, none⟩ = false) ∧
 OwnNd e ((V.setCells N (m * 4) (ndc x)).setCells N ((m + 1) * 4) (nds (l.drop m))) base (.slice (some ⟨N, 0, none⟩) (l.length + 1) G) (insAt l x m) ∧
 Below N V ((V.setCells N (m * 4) (ndc x)).setCells N ((m + 1) * 4) (nds (l.drop m))) := by
 have hnl : (nds (l.drop m)).length = (l.length - m) * 4 := by rw [nds_length, List.length_drop]; omega
 have hx : (ndc x).length = 4 := rfl
 have b1 := hb.setCells (ndc x) (m * 4) (by rw [hx, hC]; omega)
 obtain ⟨C1, hC1⟩ : ∃ D, C.take (m * 4) ++ (ndc x ++ C.drop (m * 4 + (ndc x).length)) = D := ⟨_, rfl⟩
 rw [hC1] at b1
 have r1 := ins_row1 C l x m G hC hr (by omega) h0 C1 _ hC1.symm rfl
 have b2 := b1.setCells (nds (l.drop m)) ((m + 1) * 4) (by rw [hnl, r1.1]; omega)
 obtain ⟨C2, hC2⟩ : ∃ D, C1.take ((m + 1) * 4) ++ (nds (l.drop m) ++ C1.drop ((m + 1) * 4 + (nds (l.drop m)).length)) = D := ⟨_, rfl⟩
 rw [hC2] at b2
 have r2 := ins_row1 C l x m G hC hr (by omega) h0 C1 C2 hC1.symm hC2.symm
 refine ⟨?_, ?_, ?_, below_setCells (Nat.le_refl _) _ _ _ (below_setCells (Nat.le_refl _) _ _ _ (Below.refl _ _))⟩
 ·intro j hj
  rw [hb.cell, List.getElem?_eq_getElem (by rw [hC]; omega)]
  exact ⟨rfl, hb.frozen _⟩
 ·intro j hj
  rw [b1.cell, List.getElem?_eq_getElem (by rw [r1.1]; omega)]
  exact ⟨rfl, b1.frozen _⟩
 ·have := OwnNd.of (e := e) (base := base) (cap := G) (l := insAt l x m) C2 b2 hbN (by unfold insAt; rw [ins_len l x m (by omega)]; exact hr) hG r2.2.1 (by unfold insAt; rw [ins_len l x m (by omega)]; exact r2.2.2)
  unfold insAt at this ⊢
  rw [ins_len l x m (by omega)] at this
  exact this
theorem drew_cells (b : Nat) : ∀ (vs : List Value) (o : Nat) (w : World), (w.setCells b o vs).drew = w.drew.setCells b o vs
 | [], _, _ => rfl
 | v :: r, o, w => by
   rw [World.setCells, World.setCells, drew_cells b r]
   rfl
theorem insGrow_any (l : List Nd) (x : Nd) (m base gv g cap : Nat) (W : World) (hB : base ≤ W.heap.size) (ho : OwnNd 157 W base (.slice (some ⟨g, 0, none⟩) l.length cap) l) (hl : l.length ≤ 100000) (hv : Blk W gv (ndc x) 157) (hm : m < l.length) (hr : cap < l.length + 1) :
 Calls Tryz.prog 208 #[.slice (some ⟨g, 0, none⟩) l.length cap, .int .i64 (m : Int), .slice (some ⟨gv, 0, none⟩) 1 1] W (EditsTo base (insAt l x m) W) := by
 obtain ⟨i1, hJ, hy0, hy1, hy2⟩ := info_partsPN
 obtain ⟨cur, hbk, k2, k4, k5, k6, k7, kn⟩ := ho.block
 obtain rfl : cap = l.length := by omega
 have hcl : cur.toList.length = l.length * 4 := by rw [Array.length_toList, k6]
 have hcur : cur.toList = nds l := by rw [← k7, List.take_of_length_le (by rw [hcl]; omega)]
 rw [hcur] at hbk
 have hgW := hbk.lt
 have hvW := hv.lt
 obtain ⟨n, hn⟩ : ∃ n, l.length = n := ⟨_, rfl⟩
 obtain ⟨N, hN⟩ : ∃ N, W.heap.size = N := ⟨_, rfl⟩
 have ht0 : (nds (l.take m)).length = m * 4 := by rw [nds_length, List.length_take]; omega
 have hold : (Builtin.firstCells i1.size m (.slice (some ⟨g, 0, none⟩) m n)).run Tryz.prog W.drew = .ok (nds (l.take m)).toArray W.drew := by
  rw [hy1]
  refine run_firstCells_some (P := Tryz.prog) W.drew 4 m ⟨g, 0, none⟩ m n (nds (l.take m)) ht0 (fun j v hj => ?_)
  have hj4 : j < m * 4 := by have := (List.getElem?_eq_some_iff.1 hj).1; rwa [ht0] at this
  have hadd : (⟨g, 0, none⟩ : Addr).add j = ⟨g, j, none⟩ := by unfold Addr.add; split <;> simp_all
  rw [hadd]
  refine (hbk.cell j).trans ?_
  have e0 : nds l = nds (l.take m) ++ nds (l.drop m) := by rw [← nds_append, List.take_append_drop]
  rw [e0, List.getElem?_append_left (by omega)]
  exact hj
 have hrz := fun ty => Lib.run_append_grow_zeros (P := Tryz.prog) W 39 3 ty 157 i1 ndz .i64 .i64 Tryz.underlying39 Tryz.underlying3 hJ hy0 (some ⟨g, 0, none⟩) m n (nds (l.take m)) hold (n + 1 - m) (by omega) (by omega) (by omega) (by omega) (by rw [hy2]; omega) (by rw [hy2]; exact growslice_fits (by omega) (by omega))
 rw [show m + (n + 1 - m) = n + 1 by omega] at hrz
 obtain ⟨G, hG⟩ : ∃ G, grownCap W (n + 1) n 157 = G := ⟨_, rfl⟩
 have hG1 : n + 1 ≤ G := by rw [← hG]; exact grownCap_ge W _ _ _
 have hG2 : G ≤ maxLen := by rw [← hG]; exact grownCap_le_maxLen W _ _ _ (by unfold maxLen; omega)
 rw [hG] at hrz
 obtain ⟨ROW, hROW⟩ : ∃ R : Array Value, (nds (l.take m)).toArray ++ Builtin.zeroCells ndz.cells (n + 1 - m) ++ Builtin.zeroCells ndz.cells (G - (n + 1)) = R := ⟨_, rfl⟩
 rw [hROW] at hrz
 have hz4 : ∀ k, (Builtin.zeroCells ndz.cells k).size = k * 4 := fun k => by rw [size_zeroCells]; rfl
 have hRl : ROW.toList.length = G * 4 := by
  rw [← hROW]
  simp only [Array.toList_append, List.length_append, Array.length_toList, hz4, ht0]
  omega
 have hR0 : ROW.toList.take (m * 4) = nds (l.take m) := by
  rw [← hROW]
  simp only [Array.toList_append, List.append_assoc]
  exact List.take_left' ht0
 obtain ⟨V, hV⟩ : ∃ V, W.drew.alloc (.cells ROW 157) = V := ⟨_, rfl⟩
 have hbN : Blk V.drew N ROW.toList 157 := by
  rw [← hN, ← hV]
  exact heap_alloc_new W.drew (.cells ROW 157)
 have hgV : Blk V g (nds l) 157 := by
  rw [← hV]
  exact hbk.drew.alloc (.cells ROW 157)
 have hvV : Blk V gv (ndc x) 157 := by
  rw [← hV]
  exact hv.drew.alloc (.cells ROW 157)
 have hWV : Below N W V.drew := by
  rw [← hV]
  exact (((Below.refl N W).drew).alloc (by show N ≤ W.heap.size; omega) _).drew
 obtain ⟨q1, q2, q3, q4⟩ := ins_grow (l := l) x ROW.toList hbN hRl hR0 (show base ≤ N by omega) hG2 hm (by omega)
 have hnl : (nds (l.drop m)).length = (l.length - m) * 4 := by rw [nds_length, List.length_drop]; omega
 obtain ⟨tl, htl⟩ : ∃ t, nds (l.drop m) = t := ⟨_, rfl⟩
 have h1t : ∀ v ∈ tl, v.oneCell' = true := by rw [← htl]; exact nds_cell _
 have htc : ∀ j u, tl[j]? = some u → V.cell? ⟨g, m * 4 + j, none⟩ = some u := fun j u hu => by
  refine (hgV.cell _).trans ?_
  have e0 : nds l = nds (l.take m) ++ nds (l.drop m) := by rw [← nds_append, List.take_append_drop]
  rw [e0, List.getElem?_append_right (by omega), ht0, Nat.add_sub_cancel_left, htl]
  exact hu
 rw [htl] at q3 q4 hnl
 rw [hn] at q2 q3 hnl hm hl ⊢
 unfold maxLen at hG2
 have hrzz := fun ty => hrz ty
 rw [hN, hV] at hrzz
 have HRZ := lhd hrzz
 have hcp1 : ∀ ty dl dc, 1 ≤ dl → (Builtin.copy_ #[39, 39] ty #[.slice (some ⟨N, m * 4, none⟩) dl dc, .slice (some ⟨gv, 0, none⟩) 1 1]).run Tryz.prog V = .ok (goInt (Nat.min 1 dl)) (V.setCells N (m * 4) (ndc x)) := fun ty dl dc hd =>
  run_copy_nds _ _ _ ty 157 N (m * 4) dl dc ⟨gv, 0, none⟩ 1 1 (ndc x) Tryz.underlying39 sPN (by rw [show Nat.min 1 dl = 1 from Nat.min_eq_left hd]; rfl) (fun j v hj => by rw [Addr.add_lit, Nat.zero_add]; exact (hvV.cell j).trans hj) q1 (fun v hv => nds_cell [x] v (by rw [nds_one]; exact hv))
 have hcp2 : ∀ ty dl dc sl sc, Nat.min sl dl = n - m → (Builtin.copy_ #[39, 39] ty #[.slice (some ⟨N, (m + 1) * 4, none⟩) dl dc, .slice (some ⟨g, m * 4, none⟩) sl sc]).run Tryz.prog (V.setCells N (m * 4) (ndc x)).drew = .ok (goInt (Nat.min sl dl)) ((V.setCells N (m * 4) (ndc x)).drew.setCells N ((m + 1) * 4) tl) := fun ty dl dc sl sc hmn => by
  rw [drew_cells]
  exact run_copy_nds _ _ _ ty 157 N ((m + 1) * 4) dl dc ⟨g, m * 4, none⟩ sl sc tl Tryz.underlying39 sPN (by rw [hnl, hmn]) (fun j v hj => by rw [Addr.add_lit, World.cell?_setCells_out N _ _ _ _ (fun h => absurd h (by show g ≠ N; omega))]; exact htc j v hj) (fun j hj => q2 j (by rwa [hnl] at hj)) h1t
 have HC1 := lhd hcp1
 have HC2 := lhd hcp2
 have HO : Hid (OwnNd 157 ((V.setCells N (m * 4) (ndc x)).drew.setCells N ((m + 1) * 4) tl) base (.slice (some ⟨N, 0, none⟩) (n + 1) G) (insAt l x m)) := by
  rw [drew_cells]
  exact q3
 have HB : Hid (Below base W ((V.setCells N (m * 4) (ndc x)).drew.setCells N ((m + 1) * 4) tl)) := by
  rw [drew_cells]
  exact (hWV.mono (by omega)).trans (q4.mono (by omega))
 obtain ⟨L, hL⟩ : ∃ L, insAt l x m = L := ⟨_, rfl⟩
 rw [hL] at HO ⊢
 clear hrz hrzz hold hcp1 hcp2 q1 q2 q3 q4 htc h1t hnl htl hn ho hv hL hbk hcur hcl hgV hvV hWV hbN hR0 hRl hROW hG ht0 kn hN k7 k6 k5 k4 k2 hV hgW hvW
 have w1 : IntKind.i64.wrap ((m : Int) + 1) = (m : Int) + 1 := by rw [IntKind.wrap_i64]; omega
 have w2 : IntKind.i64.wrap ((n : Int) + 1) = (n : Int) + 1 := by rw [IntKind.wrap_i64]; omega
 have w3 : IntKind.i64.wrap ((n : Int) + 1 - (m : Int)) = (n : Int) + 1 - (m : Int) := by rw [IntKind.wrap_i64]; omega
 have z2 : ¬ ((m : Int) = (n : Int)) := by omega
 have z3 : (n : Int) < (n : Int) + 1 := by omega
 have b1 : (0 : Int) ≤ (m : Int) + 1 := by omega
 have b2 : ((m : Int) + 1).toNat = m + 1 := by omega
 have b3 : (m : Int) ≤ (n : Int) := by omega
 have b4 : ¬ (n = m) := by omega
 have b6 : ((n : Int) + 1).toNat = n + 1 := by omega
 have b7 : (m : Int) ≤ (n : Int) + 1 := by omega
 have b8 : (m : Int) + 1 ≤ (n : Int) + 1 := by omega
 have b10 : m ≤ n := by omega
 have b11 : ¬ (G = m) := by omega
 have b12 : ¬ (G = m + 1) := by omega
 have b13 : m ≤ G := by omega
 have b14 : m + 1 ≤ G := by omega
 have hkk : (n : Int) + 1 - (m : Int) = ((n + 1 - m : Nat) : Int) := by omega
 have HKK := lhd hkk
 clear hkk
 go_enter Tryz.func208, Tryz.ntmps208
 go_wp2_with (first
  | (at_builtin; refine Lib.wpList_append_run _ rfl _ _ 39 3 rfl (.slice (some ⟨g, 0, none⟩) m n) (.int .i64 ((n + 1 - m : Nat) : Int)) rfl (by rw [← HKK.out]; rfl) _ _ (HRZ.out _) ?_)
  | (refine wpList_copy_run rfl _ _ 39 39 rfl _ _ rfl rfl (HC1.out _ (n + 1 - m) (G - m) (by omega)) ?_))
 go_region_law (refine step_copy_run rfl _ _ 39 39 rfl (.slice (some ⟨N, (m + 1) * 4, none⟩) (n - m) (G - (m + 1))) (.slice (some ⟨g, m * 4, none⟩) (n - m) (n - m)) (by simp [Act.eval, Act.put]) (by simp [Act.eval, Act.put]) (HC2.out _ (n - m) (G - (m + 1)) (n - m) (n - m) (by simp only [Nat.min_def]; split <;> omega)) ?_)
 go_wp2
 go_ret
 exact ⟨_, rfl, HO.out, HB.out⟩
theorem insNd_any (l : List Nd) (x : Nd) (m base gv : Nat) (u : Value) (W : World) (hB : base ≤ W.heap.size) (ho : OwnNd 157 W base u l) (hl : l.length ≤ 100000) (hv : Blk W gv (ndc x) 157) (hne : u.ownBlock ≠ some gv) (hm : m ≤ l.length) :
 Calls Tryz.prog 208 #[u, .int .i64 (m : Int), .slice (some ⟨gv, 0, none⟩) 1 1] W (EditsTo base (insAt l x m) W) := by
 by_cases he : m = l.length
 ·subst he
  exact insEnd_any l x base gv u W hB ho hl hv
 ·obtain ⟨g, cap, rfl, hcap, hbg, hgW⟩ := ho.inBlock (by omega)
  have hcm : cap ≤ maxLen := by
   obtain ⟨_, _, _, _, h5, _⟩ := ho.block
   exact h5
  by_cases hr : l.length + 1 ≤ cap
  ·exact insRoom_any l x m base gv g cap W ho hl hv (fun e => hne (by rw [e]; rfl)) (by omega) hr (by unfold maxLen at hcm; omega)
  ·exact insGrow_any l x m base gv g cap W hB ho hl hv (by omega) (by omega)
def NewNd (x : Nd) (B : Nat) (u : Value) (w : World) : Prop := ∃ g, u = .slice (some ⟨g, 0, none⟩) 1 1 ∧ Blk w g (ndc x) 157 ∧ B ≤ g
theorem NewNd.keep {x : Nd} {B : Nat} {u : Value} {w w' : World} (h : NewNd x B u w) (hb : Below w.heap.size w w') : NewNd x B u w' := by
 obtain ⟨g, h1, h2, h3⟩ := h
 exact ⟨g, h1, h2.below hb h2.lt, h3⟩
theorem plIs (l : List Nd) (p : List UInt8) (v : Value) (w : World) (hr : RdNd w.heap.size w v l) (hl : l.length ≤ 100000) (ho : inOrder l) (k : Nat) (hk : posN l p = k) : Calls Tryz.prog 209 #[v, txt p] w (One (.int .i64 (k : Int)) w) := by
 rw [← hk]
 exact shPlace_any l p v w hr hl ho
theorem crEd_any (l : List Nd) (p vl : List UInt8) (z : Int) (base : Nat) (u : Value) (gp gv go : Nat) (W : World) (hB : base ≤ W.heap.size) (ho : OwnNd 157 W base u l) (hl : l.length ≤ 100000) (hord : inOrder l) (b1 : gp < base) (b2 : gv < base) (b3 : go < base)
 (c1 : W.cell? ⟨gp, 0, none⟩ = some (txt p)) (c2 : W.cell? ⟨gv, 0, none⟩ = some (txt vl)) (c3 : W.cell? ⟨go, 0, none⟩ = some (.int .i64 z)) :
 Calls Tryz.prog 207 #[u, .pointer (some ⟨gp, 0, none⟩), .pointer (some ⟨gv, 0, none⟩), .pointer (some ⟨go, 0, none⟩)] W (EditsTo base (insAt l (p, vl, 0, z) (posN l p)) W) := by
 obtain ⟨A, cp, rfl, hc, hm⟩ := ho.rd.shape
 have HO := lhd ho
 have HR := lhd ho.rd
 have HL := lhd hl
 have HORD := lhd hord
 have C1 := lhd c1
 have C2 := lhd c2
 have C3 := lhd c3
 have l1 : gp < W.heap.size := by omega
 have l2 : gv < W.heap.size := by omega
 have l3 : go < W.heap.size := by omega
 have HOB := lhd (World.ownsRow.lt ho)
 obtain ⟨n, hn⟩ : ∃ n, l.length = n := ⟨_, rfl⟩
 have HN := lhd hn
 obtain ⟨k, hk⟩ : ∃ k, posN l p = k := ⟨_, rfl⟩
 have HK := lhd hk
 rw [hn] at HO HR HOB ⊢
 rw [hk]
 clear ho hl hord c1 c2 c3 hc hm hn hk
 obtain ⟨x9, hx9⟩ : ∃ q : Nd, (p, vl, 0, z) = q := ⟨_, rfl⟩
 have HX9 := lhd hx9
 rw [hx9]
 clear hx9
 go_enter Tryz.func207, Tryz.ntmps207
 go_wp2
 refine wp_region_rely3 9 2 (fun x => ⟨#[.slice A n cp, .pointer (some { block := gp, off := 0 }), .pointer (some { block := gv, off := 0 }), .pointer (some { block := go, off := 0 }), undef, .slice none 0 0, x 0, x 1, x 2, x 3, x 4, x 5, x 6, x 7, x 8, undef], []⟩) (fun jj => ([eqV (.slice A n cp), eqV (.slice A n cp), eqV (txt p), (eqV (.int .i64 (k : Int))), eqV (txt p), eqV (txt vl), eqV (.int .i64 z), eqV (.agg (ndc x9).toArray), (NewNd x9 W.heap.size)] : List (Value → World → Prop)).getD jj (fun _ _ => True)) rfl ⟨fun kk => [_, _, _, _, _, _, _, _, _].getD kk undef, rfl⟩ (by kernel_rfl) (by kernel_rfl) ?steps ?fin
 case steps =>
  refine StepsAt.val 0 (.slice A n cp) rfl (fun _ _ => rfl) rfl rfl (fun x wx hb hd => ?_) ?_
  ·(go_simp; try rfl)
  refine StepsAt.val 1 (.slice A n cp) rfl (fun _ _ => rfl) rfl rfl (fun x wx hb hd => ?_) ?_
  ·(go_simp; try rfl)
  refine StepsAt.val 2 (txt p) rfl (fun _ _ => rfl) rfl rfl (fun x wx hb hd => ?_) ?_
  ·have cc := (hb.cell l1).trans C1.out
   (go_simp; try rfl)
  refine StepsAt.cons 3 (fun _ _ _ h hb => h) (fun _ _ => rfl) rfl rfl (fun x wx hb hd K hK => ?_) ?_
  ·have h1 : Hid (x 1 = .slice A n cp) := hd 1 (by kernel_rfl)
   have h2 : Hid (x 2 = txt p) := hd 2 (by kernel_rfl)
   go_simp
   refine calls_args (args2 := #[.slice A n cp, txt p]) (by rw [h1.out, h2.out]) ?_
   refine (plIs l p _ _ ((HR.out.below hb).more hb.size) HL.out HORD.out k HK.out).mono ?_
   rintro e w99 ⟨rfl, hb99⟩
   exact hK.out _ _ hb99 rfl
  refine StepsAt.val 4 (txt p) rfl (fun _ _ => rfl) rfl rfl (fun x wx hb hd => ?_) ?_
  ·have cc := (hb.cell l1).trans C1.out
   (go_simp; try rfl)
  refine StepsAt.val 5 (txt vl) rfl (fun _ _ => rfl) rfl rfl (fun x wx hb hd => ?_) ?_
  ·have cc := (hb.cell l2).trans C2.out
   (go_simp; try rfl)
  refine StepsAt.val 6 (.int .i64 z) rfl (fun _ _ => rfl) rfl rfl (fun x wx hb hd => ?_) ?_
  ·have cc := (hb.cell l3).trans C3.out
   (go_simp; try rfl)
  refine StepsAt.val 7 (.agg (ndc x9).toArray) rfl (fun _ _ => rfl) rfl rfl (fun x wx hb hd => ?_) ?_
  ·have h4 : x 4 = txt p := hd 4 (by kernel_rfl)
   have h5 : x 5 = txt vl := hd 5 (by kernel_rfl)
   have h6 : x 6 = .int .i64 z := hd 6 (by kernel_rfl)
   rw [h4, h5, h6, ← HX9.out]
   (go_simp; try rfl)
  refine StepsAt.cons 8 (fun _ _ _ h hb => h.keep hb) (fun _ _ => rfl) rfl rfl (fun x wx hb hd K hK => ?_) ?_
  ·have h7 : Hid (x 7 = .agg (ndc x9).toArray) := hd 7 (by kernel_rfl)
   have e7 : x 7 = .agg #[txt (nP x9), txt (nV x9), .int .i64 (nR x9), .int .i64 (nO x9)] := h7.out
   go_simp
   rw [← e7]
   exact hK.out (.slice (some ⟨wx.heap.size, 0, none⟩) 1 1) (wx.alloc (.cells (ndc x9).toArray 157)) ((Below.refl _ _).alloc (Nat.le_refl _) _) ⟨_, rfl, heap_alloc_new wx _, hb.size⟩
  exact StepsAt.done
 case fin =>
  intro x wx hb hd
  have hx0 : x 0 = .slice A n cp := hd 0 (by omega)
  have hx3 : x 3 = .int .i64 (k : Int) := hd 3 (by omega)
  have hx8 : NewNd x9 W.heap.size (x 8) wx := hd 8 (by omega)
  obtain ⟨g9, hx8, hx8b, hx8c⟩ := hx8
  have HOx := lhd (HO.out.below hb (Nat.le_refl _))
  have HBx := lhd (hb.mono hB)
  have HG9 := lhd hx8b
  have hBx : base ≤ wx.heap.size := Nat.le_trans hB hb.size
  have hne : (Value.slice A n cp).ownBlock ≠ some g9 := fun e => by
   have := (HOB.out g9 e).2
   omega
  have HI := lhd (insNd_any l x9 k base g9 _ wx hBx HOx.out HL.out HG9.out hne (by rw [← HK.out]; exact posN_le l p))
  rw [hx0, hx3, hx8]
  clear hd hb hx0 hx3 hx8 hx8b hx8c
  refine AnyTill.any (S := fun _ => True) (m := 11) _ _ _ _ ?_
  refine AnyTill.one (i := 9) (by kernel_rfl) rfl (by rfl) (fun K hK => ?_)
  go_simp
  refine HI.out.mono ?_
  rintro e w9 ⟨u9, rfl, ho9, hb9⟩
  refine hK.out _ _ (.inr trivial) ?_
  clear hK K
  refine AnyTill.one (i := 10) (by kernel_rfl) rfl (by rfl) (fun K hK => ?_)
  go_simp
  refine hK.out _ _ (.inr trivial) ?_
  clear hK K
  refine AnyTill.done (by kernel_rfl) ?_
  refine NoPanic.normal ?_
  try dsimp only
  have HO9 := lhd ho9
  have HB9 := lhd (HBx.out.trans hb9)
  clear ho9 hb9
  go_wp2
  go_ret
  exact ⟨_, rfl, HO9.out, HB9.out⟩
theorem shCreate_own (l : List Nd) (p vl : List UInt8) (z : Int) (v : Value) (w : World) (hr : RdNd w.heap.size w v l) (hl : l.length ≤ 100000) (hR : rightN l = true) : Calls Tryz.prog 176 #[.agg #[v], txt p, txt vl, .int .i64 z] w (ShelvesE 157 v (createS l p vl z) (createE l p vl z) w) := by
 have hmf : ∀ (fn : Fn) (first cap : Array Value) (w : World), (Instr.makeFunc fn first cap).run Tryz.prog w = .ok (.func fn first cap) w := fun _ _ _ _ => rfl
 obtain ⟨d30, hu30, hd30⟩ := rowPS
 have HU := lhd hu30
 have HD := lhd hd30
 have HR := lhd hr
 have HL := lhd hl
 have HRT := lhd hR
 clear hR
 clear hr hl hu30 hd30
 go_enter Tryz.func176, Tryz.ntmps176
 go_wp2_with (refine wpList_box_blk rfl 41 _ rfl [v] rfl ?_)
 intro w1 b0 s0 l0
 go_wp2_with (refine wpList_box_one rfl 9 _ rfl (txt p) rfl rfl ?_)
 intro w2 b1 s1 l1
 go_wp2_with (refine wpList_box_one rfl 9 _ rfl (txt vl) rfl rfl ?_)
 intro w3 b2 s2 l2
 go_wp2_with (refine wpList_box_one rfl 3 _ rfl (.int .i64 z) rfl rfl ?_)
 intro w4 b3 s3 l3
 go_wp2_with (refine wpList_alloc_blk rfl 41 rfl [.slice none 0 0] zPS ?_)
 intro W b4 s4 l4
 obtain ⟨g0, hg0⟩ : ∃ g, w.heap.size = g := ⟨_, rfl⟩
 obtain ⟨g1, hg1⟩ : ∃ g, w.heap.size + 1 = g := ⟨_, rfl⟩
 obtain ⟨g2, hg2⟩ : ∃ g, w.heap.size + 1 + 1 = g := ⟨_, rfl⟩
 obtain ⟨g3, hg3⟩ : ∃ g, w.heap.size + 1 + 1 + 1 = g := ⟨_, rfl⟩
 obtain ⟨g4, hg4⟩ : ∃ g, w.heap.size + 1 + 1 + 1 + 1 = g := ⟨_, rfl⟩
 have z1 : w1.heap.size = w.heap.size + 1 := by omega
 have z2 : w2.heap.size = w.heap.size + 2 := by omega
 have z3 : w3.heap.size = w.heap.size + 3 := by omega
 have z4 : w4.heap.size = w.heap.size + 4 := by omega
 have zW : W.heap.size = w.heap.size + 5 := by omega
 have x0 := ((((b0.below l1 (by omega)).below l2 (by omega)).below l3 (by omega)).below l4 (by omega))
 have x1 := (((b1.below l2 (by omega)).below l3 (by omega)).below l4 (by omega))
 have x2 := ((b2.below l3 (by omega)).below l4 (by omega))
 have x3 := (b3.below l4 (by omega))
 have x4 := b4
 have hB : Below w.heap.size w W := ((((l0.trans (l1.mono (by omega))).trans (l2.mono (by omega))).trans (l3.mono (by omega))).trans (l4.mono (by omega)))
 rw [hg4] at x4 ⊢
 rw [hg3] at x3 ⊢
 rw [hg2] at x2 ⊢
 rw [hg1] at x1 ⊢
 rw [hg0] at x0 ⊢
 have X0 := lhd x0
 have X1 := lhd x1
 have X2 := lhd x2
 have X3 := lhd x3
 have X4 := lhd x4
 have HB := lhd hB
 have hgW : g4 < W.heap.size := by omega
 have hW0 : g0 < W.heap.size := by omega
 have hW1 : g1 < W.heap.size := by omega
 have hW2 : g2 < W.heap.size := by omega
 have hW3 : g3 < W.heap.size := by omega
 have hwg : w.heap.size ≤ g4 := by omega
 clear b0 s0 l0 x0 b1 s1 l1 x1 b2 s2 l2 x2 b3 s3 l3 x3 b4 s4 l4 x4 hB zW z1 z2 z3 z4 hg0 hg1 hg2 hg3 hg4
 have C0 := lhd (X0.out.cell 0)
 have C1 := lhd (X1.out.cell 0)
 have C2 := lhd (X2.out.cell 0)
 have C3 := lhd (X3.out.cell 0)
 have HRW : Hid (RdNd W.heap.size W v l) := (HR.out.below HB.out).more HB.out.size
 have ca := C0.out
 go_wp2_with fail
 refine (shChange_any l (insAt l (p, vl, 0, z) (posN l p)) (createS l p vl z) v 204 207 #[.pointer (some ⟨g0, 0, none⟩), .pointer (some ⟨g1, 0, none⟩), .pointer (some ⟨g2, 0, none⟩), .pointer (some ⟨g3, 0, none⟩)] #[.pointer (some ⟨g1, 0, none⟩), .pointer (some ⟨g2, 0, none⟩), .pointer (some ⟨g3, 0, none⟩)] (createE l p vl z) W HRW.out HL.out (fun args w => enters_of Tryz.func204 (by kernel_rfl) rfl args w) (fun args w => enters_of Tryz.func207 (by kernel_rfl) rfl args w) ?h1 ?h2 ?q1 ?q2).mono ?_
 case h1 =>
  intro W1 hW
  have h := crFn_any l p vl z v g0 g1 g2 g3 W1 ((HRW.out.below hW).more hW.size) (Nat.lt_of_lt_of_le hW0 hW.size) (Nat.lt_of_lt_of_le hW1 hW.size) (Nat.lt_of_lt_of_le hW2 hW.size) (Nat.lt_of_lt_of_le hW3 hW.size)
   ((hW.cell hW0).trans C0.out) ((hW.cell hW1).trans C1.out) ((hW.cell hW2).trans C2.out) ((hW.cell hW3).trans C3.out)
  rw [crF_eq l p vl z HRT.out] at h
  exact h
 case h2 =>
  intro hF base u W1 hb1 hb2 hW ho
  exact crEd_any l p vl z base u g1 g2 g3 W1 hb2 ho HL.out ((rightN_iff l).1 HRT.out).order (Nat.lt_of_lt_of_le hW1 hb1) (Nat.lt_of_lt_of_le hW2 hb1) (Nat.lt_of_lt_of_le hW3 hb1) ((hW.cell hW1).trans C1.out) ((hW.cell hW2).trans C2.out) ((hW.cell hW3).trans C3.out)
 case q1 => exact fun h => by rw [(create_ok l p vl z h).2, insN_pos]; rfl
 case q2 => exact fun h => (create_err l p vl z _ rfl h).2
 rintro e w6 ⟨u, rfl, ho, hb⟩
 have HO := lhd ho
 have HB6 := lhd (HB.out.trans (hb.mono HB.out.size))
 have X6 := lhd (X4.out.below hb hgW)
 obtain ⟨A, c, rfl, -, -⟩ := ho.rd.shape
 obtain ⟨F, hF⟩ : ∃ F, (createE l p vl z) = F := ⟨_, rfl⟩
 have HF := lhd hF
 obtain ⟨l9, hl9⟩ : ∃ q, (createS l p vl z) = q := ⟨_, rfl⟩
 have HL9 := lhd hl9
 obtain ⟨n9, hn9⟩ : ∃ q, l9.length = q := ⟨_, rfl⟩
 rw [hl9, hn9] at HO
 rw [hl9, hn9, hF]
 clear ho hb ca hF hl9 hn9
 go_wp2_with (refine wpList_store_to rfl 41 _ _ rfl g4 [.slice A n9 c] [.slice none 0 0] 41 rfl rfl X6.out sPS rfl (slice_one _ _ _) ?_)
 intro w9 e1 e2 e3 e4
 go_wp2
 refine bodyPost_ret (v := .tuple #[.agg [Value.slice A n9 c].toArray, .int .i64 (F : Int)]) ?_ rfl ?_
 ·exact ret_blk2U rfl _ _ g4 41 [.slice A n9 c] _ rfl rfl e1 d30 HU.out HD.out sPS
 ·rw [HF.out, HL9.out]
  have hq := ownsRow_same HO.out (fun k hk => e4 k (by omega))
  exact ⟨_, rfl, OwnNd.rd hq, .inr (OwnNd.base hq (by first | exact Nat.le_refl _ | assumption | omega)), HB6.out.trans (e3.mono hwg)⟩
theorem ret_blk1W {P : Program} {fn : Func} {p : Tmp} {u : Tmp} {ty : TypeId} (h : fn.results = #[.cell p ty, .tmp u]) (tmps : Array Value) (w : World) (g : Nat) (t : TypeId) (cs : List Value) (x : Value)
 (hp : tmps.getD p undef = .pointer (some ⟨g, 0, none⟩)) (hu' : tmps.getD u undef = x) (hb : Blk w g cs t) (d : TypeDesc) (hu : P.underlying ty = some d) (hd : d.isRow = true) (hs : (P.info? ty).map (·.size) = some cs.length) :
 (results fn tmps).run P w = .ok (.tuple #[.agg cs.toArray, x]) w := ret_blk2U h tmps w g t cs x hp hu' hb d hu hd hs
def FiresO (en ee : TypeId) (l : List Wa) (m : List Ev) (w : World) (e : Ending) (w' : World) : Prop := ∃ v u, e = .returned (.tuple #[.agg #[v], u]) ∧ OwnE WaK en w' w.heap.size v l ∧ OwnE EvK ee w' w.heap.size u m ∧ Below w.heap.size w w'
theorem touch_low (c : Ch) (x : Wa) (h : cK c < 1) : touchB c x = false := by unfold touchB; rw [decide_eq_false (show ¬ 1 ≤ cK c by omega)]; rfl
theorem touch_high (c : Ch) (x : Wa) (h : 3 < cK c) : touchB c x = false := by unfold touchB; rw [decide_eq_false (show ¬ cK c ≤ 3 by omega)]; simp
theorem touch_bad (c : Ch) (x : Wa) (h : rightB (cP c) = false) : touchB c x = false := by unfold touchB; rw [h]; simp
theorem touch_here (c : Ch) (x : Wa) (h1 : ¬ cK c < 1) (h2 : ¬ 3 < cK c) (h3 : rightB (cP c) = true) (hk : wK x = false) : touchB c x = decide (cP c = wP x) := by
 unfold touchB
 rw [decide_eq_true (show 1 ≤ cK c by omega), decide_eq_true (show cK c ≤ 3 by omega), h3, hk]
 rfl
theorem touch_kids (c : Ch) (x : Wa) (h1 : ¬ cK c < 1) (h2 : ¬ 3 < cK c) (h3 : rightB (cP c) = true) (hk : wK x = true) : touchB c x = kidsB c x := by
 unfold touchB
 rw [decide_eq_true (show 1 ≤ cK c by omega), decide_eq_true (show cK c ≤ 3 by omega), h3, hk]
 rfl
theorem wpList_alloc_one {P : Program} {w : World} {ops : Array Oper} {rest : List Oper} {o : Oper} {a : Act} {Q : Exit → Act → World → Prop} (hg : o.guard = none) (t : TypeId) (ho : o.op = .alloc t) (z : Value) (hz : (P.info? t).map (·.zero) = some (some z)) (hv : z.cells = #[z])
 (h : ∀ w1, Blk w1 w.heap.size [z] t → w1.heap.size = w.heap.size + 1 → Below w.heap.size w w1 → wpList P ops Q rest (a.put o.dst (.pointer (some ⟨w.heap.size, 0, none⟩))) w1) : wpList P ops Q (o :: rest) a w := by
 refine wpList_plain hg fun K hK => ?_
 have hzero : (zeroValue t).run P w = .ok z w := by
  cases hq : P.info? t with
  | none => simp [hq] at hz
  | some i => simp [hq] at hz; simp [zeroValue, typeInfo, hq, hz]
 unfold Oper.wp execOp
 simp only [ho, hv, Sem.run_bind, Instr.alloc, hzero, newVar, newRow, run_newObj_alloc, Sem.run_pure, Result.andThen_ok]
 exact hK _ _ (h _ (heap_alloc_new w _) (by simp) ((Below.refl _ _).alloc (Nat.le_refl _) _))
theorem wpList_put_one {P : Program} {w : World} {ops : Array Oper} {rest : List Oper} {o : Oper} {a : Act} {Q : Exit → Act → World → Prop} (hg : o.guard = none) (t : TypeId) (x y : Operand) (ho : o.op = .store t x y) (g : Nat) (v old : Value) (u : TypeId)
 (hx : a.eval x = .pointer (some ⟨g, 0, none⟩)) (hy : a.eval y = v) (hb : Blk w g [old] u) (hi : (P.info? t).map (·.size) = some 1) (h1 : v.oneCell' = true)
 (h : ∀ w', Blk w' g [v] u → w'.heap.size = w.heap.size → Below g w w' → (∀ k, k ≠ g → w'.heap[k]? = w.heap[k]?) → wpList P ops Q rest (a.put o.dst undef) w') : wpList P ops Q (o :: rest) a w := by
 subst hy
 refine wpList_store_one hg t x y ho g hx h1 u old hb hi ?_
 exact h _ (Blk.setRow (cs' := [a.eval y]) hb) (by simp [World.setRow]) (below_setRow' (Below.refl _ _) (Nat.le_refl _) _) (fun k hne => setRow_other w g k _ hne)
end Go.Proofs.YtgfobinklijkpaaGreatDoor
