/-
  The program's shelves: a node is put in the middle of a row of one's own that is full. Each theorem states its own conditions.
-/
import Derived.Test.YtlpakfaoaodaiaaDoorGD
namespace Go.Proofs.YtlpakfaoaodaiaaDoor
open Go.RowKit

/-- What a full row comes to, in a new block. -/
theorem ins_grow {e : TypeId} {V : World} {base N G m : Nat} {l : List Nd} (x : Nd) (C : List Value) (hb : Blk V N C e) (hC : C.length = G * 4) (h0 : C.take (m * 4) = nds (l.take m)) (hbN : base ≤ N) (hG : G ≤ maxLen) (hm : m < l.length) (hr : l.length + 1 ≤ G) :
    (∀ j, j < 4 → (V.cell? ⟨N, m * 4 + j, none⟩).isSome = true ∧ V.frozen? ⟨N, m * 4 + j, none⟩ = false) ∧
    (∀ j, j < (l.length - m) * 4 → ((V.setCells N (m * 4) (ndc x)).cell? ⟨N, (m + 1) * 4 + j, none⟩).isSome = true ∧ (V.setCells N (m * 4) (ndc x)).frozen? ⟨N, (m + 1) * 4 + j, none⟩ = false) ∧
    OwnNd e ((V.setCells N (m * 4) (ndc x)).setCells N ((m + 1) * 4) (nds (l.drop m))) base (.slice (some ⟨N, 0, none⟩) (l.length + 1) G) (insAt l x m) ∧
    Below N V ((V.setCells N (m * 4) (ndc x)).setCells N ((m + 1) * 4) (nds (l.drop m))) := by
  have hnl : (nds (l.drop m)).length = (l.length - m) * 4 := by rw [nds_length, List.length_drop]; omega
  have hx : (ndc x).length = 4 := rfl
  have b1 := hb.setCells (ndc x) (m * 4) (by rw [hx, hC]; omega)
  obtain ⟨C1, hC1⟩ : ∃ D, C.take (m * 4) ++ (ndc x ++ C.drop (m * 4 + (ndc x).length)) = D := ⟨_, rfl⟩
  rw [hC1] at b1
  have r1 := ins_row1 C l x m G hC hr (by omega) h0 C1 _ hC1.symm rfl
  have b2 := b1.setCells (nds (l.drop m)) ((m + 1) * 4) (by rw [hnl, r1.1]; omega)
  obtain ⟨C2, hC2⟩ : ∃ D, C1.take ((m + 1) * 4) ++ (nds (l.drop m) ++ C1.drop ((m + 1) * 4 + (nds (l.drop m)).length)) = D := ⟨_, rfl⟩
  rw [hC2] at b2
  have r2 := ins_row1 C l x m G hC hr (by omega) h0 C1 C2 hC1.symm hC2.symm
  refine ⟨?_, ?_, ?_, below_setCells (Nat.le_refl _) _ _ _ (below_setCells (Nat.le_refl _) _ _ _ (Below.refl _ _))⟩
  · intro j hj
    rw [hb.cell, List.getElem?_eq_getElem (by rw [hC]; omega)]
    exact ⟨rfl, hb.frozen _⟩
  · intro j hj
    rw [b1.cell, List.getElem?_eq_getElem (by rw [r1.1]; omega)]
    exact ⟨rfl, b1.frozen _⟩
  · have := OwnNd.of (e := e) (base := base) (cap := G) (l := insAt l x m) C2 b2 hbN (by unfold insAt; rw [ins_len l x m (by omega)]; exact hr) hG r2.2.1 (by unfold insAt; rw [ins_len l x m (by omega)]; exact r2.2.2)
    unfold insAt at this ⊢
    rw [ins_len l x m (by omega)] at this
    exact this

theorem drew_cells (b : Nat) : ∀ (vs : List Value) (o : Nat) (w : World), (w.setCells b o vs).drew = w.drew.setCells b o vs
  | [], _, _ => rfl
  | v :: r, o, w => by
    rw [World.setCells, World.setCells, drew_cells b r]
    rfl

set_option maxRecDepth 100000 in
set_option maxHeartbeats 4000000 in
/-- slices.Insert where there is no room. -/
theorem insGrow_any (l : List Nd) (x : Nd) (m base gv g cap : Nat) (W : World) (hB : base ≤ W.heap.size) (ho : OwnNd 53 W base (.slice (some ⟨g, 0, none⟩) l.length cap) l) (hl : l.length ≤ 100000) (hv : Blk W gv (ndc x) 53) (hm : m < l.length) (hr : cap < l.length + 1) :
    Calls Tryd.prog 44 #[.slice (some ⟨g, 0, none⟩) l.length cap, .int .i64 (m : Int), .slice (some ⟨gv, 0, none⟩) 1 1] W (EditsTo base (insAt l x m) W) := by
  obtain ⟨i1, hJ, hy0, hy1, hy2⟩ := info_partsPN
  obtain ⟨cur, hbk, k2, k4, k5, k6, k7, kn⟩ := ho.block
  obtain rfl : cap = l.length := by omega
  have hcl : cur.toList.length = l.length * 4 := by rw [Array.length_toList, k6]
  have hcur : cur.toList = nds l := by rw [← k7, List.take_of_length_le (by rw [hcl]; omega)]
  rw [hcur] at hbk
  have hgW := hbk.lt
  have hvW := hv.lt
  obtain ⟨n, hn⟩ : ∃ n, l.length = n := ⟨_, rfl⟩
  obtain ⟨N, hN⟩ : ∃ N, W.heap.size = N := ⟨_, rfl⟩
  have ht0 : (nds (l.take m)).length = m * 4 := by rw [nds_length, List.length_take]; omega
  have hold : (Builtin.firstCells i1.size m (.slice (some ⟨g, 0, none⟩) m n)).run Tryd.prog W.drew = .ok (nds (l.take m)).toArray W.drew := by
    rw [hy1]
    refine run_firstCells_some (P := Tryd.prog) W.drew 4 m ⟨g, 0, none⟩ m n (nds (l.take m)) ht0 (fun j v hj => ?_)
    have hj4 : j < m * 4 := by have := (List.getElem?_eq_some_iff.1 hj).1; rwa [ht0] at this
    have hadd : (⟨g, 0, none⟩ : Addr).add j = ⟨g, j, none⟩ := by unfold Addr.add; split <;> simp_all
    rw [hadd]
    refine (hbk.cell j).trans ?_
    have e0 : nds l = nds (l.take m) ++ nds (l.drop m) := by rw [← nds_append, List.take_append_drop]
    rw [e0, List.getElem?_append_left (by omega)]
    exact hj
  have hrz := fun ty => Lib.run_append_grow_zeros (P := Tryd.prog) W 22 3 ty 53 i1 ndz .i64 .i64 Tryd.underlying22 Tryd.underlying3 hJ hy0 (some ⟨g, 0, none⟩) m n (nds (l.take m)) hold (n + 1 - m) (by omega) (by omega) (by omega) (by omega) (by rw [hy2]; omega) (by rw [hy2]; exact growslice_fits (by omega) (by omega))
  rw [show m + (n + 1 - m) = n + 1 by omega] at hrz
  obtain ⟨G, hG⟩ : ∃ G, grownCap W (n + 1) n 53 = G := ⟨_, rfl⟩
  have hG1 : n + 1 ≤ G := by rw [← hG]; exact grownCap_ge W _ _ _
  have hG2 : G ≤ maxLen := by rw [← hG]; exact grownCap_le_maxLen W _ _ _ (by unfold maxLen; omega)
  rw [hG] at hrz
  obtain ⟨ROW, hROW⟩ : ∃ R : Array Value, (nds (l.take m)).toArray ++ Builtin.zeroCells ndz.cells (n + 1 - m) ++ Builtin.zeroCells ndz.cells (G - (n + 1)) = R := ⟨_, rfl⟩
  rw [hROW] at hrz
  have hz4 : ∀ k, (Builtin.zeroCells ndz.cells k).size = k * 4 := fun k => by rw [size_zeroCells]; rfl
  have hRl : ROW.toList.length = G * 4 := by
    rw [← hROW]
    simp only [Array.toList_append, List.length_append, Array.length_toList, hz4, ht0]
    omega
  have hR0 : ROW.toList.take (m * 4) = nds (l.take m) := by
    rw [← hROW]
    simp only [Array.toList_append, List.append_assoc]
    exact List.take_left' ht0
  obtain ⟨V, hV⟩ : ∃ V, W.drew.alloc (.cells ROW 53) = V := ⟨_, rfl⟩
  have hbN : Blk V.drew N ROW.toList 53 := by
    rw [← hN, ← hV]
    exact heap_alloc_new W.drew (.cells ROW 53)
  have hgV : Blk V g (nds l) 53 := by
    rw [← hV]
    exact hbk.drew.alloc (.cells ROW 53)
  have hvV : Blk V gv (ndc x) 53 := by
    rw [← hV]
    exact hv.drew.alloc (.cells ROW 53)
  have hWV : Below N W V.drew := by
    rw [← hV]
    exact (((Below.refl N W).drew).alloc (by show N ≤ W.heap.size; omega) _).drew
  obtain ⟨q1, q2, q3, q4⟩ := ins_grow (l := l) x ROW.toList hbN hRl hR0 (show base ≤ N by omega) hG2 hm (by omega)
  have hnl : (nds (l.drop m)).length = (l.length - m) * 4 := by rw [nds_length, List.length_drop]; omega
  obtain ⟨tl, htl⟩ : ∃ t, nds (l.drop m) = t := ⟨_, rfl⟩
  have h1t : ∀ v ∈ tl, v.oneCell' = true := by rw [← htl]; exact nds_cell _
  have htc : ∀ j u, tl[j]? = some u → V.cell? ⟨g, m * 4 + j, none⟩ = some u := fun j u hu => by
    refine (hgV.cell _).trans ?_
    have e0 : nds l = nds (l.take m) ++ nds (l.drop m) := by rw [← nds_append, List.take_append_drop]
    rw [e0, List.getElem?_append_right (by omega), ht0, Nat.add_sub_cancel_left, htl]
    exact hu
  rw [htl] at q3 q4 hnl
  rw [hn] at q2 q3 hnl hm hl ⊢
  unfold maxLen at hG2
  have hrzz := fun ty => hrz ty
  rw [hN, hV] at hrzz
  have HRZ := Lib.hid hrzz
  have hcp1 : ∀ ty dl dc, 1 ≤ dl → (Builtin.copy_ #[22, 22] ty #[.slice (some ⟨N, m * 4, none⟩) dl dc, .slice (some ⟨gv, 0, none⟩) 1 1]).run Tryd.prog V = .ok (goInt (Nat.min 1 dl)) (V.setCells N (m * 4) (ndc x)) := fun ty dl dc hd =>
    run_copy_nds _ _ _ ty 53 N (m * 4) dl dc ⟨gv, 0, none⟩ 1 1 (ndc x) Tryd.underlying22 sPN (by rw [show Nat.min 1 dl = 1 from Nat.min_eq_left hd]; rfl) (fun j v hj => by rw [Addr.add_lit, Nat.zero_add]; exact (hvV.cell j).trans hj) q1 (fun v hv => nds_cell [x] v (by rw [nds_one]; exact hv))
  have hcp2 : ∀ ty dl dc sl sc, Nat.min sl dl = n - m → (Builtin.copy_ #[22, 22] ty #[.slice (some ⟨N, (m + 1) * 4, none⟩) dl dc, .slice (some ⟨g, m * 4, none⟩) sl sc]).run Tryd.prog (V.setCells N (m * 4) (ndc x)).drew = .ok (goInt (Nat.min sl dl)) ((V.setCells N (m * 4) (ndc x)).drew.setCells N ((m + 1) * 4) tl) := fun ty dl dc sl sc hmn => by
    rw [drew_cells]
    exact run_copy_nds _ _ _ ty 53 N ((m + 1) * 4) dl dc ⟨g, m * 4, none⟩ sl sc tl Tryd.underlying22 sPN (by rw [hnl, hmn]) (fun j v hj => by rw [Addr.add_lit, World.cell?_setCells_out N _ _ _ _ (fun h => absurd h (by show g ≠ N; omega))]; exact htc j v hj) (fun j hj => q2 j (by rwa [hnl] at hj)) h1t
  have HC1 := Lib.hid hcp1
  have HC2 := Lib.hid hcp2
  have HO : Hid (OwnNd 53 ((V.setCells N (m * 4) (ndc x)).drew.setCells N ((m + 1) * 4) tl) base (.slice (some ⟨N, 0, none⟩) (n + 1) G) (insAt l x m)) := by
    rw [drew_cells]
    exact q3
  have HB : Hid (Below base W ((V.setCells N (m * 4) (ndc x)).drew.setCells N ((m + 1) * 4) tl)) := by
    rw [drew_cells]
    exact (hWV.mono (by omega)).trans (q4.mono (by omega))
  obtain ⟨L, hL⟩ : ∃ L, insAt l x m = L := ⟨_, rfl⟩
  rw [hL] at HO ⊢
  clear hrz hrzz hold hcp1 hcp2 q1 q2 q3 q4 htc h1t hnl htl hn ho hv hL hbk hcur hcl hgV hvV hWV hbN hR0 hRl hROW hG ht0 kn hN k7 k6 k5 k4 k2 hV hgW hvW
  have w1 : IntKind.i64.wrap ((m : Int) + 1) = (m : Int) + 1 := by rw [IntKind.wrap_i64]; omega
  have w2 : IntKind.i64.wrap ((n : Int) + 1) = (n : Int) + 1 := by rw [IntKind.wrap_i64]; omega
  have w3 : IntKind.i64.wrap ((n : Int) + 1 - (m : Int)) = (n : Int) + 1 - (m : Int) := by rw [IntKind.wrap_i64]; omega
  have z2 : ¬ ((m : Int) = (n : Int)) := by omega
  have z3 : (n : Int) < (n : Int) + 1 := by omega
  have b1 : (0 : Int) ≤ (m : Int) + 1 := by omega
  have b2 : ((m : Int) + 1).toNat = m + 1 := by omega
  have b3 : (m : Int) ≤ (n : Int) := by omega
  have b4 : ¬ (n = m) := by omega
  have b6 : ((n : Int) + 1).toNat = n + 1 := by omega
  have b7 : (m : Int) ≤ (n : Int) + 1 := by omega
  have b8 : (m : Int) + 1 ≤ (n : Int) + 1 := by omega
  have b10 : m ≤ n := by omega
  have b11 : ¬ (G = m) := by omega
  have b12 : ¬ (G = m + 1) := by omega
  have b13 : m ≤ G := by omega
  have b14 : m + 1 ≤ G := by omega
  have hkk : (n : Int) + 1 - (m : Int) = ((n + 1 - m : Nat) : Int) := by omega
  have HKK := Lib.hid hkk
  clear hkk
  go_enter Tryd.func44, Tryd.ntmps44
  go_wp2_with (first
    | (at_builtin; refine Lib.wpList_append_run _ rfl _ _ 22 3 rfl (.slice (some ⟨g, 0, none⟩) m n) (.int .i64 ((n + 1 - m : Nat) : Int)) rfl (by rw [← HKK.out]; rfl) _ _ (HRZ.out _) ?_)
    | (refine wpList_copy_run rfl _ _ 22 22 rfl _ _ rfl rfl (HC1.out _ (n + 1 - m) (G - m) (by omega)) ?_))
  go_region_law (refine step_copy_run rfl _ _ 22 22 rfl (.slice (some ⟨N, (m + 1) * 4, none⟩) (n - m) (G - (m + 1))) (.slice (some ⟨g, m * 4, none⟩) (n - m) (n - m)) (by simp [Act.eval, Act.put]) (by simp [Act.eval, Act.put]) (HC2.out _ (n - m) (G - (m + 1)) (n - m) (n - m) (by simp only [Nat.min_def]; split <;> omega)) ?_)
  go_wp2
  go_ret
  exact ⟨_, rfl, HO.out, HB.out⟩
end Go.Proofs.YtlpakfaoaodaiaaDoor
