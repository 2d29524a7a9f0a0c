/-
  The program's shelves: a node is put in the middle of a row of one's own. Each theorem states its own conditions.
-/
import Derived.Test.YtlpakfaoaodaiaaDoorGC
namespace Go.Proofs.YtlpakfaoaodaiaaDoor
open Go.RowKit

theorem shape_blk {w : World} {g : Nat} {cs : List Value} {t : TypeId} (h : Blk w g cs t) : w.shape? g = some (t, cs.length) := by
  unfold Blk at h
  unfold World.shape?
  rw [h]
  simp

/-- What a row with room comes to. -/
theorem ins_room {e : TypeId} {W : World} {base g cap m : Nat} {l : List Nd} (x : Nd) (h : OwnNd e W base (.slice (some ⟨g, 0, none⟩) l.length cap) l) (hm : m < l.length) (hr : l.length + 1 ≤ cap) :
    (∀ j u, (nds (l.drop m))[j]? = some u → W.cell? ⟨g, m * 4 + j, none⟩ = some u) ∧
    (∀ j, j < (l.length - m) * 4 → (W.cell? ⟨g, (m + 1) * 4 + j, none⟩).isSome = true ∧ W.frozen? ⟨g, (m + 1) * 4 + j, none⟩ = false) ∧
    (∀ j, j < 4 → ((W.setCells g ((m + 1) * 4) (nds (l.drop m))).cell? ⟨g, m * 4 + j, none⟩).isSome = true ∧ (W.setCells g ((m + 1) * 4) (nds (l.drop m))).frozen? ⟨g, m * 4 + j, none⟩ = false) ∧
    OwnNd e ((W.setCells g ((m + 1) * 4) (nds (l.drop m))).setCells g (m * 4) (ndc x)) base (.slice (some ⟨g, 0, none⟩) (l.length + 1) cap) (insAt l x m) ∧
    Below base W ((W.setCells g ((m + 1) * 4) (nds (l.drop m))).setCells g (m * 4) (ndc x)) ∧ W.shape? g = some (e, cap * 4) := by
  obtain ⟨cur, hb, h2, h4, h5, h6, h7, hn⟩ := h.block
  have hcl : cur.toList.length = cap * 4 := by rw [Array.length_toList, h6]
  have hnl : (nds (l.drop m)).length = (l.length - m) * 4 := by rw [nds_length, List.length_drop]; omega
  have hx : (ndc x).length = 4 := rfl
  have h0 : cur.toList.take (m * 4) = nds (l.take m) := by
    rw [← (nds_cut l m hm).1, ← h7, List.take_take, Nat.min_eq_left (by omega)]
  have b1 := hb.setCells (nds (l.drop m)) ((m + 1) * 4) (by rw [hnl, hcl]; omega)
  obtain ⟨C1, hC1⟩ : ∃ C, cur.toList.take ((m + 1) * 4) ++ (nds (l.drop m) ++ cur.toList.drop ((m + 1) * 4 + (nds (l.drop m)).length)) = C := ⟨_, rfl⟩
  rw [hC1] at b1
  have r1 := ins_row2 cur.toList l x m cap hcl hr (by omega) h0 C1 _ hC1.symm rfl
  have b2 := b1.setCells (ndc x) (m * 4) (by rw [hx, r1.1]; omega)
  obtain ⟨C2, hC2⟩ : ∃ C, C1.take (m * 4) ++ (ndc x ++ C1.drop (m * 4 + (ndc x).length)) = C := ⟨_, rfl⟩
  rw [hC2] at b2
  have r2 := ins_row2 cur.toList l x m cap hcl hr (by omega) h0 C1 C2 hC1.symm hC2.symm
  refine ⟨?_, ?_, ?_, ?_, below_setCells h2 _ _ _ (below_setCells h2 _ _ _ (Below.refl _ _)), ?_⟩
  · intro j u hu
    have hj : j < (l.length - m) * 4 := by have := (List.getElem?_eq_some_iff.1 hu).1; rwa [hnl] at this
    have e0 : nds l = nds (l.take m) ++ nds (l.drop m) := by rw [← nds_append, List.take_append_drop]
    have hl0 : (nds (l.take m)).length = m * 4 := by rw [nds_length, List.length_take]; omega
    have : (cur.toList.take (l.length * 4))[m * 4 + j]? = some u := by
      rw [h7, e0, List.getElem?_append_right (by omega), hl0, Nat.add_sub_cancel_left]
      exact hu
    rw [List.getElem?_take, if_pos (by omega)] at this
    exact (hb.cell _).trans this
  · intro j hj
    rw [hb.cell, List.getElem?_eq_getElem (by rw [hcl]; omega)]
    exact ⟨rfl, hb.frozen _⟩
  · intro j hj
    rw [b1.cell, List.getElem?_eq_getElem (by rw [r1.1]; omega)]
    exact ⟨rfl, b1.frozen _⟩
  · have := OwnNd.of (e := e) (base := base) (cap := cap) (l := insAt l x m) C2 b2 h2 (by unfold insAt; rw [ins_len l x m (by omega)]; exact hr) h5 r2.2.1 (by unfold insAt; rw [ins_len l x m (by omega)]; exact r2.2.2)
    unfold insAt at this ⊢
    rw [ins_len l x m (by omega)] at this
    exact this
  · have := shape_blk hb
    rw [hcl] at this
    exact this

set_option maxRecDepth 100000 in
set_option maxHeartbeats 4000000 in
/-- slices.Insert where there is room. -/
theorem insRoom_any (l : List Nd) (x : Nd) (m base gv g cap : Nat) (W : World) (ho : OwnNd 53 W base (.slice (some ⟨g, 0, none⟩) l.length cap) l) (hl : l.length ≤ 100000) (hv : Blk W gv (ndc x) 53) (hne : gv ≠ g) (hm : m < l.length) (hr : l.length + 1 ≤ cap) (_hcm : cap ≤ 9223372036854775807) :
    Calls Tryd.prog 44 #[.slice (some ⟨g, 0, none⟩) l.length cap, .int .i64 (m : Int), .slice (some ⟨gv, 0, none⟩) 1 1] W (EditsTo base (insAt l x m) W) := by
  obtain ⟨i1, hJ, hy0, hy1, hy2⟩ := info_partsPN
  obtain ⟨q1, q2, q3, q4, q5, q6⟩ := ins_room (W := W.drew) x ho hm hr
  have hnl : (nds (l.drop m)).length = (l.length - m) * 4 := by rw [nds_length, List.length_drop]; omega
  obtain ⟨n, hn⟩ : ∃ n, l.length = n := ⟨_, rfl⟩
  obtain ⟨tl, htl⟩ : ∃ t, nds (l.drop m) = t := ⟨_, rfl⟩
  have h1t : ∀ v ∈ tl, v.oneCell' = true := by rw [← htl]; exact nds_cell _
  rw [hn] at q2 q4 hnl hm hr hl ⊢
  rw [htl] at q1 q3 q4 q5 hnl
  have hov : ∀ lb cb, (callFunc 67 #[.slice (some ⟨gv, 0, none⟩) 1 1, .slice (some ⟨g, (m + 1) * 4, none⟩) lb cb]).run Tryd.prog W = .ok (.value (.bool false)) W := fun lb cb => by
    rw [run_callFunc_extern Tryd.func67 (by kernel_rfl) (by kernel_rfl) (by kernel_rfl) (e := Extern.SlicesOverlaps.overlaps #[22, 22] #[4]) (by kernel_rfl),
      Lib.run_overlaps_apart W 22 4 53 Tryd.underlying22 4 Tryd.sizeOf53 ⟨gv, 0, none⟩ ⟨g, (m + 1) * 4, none⟩ 1 1 lb cb hne 53 53 4 (cap * 4) (shape_blk hv) q6 (by omega) (hv.frozen 0) (hv.frozen 4)]
    rfl
  have hcp1 : ∀ ty dl dc sl sc, Nat.min sl dl = n - m → (Builtin.copy_ #[22, 22] ty #[.slice (some ⟨g, (m + 1) * 4, none⟩) dl dc, .slice (some ⟨g, m * 4, none⟩) sl sc]).run Tryd.prog W.drew = .ok (goInt (Nat.min sl dl)) (W.drew.setCells g ((m + 1) * 4) tl) := fun ty dl dc sl sc hmn =>
    run_copy_nds W.drew _ _ ty 53 g ((m + 1) * 4) dl dc ⟨g, m * 4, none⟩ sl sc tl Tryd.underlying22 sPN (by rw [hnl, hmn]) (fun j v hj => by rw [Addr.add_lit]; exact q1 j v hj) (fun j hj => q2 j (by rwa [hnl] at hj)) h1t
  have hvx : ∀ j v, (ndc x)[j]? = some v → (W.drew.setCells g ((m + 1) * 4) tl).cell? ⟨gv, j, none⟩ = some v := fun j v hj => by
    rw [World.cell?_setCells_out g _ _ _ _ (fun h => absurd h hne)]
    exact (hv.cell j).trans hj
  have hcp2 : ∀ ty dl dc, 1 ≤ dl → (Builtin.copy_ #[22, 22] ty #[.slice (some ⟨g, m * 4, none⟩) dl dc, .slice (some ⟨gv, 0, none⟩) 1 1]).run Tryd.prog (W.drew.setCells g ((m + 1) * 4) tl) = .ok (goInt (Nat.min 1 dl)) ((W.drew.setCells g ((m + 1) * 4) tl).setCells g (m * 4) (ndc x)) := fun ty dl dc hd =>
    run_copy_nds _ _ _ ty 53 g (m * 4) dl dc ⟨gv, 0, none⟩ 1 1 (ndc x) Tryd.underlying22 sPN (by rw [show Nat.min 1 dl = 1 from Nat.min_eq_left hd]; rfl) (fun j v hj => by rw [Addr.add_lit, Nat.zero_add]; exact hvx j v hj) q3 (fun v hv => nds_cell [x] v (by rw [nds_one]; exact hv))
  have HC1 := Lib.hid hcp1
  have HC2 := Lib.hid hcp2
  have HO := Lib.hid q4
  have HB := Lib.hid (((Below.refl base W).drew).trans q5)
  obtain ⟨L, hL⟩ : ∃ L, insAt l x m = L := ⟨_, rfl⟩
  rw [hL] at HO ⊢
  clear hcp1 hcp2 q1 q2 q3 q4 q5 q6 hvx h1t hnl htl hn ho hv hL
  have w1 : IntKind.i64.wrap ((m : Int) + 1) = (m : Int) + 1 := by rw [IntKind.wrap_i64]; omega
  have w2 : IntKind.i64.wrap ((n : Int) + 1) = (n : Int) + 1 := by rw [IntKind.wrap_i64]; omega
  have z2 : ¬ ((m : Int) = (n : Int)) := by omega
  have z3 : ¬ ((cap : Int) < (n : Int) + 1) := by omega
  have b1 : (0 : Int) ≤ (m : Int) + 1 := by omega
  have b2 : ((m : Int) + 1).toNat = m + 1 := by omega
  have b3 : (m : Int) ≤ (n : Int) := by omega
  have b4 : ¬ (cap = m) := by omega
  have b5 : ¬ (cap = m + 1) := by omega
  have b6 : ((n : Int) + 1).toNat = n + 1 := by omega
  have b7 : (m : Int) ≤ (n : Int) + 1 := by omega
  have b8 : (m : Int) + 1 ≤ (n : Int) + 1 := by omega
  have b9 : n + 1 ≤ cap := by omega
  go_enter Tryd.func44, Tryd.ntmps44
  go_wp2_with (simp only [hov])
  go_region_law (refine step_copy_run rfl _ _ 22 22 rfl (.slice (some ⟨g, (m + 1) * 4, none⟩) (n - m) (cap - (m + 1))) (.slice (some ⟨g, m * 4, none⟩) (n + 1 - m) (cap - m)) (by simp [Act.eval, Act.put]) (by simp [Act.eval, Act.put]) (HC1.out _ (n - m) (cap - (m + 1)) (n + 1 - m) (cap - m) (by simp only [Nat.min_def]; split <;> omega)) ?_)
  go_wp2_with (refine wpList_copy_run rfl _ _ 22 22 rfl _ _ rfl rfl (HC2.out _ (n + 1 - m) (cap - m) (by omega)) ?_)
  go_ret
  exact ⟨_, rfl, HO.out, HB.out⟩
end Go.Proofs.YtlpakfaoaodaiaaDoor
