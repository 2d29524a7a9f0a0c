/-
  Rows of lease.Session: slices.Delete of one. Each theorem states its own conditions.
-/
import Derived.Test.YtjcombbmngpkpaaJL0
namespace Go.Proofs.Ytjcombbmngpkpaa
open Go.RowKit

/-- What is left of the row in memory. -/
theorem erased_ownSe {e : TypeId} {W : World} {base g cap : Nat} {l : List Se} {i m : Nat} (hm : l.length = i + 1 + m) (h : OwnE SeK e W base (.slice (some ⟨g, 0, none⟩) (i + 1 + m) cap) l) :
    (∀ j u, (rowsE SeK (l.drop (i + 1)))[j]? = some u → W.cell? ⟨g, (i + 1) * 3 + j, none⟩ = some u) ∧ (∀ j, j < 3 * (i + 1 + m) → (W.cell? ⟨g, j, none⟩).isSome = true ∧ W.frozen? ⟨g, j, none⟩ = false) ∧
    OwnE SeK e ((W.setCells g (i * 3) (rowsE SeK (l.drop (i + 1)))).setCells g ((i + m) * 3) (sec se0)) base (.slice (some ⟨g, 0, none⟩) (i + m) cap) (l.eraseIdx i) ∧
    Below base W ((W.setCells g (i * 3) (rowsE SeK (l.drop (i + 1)))).setCells g ((i + m) * 3) (sec se0)) ∧
    (∀ j, j < 3 → ((W.setCells g (i * 3) (rowsE SeK (l.drop (i + 1)))).cell? ⟨g, (i + m) * 3 + j, none⟩).isSome = true ∧ (W.setCells g (i * 3) (rowsE SeK (l.drop (i + 1)))).frozen? ⟨g, (i + m) * 3 + j, none⟩ = false) := by
  obtain ⟨cur, hb, h2, h4, h5, h6, h7, hn⟩ := ownBlkSe h
  have hcl : cur.toList.length = cap * 3 := by rw [Array.length_toList, h6]
  have hnl : (rowsE SeK (l.drop (i + 1))).length = m * 3 := by rw [rwLenSe, List.length_drop, hm]; omega
  have hc1 : ∀ j, j < 3 * (i + 1 + m) → W.cell? ⟨g, j, none⟩ = (rowsE SeK l)[j]? := by
    intro j hj
    rw [hb.cell j, ← h7, List.getElem?_take, if_pos (by omega)]
  refine ⟨?_, ?_, ?_, below_setCellsE h2 _ _ _ (below_setCellsE h2 _ _ _ (Below.refl _ _)), ?_⟩
  · intro j u hu
    have hj : j < m * 3 := by have := (List.getElem?_eq_some_iff.1 hu).1; rwa [hnl] at this
    rw [hc1 _ (by omega), ← hu]
    have := (rwCutSe l i (by omega)).2
    rw [show i * 3 + 3 = (i + 1) * 3 by omega] at this
    rw [← this, List.getElem?_drop]
  · intro j hj
    rw [hc1 j hj, List.getElem?_eq_getElem (by rw [rwLenSe]; omega)]
    exact ⟨rfl, hb.frozen j⟩
  · have b1 := hb.setCells (rowsE SeK (l.drop (i + 1))) (i * 3) (by rw [hnl, hcl]; omega)
    have hx : (sec se0).length = 3 := rfl
    have hel : (l.eraseIdx i).length = i + m := by rw [List.length_eraseIdx, if_pos (by omega)]; omega
    have t1 := writtenE_more cur.toList (rowsE SeK (l.drop (i + 1))) (i * 3) (by rw [hnl, hcl]; omega)
    have t2 := writtenE_len cur.toList (rowsE SeK (l.drop (i + 1))) (i * 3) (by rw [hnl, hcl]; omega)
    rw [hnl, show i * 3 + m * 3 = (i + m) * 3 by omega] at t1
    have t3 : cur.toList.take (i * 3) ++ rowsE SeK (l.drop (i + 1)) = rowsE SeK (l.eraseIdx i) := by
      rw [eraseE_rows l i]
      congr 1
      rw [← (rwCutSe l i (by omega)).1, ← h7, List.take_take, Nat.min_eq_left (by omega)]
    rw [t3] at t1
    rw [hnl] at t2 b1
    rw [show i * 3 + m * 3 = (i + m) * 3 by omega] at t2 b1
    obtain ⟨C1, hC1⟩ : ∃ C, cur.toList.take (i * 3) ++ (rowsE SeK (l.drop (i + 1)) ++ cur.toList.drop ((i + m) * 3)) = C := ⟨_, rfl⟩
    rw [hC1] at t1 t2 b1
    rw [hcl] at t2
    have b2 := b1.setCells (sec se0) ((i + m) * 3) (by rw [hx, t2]; omega)
    have t4 := (writtenE_take C1 (sec se0) ((i + m) * 3) (by rw [t2]; omega)).trans t1
    have t5 := writtenE_len C1 (sec se0) ((i + m) * 3) (by rw [hx, t2]; omega)
    rw [t2] at t5
    obtain ⟨C2, hC2⟩ : ∃ C, C1.take ((i + m) * 3) ++ (sec se0 ++ C1.drop ((i + m) * 3 + (sec se0).length)) = C := ⟨_, rfl⟩
    rw [hC2] at t4 t5 b2
    have := OwnE.of (E := SeK) (e := e) (base := base) (cap := cap) (l := l.eraseIdx i) C2 b2 h2 (by rw [hel]; omega) h5 t5 (by rw [hel]; exact t4)
    rw [hel] at this
    exact this
  · intro j hj
    have b1 := hb.setCells (rowsE SeK (l.drop (i + 1))) (i * 3) (by rw [hnl, hcl]; omega)
    have t2 := writtenE_len cur.toList (rowsE SeK (l.drop (i + 1))) (i * 3) (by rw [hnl, hcl]; omega)
    rw [hcl] at t2
    obtain ⟨C1, hC1⟩ : ∃ C, cur.toList.take (i * 3) ++ (rowsE SeK (l.drop (i + 1)) ++ cur.toList.drop (i * 3 + (rowsE SeK (l.drop (i + 1))).length)) = C := ⟨_, rfl⟩
    rw [hC1] at b1 t2
    rw [b1.cell, List.getElem?_eq_getElem (by rw [t2]; omega)]
    exact ⟨rfl, b1.frozen _⟩

set_option maxRecDepth 100000 in
set_option maxHeartbeats 4000000 in
/-- slices.Delete of one node, over a row of a call's own. -/
theorem delE_anySe (l : List Se) (i base : Nat) (u : Value) (W : World) (ho : OwnE SeK 56 W base u l) (hi : i < l.length) :
    Calls Try.prog 31 #[u, .int .i64 (i : Int), .int .i64 ((i : Int) + 1)] W (EditsE SeK 56 u base (l.eraseIdx i) W) := by
  obtain ⟨i1, hJ, hy0, hy1, hy2⟩ := infoPSe
  obtain ⟨g, cap, rfl, hcap, hbg, hgW⟩ := ho.inBlock (by omega)
  obtain ⟨m, hm⟩ : ∃ m, l.length = i + 1 + m := ⟨l.length - (i + 1), by omega⟩
  have hcm : cap ≤ maxLen := by
    obtain ⟨_, _, _, _, h5, _⟩ := ownBlkSe ho
    exact h5
  unfold maxLen at hcm
  rw [hm] at hcap ho ⊢
  obtain ⟨q1, q2, q3, q4, q5⟩ := erased_ownSe (W := W.drew) hm ho
  have hnl : (rowsE SeK (l.drop (i + 1))).length = m * 3 := by rw [rwLenSe, List.length_drop, hm]; omega
  obtain ⟨news, hnews⟩ : ∃ news, rowsE SeK (l.drop (i + 1)) = news := ⟨_, rfl⟩
  have h1c : ∀ v ∈ news, v.oneCell' = true := by rw [← hnews]; exact rowsE_cell SeK _
  rw [hnews] at q1 q3 q4 q5 hnl
  have Q1 := Lib.hid q1
  have Q2 := Lib.hid q2
  have Q3 := Lib.hid q3
  have Q4 := Lib.hid q4
  have Q5 := Lib.hid q5
  have HC := Lib.hid h1c
  have HNL := Lib.hid hnl
  clear q1 q2 q3 q4 q5 h1c hnl hnews ho hm hi
  have w1 : IntKind.i64.wrap ((i : Int) + 1) = (i : Int) + 1 := by rw [IntKind.wrap_i64]; omega
  have z1 : ¬ ((i : Int) = (i : Int) + 1) := by omega
  go_enter Try.func31, Try.ntmps31
  go_wp2
  by_cases hci : cap = i + 1
  · subst hci
    have HM0 : Hid (m = 0) := by
      show _ = _
      omega
    have q3 := Q3.out
    have q4 := Q4.out
    have q5 := Q5.out
    rw [HM0.out, Nat.add_zero] at q3 q4 q5
    have Q3b := Lib.hid q3
    have Q4b := Lib.hid q4
    have Q5b := Lib.hid q5
    clear q3 q4 q5
    have hj9 : i + 1 + m - i = 1 := by have := HM0.out; omega
    have hi0 : (i : Int) ≤ (i : Int) + 1 := by omega
    have hic : ¬ ((i + 1) = i) := by omega
    have hi1 : i ≤ (i + 1) := by omega
    have hi2 : i + 1 ≤ i + 1 + m := by omega
    have hi3 : i + 1 ≤ (i + 1) := by omega
    have hi4 : (i : Int) + 1 ≤ (i : Int) + 1 + (m : Int) := by omega
    have hi5 : (0 : Int) ≤ (i : Int) + 1 := by omega
    have hi6 : ((i : Int) + 1).toNat = i + 1 := by omega
    go_region_law (refine step_append_room rfl (.tmp 22) (.tmp 25) 22 rfl 56 i1 3 Try.underlying22 hJ hy1 g 0 i (i + 1) (by simp [Act.eval, Act.put]) ⟨g, 0, none⟩ 0 0 news (by simp [Act.eval, Act.put]) (by rw [HNL.out, HM0.out]) (fun j u hj => by have h := (List.getElem?_eq_some_iff.1 hj).1; rw [HNL.out, HM0.out] at h; omega) HC.out (by omega) (fun j hj => by rw [HNL.out] at hj; rw [Nat.zero_add]; exact Q2.out _ (by omega)) ?_)
    have hj1 : (i : Int) + (m : Int) ≤ (i : Int) + 1 + (m : Int) := by omega
    have hj2 : ¬ ((i + 1) = i + m) := by omega
    have hj3 : (0 : Int) ≤ (i : Int) + (m : Int) := by omega
    have hj4 : ((i : Int) + (m : Int)).toNat = i + m := by omega
    have hj5 : ((i : Int) + 1 + (m : Int)).toNat = i + 1 + m := by omega
    have hj6 : i + 1 + m - (i + m) = 1 := by omega
    have hj7 : i + m ≤ (i + 1) := by omega
    have hj8 : i + 1 + m ≤ (i + 1) := by omega
    go_wp2_with (refine wpList_clearE_run rfl _ 22 rfl _ rfl (run_clearESe _ 22 56 _ i1 Try.underlying22 hJ hy0 g (i * 3) _ Q5b.out) ?_)
    go_wp2
    go_ret
    exact ⟨_, rfl, Q3b.out, ((Below.refl _ _).drew).trans Q4b.out, fun k _ hk => by rw [setCells_otherE g _ _ _ k (fun e => hk (by rw [e]; rfl)), setCells_otherE g _ _ _ k (fun e => hk (by rw [e]; rfl))]; rfl⟩
  · skip
    have hic : ¬ (cap = i) := by omega
    have hi1 : i ≤ cap := by omega
    have hi2 : i + 1 ≤ i + 1 + m := by omega
    have hi3 : i + 1 ≤ cap := by omega
    have hi4 : (i : Int) + 1 ≤ (i : Int) + 1 + (m : Int) := by omega
    have hi5 : (0 : Int) ≤ (i : Int) + 1 := by omega
    have hi6 : ((i : Int) + 1).toNat = i + 1 := by omega
    go_region_law (refine step_append_room rfl (.tmp 22) (.tmp 25) 22 rfl 56 i1 3 Try.underlying22 hJ hy1 g 0 i cap (by simp [Act.eval, Act.put]) ⟨g, (i + 1) * 3, none⟩ m (cap - (i + 1)) news (by simp [Act.eval, Act.put]) HNL.out (fun j u hj => by rw [Addr.add_lit]; exact Q1.out j u hj) HC.out (by omega) (fun j hj => by rw [HNL.out] at hj; rw [Nat.zero_add]; exact Q2.out _ (by omega)) ?_)
    have hj1 : (i : Int) + (m : Int) ≤ (i : Int) + 1 + (m : Int) := by omega
    have hj2 : ¬ (cap = i + m) := by omega
    have hj3 : (0 : Int) ≤ (i : Int) + (m : Int) := by omega
    have hj4 : ((i : Int) + (m : Int)).toNat = i + m := by omega
    have hj5 : ((i : Int) + 1 + (m : Int)).toNat = i + 1 + m := by omega
    have hj6 : i + 1 + m - (i + m) = 1 := by omega
    have hj7 : i + m ≤ cap := by omega
    have hj8 : i + 1 + m ≤ cap := by omega
    go_wp2_with (refine wpList_clearE_run rfl _ 22 rfl _ rfl (run_clearESe _ 22 56 _ i1 Try.underlying22 hJ hy0 g ((i + m) * 3) _ Q5.out) ?_)
    go_wp2
    go_ret
    exact ⟨_, rfl, Q3.out, ((Below.refl _ _).drew).trans Q4.out, fun k _ hk => by rw [setCells_otherE g _ _ _ k (fun e => hk (by rw [e]; rfl)), setCells_otherE g _ _ _ k (fun e => hk (by rw [e]; rfl))]; rfl⟩
end Go.Proofs.Ytjcombbmngpkpaa
