/-
  The program's watches: slices.IndexFunc, slices.DeleteFunc with any test. Each theorem states its own conditions.
-/
import Derived.Test.YtmiomfonglmfjaaUI
namespace Go.Proofs.Ytmiomfonglmfjaa
open Go.RowKit

/-- The call answers the first place where the test says yes, or -1. -/
def IdxF (q : Wa → Bool) (l : List Wa) (w : World) (e : Ending) (w' : World) : Prop := ∃ z : Int, e = .returned (.int .i64 z) ∧ (z = if l.findIdx q < l.length then ((l.findIdx q : Nat) : Int) else -1) ∧ Below w.heap.size w w'
theorem find_here (q : Wa → Bool) (l : List Wa) (i : Nat) (hi : i < l.length) (hq : q (l.getD i wa0) = true) (h : ∀ j, j < i → q (l.getD j wa0) = false) : l.findIdx q = i := by
  have e : ∀ j (hj : j < l.length), l.getD j wa0 = l[j] := fun j hj => by rw [List.getD_eq_getElem?_getD, List.getElem?_eq_getElem hj]; rfl
  rw [List.findIdx_eq hi]
  refine ⟨by rw [← e i hi]; exact hq, fun j hj => ?_⟩
  rw [← e j (by omega)]
  simpa using h j hj
theorem find_none (q : Wa → Bool) (l : List Wa) (h : ∀ j, j < l.length → q (l.getD j wa0) = false) : l.findIdx q = l.length := by
  have e : ∀ j (hj : j < l.length), l.getD j wa0 = l[j] := fun j hj => by rw [List.getD_eq_getElem?_getD, List.getElem?_eq_getElem hj]; rfl
  rw [List.findIdx_eq_length]
  intro x hx
  obtain ⟨j, hj, rfl⟩ := List.getElem_of_mem hx
  rw [← e j hj]
  exact h j hj

set_option maxRecDepth 100000 in
set_option maxHeartbeats 4000000 in
theorem indexFunc_any (q : Wa → Bool) (l : List Wa) (v fv : Value) (p r : Nat) (w : World) (hr : RdE WaK w.heap.size w v l) (ht : Tests q fv p r w) (hpr : r ≤ w.heap.size) : Calls Try.prog 49 #[v, fv] w (IdxF q l w) := by
  obtain ⟨A, cp, rfl, hc, hm⟩ := hr.shape
  unfold maxLen at hm
  obtain ⟨f, lb, rfl, ef, hf⟩ := ht
  have HT : Hid (∀ W, Below w.heap.size w W → ∀ x : Wa, Calls Try.prog f (#[.agg #[txt (wP x), .int .i64 (wC x), .bool (wK x)]] ++ lb) W (One (.bool (q x)) W)) := fun W hW x => hf W (fun k _ k2 => hW.block k (by omega)) x
  obtain ⟨n, hn⟩ : ∃ n, l.length = n := ⟨_, rfl⟩
  have HN := Lib.hid hn
  have HR := Lib.hid hr
  rw [hn] at hc HR ⊢
  clear hr hn hf
  go_enter Try.func49, Try.ntmps49
  go_wp2
  go_loopw [5, 8] (fun _ x wr => ∃ i : Nat, i ≤ n ∧ x = .int .i64 (i : Int) ∧ Hid (∀ j, j < i → q (l.getD j wa0) = false) ∧ Hid (Below w.heap.size w wr)) (fun _ x _ => n - (intOf x).toNat)
  case atStart => exact ⟨0, by omega, rfl, fun j hj => by omega, Below.refl _ _⟩
  case round =>
    obtain ⟨i, hi, rfl, HA, HW⟩ := hrel
    by_cases hi2 : i < n
    · have zi : (i : Int) < (n : Int) := by omega
      obtain ⟨a, hA, c0, c1, c2⟩ := (HR.out.below HW.out).atWa i (by rw [HN.out]; exact hi2)
      subst hA
      obtain ⟨x, hx⟩ : ∃ x, l.getD i wa0 = x := ⟨_, rfl⟩
      rw [hx] at c0 c1 c2
      have hcall := HT.out wr HW.out x
      obtain ⟨B, hB⟩ : ∃ B, q x = B := ⟨_, rfl⟩
      rw [hB] at hcall
      have HC := Lib.hid hcall
      have HX := Lib.hid hx
      have HBB := Lib.hid hB
      clear hcall hx hB
      go_wp2_with fail
      refine HC.out.mono ?_
      rintro e w2 ⟨rfl, hb⟩
      have HW2 := Lib.hid (HW.out.trans (hb.mono HW.out.size))
      clear hb c0 c1 c2
      cases B
      · have HA2 : Hid (∀ j, j < i + 1 → q (l.getD j wa0) = false) := by
          intro j hj
          by_cases h : j < i
          · exact HA.out j h
          · have : j = i := by omega
            subst this
            rw [HX.out]
            exact HBB.out
        go_wp2
        go_roundw
        case rel => exact ⟨i + 1, by omega, by go_num, HA2, HW2⟩
        case measure => simp [intOf]; omega
      · have HE := Lib.hid (find_here q l i (by rw [HN.out]; exact hi2) (by rw [HX.out]; exact HBB.out) HA.out)
        go_wp2
        go_ret
        exact ⟨(i : Int), rfl, by rw [HE.out, HN.out, if_pos hi2], HW2.out⟩
    · have hE : i = n := by omega
      subst hE
      have HE := Lib.hid (find_none q l (by rw [HN.out]; exact HA.out))
      go_wp2
      go_ret
      exact ⟨-1, rfl, by rw [HE.out, if_neg (by omega)], HW.out⟩

/-- What the row holds while it is gone through. -/
structure KeptW (q : Wa → Bool) (l L : List Wa) (i j : Nat) : Prop where
  len : L.length = l.length
  lt : i < j
  le : j ≤ l.length
  done : L.take i = (l.take j).filter fun x => !q x
  rest : L.drop j = l.drop j
theorem kept_start (q : Wa → Bool) (l : List Wa) (h : l.findIdx q < l.length) : KeptW q l l (l.findIdx q) (l.findIdx q + 1) := by
  refine ⟨rfl, by omega, by omega, ?_, rfl⟩
  have e : ∀ j (hj : j < l.length), l.getD j wa0 = l[j] := fun j hj => by rw [List.getD_eq_getElem?_getD, List.getElem?_eq_getElem hj]; rfl
  rw [take_snocW l wa0 _ h, List.filter_append, List.filter_cons_of_neg, List.filter_nil, List.append_nil]
  · symm
    rw [List.filter_eq_self]
    intro x hx
    obtain ⟨j, hj, rfl⟩ := List.mem_take_iff_getElem.1 hx
    have := List.not_of_lt_findIdx (p := q) (xs := l) (i := j) (by omega)
    simpa using this
  · rw [e _ h]
    have := List.findIdx_getElem (w := h)
    rw [this]; simp
theorem kept_at {q : Wa → Bool} {l L : List Wa} {i j : Nat} (h : KeptW q l L i j) (_hj : j < l.length) : L.getD j wa0 = l.getD j wa0 := by
  have e := congrArg (fun m => m.getD 0 wa0) h.rest
  simp only [List.getD_eq_getElem?_getD, List.getElem?_drop, Nat.add_zero] at e
  rw [List.getD_eq_getElem?_getD, List.getD_eq_getElem?_getD, e]
theorem kept_skip {q : Wa → Bool} {l L : List Wa} {i j : Nat} (h : KeptW q l L i j) (hj : j < l.length) (hq : q (l.getD j wa0) = true) : KeptW q l L i (j + 1) := by
  refine ⟨h.len, by have := h.lt; omega, by omega, ?_, ?_⟩
  · rw [take_snocW l wa0 j hj, List.filter_append, ← h.done, List.filter_cons_of_neg (by rw [hq]; simp), List.filter_nil, List.append_nil]
  · rw [← List.drop_drop, ← List.drop_drop, h.rest]
theorem kept_move {q : Wa → Bool} {l L : List Wa} {i j : Nat} (h : KeptW q l L i j) (hj : j < l.length) (hq : q (l.getD j wa0) = false) : KeptW q l (L.set i (l.getD j wa0)) (i + 1) (j + 1) := by
  have hl := h.lt
  have hn := h.len
  refine ⟨by rw [List.length_set]; exact h.len, by omega, by omega, ?_, ?_⟩
  · rw [take_snocW l wa0 j hj, List.filter_append, ← h.done, List.filter_cons_of_pos (by rw [hq]; rfl), List.filter_nil]
    rw [take_snocW (L.set i (l.getD j wa0)) wa0 i (by rw [List.length_set]; omega), getD_setE L i _ wa0 (by omega), List.take_set_of_le (Nat.le_refl _)]
  · rw [List.drop_set_of_lt (by omega), ← List.drop_drop, ← List.drop_drop, h.rest]
theorem kept_end {q : Wa → Bool} {l L : List Wa} {i : Nat} (h : KeptW q l L i l.length) : L.take i = l.filter fun x => !q x := by rw [h.done, List.take_length]

/-- What is behind a place is cleared. -/
theorem run_clear_many {P : Program} (w : World) (t e ty : TypeId) (i : TypeInfo) (z : Value) (zs : List Value) (ht : P.underlying t = some (.slice e)) (hi : P.info? e = some i) (hz : i.zero = some z) (g o N c : Nat) (hN : N ≠ 0)
    (hzc : (Builtin.zeroCells z.cells N).toList = zs) (h1 : ∀ v ∈ zs, v.oneCell' = true)
    (hc : ∀ j, j < zs.length → (w.cell? ⟨g, o + j, none⟩).isSome = true ∧ w.frozen? ⟨g, o + j, none⟩ = false) :
    (Builtin.clear_ #[t] ty #[.slice (some ⟨g, o, none⟩) N c]).run P w = .ok (.tuple #[]) (w.setCells g o zs) := by
  obtain ⟨m, rfl⟩ : ∃ m, N = m + 1 := ⟨N - 1, by omega⟩
  have hzv : (zeroValue e).run P w = .ok z w := by simp [zeroValue, typeInfo, hi, hz]
  have hst := run_storeCells_cells (P := P) g o zs 0 w (fun j hj => (hc j hj).1) (fun j hj => (hc j hj).2) h1
  simp only [Nat.add_zero] at hst
  simp [Builtin.clear_, run_underlying ht, hzv, hzc, hst]
theorem zerosW (N : Nat) : ∃ zs, (Builtin.zeroCells zWa.cells N).toList = zs ∧ zs.length = N * 3 ∧ ∀ v ∈ zs, v.oneCell' = true := by
  refine ⟨_, rfl, ?_, ?_⟩
  · have hs : zWa.cells.size = 3 := rfl
    simp [Builtin.zeroCells, hs]
  · intro v hv
    have hs : zWa.cells.size = 3 := rfl
    simp only [Builtin.zeroCells, hs, Array.toList_map, List.mem_map] at hv
    obtain ⟨i, _, rfl⟩ := hv
    have hi : i % 3 < 3 := Nat.mod_lt _ (by decide)
    obtain h | h | h : i % 3 = 0 ∨ i % 3 = 1 ∨ i % 3 = 2 := by omega
    all_goals rw [h]; rfl
theorem cleared_ownWa {e : TypeId} {W : World} {base g cap n : Nat} {L : List Wa} {i : Nat} (h : OwnE WaK e W base (.slice (some ⟨g, 0, none⟩) n cap) L) (hi : i ≤ n) (zs : List Value) (hz : zs.length = (n - i) * 3) :
    OwnE WaK e (W.setCells g (i * 3) zs) base (.slice (some ⟨g, 0, none⟩) i cap) (L.take i) ∧ Below base W (W.setCells g (i * 3) zs) ∧ (∀ j, j < zs.length → (W.cell? ⟨g, i * 3 + j, none⟩).isSome = true ∧ W.frozen? ⟨g, i * 3 + j, none⟩ = false) := by
  obtain ⟨cur, hb, h2, h4, h5, h6, h7, hn⟩ := ownBlkWa h
  have hcl : cur.toList.length = cap * 3 := by rw [Array.length_toList, h6]
  have hl : (L.take i).length = i := by rw [List.length_take]; omega
  have hin : i * 3 + (n - i) * 3 ≤ cap * 3 := by omega
  refine ⟨?_, below_setCellsE h2 _ _ _ (Below.refl _ _), ?_⟩
  · have b1 := hb.setCells zs (i * 3) (by rw [hz, hcl]; exact hin)
    have t1 := writtenE_take cur.toList zs (i * 3) (by rw [hcl]; omega)
    have t2 := writtenE_len cur.toList zs (i * 3) (by rw [hz, hcl]; exact hin)
    rw [hcl] at t2
    have t3 : cur.toList.take (i * 3) = rowsE WaK (L.take i) := by
      have := (rowsE_append WaK (L.take i) (L.drop i))
      rw [List.take_append_drop, ← h7] at this
      have h8 := congrArg (List.take (i * 3)) this
      rw [List.take_take, Nat.min_eq_left (show i * 3 ≤ L.length * 3 by omega), List.take_left' (by rw [rwLenWa, hl])] at h8
      exact h8
    have := OwnE.of (E := WaK) (e := e) (base := base) (cap := cap) (l := L.take i) _ b1 h2 (by rw [hl]; omega) h5 t2 (by rw [hl]; exact t1.trans t3)
    rw [hl] at this
    exact this
  · intro j hj
    rw [hb.cell, List.getElem?_eq_getElem (by rw [hcl]; omega)]
    exact ⟨rfl, hb.frozen _⟩
end Go.Proofs.Ytmiomfonglmfjaa
