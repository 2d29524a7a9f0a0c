/-
  A node is written into a row of a call's own.
-/
import Derived.Test.YtlpakfaoaodaiaaDoorHE
import Derived.Deep.MidRow
import Derived.Test.YtlpakfaoaodaiaaDoorOJ
namespace Go.Proofs.YtlpakfaoaodaiaaDoor
open Go.RowKit

theorem nds_cut (l : List Nd) (i : Nat) (hi : i < l.length) : (nds l).take (i * 4) = nds (l.take i) ∧ (nds l).drop (i * 4 + 4) = nds (l.drop (i + 1)) := by
  have e : l = l.take i ++ (l[i] :: l.drop (i + 1)) := by
    rw [← List.drop_eq_getElem_cons hi, List.take_append_drop]
  have e1 : nds l = nds (l.take i) ++ (ndc l[i] ++ nds (l.drop (i + 1))) := by
    have h := congrArg nds e
    rw [nds_append, show l[i] :: l.drop (i + 1) = [l[i]] ++ l.drop (i + 1) from rfl, nds_append, nds_one] at h
    exact h
  have hl : (nds (l.take i)).length = i * 4 := by
    rw [nds_length, List.length_take, Nat.min_eq_left (by omega)]
    omega
  rw [e1]
  refine ⟨List.take_left' hl, ?_⟩
  rw [← List.drop_drop, List.drop_left' hl]
  exact List.drop_left' rfl
theorem nds_set (l : List Nd) (i : Nat) (x : Nd) (hi : i < l.length) : nds (l.set i x) = (nds l).take (i * 4) ++ (ndc x ++ (nds l).drop (i * 4 + 4)) := by
  rw [(nds_cut l i hi).1, (nds_cut l i hi).2, List.set_eq_take_append_cons_drop, if_pos hi, nds_append, show x :: l.drop (i + 1) = [x] ++ l.drop (i + 1) from rfl, nds_append, nds_one]
theorem setCells_other (g : Nat) : ∀ (vs : List Value) (o : Nat) (w : World) (k : Nat), k ≠ g → (w.setCells g o vs).heap[k]? = w.heap[k]?
  | [], _, _, _, _ => rfl
  | v :: r, o, w, k, h => by
    show ((w.setCell ⟨g, o, none⟩ v).setCells g (o + 1) r).heap[k]? = _
    rw [setCells_other g r (o + 1) _ k h, heap_setCell_other w ⟨g, o, none⟩ k v h]
theorem setCells_size (g : Nat) : ∀ (vs : List Value) (o : Nat) (w : World), (w.setCells g o vs).heap.size = w.heap.size
  | [], _, _ => rfl
  | v :: r, o, w => by
    show ((w.setCell ⟨g, o, none⟩ v).setCells g (o + 1) r).heap.size = _
    rw [setCells_size g r (o + 1) _]
    simp [World.setCell]
theorem below_setCells {B g : Nat} (hBg : B ≤ g) {w0 : World} : ∀ (vs : List Value) (o : Nat) (w : World), Below B w0 w → Below B w0 (w.setCells g o vs)
  | [], _, _, h => h
  | v :: r, o, w, h => below_setCells hBg r (o + 1) (w.setCell ⟨g, o, none⟩ v) (h.setCell hBg v)
theorem OwnNd.inBlock {e : TypeId} {w : World} {base : Nat} {v : Value} {l : List Nd} (h : OwnNd e w base v l) (hn : 0 < l.length) : ∃ g cap, v = .slice (some ⟨g, 0, none⟩) l.length cap ∧ l.length ≤ cap ∧ base ≤ g ∧ g < w.heap.size := by
  rcases h.2 with ⟨_, h1⟩ | ⟨g, cap, cur, h1, h2, h3, h4, _⟩
  · omega
  · exact ⟨g, cap, h1, h4, h2, (Array.getElem?_eq_some_iff.1 h3).1⟩
theorem OwnNd.block {e : TypeId} {w : World} {base n cap g : Nat} {l : List Nd} (h : OwnNd e w base (.slice (some ⟨g, 0, none⟩) n cap) l) : ∃ cur : Array Value, Blk w g cur.toList e ∧ base ≤ g ∧ l.length ≤ cap ∧ cap ≤ maxLen ∧ cur.size = cap * 4 ∧ cur.toList.take (l.length * 4) = nds l ∧ n = l.length := by
  rcases h.2 with ⟨h1, _⟩ | ⟨g', cap', cur, h1, h2, h3, h4, h5, h6, h7⟩
  · simp at h1
  · injection h1 with h1 hn hc
    injection h1 with h1
    injection h1 with h1
    subst h1 hc
    refine ⟨cur, ?_, h2, h4, h5, h6, h7, hn⟩
    unfold Blk
    simpa using h3
theorem take_mid (A X B C : List Value) (m n : Nat) (hA : A = C.take m) (hB : B = C.drop (m + X.length)) (hm : m + X.length ≤ n) (hC : n ≤ C.length) : (A ++ (X ++ B)).take n = (C.take n).take m ++ (X ++ (C.take n).drop (m + X.length)) := by
  have hAl : A.length = m := by rw [hA, List.length_take]; omega
  rw [List.take_append, List.take_append, hAl, List.take_of_length_le (by omega), List.take_of_length_le (by omega), hA, List.take_take, Nat.min_eq_left (by omega), hB, List.drop_take, Nat.sub_sub]
theorem OwnNd.stored {e : TypeId} {w : World} {base n cap g : Nat} {l : List Nd} (h : OwnNd e w base (.slice (some ⟨g, 0, none⟩) n cap) l) (i : Nat) (hi : i < l.length) (x : Nd) :
    OwnNd e (w.setCells g (i * 4) (ndc x)) base (.slice (some ⟨g, 0, none⟩) n cap) (l.set i x) ∧ w.there g (i * 4) 4 ∧ Below base w (w.setCells g (i * 4) (ndc x)) := by
  obtain ⟨cur, hb, h2, h4, h5, h6, h7, hn⟩ := h.block
  have hcl : cur.toList.length = cap * 4 := by rw [Array.length_toList, h6]
  have hx : (ndc x).length = 4 := rfl
  have hs := hb.setCells (ndc x) (i * 4) (by rw [hcl, hx]; omega)
  refine ⟨⟨?_, .inr ⟨g, cap, (cur.toList.take (i * 4) ++ (ndc x ++ cur.toList.drop (i * 4 + (ndc x).length))).toArray, ?_, h2, hs, ?_, h5, ?_, ?_⟩⟩, ?_, ?_⟩
  · rw [nds_length]; omega
  · rw [List.length_set, hn]
  · rw [List.length_set]; exact h4
  · simp only [List.size_toArray, List.length_append, List.length_take, List.length_drop, hcl, hx]
    omega
  · rw [List.length_set, nds_set l i x hi, ← h7]
    exact take_mid _ (ndc x) _ cur.toList (i * 4) (l.length * 4) rfl rfl (by rw [hx]; omega) (by rw [hcl]; omega)
  · intro j hj
    have hlt : i * 4 + j < cur.toList.length := by rw [hcl]; omega
    exact ⟨by rw [hb.cell, List.getElem?_eq_getElem hlt]; rfl, hb.frozen _⟩
  · exact below_setCells h2 _ _ _ (Below.refl _ _)
end Go.Proofs.YtlpakfaoaodaiaaDoor
