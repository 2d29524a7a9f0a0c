/-
  Orders and replies that came in as arguments: what they hold. Each theorem states its own conditions.
-/
import Derived.Test.YtmlpiembglmggaaRZ
import Derived.Test.YtmlpiembglmggaaNJ
import Derived.Deep.Strs
import Derived.Deep.Grids
namespace Go.Proofs.Ytmlpiembglmggaa
open Go.RowKit Go.ChangeShapes Go.WideShapes

theorem nTxO : Try.prog.cellsOf 9 = 1 := by kernel_rfl
theorem nInO : Try.prog.cellsOf 3 = 1 := by kernel_rfl
theorem nErO : Try.prog.cellsOf 25 = 1 := by kernel_rfl
theorem nSlO : Try.prog.cellsOf 26 = 1 := by kernel_rfl
theorem nOrO : Try.prog.cellsOf 24 = 8 := by kernel_rfl
theorem nRpO : Try.prog.cellsOf 28 = 6 := by kernel_rfl
theorem txt_ofO (s : ByteArray) : Value.string s = txt s.data.toList := by
  cases s
  simp [txt]
theorem split8O (cs : List Value) (h : cs.length = 8) : cs = (cs.drop 0).take 1 ++ ((cs.drop 1).take 1 ++ ((cs.drop 2).take 1 ++ ((cs.drop 3).take 1 ++ ((cs.drop 4).take 1 ++ ((cs.drop 5).take 1 ++ ((cs.drop 6).take 1 ++ ((cs.drop 7).take 1))))))) := by
  match cs, h with
  | [_, _, _, _, _, _, _, _], _ => rfl
theorem split6O (cs : List Value) (h : cs.length = 6) : cs = (cs.drop 0).take 1 ++ ((cs.drop 1).take 1 ++ ((cs.drop 2).take 1 ++ ((cs.drop 3).take 1 ++ ((cs.drop 4).take 1 ++ ((cs.drop 5).take 1))))) := by
  match cs, h with
  | [_, _, _, _, _, _], _ => rfl
section
variable {H : Type} {enc : TypeId × Value → H} {P : Program} {w : World} {base : Nat} {spare : TypeId → Bool} {held : Bool}
theorem trod_struct8O {t : TypeId} {f0 f1 f2 f3 f4 f5 f6 f7 : Field} {fuel : Nat} {cs : List Value} {x : DataW H × List MemPlace} (ht : P.underlying t = some (.struct #[f0, f1, f2, f3, f4, f5, f6, f7])) (h : DataW.trod enc P w base spare held fuel t cs = some x) :
    ∃ y0 y1 y2 y3 y4 y5 y6 y7 n, x.1 = .agg [y0.1, y1.1, y2.1, y3.1, y4.1, y5.1, y6.1, y7.1] ∧ cs.length = P.cellsOf t ∧ DataW.trod enc P w base spare held n f0.type ((cs.drop f0.offset).take (P.cellsOf f0.type)) = some y0 ∧ DataW.trod enc P w base spare held n f1.type ((cs.drop f1.offset).take (P.cellsOf f1.type)) = some y1 ∧ DataW.trod enc P w base spare held n f2.type ((cs.drop f2.offset).take (P.cellsOf f2.type)) = some y2 ∧ DataW.trod enc P w base spare held n f3.type ((cs.drop f3.offset).take (P.cellsOf f3.type)) = some y3 ∧ DataW.trod enc P w base spare held n f4.type ((cs.drop f4.offset).take (P.cellsOf f4.type)) = some y4 ∧ DataW.trod enc P w base spare held n f5.type ((cs.drop f5.offset).take (P.cellsOf f5.type)) = some y5 ∧ DataW.trod enc P w base spare held n f6.type ((cs.drop f6.offset).take (P.cellsOf f6.type)) = some y6 ∧ DataW.trod enc P w base spare held n f7.type ((cs.drop f7.offset).take (P.cellsOf f7.type)) = some y7 := by
  obtain ⟨xs, n, _, rfl, hl, hlen, hf⟩ := DataW.trod_struct ht h
  match xs, hlen with
  | [y0, y1, y2, y3, y4, y5, y6, y7], _ => exact ⟨y0, y1, y2, y3, y4, y5, y6, y7, n, by simp, hl, by simpa using hf 0 f0 rfl, by simpa using hf 1 f1 rfl, by simpa using hf 2 f2 rfl, by simpa using hf 3 f3 rfl, by simpa using hf 4 f4 rfl, by simpa using hf 5 f5 rfl, by simpa using hf 6 f6 rfl, by simpa using hf 7 f7 rfl⟩
theorem trod_struct6O {t : TypeId} {f0 f1 f2 f3 f4 f5 : Field} {fuel : Nat} {cs : List Value} {x : DataW H × List MemPlace} (ht : P.underlying t = some (.struct #[f0, f1, f2, f3, f4, f5])) (h : DataW.trod enc P w base spare held fuel t cs = some x) :
    ∃ y0 y1 y2 y3 y4 y5 n, x.1 = .agg [y0.1, y1.1, y2.1, y3.1, y4.1, y5.1] ∧ cs.length = P.cellsOf t ∧ DataW.trod enc P w base spare held n f0.type ((cs.drop f0.offset).take (P.cellsOf f0.type)) = some y0 ∧ DataW.trod enc P w base spare held n f1.type ((cs.drop f1.offset).take (P.cellsOf f1.type)) = some y1 ∧ DataW.trod enc P w base spare held n f2.type ((cs.drop f2.offset).take (P.cellsOf f2.type)) = some y2 ∧ DataW.trod enc P w base spare held n f3.type ((cs.drop f3.offset).take (P.cellsOf f3.type)) = some y3 ∧ DataW.trod enc P w base spare held n f4.type ((cs.drop f4.offset).take (P.cellsOf f4.type)) = some y4 ∧ DataW.trod enc P w base spare held n f5.type ((cs.drop f5.offset).take (P.cellsOf f5.type)) = some y5 := by
  obtain ⟨xs, n, _, rfl, hl, hlen, hf⟩ := DataW.trod_struct ht h
  match xs, hlen with
  | [y0, y1, y2, y3, y4, y5], _ => exact ⟨y0, y1, y2, y3, y4, y5, n, by simp, hl, by simpa using hf 0 f0 rfl, by simpa using hf 1 f1 rfl, by simpa using hf 2 f2 rfl, by simpa using hf 3 f3 rfl, by simpa using hf 4 f4 rfl, by simpa using hf 5 f5 rfl⟩
end
section
variable {H : Type} {enc : TypeId × Value → H} {W : World} {spare : TypeId → Bool} {held : Bool}
theorem trod_order (fuel : Nat) (cs : List Value) (x : DataW H × List MemPlace) (h : DataW.trod enc Try.prog W 0 spare held fuel 24 cs = some x) :
    ∃ o : Or, cs = orc o ∧ (∀ n ∈ nsO o, fit64 n) ∧ (oP o).length ∈ x.1.weights Try.prog 24 ∧ (oV o).length ∈ x.1.weights Try.prog 24 := by
  obtain ⟨y0, y1, y2, y3, y4, y5, y6, y7, n, hx, hl, t0, t1, t2, t3, t4, t5, t6, t7⟩ := trod_struct8O Try.underlying24 h
  simp only [nTxO, nInO] at t0 t1 t2 t3 t4 t5 t6 t7
  obtain ⟨a0, h0, _, w0⟩ := DataW.trod_int Try.underlying3 t0
  obtain ⟨a1, h1, _, w1⟩ := DataW.trod_int Try.underlying3 t1
  obtain ⟨a2, h2, _, w2⟩ := DataW.trod_int Try.underlying3 t2
  obtain ⟨a3, h3, z3, _⟩ := DataW.trod_string Try.underlying9 t3
  obtain ⟨a4, h4, z4, _⟩ := DataW.trod_string Try.underlying9 t4
  obtain ⟨a5, h5, _, w5⟩ := DataW.trod_int Try.underlying3 t5
  obtain ⟨a6, h6, _, w6⟩ := DataW.trod_int Try.underlying3 t6
  obtain ⟨a7, h7, _, w7⟩ := DataW.trod_int Try.underlying3 t7
  refine ⟨(a0, a1, a2, a3.data.toList, a4.data.toList, a5, a6, a7), ?_, ?_, ?_, ?_⟩
  · rw [split8O cs (by rw [hl, nOrO]), h0, h1, h2, h3, h4, h5, h6, h7, txt_ofO a3, txt_ofO a4]
    rfl
  · intro n hn
    have f0 := fit_wf w0
    have f1 := fit_wf w1
    have f2 := fit_wf w2
    have f5 := fit_wf w5
    have f6 := fit_wf w6
    have f7 := fit_wf w7
    unfold fitI at f0 f1 f2 f5 f6 f7
    unfold fit64
    simp only [nsO, List.mem_cons, List.not_mem_nil, or_false] at hn
    rcases hn with rfl | rfl | rfl | rfl | rfl | rfl <;> assumption
  · show a3.data.toList.length ∈ _
    rw [hx]
    simp only [DataW.weights, Try.underlying24]
    simp [DataW.weightsEach, z3, DataW.weights]
  · show a4.data.toList.length ∈ _
    rw [hx]
    simp only [DataW.weights, Try.underlying24]
    simp [DataW.weightsEach, z4, DataW.weights]
theorem trod_strs (fuel : Nat) (cs : List Value) (x : DataW H × List MemPlace) (h : DataW.trod enc Try.prog W 0 spare held fuel 26 cs = some x) :
    ∃ v ss, cs = [v] ∧ RdS W.heap.size W v ss ∧ (∀ s ∈ ss, s.size ∈ x.1.weights Try.prog 26) := by
  rcases open_strings Try.underlying26 Try.underlying9 nTxO h with ⟨hcs, _⟩ | ⟨a, len, c, zs, hcs, _, hl, hm, hz, hx, hcell, hwz⟩
  · exact ⟨_, [], hcs, RdS.nil _ _, fun _ h => by cases h⟩
  · have hz' : len ≤ zs.length := by
      rw [hz]
      split <;> omega
    have hlen : (zs.take len).length = len := by simp; omega
    have hread : ∀ j (h : j < (zs.take len).length), W.cell? (a.add j) = some (.string (zs.take len)[j]) := by
      intro j hj
      rw [hcell j (by omega)]
      simp [List.getD_eq_getElem?_getD, List.getElem?_eq_getElem (show j < zs.length by omega)]
    refine ⟨_, zs.take len, hcs, ⟨some a, c, by rw [hlen], by omega, hm, fun h => (by cases h), fun y hy => ?_⟩, ?_⟩
    · cases hy
      refine ⟨fun h0 => ?_, hread⟩
      have := World.block_lt_of_cell? W _ (hread 0 h0)
      rwa [addr_block] at this
    · intro s hs
      rw [hx]
      simp only [DataW.weights, Try.underlying26]
      refine List.mem_cons_of_mem _ (List.mem_append.2 (.inl ?_))
      generalize zs.take len = ss at hs
      clear hread hlen hx hcell hwz hz hz' hl hm hcs h
      induction ss with
      | nil => cases hs
      | cons b r ih =>
        show s.size ∈ (DataW.lit (Lit.string b.data.toList)).weights Try.prog 9 ++ DataW.weightsAll Try.prog 9 (ChangeShapes.strs (H := H) r)
        rw [List.mem_append]
        rcases List.mem_cons.1 hs with rfl | h2
        · left
          simp [DataW.weights]
        · exact .inr (ih h2)
theorem trod_reply (fuel : Nat) (cs : List Value) (x : DataW H × List MemPlace) (h : DataW.trod enc Try.prog W 0 spare held fuel 28 cs = some x) :
    ∃ (r : Rp) (nv : Value), cs = rpc r nv ∧ RdS W.heap.size W nv (pN r) ∧ (∀ n ∈ nsR r, fit64 n) ∧ (pV r).length ∈ x.1.weights Try.prog 28 ∧ (∀ s ∈ pN r, s.size ∈ x.1.weights Try.prog 28) := by
  obtain ⟨y0, y1, y2, y3, y4, y5, n, hx, hl, t0, t1, t2, t3, t4, t5⟩ := trod_struct6O Try.underlying28 h
  simp only [nTxO, nInO, nErO, nSlO] at t0 t1 t2 t3 t4 t5
  obtain ⟨a0, h0, _, w0⟩ := DataW.trod_int Try.underlying3 t0
  obtain ⟨a1, h1, _, w1⟩ := DataW.trod_int Try.underlying3 t1
  obtain ⟨a2, h2, _, w2⟩ := DataW.trod_int Try.underlying25 t2
  obtain ⟨a3, h3, z3, _⟩ := DataW.trod_string Try.underlying9 t3
  obtain ⟨a4, h4, _, w4⟩ := DataW.trod_int Try.underlying3 t4
  obtain ⟨v5, ss, h5, r5, q5⟩ := trod_strs _ _ _ t5
  refine ⟨(a0, a1, a2, a3.data.toList, a4, ss), v5, ?_, r5, ?_, ?_, ?_⟩
  · rw [split6O cs (by rw [hl, nRpO]), h0, h1, h2, h3, h4, h5, txt_ofO a3]
    rfl
  · intro n hn
    have f0 := fit_wf w0
    have f1 := fit_wf w1
    have f2 := fit_wf w2
    have f4 := fit_wf w4
    unfold fitI at f0 f1 f2 f4
    unfold fit64
    simp only [nsR, List.mem_cons, List.not_mem_nil, or_false] at hn
    rcases hn with rfl | rfl | rfl | rfl <;> assumption
  · show a3.data.toList.length ∈ _
    rw [hx]
    simp only [DataW.weights, Try.underlying28]
    simp [DataW.weightsEach, z3, DataW.weights]
  · intro s hs
    have h9 := q5 s hs
    rw [hx]
    simp only [DataW.weights, Try.underlying28]
    simp only [DataW.weightsEach, List.map_cons, List.map_nil, List.append_nil, List.mem_append]
    simp only [h9, or_true]
theorem open_order {r : Reach} {base : Nat} {v : Value} {d : DataW H} {p : List MemPlace}
    (hv : Value.okWide Try.prog W r base 24 v) (h : DataW.Trod enc Try.prog W 0 spare held 24 v d p) :
    ∃ x : Or, v = .agg (orc x).toArray ∧ (∀ n ∈ nsO x, fit64 n) ∧ (oP x).length ∈ d.weights Try.prog 24 ∧ (oV x).length ∈ d.weights Try.prog 24 := by
  obtain ⟨cs, rfl, _⟩ := agg_of Try.underlying24 hv
  obtain ⟨fuel, hf⟩ := h
  obtain ⟨x, hx, f1, f2, f3⟩ := trod_order fuel _ _ hf
  refine ⟨x, ?_, f1, f2, f3⟩
  have e : cs.toList = orc x := hx
  rw [← e]
theorem open_reply {r : Reach} {base : Nat} {v : Value} {d : DataW H} {p : List MemPlace}
    (hv : Value.okWide Try.prog W r base 28 v) (h : DataW.Trod enc Try.prog W 0 spare held 28 v d p) :
    ∃ (x : Rp) (nv : Value), v = .agg (rpc x nv).toArray ∧ RdS W.heap.size W nv (pN x) ∧ (∀ n ∈ nsR x, fit64 n) ∧ (pV x).length ∈ d.weights Try.prog 28 ∧ (∀ s ∈ pN x, s.size ∈ d.weights Try.prog 28) := by
  obtain ⟨cs, rfl, _⟩ := agg_of Try.underlying28 hv
  obtain ⟨fuel, hf⟩ := h
  obtain ⟨x, nv, hx, f1, f2, f3, f4⟩ := trod_reply fuel _ _ hf
  refine ⟨x, nv, ?_, f1, f2, f3, f4⟩
  have e : cs.toList = rpc x nv := hx
  rw [← e]
end
end Go.Proofs.Ytmlpiembglmggaa
