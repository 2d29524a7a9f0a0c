/-
  A byte slice and a slice of strings that came in as arguments, of no program: what they read as, and how long they and their strings can be. Each theorem states its own conditions.
-/
import Derived.Test.YtnemkefmlffigaaMs
import Derived.ProofKit
import Derived.SizedLaws
import Derived.SliceStrings
import Derived.OpenShut
namespace Go.Proofs.Ytnemkefmlffigaa
open Go.RowKit Go.ChangeShapes Go.WideShapes

section
variable {H : Type} {enc : TypeId × Value → H} {P : Program} {W : World}

theorem open_bytes {t e : TypeId} {a : Option Addr} {len cap : Nat} {d : DataW H} {p : List MemPlace} (ht : P.underlying t = some (.slice e)) (he : P.underlying e = some (.int .u8)) (hc : P.cellsOf e = 1)
    (h : DataW.Trod enc P W 0 (fun _ => true) true t (.slice a len cap) d p) :
    ∃ l : List UInt8, Rd W.heap.size W (.slice a len cap) l ∧ (l.length = 0 ∨ ∃ elems spare, d = .slice elems spare ∧ elems.length = l.length) := by
  obtain ⟨fuel, hf⟩ := h
  rcases open_ints ht he hc hf with ⟨hcs, _⟩ | ⟨x, l, c, zs, hcs, _, hl, hm, hz, hx, hcell, hwz⟩
  · simp [Value.cells] at hcs
    obtain ⟨rfl, rfl, rfl⟩ := hcs
    exact ⟨[], Rd.nil _ _, .inl rfl⟩
  · simp [Value.cells] at hcs
    obtain ⟨rfl, rfl, rfl⟩ := hcs
    have hz' : zs.length = cap := by simpa using hz
    have hlen : ((zs.take len).map fun z => UInt8.ofNat z.toNat).length = len := by simp; omega
    injection hx with hd _
    have hbnd : ∀ j, j < zs.length → (((UInt8.ofNat (zs.getD j 0).toNat).toNat : Nat) : Int) = zs.getD j 0 := by
      intro j hj
      have hmem : zs.getD j 0 ∈ zs := by
        rw [List.getD_eq_getElem?_getD, List.getElem?_eq_getElem hj, Option.getD_some]
        exact List.getElem_mem hj
      have hw := hwz _ hmem
      have hb := bounds_u8 hw
      generalize zs.getD j 0 = z at *
      rw [show (UInt8.ofNat z.toNat).toNat = z.toNat % 256 from by simp]
      omega
    refine ⟨(zs.take len).map fun z => UInt8.ofNat z.toNat, ⟨some x, cap, by rw [hlen], by omega, hm, fun h => (by cases h), fun y hy => ?_⟩, .inr ⟨_, _, hd, by simp [lits]⟩⟩
    cases hy
    have hread : ∀ j (h : j < ((zs.take len).map fun z => UInt8.ofNat z.toNat).length), W.cell? (x.add j) = some (.int .u8 (((zs.take len).map fun z => UInt8.ofNat z.toNat)[j].toNat : Int)) := by
      intro j hj
      rw [hcell j (by omega)]
      have e1 : ((zs.take len).map fun z => UInt8.ofNat z.toNat)[j] = UInt8.ofNat (zs.getD j 0).toNat := by
        simp [List.getD_eq_getElem?_getD, List.getElem?_eq_getElem (show j < zs.length by omega)]
      rw [e1, hbnd j (by omega)]
    refine ⟨fun h0 => ?_, hread⟩
    have := World.block_lt_of_cell? W _ (hread 0 h0)
    rwa [addr_block] at this

theorem open_strs {t e : TypeId} {a : Option Addr} {len cap : Nat} {d : DataW H} {p : List MemPlace} (ht : P.underlying t = some (.slice e)) (he : P.underlying e = some .string) (hc : P.cellsOf e = 1)
    (h : DataW.Trod enc P W 0 (fun _ => true) true t (.slice a len cap) d p) :
    ∃ ss : List ByteArray, RdS W.heap.size W (.slice a len cap) ss ∧ (ss.length = 0 ∨ ∃ spare, d = .slice (ChangeShapes.strs ss) spare) := by
  obtain ⟨fuel, hf⟩ := h
  rcases open_strings ht he hc hf with ⟨hcs, _⟩ | ⟨x, l, c, zs, hcs, _, hl, hm, hz, hx, hcell, hwz⟩
  · simp [Value.cells] at hcs
    obtain ⟨rfl, rfl, rfl⟩ := hcs
    exact ⟨[], RdS.nil _ _, .inl rfl⟩
  · simp [Value.cells] at hcs
    obtain ⟨rfl, rfl, rfl⟩ := hcs
    have hz' : zs.length = cap := by simpa using hz
    have hlen : (zs.take len).length = len := by simp; omega
    injection hx with hd _
    have hread : ∀ j (h : j < (zs.take len).length), W.cell? (x.add j) = some (.string (zs.take len)[j]) := by
      intro j hj
      rw [hcell j (by omega)]
      simp [List.getD_eq_getElem?_getD, List.getElem?_eq_getElem (show j < zs.length by omega)]
    refine ⟨zs.take len, ⟨some x, cap, by rw [hlen], by omega, hm, fun h => (by cases h), fun y hy => ?_⟩, .inr ⟨_, hd⟩⟩
    cases hy
    refine ⟨fun h0 => ?_, hread⟩
    have := World.block_lt_of_cell? W _ (hread 0 h0)
    rwa [addr_block] at this

/-- Each string of a slice of strings that came in is within the reach. -/
theorem sized_strs {ts : List TypeId} {ds : List (DataW H)} (h : (DataW.weightsEach P ts ds).all (· ≤ reachBytes) = true) {j : Nat} {t e : TypeId} {ss : List ByteArray} {spare : List (DataW H)}
    (ht : ts[j]? = some t) (hd : ds[j]? = some (.slice (ChangeShapes.strs ss) spare)) (hu : P.underlying t = some (.slice e)) : ∀ s ∈ ss, s.size ≤ reachBytes := by
  intro s hs
  have hin : s.size ∈ DataW.weightsAll P e (ChangeShapes.strs (H := H) ss) := by
    clear hd
    induction ss with
    | nil => cases hs
    | cons b r ih =>
      show s.size ∈ (DataW.lit (Lit.string b.data.toList)).weights P e ++ DataW.weightsAll P e (ChangeShapes.strs (H := H) r)
      rw [List.mem_append]
      rcases List.mem_cons.1 hs with rfl | h2
      · left
        simp [DataW.weights]
      · exact .inr (ih h2)
  have := List.all_eq_true.1 h _ (DataW.weights_mem_each ht hd s.size (by simp [DataW.weights, hu, hin]))
  simpa using this
end
end Go.Proofs.Ytnemkefmlffigaa
