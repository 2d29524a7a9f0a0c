/-
  A slice of byte slices that came in as an argument, of no program: what it reads as. Each theorem states its own conditions.
-/
import Derived.Test.YteckenlbelgknaaOP
import Derived.Test.YteckenlbelgknaaC7
import Derived.Deep.Matrix
namespace Go.Proofs.Yteckenlbelgknaa
open Go.RowKit Go.ChangeShapes Go.WideShapes

theorem bigM {l : List (List UInt8)} (h : ∀ q ∈ l, q.length ≤ 140737488355328) (j : Nat) : (l.getD j []).length ≤ 140737488355328 := by
  rw [List.getD_eq_getElem?_getD]
  by_cases hj : j < l.length
  · rw [List.getElem?_eq_getElem hj]
    exact h _ (List.getElem_mem hj)
  · rw [List.getElem?_eq_none (by omega)]
    exact Nat.zero_le _
theorem rowsSl_at (L : List SlT) (j : Nat) (u : Value) (h : (rowsE SlK L)[j]? = some u) : j < L.length ∧ u = slv (L.getD j sl0) := by
  have hlen := rowsE_length SlK L
  have hk : SlK.k = 1 := rfl
  rw [hk, Nat.mul_one] at hlen
  have hj : j < L.length := by
    have := (List.getElem?_eq_some_iff.1 h).1
    omega
  have h1 := rowsE_get SlK L j 0 hj (by decide)
  rw [hk, Nat.mul_one, Nat.add_zero, h] at h1
  have h2 : (SlK.enc (L.getD j SlK.d))[0]? = some (slv (L.getD j sl0)) := rfl
  rw [h2] at h1
  injection h1 with h1
  exact ⟨hj, h1⟩
/-- A row of integers from 0 to 255 reads as bytes. -/
theorem rd_ints {W : World} (A : Option Addr) (L C : Nat) (Z : List Int) (hL : L ≤ C) (hC : C ≤ maxLen) (hZ : Z.length = C) (hw : ∀ n ∈ Z, (Lit.int .u8 n).wf = true) (hn : A = none → C = 0)
    (hc : ∀ a, A = some a → ∀ c, c < C → W.cell? (a.add c) = some (.int .u8 (Z.getD c 0))) : Rd W.heap.size W (.slice A L C) ((Z.take L).map fun z => UInt8.ofNat z.toNat) := by
  have hlen : ((Z.take L).map fun z => UInt8.ofNat z.toNat).length = L := by simp; omega
  refine ⟨A, C, by rw [hlen], by omega, hC, hn, fun x hx => ?_⟩
  have hread : ∀ j (h : j < ((Z.take L).map fun z => UInt8.ofNat z.toNat).length), W.cell? (x.add j) = some (.int .u8 (((Z.take L).map fun z => UInt8.ofNat z.toNat)[j].toNat : Int)) := by
    intro j hj
    rw [hc x hx j (by omega)]
    have e1 : ((Z.take L).map fun z => UInt8.ofNat z.toNat)[j] = UInt8.ofNat (Z.getD j 0).toNat := by
      simp [List.getD_eq_getElem?_getD, List.getElem?_eq_getElem (show j < Z.length by omega)]
    have hmem : Z.getD j 0 ∈ Z := by
      rw [List.getD_eq_getElem?_getD, List.getElem?_eq_getElem (by omega), Option.getD_some]
      exact List.getElem_mem _
    have hb := bounds_u8 (hw _ hmem)
    rw [e1]
    generalize Z.getD j 0 = z at *
    rw [show (UInt8.ofNat z.toNat).toNat = z.toNat % 256 from by simp]
    congr 2
    omega
  refine ⟨fun h0 => ?_, hread⟩
  have := World.block_lt_of_cell? W _ (hread 0 h0)
  rwa [addr_block] at this

section
variable {H : Type} {enc : TypeId × Value → H} {P : Program} {W : World}
theorem open_rowsM {t e q : TypeId} {a : Option Addr} {len cap : Nat} {d : DataW H} {p : List MemPlace} (ht : P.underlying t = some (.slice e)) (he : P.underlying e = some (.slice q)) (hq : P.underlying q = some (.int .u8)) (ce : P.cellsOf e = 1) (cq : P.cellsOf q = 1) (hbq : P.bytesOf q = 1)
    (h : DataW.Trod enc P W 0 (fun _ => true) true t (.slice a len cap) d p) : ∃ ls : List (List UInt8), ls.length = len ∧ RdM W.heap.size W (.slice a len cap) ls ∧ ∀ l ∈ ls, l.length = 0 ∨ ∃ m ∈ d.weights P t, l.length ≤ m := by
  obtain ⟨fuel, hf⟩ := h
  rcases Deep.open_int_rows ht he hq ce cq hf with ⟨hcs, _⟩ | ⟨x, l, c0, A, L, C, Z, hcs, _, hl, hm, hx, hrow⟩
  · simp [Value.cells] at hcs
    obtain ⟨rfl, rfl, rfl⟩ := hcs
    exact ⟨[], rfl, ⟨[], rfl, RdE.nil _ _, fun j hj => by cases hj⟩, fun l hl => by cases hl⟩
  · simp [Value.cells] at hcs
    obtain ⟨rfl, rfl, rfl⟩ := hcs
    refine ⟨(List.range len).map fun r => ((Z r).take (L r)).map fun z => UInt8.ofNat z.toNat, by simp, ⟨(List.range len).map fun r => ((A r, L r, C r) : SlT), by simp, ⟨some x, cap, by simp, by simpa using hl, hm, fun h => (by cases h), fun y hy => ?_⟩, fun j hj => ?_⟩, fun l hl' => ?_⟩
    · cases hy
      have hcell : ∀ j u, (rowsE SlK ((List.range len).map fun r => ((A r, L r, C r) : SlT)))[j]? = some u → W.cell? (x.add j) = some u := by
        intro j u hu
        obtain ⟨hj, rfl⟩ := rowsSl_at _ _ _ hu
        have hj' : j < len := by simpa using hj
        have h1 := (hrow j (by omega)).1
        rw [h1]
        have e : ((List.range len).map fun r => ((A r, L r, C r) : SlT)).getD j sl0 = (A j, L j, C j) := by
          rw [List.getD_eq_getElem?_getD, List.getElem?_map, List.getElem?_range hj']
          rfl
        rw [e]
        rfl
      refine ⟨fun h0 => ?_, hcell⟩
      have h0' : 0 < len := by simpa using h0
      have := World.block_lt_of_cell? W _ (hrow 0 (by omega)).1
      rwa [addr_block] at this
    · have hj' : j < len := by simpa using hj
      obtain ⟨h1, h2, h3, h4, h5, h6, h7⟩ := hrow j (by omega)
      have e : ((List.range len).map fun r => ((A r, L r, C r) : SlT)).getD j sl0 = (A j, L j, C j) := by
        rw [List.getD_eq_getElem?_getD, List.getElem?_map, List.getElem?_range hj']
        rfl
      have e2 : ((List.range len).map fun r => ((Z r).take (L r)).map fun z => UInt8.ofNat z.toNat).getD j [] = ((Z j).take (L j)).map fun z => UInt8.ofNat z.toNat := by
        rw [List.getD_eq_getElem?_getD, List.getElem?_map, List.getElem?_range hj']
        rfl
      rw [e, e2]
      exact rd_ints (A j) (L j) (C j) (Z j) h2 h3 h4 h5 h6 (fun a' ha' => (h7 a' ha').2)
    · obtain ⟨r, hr, rfl⟩ := List.mem_map.1 hl'
      have hr' : r < len := List.mem_range.1 hr
      obtain ⟨h1, h2, h3, h4, h5, h6, h7⟩ := hrow r (by omega)
      by_cases hA : A r = none
      · left
        have hz : Z r = [] := List.eq_nil_of_length_eq_zero (by rw [h4]; exact h6 hA)
        simp [hz]
      · right
        obtain ⟨ar, har⟩ := Option.ne_none_iff_exists'.1 hA
        injection hx with hd _
        refine ⟨(Z r).length, ?_, by simp; omega⟩
        rw [hd]
        have hin : (Z r).length ∈ DataW.weightsAll P e ((List.range len).map fun r => Deep.intRow (H := H) .u8 (A r) (L r) (Z r)) := by
          have hmem : ∀ rs : List Nat, r ∈ rs → (Z r).length ∈ DataW.weightsAll P e (rs.map fun r => Deep.intRow (H := H) .u8 (A r) (L r) (Z r)) := by
            intro rs
            induction rs with
            | nil => intro h; cases h
            | cons b rs ih =>
              intro h
              show (Z r).length ∈ (Deep.intRow (H := H) .u8 (A b) (L b) (Z b)).weights P e ++ DataW.weightsAll P e (rs.map fun r => Deep.intRow (H := H) .u8 (A r) (L r) (Z r))
              rw [List.mem_append]
              rcases List.mem_cons.1 h with rfl | h2
              · left
                rw [har]
                simp only [Deep.intRow, DataW.weights, he, lits, List.length_map, List.length_take, List.length_drop, hbq, Nat.mul_one]
                rw [show min (L r) (Z r).length + ((Z r).length - L r) = (Z r).length by omega]
                exact List.mem_cons_self
              · exact .inr (ih h2)
          exact hmem _ hr
        simp only [DataW.weights, ht]
        exact List.mem_cons_of_mem _ (List.mem_append_left _ hin)
end
end Go.Proofs.Yteckenlbelgknaa
