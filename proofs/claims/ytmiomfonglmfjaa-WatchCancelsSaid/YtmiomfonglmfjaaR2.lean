/-
  Rows of structs that came in as arguments: what they read as, and how long they are. Each theorem states its own conditions.
-/
import Derived.Test.YtmiomfonglmfjaaR1
import Derived.Test.YtmiomfonglmfjaaOP
import Derived.Lib.SmallJoins
import Derived.SizedLaws
namespace Go.Proofs.Ytmiomfonglmfjaa
open Go.RowKit Go.ChangeShapes Go.WideShapes

/-- An int's range. -/
def fitI (z : Int) : Prop := -9223372036854775808 ≤ z ∧ z ≤ 9223372036854775807
theorem fit_wf {z : Int} (h : (Lit.int .i64 z).wf = true) : fitI z := by
  unfold fitI
  simpa [Lit.wf, IntKind.min, IntKind.max, IntKind.signed, IntKind.bits] using h
theorem agg_of {P : Program} {W : World} {r : Reach} {base : Nat} {t : TypeId} {v : Value} {fs : Array Field} (ht : P.underlying t = some (.struct fs)) (hv : Value.okWide P W r base t v) : ∃ cs, v = .agg cs ∧ cs.size = P.cellsOf t := by
  obtain ⟨cs, rfl, hsz, _⟩ : ∃ cs, v = .agg cs ∧ cs.size = P.cellsOf t ∧ Row.okWide P W r base t cs := by simpa [Value.okWide, ht] using hv
  exact ⟨cs, rfl, hsz⟩
section
variable {H : Type} {enc : TypeId × Value → H} {P : Program} {W : World} {spare : TypeId → Bool} {held : Bool}
theorem open_rowsE {α : Type} {E : RowK α} {F : α → Prop} {ts te : TypeId} (ht : P.underlying ts = some (.slice te)) (ck : P.cellsOf te = E.k)
    (elem : ∀ fuel cs x, DataW.trod enc P W 0 spare held fuel te cs = some x → ∃ a, cs = E.enc a ∧ F a) {fuel : Nat} {cs : List Value} {x : DataW H × List MemPlace} (h : DataW.trod enc P W 0 spare held fuel ts cs = some x) :
    ∃ v l, cs = [v] ∧ RdE E W.heap.size W v l ∧ (∀ n ∈ l, F n) ∧ (l.length = 0 ∨ ∃ m ∈ x.1.weights P ts, l.length * P.bytesOf te ≤ m) := by
  rcases DataW.trod_slice ht h with ⟨rfl, _⟩ | ⟨a, len, cap, elems, rest, n, _, rfl, hx, _, hl, hm, hlen, hel, _, _⟩
  · exact ⟨_, [], rfl, RdE.nil _ _, fun _ h => (by cases h), .inl rfl⟩
  · rw [ck] at hel
    have each : ∀ i : Fin len, ∃ nd : α, W.cells? 0 (a.add (i.1 * E.k)) E.k = some (E.enc nd) ∧ F nd := by
      intro i
      have h1 := hel i.1 i.2
      rw [List.getElem?_eq_getElem (by omega)] at h1
      obtain ⟨cs', hcs, ht⟩ := Option.bind_eq_some_iff.1 h1
      obtain ⟨nd, rfl, hf⟩ := elem _ _ _ ht
      exact ⟨nd, hcs, hf⟩
    obtain ⟨f, hf⟩ := Classical.axiomOfChoice each
    obtain ⟨l, hL⟩ : ∃ l : List α, l = List.ofFn f := ⟨_, rfl⟩
    have hll : l.length = len := by rw [hL, List.length_ofFn]
    have hlc : ∀ i, i < len → W.cells? 0 (a.add (i * E.k)) E.k = some (E.enc (l.getD i E.d)) := by
      intro i hi
      have h1 := (hf ⟨i, hi⟩).1
      rw [h1, hL, List.getD_eq_getElem?_getD, List.getElem?_ofFn, dif_pos hi]
      rfl
    refine ⟨_, l, rfl, ⟨some a, cap, by rw [hll], by omega, hm, (fun h => (by cases h)), fun b hb => ?_⟩, fun m hm' => ?_, .inr ⟨(elems.length + rest.length) * P.bytesOf te, ?_, ?_⟩⟩
    · cases hb
      refine ⟨fun h0 => ?_, fun j u hj => ?_⟩
      · have := World.cells?_block (hlc 0 (by omega)) E.pos
        rwa [addr_block] at this
      · have hj4 : j < l.length * E.k := by
          have := (List.getElem?_eq_some_iff.1 hj).1
          rwa [rowsE_length] at this
        have hpos := E.pos
        have hjd : j / E.k < len := by
          rw [hll] at hj4
          exact Nat.div_lt_of_lt_mul (by rw [Nat.mul_comm]; exact hj4)
        have hmod := Nat.mod_lt j hpos
        have hsum : j / E.k * E.k + j % E.k = j := by
          rw [Nat.mul_comm]
          exact Nat.div_add_mod j E.k
        have h1 := (World.cells?_some (hlc (j / E.k) hjd)).2.2 (j % E.k) hmod
        rw [Addr.add_add, hsum] at h1
        rw [h1, ← rowsE_get E l (j / E.k) (j % E.k) (by omega) hmod, hsum]
        exact hj
    · rw [hL, List.mem_ofFn] at hm'
      obtain ⟨i, rfl⟩ := hm'
      exact (hf i).2
    · rw [hx]
      simp [DataW.weights, ht]
    · rw [hll, hlen, Nat.add_mul]
      omega
end
theorem agg_ofA {P : Program} {W : World} {r : Reach} {base n : Nat} {t e : TypeId} {v : Value} (ht : P.underlying t = some (.array n e)) (hv : Value.okWide P W r base t v) : ∃ cs, v = .agg cs ∧ cs.size = P.cellsOf t := by
  obtain ⟨cs, rfl, hsz, _⟩ : ∃ cs, v = .agg cs ∧ cs.size = P.cellsOf t ∧ Row.okWide P W r base t cs := by simpa [Value.okWide, ht] using hv
  exact ⟨cs, rfl, hsz⟩
section
variable {H : Type} {enc : TypeId × Value → H} {P : Program} {W : World} {spare : TypeId → Bool} {held : Bool}
/-- An array of ints that came in. -/
theorem open_intsA {n : Nat} {ta ti : TypeId} {r : Reach} {base : Nat} {v : Value} {d : DataW H} {p : List MemPlace} (ht : P.underlying ta = some (.array n ti)) (hi : P.underlying ti = some (.int .i64)) (ci : P.cellsOf ti = 1) (ca : P.cellsOf ta = n)
    (hv : Value.okWide P W r base ta v) (h : DataW.Trod enc P W 0 spare held ta v d p) : ∃ l : List Int, v = .agg (l.map fun z => Value.int .i64 z).toArray ∧ l.length = n ∧ ∀ z ∈ l, fitI z := by
  obtain ⟨cs, rfl, hsz⟩ := agg_ofA ht hv
  obtain ⟨fuel, hf⟩ := h
  obtain ⟨xs, m, _, _, hl, hx, hel⟩ := DataW.trod_array ht hf
  rw [ci] at hel
  rw [ca] at hsz
  have each : ∀ i : Fin n, ∃ z : Int, cs[i.1]? = some (.int .i64 z) ∧ fitI z := by
    intro i
    have h1 := hel i.1 i.2
    rw [List.getElem?_eq_getElem (by omega), Nat.mul_one] at h1
    obtain ⟨z, hz, _, wz⟩ := DataW.trod_int hi h1
    refine ⟨z, ?_, fit_wf wz⟩
    have h2 := congrArg (fun q : List Value => q[0]?) hz
    simpa [Value.cells] using h2
  obtain ⟨f, hf2⟩ := Classical.axiomOfChoice each
  refine ⟨List.ofFn f, ?_, by rw [List.length_ofFn], fun z hz => ?_⟩
  · congr 1
    refine Array.ext (by simp [hsz]) fun i h1 h2 => ?_
    have h3 := (hf2 ⟨i, by omega⟩).1
    rw [Array.getElem?_eq_getElem h1] at h3
    have h4 := Option.some.inj h3
    simpa using h4
  · rw [List.mem_ofFn] at hz
    obtain ⟨i, rfl⟩ := hz
    exact (hf2 i).2
end
/-- The bound of what came in. -/
theorem reach_rows {n b m : Nat} (h : n * b ≤ m) (hm : m ≤ reachBytes) : n * b ≤ 140737488351232 := by
  have : reachBytes = 140737488351232 := rfl
  omega
end Go.Proofs.Ytmiomfonglmfjaa
