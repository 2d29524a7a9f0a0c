/-
  A shelf and a change that came in as arguments: what they hold. Each theorem states its own conditions.
-/
import Derived.Test.YtlpakfaoaodaiaaDoorH3
import Derived.Test.YtlpakfaoaodaiaaDoorOP
import Derived.Lib.SmallJoins
namespace Go.Proofs.YtlpakfaoaodaiaaDoor
open Go.RowKit Go.ChangeShapes Go.WideShapes

theorem nTx : Tryd.prog.cellsOf 9 = 1 := by kernel_rfl
theorem nIn : Tryd.prog.cellsOf 3 = 1 := by kernel_rfl
theorem nSl : Tryd.prog.cellsOf 22 = 1 := by kernel_rfl
theorem nNd : Tryd.prog.cellsOf 53 = 4 := by kernel_rfl
theorem nSh : Tryd.prog.cellsOf 24 = 1 := by kernel_rfl
theorem nCh : Tryd.prog.cellsOf 37 = 4 := by kernel_rfl
theorem splitN (cs : List Value) (h : cs.length = 4) : cs = (cs.drop 0).take 1 ++ ((cs.drop 1).take 1 ++ ((cs.drop 2).take 1 ++ (cs.drop 3).take 1)) := by
  match cs, h with
  | [_, _, _, _], _ => rfl
theorem txt_of (s : ByteArray) : Value.string s = txt s.data.toList := by
  cases s
  simp [txt]
theorem agg_of {P : Program} {W : World} {r : Reach} {base : Nat} {t : TypeId} {v : Value} {fs : Array Field} (ht : P.underlying t = some (.struct fs)) (hv : Value.okWide P W r base t v) : ∃ cs, v = .agg cs ∧ cs.size = P.cellsOf t := by
  obtain ⟨cs, rfl, hsz, _⟩ : ∃ cs, v = .agg cs ∧ cs.size = P.cellsOf t ∧ Row.okWide P W r base t cs := by simpa [Value.okWide, ht] using hv
  exact ⟨cs, rfl, hsz⟩
/-- An int's range. -/
def fitI (z : Int) : Prop := -9223372036854775808 ≤ z ∧ z ≤ 9223372036854775807
theorem fit_wf {z : Int} (h : (Lit.int .i64 z).wf = true) : fitI z := by
  unfold fitI
  simpa [Lit.wf, IntKind.min, IntKind.max, IntKind.signed, IntKind.bits] using h

section
variable {H : Type} {enc : TypeId × Value → H} {W : World} {spare : TypeId → Bool} {held : Bool}

theorem trod_node {fuel : Nat} {cs : List Value} {x : DataW H × List MemPlace} (h : DataW.trod enc Tryd.prog W 0 spare held fuel 53 cs = some x) : ∃ n : Nd, cs = ndc n ∧ fitI (nR n) ∧ fitI (nO n) := by
  obtain ⟨y0, y1, y2, y3, n, _, hl, t0, t1, t2, t3⟩ := Go.Joins.trod_struct4 Tryd.underlying53 h
  simp only [nTx, nIn] at t0 t1 t2 t3
  obtain ⟨a, ha, _, _⟩ := DataW.trod_string Tryd.underlying9 t0
  obtain ⟨b, hb, _, _⟩ := DataW.trod_string Tryd.underlying9 t1
  obtain ⟨c, hc, _, wc⟩ := DataW.trod_int Tryd.underlying3 t2
  obtain ⟨d, hd, _, wd⟩ := DataW.trod_int Tryd.underlying3 t3
  refine ⟨(a.data.toList, b.data.toList, c, d), ?_, fit_wf wc, fit_wf wd⟩
  rw [splitN cs (by rw [hl, nNd]), ha, hb, hc, hd, txt_of a, txt_of b]
  rfl

theorem open_nodes {fuel : Nat} {cs : List Value} {x : DataW H × List MemPlace} (h : DataW.trod enc Tryd.prog W 0 spare held fuel 22 cs = some x) :
    ∃ v l, cs = [v] ∧ RdNd W.heap.size W v l ∧ ∀ n ∈ l, fitI (nR n) ∧ fitI (nO n) := by
  rcases DataW.trod_slice Tryd.underlying22 h with ⟨rfl, _⟩ | ⟨a, len, cap, elems, rest, n, _, rfl, _, _, hl, hm, hlen, hel, _, _⟩
  · exact ⟨_, [], rfl, RdNd.nil _ _, fun _ h => by cases h⟩
  · rw [nNd] at hel
    have each : ∀ i : Fin len, ∃ nd : Nd, W.cells? 0 (a.add (i.1 * 4)) 4 = some (ndc nd) ∧ fitI (nR nd) ∧ fitI (nO nd) := by
      intro i
      have h1 := hel i.1 i.2
      rw [List.getElem?_eq_getElem (by omega)] at h1
      obtain ⟨cs', hcs, ht⟩ := Option.bind_eq_some_iff.1 h1
      obtain ⟨nd, rfl, hf⟩ := trod_node ht
      exact ⟨nd, hcs, hf⟩
    obtain ⟨f, hf⟩ := Classical.axiomOfChoice each
    obtain ⟨l, hL⟩ : ∃ l : List Nd, l = List.ofFn f := ⟨_, rfl⟩
    have hll : l.length = len := by rw [hL, List.length_ofFn]
    have hlc : ∀ i, i < len → W.cells? 0 (a.add (i * 4)) 4 = some (ndc (l.getD i nd0)) := by
      intro i hi
      have h1 := (hf ⟨i, hi⟩).1
      rw [h1, hL, List.getD_eq_getElem?_getD, List.getElem?_ofFn, dif_pos hi]
      rfl
    refine ⟨_, l, rfl, ⟨some a, cap, by rw [hll], by omega, hm, (fun h => (by cases h)), fun b hb => ?_⟩, fun m hm' => ?_⟩
    · cases hb
      refine ⟨fun h0 => ?_, fun j u hj => ?_⟩
      · have := World.cells?_block (hlc 0 (by omega)) (by omega)
        rwa [addr_block] at this
      · have hj4 : j < 4 * l.length := by
          have := (List.getElem?_eq_some_iff.1 hj).1
          rwa [nds_length] at this
        have hjd : j / 4 < len := by omega
        have h1 := (World.cells?_some (hlc (j / 4) hjd)).2.2 (j % 4) (by omega)
        rw [Addr.add_add, show j / 4 * 4 + j % 4 = j by omega] at h1
        rw [h1, ← nds_get l (j / 4) (j % 4) (by omega) (by omega), show 4 * (j / 4) + j % 4 = j by omega]
        exact hj
    · rw [hL, List.mem_ofFn] at hm'
      obtain ⟨i, rfl⟩ := hm'
      exact (hf i).2

set_option maxRecDepth 100000 in
theorem open_shelf {r : Reach} {base : Nat} {v : Value} {d : DataW H} {p : List MemPlace}
    (hv : Value.okWide Tryd.prog W r base 24 v) (h : DataW.Trod enc Tryd.prog W 0 spare held 24 v d p) :
    ∃ v' l, v = .agg #[v'] ∧ RdNd W.heap.size W v' l ∧ ∀ n ∈ l, fitI (nR n) ∧ fitI (nO n) := by
  obtain ⟨cs, rfl, hsz⟩ := agg_of Tryd.underlying24 hv
  rw [nSh] at hsz
  obtain ⟨fuel, hf⟩ := h
  obtain ⟨y0, n, _, _, t0⟩ := trod_struct1 Tryd.underlying24 hf
  simp only [nSl, Value.cells] at t0
  obtain ⟨v', l, hc, hr, hb⟩ := open_nodes t0
  refine ⟨v', l, ?_, hr, hb⟩
  have e : cs.toList = [v'] := by
    rw [← hc, List.drop_zero, List.take_of_length_le (by simpa using Nat.le_of_eq hsz)]
  rw [show cs = cs.toList.toArray from rfl, e]

set_option maxRecDepth 100000 in
theorem open_change {r : Reach} {base : Nat} {v : Value} {d : DataW H} {p : List MemPlace}
    (hv : Value.okWide Tryd.prog W r base 37 v) (h : DataW.Trod enc Tryd.prog W 0 spare held 37 v d p) :
    ∃ c : Nd, v = .agg (ndc c).toArray ∧ fitI (nR c) ∧ fitI (nO c) := by
  obtain ⟨cs, rfl, hsz⟩ := agg_of Tryd.underlying37 hv
  rw [nCh] at hsz
  obtain ⟨fuel, hf⟩ := h
  obtain ⟨y0, y1, y2, y3, n, _, hl, t0, t1, t2, t3⟩ := Go.Joins.trod_struct4 Tryd.underlying37 hf
  simp only [nTx, nIn, Value.cells] at t0 t1 t2 t3
  obtain ⟨a, ha, _, _⟩ := DataW.trod_string Tryd.underlying9 t0
  obtain ⟨b, hb, _, _⟩ := DataW.trod_string Tryd.underlying9 t1
  obtain ⟨c, hc, _, wc⟩ := DataW.trod_int Tryd.underlying3 t2
  obtain ⟨d, hd, _, wd⟩ := DataW.trod_int Tryd.underlying3 t3
  refine ⟨(a.data.toList, b.data.toList, c, d), ?_, fit_wf wc, fit_wf wd⟩
  have e : cs.toList = ndc (a.data.toList, b.data.toList, c, d) := by
    rw [splitN cs.toList (by simpa using hsz), ha, hb, hc, hd, txt_of a, txt_of b]
    rfl
  rw [← e]
end
end Go.Proofs.YtlpakfaoaodaiaaDoor
