/-
  Tables, watches and changes that came in as arguments: what they hold. Each theorem states its own conditions.
-/
import Derived.Test.YtmiomfonglmfjaaR2
import Derived.Test.YtmiomfonglmfjaaUA
import Derived.Deep.Strs
import Derived.Deep.Grids
namespace Go.Proofs.Ytmiomfonglmfjaa
open Go.RowKit Go.ChangeShapes Go.WideShapes

theorem nTxU : Try.prog.cellsOf 9 = 1 := by kernel_rfl
theorem nInU : Try.prog.cellsOf 3 = 1 := by kernel_rfl
theorem nBoU : Try.prog.cellsOf 4 = 1 := by kernel_rfl
theorem nSlU : Try.prog.cellsOf 22 = 1 := by kernel_rfl
theorem nWaU : Try.prog.cellsOf 31 = 3 := by kernel_rfl
theorem nChU : Try.prog.cellsOf 26 = 2 := by kernel_rfl
theorem nTbU : Try.prog.cellsOf 24 = 1 := by kernel_rfl
theorem split3U (cs : List Value) (h : cs.length = 3) : cs = (cs.drop 0).take 1 ++ ((cs.drop 1).take 1 ++ (cs.drop 2).take 1) := by
  match cs, h with
  | [_, _, _], _ => rfl
theorem split2U (cs : List Value) (h : cs.length = 2) : cs = (cs.drop 0).take 1 ++ (cs.drop 1).take 1 := by
  match cs, h with
  | [_, _], _ => rfl
theorem txt_ofU (s : ByteArray) : Value.string s = txt s.data.toList := by
  cases s
  simp [txt]

section
variable {H : Type} {enc : TypeId × Value → H} {W : World} {spare : TypeId → Bool} {held : Bool}
theorem trod_watch (fuel : Nat) (cs : List Value) (x : DataW H × List MemPlace) (h : DataW.trod enc Try.prog W 0 spare held fuel 31 cs = some x) : ∃ n : Wa, cs = WaK.enc n ∧ fitI (wC n) := by
  obtain ⟨y0, y1, y2, n, _, hl, t0, t1, t2⟩ := Deep.trod_struct3 Try.underlying31 h
  simp only [nTxU, nInU, nBoU] at t0 t1 t2
  obtain ⟨a, ha, _, _⟩ := DataW.trod_string Try.underlying9 t0
  obtain ⟨b, hb, _, wb⟩ := DataW.trod_int Try.underlying3 t1
  obtain ⟨c, hc, _⟩ := DataW.trod_bool Try.underlying4 t2
  refine ⟨(a.data.toList, b, c), ?_, fit_wf wb⟩
  rw [split3U cs (by rw [hl, nWaU]), ha, hb, hc, txt_ofU a]
  rfl
theorem trod_change (fuel : Nat) (cs : List Value) (x : DataW H × List MemPlace) (h : DataW.trod enc Try.prog W 0 spare held fuel 26 cs = some x) : ∃ n : Ch, cs = ChK.enc n ∧ fitI (cK n) := by
  obtain ⟨y0, y1, n, _, hl, t0, t1⟩ := trod_struct2 Try.underlying26 h
  simp only [nTxU, nInU] at t0 t1
  obtain ⟨a, ha, _, wa⟩ := DataW.trod_int Try.underlying3 t0
  obtain ⟨b, hb, _, _⟩ := DataW.trod_string Try.underlying9 t1
  refine ⟨(a, b.data.toList), ?_, fit_wf wa⟩
  rw [split2U cs (by rw [hl, nChU]), ha, hb, txt_ofU b]
  rfl

set_option maxRecDepth 100000 in
theorem open_table {r : Reach} {base : Nat} {v : Value} {d : DataW H} {p : List MemPlace}
    (hv : Value.okWide Try.prog W r base 24 v) (h : DataW.Trod enc Try.prog W 0 spare held 24 v d p) :
    ∃ v' l, v = .agg #[v'] ∧ RdE WaK W.heap.size W v' l := by
  obtain ⟨cs, rfl, hsz⟩ := agg_of Try.underlying24 hv
  rw [nTbU] at hsz
  obtain ⟨fuel, hf⟩ := h
  obtain ⟨y0, n, _, _, t0⟩ := trod_struct1 Try.underlying24 hf
  simp only [nSlU, Value.cells] at t0
  obtain ⟨v', l, hc, hr, _, _⟩ := open_rowsE (E := WaK) (F := fun n => fitI (wC n)) Try.underlying22 nWaU trod_watch t0
  refine ⟨v', l, ?_, hr⟩
  have e : cs.toList = [v'] := by
    rw [← hc, List.drop_zero, List.take_of_length_le (by simpa using Nat.le_of_eq hsz)]
  rw [show cs = cs.toList.toArray from rfl, e]
theorem open_watch {r : Reach} {base : Nat} {v : Value} {d : DataW H} {p : List MemPlace}
    (hv : Value.okWide Try.prog W r base 31 v) (h : DataW.Trod enc Try.prog W 0 spare held 31 v d p) : ∃ x : Wa, v = .agg (wac x).toArray ∧ fitI (wC x) := by
  obtain ⟨cs, rfl, _⟩ := agg_of Try.underlying31 hv
  obtain ⟨fuel, hf⟩ := h
  obtain ⟨x, hx, fx⟩ := trod_watch fuel _ _ hf
  refine ⟨x, ?_, fx⟩
  have e : cs.toList = wac x := hx
  rw [← e]
theorem open_chg {r : Reach} {base : Nat} {v : Value} {d : DataW H} {p : List MemPlace}
    (hv : Value.okWide Try.prog W r base 26 v) (h : DataW.Trod enc Try.prog W 0 spare held 26 v d p) : ∃ x : Ch, v = .agg (chc x).toArray ∧ fitI (cK x) := by
  obtain ⟨cs, rfl, _⟩ := agg_of Try.underlying26 hv
  obtain ⟨fuel, hf⟩ := h
  obtain ⟨x, hx, fx⟩ := trod_change fuel _ _ hf
  refine ⟨x, ?_, fx⟩
  have e : cs.toList = chc x := hx
  rw [← e]
theorem open_chgs {r : Reach} {base : Nat} {v : Value} {d : DataW H} {p : List MemPlace}
    (hv : Value.okWide Try.prog W r base 44 v) (h : DataW.Trod enc Try.prog W 0 spare held 44 v d p) : ∃ l, RdE ChK W.heap.size W v l := by
  obtain ⟨a, n, c, rfl⟩ := okWide_slice Try.underlying44 hv
  obtain ⟨fuel, hf⟩ := h
  obtain ⟨v', l, hc, hr, _, _⟩ := open_rowsE (E := ChK) (F := fun n => fitI (cK n)) Try.underlying44 nChU trod_change hf
  obtain rfl : Value.slice a n c = v' := by simpa [Value.cells] using hc
  exact ⟨l, hr⟩
end
end Go.Proofs.Ytmiomfonglmfjaa
