/-
  A size that came in as an argument: what it holds. Each theorem states its own conditions.
-/
import Derived.Test.YtgabkeohihdenaaZA
import Derived.Test.YtgabkeohihdenaaOP
namespace Go.Proofs.Ytgabkeohihdenaa
open Go.RowKit Go.ChangeShapes Go.WideShapes

theorem tcI : Try.prog.cellsOf 3 = 1 := by kernel_rfl
theorem tcS : Try.prog.cellsOf 23 = 2 := by kernel_rfl
theorem split2 (cs : List Value) (h : cs.length = 2) : cs = (cs.drop 0).take 1 ++ (cs.drop 1).take 1 := by
  match cs, h with
  | [_, _], _ => rfl

set_option maxRecDepth 100000 in
theorem open_size {H : Type} {enc : TypeId × Value → H} {W : World} {r : Reach} {base : Nat} {v : Value} {d : DataW H} {p : List MemPlace}
    (hv : Value.okWide Try.prog W r base 23 v) (h : DataW.Trod enc Try.prog W 0 (fun _ => true) true 23 v d p) :
    ∃ f t : Int, v = .agg (szl f t).toArray := by
  obtain ⟨cs, rfl, hsz⟩ := ok_struct Try.underlying23 hv
  rw [tcS] at hsz
  obtain ⟨fuel, hf⟩ := h
  obtain ⟨y0, y1, n, _, _, t0, t1⟩ := trod_struct2 Try.underlying23 hf
  simp only [tcI, Value.cells] at t0 t1
  obtain ⟨a, ha, _, _⟩ := DataW.trod_int Try.underlying3 t0
  obtain ⟨b, hb, _, _⟩ := DataW.trod_int Try.underlying3 t1
  have hs2 := split2 cs.toList (by simpa using hsz)
  refine ⟨a, b, ?_⟩
  have e : cs.toList = szl a b := by
    rw [hs2, ha, hb]
    rfl
  rw [← e]
end Go.Proofs.Ytgabkeohihdenaa
