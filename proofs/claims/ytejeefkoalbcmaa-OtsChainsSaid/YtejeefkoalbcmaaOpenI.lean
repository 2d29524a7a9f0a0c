/-
  An array of three ints that came in as an argument: what it holds.
-/
import Derived.Test.YtejeefkoalbcmaaLa
import Derived.Test.YtejeefkoalbcmaaOpenK
namespace Go.Proofs.Ytejeefkoalbcmaa
open Go.RowKit Go.ChangeShapes Go.WideShapes

set_option maxRecDepth 100000 in
theorem open_i3 {H : Type} {enc : TypeId × Value → H} {W : World} {r : Reach} {base : Nat} {v : Value} {d : DataW H} {p : List MemPlace}
    (hv : Value.okWide Try.prog W r base 27 v) (h : DataW.Trod enc Try.prog W 0 (fun _ => true) true 27 v d p) :
    ∃ b0 b1 b2 : Int, v = .agg (i3 b0 b1 b2).toArray := by
  obtain ⟨cs, rfl, hsz⟩ := ok_array ktu27 hv
  obtain ⟨fuel, hf⟩ := h
  obtain ⟨l, hl, hn, _⟩ := trod_ints ktu27 Try.underlying3 kc3 kc27 hf
  match l, hn with
  | [b0, b1, b2], _ => exact ⟨b0, b1, b2, by congr 1; exact Array.toList_inj.1 hl⟩
end Go.Proofs.Ytejeefkoalbcmaa
