/-
  Texts KO BL.
-/
import Derived.Deep.Strs
import Derived.Deep.Grids
import Derived.Test.YtgfobinklijkpaaGreatDoorW06
import Derived.Test.YtgfobinklijkpaaGreatDoorW13
import Derived.Test.YtgfobinklijkpaaGreatDoorW31
namespace Go.Proofs.YtgfobinklijkpaaGreatDoor
set_option maxRecDepth 100000
set_option maxHeartbeats 16000000
open Go.RowKit Go.ChangeShapes Go.WideShapes
theorem nTxK : Tryz.prog.cellsOf 9 = 1 := by kernel_rfl
theorem nInK : Tryz.prog.cellsOf 3 = 1 := by kernel_rfl
theorem nOrK : Tryz.prog.cellsOf 86 = 8 := by kernel_rfl
theorem txt_ofK (s : ByteArray) : Value.string s = txt s.data.toList := by
 cases s
 simp [txt]
theorem split8K (cs : List Value) (h : cs.length = 8) : cs = (cs.drop 0).take 1 ++ ((cs.drop 1).take 1 ++ ((cs.drop 2).take 1 ++ ((cs.drop 3).take 1 ++ ((cs.drop 4).take 1 ++ ((cs.drop 5).take 1 ++ ((cs.drop 6).take 1 ++ ((cs.drop 7).take 1))))))) := by
 match cs, h with
 | [_, _, _, _, _, _, _, _], _ => rfl
section
variable {H : Type} {enc : TypeId × Value → H} {P : Program} {w : World} {base : Nat} {spare : TypeId → Bool} {held : Bool}
theorem trod_struct8K {t : TypeId} {f0 f1 f2 f3 f4 f5 f6 f7 : Field} {fuel : Nat} {cs : List Value} {x : DataW H × List MemPlace} (ht : P.underlying t = some (.struct #[f0, f1, f2, f3, f4, f5, f6, f7])) (h : DataW.trod enc P w base spare held fuel t cs = some x) :
 ∃ y0 y1 y2 y3 y4 y5 y6 y7 n, cs.length = P.cellsOf t ∧ DataW.trod enc P w base spare held n f0.type ((cs.drop f0.offset).take (P.cellsOf f0.type)) = some y0 ∧ DataW.trod enc P w base spare held n f1.type ((cs.drop f1.offset).take (P.cellsOf f1.type)) = some y1 ∧ DataW.trod enc P w base spare held n f2.type ((cs.drop f2.offset).take (P.cellsOf f2.type)) = some y2 ∧ DataW.trod enc P w base spare held n f3.type ((cs.drop f3.offset).take (P.cellsOf f3.type)) = some y3 ∧ DataW.trod enc P w base spare held n f4.type ((cs.drop f4.offset).take (P.cellsOf f4.type)) = some y4 ∧ DataW.trod enc P w base spare held n f5.type ((cs.drop f5.offset).take (P.cellsOf f5.type)) = some y5 ∧ DataW.trod enc P w base spare held n f6.type ((cs.drop f6.offset).take (P.cellsOf f6.type)) = some y6 ∧ DataW.trod enc P w base spare held n f7.type ((cs.drop f7.offset).take (P.cellsOf f7.type)) = some y7 := by
 obtain ⟨xs, n, _, rfl, hl, hlen, hf⟩ := DataW.trod_struct ht h
 match xs, hlen with
 | [y0, y1, y2, y3, y4, y5, y6, y7], _ => exact ⟨y0, y1, y2, y3, y4, y5, y6, y7, n, hl, by simpa using hf 0 f0 rfl, by simpa using hf 1 f1 rfl, by simpa using hf 2 f2 rfl, by simpa using hf 3 f3 rfl, by simpa using hf 4 f4 rfl, by simpa using hf 5 f5 rfl, by simpa using hf 6 f6 rfl, by simpa using hf 7 f7 rfl⟩
end
section
variable {H : Type} {enc : TypeId × Value → H} {W : World} {spare : TypeId → Bool} {held : Bool}
end
section
variable {H : Type} {enc : TypeId × Value → H} {W : World} {spare : TypeId → Bool} {held : Bool}
theorem trod_orderB (fuel : Nat) (cs : List Value) (x : DataW H × List MemPlace) (h : DataW.trod enc Tryz.prog W 0 spare held fuel 86 cs = some x) : ∃ o : Or, cs = OrK.enc o ∧ fitsO o := by
 obtain ⟨y0, y1, y2, y3, y4, y5, y6, y7, n, hl, t0, t1, t2, t3, t4, t5, t6, t7⟩ := trod_struct8K Tryz.underlying86 h
 simp only [nTxK, nInK] at t0 t1 t2 t3 t4 t5 t6 t7
 obtain ⟨a0, h0, _, w0⟩ := DataW.trod_int Tryz.underlying3 t0
 obtain ⟨a1, h1, _, w1⟩ := DataW.trod_int Tryz.underlying3 t1
 obtain ⟨a2, h2, _, w2⟩ := DataW.trod_int Tryz.underlying3 t2
 obtain ⟨a3, h3, _, _⟩ := DataW.trod_string Tryz.underlying9 t3
 obtain ⟨a4, h4, _, _⟩ := DataW.trod_string Tryz.underlying9 t4
 obtain ⟨a5, h5, _, w5⟩ := DataW.trod_int Tryz.underlying3 t5
 obtain ⟨a6, h6, _, w6⟩ := DataW.trod_int Tryz.underlying3 t6
 obtain ⟨a7, h7, _, w7⟩ := DataW.trod_int Tryz.underlying3 t7
 refine ⟨(a0, a1, a2, a3.data.toList, a4.data.toList, a5, a6, a7), ?_, fit_wf w5, fit_wf w6, fit_wf w7⟩
 rw [split8K cs (by rw [hl, nOrK]), h0, h1, h2, h3, h4, h5, h6, h7, txt_ofK a3, txt_ofK a4]
 rfl
theorem open_ordersB {r : Reach} {base : Nat} {v : Value} {d : DataW H} {p : List MemPlace}
 (hv : Value.okWide Tryz.prog W r base 22 v) (h : DataW.Trod enc Tryz.prog W 0 spare held 22 v d p) : ∃ l, RdE OrK W.heap.size W v l ∧ ∀ o ∈ l, fitsO o := by
 obtain ⟨a, n, c, rfl⟩ := okWide_slice Tryz.underlying22 hv
 obtain ⟨fuel, hf⟩ := h
 obtain ⟨v', l, hc, hr, hF, _⟩ := open_rowsE (E := OrK) (F := fitsO) Tryz.underlying22 nOrK trod_orderB hf
 obtain rfl : Value.slice a n c = v' := by simpa [Value.cells] using hc
 exact ⟨l, hr, hF⟩
end
end Go.Proofs.YtgfobinklijkpaaGreatDoor
