/-
  A book that came in as an argument: what it holds. Each theorem states its own conditions.
-/
import Derived.Test.YtjcombbmngpkpaaR2
import Derived.Test.YtjcombbmngpkpaaJA
import Derived.Deep.Strs
namespace Go.Proofs.Ytjcombbmngpkpaa
open Go.RowKit Go.ChangeShapes Go.WideShapes

theorem nInB : Try.prog.cellsOf 3 = 1 := by kernel_rfl
theorem nSlB : Try.prog.cellsOf 22 = 1 := by kernel_rfl
theorem nSeB : Try.prog.cellsOf 56 = 3 := by kernel_rfl
theorem nBkB : Try.prog.cellsOf 24 = 2 := by kernel_rfl
theorem bSeB : Try.prog.bytesOf 56 = 24 := by kernel_rfl
theorem split3B (cs : List Value) (h : cs.length = 3) : cs = (cs.drop 0).take 1 ++ ((cs.drop 1).take 1 ++ (cs.drop 2).take 1) := by
  match cs, h with
  | [_, _, _], _ => rfl
theorem split2B (cs : List Value) (h : cs.length = 2) : cs = (cs.drop 0).take 1 ++ (cs.drop 1).take 1 := by
  match cs, h with
  | [_, _], _ => rfl
def fitS (x : Se) : Prop := fitI (sI x) ∧ fitI (sP x) ∧ fitI (sU x)

section
variable {H : Type} {enc : TypeId × Value → H} {W : World} {spare : TypeId → Bool} {held : Bool}
theorem trod_sess (fuel : Nat) (cs : List Value) (x : DataW H × List MemPlace) (h : DataW.trod enc Try.prog W 0 spare held fuel 56 cs = some x) : ∃ n : Se, cs = SeK.enc n ∧ fitS n := by
  obtain ⟨y0, y1, y2, n, _, hl, t0, t1, t2⟩ := Deep.trod_struct3 Try.underlying56 h
  simp only [nInB] at t0 t1 t2
  obtain ⟨a, ha, _, wa⟩ := DataW.trod_int Try.underlying3 t0
  obtain ⟨b, hb, _, wb⟩ := DataW.trod_int Try.underlying3 t1
  obtain ⟨c, hc, _, wc⟩ := DataW.trod_int Try.underlying3 t2
  refine ⟨(a, b, c), ?_, fit_wf wa, fit_wf wb, fit_wf wc⟩
  rw [split3B cs (by rw [hl, nSeB]), ha, hb, hc]
  rfl

set_option maxRecDepth 100000 in
theorem open_book {r : Reach} {base : Nat} {v : Value} {d : DataW H} {p : List MemPlace}
    (hv : Value.okWide Try.prog W r base 24 v) (h : DataW.Trod enc Try.prog W 0 spare held 24 v d p) :
    ∃ t v' l, v = .agg #[.int .i64 t, v'] ∧ fitI t ∧ RdE SeK W.heap.size W v' l ∧ (∀ n ∈ l, fitS n) ∧ (l.length = 0 ∨ ∃ m ∈ d.weights Try.prog 24, l.length * 24 ≤ m) := by
  obtain ⟨cs, rfl, hsz⟩ := agg_of Try.underlying24 hv
  rw [nBkB] at hsz
  obtain ⟨fuel, hf⟩ := h
  obtain ⟨y0, y1, n, hd, _, t0, t1⟩ := trod_struct2 Try.underlying24 hf
  simp only [nSlB, nInB, Value.cells] at t0 t1
  obtain ⟨t, ht, _, wt⟩ := DataW.trod_int Try.underlying3 t0
  obtain ⟨v', l, hc, hr, hb, hw⟩ := open_rowsE (E := SeK) (F := fitS) Try.underlying22 nSeB trod_sess t1
  refine ⟨t, v', l, ?_, fit_wf wt, hr, hb, ?_⟩
  · have e : cs.toList = [.int .i64 t, v'] := by
      rw [split2B cs.toList (by simpa using hsz), ht, hc]
      rfl
    rw [show cs = cs.toList.toArray from rfl, e]
  · rcases hw with h0 | ⟨m, hm, hlm⟩
    · exact .inl h0
    · rw [bSeB] at hlm
      refine .inr ⟨m, ?_, hlm⟩
      have hd1 : d = .agg [y0.1, y1.1] := congrArg Prod.fst hd
      rw [hd1]
      simp only [DataW.weights, Try.underlying24]
      simp only [DataW.weightsEach, List.map_cons, List.map_nil, List.append_nil, List.mem_append]
      exact .inr hm
theorem open_i4f {r : Reach} {base : Nat} {v : Value} {d : DataW H} {p : List MemPlace} (hv : Value.okWide Try.prog W r base 51 v) (h : DataW.Trod enc Try.prog W 0 spare held 51 v d p) :
    ∃ a b c e : Int, v = .agg #[.int .i64 a, .int .i64 b, .int .i64 c, .int .i64 e] ∧ fitI a ∧ fitI b ∧ fitI c ∧ fitI e := by
  obtain ⟨l, rfl, hl, hf⟩ := open_intsA Try.underlying51 Try.underlying3 nInB (by kernel_rfl) hv h
  match l, hl, hf with
  | [a, b, c, e], _, hf => exact ⟨a, b, c, e, rfl, hf a (by simp), hf b (by simp), hf c (by simp), hf e (by simp)⟩
theorem open_i3f {r : Reach} {base : Nat} {v : Value} {d : DataW H} {p : List MemPlace} (hv : Value.okWide Try.prog W r base 53 v) (h : DataW.Trod enc Try.prog W 0 spare held 53 v d p) :
    ∃ a b c : Int, v = .agg #[.int .i64 a, .int .i64 b, .int .i64 c] ∧ fitI a ∧ fitI b ∧ fitI c := by
  obtain ⟨l, rfl, hl, hf⟩ := open_intsA Try.underlying53 Try.underlying3 nInB (by kernel_rfl) hv h
  match l, hl, hf with
  | [a, b, c], _, hf => exact ⟨a, b, c, rfl, hf a (by simp), hf b (by simp), hf c (by simp)⟩
end
end Go.Proofs.Ytjcombbmngpkpaa
