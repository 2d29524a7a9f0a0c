/-
  A purse that came in as an argument: what it holds. Each theorem states its own conditions.
-/
import Derived.Test.YtllncnnigjgadaaGreatPA
import Derived.Test.YtllncnnigjgadaaGreatOP
namespace Go.Proofs.YtllncnnigjgadaaGreat
open Go.RowKit Go.ChangeShapes Go.WideShapes

theorem tcP : Tryz.prog.cellsOf 34 = 53 := by kernel_rfl
theorem split53 (cs : List Value) (h : cs.length = 53) : cs = (cs.drop 0).take 50 ++ ((cs.drop 50).take 1 ++ ((cs.drop 51).take 1 ++ (cs.drop 52).take 1)) := by
  have e1 : (cs.drop 52).take 1 = cs.drop 52 := List.take_of_length_le (by simp [h])
  have e2 : (cs.drop 51).take 1 ++ cs.drop 52 = cs.drop 51 := by
    have := List.take_append_drop 1 (cs.drop 51)
    rw [List.drop_drop] at this
    exact this
  have e3 : (cs.drop 50).take 1 ++ cs.drop 51 = cs.drop 50 := by
    have := List.take_append_drop 1 (cs.drop 50)
    rw [List.drop_drop] at this
    exact this
  rw [e1, e2, e3]
  simp

set_option maxRecDepth 100000 in
theorem open_purse {H : Type} {enc : TypeId × Value → H} {W : World} {r : Reach} {base : Nat} {v : Value} {d : DataW H} {p : List MemPlace}
    (hv : Value.okWide Tryz.prog W r base 34 v) (h : DataW.Trod enc Tryz.prog W 0 (fun _ => true) true 34 v d p) :
    ∃ (I seed : List UInt8) (z y n m s : Int), v = .agg (pcs I seed z y n m s).toArray ∧ I.length = 16 ∧ seed.length = 32 := by
  obtain ⟨cs, rfl, hsz⟩ := ok_struct Tryz.underlying34 hv
  rw [tcP] at hsz
  obtain ⟨fuel, hf⟩ := h
  obtain ⟨x0, x1, x2, x3, n, _, _, s0, s1, s2, s3⟩ := Go.Joins.trod_struct4 Tryz.underlying34 hf
  simp only [tcT, tc3, Value.cells] at s0 s1 s2 s3
  obtain ⟨a, ha, _, _⟩ := DataW.trod_int Tryz.underlying3 s1
  obtain ⟨b, hb, _, _⟩ := DataW.trod_int Tryz.underlying3 s2
  obtain ⟨c, hc, _, _⟩ := DataW.trod_int Tryz.underlying3 s3
  have hsp := split53 cs.toList (by simpa using hsz)
  obtain ⟨T, hT⟩ : ∃ T, (cs.toList.drop 0).take 50 = T := ⟨_, rfl⟩
  have hTl : T.length = 50 := by rw [← hT]; simp [hsz]
  rw [hT] at s0 hsp
  obtain ⟨y0, y1, y2, y3, n2, _, _, t0, t1, t2, t3⟩ := Go.Joins.trod_struct4 Tryz.underlying32 s0
  simp only [tc16, tc32, tc3] at t0 t1 t2 t3
  obtain ⟨I, hI, hIl⟩ := trod_bytes tu22 Tryz.underlying5 tc5 tc16 t0
  obtain ⟨seed, hS, hSl⟩ := trod_bytes tu24 Tryz.underlying5 tc5 tc32 t1
  obtain ⟨z, hz, _, _⟩ := DataW.trod_int Tryz.underlying3 t2
  obtain ⟨y, hy, _, _⟩ := DataW.trod_int Tryz.underlying3 t3
  have hs2 := split50T T hTl
  refine ⟨I, seed, z, y, a, b, c, ?_, hIl, hSl⟩
  have e : T = tcs I seed z y := by
    rw [hs2, hI, hS, hz, hy]
    rfl
  have e2 : cs.toList = pcs I seed z y a b c := by
    rw [hsp, ha, hb, hc, e]
    rfl
  rw [← e2]
end Go.Proofs.YtllncnnigjgadaaGreat
