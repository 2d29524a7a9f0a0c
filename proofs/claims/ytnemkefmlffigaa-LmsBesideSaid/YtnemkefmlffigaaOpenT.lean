/-
  A tree of package lms that came in as an argument: what it holds. Each theorem states its own conditions.
-/
import Derived.Test.YtnemkefmlffigaaL2
import Derived.Test.YtnemkefmlffigaaOpenH
import Derived.Lib.SmallJoins
namespace Go.Proofs.Ytnemkefmlffigaa
open Go.RowKit Go.ChangeShapes Go.WideShapes

section
variable {H : Type} {enc : TypeId × Value → H} {P : Program} {W : World} {spare : TypeId → Bool} {held : Bool}

theorem trod_bytes {fuel n : Nat} {t e : TypeId} {cs : List Value} {x : DataW H × List MemPlace} (ht : P.underlying t = some (.array n e)) (he : P.underlying e = some (.int .u8)) (hc : P.cellsOf e = 1) (hct : P.cellsOf t = n)
    (h : DataW.trod enc P W 0 spare held fuel t cs = some x) : ∃ l : List UInt8, cs = bys l ∧ l.length = n := by
  obtain ⟨xs, m, _, _, hsz, hx, hall⟩ := DataW.trod_array ht h
  rw [hct] at hsz
  have key : ∀ i (hi : i < cs.length), ∃ b : UInt8, cs[i] = .int .u8 (b.toNat : Int) := by
    intro i hi
    have h1 := hall i (by omega)
    rw [hc, Nat.mul_one, List.getElem?_eq_getElem (by omega)] at h1
    obtain ⟨z, hz, _, hw⟩ := DataW.trod_int he h1
    have hb := bounds_u8 hw
    have h2 : (List.take 1 (List.drop i cs)) = [cs[i]] := by
      rw [List.drop_eq_getElem_cons hi]; rfl
    rw [h2] at hz
    injection hz with hz1 _
    refine ⟨UInt8.ofNat z.toNat, ?_⟩
    rw [hz1]
    congr 1
    rw [show (UInt8.ofNat z.toNat).toNat = z.toNat % 256 from by simp]
    omega
  refine ⟨cs.map byteOf, ?_, by simp [hsz]⟩
  unfold bys
  rw [List.map_map]
  conv => lhs; rw [← List.map_id cs]
  refine List.map_congr_left (fun u hu => ?_)
  obtain ⟨i, hi, rfl⟩ := List.getElem_of_mem hu
  obtain ⟨b, hb⟩ := key i hi
  rw [hb]; simp [byteOf]

end

theorem split50T (cs : List Value) (h : cs.length = 50) : cs = (cs.drop 0).take 16 ++ ((cs.drop 16).take 32 ++ ((cs.drop 48).take 1 ++ (cs.drop 49).take 1)) := by
  have e1 : (cs.drop 49).take 1 = cs.drop 49 := List.take_of_length_le (by simp [h])
  have e2 : (cs.drop 48).take 1 ++ cs.drop 49 = cs.drop 48 := by
    have := List.take_append_drop 1 (cs.drop 48)
    rw [List.drop_drop] at this
    exact this
  have e3 : (cs.drop 16).take 32 ++ cs.drop 48 = cs.drop 16 := by
    have := List.take_append_drop 32 (cs.drop 16)
    rw [List.drop_drop] at this
    exact this
  rw [e1, e2, e3]
  simp

theorem ok_struct {P : Program} {W : World} {r : Reach} {base : Nat} {t : TypeId} {v : Value} {fs : Array Field} (ht : P.underlying t = some (.struct fs)) (hv : Value.okWide P W r base t v) : ∃ cs, v = .agg cs ∧ cs.size = P.cellsOf t := by
  obtain ⟨cs, rfl, hsz, _⟩ : ∃ cs, v = .agg cs ∧ cs.size = P.cellsOf t ∧ Row.okWide P W r base t cs := by simpa [Value.okWide, ht] using hv
  exact ⟨cs, rfl, hsz⟩

theorem tc23 : Try.prog.cellsOf 23 = 1 := by kernel_rfl
theorem tc3 : Try.prog.cellsOf 3 = 1 := by kernel_rfl
theorem tc16 : Try.prog.cellsOf 22 = 16 := by kernel_rfl
theorem tc32 : Try.prog.cellsOf 28 = 32 := by kernel_rfl
theorem tcT : Try.prog.cellsOf 34 = 50 := by kernel_rfl
theorem tc5 : Try.prog.cellsOf 5 = 1 := by kernel_rfl

set_option maxRecDepth 100000 in
theorem open_tree {H : Type} {enc : TypeId × Value → H} {W : World} {r : Reach} {base : Nat} {v : Value} {d : DataW H} {p : List MemPlace}
    (hv : Value.okWide Try.prog W r base 34 v) (h : DataW.Trod enc Try.prog W 0 (fun _ => true) true 34 v d p) :
    ∃ (I seed : List UInt8) (z y : Int), v = .agg (tcs I seed z y).toArray ∧ I.length = 16 ∧ seed.length = 32 := by
  obtain ⟨cs, rfl, hsz⟩ := ok_struct Try.underlying34 hv
  rw [tcT] at hsz
  obtain ⟨fuel, hf⟩ := h
  obtain ⟨y0, y1, y2, y3, n, _, _, t0, t1, t2, t3⟩ := Go.Joins.trod_struct4 Try.underlying34 hf
  simp only [tc16, tc32, tc3, Value.cells] at t0 t1 t2 t3
  obtain ⟨I, hI, hIl⟩ := trod_bytes tu22 Try.underlying5 tc5 tc16 t0
  obtain ⟨seed, hS, hSl⟩ := trod_bytes tu24 Try.underlying5 tc5 tc32 t1
  obtain ⟨z, hz, _, hzw⟩ := DataW.trod_int Try.underlying3 t2
  obtain ⟨y, hy, _, hyw⟩ := DataW.trod_int Try.underlying3 t3
  have hsp := split50T cs.toList (by simpa using hsz)
  refine ⟨I, seed, z, y, ?_, hIl, hSl⟩
  have e : cs.toList = tcs I seed z y := by
    rw [hsp, hI, hS, hz, hy]
    rfl
  rw [← e]
end Go.Proofs.Ytnemkefmlffigaa
