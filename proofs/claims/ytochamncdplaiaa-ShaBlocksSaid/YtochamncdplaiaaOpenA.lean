/-
  An array of words of 32 bits that came in as an argument, of no program: what it holds. Each theorem states its own conditions.
-/
import Derived.Test.YtochamncdplaiaaOpen
import Derived.Test.YtochamncdplaiaaA2
namespace Go.Proofs.Ytochamncdplaiaa
open Go.RowKit Go.ChangeShapes Go.WideShapes

def natOf : Value → Nat
  | .int _ z => z.toNat
  | _ => 0

theorem open_words {H : Type} {enc : TypeId × Value → H} {P : Program} {W : World} {r : Reach} {base n : Nat} {t e : TypeId} {v : Value} {d : DataW H} {p : List MemPlace} (ht : P.underlying t = some (.array n e)) (he : P.underlying e = some (.int .u32)) (hc : P.cellsOf e = 1) (hct : P.cellsOf t = n)
    (hv : Value.okWide P W r base t v) (h : DataW.Trod enc P W 0 (fun _ => true) true t v d p) : ∃ s : List Nat, v = .agg (ws s).toArray ∧ s.length = n ∧ W32 s := by
  obtain ⟨cs, rfl, hsz, _⟩ : ∃ cs, v = .agg cs ∧ cs.size = P.cellsOf t ∧ Row.okWide P W r base t cs := by simpa [Value.okWide, ht] using hv
  rw [hct] at hsz
  obtain ⟨fuel, hf⟩ := h
  obtain ⟨xs, m, _, _, _, hx, hall⟩ := DataW.trod_array ht hf
  have key : ∀ i (hi : i < cs.toList.length), ∃ z : Nat, cs.toList[i] = .int .u32 (z : Int) ∧ z < 4294967296 := by
    intro i hi
    have hin : i < n := by simpa [hsz] using hi
    have h1 := hall i hin
    rw [hc, Nat.mul_one, List.getElem?_eq_getElem (by omega)] at h1
    obtain ⟨z, hz, _, hw⟩ := DataW.trod_int he h1
    have hb := bounds_u32 hw
    have h2 : (List.take 1 (List.drop i cs.toList)) = [cs.toList[i]] := by
      rw [List.drop_eq_getElem_cons hi]; rfl
    have hz' : (List.take 1 (List.drop i cs.toList)) = [.int .u32 z] := hz
    rw [h2] at hz'
    injection hz' with hz1 _
    exact ⟨z.toNat, by rw [hz1]; congr 1; omega, by omega⟩
  refine ⟨cs.toList.map natOf, ?_, by simp [hsz], ?_⟩
  · have : ws (cs.toList.map natOf) = cs.toList := by
      unfold ws
      rw [List.map_map]
      conv => rhs; rw [← List.map_id cs.toList]
      refine List.map_congr_left (fun u hu => ?_)
      obtain ⟨i, hi, rfl⟩ := List.getElem_of_mem hu
      obtain ⟨z, hz, _⟩ := key i hi
      rw [hz]; simp [natOf]
    rw [this]
  · intro y hy
    obtain ⟨u, hu, rfl⟩ := List.mem_map.1 hy
    obtain ⟨i, hi, rfl⟩ := List.getElem_of_mem hu
    obtain ⟨z, hz, hlt⟩ := key i hi
    rw [hz]; simpa [natOf] using hlt
end Go.Proofs.Ytochamncdplaiaa
