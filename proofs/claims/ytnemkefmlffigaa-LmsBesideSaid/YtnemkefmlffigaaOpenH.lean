/-
  A hash (an array of 32 bytes) that came in as an argument, of no program: what it holds. Each theorem states its own conditions.
-/
import Derived.Test.YtnemkefmlffigaaOpen
import Derived.Test.YtnemkefmlffigaaMs
namespace Go.Proofs.Ytnemkefmlffigaa
open Go.RowKit Go.ChangeShapes Go.WideShapes

def byteOf : Value → UInt8
  | .int _ z => UInt8.ofNat z.toNat
  | _ => 0

theorem open_hash {H : Type} {enc : TypeId × Value → H} {P : Program} {W : World} {r : Reach} {base n : Nat} {t e : TypeId} {v : Value} {d : DataW H} {p : List MemPlace} (ht : P.underlying t = some (.array n e)) (he : P.underlying e = some (.int .u8)) (hc : P.cellsOf e = 1) (hct : P.cellsOf t = n)
    (hv : Value.okWide P W r base t v) (h : DataW.Trod enc P W 0 (fun _ => true) true t v d p) : ∃ l : List UInt8, v = .agg (bys l).toArray ∧ l.length = n := by
  obtain ⟨cs, rfl, hsz, _⟩ : ∃ cs, v = .agg cs ∧ cs.size = P.cellsOf t ∧ Row.okWide P W r base t cs := by simpa [Value.okWide, ht] using hv
  rw [hct] at hsz
  obtain ⟨fuel, hf⟩ := h
  obtain ⟨xs, m, _, _, _, hx, hall⟩ := DataW.trod_array ht hf
  have key : ∀ i (hi : i < cs.toList.length), ∃ b : UInt8, cs.toList[i] = .int .u8 (b.toNat : Int) := by
    intro i hi
    have hin : i < n := by simpa [hsz] using hi
    have h1 := hall i hin
    rw [hc, Nat.mul_one, List.getElem?_eq_getElem (by omega)] at h1
    obtain ⟨z, hz, _, hw⟩ := DataW.trod_int he h1
    have hb := bounds_u8 hw
    have h2 : (List.take 1 (List.drop i cs.toList)) = [cs.toList[i]] := by
      rw [List.drop_eq_getElem_cons hi]; rfl
    have hz' : (List.take 1 (List.drop i cs.toList)) = [.int .u8 z] := hz
    rw [h2] at hz'
    injection hz' with hz1 _
    refine ⟨UInt8.ofNat z.toNat, ?_⟩
    rw [hz1]
    congr 1
    rw [show (UInt8.ofNat z.toNat).toNat = z.toNat % 256 from by simp]
    omega
  refine ⟨cs.toList.map byteOf, ?_, by simp [hsz]⟩
  have : bys (cs.toList.map byteOf) = cs.toList := by
    unfold bys
    rw [List.map_map]
    conv => rhs; rw [← List.map_id cs.toList]
    refine List.map_congr_left (fun u hu => ?_)
    obtain ⟨i, hi, rfl⟩ := List.getElem_of_mem hu
    obtain ⟨b, hb⟩ := key i hi
    rw [hb]; simp [byteOf]
  rw [this]
end Go.Proofs.Ytnemkefmlffigaa
