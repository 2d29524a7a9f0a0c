/-
  A byte slice and a slice of strings that came in as arguments, of no program: what they read as, and how long they and their strings can be. Each theorem states its own conditions.
  A hash (an array of 32 bytes) that came in as an argument, of no program: what it holds. Each theorem states its own conditions.
  A tree of package lms that came in as an argument: what it holds. Each theorem states its own conditions.
-/
import Derived.Test.YteckenlbelgknaaMs
import Derived.ProofKit
import Derived.SizedLaws
import Derived.SliceStrings
import Derived.OpenShut
import Derived.Test.YteckenlbelgknaaLA
import Derived.Lib.SmallJoins
namespace Go.Proofs.Yteckenlbelgknaa
open Go.RowKit Go.ChangeShapes Go.WideShapes

section
variable {H : Type} {enc : TypeId × Value → H} {P : Program} {W : World}

theorem open_bytes {t e : TypeId} {a : Option Addr} {len cap : Nat} {d : DataW H} {p : List MemPlace} (ht : P.underlying t = some (.slice e)) (he : P.underlying e = some (.int .u8)) (hc : P.cellsOf e = 1)
    (h : DataW.Trod enc P W 0 (fun _ => true) true t (.slice a len cap) d p) :
    ∃ l : List UInt8, Rd W.heap.size W (.slice a len cap) l ∧ (l.length = 0 ∨ ∃ elems spare, d = .slice elems spare ∧ elems.length = l.length) := by
  obtain ⟨fuel, hf⟩ := h
  rcases open_ints ht he hc hf with ⟨hcs, _⟩ | ⟨x, l, c, zs, hcs, _, hl, hm, hz, hx, hcell, hwz⟩
  · simp [Value.cells] at hcs
    obtain ⟨rfl, rfl, rfl⟩ := hcs
    exact ⟨[], Rd.nil _ _, .inl rfl⟩
  · simp [Value.cells] at hcs
    obtain ⟨rfl, rfl, rfl⟩ := hcs
    have hz' : zs.length = cap := by simpa using hz
    have hlen : ((zs.take len).map fun z => UInt8.ofNat z.toNat).length = len := by simp; omega
    injection hx with hd _
    have hbnd : ∀ j, j < zs.length → (((UInt8.ofNat (zs.getD j 0).toNat).toNat : Nat) : Int) = zs.getD j 0 := by
      intro j hj
      have hmem : zs.getD j 0 ∈ zs := by
        rw [List.getD_eq_getElem?_getD, List.getElem?_eq_getElem hj, Option.getD_some]
        exact List.getElem_mem hj
      have hw := hwz _ hmem
      have hb := bounds_u8 hw
      generalize zs.getD j 0 = z at *
      rw [show (UInt8.ofNat z.toNat).toNat = z.toNat % 256 from by simp]
      omega
    refine ⟨(zs.take len).map fun z => UInt8.ofNat z.toNat, ⟨some x, cap, by rw [hlen], by omega, hm, fun h => (by cases h), fun y hy => ?_⟩, .inr ⟨_, _, hd, by simp [lits]⟩⟩
    cases hy
    have hread : ∀ j (h : j < ((zs.take len).map fun z => UInt8.ofNat z.toNat).length), W.cell? (x.add j) = some (.int .u8 (((zs.take len).map fun z => UInt8.ofNat z.toNat)[j].toNat : Int)) := by
      intro j hj
      rw [hcell j (by omega)]
      have e1 : ((zs.take len).map fun z => UInt8.ofNat z.toNat)[j] = UInt8.ofNat (zs.getD j 0).toNat := by
        simp [List.getD_eq_getElem?_getD, List.getElem?_eq_getElem (show j < zs.length by omega)]
      rw [e1, hbnd j (by omega)]
    refine ⟨fun h0 => ?_, hread⟩
    have := World.block_lt_of_cell? W _ (hread 0 h0)
    rwa [addr_block] at this

theorem open_strs {t e : TypeId} {a : Option Addr} {len cap : Nat} {d : DataW H} {p : List MemPlace} (ht : P.underlying t = some (.slice e)) (he : P.underlying e = some .string) (hc : P.cellsOf e = 1)
    (h : DataW.Trod enc P W 0 (fun _ => true) true t (.slice a len cap) d p) :
    ∃ ss : List ByteArray, RdS W.heap.size W (.slice a len cap) ss ∧ (ss.length = 0 ∨ ∃ spare, d = .slice (ChangeShapes.strs ss) spare) := by
  obtain ⟨fuel, hf⟩ := h
  rcases open_strings ht he hc hf with ⟨hcs, _⟩ | ⟨x, l, c, zs, hcs, _, hl, hm, hz, hx, hcell, hwz⟩
  · simp [Value.cells] at hcs
    obtain ⟨rfl, rfl, rfl⟩ := hcs
    exact ⟨[], RdS.nil _ _, .inl rfl⟩
  · simp [Value.cells] at hcs
    obtain ⟨rfl, rfl, rfl⟩ := hcs
    have hz' : zs.length = cap := by simpa using hz
    have hlen : (zs.take len).length = len := by simp; omega
    injection hx with hd _
    have hread : ∀ j (h : j < (zs.take len).length), W.cell? (x.add j) = some (.string (zs.take len)[j]) := by
      intro j hj
      rw [hcell j (by omega)]
      simp [List.getD_eq_getElem?_getD, List.getElem?_eq_getElem (show j < zs.length by omega)]
    refine ⟨zs.take len, ⟨some x, cap, by rw [hlen], by omega, hm, fun h => (by cases h), fun y hy => ?_⟩, .inr ⟨_, hd⟩⟩
    cases hy
    refine ⟨fun h0 => ?_, hread⟩
    have := World.block_lt_of_cell? W _ (hread 0 h0)
    rwa [addr_block] at this

/-- Each string of a slice of strings that came in is within the reach. -/
theorem sized_strs {ts : List TypeId} {ds : List (DataW H)} (h : (DataW.weightsEach P ts ds).all (· ≤ reachBytes) = true) {j : Nat} {t e : TypeId} {ss : List ByteArray} {spare : List (DataW H)}
    (ht : ts[j]? = some t) (hd : ds[j]? = some (.slice (ChangeShapes.strs ss) spare)) (hu : P.underlying t = some (.slice e)) : ∀ s ∈ ss, s.size ≤ reachBytes := by
  intro s hs
  have hin : s.size ∈ DataW.weightsAll P e (ChangeShapes.strs (H := H) ss) := by
    clear hd
    induction ss with
    | nil => cases hs
    | cons b r ih =>
      show s.size ∈ (DataW.lit (Lit.string b.data.toList)).weights P e ++ DataW.weightsAll P e (ChangeShapes.strs (H := H) r)
      rw [List.mem_append]
      rcases List.mem_cons.1 hs with rfl | h2
      · left
        simp [DataW.weights]
      · exact .inr (ih h2)
  have := List.all_eq_true.1 h _ (DataW.weights_mem_each ht hd s.size (by simp [DataW.weights, hu, hin]))
  simpa using this
end
end Go.Proofs.Yteckenlbelgknaa

namespace Go.Proofs.Yteckenlbelgknaa
open Go.RowKit Go.ChangeShapes Go.WideShapes

def byteOf : Value → UInt8
  | .int _ z => UInt8.ofNat z.toNat
  | _ => 0

theorem open_hash {H : Type} {enc : TypeId × Value → H} {P : Program} {W : World} {r : Reach} {base n : Nat} {t e : TypeId} {v : Value} {d : DataW H} {p : List MemPlace} (ht : P.underlying t = some (.array n e)) (he : P.underlying e = some (.int .u8)) (hc : P.cellsOf e = 1) (hct : P.cellsOf t = n)
    (hv : Value.okWide P W r base t v) (h : DataW.Trod enc P W 0 (fun _ => true) true t v d p) : ∃ l : List UInt8, v = .agg (bys l).toArray ∧ l.length = n := by
  obtain ⟨cs, rfl, hsz, _⟩ : ∃ cs, v = .agg cs ∧ cs.size = P.cellsOf t ∧ Row.okWide P W r base t cs := by simpa [Value.okWide, ht] using hv
  rw [hct] at hsz
  obtain ⟨fuel, hf⟩ := h
  obtain ⟨xs, m, _, _, _, hx, hall⟩ := DataW.trod_array ht hf
  have key : ∀ i (hi : i < cs.toList.length), ∃ b : UInt8, cs.toList[i] = .int .u8 (b.toNat : Int) := by
    intro i hi
    have hin : i < n := by simpa [hsz] using hi
    have h1 := hall i hin
    rw [hc, Nat.mul_one, List.getElem?_eq_getElem (by omega)] at h1
    obtain ⟨z, hz, _, hw⟩ := DataW.trod_int he h1
    have hb := bounds_u8 hw
    have h2 : (List.take 1 (List.drop i cs.toList)) = [cs.toList[i]] := by
      rw [List.drop_eq_getElem_cons hi]; rfl
    have hz' : (List.take 1 (List.drop i cs.toList)) = [.int .u8 z] := hz
    rw [h2] at hz'
    injection hz' with hz1 _
    refine ⟨UInt8.ofNat z.toNat, ?_⟩
    rw [hz1]
    congr 1
    rw [show (UInt8.ofNat z.toNat).toNat = z.toNat % 256 from by simp]
    omega
  refine ⟨cs.toList.map byteOf, ?_, by simp [hsz]⟩
  have : bys (cs.toList.map byteOf) = cs.toList := by
    unfold bys
    rw [List.map_map]
    conv => rhs; rw [← List.map_id cs.toList]
    refine List.map_congr_left (fun u hu => ?_)
    obtain ⟨i, hi, rfl⟩ := List.getElem_of_mem hu
    obtain ⟨b, hb⟩ := key i hi
    rw [hb]; simp [byteOf]
  rw [this]
end Go.Proofs.Yteckenlbelgknaa

namespace Go.Proofs.Yteckenlbelgknaa
open Go.RowKit Go.ChangeShapes Go.WideShapes

section
variable {H : Type} {enc : TypeId × Value → H} {P : Program} {W : World} {spare : TypeId → Bool} {held : Bool}

theorem trod_bytes {fuel n : Nat} {t e : TypeId} {cs : List Value} {x : DataW H × List MemPlace} (ht : P.underlying t = some (.array n e)) (he : P.underlying e = some (.int .u8)) (hc : P.cellsOf e = 1) (hct : P.cellsOf t = n)
    (h : DataW.trod enc P W 0 spare held fuel t cs = some x) : ∃ l : List UInt8, cs = bys l ∧ l.length = n := by
  obtain ⟨xs, m, _, _, hsz, hx, hall⟩ := DataW.trod_array ht h
  rw [hct] at hsz
  have key : ∀ i (hi : i < cs.length), ∃ b : UInt8, cs[i] = .int .u8 (b.toNat : Int) := by
    intro i hi
    have h1 := hall i (by omega)
    rw [hc, Nat.mul_one, List.getElem?_eq_getElem (by omega)] at h1
    obtain ⟨z, hz, _, hw⟩ := DataW.trod_int he h1
    have hb := bounds_u8 hw
    have h2 : (List.take 1 (List.drop i cs)) = [cs[i]] := by
      rw [List.drop_eq_getElem_cons hi]; rfl
    rw [h2] at hz
    injection hz with hz1 _
    refine ⟨UInt8.ofNat z.toNat, ?_⟩
    rw [hz1]
    congr 1
    rw [show (UInt8.ofNat z.toNat).toNat = z.toNat % 256 from by simp]
    omega
  refine ⟨cs.map byteOf, ?_, by simp [hsz]⟩
  unfold bys
  rw [List.map_map]
  conv => lhs; rw [← List.map_id cs]
  refine List.map_congr_left (fun u hu => ?_)
  obtain ⟨i, hi, rfl⟩ := List.getElem_of_mem hu
  obtain ⟨b, hb⟩ := key i hi
  rw [hb]; simp [byteOf]

end

theorem split50T (cs : List Value) (h : cs.length = 50) : cs = (cs.drop 0).take 16 ++ ((cs.drop 16).take 32 ++ ((cs.drop 48).take 1 ++ (cs.drop 49).take 1)) := by
  have e1 : (cs.drop 49).take 1 = cs.drop 49 := List.take_of_length_le (by simp [h])
  have e2 : (cs.drop 48).take 1 ++ cs.drop 49 = cs.drop 48 := by
    have := List.take_append_drop 1 (cs.drop 48)
    rw [List.drop_drop] at this
    exact this
  have e3 : (cs.drop 16).take 32 ++ cs.drop 48 = cs.drop 16 := by
    have := List.take_append_drop 32 (cs.drop 16)
    rw [List.drop_drop] at this
    exact this
  rw [e1, e2, e3]
  simp

theorem ok_struct {P : Program} {W : World} {r : Reach} {base : Nat} {t : TypeId} {v : Value} {fs : Array Field} (ht : P.underlying t = some (.struct fs)) (hv : Value.okWide P W r base t v) : ∃ cs, v = .agg cs ∧ cs.size = P.cellsOf t := by
  obtain ⟨cs, rfl, hsz, _⟩ : ∃ cs, v = .agg cs ∧ cs.size = P.cellsOf t ∧ Row.okWide P W r base t cs := by simpa [Value.okWide, ht] using hv
  exact ⟨cs, rfl, hsz⟩

theorem tc23 : Try.prog.cellsOf 23 = 1 := by kernel_rfl
theorem tc3 : Try.prog.cellsOf 3 = 1 := by kernel_rfl
theorem tc5 : Try.prog.cellsOf 5 = 1 := by kernel_rfl

end Go.Proofs.Yteckenlbelgknaa
