/-
  A key of package ots, and an array of ints, that came in as arguments: what they hold. Each theorem states its own conditions.
-/
import Derived.Test.YtejeefkoalbcmaaOd
import Derived.Test.YtejeefkoalbcmaaOpenH
import Derived.Lib.SmallJoins
namespace Go.Proofs.Ytejeefkoalbcmaa
open Go.RowKit Go.ChangeShapes Go.WideShapes

section
variable {H : Type} {enc : TypeId × Value → H} {P : Program} {W : World} {spare : TypeId → Bool} {held : Bool}

theorem trod_bytes {fuel n : Nat} {t e : TypeId} {cs : List Value} {x : DataW H × List MemPlace} (ht : P.underlying t = some (.array n e)) (he : P.underlying e = some (.int .u8)) (hc : P.cellsOf e = 1) (hct : P.cellsOf t = n)
    (h : DataW.trod enc P W 0 spare held fuel t cs = some x) : ∃ l : List UInt8, cs = bys l ∧ l.length = n := by
  obtain ⟨xs, m, _, _, hsz, hx, hall⟩ := DataW.trod_array ht h
  rw [hct] at hsz
  have key : ∀ i (hi : i < cs.length), ∃ b : UInt8, cs[i] = .int .u8 (b.toNat : Int) := by
    intro i hi
    have h1 := hall i (by omega)
    rw [hc, Nat.mul_one, List.getElem?_eq_getElem (by omega)] at h1
    obtain ⟨z, hz, _, hw⟩ := DataW.trod_int he h1
    have hb := bounds_u8 hw
    have h2 : (List.take 1 (List.drop i cs)) = [cs[i]] := by
      rw [List.drop_eq_getElem_cons hi]; rfl
    rw [h2] at hz
    injection hz with hz1 _
    refine ⟨UInt8.ofNat z.toNat, ?_⟩
    rw [hz1]
    congr 1
    rw [show (UInt8.ofNat z.toNat).toNat = z.toNat % 256 from by simp]
    omega
  refine ⟨cs.map byteOf, ?_, by simp [hsz]⟩
  unfold bys
  rw [List.map_map]
  conv => lhs; rw [← List.map_id cs]
  refine List.map_congr_left (fun u hu => ?_)
  obtain ⟨i, hi, rfl⟩ := List.getElem_of_mem hu
  obtain ⟨b, hb⟩ := key i hi
  rw [hb]; simp [byteOf]

def intAt : Value → Int
  | .int _ z => z
  | _ => 0
theorem trod_ints {fuel n : Nat} {t e : TypeId} {cs : List Value} {x : DataW H × List MemPlace} (ht : P.underlying t = some (.array n e)) (he : P.underlying e = some (.int .i64)) (hc : P.cellsOf e = 1) (hct : P.cellsOf t = n)
    (h : DataW.trod enc P W 0 spare held fuel t cs = some x) : ∃ l : List Int, cs = l.map (Value.int .i64) ∧ l.length = n ∧ ∀ z ∈ l, -9223372036854775808 ≤ z ∧ z ≤ 9223372036854775807 := by
  obtain ⟨xs, m, _, _, hsz, hx, hall⟩ := DataW.trod_array ht h
  rw [hct] at hsz
  have key : ∀ i (hi : i < cs.length), ∃ z : Int, cs[i] = .int .i64 z ∧ -9223372036854775808 ≤ z ∧ z ≤ 9223372036854775807 := by
    intro i hi
    have h1 := hall i (by omega)
    rw [hc, Nat.mul_one, List.getElem?_eq_getElem (by omega)] at h1
    obtain ⟨z, hz, _, hw⟩ := DataW.trod_int he h1
    have hb := bounds_i64 hw
    have h2 : (List.take 1 (List.drop i cs)) = [cs[i]] := by
      rw [List.drop_eq_getElem_cons hi]; rfl
    rw [h2] at hz
    injection hz with hz1 _
    exact ⟨z, hz1, hb.1, hb.2⟩
  refine ⟨cs.map intAt, ?_, by simp [hsz], fun z hz => ?_⟩
  · rw [List.map_map]
    conv => lhs; rw [← List.map_id cs]
    refine List.map_congr_left (fun u hu => ?_)
    obtain ⟨i, hi, rfl⟩ := List.getElem_of_mem hu
    obtain ⟨b, hb, _⟩ := key i hi
    rw [hb]; rfl
  · obtain ⟨u, hu, rfl⟩ := List.mem_map.1 hz
    obtain ⟨i, hi, rfl⟩ := List.getElem_of_mem hu
    obtain ⟨b, hb, h1, h2⟩ := key i hi
    rw [hb]; exact ⟨h1, h2⟩
end

theorem split50 (cs : List Value) (h : cs.length = 50) : cs = (cs.drop 0).take 16 ++ ((cs.drop 16).take 1 ++ ((cs.drop 17).take 32 ++ (cs.drop 49).take 1)) := by
  have e1 : (cs.drop 49).take 1 = cs.drop 49 := List.take_of_length_le (by simp [h])
  have e2 : (cs.drop 17).take 32 ++ cs.drop 49 = cs.drop 17 := by
    have := List.take_append_drop 32 (cs.drop 17)
    rw [List.drop_drop] at this
    exact this
  have e3 : (cs.drop 16).take 1 ++ cs.drop 17 = cs.drop 16 := by
    have := List.take_append_drop 1 (cs.drop 16)
    rw [List.drop_drop] at this
    exact this
  rw [e1, e2, e3]
  simp

theorem ok_struct {P : Program} {W : World} {r : Reach} {base : Nat} {t : TypeId} {v : Value} {fs : Array Field} (ht : P.underlying t = some (.struct fs)) (hv : Value.okWide P W r base t v) : ∃ cs, v = .agg cs ∧ cs.size = P.cellsOf t := by
  obtain ⟨cs, rfl, hsz, _⟩ : ∃ cs, v = .agg cs ∧ cs.size = P.cellsOf t ∧ Row.okWide P W r base t cs := by simpa [Value.okWide, ht] using hv
  exact ⟨cs, rfl, hsz⟩
theorem ok_array {P : Program} {W : World} {r : Reach} {base n : Nat} {t e : TypeId} {v : Value} (ht : P.underlying t = some (.array n e)) (hv : Value.okWide P W r base t v) : ∃ cs, v = .agg cs ∧ cs.size = P.cellsOf t := by
  obtain ⟨cs, rfl, hsz, _⟩ : ∃ cs, v = .agg cs ∧ cs.size = P.cellsOf t ∧ Row.okWide P W r base t cs := by simpa [Value.okWide, ht] using hv
  exact ⟨cs, rfl, hsz⟩

theorem kc23 : Try.prog.cellsOf 23 = 1 := by kernel_rfl
theorem kc3 : Try.prog.cellsOf 3 = 1 := by kernel_rfl
theorem kc22 : Try.prog.cellsOf 22 = 16 := by kernel_rfl
theorem kc24 : Try.prog.cellsOf 24 = 32 := by kernel_rfl
theorem kc26 : Try.prog.cellsOf 26 = 50 := by kernel_rfl
theorem kc5 : Try.prog.cellsOf 5 = 1 := by kernel_rfl
theorem kc54 : Try.prog.cellsOf 54 = 4 := by kernel_rfl
theorem kc27 : Try.prog.cellsOf 27 = 3 := by kernel_rfl
theorem ktu54 : Try.prog.underlying 54 = some (.array 4 3) := by kernel_rfl
theorem ktu27 : Try.prog.underlying 27 = some (.array 3 3) := by kernel_rfl

set_option maxRecDepth 100000 in
theorem open_key {H : Type} {enc : TypeId × Value → H} {W : World} {r : Reach} {base : Nat} {v : Value} {d : DataW H} {p : List MemPlace}
    (hv : Value.okWide Try.prog W r base 26 v) (h : DataW.Trod enc Try.prog W 0 (fun _ => true) true 26 v d p) :
    ∃ (I : List UInt8) (q : Nat) (seed : List UInt8) (z : Int), v = .agg (kcs I q seed z).toArray ∧ I.length = 16 ∧ seed.length = 32 ∧ q < 4294967296 ∧ -9223372036854775808 ≤ z ∧ z ≤ 9223372036854775807 := by
  obtain ⟨cs, rfl, hsz⟩ := ok_struct Try.underlying26 hv
  rw [kc26] at hsz
  obtain ⟨fuel, hf⟩ := h
  obtain ⟨y0, y1, y2, y3, n, _, _, t0, t1, t2, t3⟩ := Go.Joins.trod_struct4 Try.underlying26 hf
  simp only [kc22, kc23, kc24, kc3, Value.cells] at t0 t1 t2 t3
  obtain ⟨I, hI, hIl⟩ := trod_bytes tu22 Try.underlying5 kc5 kc22 t0
  obtain ⟨q, hq, _, hqw⟩ := DataW.trod_int Try.underlying23 t1
  obtain ⟨seed, hS, hSl⟩ := trod_bytes tu24 Try.underlying5 kc5 kc24 t2
  obtain ⟨z, hz, _, hzw⟩ := DataW.trod_int Try.underlying3 t3
  have hqb := bounds_u32 hqw
  have hzb := bounds_i64 hzw
  have hsp := split50 cs.toList (by simpa using hsz)
  refine ⟨I, q.toNat, seed, z, ?_, hIl, hSl, by omega, hzb.1, hzb.2⟩
  have e : cs.toList = kcs I q.toNat seed z := by
    rw [hsp, hI, hq, hS, hz]
    unfold kcs
    rw [show ((q.toNat : Nat) : Int) = q by omega]
    rfl
  rw [← e]

set_option maxRecDepth 100000 in
theorem open_i4 {H : Type} {enc : TypeId × Value → H} {W : World} {r : Reach} {base : Nat} {v : Value} {d : DataW H} {p : List MemPlace}
    (hv : Value.okWide Try.prog W r base 54 v) (h : DataW.Trod enc Try.prog W 0 (fun _ => true) true 54 v d p) :
    ∃ b0 b1 b2 b3 : Int, v = .agg (i4 b0 b1 b2 b3).toArray := by
  obtain ⟨cs, rfl, hsz⟩ := ok_array ktu54 hv
  obtain ⟨fuel, hf⟩ := h
  obtain ⟨l, hl, hn, _⟩ := trod_ints ktu54 Try.underlying3 kc3 kc54 hf
  match l, hn with
  | [b0, b1, b2, b3], _ => exact ⟨b0, b1, b2, b3, by congr 1; exact Array.toList_inj.1 hl⟩
end Go.Proofs.Ytejeefkoalbcmaa
