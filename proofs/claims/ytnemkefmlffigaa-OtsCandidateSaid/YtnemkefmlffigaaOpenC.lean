/-
  A claim of layer 4's laws that came in as an argument: what it holds. Each theorem states its own conditions.
-/
import Derived.Test.YtnemkefmlffigaaCd
import Derived.Test.YtnemkefmlffigaaOpen
import Derived.Test.YtnemkefmlffigaaOpenH
import Derived.Lib.SmallJoins
namespace Go.Proofs.Ytnemkefmlffigaa
open Go.RowKit Go.ChangeShapes Go.WideShapes

section
variable {H : Type} {enc : TypeId × Value → H} {P : Program} {W : World} {spare : TypeId → Bool} {held : Bool}

theorem trod_bytes {fuel n : Nat} {t e : TypeId} {cs : List Value} {x : DataW H × List MemPlace} (ht : P.underlying t = some (.array n e)) (he : P.underlying e = some (.int .u8)) (hc : P.cellsOf e = 1) (hct : P.cellsOf t = n)
    (h : DataW.trod enc P W 0 spare held fuel t cs = some x) : ∃ l : List UInt8, cs = bys l ∧ l.length = n := by
  obtain ⟨xs, m, _, _, hsz, hx, hall⟩ := DataW.trod_array ht h
  rw [hct] at hsz
  have key : ∀ i (hi : i < cs.length), ∃ b : UInt8, cs[i] = .int .u8 (b.toNat : Int) := by
    intro i hi
    have h1 := hall i (by omega)
    rw [hc, Nat.mul_one, List.getElem?_eq_getElem (by omega)] at h1
    obtain ⟨z, hz, _, hw⟩ := DataW.trod_int he h1
    have hb := bounds_u8 hw
    have h2 : (List.take 1 (List.drop i cs)) = [cs[i]] := by
      rw [List.drop_eq_getElem_cons hi]; rfl
    rw [h2] at hz
    injection hz with hz1 _
    refine ⟨UInt8.ofNat z.toNat, ?_⟩
    rw [hz1]
    congr 1
    rw [show (UInt8.ofNat z.toNat).toNat = z.toNat % 256 from by simp]
    omega
  refine ⟨cs.map byteOf, ?_, by simp [hsz]⟩
  unfold bys
  rw [List.map_map]
  conv => lhs; rw [← List.map_id cs]
  refine List.map_congr_left (fun u hu => ?_)
  obtain ⟨i, hi, rfl⟩ := List.getElem_of_mem hu
  obtain ⟨b, hb⟩ := key i hi
  rw [hb]; simp [byteOf]

end


theorem split19 (cs : List Value) (h : cs.length = 19) : cs = (cs.drop 0).take 16 ++ ((cs.drop 16).take 1 ++ ((cs.drop 17).take 1 ++ (cs.drop 18).take 1)) := by
  have e1 : (cs.drop 18).take 1 = cs.drop 18 := List.take_of_length_le (by simp [h])
  have e2 : (cs.drop 17).take 1 ++ cs.drop 18 = cs.drop 17 := by
    have := List.take_append_drop 1 (cs.drop 17)
    rw [List.drop_drop] at this
    exact this
  have e3 : (cs.drop 16).take 1 ++ cs.drop 17 = cs.drop 16 := by
    have := List.take_append_drop 1 (cs.drop 16)
    rw [List.drop_drop] at this
    exact this
  rw [e1, e2, e3]
  simp

theorem ok_struct {P : Program} {W : World} {r : Reach} {base : Nat} {t : TypeId} {v : Value} {fs : Array Field} (ht : P.underlying t = some (.struct fs)) (hv : Value.okWide P W r base t v) : ∃ cs, v = .agg cs ∧ cs.size = P.cellsOf t := by
  obtain ⟨cs, rfl, hsz, _⟩ : ∃ cs, v = .agg cs ∧ cs.size = P.cellsOf t ∧ Row.okWide P W r base t cs := by simpa [Value.okWide, ht] using hv
  exact ⟨cs, rfl, hsz⟩


theorem tc23 : Try.prog.cellsOf 23 = 1 := by kernel_rfl
theorem tc24 : Try.prog.cellsOf 24 = 1 := by kernel_rfl
theorem tc16 : Try.prog.cellsOf 22 = 16 := by kernel_rfl
theorem tcC : Try.prog.cellsOf 26 = 19 := by kernel_rfl
theorem tc5 : Try.prog.cellsOf 5 = 1 := by kernel_rfl
theorem trod_sl {H : Type} {enc : TypeId × Value → H} {P : Program} {W : World} {fuel : Nat} {t e : TypeId} {cs : List Value} {x : DataW H × List MemPlace} (ht : P.underlying t = some (.slice e)) (he : P.underlying e = some (.int .u8)) (hc : P.cellsOf e = 1)
    (h : DataW.trod enc P W 0 (fun _ => true) true fuel t cs = some x) : ∃ a len cap, cs = [.slice a len cap] := by
  rcases open_ints ht he hc h with ⟨hcs, _⟩ | ⟨x, l, c, zs, hcs, _⟩
  · exact ⟨_, _, _, hcs⟩
  · exact ⟨_, _, _, hcs⟩

set_option maxRecDepth 100000 in
theorem open_claim {H : Type} {enc : TypeId × Value → H} {W : World} {r : Reach} {base : Nat} {v : Value} {d : DataW H} {p : List MemPlace}
    (hv : Value.okWide Try.prog W r base 26 v) (h : DataW.Trod enc Try.prog W 0 (fun _ => true) true 26 v d p) :
    ∃ (I : List UInt8) (q : Nat) (tv : Value) (text : List UInt8) (sv : Value) (s : List UInt8), v = .agg (ccs I q tv sv).toArray ∧ I.length = 16 ∧ q < 4294967296 ∧ Rd W.heap.size W tv text ∧ Rd W.heap.size W sv s := by
  obtain ⟨cs, rfl, hsz⟩ := ok_struct Try.underlying26 hv
  rw [tcC] at hsz
  obtain ⟨fuel, hf⟩ := h
  obtain ⟨y0, y1, y2, y3, n, _, _, t0, t1, t2, t3⟩ := Go.Joins.trod_struct4 Try.underlying26 hf
  simp only [tc16, tc23, tc24, Value.cells] at t0 t1 t2 t3
  obtain ⟨I, hI, hIl⟩ := trod_bytes tu22 Try.underlying5 tc5 tc16 t0
  obtain ⟨q, hq, _, hqw⟩ := DataW.trod_int Try.underlying23 t1
  obtain ⟨a2, n2, c2, e2⟩ := trod_sl Try.underlying24 Try.underlying5 tc5 t2
  obtain ⟨a3, n3, c3, e3⟩ := trod_sl Try.underlying24 Try.underlying5 tc5 t3
  rw [e2] at t2
  rw [e3] at t3
  obtain ⟨l2, r2, _⟩ := open_bytes (d := y2.1) (p := y2.2) Try.underlying24 Try.underlying5 tc5 ⟨n, t2⟩
  obtain ⟨l3, r3, _⟩ := open_bytes (d := y3.1) (p := y3.2) Try.underlying24 Try.underlying5 tc5 ⟨n, t3⟩
  have hqb := bounds_u32 hqw
  have hsp := split19 cs.toList (by simpa using hsz)
  refine ⟨I, q.toNat, .slice a2 n2 c2, l2, .slice a3 n3 c3, l3, ?_, hIl, by omega, r2, r3⟩
  have e : cs.toList = ccs I q.toNat (.slice a2 n2 c2) (.slice a3 n3 c3) := by
    rw [hsp, hI, hq, e2, e3]
    unfold ccs
    rw [show ((q.toNat : Nat) : Int) = q by omega]
    rfl
  rw [← e]
end Go.Proofs.Ytnemkefmlffigaa
