/-
  Arrays of integers are equal to themselves: the hashes, schedules and states of package sha.
-/
import Derived.Test.YtnemkefmlffigaaGreatSa9
import Derived.ChangeKeysEq
namespace Go.Proofs.YtnemkefmlffigaaGreat
open Go.RowKit

theorem eqItems_same {P : Program} (w : World) (d : Nat) (e : TypeId) (k : IntKind) (he : P.underlying e = some (.int k)) (cs : List Value) (h : ∀ v ∈ cs, ∃ z, v = .int k z) :
    ∀ is : List Nat, (∀ i ∈ is, i < cs.length) → (Op.eqItems (d + 1) e 1 cs.toArray cs.toArray is).run P w = .ok true w
  | [], _ => by simp [Op.eqItems]
  | i :: is, hi => by
    have hlt := hi i (by simp)
    obtain ⟨z, hz⟩ := h cs[i] (List.getElem_mem hlt)
    have hp : (part e cs.toArray (i * 1)).run P w = .ok (.int k z) w := by
      simp [part, isAgg, run_underlying he, List.getElem?_eq_getElem hlt, hz]
    have hq : (Op.equalIn (d + 1) e (.int k z) (.int k z)).run P w = .ok true w := by
      rw [run_equalIn_int w d e k k z z he]; simp
    simp only [Op.eqItems, Sem.run_bind, hp, hq, Result.andThen_ok]
    simpa using eqItems_same w d e k he cs h is (fun j hj => hi j (by simp [hj]))

/-- An array of integers is equal to itself. -/
theorem run_equal_same {P : Program} (t e : TypeId) (n : Nat) (k : IntKind) (i : TypeInfo) (ht : P.underlying t = some (.array n e)) (he : P.underlying e = some (.int k)) (hi : P.info? e = some i) (hc : P.cellsOf e = 1)
    (cs : List Value) (hl : cs.length = n) (h : ∀ v ∈ cs, ∃ z, v = .int k z) (w : World) : (Op.equalIn 10000 t (.agg cs.toArray) (.agg cs.toArray)).run P w = .ok true w := by
  rw [show 10000 = 9999 + 1 from rfl, run_equalIn_array w 9999 _ _ ht hi, hc]
  exact eqItems_same w 9998 e k he cs h _ (fun j hj => by rw [hl]; simpa using hj)

theorem ws_ints (l : List Nat) : ∀ v ∈ ws l, ∃ z, v = .int .u32 z := fun v hv => by
  obtain ⟨n, _, rfl⟩ := List.mem_map.1 hv; exact ⟨_, rfl⟩
theorem bys_ints (l : List UInt8) : ∀ v ∈ bys l, ∃ z, v = .int .u8 z := fun v hv => by
  obtain ⟨n, _, rfl⟩ := List.mem_map.1 hv; exact ⟨_, rfl⟩
theorem c5 : Tryz.prog.cellsOf 5 = 1 := by kernel_rfl
theorem c27 : Tryz.prog.cellsOf 48 = 1 := by kernel_rfl
theorem i27 : ∃ i, Tryz.prog.info? 48 = some i := by
  have h := s27
  cases hq : Tryz.prog.info? 48 with
  | none => rw [hq] at h; cases h
  | some i => exact ⟨i, rfl⟩

/-- Equal hashes. -/
theorem eq24 (l : List UInt8) (hl : l.length = 32) (w : World) : (Op.equalIn 10000 23 (.agg (bys l).toArray) (.agg (bys l).toArray)).run Tryz.prog w = .ok true w := by
  obtain ⟨i0, hi, _⟩ := info_parts info5
  exact run_equal_same 23 5 32 .u8 i0 tu24 Tryz.underlying5 hi c5 (bys l) (by rw [bys_length, hl]) (bys_ints l) w
theorem eq34 (l : List Nat) (hl : l.length = 64) (w : World) : (Op.equalIn 10000 138 (.agg (ws l).toArray) (.agg (ws l).toArray)).run Tryz.prog w = .ok true w := by
  obtain ⟨i0, hi⟩ := i27
  exact run_equal_same 138 48 64 .u32 i0 tu34 tu27 hi c27 (ws l) (by rw [ws_length, hl]) (ws_ints l) w
theorem eq33 (l : List Nat) (hl : l.length = 8) (w : World) : (Op.equalIn 10000 125 (.agg (ws l).toArray) (.agg (ws l).toArray)).run Tryz.prog w = .ok true w := by
  obtain ⟨i0, hi⟩ := i27
  exact run_equal_same 125 48 8 .u32 i0 tu33 tu27 hi c27 (ws l) (by rw [ws_length, hl]) (ws_ints l) w
end Go.Proofs.YtnemkefmlffigaaGreat
