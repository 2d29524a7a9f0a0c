/-
  The law ShaNil: on no object Write does nothing, Sum answers the hash of no bytes, Long answers 0.
-/
import Derived.Test.YtochamncdplaiaaAl
import Derived.ChangeKeysEq
namespace Go.Proofs.Ytochamncdplaiaa
open Go.RowKit

theorem eqItems_same {P : Program} (w : World) (d : Nat) (e : TypeId) (k : IntKind) (he : P.underlying e = some (.int k)) (cs : List Value) (h : ∀ v ∈ cs, ∃ z, v = .int k z) :
    ∀ is : List Nat, (∀ i ∈ is, i < cs.length) → (Op.eqItems (d + 1) e 1 cs.toArray cs.toArray is).run P w = .ok true w
  | [], _ => by simp [Op.eqItems]
  | i :: is, hi => by
    have hlt := hi i (by simp)
    obtain ⟨z, hz⟩ := h cs[i] (List.getElem_mem hlt)
    have hp : (part e cs.toArray (i * 1)).run P w = .ok (.int k z) w := by
      simp [part, isAgg, run_underlying he, List.getElem?_eq_getElem hlt, hz]
    have hq : (Op.equalIn (d + 1) e (.int k z) (.int k z)).run P w = .ok true w := by
      rw [run_equalIn_int w d e k k z z he]; simp
    simp only [Op.eqItems, Sem.run_bind, hp, hq, Result.andThen_ok]
    simpa using eqItems_same w d e k he cs h is (fun j hj => hi j (by simp [hj]))

/-- An array of integers is equal to itself. -/
theorem run_equal_same {P : Program} (t e : TypeId) (n : Nat) (k : IntKind) (i : TypeInfo) (ht : P.underlying t = some (.array n e)) (he : P.underlying e = some (.int k)) (hi : P.info? e = some i) (hc : P.cellsOf e = 1)
    (cs : List Value) (hl : cs.length = n) (h : ∀ v ∈ cs, ∃ z, v = .int k z) (w : World) : (Op.equalIn 10000 t (.agg cs.toArray) (.agg cs.toArray)).run P w = .ok true w := by
  rw [show 10000 = 9999 + 1 from rfl, run_equalIn_array w 9999 _ _ ht hi, hc]
  exact eqItems_same w 9998 e k he cs h _ (fun j hj => by rw [hl]; simpa using hj)

theorem ws_ints (l : List Nat) : ∀ v ∈ ws l, ∃ z, v = .int .u32 z := fun v hv => by
  obtain ⟨n, _, rfl⟩ := List.mem_map.1 hv; exact ⟨_, rfl⟩
theorem bys_ints (l : List UInt8) : ∀ v ∈ bys l, ∃ z, v = .int .u8 z := fun v hv => by
  obtain ⟨n, _, rfl⟩ := List.mem_map.1 hv; exact ⟨_, rfl⟩
theorem c5 : Try.prog.cellsOf 5 = 1 := by kernel_rfl
theorem c27 : Try.prog.cellsOf 27 = 1 := by kernel_rfl
theorem i27 : ∃ i, Try.prog.info? 27 = some i := by
  have h := s27
  cases hq : Try.prog.info? 27 with
  | none => rw [hq] at h; cases h
  | some i => exact ⟨i, rfl⟩

/-- Equal hashes. -/
theorem eq24 (l : List UInt8) (hl : l.length = 32) (w : World) : (Op.equalIn 10000 24 (.agg (bys l).toArray) (.agg (bys l).toArray)).run Try.prog w = .ok true w := by
  obtain ⟨i0, hi, _⟩ := info_parts info5
  exact run_equal_same 24 5 32 .u8 i0 tu24 Try.underlying5 hi c5 (bys l) (by rw [bys_length, hl]) (bys_ints l) w
theorem eq34 (l : List Nat) (hl : l.length = 64) (w : World) : (Op.equalIn 10000 34 (.agg (ws l).toArray) (.agg (ws l).toArray)).run Try.prog w = .ok true w := by
  obtain ⟨i0, hi⟩ := i27
  exact run_equal_same 34 27 64 .u32 i0 tu34 tu27 hi c27 (ws l) (by rw [ws_length, hl]) (ws_ints l) w
theorem eq33 (l : List Nat) (hl : l.length = 8) (w : World) : (Op.equalIn 10000 33 (.agg (ws l).toArray) (.agg (ws l).toArray)).run Try.prog w = .ok true w := by
  obtain ⟨i0, hi⟩ := i27
  exact run_equal_same 33 27 8 .u32 i0 tu33 tu27 hi c27 (ws l) (by rw [ws_length, hl]) (ws_ints l) w

set_option maxHeartbeats 400000 in
theorem write_nil (v : Value) (w : World) : Calls Try.prog 21 #[.pointer none, v] w fun e w' => e = .returned (.tuple #[]) ∧ w = w' := by
  go_enter Try.func21, Try.ntmps21
  go_wp2
  exact bodyPost_ret (v := .tuple #[]) (by simp [results]) rfl ⟨rfl, rfl⟩
set_option maxHeartbeats 400000 in
theorem long_nil (w : World) : Calls Try.prog 22 #[.pointer none] w fun e w' => e = .returned (.int .i64 0) ∧ w = w' := by
  go_enter Try.func22, Try.ntmps22
  go_wp2
  go_ret
  exact ⟨rfl, rfl⟩
set_option maxHeartbeats 400000 in
theorem sumS_nil (w : World) : Calls Try.prog 23 #[.pointer none] w (Arr (bys (hash [])) w) := by
  go_enter Try.func23, Try.ntmps23
  go_wp2_with (refine wpList_alloc_blk rfl 24 rfl _ z24 ?_)
  intro w1 a1 a2 a3
  have A1 := Lib.hid a1
  have A2 := Lib.hid a2
  have A3 := Lib.hid a3
  clear a1 a2 a3
  go_wp2_with fail
  refine (sum_any _ [] _ (Rd.nil _ _)).mono ?_
  rintro e w2 ⟨rfl, hb2⟩
  have hA2 := A2.out
  have G0 : Hid (Blk w2 w.heap.size z32 24) := A1.out.below hb2 (by omega)
  have GB : Hid (Below w.heap.size w w2) := A3.out.trans (hb2.mono (by omega))
  have h24 : (Try.prog.info? 24).map (·.size) = some (bys (hash [])).length := by rw [bys_length, hash_length]; exact s24
  have hlz : z32.length = (bys (hash [])).length := by rw [bys_length, hash_length, z32_length]
  have H24 := Lib.hid h24
  have HL2 := Lib.hid hlz
  clear hb2 h24 hlz A1 A2 A3 hA2
  go_wp2_with (refine wpList_store_blk rfl 24 _ _ rfl w.heap.size (bys (hash [])) z32 24 rfl rfl G0.out H24.out HL2.out (bys_one' _) ?_)
  refine bodyPost_ret (v := .agg (bys (hash [])).toArray) ?_ rfl ?_
  · exact ret_blk rfl _ _ w.heap.size 24 _ rfl G0.out.setRow 32 5 tu24 H24.out
  · exact ⟨rfl, below_setRow' GB.out (Nat.le_refl _) _⟩

set_option maxHeartbeats 1000000 in
theorem nil_law (v : Value) (l : List UInt8) (w : World) (_hr : Rd w.heap.size w v l) : Calls Try.prog 8 #[v] w fun e w' => e = .returned (.bool true) ∧ Below w.heap.size w w' := by
  go_enter Try.func8, Try.ntmps8
  go_wp2_with fail
  refine (write_nil v w).mono ?_
  rintro e w' ⟨rfl, rfl⟩
  go_wp2_with fail
  refine (alive_any w).mono ?_
  rintro e w1 ⟨rfl, hb1⟩
  have B1 := Lib.hid hb1
  clear hb1
  go_wp2_with fail
  refine (sumS_nil w1).mono ?_
  rintro e w2 ⟨rfl, hb2⟩
  have B2 : Hid (Below w.heap.size w w2) := B1.out.trans (hb2.mono B1.out.size)
  clear hb2 B1
  go_wp2_with fail
  refine (sum_any _ [] w2 (Rd.nil _ _)).mono ?_
  rintro e w3 ⟨rfl, hb3⟩
  have B3 : Hid (Below w.heap.size w w3) := B2.out.trans (hb3.mono B2.out.size)
  clear hb3 B2
  have heq := eq24 (hash []) (hash_length _) w3
  go_wp2_with (go_at_call 22; refine (long_nil _).mono ?_; rintro e w' ⟨rfl, rfl⟩)
  go_ret
  exact ⟨rfl, B3.out⟩
end Go.Proofs.Ytochamncdplaiaa
