/-
  New, Long and Sum of an object: what an object holds, from every world.
-/
import Derived.Test.YtnemkefmlffigaaGreatOb1
namespace Go.Proofs.YtnemkefmlffigaaGreat
open Go.RowKit

theorem ret_null {P : Program} {fn : Func} (h : fn.results = #[]) (tmps : Array Value) (w : World) : (results fn tmps).run P w = .ok (.tuple #[]) w := by simp [results, h]
theorem u61 : (Tryz.prog.info? 146).map (·.size) = some 73 := by kernel_rfl

set_option maxHeartbeats 400000 in
theorem new_any (w : World) : Calls Tryz.prog 97 #[] w fun e w' => e = .returned (.pointer (some ⟨w'.heap.size - 1, 0, none⟩)) ∧ w.heap.size < w'.heap.size ∧ Obj w' (w'.heap.size - 1) [] ∧ Below w.heap.size w w' := by
  go_enter Tryz.func97, Tryz.ntmps97
  go_wp2_with fail
  refine (initial_any _).mono ?_
  rintro e w1 ⟨rfl, hb1⟩
  have B1 := Lib.hid hb1
  clear hb1
  go_wp2_with (first | (refine wpList_buildTo rfl 146 _ rfl (some 2) rfl (ocs iv (List.replicate 64 0) 0).toArray (by kernel_rfl) ?_) | (refine wpList_box_blk rfl 146 _ rfl (ocs iv (List.replicate 64 0) 0) rfl ?_))
  intro w2 a1 a2 a3
  have A1 := Lib.hid a1
  have A2 := Lib.hid a2
  have A3 := Lib.hid a3
  clear a1 a2 a3
  go_wp2
  go_ret
  have h2 := A2.out
  have hs1 := B1.out.size
  have e1 : w2.heap.size - 1 = w1.heap.size := by omega
  refine ⟨by rw [e1]; rfl, by omega, ?_, B1.out.trans (A3.out.mono hs1)⟩
  rw [e1]
  exact ⟨iv, List.replicate 64 0, A1.out, Holds.new⟩

theorem rangeAt_ocs {w : World} {g : Nat} {st : List Nat} {left : List UInt8} {n : Nat} {t : TypeId} (h : Blk w g (ocs st left n) t) : w.rangeAt g 0 (ws st) := fun j v hv => by
  have hj : j < (ws st).length := (List.getElem?_eq_some_iff.1 hv).1
  rw [Nat.zero_add, h.cell]
  unfold ocs
  rw [List.getElem?_append_left hj]
  exact hv

/-- A whole array is read out of the middle of a block. -/
theorem run_load_mid {P : Program} {o : Oper} {a : Act} {w : World} (t : TypeId) (x : Operand) (ho : o.op = .load t x) (g k : Nat) (hx : a.eval x = .pointer (some ⟨g, k, none⟩)) (cs : List Value) (hb : w.rangeAt g k cs)
    (n : Nat) (e : TypeId) (hu : P.underlying t = some (.array n e)) (hi : (P.info? t).map (·.size) = some cs.length) : (execOp a.eval o).run P w = .ok (.value (.agg cs.toArray)) w := by
  unfold execOp
  simp only [ho, hx, Instr.loadAt, Instr.sureAddr, Sem.run_bind, Sem.run_pure, Result.andThen_ok, run_loadVar_mid w g k t cs _ hb hu rfl hi]

/-- The bytes that are left, read where they lie. -/
theorem Rd.left {w : World} {g B : Nat} {st : List Nat} {left : List UInt8} {n : Nat} {t : TypeId} (h : Blk w g (ocs st left n) t) (h1 : st.length = 8) (h2 : left.length = 64) (hg : g < B) (r : Nat) (hr : r ≤ 64) : Rd B w (.slice (some ⟨g, 8, none⟩) r 64) (left.take r) := by
  have hl : (left.take r).length = r := by rw [List.length_take]; omega
  refine ⟨some ⟨g, 8, none⟩, 64, by rw [hl], by omega, by unfold maxLen; omega, fun h => (by cases h), fun a ha => ?_⟩
  cases ha
  refine ⟨fun _ => hg, fun j hj => ?_⟩
  rw [Addr.add_mid, h.cell, ocs_byte st left n j h1 (by omega)]
  simp

set_option maxHeartbeats 1000000 in
set_option maxRecDepth 100000 in
theorem sumS_any (g : Nat) (bs : List UInt8) (w : World) (h : Obj w g bs) (hl : bs.length ≤ 1000000) : Calls Tryz.prog 99 #[.pointer (some ⟨g, 0, none⟩)] w (Arr (bys (hash bs)) w) := by
  obtain ⟨st, left, hb, hh⟩ := h
  have hglt := hb.lt
  have HB := Lib.hid hb
  have HH := Lib.hid hh
  clear hb hh
  go_enter Tryz.func99, Tryz.ntmps99
  go_wp2_with (refine wpList_alloc_blk rfl 23 rfl _ z24 ?_)
  intro w1 a1 a2 a3
  have A1 := Lib.hid a1
  have A2 := Lib.hid a2
  have A3 := Lib.hid a3
  clear a1 a2 a3
  have G0 : Hid (Blk w1 g (ocs st left bs.length) 146) := HB.out.below A3.out hglt
  have hs1 := A2.out
  have H33 : Hid ((Tryz.prog.info? 125).map (·.size) = some (ws st).length) := by show _ = _; rw [ws_length, HH.out.st8]; exact s33
  obtain ⟨r, hr⟩ : ∃ r, bs.length % 64 = r := ⟨_, rfl⟩
  obtain ⟨n, hn⟩ : ∃ n, bs.length = n := ⟨_, rfl⟩
  have e1 : (n : Int).tmod 64 = (r : Int) := by rw [Int.tmod_eq_emod_of_nonneg (by omega)]; omega
  have z1 : ¬ (64 : Int) < (r : Int) := by omega
  have HR := Lib.hid hr
  have HN := Lib.hid hn
  have hr64 : r < 64 := by omega
  have hnl : n ≤ 1000000 := by omega
  rw [hn] at G0
  clear hr hn
  go_wp2
  refine wp_region_till 19 18 (fun w' => Below w1.heap.size w1 w') (by kernel_rfl) rfl ?_
  have hS : Below w1.heap.size w1 w1.drew := (Below.refl _ _).drew
  refine AnyTill.free (i := 0) (v := .pointer (some ⟨g, 0, none⟩)) rfl (by kernel_rfl) (by kernel_rfl) (by kernel_rfl) (by kernel_rfl) (fun _ _ _ h => h) (by rfl) (fun w' => ?_) hS ?_
  · first | (go_simp; done) | (go_simp; rfl)
  simp only [Act.put, List.setIfInBounds_toArray, List.set_cons_zero, List.set_cons_succ]
  refine AnyTill.free (i := 1) (v := .pointer (some ⟨g, 0, none⟩)) rfl (by kernel_rfl) (by kernel_rfl) (by kernel_rfl) (by kernel_rfl) (fun _ _ _ h => h) (by rfl) (fun w' => ?_) hS ?_
  · first | (go_simp; done) | (go_simp; rfl)
  simp only [Act.put, List.setIfInBounds_toArray, List.set_cons_zero, List.set_cons_succ]
  refine AnyTill.free (i := 2) (v := .pointer (some ⟨g, 0, none⟩)) rfl (by kernel_rfl) (by kernel_rfl) (by kernel_rfl) (by kernel_rfl) (fun _ _ _ h => h) (by rfl) (fun w' => ?_) hS ?_
  · first | (go_simp; done) | (go_simp; rfl)
  simp only [Act.put, List.setIfInBounds_toArray, List.set_cons_zero, List.set_cons_succ]
  have hg1 : g < w1.heap.size := by omega
  refine AnyTill.take (i := 3) (v := .agg (ws st).toArray) rfl (by kernel_rfl) (by kernel_rfl) (by kernel_rfl) (by kernel_rfl) (fun _ _ _ h => h) (by rfl) (fun w' hw' => ?_) hS ?_
  · exact run_load_mid 125 _ rfl g 0 rfl (ws st) (rangeAt_ocs (G0.out.below hw' hg1)) 8 48 tu33 H33.out
  simp only [Act.put, List.setIfInBounds_toArray, List.set_cons_zero, List.set_cons_succ]
  refine AnyTill.free (i := 4) (v := .pointer (some ⟨g, 0, none⟩)) rfl (by kernel_rfl) (by kernel_rfl) (by kernel_rfl) (by kernel_rfl) (fun _ _ _ h => h) (by rfl) (fun w' => ?_) hS ?_
  · first | (go_simp; done) | (go_simp; rfl)
  simp only [Act.put, List.setIfInBounds_toArray, List.set_cons_zero, List.set_cons_succ]
  refine AnyTill.free (i := 5) (v := .pointer (some ⟨g, 0, none⟩)) rfl (by kernel_rfl) (by kernel_rfl) (by kernel_rfl) (by kernel_rfl) (fun _ _ _ h => h) (by rfl) (fun w' => ?_) hS ?_
  · first | (go_simp; done) | (go_simp; rfl)
  simp only [Act.put, List.setIfInBounds_toArray, List.set_cons_zero, List.set_cons_succ]
  refine AnyTill.free (i := 6) (v := .pointer (some ⟨g, 8, none⟩)) rfl (by kernel_rfl) (by kernel_rfl) (by kernel_rfl) (by kernel_rfl) (fun _ _ _ h => h) (by rfl) (fun w' => ?_) hS ?_
  · first | (go_simp; done) | (go_simp; rfl)
  simp only [Act.put, List.setIfInBounds_toArray, List.set_cons_zero, List.set_cons_succ]
  refine AnyTill.free (i := 7) (v := .pointer (some ⟨g, 0, none⟩)) rfl (by kernel_rfl) (by kernel_rfl) (by kernel_rfl) (by kernel_rfl) (fun _ _ _ h => h) (by rfl) (fun w' => ?_) hS ?_
  · first | (go_simp; done) | (go_simp; rfl)
  simp only [Act.put, List.setIfInBounds_toArray, List.set_cons_zero, List.set_cons_succ]
  refine AnyTill.free (i := 8) (v := .pointer (some ⟨g, 0, none⟩)) rfl (by kernel_rfl) (by kernel_rfl) (by kernel_rfl) (by kernel_rfl) (fun _ _ _ h => h) (by rfl) (fun w' => ?_) hS ?_
  · first | (go_simp; done) | (go_simp; rfl)
  simp only [Act.put, List.setIfInBounds_toArray, List.set_cons_zero, List.set_cons_succ]
  refine AnyTill.free (i := 9) (v := .pointer (some ⟨g, 72, none⟩)) rfl (by kernel_rfl) (by kernel_rfl) (by kernel_rfl) (by kernel_rfl) (fun _ _ _ h => h) (by rfl) (fun w' => ?_) hS ?_
  · first | (go_simp; done) | (go_simp; rfl)
  simp only [Act.put, List.setIfInBounds_toArray, List.set_cons_zero, List.set_cons_succ]
  refine AnyTill.take (i := 10) (v := .int .i64 (n : Int)) rfl (by kernel_rfl) (by kernel_rfl) (by kernel_rfl) (by kernel_rfl) (fun _ _ _ h => h) (by rfl) (fun w' hw' => ?_) hS ?_
  · have c := ((G0.out.below hw' hg1).cell 72).trans (ocs_num st left n HH.out.st8 HH.out.1); first | (go_simp; done) | (go_simp; rfl)
  simp only [Act.put, List.setIfInBounds_toArray, List.set_cons_zero, List.set_cons_succ]
  refine AnyTill.free (i := 11) (v := .int .i64 (r : Int)) rfl (by kernel_rfl) (by kernel_rfl) (by kernel_rfl) (by kernel_rfl) (fun _ _ _ h => h) (by rfl) (fun w' => ?_) hS ?_
  · first | (go_simp; done) | (go_simp; rfl)
  simp only [Act.put, List.setIfInBounds_toArray, List.set_cons_zero, List.set_cons_succ]
  refine AnyTill.free (i := 12) (v := .slice (some ⟨g, 8, none⟩) r 64) rfl (by kernel_rfl) (by kernel_rfl) (by kernel_rfl) (by kernel_rfl) (fun _ _ _ h => h) (by rfl) (fun w' => ?_) hS ?_
  · first | (go_simp; done) | (go_simp; rfl)
  simp only [Act.put, List.setIfInBounds_toArray, List.set_cons_zero, List.set_cons_succ]
  refine AnyTill.free (i := 13) (v := .pointer (some ⟨g, 0, none⟩)) rfl (by kernel_rfl) (by kernel_rfl) (by kernel_rfl) (by kernel_rfl) (fun _ _ _ h => h) (by rfl) (fun w' => ?_) hS ?_
  · first | (go_simp; done) | (go_simp; rfl)
  simp only [Act.put, List.setIfInBounds_toArray, List.set_cons_zero, List.set_cons_succ]
  refine AnyTill.free (i := 14) (v := .pointer (some ⟨g, 0, none⟩)) rfl (by kernel_rfl) (by kernel_rfl) (by kernel_rfl) (by kernel_rfl) (fun _ _ _ h => h) (by rfl) (fun w' => ?_) hS ?_
  · first | (go_simp; done) | (go_simp; rfl)
  simp only [Act.put, List.setIfInBounds_toArray, List.set_cons_zero, List.set_cons_succ]
  refine AnyTill.free (i := 15) (v := .pointer (some ⟨g, 72, none⟩)) rfl (by kernel_rfl) (by kernel_rfl) (by kernel_rfl) (by kernel_rfl) (fun _ _ _ h => h) (by rfl) (fun w' => ?_) hS ?_
  · first | (go_simp; done) | (go_simp; rfl)
  simp only [Act.put, List.setIfInBounds_toArray, List.set_cons_zero, List.set_cons_succ]
  refine AnyTill.take (i := 16) (v := .int .i64 (n : Int)) rfl (by kernel_rfl) (by kernel_rfl) (by kernel_rfl) (by kernel_rfl) (fun _ _ _ h => h) (by rfl) (fun w' hw' => ?_) hS ?_
  · have c := ((G0.out.below hw' hg1).cell 72).trans (ocs_num st left n HH.out.st8 HH.out.1); first | (go_simp; done) | (go_simp; rfl)
  simp only [Act.put, List.setIfInBounds_toArray, List.set_cons_zero, List.set_cons_succ]
  refine AnyTill.one (i := 17) (by kernel_rfl) rfl (by rfl) (fun K hK => ?_)
  go_simp
  refine (finish_any st _ (left.take r) n _ HH.out.st8 HH.out.st32 (Rd.left (Blk.drew G0.out) HH.out.st8 HH.out.1 (by simpa using hg1) r (by omega)) (by rw [List.length_take, HH.out.1]; omega) (by omega)).mono ?_
  rintro e w3 ⟨rfl, hb3⟩
  have hS3 : Below w1.heap.size w1 w3 := hS.trans hb3
  refine hK.out _ _ (.inr hS3) ?_
  clear hK K
  have hhash : joinl (chain st (((left.take r).length + (padl n).length) / 64) (left.take r ++ padl n)) = hash bs := by
    have hp := hash_parts bs (bs.length / 64) (by omega)
    obtain ⟨h1, h2, h3⟩ := HH.out
    rw [HR.out] at h3
    rw [hp, ← h2, ← h3, HN.out]
    congr 3
    rw [List.length_take, h1]
    have := HR.out
    have := HN.out
    omega
  rw [hhash]
  have h24 : (Tryz.prog.info? 23).map (·.size) = some (bys (hash bs)).length := by rw [bys_length, hash_length]; exact s24
  have hlz : z32.length = (bys (hash bs)).length := by rw [bys_length, hash_length, z32_length]
  refine AnyTill.one (i := 18) (by kernel_rfl) rfl (by rfl) (fun K hK => ?_)
  refine wp_store_blk 23 _ _ rfl w.heap.size (bys (hash bs)) z32 23 rfl rfl (A1.out.below hS3 (by omega)) h24 hlz (bys_one' _) ?_
  refine hK.out _ _ (.inl (by kernel_rfl)) ?_
  clear hK K
  refine AnyTill.done (by kernel_rfl) ?_
  refine NoPanic.normal ?_
  simp only [Act.put]
  have L0 : Hid (Blk (w3.setRow w.heap.size (bys (hash bs)).toArray) w.heap.size (bys (hash bs)) 23) := (A1.out.below hS3 (by omega)).setRow
  have LB : Hid (Below w.heap.size w (w3.setRow w.heap.size (bys (hash bs)).toArray)) := below_setRow' (A3.out.trans (hS3.mono (by omega))) (Nat.le_refl _) _
  generalize w3.setRow w.heap.size (bys (hash bs)).toArray = w4 at L0 LB ⊢
  have H24 := Lib.hid h24
  clear hS hS3 hb3 hhash h24 hlz e1 z1
  go_wp2
  refine bodyPost_ret (v := .agg (bys (hash bs)).toArray) ?_ rfl ?_
  · exact ret_blk rfl _ _ w.heap.size 23 _ rfl L0.out 32 5 tu24 H24.out
  · exact ⟨rfl, LB.out⟩
end Go.Proofs.YtnemkefmlffigaaGreat
