/-
  The law ShaBlocks: for every state, every byte slice and every number, schedule, block and padding are those of the document's own words.
-/
import Derived.Test.YtochamncdplaiaaR4
import Derived.Test.YtochamncdplaiaaB6
namespace Go.Proofs.Ytochamncdplaiaa
open Go.RowKit

/-- A condition that says more serves too. -/
theorem AnyTill.narrow {P : Program} {ops : Array Oper} {Q : Exit → Act → World → Prop} {md : Region.Mode} {S S' : World → Prop} {m : Nat} (hS : ∀ w, S' w → S w) :
    ∀ (n : Nat) (listed : Array Bool) (a : Act) (w : World), AnyTill P md ops Q S' m n listed a w → AnyTill P md ops Q S m n listed a w
  | 0, _, _, _, h => h
  | n + 1, _, _, _, h => ⟨h.1, fun i hi => wpOp_mono (fun a' w' h' => ⟨h'.1.imp_right (hS _), AnyTill.narrow hS n _ a' w' h'.2⟩) (h.2 i hi)⟩

set_option maxHeartbeats 400000 in
theorem blocks_big (s : List Nat) (v : Value) (l : List UInt8) (n : Int) (w : World) (hr : Rd w.heap.size w v l) (hl : 2000 < l.length ∨ 1099511627776 < n) : Calls Try.prog 5 #[.agg (ws s).toArray, v, .int .i64 n] w fun e w' => e = .returned (.bool true) ∧ Below w.heap.size w w' := by
  obtain ⟨A, c, rfl, hc, hm, hn, hcell⟩ := hr
  clear hcell hn
  unfold maxLen at hm
  go_enter Try.func5, Try.ntmps5
  go_wp2_with (refine wpList_box_blk rfl 33 _ rfl (ws s) rfl ?_)
  intro w1 a1 a2 a3
  have A3 := Lib.hid a3
  clear a1 a2 a3
  by_cases h1 : 2000 < l.length
  · go_wp2_with (go_at_call 9; refine (alive_any _).mono ?_; rintro e w2 ⟨rfl, hb2⟩; have B2 := Lib.hid hb2; clear hb2)
    go_ret
    exact ⟨rfl, A3.out.trans (B2.out.mono A3.out.size)⟩
  · have h2 : 1099511627776 < n := by omega
    clear hl
    go_wp2_with (go_at_call 9; refine (alive_any _).mono ?_; rintro e w2 ⟨rfl, hb2⟩; have B2 := Lib.hid hb2; clear hb2)
    go_ret
    exact ⟨rfl, A3.out.trans (B2.out.mono A3.out.size)⟩

set_option maxHeartbeats 4000000 in
set_option maxRecDepth 100000 in
theorem blocks_core (s : List Nat) (v : Value) (l : List UInt8) (n : Int) (w : World) (hs : s.length = 8) (hr : Rd w.heap.size w v l) (hl : l.length ≤ 2000) (hn0 : -9223372036854775808 ≤ n) (hn1 : n ≤ 1099511627776)
    (W V : List Nat) (x : Int) (hW : W.length = 64) (hV : V.length = 8)
    (h14 : ∀ w', Rd w'.heap.size w' v l → Calls Try.prog 14 #[v] w' (Two (.agg (ws W).toArray) (.int .i64 x) w'))
    (h15 : ∀ w', Rd w'.heap.size w' v l → Calls Try.prog 15 #[v] w' (Two (.agg (ws W).toArray) (.int .i64 x) w'))
    (h16 : ∀ w', Rd w'.heap.size w' v l → Calls Try.prog 16 #[.agg (ws s).toArray, v] w' (Two (.agg (ws V).toArray) (.int .i64 x) w'))
    (h17 : ∀ w', Rd w'.heap.size w' v l → Calls Try.prog 17 #[.agg (ws s).toArray, v] w' (Two (.agg (ws V).toArray) (.int .i64 x) w')) :
    Calls Try.prog 5 #[.agg (ws s).toArray, v, .int .i64 n] w fun e w' => e = .returned (.bool true) ∧ Below w.heap.size w w' := by
  have HR := Lib.hid hr
  have T14 := Lib.hid h14
  have T15 := Lib.hid h15
  have T16 := Lib.hid h16
  have T17 := Lib.hid h17
  have S33 : Hid ((Try.prog.info? 33).map (·.size) = some (ws s).length) := by show _ = _; rw [ws_length, hs]; exact s33
  have V33 : Hid ((Try.prog.info? 33).map (·.size) = some (ws V).length) := by show _ = _; rw [ws_length, hV]; exact s33
  have W34 : Hid ((Try.prog.info? 34).map (·.size) = some (ws W).length) := by show _ = _; rw [ws_length, hW]; exact s34
  have ZV : Hid (z8.length = (ws V).length) := by show _ = _; rw [ws_length, hV, z8_length]
  have ZW : Hid (z64.length = (ws W).length) := by show _ = _; rw [ws_length, hW, z64_length]
  have HW := Lib.hid hW
  have HV := Lib.hid hV
  obtain ⟨A, c, rfl, hc, hm, hn, hcell⟩ := hr
  clear hcell hn h14 h15 h16 h17 hW hV hs
  unfold maxLen at hm
  go_enter Try.func5, Try.ntmps5
  go_wp2_with (refine wpList_box_blk rfl 33 _ rfl (ws s) rfl ?_)
  intro w1 a1 a2 a3
  obtain ⟨g0, hg0⟩ : ∃ g, w.heap.size = g := ⟨_, rfl⟩
  rw [hg0] at a1 a2 a3 HR ⊢
  have G0 := Lib.hid a1
  have GB := Lib.hid a3
  have l0 : g0 < w1.heap.size := by omega
  clear a1 a2 a3
  go_wp2_with fail
  refine (T14.out w1 ((HR.out.below GB.out).more (by omega))).mono ?_
  rintro e w2 ⟨rfl, hb⟩
  have G0' : Hid (Blk w2 g0 (ws s) 33) := G0.out.below hb l0
  have GB' : Hid (Below g0 w w2) := GB.out.trans (hb.mono (by omega))
  have l0' : g0 < w2.heap.size := by have := hb.size; omega
  clear hb G0 GB l0 T14
  go_wp2_with (refine wpList_alloc_blk rfl 34 rfl _ z34 ?_)
  intro w3 a1 a2 a3
  obtain ⟨g7, hg7⟩ : ∃ g, w2.heap.size = g := ⟨_, rfl⟩
  rw [hg7] at a1 a2 a3 l0' ⊢
  have G0 : Hid (Blk w3 g0 (ws s) 33) := G0'.out.below a3 l0'
  have GB : Hid (Below g0 w w3) := GB'.out.trans (a3.mono (by omega))
  have G7 := Lib.hid a1
  clear a1 a2 a3 G0' GB' hg7
  go_wp2_with (refine wpList_store_blk rfl 34 _ _ rfl g7 (ws W) z64 34 rfl rfl G7.out W34.out ZW.out (ws_one _) ?_)
  have K0 : Hid (Blk (w3.setRow g7 (ws W).toArray) g0 (ws s) 33) := G0.out.setRowOther (by omega)
  have K7 : Hid (Blk (w3.setRow g7 (ws W).toArray) g7 (ws W) 34) := G7.out.setRow
  have KB : Hid (Below g0 w (w3.setRow g7 (ws W).toArray)) := below_setRow' GB.out (by omega) _
  clear G0 G7 GB
  generalize w3.setRow g7 (ws W).toArray = w4 at K0 K7 KB ⊢
  have k7 := K7.out.lt
  refine (T15.out w4 ((HR.out.below KB.out).more (by omega))).mono ?_
  rintro e w5 ⟨rfl, hb⟩
  have G0 : Hid (Blk w5 g0 (ws s) 33) := K0.out.below hb (by omega)
  have G7 : Hid (Blk w5 g7 (ws W) 34) := K7.out.below hb k7
  have GB : Hid (Below g0 w w5) := KB.out.trans (hb.mono (by omega))
  have l7 : g7 < w5.heap.size := by have := hb.size; omega
  clear hb K0 K7 KB k7 T15
  go_wp2_with (refine wpList_alloc_blk rfl 34 rfl _ z34 ?_)
  intro w6 a1 a2 a3
  obtain ⟨g9, hg9⟩ : ∃ g, w5.heap.size = g := ⟨_, rfl⟩
  rw [hg9] at a1 a2 a3 l7 ⊢
  have K0 : Hid (Blk w6 g0 (ws s) 33) := G0.out.below a3 (by omega)
  have K7 : Hid (Blk w6 g7 (ws W) 34) := G7.out.below a3 l7
  have KB : Hid (Below g0 w w6) := GB.out.trans (a3.mono (by omega))
  have K9 := Lib.hid a1
  clear a1 a2 a3 G0 G7 GB hg9
  have J0 : Hid (Blk (w6.setRow g9 (ws W).toArray) g0 (ws s) 33) := K0.out.setRowOther (by omega)
  have J7 : Hid (Blk (w6.setRow g9 (ws W).toArray) g7 (ws W) 34) := K7.out.setRowOther (by omega)
  have J9 : Hid (Blk (w6.setRow g9 (ws W).toArray) g9 (ws W) 34) := K9.out.setRow
  have JB : Hid (Below g0 w (w6.setRow g9 (ws W).toArray)) := below_setRow' KB.out (by omega) _
  go_wp2_with (first | (refine wpList_store_blk rfl 34 _ _ rfl g9 (ws W) z64 34 rfl rfl K9.out W34.out ZW.out (ws_one _) ?_) | (refine wpList_load_blk rfl 33 _ rfl g0 rfl (ws s) 33 J0.out 8 27 tu33 S33.out ?_))
  clear K0 K7 K9 KB
  generalize w6.setRow g9 (ws W).toArray = w7 at J0 J7 J9 JB ⊢
  have k9 := J9.out.lt
  refine (T16.out w7 ((HR.out.below JB.out).more (by omega))).mono ?_
  rintro e w8 ⟨rfl, hb⟩
  have G0 : Hid (Blk w8 g0 (ws s) 33) := J0.out.below hb (by omega)
  have G7 : Hid (Blk w8 g7 (ws W) 34) := J7.out.below hb (by omega)
  have G9 : Hid (Blk w8 g9 (ws W) 34) := J9.out.below hb k9
  have GB : Hid (Below g0 w w8) := JB.out.trans (hb.mono (by omega))
  have l9 : g9 < w8.heap.size := by have := hb.size; omega
  clear hb J0 J7 J9 JB k9 T16
  go_wp2_with (refine wpList_alloc_blk rfl 33 rfl _ z33 ?_)
  intro w9 a1 a2 a3
  obtain ⟨g11, hg11⟩ : ∃ g, w8.heap.size = g := ⟨_, rfl⟩
  rw [hg11] at a1 a2 a3 l9 ⊢
  have K0 : Hid (Blk w9 g0 (ws s) 33) := G0.out.below a3 (by omega)
  have K7 : Hid (Blk w9 g7 (ws W) 34) := G7.out.below a3 (by omega)
  have K9 : Hid (Blk w9 g9 (ws W) 34) := G9.out.below a3 l9
  have KB : Hid (Below g0 w w9) := GB.out.trans (a3.mono (by omega))
  have K11 := Lib.hid a1
  clear a1 a2 a3 G0 G7 G9 GB hg11
  have J0 : Hid (Blk (w9.setRow g11 (ws V).toArray) g0 (ws s) 33) := K0.out.setRowOther (by omega)
  have J7 : Hid (Blk (w9.setRow g11 (ws V).toArray) g7 (ws W) 34) := K7.out.setRowOther (by omega)
  have J9 : Hid (Blk (w9.setRow g11 (ws V).toArray) g9 (ws W) 34) := K9.out.setRowOther (by omega)
  have J11 : Hid (Blk (w9.setRow g11 (ws V).toArray) g11 (ws V) 33) := K11.out.setRow
  have JB : Hid (Below g0 w (w9.setRow g11 (ws V).toArray)) := below_setRow' KB.out (by omega) _
  go_wp2_with (first | (refine wpList_store_blk rfl 33 _ _ rfl g11 (ws V) z8 33 rfl rfl K11.out V33.out ZV.out (ws_one _) ?_) | (refine wpList_load_blk rfl 33 _ rfl g0 rfl (ws s) 33 J0.out 8 27 tu33 S33.out ?_))
  clear K0 K7 K9 K11 KB
  generalize w9.setRow g11 (ws V).toArray = w10 at J0 J7 J9 J11 JB ⊢
  have k11 := J11.out.lt
  refine (T17.out w10 ((HR.out.below JB.out).more (by omega))).mono ?_
  rintro e w11 ⟨rfl, hb⟩
  have G7 : Hid (Blk w11 g7 (ws W) 34) := J7.out.below hb (by omega)
  have G9 : Hid (Blk w11 g9 (ws W) 34) := J9.out.below hb (by omega)
  have G11 : Hid (Blk w11 g11 (ws V) 33) := J11.out.below hb k11
  have GB : Hid (Below g0 w w11) := JB.out.trans (hb.mono (by omega))
  have l11 : g11 < w11.heap.size := by have := hb.size; omega
  clear hb J0 J7 J9 J11 JB k11 T17
  go_wp2_with (refine wpList_alloc_blk rfl 33 rfl _ z33 ?_)
  intro w12 a1 a2 a3
  obtain ⟨g13, hg13⟩ : ∃ g, w11.heap.size = g := ⟨_, rfl⟩
  rw [hg13] at a1 a2 a3 l11 ⊢
  have K7 : Hid (Blk w12 g7 (ws W) 34) := G7.out.below a3 (by omega)
  have K9 : Hid (Blk w12 g9 (ws W) 34) := G9.out.below a3 (by omega)
  have K11 : Hid (Blk w12 g11 (ws V) 33) := G11.out.below a3 l11
  have KB : Hid (Below g0 w w12) := GB.out.trans (a3.mono (by omega))
  have K13 := Lib.hid a1
  clear a1 a2 a3 G7 G9 G11 GB hg13
  go_wp2_with (refine wpList_store_blk rfl 33 _ _ rfl g13 (ws V) z8 33 rfl rfl K13.out V33.out ZV.out (ws_one _) ?_)
  have J7 : Hid (Blk (w12.setRow g13 (ws V).toArray) g7 (ws W) 34) := K7.out.setRowOther (by omega)
  have J9 : Hid (Blk (w12.setRow g13 (ws V).toArray) g9 (ws W) 34) := K9.out.setRowOther (by omega)
  have J11 : Hid (Blk (w12.setRow g13 (ws V).toArray) g11 (ws V) 33) := K11.out.setRowOther (by omega)
  have J13 : Hid (Blk (w12.setRow g13 (ws V).toArray) g13 (ws V) 33) := K13.out.setRow
  have JB : Hid (Below g0 w (w12.setRow g13 (ws V).toArray)) := below_setRow' KB.out (by omega) _
  clear K7 K9 K11 K13 KB
  generalize w12.setRow g13 (ws V).toArray = wr at J7 J9 J11 J13 JB ⊢
  have k13 := J13.out.lt
  clear S33 ZV ZW HR hc hm
  refine wp_region_till 31 30 (fun w' => Below wr.heap.size wr w') (by kernel_rfl) rfl ?_
  have hS : Below wr.heap.size wr wr.drew := (Below.refl _ _).drew
  refine AnyTill.one (i := 0) (by kernel_rfl) rfl (by rfl) (fun K hK => ?_)
  go_simp
  refine (alive_any _).mono ?_
  rintro e wA ⟨rfl, hb⟩
  have hA : Below wr.heap.size wr wA := hS.trans (hb.mono hS.size)
  refine hK.out _ _ (.inr hA) ?_
  clear hK K hb hS
  refine AnyTill.free (i := 1) (v := .bool true) rfl (by kernel_rfl) (by kernel_rfl) (by kernel_rfl) (by kernel_rfl) (fun _ _ _ h => h) (by rfl) (fun w' => ?_) hA ?_
  · first | (go_simp; done) | (go_simp; rfl)
  simp only [Act.put, List.setIfInBounds_toArray, List.set_cons_zero, List.set_cons_succ]
  refine AnyTill.take (i := 2) (v := .agg (ws W).toArray) rfl (by kernel_rfl) (by kernel_rfl) (by kernel_rfl) (by kernel_rfl) (fun _ _ _ h => h) (by rfl) (fun w' hw' => ?_) hA ?_
  · exact run_load_blk 34 _ rfl g7 rfl (ws W) 34 (J7.out.below hw' (by omega)) 64 27 tu34 W34.out
  simp only [Act.put, List.setIfInBounds_toArray, List.set_cons_zero, List.set_cons_succ]
  refine AnyTill.take (i := 3) (v := .agg (ws W).toArray) rfl (by kernel_rfl) (by kernel_rfl) (by kernel_rfl) (by kernel_rfl) (fun _ _ _ h => h) (by rfl) (fun w' hw' => ?_) hA ?_
  · exact run_load_blk 34 _ rfl g9 rfl (ws W) 34 (J9.out.below hw' (by omega)) 64 27 tu34 W34.out
  simp only [Act.put, List.setIfInBounds_toArray, List.set_cons_zero, List.set_cons_succ]
  refine AnyTill.free (i := 4) (v := .bool true) rfl (by kernel_rfl) (by kernel_rfl) (by kernel_rfl) (by kernel_rfl) (fun _ _ _ h => h) (by rfl) (fun w' => ?_) hA ?_
  · have heq := eq34 W HW.out w'
    first | (go_simp; done) | (go_simp; rfl)
  simp only [Act.put, List.setIfInBounds_toArray, List.set_cons_zero, List.set_cons_succ]
  refine AnyTill.free (i := 5) (v := .bool true) rfl (by kernel_rfl) (by kernel_rfl) (by kernel_rfl) (by kernel_rfl) (fun _ _ _ h => h) (by rfl) (fun w' => ?_) hA ?_
  · first | (go_simp; done) | (go_simp; rfl)
  simp only [Act.put, List.setIfInBounds_toArray, List.set_cons_zero, List.set_cons_succ]
  refine AnyTill.free (i := 6) (v := .bool true) rfl (by kernel_rfl) (by kernel_rfl) (by kernel_rfl) (by kernel_rfl) (fun _ _ _ h => h) (by rfl) (fun w' => ?_) hA ?_
  · first | (go_simp; done) | (go_simp; rfl)
  simp only [Act.put, List.setIfInBounds_toArray, List.set_cons_zero, List.set_cons_succ]
  refine AnyTill.free (i := 7) (v := .int .i64 x) rfl (by kernel_rfl) (by kernel_rfl) (by kernel_rfl) (by kernel_rfl) (fun _ _ _ h => h) (by rfl) (fun w' => ?_) hA ?_
  · first | (go_simp; done) | (go_simp; rfl)
  simp only [Act.put, List.setIfInBounds_toArray, List.set_cons_zero, List.set_cons_succ]
  refine AnyTill.free (i := 8) (v := .int .i64 x) rfl (by kernel_rfl) (by kernel_rfl) (by kernel_rfl) (by kernel_rfl) (fun _ _ _ h => h) (by rfl) (fun w' => ?_) hA ?_
  · first | (go_simp; done) | (go_simp; rfl)
  simp only [Act.put, List.setIfInBounds_toArray, List.set_cons_zero, List.set_cons_succ]
  refine AnyTill.free (i := 9) (v := .bool true) rfl (by kernel_rfl) (by kernel_rfl) (by kernel_rfl) (by kernel_rfl) (fun _ _ _ h => h) (by rfl) (fun w' => ?_) hA ?_
  · first | (go_simp; done) | (go_simp; rfl)
  simp only [Act.put, List.setIfInBounds_toArray, List.set_cons_zero, List.set_cons_succ]
  refine AnyTill.free (i := 10) (v := .bool true) rfl (by kernel_rfl) (by kernel_rfl) (by kernel_rfl) (by kernel_rfl) (fun _ _ _ h => h) (by rfl) (fun w' => ?_) hA ?_
  · first | (go_simp; done) | (go_simp; rfl)
  simp only [Act.put, List.setIfInBounds_toArray, List.set_cons_zero, List.set_cons_succ]
  refine AnyTill.free (i := 11) (v := .bool true) rfl (by kernel_rfl) (by kernel_rfl) (by kernel_rfl) (by kernel_rfl) (fun _ _ _ h => h) (by rfl) (fun w' => ?_) hA ?_
  · first | (go_simp; done) | (go_simp; rfl)
  simp only [Act.put, List.setIfInBounds_toArray, List.set_cons_zero, List.set_cons_succ]
  refine AnyTill.take (i := 12) (v := .agg (ws V).toArray) rfl (by kernel_rfl) (by kernel_rfl) (by kernel_rfl) (by kernel_rfl) (fun _ _ _ h => h) (by rfl) (fun w' hw' => ?_) hA ?_
  · exact run_load_blk 33 _ rfl g11 rfl (ws V) 33 (J11.out.below hw' (by omega)) 8 27 tu33 V33.out
  simp only [Act.put, List.setIfInBounds_toArray, List.set_cons_zero, List.set_cons_succ]
  refine AnyTill.take (i := 13) (v := .agg (ws V).toArray) rfl (by kernel_rfl) (by kernel_rfl) (by kernel_rfl) (by kernel_rfl) (fun _ _ _ h => h) (by rfl) (fun w' hw' => ?_) hA ?_
  · exact run_load_blk 33 _ rfl g13 rfl (ws V) 33 (J13.out.below hw' (by omega)) 8 27 tu33 V33.out
  simp only [Act.put, List.setIfInBounds_toArray, List.set_cons_zero, List.set_cons_succ]
  refine AnyTill.free (i := 14) (v := .bool true) rfl (by kernel_rfl) (by kernel_rfl) (by kernel_rfl) (by kernel_rfl) (fun _ _ _ h => h) (by rfl) (fun w' => ?_) hA ?_
  · have heq := eq33 V HV.out w'
    first | (go_simp; done) | (go_simp; rfl)
  simp only [Act.put, List.setIfInBounds_toArray, List.set_cons_zero, List.set_cons_succ]
  refine AnyTill.free (i := 15) (v := .bool true) rfl (by kernel_rfl) (by kernel_rfl) (by kernel_rfl) (by kernel_rfl) (fun _ _ _ h => h) (by rfl) (fun w' => ?_) hA ?_
  · first | (go_simp; done) | (go_simp; rfl)
  simp only [Act.put, List.setIfInBounds_toArray, List.set_cons_zero, List.set_cons_succ]
  refine AnyTill.free (i := 16) (v := .bool true) rfl (by kernel_rfl) (by kernel_rfl) (by kernel_rfl) (by kernel_rfl) (fun _ _ _ h => h) (by rfl) (fun w' => ?_) hA ?_
  · first | (go_simp; done) | (go_simp; rfl)
  simp only [Act.put, List.setIfInBounds_toArray, List.set_cons_zero, List.set_cons_succ]
  refine AnyTill.free (i := 17) (v := .int .i64 x) rfl (by kernel_rfl) (by kernel_rfl) (by kernel_rfl) (by kernel_rfl) (fun _ _ _ h => h) (by rfl) (fun w' => ?_) hA ?_
  · first | (go_simp; done) | (go_simp; rfl)
  simp only [Act.put, List.setIfInBounds_toArray, List.set_cons_zero, List.set_cons_succ]
  refine AnyTill.free (i := 18) (v := .int .i64 x) rfl (by kernel_rfl) (by kernel_rfl) (by kernel_rfl) (by kernel_rfl) (fun _ _ _ h => h) (by rfl) (fun w' => ?_) hA ?_
  · first | (go_simp; done) | (go_simp; rfl)
  simp only [Act.put, List.setIfInBounds_toArray, List.set_cons_zero, List.set_cons_succ]
  refine AnyTill.free (i := 19) (v := .bool true) rfl (by kernel_rfl) (by kernel_rfl) (by kernel_rfl) (by kernel_rfl) (fun _ _ _ h => h) (by rfl) (fun w' => ?_) hA ?_
  · first | (go_simp; done) | (go_simp; rfl)
  simp only [Act.put, List.setIfInBounds_toArray, List.set_cons_zero, List.set_cons_succ]
  refine AnyTill.free (i := 20) (v := .bool true) rfl (by kernel_rfl) (by kernel_rfl) (by kernel_rfl) (by kernel_rfl) (fun _ _ _ h => h) (by rfl) (fun w' => ?_) hA ?_
  · first | (go_simp; done) | (go_simp; rfl)
  simp only [Act.put, List.setIfInBounds_toArray, List.set_cons_zero, List.set_cons_succ]
  refine AnyTill.free (i := 21) (v := .bool true) rfl (by kernel_rfl) (by kernel_rfl) (by kernel_rfl) (by kernel_rfl) (fun _ _ _ h => h) (by rfl) (fun w' => ?_) hA ?_
  · first | (go_simp; done) | (go_simp; rfl)
  simp only [Act.put, List.setIfInBounds_toArray, List.set_cons_zero, List.set_cons_succ]
  refine AnyTill.free (i := 22) (v := .int .i64 n) rfl (by kernel_rfl) (by kernel_rfl) (by kernel_rfl) (by kernel_rfl) (fun _ _ _ h => h) (by rfl) (fun w' => ?_) hA ?_
  · first | (go_simp; done) | (go_simp; rfl)
  simp only [Act.put, List.setIfInBounds_toArray, List.set_cons_zero, List.set_cons_succ]
  refine AnyTill.free (i := 25) (v := .int .i64 n) rfl (by kernel_rfl) (by kernel_rfl) (by kernel_rfl) (by kernel_rfl) (fun _ _ _ h => h) (by rfl) (fun w' => ?_) hA ?_
  · first | (go_simp; done) | (go_simp; rfl)
  simp only [Act.put, List.setIfInBounds_toArray, List.set_cons_zero, List.set_cons_succ]
  obtain ⟨PL, hPL⟩ : ∃ x, padl n.toNat = x := ⟨_, rfl⟩
  obtain ⟨NL, hNL⟩ : ∃ x, PL.length = x := ⟨_, rfl⟩
  have hsw := JB.out.size
  refine AnyTill.one (i := 23) (by kernel_rfl) rfl (by rfl) (fun K hK => ?_)
  · go_simp
    refine (pad_any n _ hn0 (by omega)).mono ?_
    rintro e wB ⟨vB, rfl, hown, hb⟩
    rw [hPL] at hown
    have rB : Rd wB.heap.size wB vB PL := hown.rd
    obtain ⟨AB, cB, hvB, _, _⟩ := rB.shape
    rw [hNL] at hvB
    subst hvB
    have hB : Below wr.heap.size wr wB := hA.trans (hb.mono hA.size)
    refine hK.out _ _ (.inr hB) ?_
    clear hK K hb hown
    try simp only [Act.put, List.setIfInBounds_toArray, List.set_cons_zero, List.set_cons_succ]
    refine AnyTill.narrow (S' := fun w' => Below wB.heap.size wB w') (fun w' h => hB.trans (h.mono hB.size)) _ _ _ _ ?_
    refine AnyTill.take (i := 24) (v := .string ⟨PL.toArray⟩) rfl (by kernel_rfl) (by kernel_rfl) (by kernel_rfl) (by kernel_rfl) (fun _ _ _ h => h) (by rfl) (fun w' hw' => ?_) (Below.refl _ _) ?_
    · have st := run_string_rd (P := Try.prog) 22 9 5 Try.underlying22 Try.underlying5 Try.underlying9 (rB.below hw')
      first | (go_simp; done) | (go_simp; rfl)
    simp only [Act.put, List.setIfInBounds_toArray, List.set_cons_zero, List.set_cons_succ]
    refine AnyTill.one (i := 26) (by kernel_rfl) rfl (by rfl) (fun K hK => ?_)
    go_simp
    refine (refPad_any n _ hn0 hn1).mono ?_
    rintro e wC ⟨vC, rfl, hown, hb⟩
    rw [hPL] at hown
    have rC : Rd wC.heap.size wC vC PL := hown.rd
    obtain ⟨AC, cC, hvC, _, _⟩ := rC.shape
    rw [hNL] at hvC
    subst hvC
    have hC : Below wr.heap.size wr wC := hB.trans (hb.mono hB.size)
    refine hK.out _ _ (.inr hb) ?_
    refine AnyTill.narrow (S' := fun w' => Below wC.heap.size wC w') (fun w' h => hb.trans (h.mono hb.size)) _ _ _ _ ?_
    clear hK K hb hown
    try simp only [Act.put, List.setIfInBounds_toArray, List.set_cons_zero, List.set_cons_succ]
    refine AnyTill.take (i := 27) (v := .string ⟨PL.toArray⟩) rfl (by kernel_rfl) (by kernel_rfl) (by kernel_rfl) (by kernel_rfl) (fun _ _ _ h => h) (by rfl) (fun w' hw' => ?_) (Below.refl _ _) ?_
    · have st := run_string_rd (P := Try.prog) 22 9 5 Try.underlying22 Try.underlying5 Try.underlying9 (rC.below hw')
      first | (go_simp; done) | (go_simp; rfl)
    simp only [Act.put, List.setIfInBounds_toArray, List.set_cons_zero, List.set_cons_succ]
    refine AnyTill.free (i := 28) (v := .bool true) rfl (by kernel_rfl) (by kernel_rfl) (by kernel_rfl) (by kernel_rfl) (fun _ _ _ h => h) (by rfl) (fun w' => ?_) (Below.refl _ _) ?_
    · first | (go_simp; done) | (go_simp; rfl)
    simp only [Act.put, List.setIfInBounds_toArray, List.set_cons_zero, List.set_cons_succ]
    refine AnyTill.free (i := 29) (v := .bool true) rfl (by kernel_rfl) (by kernel_rfl) (by kernel_rfl) (by kernel_rfl) (fun _ _ _ h => h) (by rfl) (fun w' => ?_) (Below.refl _ _) ?_
    · first | (go_simp; done) | (go_simp; rfl)
    simp only [Act.put, List.setIfInBounds_toArray, List.set_cons_zero, List.set_cons_succ]
    refine AnyTill.one (i := 30) (by kernel_rfl) rfl (by rfl) (fun K hK => ?_)
    go_simp
    refine hK.out _ _ (.inl (by kernel_rfl)) ?_
    clear hK K
    refine AnyTill.done (by kernel_rfl) ?_
    refine NoPanic.normal ?_
    go_wp2
    go_ret
    exact ⟨rfl, by rw [hg0]; exact JB.out.trans (hC.mono (by omega))⟩

theorem blocks_law (s : List Nat) (v : Value) (l : List UInt8) (n : Int) (w : World) (hs : s.length = 8) (hs32 : W32 s) (hr : Rd w.heap.size w v l) (hn0 : -9223372036854775808 ≤ n) : Calls Try.prog 5 #[.agg (ws s).toArray, v, .int .i64 n] w fun e w' => e = .returned (.bool true) ∧ Below w.heap.size w w' := by
  by_cases h : 2000 < l.length ∨ 1099511627776 < n
  · exact blocks_big s v l n w hr h
  · by_cases h64 : l.length = 64
    · exact blocks_core s v l n w hs hr (by omega) hn0 (by omega) (sch l 64) (blk s l) 0 (sch_length _ _) (proc_length _ _ _)
        (fun w' h' => scheduleX_in v l w' h' h64) (fun w' h' => refSchedule_in v l w' h' h64) (fun w' h' => blockX_in s v l w' hs hs32 h' h64) (fun w' h' => refBlock_in s v l w' hs hs32 h' h64)
    · exact blocks_core s v l n w hs hr (by omega) hn0 (by omega) (List.replicate 64 0) (List.replicate 8 0) 1 (by simp) (by simp)
        (fun w' h' => scheduleX_out v l w' h' h64) (fun w' h' => refSchedule_out v l w' h' h64) (fun w' h' => blockX_out s v l w' h' h64) (fun w' h' => refBlock_out s v l w' h' h64)
end Go.Proofs.Ytochamncdplaiaa
