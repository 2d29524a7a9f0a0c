/-
  Sum, Round, Schedule and Block: for every input the program answers as the document says.
-/
import Derived.Test.YtochamncdplaiaaA8
namespace Go.Proofs.Ytochamncdplaiaa
open Go.RowKit

set_option maxHeartbeats 1000000 in
theorem sum_any (v : Value) (l : List UInt8) (w : World) (hr : Rd w.heap.size w v l) : Calls Try.prog 10 #[v] w (Arr (bys (hash l)) w) := by
  have HR := Lib.hid hr
  obtain ⟨A, c, rfl, hc, hm, hn, hcell⟩ := hr
  clear hcell hn
  unfold maxLen at hm
  go_enter Try.func10, Try.ntmps10
  go_wp2_with (refine wpList_alloc_blk rfl 24 rfl _ z24 ?_)
  intro w1 a1 a2 a3
  have A1 := Lib.hid a1
  have A2 := Lib.hid a2
  have A3 := Lib.hid a3
  clear a1 a2 a3
  go_wp2_with fail
  refine (initial_any _).mono ?_
  rintro e w2 ⟨rfl, hb2⟩
  have B2 := Lib.hid hb2
  clear hb2
  go_wp2_with fail
  have hsz : w.heap.size < w2.heap.size := by have := B2.out.size; have := A2.out; omega
  have hszA := A2.out
  refine (absorb_any iv _ l _ iv_length iv_lt (((HR.out.below A3.out).below (B2.out.mono (by omega))).more (by omega))).mono ?_
  rintro e w3 ⟨v3, rfl, hr3, hb3⟩
  have hhash := hash_parts l (l.length / 64) (by omega)
  obtain ⟨st, hst⟩ : ∃ st, chain iv (l.length / 64) l = st := ⟨_, rfl⟩
  have h8 : st.length = 8 := by rw [← hst, chain_length iv iv_length]
  have h32 : W32 st := by rw [← hst]; exact chain_lt iv iv_lt _ _
  rw [hst] at hhash ⊢
  have HH := Lib.hid hhash
  have H8 := Lib.hid h8
  have h33 : (Try.prog.info? 33).map (·.size) = some (ws st).length := by rw [ws_length, h8]; exact s33
  have H33 := Lib.hid h33
  have hlz : z8.length = (ws st).length := by rw [ws_length, h8, z8_length]
  have HLZ := Lib.hid hlz
  have HR3 := Lib.hid hr3
  have HB3 := Lib.hid hb3
  have hsz3 := hb3.size
  clear hst hhash h8 h33 hlz hr3 hb3
  go_wp2_with (refine wpList_alloc_blk rfl 33 rfl _ z33 ?_)
  intro w4 a1 a2 a3
  have G0 : Hid (Blk w4 w.heap.size z32 24) := ((A1.out.below B2.out (by omega)).below HB3.out (by omega)).below a3 (by omega)
  have G1 : Hid (Blk w4 w3.heap.size z8 33) := a1
  have GB : Hid (Below w.heap.size w w4) := ((A3.out.trans (B2.out.mono (by omega))).trans (HB3.out.mono (by omega))).trans (a3.mono (by omega))
  have GR : Hid (Rd w3.heap.size w4 v3 (l.drop (64 * (l.length / 64)))) := ((HR3.out.below HB3.out).below (a3.mono (by omega))).more (by omega)
  obtain ⟨g, hg⟩ : ∃ g, w3.heap.size = g := ⟨_, rfl⟩
  rw [hg] at G1 GR ⊢
  have hgl : w.heap.size < g := by omega
  clear a1 a2 a3 A1 A2 A3 B2 HB3 HR3 hsz hszA hsz3 hg
  obtain ⟨A3, c3, rfl, _⟩ := GR.out.shape
  obtain ⟨r, hr⟩ : ∃ r, l.drop (64 * (l.length / 64)) = r := ⟨_, rfl⟩
  have hrl : r.length = l.length - 64 * (l.length / 64) := by rw [← hr, List.length_drop]
  rw [hr] at GR ⊢
  have hh2 : hash l = joinl (chain st ((r.length + (padl l.length).length) / 64) (r ++ padl l.length)) := by rw [HH.out, hr, hrl]
  have HH2 := Lib.hid hh2
  have hr64 : r.length ≤ 64 := by omega
  clear hr hrl hh2 HH
  go_wp2_with (first | (refine wpList_store_blk rfl 33 _ _ rfl g (ws st) z8 33 rfl rfl G1.out H33.out HLZ.out (ws_one _) ?_) | (refine wpList_load_blk rfl 33 _ rfl g rfl (ws st) 33 G1.out.setRow 8 27 tu33 H33.out ?_))
  have hg4 := G1.out.lt
  have GR5 : Rd (w4.setRow g (ws st).toArray).heap.size (w4.setRow g (ws st).toArray) (.slice A3 r.length c3) r :=
    (GR.out.keep (fun p hp => cell_setRow_other w4 g _ p (by omega))).more (by simp; omega)
  refine (finish_any st _ r l.length _ H8.out h32 GR5 hr64 (by omega)).mono ?_
  rintro e w5 ⟨rfl, hb5⟩
  rw [← HH2.out]
  have L0 : Hid (Blk w5 w.heap.size z32 24) := (G0.out.setRowOther (g' := g) (cs' := ws st) (by omega)).below hb5 (by simp; omega)
  have LB : Hid (Below w.heap.size w w5) := (below_setRow' GB.out (by omega) _).trans (hb5.mono (by simp; omega))
  have h24 : (Try.prog.info? 24).map (·.size) = some (bys (hash l)).length := by rw [bys_length, hash_length]; exact s24
  have hlz : z32.length = (bys (hash l)).length := by rw [bys_length, hash_length, z32_length]
  have H24 := Lib.hid h24
  have HL2 := Lib.hid hlz
  clear hb5 h24 hlz G0 G1 GB GR5 GR
  go_wp2_with (refine wpList_store_blk rfl 24 _ _ rfl w.heap.size (bys (hash l)) z32 24 rfl rfl L0.out H24.out HL2.out (bys_one' _) ?_)
  refine bodyPost_ret (v := .agg (bys (hash l)).toArray) ?_ rfl ?_
  · exact ret_blk rfl _ _ w.heap.size 24 _ rfl L0.out.setRow 32 5 tu24 H24.out
  · exact ⟨rfl, below_setRow' LB.out (Nat.le_refl _) _⟩

/-- The call answers two values, and no old memory has changed. -/
def Two (x y : Value) (w : World) (e : Ending) (w' : World) : Prop := e = .returned (.tuple #[x, y]) ∧ Below w.heap.size w w'

set_option maxHeartbeats 400000 in
theorem round_in (i : Nat) (w : World) (h : i < 64) : Calls Try.prog 12 #[.int .i64 (i : Int)] w (Two (.int .u32 ((kw.getD i 0 : Nat) : Int)) (.int .i64 0) w) := by
  have zi : (i : Int) < 64 := by omega
  obtain ⟨x, hx⟩ : ∃ x, kw.getD i 0 = x := ⟨_, rfl⟩
  rw [hx]
  have HX := Lib.hid hx
  clear hx
  go_enter Try.func12, Try.ntmps12
  go_wp2_with fail
  refine (roundConstants_any _).mono ?_
  rintro e w1 ⟨rfl, hb⟩
  have hix := run_index (P := Try.prog) 34 27 64 .u32 tu34 s27 tu27 (ws kw) i h _ (ws_cell kw i (by rw [kw_length]; exact h)) w1
  have HB := Lib.hid hb
  clear hb
  rw [HX.out] at hix
  go_wp2
  go_ret2
  exact ⟨rfl, HB.out⟩
set_option maxHeartbeats 400000 in
theorem round_out (i : Int) (w : World) (h : i < 0 ∨ 64 ≤ i) : Calls Try.prog 12 #[.int .i64 i] w (Two (.int .u32 0) (.int .i64 1) w) := by
  rcases h with h | h
  all_goals
    go_enter Try.func12, Try.ntmps12
    go_wp2
    go_ret2
    exact ⟨rfl, Below.refl _ _⟩

set_option maxHeartbeats 400000 in
theorem scheduleX_in (v : Value) (b : List UInt8) (w : World) (hr : Rd w.heap.size w v b) (hl : b.length = 64) : Calls Try.prog 14 #[v] w (Two (.agg (ws (sch b 64)).toArray) (.int .i64 0) w) := by
  have HR := Lib.hid hr
  have HL := Lib.hid hl
  obtain ⟨A, c, rfl, hc, hm, hn, hcell⟩ := hr
  rw [hl] at hc HR ⊢
  clear hcell hn hl
  unfold maxLen at hm
  go_enter Try.func14, Try.ntmps14
  go_wp2_with (refine wpList_alloc_blk rfl 34 rfl _ z34 ?_)
  intro w1 a1 a2 a3
  have A1 := Lib.hid a1
  have A2 := Lib.hid a2
  have A3 := Lib.hid a3
  clear a1 a2 a3
  go_wp2_with fail
  have hA2 := A2.out
  refine (schedule_any _ b _ ((HR.out.below A3.out).more (by omega)) HL.out).mono ?_
  rintro e w2 ⟨rfl, hb2⟩
  have G0 : Hid (Blk w2 w.heap.size z64 34) := A1.out.below hb2 (by omega)
  have GB : Hid (Below w.heap.size w w2) := A3.out.trans (hb2.mono (by omega))
  have h34 : (Try.prog.info? 34).map (·.size) = some (ws (sch b 64)).length := by rw [ws_length, sch_length]; exact s34
  have hlz : z64.length = (ws (sch b 64)).length := by rw [ws_length, sch_length, z64_length]
  have H34 := Lib.hid h34
  have HLZ := Lib.hid hlz
  clear hb2 h34 hlz A1 A2 A3 hA2
  go_wp2_with (refine wpList_store_blk rfl 34 _ _ rfl w.heap.size (ws (sch b 64)) z64 34 rfl rfl G0.out H34.out HLZ.out (ws_one _) ?_)
  refine bodyPost_ret (v := .tuple #[.agg (ws (sch b 64)).toArray, .int .i64 0]) ?_ rfl ?_
  · exact ret_blk2 rfl _ _ w.heap.size 34 _ _ rfl rfl G0.out.setRow 64 27 tu34 H34.out
  · exact ⟨rfl, below_setRow' GB.out (Nat.le_refl _) _⟩
set_option maxHeartbeats 400000 in
theorem scheduleX_out (v : Value) (b : List UInt8) (w : World) (hr : Rd w.heap.size w v b) (hl : b.length ≠ 64) : Calls Try.prog 14 #[v] w (Two (.agg z64.toArray) (.int .i64 1) w) := by
  obtain ⟨A, c, rfl, hc, hm, hn, hcell⟩ := hr
  have hl2 : ((b.length : Int) != 64) = true := by simp; omega
  clear hcell hn
  unfold maxLen at hm
  have HLN : Hid ((Try.prog.info? 34).map (·.size) = some z64.length) := s34
  go_enter Try.func14, Try.ntmps14
  go_wp2_with (refine wpList_alloc_blk rfl 34 rfl _ z34 ?_)
  intro w1 a1 a2 a3
  have A1 := Lib.hid a1
  have A2 := Lib.hid a2
  have A3 := Lib.hid a3
  clear a1 a2 a3
  go_wp2_with (first | (refine wpList_buildTo rfl 34 _ rfl (some 7) rfl z64.toArray (by kernel_rfl) ?_) | (refine wpList_store_blk rfl 34 _ _ rfl w.heap.size z64 z64 34 rfl rfl A1.out HLN.out rfl (ws_one _) ?_))
  refine bodyPost_ret (v := .tuple #[.agg z64.toArray, .int .i64 1]) ?_ rfl ?_
  · exact ret_blk2 rfl _ _ w.heap.size 34 _ _ rfl rfl A1.out.setRow 64 27 tu34 HLN.out
  · exact ⟨rfl, below_setRow' A3.out (Nat.le_refl _) _⟩

set_option maxHeartbeats 1000000 in
theorem blockX_in (s : List Nat) (v : Value) (b : List UInt8) (w : World) (hs : s.length = 8) (hs32 : W32 s) (hr : Rd w.heap.size w v b) (hl : b.length = 64) : Calls Try.prog 16 #[.agg (ws s).toArray, v] w (Two (.agg (ws (blk s b)).toArray) (.int .i64 0) w) := by
  have HR := Lib.hid hr
  have HL := Lib.hid hl
  have HS := Lib.hid hs
  obtain ⟨A, c, rfl, hc, hm, hn, hcell⟩ := hr
  rw [hl] at hc HR ⊢
  clear hcell hn hl hs
  unfold maxLen at hm
  go_enter Try.func16, Try.ntmps16
  go_wp2_with (refine wpList_box_blk rfl 33 _ rfl (ws s) rfl ?_)
  intro w1 a1 a2 a3
  have A1 := Lib.hid a1
  have A2 := Lib.hid a2
  have A3 := Lib.hid a3
  clear a1 a2 a3
  go_wp2_with (refine wpList_alloc_blk rfl 33 rfl _ z33 ?_)
  intro w2 a1 a2 a3
  rw [A2.out] at a1 a2 a3 ⊢
  have G0 : Hid (Blk w2 w.heap.size (ws s) 33) := A1.out.below a3 (by omega)
  have G1 : Hid (Blk w2 (w.heap.size + 1) z8 33) := a1
  have GB : Hid (Below w.heap.size w w2) := A3.out.trans (a3.mono (by omega))
  have HS2 := Lib.hid a2
  have hsz2 : w.heap.size + 1 < w2.heap.size := by omega
  clear a1 a2 a3 A1 A2 A3
  have h33 : (Try.prog.info? 33).map (·.size) = some (ws s).length := by rw [ws_length, HS.out]; exact s33
  have H33 := Lib.hid h33
  clear h33
  go_wp2
  refine wp_region_till 7 5 (fun w' => Below w2.heap.size w2 w') (by kernel_rfl) rfl ?_
  have hS : Below w2.heap.size w2 w2.drew := (Below.refl _ _).drew
  refine AnyTill.take (i := 0) (v := .agg (ws s).toArray) rfl (by kernel_rfl) (by kernel_rfl) (by kernel_rfl) (by kernel_rfl) (fun _ _ _ h => h) (by rfl) (fun w' hw' => ?_) hS ?_
  · exact run_load_blk 33 _ rfl w.heap.size rfl (ws s) 33 (G0.out.below hw' (by omega)) 8 27 tu33 H33.out
  simp only [Act.put, List.setIfInBounds_toArray, List.set_cons_zero, List.set_cons_succ]
  refine AnyTill.free (i := 1) (v := .slice A 64 c) rfl (by kernel_rfl) (by kernel_rfl) (by kernel_rfl) (by kernel_rfl) (fun _ _ _ h => h) (by rfl) (fun w' => ?_) hS ?_
  · first | (go_simp; done) | (go_simp; rfl)
  simp only [Act.put, List.setIfInBounds_toArray, List.set_cons_zero, List.set_cons_succ]
  refine AnyTill.one (i := 2) (by kernel_rfl) rfl (by rfl) (fun K hK => ?_)
  go_simp
  refine (schedule_any _ b _ ((HR.out.below (GB.out.drew)).more (by simp; omega)) HL.out).mono ?_
  rintro e w3 ⟨rfl, hb3⟩
  have hS3 : Below w2.heap.size w2 w3 := hS.trans hb3
  refine hK.out _ _ (.inr hS3) ?_
  clear hK K
  refine AnyTill.one (i := 3) (by kernel_rfl) rfl (by rfl) (fun K hK => ?_)
  go_simp
  refine (roundConstants_any _).mono ?_
  rintro e w4 ⟨rfl, hb4⟩
  have hS4 : Below w2.heap.size w2 w4 := hS3.trans (hb4.mono hS3.size)
  refine hK.out _ _ (.inr hS4) ?_
  clear hK K
  refine AnyTill.one (i := 4) (by kernel_rfl) rfl (by rfl) (fun K hK => ?_)
  go_simp
  refine (process_any s (sch b 64) kw _ HS.out (sch_length _ _) kw_length hs32).mono ?_
  rintro e w5 ⟨rfl, hb5⟩
  have hS5 : Below w2.heap.size w2 w5 := hS4.trans (hb5.mono hS4.size)
  refine hK.out _ _ (.inr hS5) ?_
  clear hK K
  have hi33 : (Try.prog.info? 33).map (·.size) = some (ws (blk s b)).length := s33
  refine AnyTill.one (i := 5) (by kernel_rfl) rfl (by rfl) (fun K hK => ?_)
  refine wp_store_blk 33 _ _ rfl (w.heap.size + 1) (ws (blk s b)) z8 33 rfl rfl (G1.out.below hS5 (by omega)) hi33 z8_length (ws_one _) ?_
  refine hK.out _ _ (.inl (by kernel_rfl)) ?_
  clear hK K
  refine AnyTill.one (i := 6) (by kernel_rfl) rfl (by rfl) (fun K hK => ?_)
  go_simp
  refine hK.out _ _ (.inl (by kernel_rfl)) ?_
  clear hK K
  refine AnyTill.done (by kernel_rfl) ?_
  refine NoPanic.normal ?_
  have J1 : Hid (Blk (w5.setRow (w.heap.size + 1) (ws (blk s b)).toArray) (w.heap.size + 1) (ws (blk s b)) 33) := (G1.out.below hS5 (by omega)).setRow
  have JB : Hid (Below w.heap.size w (w5.setRow (w.heap.size + 1) (ws (blk s b)).toArray)) := below_setRow' (GB.out.trans (hS5.mono (by omega))) (by omega) _
  generalize w5.setRow (w.heap.size + 1) (ws (blk s b)).toArray = w6 at J1 JB ⊢
  have HI33 := Lib.hid hi33
  clear hS hS3 hS4 hS5 hb3 hb4 hb5 hi33
  go_wp2
  refine bodyPost_ret (v := .tuple #[.agg (ws (blk s b)).toArray, .int .i64 0]) ?_ rfl ?_
  · exact ret_blk2 rfl _ _ (w.heap.size + 1) 33 _ _ rfl rfl J1.out 8 27 tu33 HI33.out
  · exact ⟨rfl, JB.out⟩
set_option maxHeartbeats 400000 in
theorem blockX_out (s : List Nat) (v : Value) (b : List UInt8) (w : World) (hr : Rd w.heap.size w v b) (hl : b.length ≠ 64) : Calls Try.prog 16 #[.agg (ws s).toArray, v] w (Two (.agg z8.toArray) (.int .i64 1) w) := by
  obtain ⟨A, c, rfl, hc, hm, hn, hcell⟩ := hr
  have hl2 : ((b.length : Int) != 64) = true := by simp; omega
  clear hcell hn
  unfold maxLen at hm
  have HLN : Hid ((Try.prog.info? 33).map (·.size) = some z8.length) := s33
  go_enter Try.func16, Try.ntmps16
  go_wp2_with (refine wpList_box_blk rfl 33 _ rfl (ws s) rfl ?_)
  intro w1 a1 a2 a3
  have A2 := Lib.hid a2
  have A3 := Lib.hid a3
  clear a1 a2 a3
  go_wp2_with (refine wpList_alloc_blk rfl 33 rfl _ z33 ?_)
  intro w2 a1 a2 a3
  rw [A2.out] at a1 a2 a3 ⊢
  have G1 : Hid (Blk w2 (w.heap.size + 1) z8 33) := a1
  have GB : Hid (Below w.heap.size w w2) := A3.out.trans (a3.mono (by omega))
  clear a1 a2 a3 A2 A3
  go_wp2_with (first | (refine wpList_buildTo rfl 33 _ rfl (some 9) rfl z8.toArray (by kernel_rfl) ?_) | (refine wpList_store_blk rfl 33 _ _ rfl (w.heap.size + 1) z8 z8 33 rfl rfl G1.out HLN.out rfl (ws_one _) ?_))
  refine bodyPost_ret (v := .tuple #[.agg z8.toArray, .int .i64 1]) ?_ rfl ?_
  · exact ret_blk2 rfl _ _ (w.heap.size + 1) 33 _ _ rfl rfl G1.out.setRow 8 27 tu33 HLN.out
  · exact ⟨rfl, below_setRow' GB.out (by omega) _⟩
end Go.Proofs.Ytochamncdplaiaa
