/-
  finish and Sum: for all bytes the program answers their hash.
-/
import Derived.Test.YtnemkefmlffigaaGreatSa7
import Derived.Test.YtnemkefmlffigaaGreatPs
namespace Go.Proofs.YtnemkefmlffigaaGreat
open Go.RowKit

set_option maxHeartbeats 2000000 in
set_option maxRecDepth 100000 in
theorem finish_any (s : List Nat) (v : Value) (l : List UInt8) (n : Nat) (w : World) (hs : s.length = 8) (hs32 : W32 s) (hr : Rd w.heap.size w v l) (hll : l.length ≤ 64) (hn : n ≤ 9223372036854775807) :
    Calls Tryz.prog 114 #[.agg (ws s).toArray, v, .int .i64 (n : Int)] w (Arr (bys (joinl (chain s ((l.length + (padl n).length) / 64) (l ++ padl n)))) w) := by
  obtain ⟨i0, hi, hz0, hz1, hz2⟩ := info_parts info5
  have HI := Lib.hid hi
  have H0 := Lib.hid hz0
  have H1 := Lib.hid hz1
  have H2 := Lib.hid hz2
  have HS := Lib.hid hs
  have HR := Lib.hid hr
  obtain ⟨A, c, rfl, hc, hm, hnn, hcell⟩ := hr
  clear hi hz0 hz1 hz2 hs hcell
  unfold maxLen at hm
  go_enter Tryz.func114, Tryz.ntmps114
  go_wp2_with (refine wpList_box_blk rfl 125 _ rfl (ws s) rfl ?_)
  intro w1 a1 a2 a3
  have A1 := Lib.hid a1
  have A2 := Lib.hid a2
  have A3 := Lib.hid a3
  clear a1 a2 a3
  go_wp2_with (refine wpList_alloc_blk rfl 23 rfl _ z24 ?_)
  intro w2 a1 a2 a3
  rw [A2.out] at a1 a2 a3 ⊢
  have G0 : Hid (Blk w2 w.heap.size (ws s) 125) := A1.out.below a3 (by omega)
  have G1 : Hid (Blk w2 (w.heap.size + 1) z32 23) := a1
  have GB : Hid (Below w.heap.size w w2) := A3.out.trans (a3.mono (by omega))
  have hs2 : w2.heap.size = w.heap.size + 1 + 1 := a2
  have HS2 := Lib.hid hs2
  clear a1 a2 a3 A1 A2 A3 hs2
  have h33 : (Tryz.prog.info? 125).map (·.size) = some (ws s).length := by rw [ws_length, HS.out]; exact s33
  have H33 := Lib.hid h33
  have RN : Hid (Rd w.heap.size w (.slice A l.length l.length) l) := by
    obtain ⟨A', c', hv, h1, h2, h3, h4⟩ := HR.out
    injection hv with e1 e2 e3
    subst e1 e3
    exact ⟨A, l.length, rfl, Nat.le_refl _, by omega, fun h => by have := h3 h; omega, h4⟩
  have HNN := Lib.hid hnn
  clear h33 hnn
  go_wp2
  refine wp_region_till 10 9 (fun w' => Below w2.heap.size w2 w') (by kernel_rfl) rfl ?_
  have hS : Below w2.heap.size w2 w2.drew := (Below.refl _ _).drew
  have hsz2 := HS2.out
  refine AnyTill.take (i := 0) (v := .agg (ws s).toArray) rfl (by kernel_rfl) (by kernel_rfl) (by kernel_rfl) (by kernel_rfl) (fun _ _ _ h => h) (by rfl) (fun w' hw' => ?_) hS ?_
  · exact run_load_blk 125 _ rfl w.heap.size rfl (ws s) 125 (G0.out.below hw' (by omega)) 8 48 tu33 H33.out
  simp only [Act.put, List.setIfInBounds_toArray, List.set_cons_zero, List.set_cons_succ]
  refine AnyTill.take (i := 1) (v := .slice A l.length l.length) rfl (by kernel_rfl) (by kernel_rfl) (by kernel_rfl) (by kernel_rfl) (fun _ _ _ h => h) (by rfl) (fun w' hw' => ?_) hS ?_
  · first | (go_simp; done) | (go_simp; rfl)
  simp only [Act.put, List.setIfInBounds_toArray, List.set_cons_zero, List.set_cons_succ]
  refine AnyTill.take (i := 2) (v := .int .i64 (n : Int)) rfl (by kernel_rfl) (by kernel_rfl) (by kernel_rfl) (by kernel_rfl) (fun _ _ _ h => h) (by rfl) (fun w' hw' => ?_) hS ?_
  · first | (go_simp; done) | (go_simp; rfl)
  simp only [Act.put, List.setIfInBounds_toArray, List.set_cons_zero, List.set_cons_succ]
  refine AnyTill.one (i := 3) (by kernel_rfl) rfl (by rfl) (fun K hK => ?_)
  go_simp
  refine (pad_any _ _ (by omega) (by omega)).mono ?_
  rintro e w3 ⟨v3, rfl, hown3, hb3⟩
  rw [Int.toNat_natCast] at hown3
  have hS3 : Below w2.heap.size w2 w3 := hS.trans hb3
  refine hK.out _ _ (.inr hS3) ?_
  clear hK K
  have hp := padl_length n
  have hzn : zn n < 64 := by unfold zn; omega
  refine AnyTill.one (i := 4) (by kernel_rfl) rfl (by rfl) (fun K hK => ?_)
  refine wp_grow rfl _ _ 34 rfl 5 i0 Tryz.underlying34 HI.out H0.out H1.out H2.out w.heap.size w3.heap.size A l.length v3 l (padl n) rfl ((RN.out.below GB.out).below (hS3.mono (by omega))) rfl hown3.rd (by omega) (by omega) ?_
  intro v4 w4 hown4 hb4
  have hS4 : Below w2.heap.size w2 w4 := hS3.trans (hb4.mono hS3.size)
  refine hK.out _ _ (.inr hS4) ?_
  clear hK K
  simp only [Act.put, List.setIfInBounds_toArray, List.set_cons_zero, List.set_cons_succ]
  have HO4 := Lib.hid hown4
  clear hown3 hown4 hb3 hb4
  refine AnyTill.one (i := 5) (by kernel_rfl) rfl (by rfl) (fun K hK => ?_)
  go_simp
  refine (absorb_any s v4 (l ++ padl n) _ HS.out hs32 HO4.out.rd).mono ?_
  rintro e w5 ⟨v5, rfl, hr5, hb5⟩
  have hS5 : Below w2.heap.size w2 w5 := hS4.trans (hb5.mono hS4.size)
  refine hK.out _ _ (.inr hS5) ?_
  clear hK K
  obtain ⟨st, hst⟩ : ∃ st, chain s ((l ++ padl n).length / 64) (l ++ padl n) = st := ⟨_, rfl⟩
  have hl2 : (l ++ padl n).length = l.length + (padl n).length := List.length_append
  have h8 : st.length = 8 := by rw [← hst, chain_length s HS.out]
  have h32 : W32 st := by rw [← hst]; exact chain_lt s hs32 _ _
  rw [hst]
  rw [hl2] at hst
  have H8 := Lib.hid h8
  have HST := Lib.hid hst
  clear hst h8 hl2 hp hzn
  refine AnyTill.free (i := 6) (v := .tuple #[.agg (ws st).toArray, v5]) rfl (by kernel_rfl) (by kernel_rfl) (by kernel_rfl) (by kernel_rfl) (fun _ _ _ h => h) (by rfl) (fun w' => ?_) hS5 ?_
  · first | (go_simp; done) | (go_simp; rfl)
  simp only [Act.put, List.setIfInBounds_toArray, List.set_cons_zero, List.set_cons_succ]
  refine AnyTill.free (i := 7) (v := .agg (ws st).toArray) rfl (by kernel_rfl) (by kernel_rfl) (by kernel_rfl) (by kernel_rfl) (fun _ _ _ h => h) (by rfl) (fun w' => ?_) hS5 ?_
  · first | (go_simp; done) | (go_simp; rfl)
  simp only [Act.put, List.setIfInBounds_toArray, List.set_cons_zero, List.set_cons_succ]
  refine AnyTill.free (i := 8) (v := v5) rfl (by kernel_rfl) (by kernel_rfl) (by kernel_rfl) (by kernel_rfl) (fun _ _ _ h => h) (by rfl) (fun w' => ?_) hS5 ?_
  · first | (go_simp; done) | (go_simp; rfl)
  simp only [Act.put, List.setIfInBounds_toArray, List.set_cons_zero, List.set_cons_succ]
  have hi33 : (Tryz.prog.info? 125).map (·.size) = some (ws st).length := by rw [ws_length, H8.out]; exact s33
  have hlz : (ws s).length = (ws st).length := by rw [ws_length, ws_length, H8.out, HS.out]
  refine AnyTill.one (i := 9) (by kernel_rfl) rfl (by rfl) (fun K hK => ?_)
  refine wp_store_blk 125 _ _ rfl w.heap.size (ws st) (ws s) 125 rfl rfl (G0.out.below hS5 (by omega)) hi33 hlz (ws_one _) ?_
  refine hK.out _ _ (.inl (by kernel_rfl)) ?_
  clear hK K
  refine AnyTill.done (by kernel_rfl) ?_
  refine NoPanic.normal ?_
  simp only [Act.put]
  have J0 : Hid (Blk (w5.setRow w.heap.size (ws st).toArray) w.heap.size (ws st) 125) := (G0.out.below hS5 (by omega)).setRow
  have J1 : Hid (Blk (w5.setRow w.heap.size (ws st).toArray) (w.heap.size + 1) z32 23) := (G1.out.below hS5 (by omega)).setRowOther (by omega)
  have JB : Hid (Below w.heap.size w (w5.setRow w.heap.size (ws st).toArray)) := below_setRow' (GB.out.trans (hS5.mono (by omega))) (Nat.le_refl _) _
  have hs6 : w.heap.size + 1 < (w5.setRow w.heap.size (ws st).toArray).heap.size := by have := hS5.size; simp; omega
  generalize w5.setRow w.heap.size (ws st).toArray = w6 at J0 J1 JB hs6 ⊢
  have HI33 := Lib.hid hi33
  have HO4' := HO4
  clear hS hS3 hS4 hS5 hi33 hlz hb5 hr5 HO4 HO4' hsz2 HS2 G0 G1 GB RN
  go_wp2_with (refine wpList_load_blk rfl 125 _ rfl w.heap.size rfl (ws st) 125 J0.out 8 48 tu33 HI33.out ?_)
  refine (join_any st _ H8.out h32).mono ?_
  rintro e w7 ⟨rfl, hb7⟩
  have L1 : Hid (Blk w7 (w.heap.size + 1) z32 23) := J1.out.below hb7 hs6
  have LB : Hid (Below w.heap.size w w7) := JB.out.trans (hb7.mono (by omega))
  have h24 : (Tryz.prog.info? 23).map (·.size) = some (bys (joinl st)).length := by rw [bys_length, joinl_length, H8.out]; exact s24
  have hlz : z32.length = (bys (joinl st)).length := by rw [bys_length, joinl_length, H8.out, z32_length]
  have H24 := Lib.hid h24
  have HLZ := Lib.hid hlz
  clear hb7 h24 hlz J0 J1 JB
  go_wp2_with (refine wpList_store_blk rfl 23 _ _ rfl (w.heap.size + 1) (bys (joinl st)) z32 23 rfl rfl L1.out H24.out HLZ.out (bys_one' _) ?_)
  refine bodyPost_ret (v := .agg (bys (joinl st)).toArray) ?_ rfl ?_
  · exact ret_blk rfl _ _ (w.heap.size + 1) 23 _ rfl L1.out.setRow 32 5 tu24 H24.out
  · exact ⟨by rw [HST.out], below_setRow' LB.out (by omega) _⟩
end Go.Proofs.YtnemkefmlffigaaGreat
