/-
  The document's own layer 4: a key as the document's, Long, Type and Secret, for every input.
-/
import Derived.Test.YtejeefkoalbcmaaRa
namespace Go.Proofs.Ytejeefkoalbcmaa
open Go.RowKit

theorem list_as (l : List UInt8) (n : Nat) (h : l.length = n) : l = (List.range n).map fun i => l.getD i 0 := by
  subst h
  refine List.ext_getElem (by simp) (fun i h1 h2 => ?_)
  simp [h1]
theorem built_key0 (f g : Nat → UInt8) (q z : Int) : Try.prog.built 32 [(0, .agg (bys ((List.range 16).map f)).toArray), (1, .int .u32 q), (2, .agg (bys ((List.range 32).map g)).toArray), (3, .int .i64 z)] = some (bys ((List.range 16).map f) ++ (Value.int .u32 q :: (bys ((List.range 32).map g) ++ [Value.int .i64 z]))).toArray := by kernel_rfl
theorem built_key (I seed : List UInt8) (q : Nat) (z : Int) (hI : I.length = 16) (hs : seed.length = 32) : Try.prog.built 32 [(0, .agg (bys I).toArray), (1, .int .u32 (q : Int)), (2, .agg (bys seed).toArray), (3, .int .i64 z)] = some (kcs I q seed z).toArray := by
  rw [list_as I 16 hI, list_as seed 32 hs]
  exact built_key0 _ _ _ _
theorem zi32 : ∃ z0 : List Value, (Try.prog.info? 32).map (·.zero) = some (some (.agg z0.toArray)) ∧ z0.length = 50 := ⟨bys (List.replicate 16 0) ++ (.int .u32 0 :: (bys (List.replicate 32 0) ++ [.int .i64 0])), by kernel_rfl, by decide⟩
theorem kcs_one (I seed : List UInt8) (q : Nat) (z : Int) : (kcs I q seed z).toArray.all (·.oneCell') = true := by
  rw [Array.all_eq_true_iff_forall_mem]
  intro v hv
  simp only [kcs, List.mem_toArray, List.mem_append, List.mem_cons, List.not_mem_nil, or_false] at hv
  rcases hv with h | h | h | h
  · exact bys_one _ _ h
  · subst h; rfl
  · exact bys_one _ _ h
  · subst h; rfl
theorem kcs_rangeS {w : World} {g : Nat} {I seed : List UInt8} {q : Nat} {z : Int} {t : TypeId} (h : Blk w g (kcs I q seed z) t) (hI : I.length = 16) : w.rangeAt g 17 (bys seed) := fun j v hv => by
  have hj : j < (bys seed).length := (List.getElem?_eq_some_iff.1 hv).1
  rw [h.cell]
  unfold kcs
  rw [List.getElem?_append_right (by rw [bys_length, hI]; omega), bys_length, hI, List.getElem?_cons, if_neg (by omega), List.getElem?_append_left (by omega), show 17 + j - 16 - 1 = j by omega]
  exact hv

theorem ret_blkU {P : Program} {fn : Func} {p : Tmp} {ty : TypeId} (h : fn.results = #[.cell p ty]) (tmps : Array Value) (w : World) (g : Nat) (t : TypeId) (cs : List Value)
    (hp : tmps.getD p undef = .pointer (some ⟨g, 0, none⟩)) (hb : Blk w g cs t) (d : TypeDesc) (hu : P.underlying ty = some d) (hd : d.isRow = true) (hi : (P.info? ty).map (·.size) = some cs.length) :
    (results fn tmps).run P w = .ok (.agg cs.toArray) w :=
  results_cell_row h tmps w g t cs.toArray (0, 0) d hp hb hu (by cases d <;> first | rfl | cases hd) (by simpa using hi)

set_option maxRecDepth 100000 in
set_option maxHeartbeats 1000000 in
theorem plain_any (I seed : List UInt8) (q : Nat) (z : Int) (w : World) (hI : I.length = 16) (hs : seed.length = 32) : Calls Try.prog 11 #[.agg (kcs I q seed z).toArray] w (Arr (kcs I q seed z) w) := by
  have HI := Lib.hid hI
  have HS := Lib.hid hs
  obtain ⟨z0, hz, hzl⟩ := zi32
  have HZ := Lib.hid hz
  have HZL := Lib.hid hzl
  obtain ⟨d32, hu32, hd32⟩ := row32
  have HU := Lib.hid hu32
  have HD := Lib.hid hd32
  have H22 : Hid ((Try.prog.info? 22).map (·.size) = some (bys I).length) := by show _ = _; rw [bys_length, hI]; exact s22
  have H24 : Hid ((Try.prog.info? 24).map (·.size) = some (bys seed).length) := by show _ = _; rw [bys_length, hs]; exact s24
  have H32 : Hid ((Try.prog.info? 32).map (·.size) = some (kcs I q seed z).length) := by show _ = _; rw [kcs_length I seed q _ hI hs]; exact s32
  have HL : Hid (z0.length = (kcs I q seed z).length) := by show _ = _; rw [kcs_length I seed q _ hI hs, hzl]
  clear hI hs hz hzl hu32 hd32
  go_enter Try.func11, Try.ntmps11
  go_wp2_with (refine wpList_box_blk rfl 26 _ rfl (kcs I q seed z) rfl ?_)
  intro w1 a1 a2 a3
  have A1 := Lib.hid a1
  have A2 := Lib.hid a2
  have A3 := Lib.hid a3
  clear a1 a2 a3
  go_wp2_with (refine wpList_alloc_blk rfl 32 rfl _ HZ.out ?_)
  intro w2 a1 a2 a3
  rw [A2.out] at a1 a2 a3 ⊢
  have G1 : Hid (Blk w2 w.heap.size (kcs I q seed z) 26) := A1.out.below a3 (by omega)
  have G2 : Hid (Blk w2 (w.heap.size + 1) z0 32) := a1
  have GB : Hid (Below w.heap.size w w2) := A3.out.trans (a3.mono (by omega))
  have cq := (G1.out.cell 16).trans (kcs_q I seed q z HI.out)
  have cw := (G1.out.cell 49).trans (kcs_z I seed q z HI.out HS.out)
  clear a1 a2 a3 A1 A2 A3
  go_wp2_with (first | (refine wpList_load_mid rfl 22 _ rfl w.heap.size 0 rfl (bys I) _ (kcs_rangeI G1.out) tu22 rfl H22.out ?_) | (refine wpList_load_mid rfl 24 _ rfl w.heap.size 17 rfl (bys seed) _ (kcs_rangeS G1.out HI.out) tu24 rfl H24.out ?_) | (refine wpList_buildTo rfl 32 _ rfl (some 11) rfl (kcs I q seed z).toArray (by simp only [List.map_toArray, List.map_cons, List.map_nil]; exact built_key I seed q z HI.out HS.out) ?_) | (refine wpList_store_blk rfl 32 _ _ rfl (w.heap.size + 1) (kcs I q seed z) z0 32 rfl rfl G2.out H32.out HL.out (kcs_one _ _ _ _) ?_))
  refine bodyPost_ret (v := .agg (kcs I q seed z).toArray) ?_ rfl ?_
  · exact ret_blkU rfl _ _ (w.heap.size + 1) 32 _ rfl G2.out.setRow d32 HU.out HD.out H32.out
  · exact ⟨rfl, below_setRow' GB.out (by omega) _⟩

set_option maxHeartbeats 400000 in
theorem refLong_yes (k : Nat) (w : World) (hk : Wd k) : Calls Try.prog 15 #[.int .i64 (k : Int)] w (Drew (.tuple #[.int .i64 (lng k : Nat), .int .i64 0]) w) := by
  have HK := Lib.hid hk
  have hm := mny_le k hk
  obtain ⟨S, hS⟩ : ∃ S, mny k = S := ⟨_, rfl⟩
  obtain ⟨L, hL⟩ : ∃ L, lng k = L := ⟨_, rfl⟩
  have hSL : 36 + 32 * S = L := by rw [← hS, ← hL]; unfold lng; omega
  have hS0 : 0 < S := by rw [← hS]; rcases hk with rfl | rfl | rfl | rfl <;> decide
  have HSE := Lib.hid hS
  have z0 : ((S : Int) == 0) = false := by simp; omega
  rw [hL]
  rw [hS] at hm
  clear hk hS hL
  go_enter Try.func15, Try.ntmps15
  go_wp2_with fail
  refine (many_yes k _ HK.out).mono ?_
  rintro e w1 ⟨rfl, nd, rfl⟩
  rw [HSE.out]
  go_wp2
  go_ret2
  have e1 : 36 + 32 * (S : Int) = (L : Int) := by omega
  exact ⟨by rw [← e1]; rfl, nd, rfl⟩
set_option maxHeartbeats 400000 in
theorem refLong_no (z : Int) (w : World) (hz : NoW z) : Calls Try.prog 15 #[.int .i64 z] w (Drew (.tuple #[.int .i64 0, .int .i64 1]) w) := by
  have HZ := Lib.hid hz
  clear hz
  go_enter Try.func15, Try.ntmps15
  go_wp2_with fail
  refine (many_no z _ HZ.out).mono ?_
  rintro e w1 ⟨rfl, nd, rfl⟩
  go_wp2
  go_ret2
  exact ⟨rfl, nd, rfl⟩
set_option maxHeartbeats 400000 in
theorem refType_yes (k : Nat) (w : World) (hk : Wd k) : Calls Try.prog 17 #[.int .i64 (k : Int)] w (Just (.tuple #[.int .u32 (typ k : Nat), .int .i64 0]) w) := by
  rcases hk with rfl | rfl | rfl | rfl
  all_goals
    go_enter Try.func17, Try.ntmps17
    go_wp2
    go_ret2
    exact ⟨rfl, rfl⟩
set_option maxHeartbeats 400000 in
theorem refType_no (z : Int) (w : World) (hz : NoW z) : Calls Try.prog 17 #[.int .i64 z] w (Just (.tuple #[.int .u32 0, .int .i64 1]) w) := by
  obtain ⟨h1, h2, h4, h8⟩ := hz
  go_enter Try.func17, Try.ntmps17
  go_wp2
  go_ret2
  exact ⟨rfl, rfl⟩

set_option maxRecDepth 100000 in
set_option maxHeartbeats 1000000 in
theorem refSecret_neg (I seed : List UInt8) (q : Nat) (z i : Int) (w : World) (hI : I.length = 16) (hs : seed.length = 32) (hk : i < 0) : Calls Try.prog 10 #[.agg (kcs I q seed z).toArray, .int .i64 i] w (TwoD (.agg z32.toArray) (.int .i64 1) w) := by
  obtain ⟨i0, hi0, hz0, hz1, hz2⟩ := info_parts info5
  have HIN := Lib.hid hi0
  have H0 := Lib.hid hz0
  have H1 := Lib.hid hz1
  have H2 := Lib.hid hz2
  have HI := Lib.hid hI
  have HS := Lib.hid hs
  have HK := Lib.hid hk
  have H32 : Hid ((Try.prog.info? 32).map (·.size) = some (kcs I q seed z).length) := by show _ = _; rw [kcs_length I seed q _ hI hs]; exact s32
  obtain ⟨d32, hu32, hd32⟩ := row32
  have HU := Lib.hid hu32
  have HD := Lib.hid hd32
  clear hI hs hi0 hz0 hz1 hz2 hu32 hd32
  go_enter Try.func10, Try.ntmps10
  go_wp2_with (refine wpList_box_blk rfl 32 _ rfl (kcs I q seed z) rfl ?_)
  intro v1 a1 a2 a3
  have A1 := Lib.hid a1
  have A2 := Lib.hid a2
  have A3 := Lib.hid a3
  clear a1 a2 a3
  go_wp2_with (refine wpList_alloc_blk rfl 24 rfl _ z24 ?_)
  intro v2 a1 a2 a3
  rw [A2.out] at a1 a2 a3 ⊢
  obtain ⟨g0, hg0⟩ : ∃ g, w.heap.size = g := ⟨_, rfl⟩
  obtain ⟨g1, hg1⟩ : ∃ g, g0 + 1 = g := ⟨_, rfl⟩
  have G1 : Hid (Blk v2 g0 (kcs I q seed z) 32) := by rw [← hg0]; exact A1.out.below a3 (by omega)
  have G2 : Hid (Blk v2 g1 z32 24) := by rw [← hg1, ← hg0]; exact a1
  have GB : Hid (Below w.heap.size w v2) := A3.out.trans (a3.mono (by omega))
  have hw0 : w.heap.size ≤ g0 := by omega
  have hg01 : g0 < g1 := by omega
  rw [hg0, hg1]
  have cw := (G1.out.cell 49).trans (kcs_z I seed q z HI.out HS.out)
  clear a1 a2 a3 A1 A2 A3 hg0 hg1
  clear cw
  go_wp2_with (first | (refine wpList_store_blk rfl 24 _ _ rfl g1 z32 z32 24 rfl rfl G2.out s24 rfl (bys_one' _) ?_) | (refine wpList_buildTo rfl 24 _ rfl (some 16) rfl z32.toArray (by kernel_rfl) ?_))
  refine bodyPost_ret (v := .tuple #[.agg z32.toArray, .int .i64 1]) ?_ rfl ?_
  · exact ret_blk2 rfl _ _ g1 24 z32 _ rfl rfl G2.out.setRow 32 5 tu24 s24
  · exact ⟨rfl, below_setRow' GB.out (by omega) _⟩

set_option maxRecDepth 100000 in
set_option maxHeartbeats 1000000 in
theorem refSecret_no (I seed : List UInt8) (q : Nat) (z i : Int) (w : World) (hI : I.length = 16) (hs : seed.length = 32) (hk : NoW z) (hi : 0 ≤ i) : Calls Try.prog 10 #[.agg (kcs I q seed z).toArray, .int .i64 i] w (TwoD (.agg z32.toArray) (.int .i64 1) w) := by
  obtain ⟨i0, hi0, hz0, hz1, hz2⟩ := info_parts info5
  have HIN := Lib.hid hi0
  have H0 := Lib.hid hz0
  have H1 := Lib.hid hz1
  have H2 := Lib.hid hz2
  have HI := Lib.hid hI
  have HS := Lib.hid hs
  have HK := Lib.hid hk
  have ni : decide (i < 0) = false := by simp; omega
  have H32 : Hid ((Try.prog.info? 32).map (·.size) = some (kcs I q seed z).length) := by show _ = _; rw [kcs_length I seed q _ hI hs]; exact s32
  obtain ⟨d32, hu32, hd32⟩ := row32
  have HU := Lib.hid hu32
  have HD := Lib.hid hd32
  clear hI hs hk hi0 hz0 hz1 hz2 hu32 hd32
  go_enter Try.func10, Try.ntmps10
  go_wp2_with (refine wpList_box_blk rfl 32 _ rfl (kcs I q seed z) rfl ?_)
  intro v1 a1 a2 a3
  have A1 := Lib.hid a1
  have A2 := Lib.hid a2
  have A3 := Lib.hid a3
  clear a1 a2 a3
  go_wp2_with (refine wpList_alloc_blk rfl 24 rfl _ z24 ?_)
  intro v2 a1 a2 a3
  rw [A2.out] at a1 a2 a3 ⊢
  obtain ⟨g0, hg0⟩ : ∃ g, w.heap.size = g := ⟨_, rfl⟩
  obtain ⟨g1, hg1⟩ : ∃ g, g0 + 1 = g := ⟨_, rfl⟩
  have G1 : Hid (Blk v2 g0 (kcs I q seed z) 32) := by rw [← hg0]; exact A1.out.below a3 (by omega)
  have G2 : Hid (Blk v2 g1 z32 24) := by rw [← hg1, ← hg0]; exact a1
  have GB : Hid (Below w.heap.size w v2) := A3.out.trans (a3.mono (by omega))
  have hw0 : w.heap.size ≤ g0 := by omega
  have hg01 : g0 < g1 := by omega
  rw [hg0, hg1]
  have cw := (G1.out.cell 49).trans (kcs_z I seed q z HI.out HS.out)
  clear a1 a2 a3 A1 A2 A3 hg0 hg1
  go_wp2_with fail
  clear cw
  refine (many_no z _ HK.out).mono ?_
  rintro e w1 ⟨rfl, nd, rfl⟩
  have X2 : Hid (Blk (v2.drewN nd) g1 z32 24) := G2.out
  have XB : Hid (Below w.heap.size w (v2.drewN nd)) := Below.drewN' GB.out
  generalize v2.drewN nd = w1 at X2 XB ⊢
  clear G1 G2 GB
  go_wp2_with (first | (refine wpList_store_blk rfl 24 _ _ rfl g1 z32 z32 24 rfl rfl X2.out s24 rfl (bys_one' _) ?_) | (refine wpList_buildTo rfl 24 _ rfl (some 16) rfl z32.toArray (by kernel_rfl) ?_))
  refine bodyPost_ret (v := .tuple #[.agg z32.toArray, .int .i64 1]) ?_ rfl ?_
  · exact ret_blk2 rfl _ _ g1 24 z32 _ rfl rfl X2.out.setRow 32 5 tu24 s24
  · exact ⟨rfl, below_setRow' XB.out (by omega) _⟩

set_option maxRecDepth 100000 in
set_option maxHeartbeats 1000000 in
theorem refSecret_out (I seed : List UInt8) (q k : Nat) (i : Int) (w : World) (hI : I.length = 16) (hs : seed.length = 32) (hk : Wd k) (h0 : 0 ≤ i) (hi : (mny k : Int) ≤ i) : Calls Try.prog 10 #[.agg (kcs I q seed (k : Int)).toArray, .int .i64 i] w (TwoD (.agg z32.toArray) (.int .i64 1) w) := by
  obtain ⟨i0, hi0, hz0, hz1, hz2⟩ := info_parts info5
  have HIN := Lib.hid hi0
  have H0 := Lib.hid hz0
  have H1 := Lib.hid hz1
  have H2 := Lib.hid hz2
  have HI := Lib.hid hI
  have HS := Lib.hid hs
  have HK := Lib.hid hk
  have ni : decide (i < 0) = false := by simp; omega
  obtain ⟨M, hM⟩ : ∃ M, mny k = M := ⟨_, rfl⟩
  have HME := Lib.hid hM
  rw [hM] at hi
  clear hM
  have H32 : Hid ((Try.prog.info? 32).map (·.size) = some (kcs I q seed (k : Int)).length) := by show _ = _; rw [kcs_length I seed q _ hI hs]; exact s32
  obtain ⟨d32, hu32, hd32⟩ := row32
  have HU := Lib.hid hu32
  have HD := Lib.hid hd32
  clear hI hs hk hi0 hz0 hz1 hz2 hu32 hd32
  go_enter Try.func10, Try.ntmps10
  go_wp2_with (refine wpList_box_blk rfl 32 _ rfl (kcs I q seed (k : Int)) rfl ?_)
  intro v1 a1 a2 a3
  have A1 := Lib.hid a1
  have A2 := Lib.hid a2
  have A3 := Lib.hid a3
  clear a1 a2 a3
  go_wp2_with (refine wpList_alloc_blk rfl 24 rfl _ z24 ?_)
  intro v2 a1 a2 a3
  rw [A2.out] at a1 a2 a3 ⊢
  obtain ⟨g0, hg0⟩ : ∃ g, w.heap.size = g := ⟨_, rfl⟩
  obtain ⟨g1, hg1⟩ : ∃ g, g0 + 1 = g := ⟨_, rfl⟩
  have G1 : Hid (Blk v2 g0 (kcs I q seed (k : Int)) 32) := by rw [← hg0]; exact A1.out.below a3 (by omega)
  have G2 : Hid (Blk v2 g1 z32 24) := by rw [← hg1, ← hg0]; exact a1
  have GB : Hid (Below w.heap.size w v2) := A3.out.trans (a3.mono (by omega))
  have hw0 : w.heap.size ≤ g0 := by omega
  have hg01 : g0 < g1 := by omega
  rw [hg0, hg1]
  have cw := (G1.out.cell 49).trans (kcs_z I seed q (k : Int) HI.out HS.out)
  clear a1 a2 a3 A1 A2 A3 hg0 hg1
  go_wp2_with fail
  clear cw
  refine (many_yes k _ HK.out).mono ?_
  rintro e w1 ⟨rfl, nd, rfl⟩
  rw [HME.out]
  have X1 : Hid (Blk (v2.drewN nd) g0 (kcs I q seed (k : Int)) 32) := G1.out
  have X2 : Hid (Blk (v2.drewN nd) g1 z32 24) := G2.out
  have XB : Hid (Below w.heap.size w (v2.drewN nd)) := Below.drewN' GB.out
  generalize v2.drewN nd = w1 at X1 X2 XB ⊢
  clear G1 G2 GB
  go_wp2_with (first | (refine wpList_store_blk rfl 24 _ _ rfl g1 z32 z32 24 rfl rfl X2.out s24 rfl (bys_one' _) ?_) | (refine wpList_buildTo rfl 24 _ rfl (some 16) rfl z32.toArray (by kernel_rfl) ?_))
  refine bodyPost_ret (v := .tuple #[.agg z32.toArray, .int .i64 1]) ?_ rfl ?_
  · exact ret_blk2 rfl _ _ g1 24 z32 _ rfl rfl X2.out.setRow 32 5 tu24 s24
  · exact ⟨rfl, below_setRow' XB.out (by omega) _⟩

set_option maxRecDepth 100000 in
set_option maxHeartbeats 1000000 in
theorem refSecret_yes (I seed : List UInt8) (q k i : Nat) (w : World) (hI : I.length = 16) (hs : seed.length = 32) (hq : q < 4294967296) (hk : Wd k) (hi : i < mny k) : Calls Try.prog 10 #[.agg (kcs I q seed (k : Int)).toArray, .int .i64 (i : Int)] w (TwoD (.agg (bys (hsec (pre20 I q) seed i)).toArray) (.int .i64 0) w) := by
  obtain ⟨i0, hi0, hz0, hz1, hz2⟩ := info_parts info5
  have HIN := Lib.hid hi0
  have H0 := Lib.hid hz0
  have H1 := Lib.hid hz1
  have H2 := Lib.hid hz2
  have HI := Lib.hid hI
  have HS := Lib.hid hs
  have HK := Lib.hid hk
  have hm := mny_le k hk
  obtain ⟨M, hM⟩ : ∃ M, mny k = M := ⟨_, rfl⟩
  have HME := Lib.hid hM
  rw [hM] at hi hm
  have zi : decide (M ≤ i) = false := by simp; omega
  have hi2 : i < 65536 := by omega
  have ni : decide ((i : Int) < 0) = false := by simp
  have H24 : Hid ((Try.prog.info? 24).map (·.size) = some (bys (hsec (pre20 I q) seed i)).length) := by show _ = _; rw [bys_length, hsec_length]; exact s24
  have HLZ : Hid (z32.length = (bys (hsec (pre20 I q) seed i)).length) := by show _ = _; rw [bys_length, hsec_length, z32_length]
  have HP := Lib.hid (pre20_length I q hI)
  have HH : Hid (hash (pre20 I q ++ (by2 i ++ [255]) ++ seed) = hsec (pre20 I q) seed i) := by show _ = _; unfold hsec; simp
  have HI2 := Lib.hid hi2
  clear hM hi hm hi2
  have H32 : Hid ((Try.prog.info? 32).map (·.size) = some (kcs I q seed (k : Int)).length) := by show _ = _; rw [kcs_length I seed q _ hI hs]; exact s32
  obtain ⟨d32, hu32, hd32⟩ := row32
  have HU := Lib.hid hu32
  have HD := Lib.hid hd32
  clear hI hs hk hi0 hz0 hz1 hz2 hu32 hd32
  go_enter Try.func10, Try.ntmps10
  go_wp2_with (refine wpList_box_blk rfl 32 _ rfl (kcs I q seed (k : Int)) rfl ?_)
  intro v1 a1 a2 a3
  have A1 := Lib.hid a1
  have A2 := Lib.hid a2
  have A3 := Lib.hid a3
  clear a1 a2 a3
  go_wp2_with (refine wpList_alloc_blk rfl 24 rfl _ z24 ?_)
  intro v2 a1 a2 a3
  rw [A2.out] at a1 a2 a3 ⊢
  obtain ⟨g0, hg0⟩ : ∃ g, w.heap.size = g := ⟨_, rfl⟩
  obtain ⟨g1, hg1⟩ : ∃ g, g0 + 1 = g := ⟨_, rfl⟩
  have G1 : Hid (Blk v2 g0 (kcs I q seed (k : Int)) 32) := by rw [← hg0]; exact A1.out.below a3 (by omega)
  have G2 : Hid (Blk v2 g1 z32 24) := by rw [← hg1, ← hg0]; exact a1
  have GB : Hid (Below w.heap.size w v2) := A3.out.trans (a3.mono (by omega))
  have hw0 : w.heap.size ≤ g0 := by omega
  have hg01 : g0 < g1 := by omega
  rw [hg0, hg1]
  have cw := (G1.out.cell 49).trans (kcs_z I seed q (k : Int) HI.out HS.out)
  clear a1 a2 a3 A1 A2 A3 hg0 hg1
  go_wp2_with fail
  clear cw
  refine (many_yes k _ HK.out).mono ?_
  rintro e w1 ⟨rfl, nd, rfl⟩
  rw [HME.out]
  have X1 : Hid (Blk (v2.drewN nd) g0 (kcs I q seed (k : Int)) 32) := G1.out
  have X2 : Hid (Blk (v2.drewN nd) g1 z32 24) := G2.out
  have XB : Hid (Below w.heap.size w (v2.drewN nd)) := Below.drewN' GB.out
  generalize v2.drewN nd = w1 at X1 X2 XB ⊢
  clear G1 G2 GB
  go_wp2_with (refine wpList_load_blkU rfl 32 _ rfl g0 rfl (kcs I q seed (k : Int)) 32 X1.out d32 HU.out HD.out H32.out ?_)
  refine (head_any I seed q (k : Int) _ HI.out hq).mono ?_
  rintro e w2 ⟨hv, rfl, hown, hb⟩
  obtain ⟨b, hbE⟩ : ∃ b, w1.heap.size = b := ⟨_, rfl⟩
  have g0b : g0 < b := by rw [← hbE]; exact X1.out.lt
  have g1b : g1 < b := by rw [← hbE]; exact X2.out.lt
  have Y1 : Hid (Blk w2 g0 (kcs I q seed (k : Int)) 32) := X1.out.below hb X1.out.lt
  have Y2 : Hid (Blk w2 g1 z32 24) := X2.out.below hb X2.out.lt
  have YB : Hid (Below w.heap.size w w2) := XB.out.trans (hb.mono XB.out.size)
  have YO : Hid (Own 5 w2 b hv (pre20 I q)) := by rw [← hbE]; exact hown
  have hb2 : b ≤ w2.heap.size := by rw [← hbE]; exact hb.size
  have hwb : w.heap.size ≤ b := by omega
  have z256 : (i : Int) < 65536 := by have := HI2.out; omega
  clear hb hown X1 X2 XB hbE
  go_wp2_with (at_builtin; refine wpList_app rfl _ _ 42 rfl 5 i0 Try.underlying42 HIN.out H0.out H1.out H2.out b (w2.heap.size + 1) _ _ (pre20 I q) (by2 i ++ [255]) rfl (YO.out.alloc _) rfl ((Own.lit 5 w2 _ 3 (by2 i ++ [255]) rfl (by omega) (by have := HI2.out; simp [bys, by2]; omega)).rd.more (by simp)) (by rw [HP.out]; simp [by2]) (by simp; omega) ?_)
  intro v3 w3 hown3 hb3'
  have hb3 : Below b w2 w3 := ((Below.refl b w2).alloc hb2 _).trans hb3'
  have Z1 : Hid (Blk w3 g0 (kcs I q seed (k : Int)) 32) := Y1.out.below hb3 g0b
  have Z2 : Hid (Blk w3 g1 z32 24) := Y2.out.below hb3 g1b
  have ZB : Hid (Below w.heap.size w w3) := YB.out.trans (hb3.mono hwb)
  have hb3s : b ≤ w3.heap.size := Nat.le_trans hb2 hb3.size
  have ZO : Hid (Own 5 w3 b v3 (pre20 I q ++ (by2 i ++ [255]))) := Lib.hid (by simpa using hown3)
  have ZR : Hid (Rd w3.heap.size w3 (.slice (some ⟨g0, 17, none⟩) 32 32) seed) := kcs_seed Z1.out HI.out HS.out Z1.out.lt
  clear hown3 hb3 hb3' Y1 Y2 YB YO
  go_wp2_with (at_builtin; refine wpList_app rfl _ _ 42 rfl 5 i0 Try.underlying42 HIN.out H0.out H1.out H2.out b w3.heap.size _ _ (pre20 I q ++ (by2 i ++ [255])) seed rfl ZO.out rfl ZR.out (by rw [List.length_append, HP.out, HS.out]; simp [by2]) hb3s ?_)
  intro v4 w4 hown4 hb4
  have U2 : Hid (Blk w4 g1 z32 24) := Z2.out.below hb4 g1b
  have UB : Hid (Below w.heap.size w w4) := ZB.out.trans (hb4.mono hwb)
  have UO : Hid (Own 5 w4 b v4 (pre20 I q ++ (by2 i ++ [255]) ++ seed)) := Lib.hid (by simpa using hown4)
  clear hown4 hb4 Z1 Z2 ZB ZO ZR
  go_wp2_with fail
  refine (refSum_any v4 _ _ UO.out.rd (by rw [List.length_append, List.length_append, HP.out, HS.out]; simp [by2])).mono ?_
  rintro e w5 ⟨rfl, hb5⟩
  rw [HH.out]
  have V2 : Hid (Blk w5 g1 z32 24) := U2.out.below hb5 U2.out.lt
  have VB : Hid (Below w.heap.size w w5) := UB.out.trans (hb5.mono UB.out.size)
  clear hb5 U2 UB UO
  go_wp2_with (refine wpList_store_blk rfl 24 _ _ rfl g1 (bys (hsec (pre20 I q) seed i)) z32 24 rfl rfl V2.out H24.out HLZ.out (bys_one' _) ?_)
  refine bodyPost_ret (v := .tuple #[.agg (bys (hsec (pre20 I q) seed i)).toArray, .int .i64 0]) ?_ rfl ?_
  · exact ret_blk2 rfl _ _ g1 24 _ _ rfl rfl V2.out.setRow 32 5 tu24 H24.out
  · exact ⟨rfl, below_setRow' VB.out (by omega) _⟩
end Go.Proofs.Ytejeefkoalbcmaa
