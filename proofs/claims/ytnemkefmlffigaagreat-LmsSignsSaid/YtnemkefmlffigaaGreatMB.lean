/-
  The document's lms: Knot, and the law's copy of a tree.
  Package lms: Knot where there is a node, and where there is none.
  The document's lms: Public.
  The law LmsKnots, walked: it answers true for every tree and every number of a node.
  The law LmsKnots, walked for the trees that it asks about.
-/
import Derived.Test.YtnemkefmlffigaaGreatMA
import Derived.Test.YtnemkefmlffigaaGreatLE
import Derived.Test.YtnemkefmlffigaaGreatEq
namespace Go.Proofs.YtnemkefmlffigaaGreat
open Go.RowKit

theorem built_tree0 (f g : Nat → UInt8) (z y : Int) : Tryz.prog.built 32 [(0, .agg (bys ((List.range 16).map f)).toArray), (1, .agg (bys ((List.range 32).map g)).toArray), (2, .int .i64 z), (3, .int .i64 y)] = some (bys ((List.range 16).map f) ++ (bys ((List.range 32).map g) ++ [Value.int .i64 z, Value.int .i64 y])).toArray := by kernel_rfl
theorem built_tree (I seed : List UInt8) (z y : Int) (hI : I.length = 16) (hs : seed.length = 32) : Tryz.prog.built 32 [(0, .agg (bys I).toArray), (1, .agg (bys seed).toArray), (2, .int .i64 z), (3, .int .i64 y)] = some (tcs I seed z y).toArray := by
  rw [list_asL I 16 hI, list_asL seed 32 hs]
  exact built_tree0 _ _ _ _
theorem ziTree5 : ∃ z0 : List Value, (Tryz.prog.info? 32).map (·.zero) = some (some (.agg z0.toArray)) ∧ z0.length = 50 := ⟨bys (List.replicate 16 0) ++ (bys (List.replicate 32 0) ++ [.int .i64 0, .int .i64 0]), by kernel_rfl, by decide⟩

set_option maxRecDepth 100000 in
set_option maxHeartbeats 1000000 in
theorem plain_any (I seed : List UInt8) (z y : Int) (w : World) (hI : I.length = 16) (hs : seed.length = 32) : Calls Tryz.prog 10 #[.agg (tcs I seed z y).toArray] w (Arr (tcs I seed z y) w) := by
  have HI := Lib.hid hI
  have HS := Lib.hid hs
  obtain ⟨z0, hz, hzl⟩ := ziTree5
  have HZ := Lib.hid hz
  obtain ⟨d51, hu51, hd51⟩ := rowTree5
  have HU := Lib.hid hu51
  have HD := Lib.hid hd51
  have H22 : Hid ((Tryz.prog.info? 22).map (·.size) = some (bys I).length) := by show _ = _; rw [bys_length, hI]; exact s22
  have H24 : Hid ((Tryz.prog.info? 23).map (·.size) = some (bys seed).length) := by show _ = _; rw [bys_length, hs]; exact s24
  have H51 : Hid ((Tryz.prog.info? 32).map (·.size) = some (tcs I seed z y).length) := by show _ = _; rw [tcs_length I seed _ _ hI hs]; exact sTree5
  have HL : Hid (z0.length = (tcs I seed z y).length) := by show _ = _; rw [tcs_length I seed _ _ hI hs, hzl]
  clear hI hs hz hzl hu51 hd51
  go_enter Tryz.func10, Tryz.ntmps10
  go_wp2_with (refine wpList_box_blk rfl 25 _ rfl (tcs I seed z y) rfl ?_)
  intro w1 a1 a2 a3
  have A1 := Lib.hid a1
  have A2 := Lib.hid a2
  have A3 := Lib.hid a3
  clear a1 a2 a3
  go_wp2_with (refine wpList_alloc_blk rfl 32 rfl _ HZ.out ?_)
  intro w2 a1 a2 a3
  rw [A2.out] at a1 a2 a3 ⊢
  have G1 : Hid (Blk w2 w.heap.size (tcs I seed z y) 25) := A1.out.below a3 (by omega)
  have G2 : Hid (Blk w2 (w.heap.size + 1) z0 32) := a1
  have GB : Hid (Below w.heap.size w w2) := A3.out.trans (a3.mono (by omega))
  have cw := (G1.out.cell 48).trans (tcs_z I seed z y HI.out HS.out)
  have cy := (G1.out.cell 49).trans (tcs_y I seed z y HI.out HS.out)
  clear a1 a2 a3 A1 A2 A3
  go_wp2_with (first | (refine wpList_load_mid rfl 22 _ rfl w.heap.size 0 rfl (bys I) _ (tcs_rangeI G1.out) tu22 rfl H22.out ?_) | (refine wpList_load_mid rfl 23 _ rfl w.heap.size 16 rfl (bys seed) _ (tcs_rangeS G1.out HI.out) tu24 rfl H24.out ?_) | (refine wpList_buildTo rfl 32 _ rfl (some 11) rfl (tcs I seed z y).toArray (by simp only [List.map_toArray, List.map_cons, List.map_nil]; exact built_tree I seed z y HI.out HS.out) ?_) | (refine wpList_store_blk rfl 32 _ _ rfl (w.heap.size + 1) (tcs I seed z y) z0 32 rfl rfl G2.out H51.out HL.out (tcs_one _ _ _ _) ?_))
  refine bodyPost_ret (v := .agg (tcs I seed z y).toArray) ?_ rfl ?_
  · exact ret_blkUL rfl _ _ (w.heap.size + 1) 32 _ rfl G2.out.setRow d51 HU.out HD.out H51.out
  · exact ⟨rfl, below_setRow' GB.out (by omega) _⟩

set_option maxRecDepth 100000 in
set_option maxHeartbeats 1000000 in
theorem rfKnotT_noT (I seed : List UInt8) (z y r : Int) (w : World) (hI : I.length = 16) (hs : seed.length = 32) (hn : NoT z y) : Calls Tryz.prog 9 #[.agg (tcs I seed z y).toArray, .int .i64 r] w (TwoD (.agg z32.toArray) (.int .i64 1) w) := by
  have H5 : Hid ((Tryz.prog.info? 32).map (·.size) = some (tcs I seed z y).length) := by show _ = _; rw [tcs_length I seed _ _ hI hs]; exact sTree5
  obtain ⟨d5, hu5, hd5⟩ := rowTree5
  have HU := Lib.hid hu5
  have HD := Lib.hid hd5
  have HI := Lib.hid hI
  have HS := Lib.hid hs
  have HN := Lib.hid hn
  clear hn
  clear hI hs hu5 hd5
  go_enter Tryz.func9, Tryz.ntmps9
  go_wp2_with (refine wpList_box_blk rfl 32 _ rfl (tcs I seed z y) rfl ?_)
  intro w1 a1 a2 a3
  obtain ⟨g0, hg0⟩ : ∃ g, w.heap.size = g := ⟨_, rfl⟩
  rw [hg0] at a1 a2 ⊢
  have A1 := Lib.hid a1
  have A3 := Lib.hid a3
  clear a1 a2 a3
  go_wp2_with (refine wpList_alloc_blk rfl 23 rfl _ z24 ?_)
  intro w2 a1 a2 a3
  obtain ⟨g1, hg1⟩ : ∃ g, w1.heap.size = g := ⟨_, rfl⟩
  rw [hg1] at a1 a2 ⊢
  have X1 : Hid (Blk w2 g0 (tcs I seed z y) 32) := A1.out.below a3 A1.out.lt
  have X2 : Hid (Blk w2 g1 z32 23) := a1
  have XB : Hid (Below w.heap.size w w2) := A3.out.trans (a3.mono A3.out.size)
  have wg1 : Hid (w.heap.size ≤ g1) := by have := A1.out.lt; show _ ≤ _; omega
  clear a1 a2 a3 A1 A3 hg0 hg1
  go_wp2_with (refine wpList_load_blkU rfl 32 _ rfl g0 rfl (tcs I seed z y) 32 X1.out d5 HU.out HD.out H5.out ?_)
  refine (rfMay_no I seed z y _ HI.out HS.out HN.out).mono ?_
  rintro e w3 ⟨rfl, hb⟩
  have Y1 : Hid (Blk w3 g0 (tcs I seed z y) 32) := X1.out.below hb X1.out.lt
  have Y2 : Hid (Blk w3 g1 z32 23) := X2.out.below hb X2.out.lt
  have YB : Hid (Below w.heap.size w w3) := XB.out.trans (hb.mono XB.out.size)
  clear hb X1 X2 XB
  go_wp2_with (first | (refine wpList_store_blk rfl 23 _ _ rfl g1 z32 z32 23 rfl rfl Y2.out s24 rfl (bys_one' _) ?_) | (refine wpList_buildTo rfl 23 _ rfl (some 21) rfl z32.toArray (by kernel_rfl) ?_))
  refine bodyPost_ret (v := .tuple #[.agg z32.toArray, .int .i64 1]) ?_ rfl ?_
  · exact ret_blk2 rfl _ _ g1 23 z32 _ rfl rfl Y2.out.setRow 32 5 tu24 s24
  · exact ⟨rfl, below_setRow' YB.out wg1.out _⟩

set_option maxRecDepth 100000 in
set_option maxHeartbeats 1000000 in
theorem rfKnotT_neg (I seed : List UInt8) (k h : Nat) (r : Int) (w : World) (hI : I.length = 16) (hs : seed.length = 32) (hk : Wd k) (hh : Ht h) (hr : r < 1) : Calls Tryz.prog 9 #[.agg (tcs I seed (k : Int) (h : Int)).toArray, .int .i64 r] w (TwoD (.agg z32.toArray) (.int .i64 1) w) := by
  have H5 : Hid ((Tryz.prog.info? 32).map (·.size) = some (tcs I seed (k : Int) (h : Int)).length) := by show _ = _; rw [tcs_length I seed _ _ hI hs]; exact sTree5
  obtain ⟨d5, hu5, hd5⟩ := rowTree5
  have HU := Lib.hid hu5
  have HD := Lib.hid hd5
  have HI := Lib.hid hI
  have HS := Lib.hid hs
  have HK := Lib.hid hk
  have HH := Lib.hid hh
  clear hk hh
  clear hI hs hu5 hd5
  go_enter Tryz.func9, Tryz.ntmps9
  go_wp2_with (refine wpList_box_blk rfl 32 _ rfl (tcs I seed (k : Int) (h : Int)) rfl ?_)
  intro w1 a1 a2 a3
  obtain ⟨g0, hg0⟩ : ∃ g, w.heap.size = g := ⟨_, rfl⟩
  rw [hg0] at a1 a2 ⊢
  have A1 := Lib.hid a1
  have A3 := Lib.hid a3
  clear a1 a2 a3
  go_wp2_with (refine wpList_alloc_blk rfl 23 rfl _ z24 ?_)
  intro w2 a1 a2 a3
  obtain ⟨g1, hg1⟩ : ∃ g, w1.heap.size = g := ⟨_, rfl⟩
  rw [hg1] at a1 a2 ⊢
  have X1 : Hid (Blk w2 g0 (tcs I seed (k : Int) (h : Int)) 32) := A1.out.below a3 A1.out.lt
  have X2 : Hid (Blk w2 g1 z32 23) := a1
  have XB : Hid (Below w.heap.size w w2) := A3.out.trans (a3.mono A3.out.size)
  have wg1 : Hid (w.heap.size ≤ g1) := by have := A1.out.lt; show _ ≤ _; omega
  clear a1 a2 a3 A1 A3 hg0 hg1
  go_wp2_with (refine wpList_load_blkU rfl 32 _ rfl g0 rfl (tcs I seed (k : Int) (h : Int)) 32 X1.out d5 HU.out HD.out H5.out ?_)
  refine (rfMay_yes I seed k h _ HI.out HS.out HK.out HH.out).mono ?_
  rintro e w3 ⟨rfl, hb⟩
  have Y1 : Hid (Blk w3 g0 (tcs I seed (k : Int) (h : Int)) 32) := X1.out.below hb X1.out.lt
  have Y2 : Hid (Blk w3 g1 z32 23) := X2.out.below hb X2.out.lt
  have YB : Hid (Below w.heap.size w w3) := XB.out.trans (hb.mono XB.out.size)
  clear hb X1 X2 XB
  have tr : decide (r < 1) = true := by simp; omega
  go_wp2_with (first | (refine wpList_store_blk rfl 23 _ _ rfl g1 z32 z32 23 rfl rfl Y2.out s24 rfl (bys_one' _) ?_) | (refine wpList_buildTo rfl 23 _ rfl (some 21) rfl z32.toArray (by kernel_rfl) ?_))
  refine bodyPost_ret (v := .tuple #[.agg z32.toArray, .int .i64 1]) ?_ rfl ?_
  · exact ret_blk2 rfl _ _ g1 23 z32 _ rfl rfl Y2.out.setRow 32 5 tu24 s24
  · exact ⟨rfl, below_setRow' YB.out wg1.out _⟩

set_option maxRecDepth 100000 in
set_option maxHeartbeats 1000000 in
theorem rfKnotT_far (I seed : List UInt8) (k h : Nat) (r : Int) (w : World) (hI : I.length = 16) (hs : seed.length = 32) (hk : Wd k) (hh : Ht h) (hr1 : 1 ≤ r) (hr : (2 * 2 ^ h : Nat) ≤ r) : Calls Tryz.prog 9 #[.agg (tcs I seed (k : Int) (h : Int)).toArray, .int .i64 r] w (TwoD (.agg z32.toArray) (.int .i64 1) w) := by
  have H5 : Hid ((Tryz.prog.info? 32).map (·.size) = some (tcs I seed (k : Int) (h : Int)).length) := by show _ = _; rw [tcs_length I seed _ _ hI hs]; exact sTree5
  obtain ⟨d5, hu5, hd5⟩ := rowTree5
  have HU := Lib.hid hu5
  have HD := Lib.hid hd5
  have HI := Lib.hid hI
  have HS := Lib.hid hs
  have HK := Lib.hid hk
  have HH := Lib.hid hh
  have hp2 : 2 ^ h ≤ 32 := by rcases hh with rfl | rfl | rfl | rfl | rfl <;> decide
  obtain ⟨N, hN⟩ : ∃ N, 2 ^ h = N := ⟨_, rfl⟩
  have HNE := Lib.hid hN
  rw [hN] at hr hp2
  clear hk hh hN
  have zN : (N : Int) ≤ 32 := by omega
  have tr : decide (r < 1) = false := by simp; omega
  have tq : decide (2 * (N : Int) ≤ r) = true := by simp; omega
  clear hI hs hu5 hd5
  go_enter Tryz.func9, Tryz.ntmps9
  go_wp2_with (refine wpList_box_blk rfl 32 _ rfl (tcs I seed (k : Int) (h : Int)) rfl ?_)
  intro w1 a1 a2 a3
  obtain ⟨g0, hg0⟩ : ∃ g, w.heap.size = g := ⟨_, rfl⟩
  rw [hg0] at a1 a2 ⊢
  have A1 := Lib.hid a1
  have A3 := Lib.hid a3
  clear a1 a2 a3
  go_wp2_with (refine wpList_alloc_blk rfl 23 rfl _ z24 ?_)
  intro w2 a1 a2 a3
  obtain ⟨g1, hg1⟩ : ∃ g, w1.heap.size = g := ⟨_, rfl⟩
  rw [hg1] at a1 a2 ⊢
  have X1 : Hid (Blk w2 g0 (tcs I seed (k : Int) (h : Int)) 32) := A1.out.below a3 A1.out.lt
  have X2 : Hid (Blk w2 g1 z32 23) := a1
  have XB : Hid (Below w.heap.size w w2) := A3.out.trans (a3.mono A3.out.size)
  have wg1 : Hid (w.heap.size ≤ g1) := by have := A1.out.lt; show _ ≤ _; omega
  clear a1 a2 a3 A1 A3 hg0 hg1
  go_wp2_with (refine wpList_load_blkU rfl 32 _ rfl g0 rfl (tcs I seed (k : Int) (h : Int)) 32 X1.out d5 HU.out HD.out H5.out ?_)
  refine (rfMay_yes I seed k h _ HI.out HS.out HK.out HH.out).mono ?_
  rintro e w3 ⟨rfl, hb⟩
  have Y1 : Hid (Blk w3 g0 (tcs I seed (k : Int) (h : Int)) 32) := X1.out.below hb X1.out.lt
  have Y2 : Hid (Blk w3 g1 z32 23) := X2.out.below hb X2.out.lt
  have YB : Hid (Below w.heap.size w w3) := XB.out.trans (hb.mono XB.out.size)
  clear hb X1 X2 XB
  have cy := (Y1.out.cell 49).trans (tcs_y I seed _ _ HI.out HS.out)
  go_wp2_with fail
  refine (rfLeaves_any h _ HH.out).mono ?_
  rintro e w4 ⟨rfl, rfl⟩
  rw [HNE.out]
  clear cy
  go_wp2_with (first | (refine wpList_store_blk rfl 23 _ _ rfl g1 z32 z32 23 rfl rfl Y2.out s24 rfl (bys_one' _) ?_) | (refine wpList_buildTo rfl 23 _ rfl (some 21) rfl z32.toArray (by kernel_rfl) ?_))
  refine bodyPost_ret (v := .tuple #[.agg z32.toArray, .int .i64 1]) ?_ rfl ?_
  · exact ret_blk2 rfl _ _ g1 23 z32 _ rfl rfl Y2.out.setRow 32 5 tu24 s24
  · exact ⟨rfl, below_setRow' YB.out wg1.out _⟩

set_option maxRecDepth 100000 in
set_option maxHeartbeats 1000000 in
theorem rfKnotT_yes (I seed : List UInt8) (k h n r : Nat) (w : World) (hI : I.length = 16) (hs : seed.length = 32) (hk : Wd k) (hh : Ht h) (hn : n ≤ h) (h1 : 2 ^ (h - n) ≤ r) (h2 : r < 2 * 2 ^ (h - n)) : Calls Tryz.prog 9 #[.agg (tcs I seed (k : Int) (h : Int)).toArray, .int .i64 (r : Int)] w (TwoD (.agg (bys (knt I seed k (2 ^ h) n r)).toArray) (.int .i64 0) w) := by
  have H5 : Hid ((Tryz.prog.info? 32).map (·.size) = some (tcs I seed (k : Int) (h : Int)).length) := by show _ = _; rw [tcs_length I seed _ _ hI hs]; exact sTree5
  obtain ⟨d5, hu5, hd5⟩ := rowTree5
  have HU := Lib.hid hu5
  have HD := Lib.hid hd5
  have HI := Lib.hid hI
  have HS := Lib.hid hs
  have HK := Lib.hid hk
  have HH := Lib.hid hh
  have hp2 : 2 ^ h ≤ 32 := by rcases hh with rfl | rfl | rfl | rfl | rfl <;> decide
  obtain ⟨N, hN⟩ : ∃ N, 2 ^ h = N := ⟨_, rfl⟩
  have HNE := Lib.hid hN
  have HB : Hid (n ≤ h ∧ 2 ^ (h - n) ≤ r ∧ r < 2 * 2 ^ (h - n)) := ⟨hn, h1, h2⟩
  have hle : 2 ^ (h - n) ≤ 2 ^ h := Nat.pow_le_pow_right (by omega) (by omega)
  have hpos : 0 < 2 ^ (h - n) := Nat.pow_pos (by omega)
  have hr1 : 1 ≤ r := by omega
  have hr2 : r < 2 * N := by omega
  rw [hN] at hp2
  clear hk hh hN hn h1 h2 hle hpos
  have zN : (N : Int) ≤ 32 := by omega
  have zr : (r : Int) < 64 := by omega
  have tr : decide ((r : Int) < 1) = false := by simp; omega
  have tq : decide (2 * (N : Int) ≤ (r : Int)) = false := by simp; omega
  clear hI hs hu5 hd5
  go_enter Tryz.func9, Tryz.ntmps9
  go_wp2_with (refine wpList_box_blk rfl 32 _ rfl (tcs I seed (k : Int) (h : Int)) rfl ?_)
  intro w1 a1 a2 a3
  obtain ⟨g0, hg0⟩ : ∃ g, w.heap.size = g := ⟨_, rfl⟩
  rw [hg0] at a1 a2 ⊢
  have A1 := Lib.hid a1
  have A3 := Lib.hid a3
  clear a1 a2 a3
  go_wp2_with (refine wpList_alloc_blk rfl 23 rfl _ z24 ?_)
  intro w2 a1 a2 a3
  obtain ⟨g1, hg1⟩ : ∃ g, w1.heap.size = g := ⟨_, rfl⟩
  rw [hg1] at a1 a2 ⊢
  have X1 : Hid (Blk w2 g0 (tcs I seed (k : Int) (h : Int)) 32) := A1.out.below a3 A1.out.lt
  have X2 : Hid (Blk w2 g1 z32 23) := a1
  have XB : Hid (Below w.heap.size w w2) := A3.out.trans (a3.mono A3.out.size)
  have wg1 : Hid (w.heap.size ≤ g1) := by have := A1.out.lt; show _ ≤ _; omega
  clear a1 a2 a3 A1 A3 hg0 hg1
  go_wp2_with (refine wpList_load_blkU rfl 32 _ rfl g0 rfl (tcs I seed (k : Int) (h : Int)) 32 X1.out d5 HU.out HD.out H5.out ?_)
  refine (rfMay_yes I seed k h _ HI.out HS.out HK.out HH.out).mono ?_
  rintro e w3 ⟨rfl, hb⟩
  have Y1 : Hid (Blk w3 g0 (tcs I seed (k : Int) (h : Int)) 32) := X1.out.below hb X1.out.lt
  have Y2 : Hid (Blk w3 g1 z32 23) := X2.out.below hb X2.out.lt
  have YB : Hid (Below w.heap.size w w3) := XB.out.trans (hb.mono XB.out.size)
  clear hb X1 X2 XB
  have cy := (Y1.out.cell 49).trans (tcs_y I seed _ _ HI.out HS.out)
  go_wp2_with fail
  refine (rfLeaves_any h _ HH.out).mono ?_
  rintro e w4 ⟨rfl, rfl⟩
  rw [HNE.out]
  clear cy
  go_wp2_with (refine wpList_load_blkU rfl 32 _ rfl g0 rfl (tcs I seed (k : Int) (h : Int)) 32 Y1.out d5 HU.out HD.out H5.out ?_)
  refine (rfKnot_any I seed k h HI.out HS.out HK.out HH.out n r _ HB.out.1 HB.out.2.1 HB.out.2.2).mono ?_
  rintro e w4 ⟨rfl, hb⟩
  obtain ⟨H, hH⟩ : ∃ H, knt I seed k (2 ^ h) n r = H := ⟨_, rfl⟩
  have HHE := Lib.hid hH
  have hHl : H.length = 32 := by rw [← hH]; exact knt_length _ _ _ _ _ _
  rw [hH]
  have H24 : Hid ((Tryz.prog.info? 23).map (·.size) = some (bys H).length) := by show _ = _; rw [bys_length, hHl]; exact s24
  have HLZ : Hid (z32.length = (bys H).length) := by show _ = _; rw [bys_length, hHl, z32_length]
  have X2 : Hid (Blk w4 g1 z32 23) := Y2.out.below hb Y2.out.lt
  have XB : Hid (Below w.heap.size w w4) := YB.out.trans (hb.mono YB.out.size)
  clear hb Y1 Y2 YB hH hHl
  go_wp2_with (refine wpList_store_blk rfl 23 _ _ rfl g1 (bys H) z32 23 rfl rfl X2.out H24.out HLZ.out (bys_one' _) ?_)
  refine bodyPost_ret (v := .tuple #[.agg (bys H).toArray, .int .i64 0]) ?_ rfl ?_
  · exact ret_blk2 rfl _ _ g1 23 _ _ rfl rfl X2.out.setRow 32 5 tu24 H24.out
  · exact ⟨by rw [HHE.out], below_setRow' XB.out wg1.out _⟩

theorem knot_lv (h r : Nat) (h1 : 1 ≤ r) : ∀ m, r < 2 * 2 ^ m → m ≤ h → ∃ n, n ≤ h ∧ 2 ^ (h - n) ≤ r ∧ r < 2 * 2 ^ (h - n) := by
  intro m
  induction m with
  | zero => intro h2 _; exact ⟨h, by omega, by rw [Nat.sub_self]; omega, by rw [Nat.sub_self]; omega⟩
  | succ m ih =>
    intro h2 hm
    by_cases h3 : r < 2 * 2 ^ m
    · exact ih h3 (by omega)
    · refine ⟨h - (m + 1), by omega, ?_, ?_⟩
      · rw [show h - (h - (m + 1)) = m + 1 by omega, Nat.pow_succ]; omega
      · rw [show h - (h - (m + 1)) = m + 1 by omega]; exact h2
end Go.Proofs.YtnemkefmlffigaaGreat

namespace Go.Proofs.YtnemkefmlffigaaGreat
open Go.RowKit

set_option maxRecDepth 100000 in
set_option maxHeartbeats 2000000 in
theorem knotT_yes (I seed : List UInt8) (k h n r : Nat) (w : World) (hI : I.length = 16) (hs : seed.length = 32) (hk : Wd k) (hh : Ht h) (hn : n ≤ h) (h1 : 2 ^ (h - n) ≤ r) (h2 : r < 2 * 2 ^ (h - n)) : Calls Tryz.prog 8 #[.agg (tcs I seed (k : Int) (h : Int)).toArray, .int .i64 (r : Int)] w (TwoD (.agg (bys (knt I seed k (2 ^ h) n r)).toArray) (.int .i64 0) w) := by
  have HI := Lib.hid hI
  have HS := Lib.hid hs
  have HK := Lib.hid hk
  have HH := Lib.hid hh
  have HZ := Lib.hid (tcs_z I seed (k : Int) (h : Int) hI hs)
  have HY := Lib.hid (tcs_y I seed (k : Int) (h : Int) hI hs)
  have HT : Hid ((Tryz.prog.info? 25).map (·.size) = some (tcs I seed (k : Int) (h : Int)).length) := by show _ = _; rw [tcs_length I seed _ _ hI hs]; exact sTree
  obtain ⟨dT, huT, hdT⟩ := rowTree
  have HU := Lib.hid huT
  have HD := Lib.hid hdT
  obtain ⟨d74, hu74, hd74⟩ := row74
  have HU7 := Lib.hid hu74
  have HD7 := Lib.hid hd74
  have hp : 2 ^ (h - n) ≤ 2 ^ h := Nat.pow_le_pow_right (by omega) (by omega)
  have hp0 : 1 ≤ 2 ^ (h - n) := Nat.pow_pos (by omega)
  have hp32 : 2 ^ h ≤ 32 := by rcases hh with rfl | rfl | rfl | rfl | rfl <;> decide
  have HN := Lib.hid hn
  have HR1 := Lib.hid h1
  have HR2 := Lib.hid h2
  obtain ⟨L, hL⟩ : ∃ L, 2 ^ h = L := ⟨_, rfl⟩
  have HLE := Lib.hid hL
  rw [hL] at hp hp32
  have zr1 : decide ((r : Int) < 1) = false := decide_eq_false (by omega)
  obtain ⟨L2, hL2⟩ : ∃ x, 2 * L = x := ⟨_, rfl⟩
  have zL2 : 2 * (L : Int) = (L2 : Int) := by omega
  have zr2 : ¬ ((L2 : Int) ≤ (r : Int)) := by omega
  have hL64 : L2 ≤ 64 := by omega
  obtain ⟨X, hX⟩ : ∃ X, knt I seed k (2 ^ h) n r = X := ⟨_, rfl⟩
  have hXl : X.length = 32 := by rw [← hX]; exact knt_length _ _ _ _ _ _
  have HXE := Lib.hid hX
  rw [hX]
  have H24 : Hid ((Tryz.prog.info? 23).map (·.size) = some (bys X).length) := by show _ = _; rw [bys_length, hXl]; exact s24
  have HLZ : Hid (z32.length = (bys X).length) := by show _ = _; rw [bys_length, hXl, z32_length]
  clear hI hs hk hh huT hdT hu74 hd74 hn h1 h2 hp hp0 hL hX hXl hL2
  go_enter Tryz.func8, Tryz.ntmps8
  go_wp2_with (refine wpList_box_blk rfl 25 _ rfl (tcs I seed (k : Int) (h : Int)) rfl ?_)
  intro w1 a1 a2 a3
  have A1 := Lib.hid a1
  have A3 := Lib.hid a3
  have A2 := Lib.hid a2
  clear a1 a2 a3
  go_wp2_with (refine wpList_alloc_blk rfl 23 rfl _ z24 ?_)
  intro w2 a1 a2 a3
  obtain ⟨g0, hg0⟩ : ∃ g, w.heap.size = g := ⟨_, rfl⟩
  obtain ⟨g4, hg4⟩ : ∃ g, w1.heap.size = g := ⟨_, rfl⟩
  have hs1 := A2.out
  have G1 : Hid (Blk w2 g0 (tcs I seed (k : Int) (h : Int)) 25) := by rw [← hg0]; exact A1.out.below a3 (by omega)
  have G4 : Hid (Blk w2 g4 z32 23) := by rw [← hg4]; exact a1
  have GB : Hid (Below w.heap.size w w2) := A3.out.trans (a3.mono (by omega))
  have cz := (G1.out.cell 48).trans HZ.out
  have cy := (G1.out.cell 49).trans HY.out
  have hw4 : w.heap.size ≤ g4 := by omega
  have hg04 : g0 < g4 := by omega
  rw [hg0, hg4]
  clear a1 a2 a3 A1 A2 A3 hs1 hg0 hg4
  go_wp2
  refine wp_scope_goto 0 rfl ?_
  go_wp2_with fail
  refine (lshape_yes k h _ HK.out HH.out).mono ?_
  rintro e w3 ⟨rfl, hb⟩
  have E1 : Hid (Blk w3 g0 (tcs I seed (k : Int) (h : Int)) 25) := G1.out.below hb G1.out.lt
  have E4 : Hid (Blk w3 g4 z32 23) := G4.out.below hb G4.out.lt
  have EB : Hid (Below w.heap.size w w3) := GB.out.trans (hb.mono GB.out.size)
  have hs3 : g4 < w3.heap.size := E4.out.lt
  clear hb GB G1 G4 cz cy
  go_wp2_with (first | (refine wpList_alloc_blk rfl 50 rfl _ zi74 ?_))
  intro w4 a1 a2 a3
  obtain ⟨g6, hg6⟩ : ∃ g, w3.heap.size = g := ⟨_, rfl⟩
  rw [hg6] at a1 a2 a3 hs3 ⊢
  have A1 := Lib.hid a1
  obtain ⟨t4, ht4⟩ : ∃ t, w4.setRow g6 (shl k h).toArray = t := ⟨_, rfl⟩
  have F1 : Hid (Blk t4 g0 (tcs I seed (k : Int) (h : Int)) 25) := by rw [← ht4]; exact (E1.out.below a3 (by omega)).setRowOther (by omega)
  have F4 : Hid (Blk t4 g4 z32 23) := by rw [← ht4]; exact (E4.out.below a3 (by omega)).setRowOther (by omega)
  have F6 : Hid (Blk t4 g6 (shl k h) 50) := by rw [← ht4]; exact a1.setRow
  have FB : Hid (Below w.heap.size w t4) := by rw [← ht4]; exact below_setRow' (EB.out.trans (a3.mono (by omega))) (by omega) _
  clear a1 a2 a3 E1 E4 EB hg6
  go_wp2_with (first | (refine wpList_store_blk rfl 50 _ _ rfl g6 (shl k h) shl0 50 rfl rfl A1.out s74 rfl (shl_one k h) ?_; rw [ht4]; clear ht4) | (refine wpList_load_blkUG 50 _ rfl g6 rfl (shl k h) 50 F6.out d74 HU7.out HD7.out s74 (by rfl) ?_))
  refine (leavesL_any k h _ HH.out).mono ?_
  rintro e w5 ⟨rfl, hb⟩
  rw [HLE.out]
  have I1 : Hid (Blk w5 g0 (tcs I seed (k : Int) (h : Int)) 25) := F1.out.below hb F1.out.lt
  have I4 : Hid (Blk w5 g4 z32 23) := F4.out.below hb F4.out.lt
  have IB : Hid (Below w.heap.size w w5) := FB.out.trans (hb.mono FB.out.size)
  clear hb F1 F4 F6 FB A1
  go_wp2_with (refine wpList_load_blkU rfl 25 _ rfl g0 rfl (tcs I seed (k : Int) (h : Int)) 25 I1.out dT HU.out HD.out HT.out ?_)
  refine (hashes_any I seed k h _ HI.out HS.out HH.out).mono ?_
  rintro e w6 ⟨fv, rfl, hsh, hb⟩
  obtain ⟨u0, u1, u2, hv, hG⟩ := hsh.split
  subst hv
  have GG := Lib.hid hG
  have J4 : Hid (Blk w6 g4 z32 23) := I4.out.below hb I4.out.lt
  have JB : Hid (Below w.heap.size w w6) := IB.out.trans (hb.mono IB.out.size)
  clear hb hsh hG I1 I4 IB
  go_wp2_with fail
  refine (GG.out.node HI.out HS.out HK.out HH.out n r HN.out HR1.out HR2.out).mono ?_
  rintro e w7 ⟨rfl, hb⟩
  rw [HXE.out]
  have M4 : Hid (Blk w7 g4 z32 23) := J4.out.below hb J4.out.lt
  have MB : Hid (Below w.heap.size w w7) := JB.out.trans (hb.mono JB.out.size)
  clear hb GG J4 JB
  go_wp2_with (refine wpList_store_blk rfl 23 _ _ rfl g4 (bys X) z32 23 rfl rfl M4.out H24.out HLZ.out (bys_one' _) ?_)
  rw [jump_ret]
  refine bodyPost_ret (v := .tuple #[.agg (bys X).toArray, .int .i64 0]) ?_ rfl ?_
  · exact ret_blk2 rfl _ _ g4 23 _ _ rfl rfl M4.out.setRow 32 5 tu24 H24.out
  · exact ⟨rfl, below_setRow' MB.out hw4 _⟩

set_option maxRecDepth 100000 in
set_option maxHeartbeats 2000000 in
theorem knotT_neg (I seed : List UInt8) (k h : Nat) (r : Int) (w : World) (hI : I.length = 16) (hs : seed.length = 32) (hk : Wd k) (hh : Ht h) (hr : r < 1) : Calls Tryz.prog 8 #[.agg (tcs I seed (k : Int) (h : Int)).toArray, .int .i64 r] w (TwoD (.agg z32.toArray) (.int .i64 1) w) := by
  have HI := Lib.hid hI
  have HS := Lib.hid hs
  have HK := Lib.hid hk
  have HH := Lib.hid hh
  have HZ := Lib.hid (tcs_z I seed (k : Int) (h : Int) hI hs)
  have HY := Lib.hid (tcs_y I seed (k : Int) (h : Int) hI hs)
  obtain ⟨d74, hu74, hd74⟩ := row74
  have HU7 := Lib.hid hu74
  have HD7 := Lib.hid hd74
  clear hI hs hk hh hu74 hd74
  have zr1 : decide (r < 1) = true := decide_eq_true hr
  go_enter Tryz.func8, Tryz.ntmps8
  go_wp2_with (refine wpList_box_blk rfl 25 _ rfl (tcs I seed (k : Int) (h : Int)) rfl ?_)
  intro w1 a1 a2 a3
  have A1 := Lib.hid a1
  have A3 := Lib.hid a3
  have A2 := Lib.hid a2
  clear a1 a2 a3
  go_wp2_with (refine wpList_alloc_blk rfl 23 rfl _ z24 ?_)
  intro w2 a1 a2 a3
  obtain ⟨g0, hg0⟩ : ∃ g, w.heap.size = g := ⟨_, rfl⟩
  obtain ⟨g4, hg4⟩ : ∃ g, w1.heap.size = g := ⟨_, rfl⟩
  have hs1 := A2.out
  have G1 : Hid (Blk w2 g0 (tcs I seed (k : Int) (h : Int)) 25) := by rw [← hg0]; exact A1.out.below a3 (by omega)
  have G4 : Hid (Blk w2 g4 z32 23) := by rw [← hg4]; exact a1
  have GB : Hid (Below w.heap.size w w2) := A3.out.trans (a3.mono (by omega))
  have cz := (G1.out.cell 48).trans HZ.out
  have cy := (G1.out.cell 49).trans HY.out
  have hw4 : w.heap.size ≤ g4 := by omega
  have hg04 : g0 < g4 := by omega
  rw [hg0, hg4]
  clear a1 a2 a3 A1 A2 A3 hs1 hg0 hg4
  go_wp2
  refine wp_scope_goto 0 rfl ?_
  go_wp2_with fail
  refine (lshape_yes k h _ HK.out HH.out).mono ?_
  rintro e w3 ⟨rfl, hb⟩
  have E1 : Hid (Blk w3 g0 (tcs I seed (k : Int) (h : Int)) 25) := G1.out.below hb G1.out.lt
  have E4 : Hid (Blk w3 g4 z32 23) := G4.out.below hb G4.out.lt
  have EB : Hid (Below w.heap.size w w3) := GB.out.trans (hb.mono GB.out.size)
  have hs3 : g4 < w3.heap.size := E4.out.lt
  clear hb GB G1 G4 cz cy
  go_wp2_with (first | (refine wpList_alloc_blk rfl 50 rfl _ zi74 ?_))
  intro w4 a1 a2 a3
  obtain ⟨g6, hg6⟩ : ∃ g, w3.heap.size = g := ⟨_, rfl⟩
  rw [hg6] at a1 a2 a3 hs3 ⊢
  have A1 := Lib.hid a1
  obtain ⟨t4, ht4⟩ : ∃ t, w4.setRow g6 (shl k h).toArray = t := ⟨_, rfl⟩
  have F1 : Hid (Blk t4 g0 (tcs I seed (k : Int) (h : Int)) 25) := by rw [← ht4]; exact (E1.out.below a3 (by omega)).setRowOther (by omega)
  have F4 : Hid (Blk t4 g4 z32 23) := by rw [← ht4]; exact (E4.out.below a3 (by omega)).setRowOther (by omega)
  have F6 : Hid (Blk t4 g6 (shl k h) 50) := by rw [← ht4]; exact a1.setRow
  have FB : Hid (Below w.heap.size w t4) := by rw [← ht4]; exact below_setRow' (EB.out.trans (a3.mono (by omega))) (by omega) _
  clear a1 a2 a3 E1 E4 EB hg6
  go_wp2_with (first | (refine wpList_store_blk rfl 50 _ _ rfl g6 (shl k h) shl0 50 rfl rfl A1.out s74 rfl (shl_one k h) ?_; rw [ht4]; clear ht4))
  refine wp_goto ⟨rfl, ?_⟩
  go_wp2_with (first | (refine wpList_buildTo rfl 23 _ rfl (some 31) rfl z32.toArray (by kernel_rfl) ?_) | (refine wpList_store_blk rfl 23 _ _ rfl g4 z32 z32 23 rfl rfl F4.out s24 rfl (bys_one' _) ?_))
  rw [Exit.noGoto_ret]
  refine bodyPost_ret (v := .tuple #[.agg z32.toArray, .int .i64 1]) ?_ rfl ?_
  · exact ret_blk2 rfl _ _ g4 23 z32 _ rfl rfl F4.out.setRow 32 5 tu24 s24
  · exact ⟨rfl, below_setRow' FB.out hw4 _⟩
set_option maxRecDepth 100000 in
set_option maxHeartbeats 2000000 in
theorem knotT_far (I seed : List UInt8) (k h : Nat) (r : Int) (w : World) (hI : I.length = 16) (hs : seed.length = 32) (hk : Wd k) (hh : Ht h) (hr1 : 1 ≤ r) (hr : (2 * 2 ^ h : Nat) ≤ r) : Calls Tryz.prog 8 #[.agg (tcs I seed (k : Int) (h : Int)).toArray, .int .i64 r] w (TwoD (.agg z32.toArray) (.int .i64 1) w) := by
  have HI := Lib.hid hI
  have HS := Lib.hid hs
  have HK := Lib.hid hk
  have HH := Lib.hid hh
  have HZ := Lib.hid (tcs_z I seed (k : Int) (h : Int) hI hs)
  have HY := Lib.hid (tcs_y I seed (k : Int) (h : Int) hI hs)
  obtain ⟨d74, hu74, hd74⟩ := row74
  have HU7 := Lib.hid hu74
  have HD7 := Lib.hid hd74
  have hp32 : 2 ^ h ≤ 32 := by rcases hh with rfl | rfl | rfl | rfl | rfl <;> decide
  obtain ⟨L, hL⟩ : ∃ L, 2 ^ h = L := ⟨_, rfl⟩
  have HLE := Lib.hid hL
  rw [hL] at hr hp32
  have zr1 : decide (r < 1) = false := decide_eq_false (by omega)
  obtain ⟨L2, hL2⟩ : ∃ x, 2 * L = x := ⟨_, rfl⟩
  have zL2 : 2 * (L : Int) = (L2 : Int) := by omega
  rw [hL2] at hr
  have hL64 : L2 ≤ 64 := by omega
  clear hI hs hk hh hu74 hd74 hL hL2
  go_enter Tryz.func8, Tryz.ntmps8
  go_wp2_with (refine wpList_box_blk rfl 25 _ rfl (tcs I seed (k : Int) (h : Int)) rfl ?_)
  intro w1 a1 a2 a3
  have A1 := Lib.hid a1
  have A3 := Lib.hid a3
  have A2 := Lib.hid a2
  clear a1 a2 a3
  go_wp2_with (refine wpList_alloc_blk rfl 23 rfl _ z24 ?_)
  intro w2 a1 a2 a3
  obtain ⟨g0, hg0⟩ : ∃ g, w.heap.size = g := ⟨_, rfl⟩
  obtain ⟨g4, hg4⟩ : ∃ g, w1.heap.size = g := ⟨_, rfl⟩
  have hs1 := A2.out
  have G1 : Hid (Blk w2 g0 (tcs I seed (k : Int) (h : Int)) 25) := by rw [← hg0]; exact A1.out.below a3 (by omega)
  have G4 : Hid (Blk w2 g4 z32 23) := by rw [← hg4]; exact a1
  have GB : Hid (Below w.heap.size w w2) := A3.out.trans (a3.mono (by omega))
  have cz := (G1.out.cell 48).trans HZ.out
  have cy := (G1.out.cell 49).trans HY.out
  have hw4 : w.heap.size ≤ g4 := by omega
  have hg04 : g0 < g4 := by omega
  rw [hg0, hg4]
  clear a1 a2 a3 A1 A2 A3 hs1 hg0 hg4
  go_wp2
  refine wp_scope_goto 0 rfl ?_
  go_wp2_with fail
  refine (lshape_yes k h _ HK.out HH.out).mono ?_
  rintro e w3 ⟨rfl, hb⟩
  have E1 : Hid (Blk w3 g0 (tcs I seed (k : Int) (h : Int)) 25) := G1.out.below hb G1.out.lt
  have E4 : Hid (Blk w3 g4 z32 23) := G4.out.below hb G4.out.lt
  have EB : Hid (Below w.heap.size w w3) := GB.out.trans (hb.mono GB.out.size)
  have hs3 : g4 < w3.heap.size := E4.out.lt
  clear hb GB G1 G4 cz cy
  go_wp2_with (first | (refine wpList_alloc_blk rfl 50 rfl _ zi74 ?_))
  intro w4 a1 a2 a3
  obtain ⟨g6, hg6⟩ : ∃ g, w3.heap.size = g := ⟨_, rfl⟩
  rw [hg6] at a1 a2 a3 hs3 ⊢
  have A1 := Lib.hid a1
  obtain ⟨t4, ht4⟩ : ∃ t, w4.setRow g6 (shl k h).toArray = t := ⟨_, rfl⟩
  have F1 : Hid (Blk t4 g0 (tcs I seed (k : Int) (h : Int)) 25) := by rw [← ht4]; exact (E1.out.below a3 (by omega)).setRowOther (by omega)
  have F4 : Hid (Blk t4 g4 z32 23) := by rw [← ht4]; exact (E4.out.below a3 (by omega)).setRowOther (by omega)
  have F6 : Hid (Blk t4 g6 (shl k h) 50) := by rw [← ht4]; exact a1.setRow
  have FB : Hid (Below w.heap.size w t4) := by rw [← ht4]; exact below_setRow' (EB.out.trans (a3.mono (by omega))) (by omega) _
  clear a1 a2 a3 E1 E4 EB hg6
  go_wp2_with (first | (refine wpList_store_blk rfl 50 _ _ rfl g6 (shl k h) shl0 50 rfl rfl A1.out s74 rfl (shl_one k h) ?_; rw [ht4]; clear ht4) | (refine wpList_load_blkUG 50 _ rfl g6 rfl (shl k h) 50 F6.out d74 HU7.out HD7.out s74 (by rfl) ?_))
  refine (leavesL_any k h _ HH.out).mono ?_
  rintro e w5 ⟨rfl, hb⟩
  rw [HLE.out]
  have I4 : Hid (Blk w5 g4 z32 23) := F4.out.below hb F4.out.lt
  have IB : Hid (Below w.heap.size w w5) := FB.out.trans (hb.mono FB.out.size)
  clear hb F1 F4 F6 FB A1
  go_wp2
  refine wp_goto ⟨rfl, ?_⟩
  go_wp2_with (first | (refine wpList_buildTo rfl 23 _ rfl (some 31) rfl z32.toArray (by kernel_rfl) ?_) | (refine wpList_store_blk rfl 23 _ _ rfl g4 z32 z32 23 rfl rfl I4.out s24 rfl (bys_one' _) ?_))
  rw [Exit.noGoto_ret]
  refine bodyPost_ret (v := .tuple #[.agg z32.toArray, .int .i64 1]) ?_ rfl ?_
  · exact ret_blk2 rfl _ _ g4 23 z32 _ rfl rfl I4.out.setRow 32 5 tu24 s24
  · exact ⟨rfl, below_setRow' IB.out hw4 _⟩
end Go.Proofs.YtnemkefmlffigaaGreat

namespace Go.Proofs.YtnemkefmlffigaaGreat
open Go.RowKit

set_option maxRecDepth 100000 in
set_option maxHeartbeats 400000 in
theorem rfPublicT_no (I seed : List UInt8) (z y : Int) (w : World) (hI : I.length = 16) (hs : seed.length = 32) (hn : NoT z y) : Calls Tryz.prog 12 #[.agg (tcs I seed z y).toArray] w (TwoD (.slice none 0 0) (.int .i64 1) w) := by
  have H5 : Hid ((Tryz.prog.info? 32).map (·.size) = some (tcs I seed z y).length) := by show _ = _; rw [tcs_length I seed z y hI hs]; exact sTree5
  obtain ⟨d5, hu5, hd5⟩ := rowTree5
  have HU := Lib.hid hu5
  have HD := Lib.hid hd5
  have HI := Lib.hid hI
  have HS := Lib.hid hs
  have HN := Lib.hid hn
  clear hI hs hn hu5 hd5
  go_enter Tryz.func12, Tryz.ntmps12
  go_wp2_with (refine wpList_box_blk rfl 32 _ rfl (tcs I seed z y) rfl ?_)
  intro w1 a1 a2 a3
  have A1 := Lib.hid a1
  have A3 := Lib.hid a3
  clear a1 a2 a3
  go_wp2_with (refine wpList_load_blkU rfl 32 _ rfl w.heap.size rfl (tcs I seed z y) 32 A1.out d5 HU.out HD.out H5.out ?_)
  refine (rfMay_no I seed z y _ HI.out HS.out HN.out).mono ?_
  rintro e w2 ⟨rfl, hb⟩
  have B1 : Hid (Below w.heap.size w w2) := A3.out.trans (hb.mono A3.out.size)
  clear hb A1 A3
  go_wp2
  go_ret2
  exact ⟨rfl, B1.out⟩

set_option maxRecDepth 100000 in
set_option maxHeartbeats 1000000 in
theorem rfPublicT_yes (I seed : List UInt8) (k h : Nat) (w : World) (hI : I.length = 16) (hs : seed.length = 32) (hk : Wd k) (hh : Ht h) : Calls Tryz.prog 12 #[.agg (tcs I seed (k : Int) (h : Int)).toArray] w (fun e w' => ∃ v, e = .returned (.tuple #[v, .int .i64 0]) ∧ Own 5 w' w.heap.size v (lpub I seed k h) ∧ Below w.heap.size w w') := by
  obtain ⟨i0, hi0, hz0, hz1, hz2⟩ := info_parts info5
  have HIN := Lib.hid hi0
  have H0 := Lib.hid hz0
  have H1 := Lib.hid hz1
  have H2 := Lib.hid hz2
  have H5 : Hid ((Tryz.prog.info? 32).map (·.size) = some (tcs I seed (k : Int) (h : Int)).length) := by show _ = _; rw [tcs_length I seed _ _ hI hs]; exact sTree5
  obtain ⟨d5, hu5, hd5⟩ := rowTree5
  have HU := Lib.hid hu5
  have HD := Lib.hid hd5
  have HI := Lib.hid hI
  have HS := Lib.hid hs
  have HK := Lib.hid hk
  have HH := Lib.hid hh
  obtain ⟨Ty, hTy⟩ : ∃ T, typ k = T := ⟨_, rfl⟩
  have HTE := Lib.hid hTy
  have hTy4 : Hid (Ty < 4294967296) := by show _ < _; rw [← hTy]; rcases hk with rfl | rfl | rfl | rfl <;> decide
  obtain ⟨Kd, hKd⟩ : ∃ T, knd h = T := ⟨_, rfl⟩
  have HKE := Lib.hid hKd
  have hKd4 : Hid (Kd < 4294967296) := by show _ < _; rw [← hKd]; rcases hh with rfl | rfl | rfl | rfl | rfl <;> decide
  obtain ⟨R, hR⟩ : ∃ R, knt I seed k (2 ^ h) h 1 = R := ⟨_, rfl⟩
  have HRE := Lib.hid hR
  have hRl : Hid (R.length = 32) := by show _ = _; rw [← hR]; exact knt_length _ _ _ _ _ _
  have HPE : Hid (lpub I seed k h = be 4 Kd ++ be 4 Ty ++ I ++ R) := by show _ = _; unfold lpub; rw [hTy, hKd, hR]
  clear hI hs hk hh hu5 hd5 hi0 hz0 hz1 hz2 hTy hKd hR
  go_enter Tryz.func12, Tryz.ntmps12
  go_wp2_with (refine wpList_box_blk rfl 32 _ rfl (tcs I seed (k : Int) (h : Int)) rfl ?_)
  intro w1 a1 a2 a3
  obtain ⟨g0, hg0⟩ : ∃ g, w.heap.size = g := ⟨_, rfl⟩
  rw [hg0] at a1 a2 ⊢
  have A1 := Lib.hid a1
  have A3 := Lib.hid a3
  clear a1 a2 a3 hg0
  go_wp2_with (refine wpList_load_blkU rfl 32 _ rfl g0 rfl (tcs I seed (k : Int) (h : Int)) 32 A1.out d5 HU.out HD.out H5.out ?_)
  refine (rfMay_yes I seed k h _ HI.out HS.out HK.out HH.out).mono ?_
  rintro e w2 ⟨rfl, hb⟩
  have B1 : Hid (Blk w2 g0 (tcs I seed (k : Int) (h : Int)) 32) := A1.out.below hb A1.out.lt
  have BB : Hid (Below w.heap.size w w2) := A3.out.trans (hb.mono A3.out.size)
  have cz := (B1.out.cell 48).trans (tcs_z I seed _ _ HI.out HS.out)
  clear hb A1 A3
  go_wp2_with fail
  refine (refType_yes k _ HK.out).mono ?_
  rintro e w3 ⟨rfl, rfl⟩
  rw [HTE.out]
  clear cz
  have cy := (B1.out.cell 49).trans (tcs_y I seed _ _ HI.out HS.out)
  go_wp2_with fail
  refine (rfTyped_any h _ HH.out).mono ?_
  rintro e w3 ⟨rfl, rfl⟩
  rw [HKE.out]
  clear cy
  go_wp2_with fail
  refine (four_any Kd _ hKd4.out).mono ?_
  rintro e w3 ⟨v3, rfl, hown, hb⟩
  obtain ⟨b, hbE⟩ : ∃ b, w2.heap.size = b := ⟨_, rfl⟩
  have C1 : Hid (Blk w3 g0 (tcs I seed (k : Int) (h : Int)) 32) := B1.out.below hb B1.out.lt
  have CB : Hid (Below w.heap.size w w3) := BB.out.trans (hb.mono BB.out.size)
  have CO : Hid (Own 5 w3 b v3 (be 4 Kd)) := by rw [← hbE]; exact hown
  have g0b : Hid (g0 < b) := by rw [← hbE]; exact B1.out.lt
  have wb : Hid (w.heap.size ≤ b) := by rw [← hbE]; exact BB.out.size
  have sb3 : Hid (b ≤ w3.heap.size) := by rw [← hbE]; exact hb.size
  clear hown hb hbE B1 BB
  go_wp2_with fail
  refine (four_any Ty _ hTy4.out).mono ?_
  rintro e w4 ⟨v4, rfl, hown, hb⟩
  have D1 : Hid (Blk w4 g0 (tcs I seed (k : Int) (h : Int)) 32) := C1.out.below hb C1.out.lt
  have DB : Hid (Below w.heap.size w w4) := CB.out.trans (hb.mono CB.out.size)
  have DO : Hid (Own 5 w4 b v3 (be 4 Kd)) := CO.out.below hb (Nat.le_refl _)
  have DR : Hid (Rd w4.heap.size w4 v4 (be 4 Ty)) := hown.rd
  have sb4 : Hid (b ≤ w4.heap.size) := Nat.le_trans sb3.out hb.size
  clear hown hb C1 CB CO sb3
  go_wp2_with (at_builtin; refine wpList_app rfl _ _ 34 rfl 5 i0 Tryz.underlying34 HIN.out H0.out H1.out H2.out b w4.heap.size _ _ (be 4 Kd) (be 4 Ty) rfl DO.out rfl DR.out (by rw [be_length, be_length]; decide) sb4.out ?_)
  intro v5 w5 hown hb
  have E1 : Hid (Blk w5 g0 (tcs I seed (k : Int) (h : Int)) 32) := D1.out.below hb g0b.out
  have EB : Hid (Below w.heap.size w w5) := DB.out.trans (hb.mono wb.out)
  have EO : Hid (Own 5 w5 b v5 (be 4 Kd ++ be 4 Ty)) := hown
  have sb5 : Hid (b ≤ w5.heap.size) := Nat.le_trans sb4.out hb.size
  have ER : Hid (Rd w5.heap.size w5 (.slice (some ⟨g0, 0, none⟩) 16 16) I) := tcs_I E1.out HI.out E1.out.lt
  clear hown hb D1 DB DO DR sb4
  go_wp2_with (at_builtin; refine wpList_app rfl _ _ 34 rfl 5 i0 Tryz.underlying34 HIN.out H0.out H1.out H2.out b w5.heap.size _ _ (be 4 Kd ++ be 4 Ty) I rfl EO.out rfl ER.out (by rw [List.length_append, be_length, be_length, HI.out]; decide) sb5.out ?_)
  intro v6 w6 hown hb
  have F1 : Hid (Blk w6 g0 (tcs I seed (k : Int) (h : Int)) 32) := E1.out.below hb g0b.out
  have FB : Hid (Below w.heap.size w w6) := EB.out.trans (hb.mono wb.out)
  have FO : Hid (Own 5 w6 b v6 (be 4 Kd ++ be 4 Ty ++ I)) := Lib.hid (by simpa using hown)
  have sb6 : Hid (b ≤ w6.heap.size) := Nat.le_trans sb5.out hb.size
  clear hown hb E1 EB EO ER sb5
  go_wp2_with (refine wpList_load_blkU rfl 32 _ rfl g0 rfl (tcs I seed (k : Int) (h : Int)) 32 F1.out d5 HU.out HD.out H5.out ?_)
  refine (rfKnot_any I seed k h HI.out HS.out HK.out HH.out h 1 _ (Nat.le_refl _) (by rw [Nat.sub_self]; decide) (by rw [Nat.sub_self]; decide)).mono ?_
  rintro e w7 ⟨rfl, hb⟩
  rw [HRE.out]
  have GB : Hid (Below w.heap.size w w7) := FB.out.trans (hb.mono FB.out.size)
  have GO : Hid (Own 5 w7 b v6 (be 4 Kd ++ be 4 Ty ++ I)) := FO.out.below hb (Nat.le_refl _)
  have sb7 : Hid (b ≤ w7.heap.size) := Nat.le_trans sb6.out hb.size
  clear hb F1 FB FO sb6
  go_wp2_with (refine wpList_alloc_blk rfl 23 rfl _ z24 ?_)
  intro w8 a1 a2 a3
  obtain ⟨g7, hg7⟩ : ∃ g, w7.heap.size = g := ⟨_, rfl⟩
  rw [hg7] at a1 a2 ⊢
  have H24 : Hid ((Tryz.prog.info? 23).map (·.size) = some (bys R).length) := by show _ = _; rw [bys_length, hRl.out]; exact s24
  have HLZ : Hid (z32.length = (bys R).length) := by show _ = _; rw [bys_length, hRl.out, z32_length]
  have A1 := Lib.hid a1
  obtain ⟨t8, ht8⟩ : ∃ t, w8.setRow g7 (bys R).toArray = t := ⟨_, rfl⟩
  have bw : Below w7.heap.size w7 t8 := by rw [← ht8, hg7]; rw [hg7] at a3; exact below_setRow' a3 (by omega) _
  have KR : Hid (Blk t8 g7 (bys R) 23) := by rw [← ht8]; exact a1.setRow
  have KB : Hid (Below w.heap.size w t8) := GB.out.trans (bw.mono GB.out.size)
  have KO : Hid (Own 5 t8 b v6 (be 4 Kd ++ be 4 Ty ++ I)) := GO.out.below bw (Nat.le_refl _)
  have sb8 : Hid (b ≤ t8.heap.size) := Nat.le_trans sb7.out bw.size
  have RR : Hid (Rd t8.heap.size t8 (.slice (some ⟨g7, 0, none⟩) 32 32) R) := by
    have h := (KR.out.rd (by rw [hRl.out]; decide)).more (show g7 + 1 ≤ t8.heap.size from KR.out.lt)
    rw [hRl.out] at h
    exact h
  clear a1 a2 a3 bw GB GO sb7 hg7
  go_wp2_with (first | (refine wpList_store_blk rfl 23 _ _ rfl g7 (bys R) z32 23 rfl rfl A1.out H24.out HLZ.out (bys_one' _) ?_; rw [ht8]; clear ht8) | (at_builtin; refine wpList_app rfl _ _ 34 rfl 5 i0 Tryz.underlying34 HIN.out H0.out H1.out H2.out b t8.heap.size _ _ (be 4 Kd ++ be 4 Ty ++ I) R rfl KO.out rfl RR.out (by simp [be_length, HI.out, hRl.out]) sb8.out ?_))
  intro v9 w9 hown hb
  have LB : Hid (Below w.heap.size w w9) := KB.out.trans (hb.mono wb.out)
  have LO : Hid (Own 5 w9 b v9 (be 4 Kd ++ be 4 Ty ++ I ++ R)) := Lib.hid (by simpa using hown)
  clear hown hb KR KB KO RR sb8 A1
  go_wp2
  go_ret2
  refine ⟨_, rfl, ?_, LB.out⟩
  rw [HPE.out]
  exact LO.out.base wb.out
end Go.Proofs.YtnemkefmlffigaaGreat

namespace Go.Proofs.YtnemkefmlffigaaGreat
open Go.RowKit

theorem z32_bys : z32 = bys (List.replicate 32 0) := by rfl
theorem knot_both (I seed : List UInt8) (z y r : Int) (hI : I.length = 16) (hs : seed.length = 32) : ∃ (X : List UInt8) (E : Int), X.length = 32 ∧
    (∀ w, Calls Tryz.prog 8 #[.agg (tcs I seed z y).toArray, .int .i64 r] w (TwoD (.agg (bys X).toArray) (.int .i64 E) w)) ∧
    (∀ w, Calls Tryz.prog 9 #[.agg (tcs I seed z y).toArray, .int .i64 r] w (TwoD (.agg (bys X).toArray) (.int .i64 E) w)) := by
  rcases tree_or z y with ⟨k, h, hk, hh, rfl, rfl⟩ | hn
  · by_cases h1 : r < 1
    · exact ⟨List.replicate 32 0, 1, by simp, fun w => by rw [← z32_bys]; exact knotT_neg I seed k h r w hI hs hk hh h1, fun w => by rw [← z32_bys]; exact rfKnotT_neg I seed k h r w hI hs hk hh h1⟩
    · by_cases h2 : (2 * 2 ^ h : Nat) ≤ r
      · exact ⟨List.replicate 32 0, 1, by simp, fun w => by rw [← z32_bys]; exact knotT_far I seed k h r w hI hs hk hh (by omega) h2, fun w => by rw [← z32_bys]; exact rfKnotT_far I seed k h r w hI hs hk hh (by omega) h2⟩
      · obtain ⟨m, rfl⟩ : ∃ m : Nat, r = (m : Int) := ⟨r.toNat, by omega⟩
        obtain ⟨n, hn, a, b⟩ := knot_lv h m (by omega) h (by omega) (Nat.le_refl _)
        exact ⟨knt I seed k (2 ^ h) n m, 0, knt_length _ _ _ _ _ _, fun w => knotT_yes I seed k h n m w hI hs hk hh hn a b, fun w => rfKnotT_yes I seed k h n m w hI hs hk hh hn a b⟩
  · exact ⟨List.replicate 32 0, 1, by simp, fun w => by rw [← z32_bys]; exact knotT_no I seed z y r w hI hs hn, fun w => by rw [← z32_bys]; exact rfKnotT_noT I seed z y r w hI hs hn⟩

/-- A call gives bytes that can be read, and an error's number. -/
def Read2 (l : List UInt8) (E : Int) (w : World) (e : Ending) (w' : World) : Prop := ∃ v, e = .returned (.tuple #[v, .int .i64 E]) ∧ Rd w'.heap.size w' v l ∧ Below w.heap.size w w'
theorem Rd.nil0 (B : Nat) (w : World) : Rd B w (.slice none 0 0) [] := ⟨none, 0, rfl, by simp, by unfold maxLen; simp, fun _ => rfl, fun a ha => by cases ha⟩
theorem public5_both (I seed : List UInt8) (z y : Int) (hI : I.length = 16) (hs : seed.length = 32) : ∃ (l : List UInt8) (E : Int),
    (∀ w, Calls Tryz.prog 11 #[.agg (tcs I seed z y).toArray] w (Read2 l E w)) ∧ (∀ w, Calls Tryz.prog 12 #[.agg (tcs I seed z y).toArray] w (Read2 l E w)) := by
  rcases tree_or z y with ⟨k, h, hk, hh, rfl, rfl⟩ | hn
  · refine ⟨lpub I seed k h, 0, fun w => ?_, fun w => ?_⟩
    · refine (pubT_yes I seed k h w hI hs hk hh).mono ?_
      rintro e w' ⟨v, rfl, hown, hb⟩
      exact ⟨v, rfl, hown.rd, hb⟩
    · refine (rfPublicT_yes I seed k h w hI hs hk hh).mono ?_
      rintro e w' ⟨v, rfl, hown, hb⟩
      exact ⟨v, rfl, hown.rd, hb⟩
  · refine ⟨[], 1, fun w => ?_, fun w => ?_⟩
    · refine (pubT_no I seed z y w hI hs hn).mono ?_
      rintro e w' ⟨rfl, hb⟩
      exact ⟨_, rfl, Rd.nil0 _ _, hb⟩
    · refine (rfPublicT_no I seed z y w hI hs hn).mono ?_
      rintro e w' ⟨rfl, hb⟩
      exact ⟨_, rfl, Rd.nil0 _ _, hb⟩
theorem long5_both (I seed : List UInt8) (z y : Int) (hI : I.length = 16) (hs : seed.length = 32) : ∃ (n E : Int),
    (∀ w, Calls Tryz.prog 13 #[.agg (tcs I seed z y).toArray] w (TwoD (.int .i64 n) (.int .i64 E) w)) ∧ (∀ w, Calls Tryz.prog 14 #[.agg (tcs I seed z y).toArray] w (TwoD (.int .i64 n) (.int .i64 E) w)) := by
  rcases tree_or z y with ⟨k, h, hk, hh, rfl, rfl⟩ | hn
  · exact ⟨_, 0, fun w => longT_yes I seed k h w hI hs hk hh, fun w => rfLong_yes I seed k h w hI hs hk hh⟩
  · exact ⟨0, 1, fun w => longT_no I seed z y w hI hs hn, fun w => rfLong_no I seed z y w hI hs hn⟩

set_option maxRecDepth 100000 in
set_option maxHeartbeats 400000 in
theorem knots_high (I seed : List UInt8) (z y r : Int) (w : World) (hI : I.length = 16) (hs : seed.length = 32) (h3 : 3 ≤ y) (h5 : y ≤ 5) : Calls Tryz.prog 3 #[.agg (tcs I seed z y).toArray, .int .i64 r] w (One (.bool true) w) := by
  have HI := Lib.hid hI
  have HS := Lib.hid hs
  have HT : Hid ((Tryz.prog.info? 25).map (·.size) = some (tcs I seed z y).length) := by show _ = _; rw [tcs_length I seed _ _ hI hs]; exact sTree
  obtain ⟨dT, huT, hdT⟩ := rowTree
  have HU := Lib.hid huT
  have HD := Lib.hid hdT
  have H3 := Lib.hid h3
  have HV := Lib.hid h5
  clear hI hs huT hdT h3 h5
  go_enter Tryz.func3, Tryz.ntmps3
  go_wp2_with (refine wpList_box_blk rfl 25 _ rfl (tcs I seed z y) rfl ?_)
  intro w1 a1 a2 a3
  have A1 := Lib.hid a1
  have A3 := Lib.hid a3
  clear a1 a2 a3
  go_wp2_with (refine wpList_load_blkU rfl 25 _ rfl w.heap.size rfl (tcs I seed z y) 25 A1.out dT HU.out HD.out HT.out ?_)
  refine (low_no I seed z y _ HI.out HS.out H3.out HV.out).mono ?_
  rintro e w2 ⟨rfl, hb⟩
  have B1 : Hid (Below w.heap.size w w2) := A3.out.trans (hb.mono A3.out.size)
  clear hb A1 A3
  go_wp2_with fail
  refine (alive5_any _).mono ?_
  rintro e w3 ⟨rfl, hb⟩
  have C1 : Hid (Below w.heap.size w w3) := B1.out.trans (hb.mono B1.out.size)
  clear hb B1
  go_wp2
  go_ret
  exact ⟨rfl, C1.out⟩
end Go.Proofs.YtnemkefmlffigaaGreat

namespace Go.Proofs.YtnemkefmlffigaaGreat
open Go.RowKit

theorem wpList_load_blkG {P : Program} {w : World} {ops : Array Oper} {rest : List Oper} {o : Oper} {a : Act} {Q : Exit → Act → World → Prop} (t : TypeId) (x : Operand) (ho : o.op = .load t x) (g : Nat) (hx : a.eval x = .pointer (some ⟨g, 0, none⟩)) (cs : List Value) (u : TypeId) (hb : Blk w g cs u)
    (n : Nat) (e : TypeId) (hu : P.underlying t = some (.array n e)) (hi : (P.info? t).map (·.size) = some cs.length) (hw : Region.wanted o (yielded ops a.tmps) = true)
    (h : wpList P ops Q rest (a.put o.dst (.agg cs.toArray)) w) : wpList P ops Q (o :: rest) a w := by
  refine BigFrame.wpList_want hw (fun K hK => ?_)
  unfold Oper.wp
  rw [run_load_blk t x ho g hx cs u hb n e hu hi]
  exact hK _ _ h

set_option maxRecDepth 100000 in
set_option maxHeartbeats 1000000 in
theorem knots_low (I seed : List UInt8) (z y r : Int) (w : World) (hI : I.length = 16) (hs : seed.length = 32) (hy : y < 3 ∨ 5 < y) : Calls Tryz.prog 3 #[.agg (tcs I seed z y).toArray, .int .i64 r] w (One (.bool true) w) := by
  obtain ⟨X, E, hXl, k1, k2⟩ := knot_both I seed z y r hI hs
  obtain ⟨P, F, p1, p2⟩ := public5_both I seed z y hI hs
  obtain ⟨n, G, l1, l2⟩ := long5_both I seed z y hI hs
  have HI := Lib.hid hI
  have HS := Lib.hid hs
  have HY := Lib.hid hy
  have K1 := Lib.hid k1
  have K2 := Lib.hid k2
  have P1 := Lib.hid p1
  have P2 := Lib.hid p2
  have L1 := Lib.hid l1
  have L2 := Lib.hid l2
  have H24 : Hid ((Tryz.prog.info? 23).map (·.size) = some (bys X).length) := by show _ = _; rw [bys_length, hXl]; exact s24
  have HLZ : Hid (z32.length = (bys X).length) := by show _ = _; rw [bys_length, hXl, z32_length]
  have HT : Hid ((Tryz.prog.info? 25).map (·.size) = some (tcs I seed z y).length) := by show _ = _; rw [tcs_length I seed _ _ hI hs]; exact sTree
  obtain ⟨dT, huT, hdT⟩ := rowTree
  have HU := Lib.hid huT
  have HD := Lib.hid hdT
  have HXL := Lib.hid hXl
  clear hI hs huT hdT hy k1 k2 p1 p2 l1 l2 hXl
  go_enter Tryz.func3, Tryz.ntmps3
  go_wp2_with (refine wpList_box_blk rfl 25 _ rfl (tcs I seed z y) rfl ?_)
  intro w1 a1 a2 a3
  obtain ⟨g0, hg0⟩ : ∃ g, w.heap.size = g := ⟨_, rfl⟩
  rw [hg0] at a1 a2 ⊢
  have A1 := Lib.hid a1
  have A3 := Lib.hid a3
  clear a1 a2 a3 hg0
  go_wp2_with (refine wpList_load_blkU rfl 25 _ rfl g0 rfl (tcs I seed z y) 25 A1.out dT HU.out HD.out HT.out ?_)
  refine (low_yes I seed z y _ HI.out HS.out HY.out).mono ?_
  rintro e w2 ⟨rfl, hb⟩
  have B1 : Hid (Blk w2 g0 (tcs I seed z y) 25) := A1.out.below hb A1.out.lt
  have BB : Hid (Below w.heap.size w w2) := A3.out.trans (hb.mono A3.out.size)
  clear hb A1 A3
  go_wp2_with (refine wpList_load_blkU rfl 25 _ rfl g0 rfl (tcs I seed z y) 25 B1.out dT HU.out HD.out HT.out ?_)
  refine (K1.out _).mono ?_
  rintro e w3 ⟨rfl, hb⟩
  have C1 : Hid (Blk w3 g0 (tcs I seed z y) 25) := B1.out.below hb B1.out.lt
  have CB : Hid (Below w.heap.size w w3) := BB.out.trans (hb.mono BB.out.size)
  clear hb B1 BB
  go_wp2_with (refine wpList_alloc_blk rfl 23 rfl _ z24 ?_)
  intro w4 a1 a2 a3
  obtain ⟨gx, hgx⟩ : ∃ g, w3.heap.size = g := ⟨_, rfl⟩
  rw [hgx] at a1 a2 ⊢
  have A1 := Lib.hid a1
  obtain ⟨t4, ht4⟩ : ∃ t, w4.setRow gx (bys X).toArray = t := ⟨_, rfl⟩
  have bw : Below w3.heap.size w3 t4 := by rw [← ht4, hgx]; rw [hgx] at a3; exact below_setRow' a3 (by omega) _
  have D1 : Hid (Blk t4 g0 (tcs I seed z y) 25) := C1.out.below bw C1.out.lt
  have DX : Hid (Blk t4 gx (bys X) 23) := by rw [← ht4]; exact a1.setRow
  have DB : Hid (Below w.heap.size w t4) := CB.out.trans (bw.mono CB.out.size)
  clear a1 a2 a3 bw C1 CB hgx
  go_wp2_with (first | (refine wpList_store_blk rfl 23 _ _ rfl gx (bys X) z32 23 rfl rfl A1.out H24.out HLZ.out (bys_one' _) ?_; rw [ht4]; clear ht4) | (refine wpList_load_blkU rfl 25 _ rfl g0 rfl (tcs I seed z y) 25 D1.out dT HU.out HD.out HT.out ?_))
  refine (plain_any I seed z y _ HI.out HS.out).mono ?_
  rintro e w5 ⟨rfl, hb⟩
  have E1 : Hid (Blk w5 g0 (tcs I seed z y) 25) := D1.out.below hb D1.out.lt
  have EX : Hid (Blk w5 gx (bys X) 23) := DX.out.below hb DX.out.lt
  have EB : Hid (Below w.heap.size w w5) := DB.out.trans (hb.mono DB.out.size)
  clear hb D1 DX DB A1
  go_wp2_with fail
  refine (K2.out _).mono ?_
  rintro e w6 ⟨rfl, hb⟩
  have C1 : Hid (Blk w6 g0 (tcs I seed z y) 25) := E1.out.below hb E1.out.lt
  have CX : Hid (Blk w6 gx (bys X) 23) := EX.out.below hb EX.out.lt
  have CB : Hid (Below w.heap.size w w6) := EB.out.trans (hb.mono EB.out.size)
  clear hb E1 EX EB
  go_wp2_with (refine wpList_alloc_blk rfl 23 rfl _ z24 ?_)
  intro w7 a1 a2 a3
  obtain ⟨gy, hgy⟩ : ∃ g, w6.heap.size = g := ⟨_, rfl⟩
  rw [hgy] at a1 a2 ⊢
  have A1 := Lib.hid a1
  obtain ⟨t7, ht7⟩ : ∃ t, w7.setRow gy (bys X).toArray = t := ⟨_, rfl⟩
  have bw : Below w6.heap.size w6 t7 := by rw [← ht7, hgy]; rw [hgy] at a3; exact below_setRow' a3 (by omega) _
  have D1 : Hid (Blk t7 g0 (tcs I seed z y) 25) := C1.out.below bw C1.out.lt
  have DX : Hid (Blk t7 gx (bys X) 23) := CX.out.below bw CX.out.lt
  have DY : Hid (Blk t7 gy (bys X) 23) := by rw [← ht7]; exact a1.setRow
  have DB : Hid (Below w.heap.size w t7) := CB.out.trans (bw.mono CB.out.size)
  clear a1 a2 a3 bw C1 CX CB hgy
  go_wp2_with (first | (refine wpList_store_blk rfl 23 _ _ rfl gy (bys X) z32 23 rfl rfl A1.out H24.out HLZ.out (bys_one' _) ?_; rw [ht7]; clear ht7) | (refine wpList_load_blkU rfl 25 _ rfl g0 rfl (tcs I seed z y) 25 D1.out dT HU.out HD.out HT.out ?_))
  refine (P1.out _).mono ?_
  rintro e w8 ⟨pv, rfl, hpv, hb⟩
  have E1 : Hid (Blk w8 g0 (tcs I seed z y) 25) := D1.out.below hb D1.out.lt
  have EX : Hid (Blk w8 gx (bys X) 23) := DX.out.below hb DX.out.lt
  have EY : Hid (Blk w8 gy (bys X) 23) := DY.out.below hb DY.out.lt
  have EB : Hid (Below w.heap.size w w8) := DB.out.trans (hb.mono DB.out.size)
  have EP := Lib.hid hpv
  clear hb hpv D1 DX DY DB A1
  go_wp2_with (refine wpList_load_blkU rfl 25 _ rfl g0 rfl (tcs I seed z y) 25 E1.out dT HU.out HD.out HT.out ?_)
  refine (plain_any I seed z y _ HI.out HS.out).mono ?_
  rintro e w9 ⟨rfl, hb⟩
  have D1 : Hid (Blk w9 g0 (tcs I seed z y) 25) := E1.out.below hb E1.out.lt
  have DX : Hid (Blk w9 gx (bys X) 23) := EX.out.below hb EX.out.lt
  have DY : Hid (Blk w9 gy (bys X) 23) := EY.out.below hb EY.out.lt
  have DB : Hid (Below w.heap.size w w9) := EB.out.trans (hb.mono EB.out.size)
  have DP : Hid (Rd w9.heap.size w9 pv P) := (EP.out.below hb).more hb.size
  clear hb E1 EX EY EB EP
  go_wp2_with fail
  refine (P2.out _).mono ?_
  rintro e w10 ⟨qv, rfl, hqv, hb⟩
  have E1 : Hid (Blk w10 g0 (tcs I seed z y) 25) := D1.out.below hb D1.out.lt
  have EX : Hid (Blk w10 gx (bys X) 23) := DX.out.below hb DX.out.lt
  have EY : Hid (Blk w10 gy (bys X) 23) := DY.out.below hb DY.out.lt
  have EB : Hid (Below w.heap.size w w10) := DB.out.trans (hb.mono DB.out.size)
  have EP : Hid (Rd w10.heap.size w10 pv P) := (DP.out.below hb).more hb.size
  have EQ := Lib.hid hqv
  clear hb hqv D1 DX DY DB DP
  go_wp2_with (refine wpList_load_blkU rfl 25 _ rfl g0 rfl (tcs I seed z y) 25 E1.out dT HU.out HD.out HT.out ?_)
  refine (L1.out _).mono ?_
  rintro e w11 ⟨rfl, hb⟩
  have D1 : Hid (Blk w11 g0 (tcs I seed z y) 25) := E1.out.below hb E1.out.lt
  have DX : Hid (Blk w11 gx (bys X) 23) := EX.out.below hb EX.out.lt
  have DY : Hid (Blk w11 gy (bys X) 23) := EY.out.below hb EY.out.lt
  have DB : Hid (Below w.heap.size w w11) := EB.out.trans (hb.mono EB.out.size)
  have DP : Hid (Rd w11.heap.size w11 pv P) := (EP.out.below hb).more hb.size
  have DQ : Hid (Rd w11.heap.size w11 qv P) := (EQ.out.below hb).more hb.size
  clear hb E1 EX EY EB EP EQ
  go_wp2_with (refine wpList_load_blkU rfl 25 _ rfl g0 rfl (tcs I seed z y) 25 D1.out dT HU.out HD.out HT.out ?_)
  refine (plain_any I seed z y _ HI.out HS.out).mono ?_
  rintro e w12 ⟨rfl, hb⟩
  have EX : Hid (Blk w12 gx (bys X) 23) := DX.out.below hb DX.out.lt
  have EY : Hid (Blk w12 gy (bys X) 23) := DY.out.below hb DY.out.lt
  have EB : Hid (Below w.heap.size w w12) := DB.out.trans (hb.mono DB.out.size)
  have EP : Hid (Rd w12.heap.size w12 pv P) := (DP.out.below hb).more hb.size
  have EQ : Hid (Rd w12.heap.size w12 qv P) := (DQ.out.below hb).more hb.size
  clear hb D1 DX DY DB DP DQ
  go_wp2_with fail
  refine (L2.out _).mono ?_
  rintro e w13 ⟨rfl, hb⟩
  have DX : Hid (Blk w13 gx (bys X) 23) := EX.out.below hb EX.out.lt
  have DY : Hid (Blk w13 gy (bys X) 23) := EY.out.below hb EY.out.lt
  have DB : Hid (Below w.heap.size w w13) := EB.out.trans (hb.mono EB.out.size)
  have DP : Hid (Rd w13.heap.size w13 pv P) := (EP.out.below hb).more hb.size
  have DQ : Hid (Rd w13.heap.size w13 qv P) := (EQ.out.below hb).more hb.size
  clear hb EX EY EB EP EQ
  go_wp2_with fail
  refine (alive5_any _).mono ?_
  rintro e u ⟨rfl, hb⟩
  have GX : Hid (Blk u gx (bys X) 23) := DX.out.below hb DX.out.lt
  have GY : Hid (Blk u gy (bys X) 23) := DY.out.below hb DY.out.lt
  have GB : Hid (Below w.heap.size w u) := DB.out.trans (hb.mono DB.out.size)
  have fP := DP.out.below hb
  have fQ := DQ.out.below hb
  clear hb DX DY DB DP DQ
  obtain ⟨A2, c2, rfl, _, _⟩ := fP.shape
  obtain ⟨A3, c3, rfl, _, _⟩ := fQ.shape
  have t1 := run_string_rd 34 9 5 Tryz.underlying34 Tryz.underlying5 Tryz.underlying9 fP
  have t2 := run_string_rd 34 9 5 Tryz.underlying34 Tryz.underlying5 Tryz.underlying9 fQ
  have heq1 := eq24 X HXL.out u
  clear fP fQ
  go_wp2_with (first | (refine wpList_load_blkG 23 _ rfl gx rfl (bys X) 23 GX.out 32 5 tu24 H24.out (by rfl) ?_) | (refine wpList_load_blkG 23 _ rfl gy rfl (bys X) 23 GY.out 32 5 tu24 H24.out (by rfl) ?_))
  go_ret
  exact ⟨rfl, GB.out⟩

theorem knots_all (I seed : List UInt8) (z y r : Int) (w : World) (hI : I.length = 16) (hs : seed.length = 32) : Calls Tryz.prog 3 #[.agg (tcs I seed z y).toArray, .int .i64 r] w (One (.bool true) w) := by
  by_cases h : y < 3 ∨ 5 < y
  · exact knots_low I seed z y r w hI hs h
  · exact knots_high I seed z y r w hI hs (by omega) (by omega)
end Go.Proofs.YtnemkefmlffigaaGreat
