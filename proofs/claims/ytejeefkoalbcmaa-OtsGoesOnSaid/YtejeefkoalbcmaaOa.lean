/-
  Package ots: Chain, for every key, every three ints and every hash.
-/
import Derived.Test.YtejeefkoalbcmaaO9
namespace Go.Proofs.Ytejeefkoalbcmaa
open Go.RowKit

set_option maxRecDepth 100000 in
set_option maxHeartbeats 1000000 in
theorem chainX_no (I seed y : List UInt8) (q : Nat) (z i a b : Int) (w : World) (hI : I.length = 16) (hs : seed.length = 32) (hk : NoW z) :
    Calls Try.prog 12 #[.agg (kcs I q seed z).toArray, .int .i64 i, .int .i64 a, .int .i64 b, .agg (bys y).toArray] w (TwoD (.agg z32.toArray) (.int .i64 1) w) := by
  have HI := Lib.hid hI
  have HS := Lib.hid hs
  have HK := Lib.hid hk
  clear hI hs hk
  go_enter Try.func12, Try.ntmps12
  go_wp2_with (refine wpList_box_blk rfl 26 _ rfl (kcs I q seed z) rfl ?_)
  intro v1 a1 a2 a3
  have A1 := Lib.hid a1
  have A2 := Lib.hid a2
  have A3 := Lib.hid a3
  clear a1 a2 a3
  go_wp2_with (refine wpList_box_blk rfl 24 _ rfl (bys y) rfl ?_)
  intro v2 a1 a2 a3
  rw [A2.out] at a1 a2 a3 ⊢
  have P1 : Hid (Blk v2 w.heap.size (kcs I q seed z) 26) := A1.out.below a3 (by omega)
  have P2 : Hid (Blk v2 (w.heap.size + 1) (bys y) 24) := a1
  have PB : Hid (Below w.heap.size w v2) := A3.out.trans (a3.mono (by omega))
  have PS := Lib.hid a2
  clear a1 a2 a3 A1 A2 A3
  go_wp2_with (refine wpList_alloc_blk rfl 24 rfl _ z24 ?_)
  intro v3 a1 a2 a3
  rw [PS.out] at a1 a2 a3 ⊢
  obtain ⟨g0, hg0⟩ : ∃ g, w.heap.size = g := ⟨_, rfl⟩
  obtain ⟨g1, hg1⟩ : ∃ g, g0 + 1 = g := ⟨_, rfl⟩
  obtain ⟨g2, hg2⟩ : ∃ g, g1 + 1 = g := ⟨_, rfl⟩
  have G1 : Hid (Blk v3 g0 (kcs I q seed z) 26) := by rw [← hg0]; exact P1.out.below a3 (by omega)
  have G2 : Hid (Blk v3 g1 (bys y) 24) := by rw [← hg1, ← hg0]; exact P2.out.below a3 (by omega)
  have G3 : Hid (Blk v3 g2 z32 24) := by rw [← hg2, ← hg1, ← hg0]; exact a1
  have GB : Hid (Below w.heap.size w v3) := PB.out.trans (a3.mono (by omega))
  have hwg : w.heap.size ≤ g0 := by omega
  have hg01 : g0 < g1 := by omega
  have hg12 : g1 < g2 := by omega
  have hs2 : g2 < v3.heap.size := by omega
  rw [hg0, hg1, hg2]
  clear a1 a2 a3 P1 P2 PB PS hg0 hg1 hg2
  go_wp2
  refine wp_scope_goto 0 rfl ?_
  have cw := (G1.out.cell 49).trans (kcs_z I seed q z HI.out HS.out)
  go_wp2_with fail
  clear cw
  refine (shapeOf_no z _ HK.out).mono ?_
  rintro e w1 ⟨rfl, hb⟩
  have E1 : Hid (Blk w1 g0 (kcs I q seed z) 26) := G1.out.below hb (by omega)
  have E2 : Hid (Blk w1 g1 (bys y) 24) := G2.out.below hb (by omega)
  have E3 : Hid (Blk w1 g2 z32 24) := G3.out.below hb (by omega)
  have EB : Hid (Below w.heap.size w w1) := GB.out.trans (hb.mono (by omega))
  have hs1 : g2 < w1.heap.size := Nat.lt_of_lt_of_le hs2 hb.size
  clear hb G1 G2 G3 GB hs2
  go_wp2_with (first | (refine wpList_alloc_blk rfl 57 rfl _ zi57 ?_))
  intro w2 a1 a2 a3
  obtain ⟨g, hg⟩ : ∃ g, w1.heap.size = g := ⟨_, rfl⟩
  rw [hg] at a1 a2 a3 hs1 ⊢
  have A1 := Lib.hid a1
  have L0 : Hid (Blk (w2.setRow g shp0.toArray) g shp0 57) := a1.setRow
  have L1 : Hid (Blk (w2.setRow g shp0.toArray) g0 (kcs I q seed z) 26) := (E1.out.below a3 (by omega)).setRowOther (by omega)
  have L2 : Hid (Blk (w2.setRow g shp0.toArray) g1 (bys y) 24) := (E2.out.below a3 (by omega)).setRowOther (by omega)
  have M3 : Hid (Blk (w2.setRow g shp0.toArray) g2 z32 24) := (E3.out.below a3 (by omega)).setRowOther (by omega)
  have MB : Hid (Below w.heap.size w (w2.setRow g shp0.toArray)) := below_setRow' (EB.out.trans (a3.mono (by omega))) (by omega) _
  have hs3 : g < (w2.setRow g shp0.toArray).heap.size := L0.out.lt
  clear a1 a2 a3 E1 E2 E3 EB hg
  go_wp2_with (first | (refine wpList_store_blk rfl 57 _ _ rfl g shp0 shp0 57 rfl rfl A1.out s57 rfl shp0_one ?_))
  refine wp_goto ⟨rfl, ?_⟩
  go_wp2_with (first | (refine wpList_store_blk rfl 24 _ _ rfl g2 z32 z32 24 rfl rfl M3.out s24 rfl (bys_one' _) ?_) | (refine wpList_buildTo rfl 24 _ rfl (some 51) rfl z32.toArray (by kernel_rfl) ?_))
  rw [Exit.noGoto_ret]
  refine bodyPost_ret (v := .tuple #[.agg z32.toArray, .int .i64 1]) ?_ rfl ?_
  · exact ret_blk2 rfl _ _ g2 24 z32 _ rfl rfl M3.out.setRow 32 5 tu24 s24
  · exact ⟨rfl, below_setRow' MB.out (by omega) _⟩

set_option maxRecDepth 100000 in
set_option maxHeartbeats 1000000 in
theorem chainX_out (I seed y : List UInt8) (q k : Nat) (i a b : Int) (w : World) (hI : I.length = 16) (hs : seed.length = 32) (hk : Wd k) (hi : i < 0 ∨ (mny k : Int) ≤ i) :
    Calls Try.prog 12 #[.agg (kcs I q seed (k : Int)).toArray, .int .i64 i, .int .i64 a, .int .i64 b, .agg (bys y).toArray] w (TwoD (.agg z32.toArray) (.int .i64 1) w) := by
  have HI := Lib.hid hI
  have HS := Lib.hid hs
  have HK := Lib.hid hk
  have HIN := Lib.hid hi
  clear hI hs hk hi
  obtain ⟨d57, hu57, hd57⟩ := row57
  have HU := Lib.hid hu57
  have HD := Lib.hid hd57
  clear hu57 hd57
  go_enter Try.func12, Try.ntmps12
  go_wp2_with (refine wpList_box_blk rfl 26 _ rfl (kcs I q seed (k : Int)) rfl ?_)
  intro v1 a1 a2 a3
  have A1 := Lib.hid a1
  have A2 := Lib.hid a2
  have A3 := Lib.hid a3
  clear a1 a2 a3
  go_wp2_with (refine wpList_box_blk rfl 24 _ rfl (bys y) rfl ?_)
  intro v2 a1 a2 a3
  rw [A2.out] at a1 a2 a3 ⊢
  have P1 : Hid (Blk v2 w.heap.size (kcs I q seed (k : Int)) 26) := A1.out.below a3 (by omega)
  have P2 : Hid (Blk v2 (w.heap.size + 1) (bys y) 24) := a1
  have PB : Hid (Below w.heap.size w v2) := A3.out.trans (a3.mono (by omega))
  have PS := Lib.hid a2
  clear a1 a2 a3 A1 A2 A3
  go_wp2_with (refine wpList_alloc_blk rfl 24 rfl _ z24 ?_)
  intro v3 a1 a2 a3
  rw [PS.out] at a1 a2 a3 ⊢
  obtain ⟨g0, hg0⟩ : ∃ g, w.heap.size = g := ⟨_, rfl⟩
  obtain ⟨g1, hg1⟩ : ∃ g, g0 + 1 = g := ⟨_, rfl⟩
  obtain ⟨g2, hg2⟩ : ∃ g, g1 + 1 = g := ⟨_, rfl⟩
  have G1 : Hid (Blk v3 g0 (kcs I q seed (k : Int)) 26) := by rw [← hg0]; exact P1.out.below a3 (by omega)
  have G2 : Hid (Blk v3 g1 (bys y) 24) := by rw [← hg1, ← hg0]; exact P2.out.below a3 (by omega)
  have G3 : Hid (Blk v3 g2 z32 24) := by rw [← hg2, ← hg1, ← hg0]; exact a1
  have GB : Hid (Below w.heap.size w v3) := PB.out.trans (a3.mono (by omega))
  have hwg : w.heap.size ≤ g0 := by omega
  have hg01 : g0 < g1 := by omega
  have hg12 : g1 < g2 := by omega
  have hs2 : g2 < v3.heap.size := by omega
  rw [hg0, hg1, hg2]
  clear a1 a2 a3 P1 P2 PB PS hg0 hg1 hg2
  go_wp2
  refine wp_scope_goto 0 rfl ?_
  have cw := (G1.out.cell 49).trans (kcs_z I seed q (k : Int) HI.out HS.out)
  go_wp2_with fail
  clear cw
  refine (shapeOf_yes k _ HK.out).mono ?_
  rintro e w1 ⟨rfl, hb⟩
  have E1 : Hid (Blk w1 g0 (kcs I q seed (k : Int)) 26) := G1.out.below hb (by omega)
  have E2 : Hid (Blk w1 g1 (bys y) 24) := G2.out.below hb (by omega)
  have E3 : Hid (Blk w1 g2 z32 24) := G3.out.below hb (by omega)
  have EB : Hid (Below w.heap.size w w1) := GB.out.trans (hb.mono (by omega))
  have hs1 : g2 < w1.heap.size := Nat.lt_of_lt_of_le hs2 hb.size
  clear hb G1 G2 G3 GB hs2
  go_wp2_with (first | (refine wpList_alloc_blk rfl 57 rfl _ zi57 ?_))
  intro w2 a1 a2 a3
  obtain ⟨g, hg⟩ : ∃ g, w1.heap.size = g := ⟨_, rfl⟩
  rw [hg] at a1 a2 a3 hs1 ⊢
  have A1 := Lib.hid a1
  have L0 : Hid (Blk (w2.setRow g (shp k).toArray) g (shp k) 57) := a1.setRow
  have L1 : Hid (Blk (w2.setRow g (shp k).toArray) g0 (kcs I q seed (k : Int)) 26) := (E1.out.below a3 (by omega)).setRowOther (by omega)
  have L2 : Hid (Blk (w2.setRow g (shp k).toArray) g1 (bys y) 24) := (E2.out.below a3 (by omega)).setRowOther (by omega)
  have L3 : Hid (Blk (w2.setRow g (shp k).toArray) g2 z32 24) := (E3.out.below a3 (by omega)).setRowOther (by omega)
  have LB : Hid (Below w.heap.size w (w2.setRow g (shp k).toArray)) := below_setRow' (EB.out.trans (a3.mono (by omega))) (by omega) _
  have hs3 : g < (w2.setRow g (shp k).toArray).heap.size := L0.out.lt
  clear a1 a2 a3 E1 E2 E3 EB hg
  go_wp2_with (first | (refine wpList_store_blk rfl 57 _ _ rfl g (shp k) shp0 57 rfl rfl A1.out s57 rfl (shp_one k) ?_) | (refine wpList_load_blkU rfl 57 _ rfl g rfl (shp k) 57 L0.out d57 HU.out HD.out s57 ?_))
  refine (hasDigit_out k i _ HK.out HIN.out).mono ?_
  rintro e w3 ⟨rfl, hb⟩
  have M0 : Hid (Blk w3 g (shp k) 57) := L0.out.below hb (by omega)
  have M1 : Hid (Blk w3 g0 (kcs I q seed (k : Int)) 26) := L1.out.below hb (by omega)
  have M2 : Hid (Blk w3 g1 (bys y) 24) := L2.out.below hb (by omega)
  have M3 : Hid (Blk w3 g2 z32 24) := L3.out.below hb (by omega)
  have MB : Hid (Below w.heap.size w w3) := LB.out.trans (hb.mono LB.out.size)
  clear hb L0 L1 L2 L3 LB A1 hs1 hs3
  go_wp2
  refine wp_goto ⟨rfl, ?_⟩
  go_wp2_with (first | (refine wpList_store_blk rfl 24 _ _ rfl g2 z32 z32 24 rfl rfl M3.out s24 rfl (bys_one' _) ?_) | (refine wpList_buildTo rfl 24 _ rfl (some 51) rfl z32.toArray (by kernel_rfl) ?_))
  rw [Exit.noGoto_ret]
  refine bodyPost_ret (v := .tuple #[.agg z32.toArray, .int .i64 1]) ?_ rfl ?_
  · exact ret_blk2 rfl _ _ g2 24 z32 _ rfl rfl M3.out.setRow 32 5 tu24 s24
  · exact ⟨rfl, below_setRow' MB.out (by omega) _⟩

set_option maxRecDepth 100000 in
set_option maxHeartbeats 1000000 in
theorem chainX_neg (I seed y : List UInt8) (q k i : Nat) (a b : Int) (w : World) (hI : I.length = 16) (hs : seed.length = 32) (hk : Wd k) (hi : i < mny k) (ha : a < 0) :
    Calls Try.prog 12 #[.agg (kcs I q seed (k : Int)).toArray, .int .i64 (i : Int), .int .i64 a, .int .i64 b, .agg (bys y).toArray] w (TwoD (.agg z32.toArray) (.int .i64 1) w) := by
  have HI := Lib.hid hI
  have HS := Lib.hid hs
  have HK := Lib.hid hk
  have HIN := Lib.hid hi
  clear hI hs hk hi
  obtain ⟨d57, hu57, hd57⟩ := row57
  have HU := Lib.hid hu57
  have HD := Lib.hid hd57
  clear hu57 hd57
  go_enter Try.func12, Try.ntmps12
  go_wp2_with (refine wpList_box_blk rfl 26 _ rfl (kcs I q seed (k : Int)) rfl ?_)
  intro v1 a1 a2 a3
  have A1 := Lib.hid a1
  have A2 := Lib.hid a2
  have A3 := Lib.hid a3
  clear a1 a2 a3
  go_wp2_with (refine wpList_box_blk rfl 24 _ rfl (bys y) rfl ?_)
  intro v2 a1 a2 a3
  rw [A2.out] at a1 a2 a3 ⊢
  have P1 : Hid (Blk v2 w.heap.size (kcs I q seed (k : Int)) 26) := A1.out.below a3 (by omega)
  have P2 : Hid (Blk v2 (w.heap.size + 1) (bys y) 24) := a1
  have PB : Hid (Below w.heap.size w v2) := A3.out.trans (a3.mono (by omega))
  have PS := Lib.hid a2
  clear a1 a2 a3 A1 A2 A3
  go_wp2_with (refine wpList_alloc_blk rfl 24 rfl _ z24 ?_)
  intro v3 a1 a2 a3
  rw [PS.out] at a1 a2 a3 ⊢
  obtain ⟨g0, hg0⟩ : ∃ g, w.heap.size = g := ⟨_, rfl⟩
  obtain ⟨g1, hg1⟩ : ∃ g, g0 + 1 = g := ⟨_, rfl⟩
  obtain ⟨g2, hg2⟩ : ∃ g, g1 + 1 = g := ⟨_, rfl⟩
  have G1 : Hid (Blk v3 g0 (kcs I q seed (k : Int)) 26) := by rw [← hg0]; exact P1.out.below a3 (by omega)
  have G2 : Hid (Blk v3 g1 (bys y) 24) := by rw [← hg1, ← hg0]; exact P2.out.below a3 (by omega)
  have G3 : Hid (Blk v3 g2 z32 24) := by rw [← hg2, ← hg1, ← hg0]; exact a1
  have GB : Hid (Below w.heap.size w v3) := PB.out.trans (a3.mono (by omega))
  have hwg : w.heap.size ≤ g0 := by omega
  have hg01 : g0 < g1 := by omega
  have hg12 : g1 < g2 := by omega
  have hs2 : g2 < v3.heap.size := by omega
  rw [hg0, hg1, hg2]
  clear a1 a2 a3 P1 P2 PB PS hg0 hg1 hg2
  go_wp2
  refine wp_scope_goto 0 rfl ?_
  have cw := (G1.out.cell 49).trans (kcs_z I seed q (k : Int) HI.out HS.out)
  go_wp2_with fail
  clear cw
  refine (shapeOf_yes k _ HK.out).mono ?_
  rintro e w1 ⟨rfl, hb⟩
  have E1 : Hid (Blk w1 g0 (kcs I q seed (k : Int)) 26) := G1.out.below hb (by omega)
  have E2 : Hid (Blk w1 g1 (bys y) 24) := G2.out.below hb (by omega)
  have E3 : Hid (Blk w1 g2 z32 24) := G3.out.below hb (by omega)
  have EB : Hid (Below w.heap.size w w1) := GB.out.trans (hb.mono (by omega))
  have hs1 : g2 < w1.heap.size := Nat.lt_of_lt_of_le hs2 hb.size
  clear hb G1 G2 G3 GB hs2
  go_wp2_with (first | (refine wpList_alloc_blk rfl 57 rfl _ zi57 ?_))
  intro w2 a1 a2 a3
  obtain ⟨g, hg⟩ : ∃ g, w1.heap.size = g := ⟨_, rfl⟩
  rw [hg] at a1 a2 a3 hs1 ⊢
  have A1 := Lib.hid a1
  have L0 : Hid (Blk (w2.setRow g (shp k).toArray) g (shp k) 57) := a1.setRow
  have L1 : Hid (Blk (w2.setRow g (shp k).toArray) g0 (kcs I q seed (k : Int)) 26) := (E1.out.below a3 (by omega)).setRowOther (by omega)
  have L2 : Hid (Blk (w2.setRow g (shp k).toArray) g1 (bys y) 24) := (E2.out.below a3 (by omega)).setRowOther (by omega)
  have L3 : Hid (Blk (w2.setRow g (shp k).toArray) g2 z32 24) := (E3.out.below a3 (by omega)).setRowOther (by omega)
  have LB : Hid (Below w.heap.size w (w2.setRow g (shp k).toArray)) := below_setRow' (EB.out.trans (a3.mono (by omega))) (by omega) _
  have hs3 : g < (w2.setRow g (shp k).toArray).heap.size := L0.out.lt
  clear a1 a2 a3 E1 E2 E3 EB hg
  go_wp2_with (first | (refine wpList_store_blk rfl 57 _ _ rfl g (shp k) shp0 57 rfl rfl A1.out s57 rfl (shp_one k) ?_) | (refine wpList_load_blkU rfl 57 _ rfl g rfl (shp k) 57 L0.out d57 HU.out HD.out s57 ?_))
  refine (hasDigit_in k i _ HK.out HIN.out).mono ?_
  rintro e w3 ⟨rfl, hb⟩
  have M0 : Hid (Blk w3 g (shp k) 57) := L0.out.below hb (by omega)
  have M1 : Hid (Blk w3 g0 (kcs I q seed (k : Int)) 26) := L1.out.below hb (by omega)
  have M2 : Hid (Blk w3 g1 (bys y) 24) := L2.out.below hb (by omega)
  have M3 : Hid (Blk w3 g2 z32 24) := L3.out.below hb (by omega)
  have MB : Hid (Below w.heap.size w w3) := LB.out.trans (hb.mono LB.out.size)
  clear hb L0 L1 L2 L3 LB A1 hs1 hs3
  go_wp2
  refine wp_goto ⟨rfl, ?_⟩
  go_wp2_with (first | (refine wpList_store_blk rfl 24 _ _ rfl g2 z32 z32 24 rfl rfl M3.out s24 rfl (bys_one' _) ?_) | (refine wpList_buildTo rfl 24 _ rfl (some 51) rfl z32.toArray (by kernel_rfl) ?_))
  rw [Exit.noGoto_ret]
  refine bodyPost_ret (v := .tuple #[.agg z32.toArray, .int .i64 1]) ?_ rfl ?_
  · exact ret_blk2 rfl _ _ g2 24 z32 _ rfl rfl M3.out.setRow 32 5 tu24 s24
  · exact ⟨rfl, below_setRow' MB.out (by omega) _⟩

set_option maxRecDepth 100000 in
set_option maxHeartbeats 1000000 in
theorem chainX_rev (I seed y : List UInt8) (q k i : Nat) (a b : Int) (w : World) (hI : I.length = 16) (hs : seed.length = 32) (hk : Wd k) (hi : i < mny k) (ha : 0 ≤ a) (hab : b < a) :
    Calls Try.prog 12 #[.agg (kcs I q seed (k : Int)).toArray, .int .i64 (i : Int), .int .i64 a, .int .i64 b, .agg (bys y).toArray] w (TwoD (.agg z32.toArray) (.int .i64 1) w) := by
  have HI := Lib.hid hI
  have HS := Lib.hid hs
  have HK := Lib.hid hk
  have HIN := Lib.hid hi
  have na : ¬ a < 0 := by omega
  clear hI hs hk hi
  obtain ⟨d57, hu57, hd57⟩ := row57
  have HU := Lib.hid hu57
  have HD := Lib.hid hd57
  clear hu57 hd57
  go_enter Try.func12, Try.ntmps12
  go_wp2_with (refine wpList_box_blk rfl 26 _ rfl (kcs I q seed (k : Int)) rfl ?_)
  intro v1 a1 a2 a3
  have A1 := Lib.hid a1
  have A2 := Lib.hid a2
  have A3 := Lib.hid a3
  clear a1 a2 a3
  go_wp2_with (refine wpList_box_blk rfl 24 _ rfl (bys y) rfl ?_)
  intro v2 a1 a2 a3
  rw [A2.out] at a1 a2 a3 ⊢
  have P1 : Hid (Blk v2 w.heap.size (kcs I q seed (k : Int)) 26) := A1.out.below a3 (by omega)
  have P2 : Hid (Blk v2 (w.heap.size + 1) (bys y) 24) := a1
  have PB : Hid (Below w.heap.size w v2) := A3.out.trans (a3.mono (by omega))
  have PS := Lib.hid a2
  clear a1 a2 a3 A1 A2 A3
  go_wp2_with (refine wpList_alloc_blk rfl 24 rfl _ z24 ?_)
  intro v3 a1 a2 a3
  rw [PS.out] at a1 a2 a3 ⊢
  obtain ⟨g0, hg0⟩ : ∃ g, w.heap.size = g := ⟨_, rfl⟩
  obtain ⟨g1, hg1⟩ : ∃ g, g0 + 1 = g := ⟨_, rfl⟩
  obtain ⟨g2, hg2⟩ : ∃ g, g1 + 1 = g := ⟨_, rfl⟩
  have G1 : Hid (Blk v3 g0 (kcs I q seed (k : Int)) 26) := by rw [← hg0]; exact P1.out.below a3 (by omega)
  have G2 : Hid (Blk v3 g1 (bys y) 24) := by rw [← hg1, ← hg0]; exact P2.out.below a3 (by omega)
  have G3 : Hid (Blk v3 g2 z32 24) := by rw [← hg2, ← hg1, ← hg0]; exact a1
  have GB : Hid (Below w.heap.size w v3) := PB.out.trans (a3.mono (by omega))
  have hwg : w.heap.size ≤ g0 := by omega
  have hg01 : g0 < g1 := by omega
  have hg12 : g1 < g2 := by omega
  have hs2 : g2 < v3.heap.size := by omega
  rw [hg0, hg1, hg2]
  clear a1 a2 a3 P1 P2 PB PS hg0 hg1 hg2
  go_wp2
  refine wp_scope_goto 0 rfl ?_
  have cw := (G1.out.cell 49).trans (kcs_z I seed q (k : Int) HI.out HS.out)
  go_wp2_with fail
  clear cw
  refine (shapeOf_yes k _ HK.out).mono ?_
  rintro e w1 ⟨rfl, hb⟩
  have E1 : Hid (Blk w1 g0 (kcs I q seed (k : Int)) 26) := G1.out.below hb (by omega)
  have E2 : Hid (Blk w1 g1 (bys y) 24) := G2.out.below hb (by omega)
  have E3 : Hid (Blk w1 g2 z32 24) := G3.out.below hb (by omega)
  have EB : Hid (Below w.heap.size w w1) := GB.out.trans (hb.mono (by omega))
  have hs1 : g2 < w1.heap.size := Nat.lt_of_lt_of_le hs2 hb.size
  clear hb G1 G2 G3 GB hs2
  go_wp2_with (first | (refine wpList_alloc_blk rfl 57 rfl _ zi57 ?_))
  intro w2 a1 a2 a3
  obtain ⟨g, hg⟩ : ∃ g, w1.heap.size = g := ⟨_, rfl⟩
  rw [hg] at a1 a2 a3 hs1 ⊢
  have A1 := Lib.hid a1
  have L0 : Hid (Blk (w2.setRow g (shp k).toArray) g (shp k) 57) := a1.setRow
  have L1 : Hid (Blk (w2.setRow g (shp k).toArray) g0 (kcs I q seed (k : Int)) 26) := (E1.out.below a3 (by omega)).setRowOther (by omega)
  have L2 : Hid (Blk (w2.setRow g (shp k).toArray) g1 (bys y) 24) := (E2.out.below a3 (by omega)).setRowOther (by omega)
  have L3 : Hid (Blk (w2.setRow g (shp k).toArray) g2 z32 24) := (E3.out.below a3 (by omega)).setRowOther (by omega)
  have LB : Hid (Below w.heap.size w (w2.setRow g (shp k).toArray)) := below_setRow' (EB.out.trans (a3.mono (by omega))) (by omega) _
  have hs3 : g < (w2.setRow g (shp k).toArray).heap.size := L0.out.lt
  clear a1 a2 a3 E1 E2 E3 EB hg
  go_wp2_with (first | (refine wpList_store_blk rfl 57 _ _ rfl g (shp k) shp0 57 rfl rfl A1.out s57 rfl (shp_one k) ?_) | (refine wpList_load_blkU rfl 57 _ rfl g rfl (shp k) 57 L0.out d57 HU.out HD.out s57 ?_))
  refine (hasDigit_in k i _ HK.out HIN.out).mono ?_
  rintro e w3 ⟨rfl, hb⟩
  have M0 : Hid (Blk w3 g (shp k) 57) := L0.out.below hb (by omega)
  have M1 : Hid (Blk w3 g0 (kcs I q seed (k : Int)) 26) := L1.out.below hb (by omega)
  have M2 : Hid (Blk w3 g1 (bys y) 24) := L2.out.below hb (by omega)
  have M3 : Hid (Blk w3 g2 z32 24) := L3.out.below hb (by omega)
  have MB : Hid (Below w.heap.size w w3) := LB.out.trans (hb.mono LB.out.size)
  clear hb L0 L1 L2 L3 LB A1 hs1 hs3
  go_wp2
  refine wp_goto ⟨rfl, ?_⟩
  go_wp2_with (first | (refine wpList_store_blk rfl 24 _ _ rfl g2 z32 z32 24 rfl rfl M3.out s24 rfl (bys_one' _) ?_) | (refine wpList_buildTo rfl 24 _ rfl (some 51) rfl z32.toArray (by kernel_rfl) ?_))
  rw [Exit.noGoto_ret]
  refine bodyPost_ret (v := .tuple #[.agg z32.toArray, .int .i64 1]) ?_ rfl ?_
  · exact ret_blk2 rfl _ _ g2 24 z32 _ rfl rfl M3.out.setRow 32 5 tu24 s24
  · exact ⟨rfl, below_setRow' MB.out (by omega) _⟩

set_option maxRecDepth 100000 in
set_option maxHeartbeats 1000000 in
theorem chainX_far (I seed y : List UInt8) (q k i : Nat) (a b : Int) (w : World) (hI : I.length = 16) (hs : seed.length = 32) (hk : Wd k) (hi : i < mny k) (ha : 0 ≤ a) (hab : a ≤ b) (hbl : (gr k : Int) < b) :
    Calls Try.prog 12 #[.agg (kcs I q seed (k : Int)).toArray, .int .i64 (i : Int), .int .i64 a, .int .i64 b, .agg (bys y).toArray] w (TwoD (.agg z32.toArray) (.int .i64 1) w) := by
  have HI := Lib.hid hI
  have HS := Lib.hid hs
  have HK := Lib.hid hk
  have HIN := Lib.hid hi
  obtain ⟨G, hG⟩ : ∃ G, gr k = G := ⟨_, rfl⟩
  have HG : Hid ((shp k)[2]? = some (.int .i64 (G : Int))) := by show _ = _; rw [← hG]; rfl
  rw [hG] at hbl
  clear hG
  have na : ¬ a < 0 := by omega
  have nab : ¬ b < a := by omega
  clear hI hs hk hi
  obtain ⟨d57, hu57, hd57⟩ := row57
  have HU := Lib.hid hu57
  have HD := Lib.hid hd57
  clear hu57 hd57
  go_enter Try.func12, Try.ntmps12
  go_wp2_with (refine wpList_box_blk rfl 26 _ rfl (kcs I q seed (k : Int)) rfl ?_)
  intro v1 a1 a2 a3
  have A1 := Lib.hid a1
  have A2 := Lib.hid a2
  have A3 := Lib.hid a3
  clear a1 a2 a3
  go_wp2_with (refine wpList_box_blk rfl 24 _ rfl (bys y) rfl ?_)
  intro v2 a1 a2 a3
  rw [A2.out] at a1 a2 a3 ⊢
  have P1 : Hid (Blk v2 w.heap.size (kcs I q seed (k : Int)) 26) := A1.out.below a3 (by omega)
  have P2 : Hid (Blk v2 (w.heap.size + 1) (bys y) 24) := a1
  have PB : Hid (Below w.heap.size w v2) := A3.out.trans (a3.mono (by omega))
  have PS := Lib.hid a2
  clear a1 a2 a3 A1 A2 A3
  go_wp2_with (refine wpList_alloc_blk rfl 24 rfl _ z24 ?_)
  intro v3 a1 a2 a3
  rw [PS.out] at a1 a2 a3 ⊢
  obtain ⟨g0, hg0⟩ : ∃ g, w.heap.size = g := ⟨_, rfl⟩
  obtain ⟨g1, hg1⟩ : ∃ g, g0 + 1 = g := ⟨_, rfl⟩
  obtain ⟨g2, hg2⟩ : ∃ g, g1 + 1 = g := ⟨_, rfl⟩
  have G1 : Hid (Blk v3 g0 (kcs I q seed (k : Int)) 26) := by rw [← hg0]; exact P1.out.below a3 (by omega)
  have G2 : Hid (Blk v3 g1 (bys y) 24) := by rw [← hg1, ← hg0]; exact P2.out.below a3 (by omega)
  have G3 : Hid (Blk v3 g2 z32 24) := by rw [← hg2, ← hg1, ← hg0]; exact a1
  have GB : Hid (Below w.heap.size w v3) := PB.out.trans (a3.mono (by omega))
  have hwg : w.heap.size ≤ g0 := by omega
  have hg01 : g0 < g1 := by omega
  have hg12 : g1 < g2 := by omega
  have hs2 : g2 < v3.heap.size := by omega
  rw [hg0, hg1, hg2]
  clear a1 a2 a3 P1 P2 PB PS hg0 hg1 hg2
  go_wp2
  refine wp_scope_goto 0 rfl ?_
  have cw := (G1.out.cell 49).trans (kcs_z I seed q (k : Int) HI.out HS.out)
  go_wp2_with fail
  clear cw
  refine (shapeOf_yes k _ HK.out).mono ?_
  rintro e w1 ⟨rfl, hb⟩
  have E1 : Hid (Blk w1 g0 (kcs I q seed (k : Int)) 26) := G1.out.below hb (by omega)
  have E2 : Hid (Blk w1 g1 (bys y) 24) := G2.out.below hb (by omega)
  have E3 : Hid (Blk w1 g2 z32 24) := G3.out.below hb (by omega)
  have EB : Hid (Below w.heap.size w w1) := GB.out.trans (hb.mono (by omega))
  have hs1 : g2 < w1.heap.size := Nat.lt_of_lt_of_le hs2 hb.size
  clear hb G1 G2 G3 GB hs2
  go_wp2_with (first | (refine wpList_alloc_blk rfl 57 rfl _ zi57 ?_))
  intro w2 a1 a2 a3
  obtain ⟨g, hg⟩ : ∃ g, w1.heap.size = g := ⟨_, rfl⟩
  rw [hg] at a1 a2 a3 hs1 ⊢
  have A1 := Lib.hid a1
  have L0 : Hid (Blk (w2.setRow g (shp k).toArray) g (shp k) 57) := a1.setRow
  have L1 : Hid (Blk (w2.setRow g (shp k).toArray) g0 (kcs I q seed (k : Int)) 26) := (E1.out.below a3 (by omega)).setRowOther (by omega)
  have L2 : Hid (Blk (w2.setRow g (shp k).toArray) g1 (bys y) 24) := (E2.out.below a3 (by omega)).setRowOther (by omega)
  have L3 : Hid (Blk (w2.setRow g (shp k).toArray) g2 z32 24) := (E3.out.below a3 (by omega)).setRowOther (by omega)
  have LB : Hid (Below w.heap.size w (w2.setRow g (shp k).toArray)) := below_setRow' (EB.out.trans (a3.mono (by omega))) (by omega) _
  have hs3 : g < (w2.setRow g (shp k).toArray).heap.size := L0.out.lt
  clear a1 a2 a3 E1 E2 E3 EB hg
  go_wp2_with (first | (refine wpList_store_blk rfl 57 _ _ rfl g (shp k) shp0 57 rfl rfl A1.out s57 rfl (shp_one k) ?_) | (refine wpList_load_blkU rfl 57 _ rfl g rfl (shp k) 57 L0.out d57 HU.out HD.out s57 ?_))
  refine (hasDigit_in k i _ HK.out HIN.out).mono ?_
  rintro e w3 ⟨rfl, hb⟩
  have M0 : Hid (Blk w3 g (shp k) 57) := L0.out.below hb (by omega)
  have M1 : Hid (Blk w3 g0 (kcs I q seed (k : Int)) 26) := L1.out.below hb (by omega)
  have M2 : Hid (Blk w3 g1 (bys y) 24) := L2.out.below hb (by omega)
  have M3 : Hid (Blk w3 g2 z32 24) := L3.out.below hb (by omega)
  have MB : Hid (Below w.heap.size w w3) := LB.out.trans (hb.mono LB.out.size)
  clear hb L0 L1 L2 L3 LB A1 hs1 hs3
  have c2 := (M0.out.cell 2).trans HG.out
  go_wp2
  refine wp_goto ⟨rfl, ?_⟩
  clear c2
  go_wp2_with (first | (refine wpList_store_blk rfl 24 _ _ rfl g2 z32 z32 24 rfl rfl M3.out s24 rfl (bys_one' _) ?_) | (refine wpList_buildTo rfl 24 _ rfl (some 51) rfl z32.toArray (by kernel_rfl) ?_))
  rw [Exit.noGoto_ret]
  refine bodyPost_ret (v := .tuple #[.agg z32.toArray, .int .i64 1]) ?_ rfl ?_
  · exact ret_blk2 rfl _ _ g2 24 z32 _ rfl rfl M3.out.setRow 32 5 tu24 s24
  · exact ⟨rfl, below_setRow' MB.out (by omega) _⟩

set_option maxRecDepth 100000 in
set_option maxHeartbeats 1000000 in
theorem chainX_yes (I seed y : List UInt8) (q k i a n : Nat) (w : World) (hI : I.length = 16) (hs : seed.length = 32) (hy : y.length = 32) (hq : q < 4294967296) (hk : Wd k) (hi : i < mny k) (hn : a + n ≤ gr k) :
    Calls Try.prog 12 #[.agg (kcs I q seed (k : Int)).toArray, .int .i64 (i : Int), .int .i64 (a : Int), .int .i64 ((a + n : Nat) : Int), .agg (bys y).toArray] w (TwoD (.agg (bys (chn (pre20 I q) i a n y)).toArray) (.int .i64 0) w) := by
  have HI := Lib.hid hI
  have HS := Lib.hid hs
  have HK := Lib.hid hk
  have HIN := Lib.hid hi
  have HY := Lib.hid hy
  have hm := mny_le k hk
  obtain ⟨_, _, _, hG5⟩ := hk.le
  obtain ⟨G, hG⟩ : ∃ G, gr k = G := ⟨_, rfl⟩
  have HG : Hid ((shp k)[2]? = some (.int .i64 (G : Int))) := by show _ = _; rw [← hG]; rfl
  rw [hG] at hn hG5
  obtain ⟨T, hT⟩ : ∃ T, a + n = T := ⟨_, rfl⟩
  have HT := Lib.hid hT
  have hi2 : i < 65536 := by omega
  have haT : a ≤ T := by omega
  rw [hT] at hn ⊢
  have H22 : Hid ((Try.prog.info? 22).map (·.size) = some (bys I).length) := by show _ = _; rw [bys_length, hI]; exact s22
  have H24 : Hid ((Try.prog.info? 24).map (·.size) = some (bys (chn (pre20 I q) i a n y)).length) := by show _ = _; rw [bys_length, chn_length _ _ _ _ _ hy]; exact s24
  have H24y : Hid ((Try.prog.info? 24).map (·.size) = some (bys y).length) := by show _ = _; rw [bys_length, hy]; exact s24
  have HLZ : Hid (z32.length = (bys (chn (pre20 I q) i a n y)).length) := by show _ = _; rw [bys_length, chn_length _ _ _ _ _ hy, z32_length]
  clear hI hs hk hi hy hm hG hT
  obtain ⟨d57, hu57, hd57⟩ := row57
  have HU := Lib.hid hu57
  have HD := Lib.hid hd57
  clear hu57 hd57
  go_enter Try.func12, Try.ntmps12
  go_wp2_with (refine wpList_box_blk rfl 26 _ rfl (kcs I q seed (k : Int)) rfl ?_)
  intro v1 a1 a2 a3
  have A1 := Lib.hid a1
  have A2 := Lib.hid a2
  have A3 := Lib.hid a3
  clear a1 a2 a3
  go_wp2_with (refine wpList_box_blk rfl 24 _ rfl (bys y) rfl ?_)
  intro v2 a1 a2 a3
  rw [A2.out] at a1 a2 a3 ⊢
  have P1 : Hid (Blk v2 w.heap.size (kcs I q seed (k : Int)) 26) := A1.out.below a3 (by omega)
  have P2 : Hid (Blk v2 (w.heap.size + 1) (bys y) 24) := a1
  have PB : Hid (Below w.heap.size w v2) := A3.out.trans (a3.mono (by omega))
  have PS := Lib.hid a2
  clear a1 a2 a3 A1 A2 A3
  go_wp2_with (refine wpList_alloc_blk rfl 24 rfl _ z24 ?_)
  intro v3 a1 a2 a3
  rw [PS.out] at a1 a2 a3 ⊢
  obtain ⟨g0, hg0⟩ : ∃ g, w.heap.size = g := ⟨_, rfl⟩
  obtain ⟨g1, hg1⟩ : ∃ g, g0 + 1 = g := ⟨_, rfl⟩
  obtain ⟨g2, hg2⟩ : ∃ g, g1 + 1 = g := ⟨_, rfl⟩
  have G1 : Hid (Blk v3 g0 (kcs I q seed (k : Int)) 26) := by rw [← hg0]; exact P1.out.below a3 (by omega)
  have G2 : Hid (Blk v3 g1 (bys y) 24) := by rw [← hg1, ← hg0]; exact P2.out.below a3 (by omega)
  have G3 : Hid (Blk v3 g2 z32 24) := by rw [← hg2, ← hg1, ← hg0]; exact a1
  have GB : Hid (Below w.heap.size w v3) := PB.out.trans (a3.mono (by omega))
  have hwg : w.heap.size ≤ g0 := by omega
  have hg01 : g0 < g1 := by omega
  have hg12 : g1 < g2 := by omega
  have hs2 : g2 < v3.heap.size := by omega
  rw [hg0, hg1, hg2]
  clear a1 a2 a3 P1 P2 PB PS hg0 hg1 hg2
  go_wp2
  refine wp_scope_goto 0 rfl ?_
  have cw := (G1.out.cell 49).trans (kcs_z I seed q (k : Int) HI.out HS.out)
  go_wp2_with fail
  clear cw
  refine (shapeOf_yes k _ HK.out).mono ?_
  rintro e w1 ⟨rfl, hb⟩
  have E1 : Hid (Blk w1 g0 (kcs I q seed (k : Int)) 26) := G1.out.below hb (by omega)
  have E2 : Hid (Blk w1 g1 (bys y) 24) := G2.out.below hb (by omega)
  have E3 : Hid (Blk w1 g2 z32 24) := G3.out.below hb (by omega)
  have EB : Hid (Below w.heap.size w w1) := GB.out.trans (hb.mono (by omega))
  have hs1 : g2 < w1.heap.size := Nat.lt_of_lt_of_le hs2 hb.size
  clear hb G1 G2 G3 GB hs2
  go_wp2_with (first | (refine wpList_alloc_blk rfl 57 rfl _ zi57 ?_))
  intro w2 a1 a2 a3
  obtain ⟨g, hg⟩ : ∃ g, w1.heap.size = g := ⟨_, rfl⟩
  rw [hg] at a1 a2 a3 hs1 ⊢
  have A1 := Lib.hid a1
  have L0 : Hid (Blk (w2.setRow g (shp k).toArray) g (shp k) 57) := a1.setRow
  have L1 : Hid (Blk (w2.setRow g (shp k).toArray) g0 (kcs I q seed (k : Int)) 26) := (E1.out.below a3 (by omega)).setRowOther (by omega)
  have L2 : Hid (Blk (w2.setRow g (shp k).toArray) g1 (bys y) 24) := (E2.out.below a3 (by omega)).setRowOther (by omega)
  have L3 : Hid (Blk (w2.setRow g (shp k).toArray) g2 z32 24) := (E3.out.below a3 (by omega)).setRowOther (by omega)
  have LB : Hid (Below w.heap.size w (w2.setRow g (shp k).toArray)) := below_setRow' (EB.out.trans (a3.mono (by omega))) (by omega) _
  have hs3 : g < (w2.setRow g (shp k).toArray).heap.size := L0.out.lt
  clear a1 a2 a3 E1 E2 E3 EB hg
  go_wp2_with (first | (refine wpList_store_blk rfl 57 _ _ rfl g (shp k) shp0 57 rfl rfl A1.out s57 rfl (shp_one k) ?_) | (refine wpList_load_blkU rfl 57 _ rfl g rfl (shp k) 57 L0.out d57 HU.out HD.out s57 ?_))
  refine (hasDigit_in k i _ HK.out HIN.out).mono ?_
  rintro e w3 ⟨rfl, hb⟩
  have M0 : Hid (Blk w3 g (shp k) 57) := L0.out.below hb (by omega)
  have M1 : Hid (Blk w3 g0 (kcs I q seed (k : Int)) 26) := L1.out.below hb (by omega)
  have M2 : Hid (Blk w3 g1 (bys y) 24) := L2.out.below hb (by omega)
  have M3 : Hid (Blk w3 g2 z32 24) := L3.out.below hb (by omega)
  have MB : Hid (Below w.heap.size w w3) := LB.out.trans (hb.mono LB.out.size)
  clear hb L0 L1 L2 L3 LB A1 hs1 hs3
  have c2 := (M0.out.cell 2).trans HG.out
  have n1 : decide ((a : Int) < 0) = false := by simp
  have n2 : decide (T < a) = false := by simp; omega
  have n3 : decide (G < T) = false := by simp; omega
  go_wp2
  clear c2
  have hw0 : g0 < w3.heap.size := M1.out.lt
  have hw1 : g1 < w3.heap.size := M2.out.lt
  have hw2 : g2 < w3.heap.size := M3.out.lt
  refine wp_region_rely2 10 2 (fun x => ⟨#[Value.agg (kcs I q seed ↑k).toArray, Value.int IntKind.i64 ↑i, Value.int IntKind.i64 ↑a, Value.int IntKind.i64 ↑T, Value.agg (bys y).toArray, Value.pointer (some { block := g0, off := 0 }), undef, undef, undef, Value.pointer (some { block := g1, off := 0 }), Value.pointer (some { block := g2, off := 0 }), Value.int IntKind.i64 0, Value.pointer (some { block := g, off := 0 }), Value.int IntKind.i64 0, Value.tuple #[Value.agg (shp k).toArray, Value.int IntKind.i64 0], Value.pointer (some { block := g0, off := 49 }), Value.int IntKind.i64 ↑k, Value.tuple #[Value.agg (shp k).toArray, Value.int IntKind.i64 0], Value.agg (shp k).toArray, Value.int IntKind.i64 0, Value.int IntKind.i64 0, Value.bool false, Value.agg (shp k).toArray, Value.int IntKind.i64 ↑i, Value.bool true, Value.bool false, Value.bool false, Value.int IntKind.i64 ↑a, Value.bool false, Value.bool false, Value.bool false, Value.int IntKind.i64 ↑a, Value.int IntKind.i64 ↑T, Value.bool false, Value.bool false, Value.bool false, Value.int IntKind.i64 ↑T, Value.pointer (some { block := g, off := 2 }), Value.int IntKind.i64 ↑G, Value.bool false, Value.bool false, x 0, x 1, x 2, x 3, x 4, x 5, x 6, x 7, x 8, x 9, undef, undef], []⟩) (fun jj => ([eqV (.pointer (some ⟨g0, 0, none⟩)), eqV (.agg (bys I).toArray), eqV (.pointer (some ⟨g0, 16, none⟩)), eqV (.int .u32 (q : Int)), (eqV (.agg (bys (pre20 I q)).toArray)), eqV (.int .i64 (i : Int)), eqV (.int .i64 (a : Int)), eqV (.int .i64 (T : Int)), eqV (.agg (bys y).toArray), (eqV (.agg (bys (chn (pre20 I q) i a n y)).toArray))] : List (Value → World → Prop)).getD jj (fun _ _ => True)) rfl ⟨fun kk => [_, _, _, _, _, _, _, _, _, _].getD kk undef, rfl⟩ (by kernel_rfl) (by kernel_rfl) ?steps ?fin
  case steps =>
    refine StepsAt.val 0 (.pointer (some ⟨g0, 0, none⟩)) rfl (fun _ _ => rfl) rfl rfl (fun x w1 hb hd => ?_) ?_
    · first | (go_simp; done) | (go_simp; rfl)
    refine StepsAt.val 1 (.agg (bys I).toArray) rfl (fun _ _ => rfl) rfl rfl (fun x w1 hb hd => ?_) ?_
    · have h0 : x 0 = .pointer (some ⟨g0, 0, none⟩) := hd 0 (by kernel_rfl)
      exact run_load_mid 22 (.tmp 41) rfl g0 0 (by exact h0) (bys I) (kcs_rangeI (M1.out.below hb hw0)) 16 5 tu22 H22.out
    refine StepsAt.val 2 (.pointer (some ⟨g0, 16, none⟩)) rfl (fun _ _ => rfl) rfl rfl (fun x w1 hb hd => ?_) ?_
    · first | (go_simp; done) | (go_simp; rfl)
    refine StepsAt.val 3 (.int .u32 (q : Int)) rfl (fun _ _ => rfl) rfl rfl (fun x w1 hb hd => ?_) ?_
    · have h2 : x 2 = .pointer (some ⟨g0, 16, none⟩) := hd 2 (by kernel_rfl)
      have c := ((M1.out.below hb hw0).cell 16).trans (kcs_q I seed q (k : Int) HI.out)
      rw [h2]
      first | (go_simp; done) | (go_simp; rfl)
    refine StepsAt.cons 4 (fun _ _ _ h hb => h) (fun _ _ => rfl) rfl rfl (fun x w1 hb hd K hK => ?_) ?_
    · have h1 : Hid (x 1 = .agg (bys I).toArray) := hd 1 (by kernel_rfl)
      have h3 : Hid (x 3 = .int .u32 (q : Int)) := hd 3 (by kernel_rfl)
      go_simp
      refine calls_args (args2 := #[.agg (bys I).toArray, .int .u32 (q : Int)]) (by rw [h1.out, h3.out]) ?_
      refine (prefixOf_any I q _ HI.out hq).mono ?_
      rintro e w2 ⟨rfl, hb2⟩
      exact hK.out _ _ hb2 rfl
    refine StepsAt.val 5 (.int .i64 (i : Int)) rfl (fun _ _ => rfl) rfl rfl (fun x w1 hb hd => ?_) ?_
    · first | (go_simp; done) | (go_simp; rfl)
    refine StepsAt.val 6 (.int .i64 (a : Int)) rfl (fun _ _ => rfl) rfl rfl (fun x w1 hb hd => ?_) ?_
    · first | (go_simp; done) | (go_simp; rfl)
    refine StepsAt.val 7 (.int .i64 (T : Int)) rfl (fun _ _ => rfl) rfl rfl (fun x w1 hb hd => ?_) ?_
    · first | (go_simp; done) | (go_simp; rfl)
    refine StepsAt.val 8 (.agg (bys y).toArray) rfl (fun _ _ => rfl) rfl rfl (fun x w1 hb hd => ?_) ?_
    · exact run_load_blk 24 (.tmp 9) rfl g1 rfl (bys y) 24 (M2.out.below hb hw1) 32 5 tu24 H24y.out
    refine StepsAt.cons 9 (fun _ _ _ h hb => h) (fun _ _ => rfl) rfl rfl (fun x w1 hb hd K hK => ?_) ?_
    · have h4 : Hid (x 4 = .agg (bys (pre20 I q)).toArray) := hd 4 (by kernel_rfl)
      have h5 : Hid (x 5 = .int .i64 (i : Int)) := hd 5 (by kernel_rfl)
      have h6 : Hid (x 6 = .int .i64 (a : Int)) := hd 6 (by kernel_rfl)
      have h7 : Hid (x 7 = .int .i64 (T : Int)) := hd 7 (by kernel_rfl)
      have h8 : Hid (x 8 = .agg (bys y).toArray) := hd 8 (by kernel_rfl)
      go_simp
      refine calls_args (args2 := #[.agg (bys (pre20 I q)).toArray, .int .i64 (i : Int), .int .i64 (a : Int), .int .i64 ((a + n : Nat) : Int), .agg (bys y).toArray]) (by rw [h4.out, h5.out, h6.out, h7.out, h8.out, HT.out]) ?_
      refine (chain_any (pre20 I q) y i a n _ (pre20_length I q HI.out) HY.out hi2 (by have := HT.out; omega)).mono ?_
      rintro e w2 ⟨rfl, hb2⟩
      exact hK.out _ _ hb2 rfl
    exact StepsAt.done
  case fin =>
    intro x w1 hb hd
    have hr : x 9 = .agg (bys (chn (pre20 I q) i a n y)).toArray := hd 9 (by omega)
    refine AnyTill.any (S := fun _ => True) (m := 12) _ _ _ _ ?_
    refine AnyTill.one (i := 10) (by kernel_rfl) rfl (by rfl) (fun K hK => ?_)
    refine wp_store_blk 24 (.tmp 10) (.tmp 50) rfl g2 (bys (chn (pre20 I q) i a n y)) z32 24 rfl hr (M3.out.below hb hw2) H24.out HLZ.out (bys_one' _) ?_
    refine hK.out _ _ (.inr trivial) ?_
    clear hK K
    refine AnyTill.one (i := 11) (by kernel_rfl) rfl (by rfl) (fun K hK => ?_)
    refine hK.out _ _ (.inr trivial) ?_
    clear hK K
    refine AnyTill.done (by kernel_rfl) ?_
    refine NoPanic.normal ?_
    simp only [Act.put, Act.eval, List.setIfInBounds_toArray, List.set_cons_zero, List.set_cons_succ]
    have L0 : Hid (Blk (w1.setRow g2 (bys (chn (pre20 I q) i a n y)).toArray) g2 (bys (chn (pre20 I q) i a n y)) 24) := (M3.out.below hb hw2).setRow
    have LB : Hid (Below w.heap.size w (w1.setRow g2 (bys (chn (pre20 I q) i a n y)).toArray)) := below_setRow' (MB.out.trans (hb.mono MB.out.size)) (by omega) _
    clear hd hr
    go_wp2
    rw [jump_ret]
    refine bodyPost_ret (v := .tuple #[.agg (bys (chn (pre20 I q) i a n y)).toArray, .int .i64 0]) ?_ rfl ?_
    · exact ret_blk2 rfl _ _ g2 24 _ _ rfl rfl L0.out 32 5 tu24 H24.out
    · exact ⟨rfl, LB.out⟩
end Go.Proofs.Ytejeefkoalbcmaa
