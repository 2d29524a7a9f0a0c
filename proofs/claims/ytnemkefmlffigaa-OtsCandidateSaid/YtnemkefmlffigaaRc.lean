/-
  The document's own layer 4: Chain, for every key, every three ints and every hash.
-/
import Derived.Test.YtnemkefmlffigaaRb
namespace Go.Proofs.Ytnemkefmlffigaa
open Go.RowKit

/-- What the loop of the document's Chain keeps. -/
def RChAt (w : World) (I seed : List UInt8) (q k g0 g1 g2 : Nat) (y : List UInt8) (wr : World) : Prop := Blk wr g0 (kcs I q seed (k : Int)) 67 ∧ Blk wr g1 (bys y) 28 ∧ Blk wr g2 z32 28 ∧ Below w.heap.size w wr ∧ y.length = 32

set_option maxRecDepth 100000 in
set_option maxHeartbeats 1000000 in
theorem refChain_neg (I seed y : List UInt8) (q : Nat) (z i a b : Int) (w : World) (hI : I.length = 16) (hs : seed.length = 32) (hi : i < 0) : Calls Try.prog 32 #[.agg (kcs I q seed z).toArray, .int .i64 i, .int .i64 a, .int .i64 b, .agg (bys y).toArray] w (TwoD (.agg z32.toArray) (.int .i64 1) w) := by
  have HI := Lib.hid hI
  have HS := Lib.hid hs
  clear hI hs
  go_enter Try.func32, Try.ntmps32
  go_wp2_with (refine wpList_box_blk rfl 67 _ rfl (kcs I q seed z) rfl ?_)
  intro v1 a1 a2 a3
  have A1 := Lib.hid a1
  have A2 := Lib.hid a2
  have A3 := Lib.hid a3
  clear a1 a2 a3
  go_wp2_with (refine wpList_box_blk rfl 28 _ rfl (bys y) rfl ?_)
  intro v2 a1 a2 a3
  rw [A2.out] at a1 a2 a3 ⊢
  have P1 : Hid (Blk v2 w.heap.size (kcs I q seed z) 67) := A1.out.below a3 (by omega)
  have P2 : Hid (Blk v2 (w.heap.size + 1) (bys y) 28) := a1
  have PB : Hid (Below w.heap.size w v2) := A3.out.trans (a3.mono (by omega))
  have PS := Lib.hid a2
  clear a1 a2 a3 A1 A2 A3
  go_wp2_with (refine wpList_alloc_blk rfl 28 rfl _ z24 ?_)
  intro v3 a1 a2 a3
  rw [PS.out] at a1 a2 a3 ⊢
  obtain ⟨g0, hg0⟩ : ∃ g, w.heap.size = g := ⟨_, rfl⟩
  obtain ⟨g1, hg1⟩ : ∃ g, g0 + 1 = g := ⟨_, rfl⟩
  obtain ⟨g2, hg2⟩ : ∃ g, g1 + 1 = g := ⟨_, rfl⟩
  have G1 : Hid (Blk v3 g0 (kcs I q seed z) 67) := by rw [← hg0]; exact P1.out.below a3 (by omega)
  have G2 : Hid (Blk v3 g1 (bys y) 28) := by rw [← hg1, ← hg0]; exact P2.out.below a3 (by omega)
  have G3 : Hid (Blk v3 g2 z32 28) := by rw [← hg2, ← hg1, ← hg0]; exact a1
  have GB : Hid (Below w.heap.size w v3) := PB.out.trans (a3.mono (by omega))
  have hwg : w.heap.size ≤ g0 := by omega
  have hg01 : g0 < g1 := by omega
  have hg12 : g1 < g2 := by omega
  rw [hg0, hg1, hg2]
  have cw := (G1.out.cell 49).trans (kcs_z I seed q z HI.out HS.out)
  clear a1 a2 a3 P1 P2 PB PS hg0 hg1 hg2
  clear cw
  go_wp2_with (first | (refine wpList_store_blk rfl 28 _ _ rfl g2 z32 z32 28 rfl rfl G3.out s24 rfl (bys_one' _) ?_) | (refine wpList_buildTo rfl 28 _ rfl (some 39) rfl z32.toArray (by kernel_rfl) ?_))
  refine bodyPost_ret (v := .tuple #[.agg z32.toArray, .int .i64 1]) ?_ rfl ?_
  · exact ret_blk2 rfl _ _ g2 28 z32 _ rfl rfl G3.out.setRow 32 5 tu24 s24
  · exact ⟨rfl, below_setRow' GB.out (by omega) _⟩

set_option maxRecDepth 100000 in
set_option maxHeartbeats 1000000 in
theorem refChain_no (I seed y : List UInt8) (q : Nat) (z i a b : Int) (w : World) (hI : I.length = 16) (hs : seed.length = 32) (hk : NoW z) (hi : 0 ≤ i) : Calls Try.prog 32 #[.agg (kcs I q seed z).toArray, .int .i64 i, .int .i64 a, .int .i64 b, .agg (bys y).toArray] w (TwoD (.agg z32.toArray) (.int .i64 1) w) := by
  have HI := Lib.hid hI
  have HS := Lib.hid hs
  have HK := Lib.hid hk
  have ni : decide (i < 0) = false := by simp; omega
  clear hk
  clear hI hs
  go_enter Try.func32, Try.ntmps32
  go_wp2_with (refine wpList_box_blk rfl 67 _ rfl (kcs I q seed z) rfl ?_)
  intro v1 a1 a2 a3
  have A1 := Lib.hid a1
  have A2 := Lib.hid a2
  have A3 := Lib.hid a3
  clear a1 a2 a3
  go_wp2_with (refine wpList_box_blk rfl 28 _ rfl (bys y) rfl ?_)
  intro v2 a1 a2 a3
  rw [A2.out] at a1 a2 a3 ⊢
  have P1 : Hid (Blk v2 w.heap.size (kcs I q seed z) 67) := A1.out.below a3 (by omega)
  have P2 : Hid (Blk v2 (w.heap.size + 1) (bys y) 28) := a1
  have PB : Hid (Below w.heap.size w v2) := A3.out.trans (a3.mono (by omega))
  have PS := Lib.hid a2
  clear a1 a2 a3 A1 A2 A3
  go_wp2_with (refine wpList_alloc_blk rfl 28 rfl _ z24 ?_)
  intro v3 a1 a2 a3
  rw [PS.out] at a1 a2 a3 ⊢
  obtain ⟨g0, hg0⟩ : ∃ g, w.heap.size = g := ⟨_, rfl⟩
  obtain ⟨g1, hg1⟩ : ∃ g, g0 + 1 = g := ⟨_, rfl⟩
  obtain ⟨g2, hg2⟩ : ∃ g, g1 + 1 = g := ⟨_, rfl⟩
  have G1 : Hid (Blk v3 g0 (kcs I q seed z) 67) := by rw [← hg0]; exact P1.out.below a3 (by omega)
  have G2 : Hid (Blk v3 g1 (bys y) 28) := by rw [← hg1, ← hg0]; exact P2.out.below a3 (by omega)
  have G3 : Hid (Blk v3 g2 z32 28) := by rw [← hg2, ← hg1, ← hg0]; exact a1
  have GB : Hid (Below w.heap.size w v3) := PB.out.trans (a3.mono (by omega))
  have hwg : w.heap.size ≤ g0 := by omega
  have hg01 : g0 < g1 := by omega
  have hg12 : g1 < g2 := by omega
  rw [hg0, hg1, hg2]
  have cw := (G1.out.cell 49).trans (kcs_z I seed q z HI.out HS.out)
  clear a1 a2 a3 P1 P2 PB PS hg0 hg1 hg2
  go_wp2_with fail
  refine (many_no z _ HK.out).mono ?_
  rintro e w1 ⟨rfl, nd, rfl⟩
  clear cw
  have X1 : Hid (Blk (v3.drewN nd) g0 (kcs I q seed z) 67) := G1.out
  have X2 : Hid (Blk (v3.drewN nd) g1 (bys y) 28) := G2.out
  have X3 : Hid (Blk (v3.drewN nd) g2 z32 28) := G3.out
  have XB : Hid (Below w.heap.size w (v3.drewN nd)) := Below.drewN' GB.out
  generalize v3.drewN nd = w1 at X1 X2 X3 XB ⊢
  clear G1 G2 G3 GB
  go_wp2_with (first | (refine wpList_store_blk rfl 28 _ _ rfl g2 z32 z32 28 rfl rfl X3.out s24 rfl (bys_one' _) ?_) | (refine wpList_buildTo rfl 28 _ rfl (some 39) rfl z32.toArray (by kernel_rfl) ?_))
  refine bodyPost_ret (v := .tuple #[.agg z32.toArray, .int .i64 1]) ?_ rfl ?_
  · exact ret_blk2 rfl _ _ g2 28 z32 _ rfl rfl X3.out.setRow 32 5 tu24 s24
  · exact ⟨rfl, below_setRow' XB.out (by omega) _⟩

set_option maxRecDepth 100000 in
set_option maxHeartbeats 1000000 in
theorem refChain_out (I seed y : List UInt8) (q k : Nat) (i a b : Int) (w : World) (hI : I.length = 16) (hs : seed.length = 32) (hk : Wd k) (h0 : 0 ≤ i) (hi : (mny k : Int) ≤ i) : Calls Try.prog 32 #[.agg (kcs I q seed (k : Int)).toArray, .int .i64 i, .int .i64 a, .int .i64 b, .agg (bys y).toArray] w (TwoD (.agg z32.toArray) (.int .i64 1) w) := by
  have HI := Lib.hid hI
  have HS := Lib.hid hs
  have HK := Lib.hid hk
  obtain ⟨M, hM⟩ : ∃ M, mny k = M := ⟨_, rfl⟩
  have HME := Lib.hid hM
  rw [hM] at hi
  have ni : decide (i < 0) = false := by simp; omega
  clear hk hM
  clear hI hs
  go_enter Try.func32, Try.ntmps32
  go_wp2_with (refine wpList_box_blk rfl 67 _ rfl (kcs I q seed (k : Int)) rfl ?_)
  intro v1 a1 a2 a3
  have A1 := Lib.hid a1
  have A2 := Lib.hid a2
  have A3 := Lib.hid a3
  clear a1 a2 a3
  go_wp2_with (refine wpList_box_blk rfl 28 _ rfl (bys y) rfl ?_)
  intro v2 a1 a2 a3
  rw [A2.out] at a1 a2 a3 ⊢
  have P1 : Hid (Blk v2 w.heap.size (kcs I q seed (k : Int)) 67) := A1.out.below a3 (by omega)
  have P2 : Hid (Blk v2 (w.heap.size + 1) (bys y) 28) := a1
  have PB : Hid (Below w.heap.size w v2) := A3.out.trans (a3.mono (by omega))
  have PS := Lib.hid a2
  clear a1 a2 a3 A1 A2 A3
  go_wp2_with (refine wpList_alloc_blk rfl 28 rfl _ z24 ?_)
  intro v3 a1 a2 a3
  rw [PS.out] at a1 a2 a3 ⊢
  obtain ⟨g0, hg0⟩ : ∃ g, w.heap.size = g := ⟨_, rfl⟩
  obtain ⟨g1, hg1⟩ : ∃ g, g0 + 1 = g := ⟨_, rfl⟩
  obtain ⟨g2, hg2⟩ : ∃ g, g1 + 1 = g := ⟨_, rfl⟩
  have G1 : Hid (Blk v3 g0 (kcs I q seed (k : Int)) 67) := by rw [← hg0]; exact P1.out.below a3 (by omega)
  have G2 : Hid (Blk v3 g1 (bys y) 28) := by rw [← hg1, ← hg0]; exact P2.out.below a3 (by omega)
  have G3 : Hid (Blk v3 g2 z32 28) := by rw [← hg2, ← hg1, ← hg0]; exact a1
  have GB : Hid (Below w.heap.size w v3) := PB.out.trans (a3.mono (by omega))
  have hwg : w.heap.size ≤ g0 := by omega
  have hg01 : g0 < g1 := by omega
  have hg12 : g1 < g2 := by omega
  rw [hg0, hg1, hg2]
  have cw := (G1.out.cell 49).trans (kcs_z I seed q (k : Int) HI.out HS.out)
  clear a1 a2 a3 P1 P2 PB PS hg0 hg1 hg2
  go_wp2_with fail
  refine (many_yes k _ HK.out).mono ?_
  rintro e w1 ⟨rfl, nd, rfl⟩
  rw [HME.out]
  have X1 : Hid (Blk (v3.drewN nd) g0 (kcs I q seed (k : Int)) 67) := G1.out
  have X2 : Hid (Blk (v3.drewN nd) g1 (bys y) 28) := G2.out
  have X3 : Hid (Blk (v3.drewN nd) g2 z32 28) := G3.out
  have XB : Hid (Below w.heap.size w (v3.drewN nd)) := Below.drewN' GB.out
  have cw2 : (v3.drewN nd).cell? ⟨g0, 49, none⟩ = some (.int .i64 (k : Int)) := (X1.out.cell 49).trans (kcs_z I seed q (k : Int) HI.out HS.out)
  generalize v3.drewN nd = w1 at X1 X2 X3 XB cw2 ⊢
  clear G1 G2 G3 GB cw
  clear cw2
  go_wp2_with (first | (refine wpList_store_blk rfl 28 _ _ rfl g2 z32 z32 28 rfl rfl X3.out s24 rfl (bys_one' _) ?_) | (refine wpList_buildTo rfl 28 _ rfl (some 39) rfl z32.toArray (by kernel_rfl) ?_))
  refine bodyPost_ret (v := .tuple #[.agg z32.toArray, .int .i64 1]) ?_ rfl ?_
  · exact ret_blk2 rfl _ _ g2 28 z32 _ rfl rfl X3.out.setRow 32 5 tu24 s24
  · exact ⟨rfl, below_setRow' XB.out (by omega) _⟩

set_option maxRecDepth 100000 in
set_option maxHeartbeats 1000000 in
theorem refChain_from (I seed y : List UInt8) (q k i : Nat) (a b : Int) (w : World) (hI : I.length = 16) (hs : seed.length = 32) (hk : Wd k) (hi : i < mny k) (ha : a < 0) : Calls Try.prog 32 #[.agg (kcs I q seed (k : Int)).toArray, .int .i64 (i : Int), .int .i64 a, .int .i64 b, .agg (bys y).toArray] w (TwoD (.agg z32.toArray) (.int .i64 1) w) := by
  have HI := Lib.hid hI
  have HS := Lib.hid hs
  have HK := Lib.hid hk
  obtain ⟨M, hM⟩ : ∃ M, mny k = M := ⟨_, rfl⟩
  have HME := Lib.hid hM
  rw [hM] at hi
  have ni : decide ((i : Int) < 0) = false := by simp
  have zi : decide (M ≤ i) = false := by simp; omega
  clear hk hM hi
  clear hI hs
  go_enter Try.func32, Try.ntmps32
  go_wp2_with (refine wpList_box_blk rfl 67 _ rfl (kcs I q seed (k : Int)) rfl ?_)
  intro v1 a1 a2 a3
  have A1 := Lib.hid a1
  have A2 := Lib.hid a2
  have A3 := Lib.hid a3
  clear a1 a2 a3
  go_wp2_with (refine wpList_box_blk rfl 28 _ rfl (bys y) rfl ?_)
  intro v2 a1 a2 a3
  rw [A2.out] at a1 a2 a3 ⊢
  have P1 : Hid (Blk v2 w.heap.size (kcs I q seed (k : Int)) 67) := A1.out.below a3 (by omega)
  have P2 : Hid (Blk v2 (w.heap.size + 1) (bys y) 28) := a1
  have PB : Hid (Below w.heap.size w v2) := A3.out.trans (a3.mono (by omega))
  have PS := Lib.hid a2
  clear a1 a2 a3 A1 A2 A3
  go_wp2_with (refine wpList_alloc_blk rfl 28 rfl _ z24 ?_)
  intro v3 a1 a2 a3
  rw [PS.out] at a1 a2 a3 ⊢
  obtain ⟨g0, hg0⟩ : ∃ g, w.heap.size = g := ⟨_, rfl⟩
  obtain ⟨g1, hg1⟩ : ∃ g, g0 + 1 = g := ⟨_, rfl⟩
  obtain ⟨g2, hg2⟩ : ∃ g, g1 + 1 = g := ⟨_, rfl⟩
  have G1 : Hid (Blk v3 g0 (kcs I q seed (k : Int)) 67) := by rw [← hg0]; exact P1.out.below a3 (by omega)
  have G2 : Hid (Blk v3 g1 (bys y) 28) := by rw [← hg1, ← hg0]; exact P2.out.below a3 (by omega)
  have G3 : Hid (Blk v3 g2 z32 28) := by rw [← hg2, ← hg1, ← hg0]; exact a1
  have GB : Hid (Below w.heap.size w v3) := PB.out.trans (a3.mono (by omega))
  have hwg : w.heap.size ≤ g0 := by omega
  have hg01 : g0 < g1 := by omega
  have hg12 : g1 < g2 := by omega
  rw [hg0, hg1, hg2]
  have cw := (G1.out.cell 49).trans (kcs_z I seed q (k : Int) HI.out HS.out)
  clear a1 a2 a3 P1 P2 PB PS hg0 hg1 hg2
  go_wp2_with fail
  refine (many_yes k _ HK.out).mono ?_
  rintro e w1 ⟨rfl, nd, rfl⟩
  rw [HME.out]
  have X1 : Hid (Blk (v3.drewN nd) g0 (kcs I q seed (k : Int)) 67) := G1.out
  have X2 : Hid (Blk (v3.drewN nd) g1 (bys y) 28) := G2.out
  have X3 : Hid (Blk (v3.drewN nd) g2 z32 28) := G3.out
  have XB : Hid (Below w.heap.size w (v3.drewN nd)) := Below.drewN' GB.out
  have cw2 : (v3.drewN nd).cell? ⟨g0, 49, none⟩ = some (.int .i64 (k : Int)) := (X1.out.cell 49).trans (kcs_z I seed q (k : Int) HI.out HS.out)
  generalize v3.drewN nd = w1 at X1 X2 X3 XB cw2 ⊢
  clear G1 G2 G3 GB cw
  clear cw2
  go_wp2_with (first | (refine wpList_store_blk rfl 28 _ _ rfl g2 z32 z32 28 rfl rfl X3.out s24 rfl (bys_one' _) ?_) | (refine wpList_buildTo rfl 28 _ rfl (some 39) rfl z32.toArray (by kernel_rfl) ?_))
  refine bodyPost_ret (v := .tuple #[.agg z32.toArray, .int .i64 1]) ?_ rfl ?_
  · exact ret_blk2 rfl _ _ g2 28 z32 _ rfl rfl X3.out.setRow 32 5 tu24 s24
  · exact ⟨rfl, below_setRow' XB.out (by omega) _⟩

set_option maxRecDepth 100000 in
set_option maxHeartbeats 1000000 in
theorem refChain_rev (I seed y : List UInt8) (q k i : Nat) (a b : Int) (w : World) (hI : I.length = 16) (hs : seed.length = 32) (hk : Wd k) (hi : i < mny k) (ha : 0 ≤ a) (hab : b < a) : Calls Try.prog 32 #[.agg (kcs I q seed (k : Int)).toArray, .int .i64 (i : Int), .int .i64 a, .int .i64 b, .agg (bys y).toArray] w (TwoD (.agg z32.toArray) (.int .i64 1) w) := by
  have HI := Lib.hid hI
  have HS := Lib.hid hs
  have HK := Lib.hid hk
  obtain ⟨M, hM⟩ : ∃ M, mny k = M := ⟨_, rfl⟩
  have HME := Lib.hid hM
  rw [hM] at hi
  have ni : decide ((i : Int) < 0) = false := by simp
  have zi : decide (M ≤ i) = false := by simp; omega
  have na : decide (a < 0) = false := by simp; omega
  clear hk hM hi
  clear hI hs
  go_enter Try.func32, Try.ntmps32
  go_wp2_with (refine wpList_box_blk rfl 67 _ rfl (kcs I q seed (k : Int)) rfl ?_)
  intro v1 a1 a2 a3
  have A1 := Lib.hid a1
  have A2 := Lib.hid a2
  have A3 := Lib.hid a3
  clear a1 a2 a3
  go_wp2_with (refine wpList_box_blk rfl 28 _ rfl (bys y) rfl ?_)
  intro v2 a1 a2 a3
  rw [A2.out] at a1 a2 a3 ⊢
  have P1 : Hid (Blk v2 w.heap.size (kcs I q seed (k : Int)) 67) := A1.out.below a3 (by omega)
  have P2 : Hid (Blk v2 (w.heap.size + 1) (bys y) 28) := a1
  have PB : Hid (Below w.heap.size w v2) := A3.out.trans (a3.mono (by omega))
  have PS := Lib.hid a2
  clear a1 a2 a3 A1 A2 A3
  go_wp2_with (refine wpList_alloc_blk rfl 28 rfl _ z24 ?_)
  intro v3 a1 a2 a3
  rw [PS.out] at a1 a2 a3 ⊢
  obtain ⟨g0, hg0⟩ : ∃ g, w.heap.size = g := ⟨_, rfl⟩
  obtain ⟨g1, hg1⟩ : ∃ g, g0 + 1 = g := ⟨_, rfl⟩
  obtain ⟨g2, hg2⟩ : ∃ g, g1 + 1 = g := ⟨_, rfl⟩
  have G1 : Hid (Blk v3 g0 (kcs I q seed (k : Int)) 67) := by rw [← hg0]; exact P1.out.below a3 (by omega)
  have G2 : Hid (Blk v3 g1 (bys y) 28) := by rw [← hg1, ← hg0]; exact P2.out.below a3 (by omega)
  have G3 : Hid (Blk v3 g2 z32 28) := by rw [← hg2, ← hg1, ← hg0]; exact a1
  have GB : Hid (Below w.heap.size w v3) := PB.out.trans (a3.mono (by omega))
  have hwg : w.heap.size ≤ g0 := by omega
  have hg01 : g0 < g1 := by omega
  have hg12 : g1 < g2 := by omega
  rw [hg0, hg1, hg2]
  have cw := (G1.out.cell 49).trans (kcs_z I seed q (k : Int) HI.out HS.out)
  clear a1 a2 a3 P1 P2 PB PS hg0 hg1 hg2
  go_wp2_with fail
  refine (many_yes k _ HK.out).mono ?_
  rintro e w1 ⟨rfl, nd, rfl⟩
  rw [HME.out]
  have X1 : Hid (Blk (v3.drewN nd) g0 (kcs I q seed (k : Int)) 67) := G1.out
  have X2 : Hid (Blk (v3.drewN nd) g1 (bys y) 28) := G2.out
  have X3 : Hid (Blk (v3.drewN nd) g2 z32 28) := G3.out
  have XB : Hid (Below w.heap.size w (v3.drewN nd)) := Below.drewN' GB.out
  have cw2 : (v3.drewN nd).cell? ⟨g0, 49, none⟩ = some (.int .i64 (k : Int)) := (X1.out.cell 49).trans (kcs_z I seed q (k : Int) HI.out HS.out)
  generalize v3.drewN nd = w1 at X1 X2 X3 XB cw2 ⊢
  clear G1 G2 G3 GB cw
  clear cw2
  go_wp2_with (first | (refine wpList_store_blk rfl 28 _ _ rfl g2 z32 z32 28 rfl rfl X3.out s24 rfl (bys_one' _) ?_) | (refine wpList_buildTo rfl 28 _ rfl (some 39) rfl z32.toArray (by kernel_rfl) ?_))
  refine bodyPost_ret (v := .tuple #[.agg z32.toArray, .int .i64 1]) ?_ rfl ?_
  · exact ret_blk2 rfl _ _ g2 28 z32 _ rfl rfl X3.out.setRow 32 5 tu24 s24
  · exact ⟨rfl, below_setRow' XB.out (by omega) _⟩

set_option maxRecDepth 100000 in
set_option maxHeartbeats 1000000 in
theorem refChain_far (I seed y : List UInt8) (q k i : Nat) (a b : Int) (w : World) (hI : I.length = 16) (hs : seed.length = 32) (hk : Wd k) (hi : i < mny k) (ha : 0 ≤ a) (hab : a ≤ b) (hbl : (gr k : Int) < b) : Calls Try.prog 32 #[.agg (kcs I q seed (k : Int)).toArray, .int .i64 (i : Int), .int .i64 a, .int .i64 b, .agg (bys y).toArray] w (TwoD (.agg z32.toArray) (.int .i64 1) w) := by
  have HI := Lib.hid hI
  have HS := Lib.hid hs
  have HK := Lib.hid hk
  obtain ⟨M, hM⟩ : ∃ M, mny k = M := ⟨_, rfl⟩
  have HME := Lib.hid hM
  rw [hM] at hi
  have ni : decide ((i : Int) < 0) = false := by simp
  have zi : decide (M ≤ i) = false := by simp; omega
  obtain ⟨G, hG⟩ : ∃ G, gr k = G := ⟨_, rfl⟩
  have HGE := Lib.hid hG
  rw [hG] at hbl
  have na : decide (a < 0) = false := by simp; omega
  have nb : decide (b < a) = false := by simp; omega
  clear hk hM hi hG
  clear hI hs
  go_enter Try.func32, Try.ntmps32
  go_wp2_with (refine wpList_box_blk rfl 67 _ rfl (kcs I q seed (k : Int)) rfl ?_)
  intro v1 a1 a2 a3
  have A1 := Lib.hid a1
  have A2 := Lib.hid a2
  have A3 := Lib.hid a3
  clear a1 a2 a3
  go_wp2_with (refine wpList_box_blk rfl 28 _ rfl (bys y) rfl ?_)
  intro v2 a1 a2 a3
  rw [A2.out] at a1 a2 a3 ⊢
  have P1 : Hid (Blk v2 w.heap.size (kcs I q seed (k : Int)) 67) := A1.out.below a3 (by omega)
  have P2 : Hid (Blk v2 (w.heap.size + 1) (bys y) 28) := a1
  have PB : Hid (Below w.heap.size w v2) := A3.out.trans (a3.mono (by omega))
  have PS := Lib.hid a2
  clear a1 a2 a3 A1 A2 A3
  go_wp2_with (refine wpList_alloc_blk rfl 28 rfl _ z24 ?_)
  intro v3 a1 a2 a3
  rw [PS.out] at a1 a2 a3 ⊢
  obtain ⟨g0, hg0⟩ : ∃ g, w.heap.size = g := ⟨_, rfl⟩
  obtain ⟨g1, hg1⟩ : ∃ g, g0 + 1 = g := ⟨_, rfl⟩
  obtain ⟨g2, hg2⟩ : ∃ g, g1 + 1 = g := ⟨_, rfl⟩
  have G1 : Hid (Blk v3 g0 (kcs I q seed (k : Int)) 67) := by rw [← hg0]; exact P1.out.below a3 (by omega)
  have G2 : Hid (Blk v3 g1 (bys y) 28) := by rw [← hg1, ← hg0]; exact P2.out.below a3 (by omega)
  have G3 : Hid (Blk v3 g2 z32 28) := by rw [← hg2, ← hg1, ← hg0]; exact a1
  have GB : Hid (Below w.heap.size w v3) := PB.out.trans (a3.mono (by omega))
  have hwg : w.heap.size ≤ g0 := by omega
  have hg01 : g0 < g1 := by omega
  have hg12 : g1 < g2 := by omega
  rw [hg0, hg1, hg2]
  have cw := (G1.out.cell 49).trans (kcs_z I seed q (k : Int) HI.out HS.out)
  clear a1 a2 a3 P1 P2 PB PS hg0 hg1 hg2
  go_wp2_with fail
  refine (many_yes k _ HK.out).mono ?_
  rintro e w1 ⟨rfl, nd, rfl⟩
  rw [HME.out]
  have X1 : Hid (Blk (v3.drewN nd) g0 (kcs I q seed (k : Int)) 67) := G1.out
  have X2 : Hid (Blk (v3.drewN nd) g1 (bys y) 28) := G2.out
  have X3 : Hid (Blk (v3.drewN nd) g2 z32 28) := G3.out
  have XB : Hid (Below w.heap.size w (v3.drewN nd)) := Below.drewN' GB.out
  have cw2 : (v3.drewN nd).cell? ⟨g0, 49, none⟩ = some (.int .i64 (k : Int)) := (X1.out.cell 49).trans (kcs_z I seed q (k : Int) HI.out HS.out)
  generalize v3.drewN nd = w1 at X1 X2 X3 XB cw2 ⊢
  clear G1 G2 G3 GB cw
  go_wp2_with fail
  refine (last_any k _ HK.out).mono ?_
  rintro e w2 ⟨rfl, rfl⟩
  rw [HGE.out]
  clear cw2
  go_wp2_with (first | (refine wpList_store_blk rfl 28 _ _ rfl g2 z32 z32 28 rfl rfl X3.out s24 rfl (bys_one' _) ?_) | (refine wpList_buildTo rfl 28 _ rfl (some 39) rfl z32.toArray (by kernel_rfl) ?_))
  refine bodyPost_ret (v := .tuple #[.agg z32.toArray, .int .i64 1]) ?_ rfl ?_
  · exact ret_blk2 rfl _ _ g2 28 z32 _ rfl rfl X3.out.setRow 32 5 tu24 s24
  · exact ⟨rfl, below_setRow' XB.out (by omega) _⟩

set_option maxRecDepth 100000 in
set_option maxHeartbeats 1000000 in
theorem refChain_yes (I seed y : List UInt8) (q k i a n : Nat) (w : World) (hI : I.length = 16) (hs : seed.length = 32) (hy : y.length = 32) (hq : q < 4294967296) (hk : Wd k) (hi : i < mny k) (hn : a + n ≤ gr k) : Calls Try.prog 32 #[.agg (kcs I q seed (k : Int)).toArray, .int .i64 (i : Int), .int .i64 (a : Int), .int .i64 ((a + n : Nat) : Int), .agg (bys y).toArray] w (TwoD (.agg (bys (chn (pre20 I q) i a n y)).toArray) (.int .i64 0) w) := by
  have HI := Lib.hid hI
  have HS := Lib.hid hs
  obtain ⟨i0, hi0, hz0, hz1, hz2⟩ := info_parts info5
  have HIN := Lib.hid hi0
  have H0 := Lib.hid hz0
  have H1 := Lib.hid hz1
  have H2 := Lib.hid hz2
  have hm := mny_le k hk
  obtain ⟨_, _, _, hG5⟩ := hk.le
  have HK := Lib.hid hk
  obtain ⟨M, hM⟩ : ∃ M, mny k = M := ⟨_, rfl⟩
  have HME := Lib.hid hM
  rw [hM] at hi
  have ni : decide ((i : Int) < 0) = false := by simp
  have zi : decide (M ≤ i) = false := by simp; omega
  obtain ⟨G, hG⟩ : ∃ G, gr k = G := ⟨_, rfl⟩
  have HGE := Lib.hid hG
  rw [hM] at hm
  rw [hG] at hn hG5
  obtain ⟨T, hT⟩ : ∃ T, a + n = T := ⟨_, rfl⟩
  rw [hT] at hn ⊢
  have HTE := Lib.hid hT
  have HI2 : Hid (i < 65536) := Lib.hid (by omega)
  have HT5 : Hid (T ≤ 255) := Lib.hid (by omega)
  have HAT : Hid (a ≤ T) := Lib.hid (by omega)
  have na : decide ((a : Int) < 0) = false := by simp
  have nb : decide (T < a) = false := by simp; omega
  have nc : decide (G < T) = false := by simp; omega
  have HY := Lib.hid hy
  have HP := Lib.hid (pre20_length I q hI)
  have H32 : Hid ((Try.prog.info? 67).map (·.size) = some (kcs I q seed (k : Int)).length) := by show _ = _; rw [kcs_length I seed q _ hI hs]; exact s32
  have H24 : Hid ((Try.prog.info? 28).map (·.size) = some (bys (chn (pre20 I q) i a n y)).length) := by show _ = _; rw [bys_length, chn_length _ _ _ _ _ hy]; exact s24
  have HLZ : Hid (z32.length = (bys (chn (pre20 I q) i a n y)).length) := by show _ = _; rw [bys_length, chn_length _ _ _ _ _ hy, z32_length]
  obtain ⟨d32, hu32, hd32⟩ := row32
  have HU := Lib.hid hu32
  have HD := Lib.hid hd32
  clear hk hM hi hG hm hG5 hT hn hy hi0 hz0 hz1 hz2 hu32 hd32
  clear hI hs
  go_enter Try.func32, Try.ntmps32
  go_wp2_with (refine wpList_box_blk rfl 67 _ rfl (kcs I q seed (k : Int)) rfl ?_)
  intro v1 a1 a2 a3
  have A1 := Lib.hid a1
  have A2 := Lib.hid a2
  have A3 := Lib.hid a3
  clear a1 a2 a3
  go_wp2_with (refine wpList_box_blk rfl 28 _ rfl (bys y) rfl ?_)
  intro v2 a1 a2 a3
  rw [A2.out] at a1 a2 a3 ⊢
  have P1 : Hid (Blk v2 w.heap.size (kcs I q seed (k : Int)) 67) := A1.out.below a3 (by omega)
  have P2 : Hid (Blk v2 (w.heap.size + 1) (bys y) 28) := a1
  have PB : Hid (Below w.heap.size w v2) := A3.out.trans (a3.mono (by omega))
  have PS := Lib.hid a2
  clear a1 a2 a3 A1 A2 A3
  go_wp2_with (refine wpList_alloc_blk rfl 28 rfl _ z24 ?_)
  intro v3 a1 a2 a3
  rw [PS.out] at a1 a2 a3 ⊢
  obtain ⟨g0, hg0⟩ : ∃ g, w.heap.size = g := ⟨_, rfl⟩
  obtain ⟨g1, hg1⟩ : ∃ g, g0 + 1 = g := ⟨_, rfl⟩
  obtain ⟨g2, hg2⟩ : ∃ g, g1 + 1 = g := ⟨_, rfl⟩
  have G1 : Hid (Blk v3 g0 (kcs I q seed (k : Int)) 67) := by rw [← hg0]; exact P1.out.below a3 (by omega)
  have G2 : Hid (Blk v3 g1 (bys y) 28) := by rw [← hg1, ← hg0]; exact P2.out.below a3 (by omega)
  have G3 : Hid (Blk v3 g2 z32 28) := by rw [← hg2, ← hg1, ← hg0]; exact a1
  have GB : Hid (Below w.heap.size w v3) := PB.out.trans (a3.mono (by omega))
  have hwg : w.heap.size ≤ g0 := by omega
  have hg01 : g0 < g1 := by omega
  have hg12 : g1 < g2 := by omega
  rw [hg0, hg1, hg2]
  have cw := (G1.out.cell 49).trans (kcs_z I seed q (k : Int) HI.out HS.out)
  clear a1 a2 a3 P1 P2 PB PS hg0 hg1 hg2
  go_wp2_with fail
  refine (many_yes k _ HK.out).mono ?_
  rintro e w1 ⟨rfl, nd, rfl⟩
  rw [HME.out]
  have X1 : Hid (Blk (v3.drewN nd) g0 (kcs I q seed (k : Int)) 67) := G1.out
  have X2 : Hid (Blk (v3.drewN nd) g1 (bys y) 28) := G2.out
  have X3 : Hid (Blk (v3.drewN nd) g2 z32 28) := G3.out
  have XB : Hid (Below w.heap.size w (v3.drewN nd)) := Below.drewN' GB.out
  have cw2 : (v3.drewN nd).cell? ⟨g0, 49, none⟩ = some (.int .i64 (k : Int)) := (X1.out.cell 49).trans (kcs_z I seed q (k : Int) HI.out HS.out)
  generalize v3.drewN nd = w1 at X1 X2 X3 XB cw2 ⊢
  clear G1 G2 G3 GB cw
  go_wp2_with fail
  refine (last_any k _ HK.out).mono ?_
  rintro e w2 ⟨rfl, rfl⟩
  rw [HGE.out]
  clear cw2
  have K0 : Hid (RChAt w I seed q k g0 g1 g2 (chn (pre20 I q) i a 0 y) w1) := ⟨X1.out, X2.out, X3.out, XB.out, HY.out⟩
  clear X1 X2 X3 XB
  go_wp2
  go_loopw [12] (fun v wr => ∃ c : Nat, a + c ≤ T ∧ v = .int .i64 ((a + c : Nat) : Int) ∧ Hid (RChAt w I seed q k g0 g1 g2 (chn (pre20 I q) i a c y) wr)) (fun v _ => T - (intOf v).toNat)
  case atStart => exact ⟨0, HAT.out, rfl, K0⟩
  case round =>
    clear K0
    obtain ⟨c, hc, rfl, KK⟩ := hrel
    by_cases hc2 : a + c < T
    · obtain ⟨j, hj⟩ : ∃ j, a + c = j := ⟨_, rfl⟩
      have hstp : chn (pre20 I q) i a (c + 1) y = hstep (pre20 I q) i j (chn (pre20 I q) i a c y) := by rw [← hj]; rfl
      obtain ⟨Z, hZ⟩ : ∃ Z, chn (pre20 I q) i a c y = Z := ⟨_, rfl⟩
      rw [hZ] at KK hstp
      rw [hj] at hc2 ⊢
      have HST := Lib.hid hstp
      have zj : (j : Int) < (T : Int) := by omega
      have HJ5 : Hid (j < 256) := Lib.hid (by have := HT5.out; omega)
      have HZL : Hid (Z.length = 32) := KK.out.2.2.2.2
      have H24Z : Hid ((Try.prog.info? 28).map (·.size) = some (bys (hstep (pre20 I q) i j Z)).length) := by show _ = _; rw [bys_length]; unfold hstep; rw [hash_length]; exact s24
      have HLZZ : Hid ((bys Z).length = (bys (hstep (pre20 I q) i j Z)).length) := by show _ = _; rw [bys_length, bys_length, HZL.out]; unfold hstep; rw [hash_length]
      have HH : Hid (hash (pre20 I q ++ (by2 i ++ [UInt8.ofNat j]) ++ Z) = hstep (pre20 I q) i j Z) := by show _ = _; unfold hstep; simp
      have X1 : Hid (Blk wr g0 (kcs I q seed (k : Int)) 67) := KK.out.1
      have X2 : Hid (Blk wr g1 (bys Z) 28) := KK.out.2.1
      have X3 : Hid (Blk wr g2 z32 28) := KK.out.2.2.1
      have XB : Hid (Below w.heap.size w wr) := KK.out.2.2.2.1
      clear hZ hstp KK
      go_wp2_with (refine wpList_load_blkU rfl 67 _ rfl g0 rfl (kcs I q seed (k : Int)) 67 X1.out d32 HU.out HD.out H32.out ?_)
      refine (head_any I seed q (k : Int) _ HI.out hq).mono ?_
      rintro e w2 ⟨hv, rfl, hown, hb⟩
      obtain ⟨b, hbE⟩ : ∃ b, wr.heap.size = b := ⟨_, rfl⟩
      have g0b : g0 < b := by rw [← hbE]; exact X1.out.lt
      have g1b : g1 < b := by rw [← hbE]; exact X2.out.lt
      have g2b : g2 < b := by rw [← hbE]; exact X3.out.lt
      have Y1 : Hid (Blk w2 g0 (kcs I q seed (k : Int)) 67) := X1.out.below hb X1.out.lt
      have Y2 : Hid (Blk w2 g1 (bys Z) 28) := X2.out.below hb X2.out.lt
      have Y3 : Hid (Blk w2 g2 z32 28) := X3.out.below hb X3.out.lt
      have YB : Hid (Below w.heap.size w w2) := XB.out.trans (hb.mono XB.out.size)
      have YO : Hid (Own 5 w2 b hv (pre20 I q)) := by rw [← hbE]; exact hown
      have hb2 : b ≤ w2.heap.size := by rw [← hbE]; exact hb.size
      have hwb : w.heap.size ≤ b := by omega
      have z256 : (i : Int) < 65536 := by have := HI2.out; omega
      have zj5 : (j : Int) < 256 := by have := HJ5.out; omega
      clear hb hown X1 X2 X3 XB hbE
      go_wp2_with (at_builtin; refine wpList_app rfl _ _ 24 rfl 5 i0 Try.underlying24 HIN.out H0.out H1.out H2.out b (w2.heap.size + 1) _ _ (pre20 I q) (by2 i ++ [UInt8.ofNat j]) rfl (YO.out.alloc _) rfl ((Own.lit 5 w2 _ 3 (by2 i ++ [UInt8.ofNat j]) rfl (by omega) (by have := HI2.out; have := HJ5.out; simp [bys, by2]; omega)).rd.more (by simp)) (by rw [HP.out]; simp [by2]) (by simp; omega) ?_)
      intro v3 w3 hown3 hb3'
      have hb3 : Below b w2 w3 := ((Below.refl b w2).alloc hb2 _).trans hb3'
      have Z1 : Hid (Blk w3 g0 (kcs I q seed (k : Int)) 67) := Y1.out.below hb3 g0b
      have Z2 : Hid (Blk w3 g1 (bys Z) 28) := Y2.out.below hb3 g1b
      have Z3 : Hid (Blk w3 g2 z32 28) := Y3.out.below hb3 g2b
      have ZB : Hid (Below w.heap.size w w3) := YB.out.trans (hb3.mono hwb)
      have hb3s : b ≤ w3.heap.size := Nat.le_trans hb2 hb3.size
      have ZO : Hid (Own 5 w3 b v3 (pre20 I q ++ (by2 i ++ [UInt8.ofNat j]))) := Lib.hid (by simpa using hown3)
      have ZR : Hid (Rd w3.heap.size w3 (.slice (some ⟨g1, 0, none⟩) 32 32) Z) := Rd.blk 32 HZL.out Z2.out Z2.out.lt (by omega)
      clear hown3 hb3 hb3' Y1 Y2 Y3 YB YO z256
      go_wp2_with (at_builtin; refine wpList_app rfl _ _ 24 rfl 5 i0 Try.underlying24 HIN.out H0.out H1.out H2.out b w3.heap.size _ _ (pre20 I q ++ (by2 i ++ [UInt8.ofNat j])) Z rfl ZO.out rfl ZR.out (by rw [List.length_append, HP.out, HZL.out]; simp [by2]) hb3s ?_)
      intro v4 w4 hown4 hb4
      have U1 : Hid (Blk w4 g0 (kcs I q seed (k : Int)) 67) := Z1.out.below hb4 g0b
      have U2 : Hid (Blk w4 g1 (bys Z) 28) := Z2.out.below hb4 g1b
      have U3 : Hid (Blk w4 g2 z32 28) := Z3.out.below hb4 g2b
      have UB : Hid (Below w.heap.size w w4) := ZB.out.trans (hb4.mono hwb)
      have UO : Hid (Own 5 w4 b v4 (pre20 I q ++ (by2 i ++ [UInt8.ofNat j]) ++ Z)) := Lib.hid (by simpa using hown4)
      clear hown4 hb4 Z1 Z2 Z3 ZB ZO ZR
      go_wp2_with fail
      refine (refSum_any v4 _ _ UO.out.rd (by rw [List.length_append, List.length_append, HP.out, HZL.out]; simp [by2])).mono ?_
      rintro e w5 ⟨rfl, hb5⟩
      rw [HH.out]
      have V1 : Hid (Blk w5 g0 (kcs I q seed (k : Int)) 67) := U1.out.below hb5 U1.out.lt
      have V2 : Hid (Blk w5 g1 (bys Z) 28) := U2.out.below hb5 U2.out.lt
      have V3 : Hid (Blk w5 g2 z32 28) := U3.out.below hb5 U3.out.lt
      have VB : Hid (Below w.heap.size w w5) := UB.out.trans (hb5.mono UB.out.size)
      have K5 : Hid (RChAt w I seed q k g0 g1 g2 (chn (pre20 I q) i a (c + 1) y) (w5.setRow g1 (bys (hstep (pre20 I q) i j Z)).toArray)) := by
        rw [HST.out]
        exact ⟨V1.out.setRowOther (by omega), V2.out.setRow, V3.out.setRowOther (by omega), below_setRow' VB.out (by omega) _, by unfold hstep; rw [hash_length]⟩
      clear hb5 U1 U2 U3 UB UO
      go_wp2_with (refine wpList_store_blk rfl 28 _ _ rfl g1 (bys (hstep (pre20 I q) i j Z)) (bys Z) 28 rfl rfl V2.out H24Z.out HLZZ.out (bys_one' _) ?_)
      go_roundw
      case rel => exact ⟨c + 1, by omega, by go_num, K5⟩
      case measure => simp [intOf]; omega
    · have hcT : a + c = T := by omega
      have hcn : c = n := by have := HTE.out; omega
      rw [hcT]
      rw [hcn] at KK
      clear hcn
      have N1 : Hid (Blk wr g1 (bys (chn (pre20 I q) i a n y)) 28) := KK.out.2.1
      have N2 : Hid (Blk wr g2 z32 28) := KK.out.2.2.1
      have NB : Hid (Below w.heap.size w wr) := KK.out.2.2.2.1
      clear KK
      go_wp2_with (first | (refine wpList_load_blk rfl 28 _ rfl g1 rfl (bys (chn (pre20 I q) i a n y)) 28 N1.out 32 5 tu24 H24.out ?_) | (refine wpList_store_blk rfl 28 _ _ rfl g2 (bys (chn (pre20 I q) i a n y)) z32 28 rfl rfl N2.out H24.out HLZ.out (bys_one' _) ?_))
      refine bodyPost_ret (v := .tuple #[.agg (bys (chn (pre20 I q) i a n y)).toArray, .int .i64 0]) ?_ rfl ?_
      · exact ret_blk2 rfl _ _ g2 28 _ _ rfl rfl N2.out.setRow 32 5 tu24 H24.out
      · exact ⟨rfl, below_setRow' NB.out (by omega) _⟩
end Go.Proofs.Ytnemkefmlffigaa
