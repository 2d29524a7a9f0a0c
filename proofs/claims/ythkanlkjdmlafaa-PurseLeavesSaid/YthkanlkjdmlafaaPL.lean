/-
  The law PurseLeaves, walked: it answers true for every purse and every text.
-/
import Derived.Test.YthkanlkjdmlafaaPG
namespace Go.Proofs.Ythkanlkjdmlafaa
open Go.RowKit

theorem min_add_le (m s L : Nat) : min (m + s) L ≤ L := Nat.min_le_right _ _

set_option maxRecDepth 1000000 in
set_option maxHeartbeats 4000000 in
theorem leaves_high (I seed text : List UInt8) (z y n m s : Int) (tv : Value) (w : World) (hI : I.length = 16) (hs : seed.length = 32) (ht : Rd w.heap.size w tv text) (h1 : 3 ≤ y) (h2 : y ≤ 5) : Calls Try.prog 4 #[.agg (pcs I seed z y n m s).toArray, tv] w (One (.bool true) w) := by
  obtain ⟨At, ct, rfl, hct, hmt⟩ := ht.shape
  unfold maxLen at hmt
  have HTX := Lib.hid ht
  have HTL : Hid (text.length = text.length) := rfl
  obtain ⟨tl, hn⟩ : ∃ n, text.length = n := ⟨_, rfl⟩
  rw [hn] at hct HTX ⊢
  have HTN := Lib.hid hn
  have HI := Lib.hid hI
  have HS := Lib.hid hs
  have HT := Lib.hid (sTree' I seed z y hI hs)
  obtain ⟨dT, huT, hdT⟩ := rowTree
  have HU := Lib.hid huT
  have HD := Lib.hid hdT
  have HPS := Lib.hid (sPurse' I seed z y n m s hI hs)
  obtain ⟨dP, huP, hdP⟩ := rowPurse
  have HUP := Lib.hid huP
  have HDP := Lib.hid hdP
  have H1 := Lib.hid h1
  have H2 := Lib.hid h2
  clear ht hn hI hs huT hdT huP hdP h1 h2
  go_enter Try.func4, Try.ntmps4
  go_wp2_with (refine wpList_box_blk rfl 30 _ rfl (pcs I seed z y n m s) rfl ?_)
  intro w1 a1 a2 a3
  obtain ⟨g0, hg0⟩ : ∃ g, w.heap.size = g := ⟨_, rfl⟩
  have A1 : Hid (Blk w1 g0 (pcs I seed z y n m s) 30) := by rw [← hg0]; exact a1
  have A3 := Lib.hid a3
  have HG0 := Lib.hid hg0
  rw [hg0]
  clear a1 a2 a3 hg0
  go_wp2_with (refine wpList_load_mid rfl 25 _ rfl g0 0 rfl (tcs I seed z y) dT (pcs_range A1.out) HU.out HD.out HT.out ?_)
  refine (low6_no I seed z y _ HI.out HS.out H1.out H2.out).mono ?_
  rintro e w2 ⟨rfl, hb⟩
  have B1 : Hid (Blk w2 g0 (pcs I seed z y n m s) 30) := A1.out.below hb A1.out.lt
  have B3 : Hid (Below w.heap.size w w2) := A3.out.trans (hb.mono A3.out.size)
  clear hb A1 A3
  go_wp2_with fail
  refine (alive6_any _).mono ?_
  rintro e w3 ⟨rfl, hb⟩
  have Z3 : Hid (Below w.heap.size w w3) := B3.out.trans (hb.mono B3.out.size)
  clear hb
  go_wp2
  go_ret
  exact ⟨rfl, Z3.out⟩

set_option maxRecDepth 1000000 in
set_option maxHeartbeats 4000000 in
theorem leaves_long (I seed text : List UInt8) (z y n m s : Int) (tv : Value) (w : World) (hI : I.length = 16) (hs : seed.length = 32) (ht : Rd w.heap.size w tv text) (hy : y < 3 ∨ 5 < y) (hl : 1000 < text.length) : Calls Try.prog 4 #[.agg (pcs I seed z y n m s).toArray, tv] w (One (.bool true) w) := by
  obtain ⟨At, ct, rfl, hct, hmt⟩ := ht.shape
  unfold maxLen at hmt
  have HTX := Lib.hid ht
  have HTL : Hid (text.length = text.length) := rfl
  obtain ⟨tl, hn⟩ : ∃ n, text.length = n := ⟨_, rfl⟩
  rw [hn] at hct HTX ⊢
  have HTN := Lib.hid hn
  have HI := Lib.hid hI
  have HS := Lib.hid hs
  have HT := Lib.hid (sTree' I seed z y hI hs)
  obtain ⟨dT, huT, hdT⟩ := rowTree
  have HU := Lib.hid huT
  have HD := Lib.hid hdT
  have HPS := Lib.hid (sPurse' I seed z y n m s hI hs)
  obtain ⟨dP, huP, hdP⟩ := rowPurse
  have HUP := Lib.hid huP
  have HDP := Lib.hid hdP
  have HY := Lib.hid hy
  rw [hn] at hl
  have zn : decide ((1000 : Int) < (tl : Int)) = true := decide_eq_true (by omega)
  clear ht hn hI hs huT hdT huP hdP hy hl
  go_enter Try.func4, Try.ntmps4
  go_wp2_with (refine wpList_box_blk rfl 30 _ rfl (pcs I seed z y n m s) rfl ?_)
  intro w1 a1 a2 a3
  obtain ⟨g0, hg0⟩ : ∃ g, w.heap.size = g := ⟨_, rfl⟩
  have A1 : Hid (Blk w1 g0 (pcs I seed z y n m s) 30) := by rw [← hg0]; exact a1
  have A3 := Lib.hid a3
  have HG0 := Lib.hid hg0
  rw [hg0]
  clear a1 a2 a3 hg0
  go_wp2_with (refine wpList_load_mid rfl 25 _ rfl g0 0 rfl (tcs I seed z y) dT (pcs_range A1.out) HU.out HD.out HT.out ?_)
  refine (low6_yes I seed z y _ HI.out HS.out HY.out).mono ?_
  rintro e w2 ⟨rfl, hb⟩
  have B1 : Hid (Blk w2 g0 (pcs I seed z y n m s) 30) := A1.out.below hb A1.out.lt
  have B3 : Hid (Below w.heap.size w w2) := A3.out.trans (hb.mono A3.out.size)
  clear hb A1 A3
  go_wp2_with fail
  refine (alive6_any _).mono ?_
  rintro e w3 ⟨rfl, hb⟩
  have Z3 : Hid (Below w.heap.size w w3) := B3.out.trans (hb.mono B3.out.size)
  clear hb
  go_wp2
  go_ret
  exact ⟨rfl, Z3.out⟩

set_option maxRecDepth 1000000 in
set_option maxHeartbeats 4000000 in
theorem leaves_none (I seed text : List UInt8) (z y n m s : Int) (tv : Value) (w : World) (hI : I.length = 16) (hs : seed.length = 32) (ht : Rd w.heap.size w tv text) (hy : y < 3 ∨ 5 < y) (hl : text.length ≤ 1000) (hp : NoP z y n m s) : Calls Try.prog 4 #[.agg (pcs I seed z y n m s).toArray, tv] w (One (.bool true) w) := by
  obtain ⟨At, ct, rfl, hct, hmt⟩ := ht.shape
  unfold maxLen at hmt
  have HTX := Lib.hid ht
  have HTL : Hid (text.length = text.length) := rfl
  obtain ⟨tl, hn⟩ : ∃ n, text.length = n := ⟨_, rfl⟩
  rw [hn] at hct HTX ⊢
  have HTN := Lib.hid hn
  have HI := Lib.hid hI
  have HS := Lib.hid hs
  have HT := Lib.hid (sTree' I seed z y hI hs)
  obtain ⟨dT, huT, hdT⟩ := rowTree
  have HU := Lib.hid huT
  have HD := Lib.hid hdT
  have HPS := Lib.hid (sPurse' I seed z y n m s hI hs)
  obtain ⟨dP, huP, hdP⟩ := rowPurse
  have HUP := Lib.hid huP
  have HDP := Lib.hid hdP
  have HY := Lib.hid hy
  have HP := Lib.hid hp
  rw [hn] at hl
  have zn : decide ((1000 : Int) < (tl : Int)) = false := decide_eq_false (by omega)
  clear ht hn hI hs huT hdT huP hdP hy hl hp
  go_enter Try.func4, Try.ntmps4
  go_wp2_with (refine wpList_box_blk rfl 30 _ rfl (pcs I seed z y n m s) rfl ?_)
  intro w1 a1 a2 a3
  obtain ⟨g0, hg0⟩ : ∃ g, w.heap.size = g := ⟨_, rfl⟩
  have A1 : Hid (Blk w1 g0 (pcs I seed z y n m s) 30) := by rw [← hg0]; exact a1
  have A3 := Lib.hid a3
  have HG0 := Lib.hid hg0
  rw [hg0]
  clear a1 a2 a3 hg0
  go_wp2_with (refine wpList_load_mid rfl 25 _ rfl g0 0 rfl (tcs I seed z y) dT (pcs_range A1.out) HU.out HD.out HT.out ?_)
  refine (low6_yes I seed z y _ HI.out HS.out HY.out).mono ?_
  rintro e w2 ⟨rfl, hb⟩
  have B1 : Hid (Blk w2 g0 (pcs I seed z y n m s) 30) := A1.out.below hb A1.out.lt
  have B3 : Hid (Below w.heap.size w w2) := A3.out.trans (hb.mono A3.out.size)
  clear hb A1 A3
  go_wp2_with (refine wpList_load_blkUG 30 _ rfl g0 rfl (pcs I seed z y n m s) 30 B1.out dP HUP.out HDP.out HPS.out (by rfl) ?_)
  refine (plain6_any I seed z y n m s _ HI.out HS.out).mono ?_
  rintro e w3 ⟨rfl, hb⟩
  have C3 : Hid (Below w.heap.size w w3) := B3.out.trans (hb.mono B3.out.size)
  clear hb B1 B3
  go_wp2_with fail
  refine (rf6Right_no I seed z y n m s _ HI.out HS.out HP.out).mono ?_
  rintro e w4 ⟨rfl, hb⟩
  have D3 : Hid (Below w.heap.size w w4) := C3.out.trans (hb.mono C3.out.size)
  clear hb C3
  go_wp2_with fail
  refine (alive6_any _).mono ?_
  rintro e w5 ⟨rfl, hb⟩
  have Z3 : Hid (Below w.heap.size w w5) := D3.out.trans (hb.mono D3.out.size)
  clear hb
  go_wp2
  go_ret
  exact ⟨rfl, Z3.out⟩

set_option maxRecDepth 1000000 in
set_option maxHeartbeats 4000000 in
theorem leaves_spent (I seed text : List UInt8) (k h n m s : Nat) (tv : Value) (w : World) (hI : I.length = 16) (hs : seed.length = 32) (ht : Rd w.heap.size w tv text) (hh : h = 1 ∨ h = 2) (hf : PFit k h n m s) (hl : text.length ≤ 1000) (hx : n = 2 ^ h) : Calls Try.prog 4 #[.agg (pcs I seed (k : Int) (h : Int) (n : Int) (m : Int) (s : Int)).toArray, tv] w (One (.bool true) w) := by
  obtain ⟨At, ct, rfl, hct, hmt⟩ := ht.shape
  unfold maxLen at hmt
  have HTX := Lib.hid ht
  have HTL : Hid (text.length = text.length) := rfl
  obtain ⟨tl, hn⟩ : ∃ n, text.length = n := ⟨_, rfl⟩
  rw [hn] at hct HTX ⊢
  have HTN := Lib.hid hn
  have HI := Lib.hid hI
  have HS := Lib.hid hs
  have HT := Lib.hid (sTree' I seed (k : Int) (h : Int) hI hs)
  obtain ⟨dT, huT, hdT⟩ := rowTree
  have HU := Lib.hid huT
  have HD := Lib.hid hdT
  have HPS := Lib.hid (sPurse' I seed (k : Int) (h : Int) (n : Int) (m : Int) (s : Int) hI hs)
  obtain ⟨dP, huP, hdP⟩ := rowPurse
  have HUP := Lib.hid huP
  have HDP := Lib.hid hdP
  have HF := Lib.hid hf
  have HY : Hid ((h : Int) < 3 ∨ 5 < (h : Int)) := by rcases hh with rfl | rfl <;> exact .inl (by decide)
  rw [hn] at hl
  have zn : decide ((1000 : Int) < (tl : Int)) = false := decide_eq_false (by omega)
  obtain ⟨L, hL⟩ : ∃ L, 2 ^ h = L := ⟨_, rfl⟩
  have hL2 : L ≤ 32 := by rw [← hL]; exact hf.ht.pow.2
  have hmL : m ≤ L := by rw [← hL]; exact hf.mh
  have hnm := hf.nm
  have hs1 := hf.s1
  have hs8 := hf.s8
  rw [hL] at hx
  have hfC : PFit k h m m s := ⟨hf.wd, hf.ht, Nat.le_refl _, hf.mh, hf.s1, hf.s8⟩
  have HFC := Lib.hid hfC
  obtain ⟨D1, hD1⟩ : ∃ D, L - n = D := ⟨_, rfl⟩
  obtain ⟨D2, hD2⟩ : ∃ D, L - m = D := ⟨_, rfl⟩
  obtain ⟨D3, hD3⟩ : ∃ D, m - n = D := ⟨_, rfl⟩
  have HE1 : Hid (2 ^ h - n = D1) := by show _ = _; rw [hL, hD1]
  have HE2 : Hid (2 ^ h - m = D2) := by show _ = _; rw [hL, hD2]
  have Z3 : Hid ((D1 : Int) - (D2 : Int) = (D3 : Int)) := by show _ = _; omega
  have Z4 : Hid ((m : Int) - (n : Int) = (D3 : Int)) := by show _ = _; omega
  have ZL : Hid (D1 ≤ 32 ∧ D2 ≤ 32 ∧ D3 ≤ 32) := by refine ⟨?_, ?_, ?_⟩ <;> omega
  have HCN := Lib.hid (pcs_n I seed (k : Int) (h : Int) (n : Int) (m : Int) (s : Int) hI hs)
  have HCM := Lib.hid (pcs_m I seed (k : Int) (h : Int) (n : Int) (m : Int) (s : Int) hI hs)
  have HCS := Lib.hid (sPurse' I seed (k : Int) (h : Int) (m : Int) (m : Int) (s : Int) hI hs)
  have HLC : Hid (pcs0.length = (pcs I seed (k : Int) (h : Int) (m : Int) (m : Int) (s : Int)).length) := by show _ = _; rw [pcs_length I seed _ _ _ _ _ hI hs]; rfl
  have ZD1 : Hid (D1 = 0) := by show _ = _; omega
  have HX : Hid (n = 2 ^ h) := by show _ = _; rw [hL]; exact hx
  have HLQ : Hid (pcs0.length = (pcs I seed (k : Int) (h : Int) (n : Int) (m : Int) (s : Int)).length) := by show _ = _; rw [pcs_length I seed _ _ _ _ _ hI hs]; rfl
  clear ht hn hI hs huT hdT huP hdP hl hf hh hL hL2 hmL hnm hs1 hs8 hx hfC hD1 hD2 hD3
  go_enter Try.func4, Try.ntmps4
  go_wp2_with (refine wpList_box_blk rfl 30 _ rfl (pcs I seed (k : Int) (h : Int) (n : Int) (m : Int) (s : Int)) rfl ?_)
  intro w1 a1 a2 a3
  obtain ⟨g0, hg0⟩ : ∃ g, w.heap.size = g := ⟨_, rfl⟩
  have A1 : Hid (Blk w1 g0 (pcs I seed (k : Int) (h : Int) (n : Int) (m : Int) (s : Int)) 30) := by rw [← hg0]; exact a1
  have A3 := Lib.hid a3
  have HG0 := Lib.hid hg0
  rw [hg0]
  clear a1 a2 a3 hg0
  go_wp2_with (refine wpList_load_mid rfl 25 _ rfl g0 0 rfl (tcs I seed (k : Int) (h : Int)) dT (pcs_range A1.out) HU.out HD.out HT.out ?_)
  refine (low6_yes I seed (k : Int) (h : Int) _ HI.out HS.out HY.out).mono ?_
  rintro e w2 ⟨rfl, hb⟩
  have B1 : Hid (Blk w2 g0 (pcs I seed (k : Int) (h : Int) (n : Int) (m : Int) (s : Int)) 30) := A1.out.below hb A1.out.lt
  have B3 : Hid (Below w.heap.size w w2) := A3.out.trans (hb.mono A3.out.size)
  clear hb A1 A3
  go_wp2_with (refine wpList_load_blkUG 30 _ rfl g0 rfl (pcs I seed (k : Int) (h : Int) (n : Int) (m : Int) (s : Int)) 30 B1.out dP HUP.out HDP.out HPS.out (by rfl) ?_)
  refine (plain6_any I seed _ _ _ _ _ _ HI.out HS.out).mono ?_
  rintro e w3 ⟨rfl, hb⟩
  have C1 : Hid (Blk w3 g0 (pcs I seed (k : Int) (h : Int) (n : Int) (m : Int) (s : Int)) 30) := B1.out.below hb B1.out.lt
  have C3 : Hid (Below w.heap.size w w3) := B3.out.trans (hb.mono B3.out.size)
  clear hb B1 B3
  go_wp2_with fail
  refine (rf6Right_yes I seed k h n m s _ HI.out HS.out HF.out).mono ?_
  rintro e w4 ⟨rfl, hb⟩
  have D1b : Hid (Blk w4 g0 (pcs I seed (k : Int) (h : Int) (n : Int) (m : Int) (s : Int)) 30) := C1.out.below hb C1.out.lt
  have D3b : Hid (Below w.heap.size w w4) := C3.out.trans (hb.mono C3.out.size)
  clear hb C1 C3
  go_wp2_with (refine wpList_load_blkU rfl 30 _ rfl g0 rfl (pcs I seed (k : Int) (h : Int) (n : Int) (m : Int) (s : Int)) 30 D1b.out dP HUP.out HDP.out HPS.out ?_)
  refine (signP_spent I seed k h n m s _ _ HI.out HS.out HF.out HX.out).mono ?_
  rintro e w5 ⟨rfl, hb⟩
  have B1 : Hid (Blk w5 g0 (pcs I seed (k : Int) (h : Int) (n : Int) (m : Int) (s : Int)) 30) := D1b.out.below hb D1b.out.lt
  have B3 : Hid (Below w.heap.size w w5) := D3b.out.trans (hb.mono D3b.out.size)
  clear hb D1b D3b
  go_wp2_with (refine wpList_alloc_blk rfl 30 rfl _ ziPurse ?_)
  intro w6 a1 a2 a3
  obtain ⟨g5, hg5⟩ : ∃ g, w5.heap.size = g := ⟨_, rfl⟩
  have h05 : g0 < g5 := by have := B1.out.lt; omega
  rw [hg5] at a1 a2 a3 ⊢
  have A1 := Lib.hid a1
  obtain ⟨t6, ht6⟩ : ∃ t, w6.setRow g5 (pcs I seed (k : Int) (h : Int) (n : Int) (m : Int) (s : Int)).toArray = t := ⟨_, rfl⟩
  have C1 : Hid (Blk t6 g0 (pcs I seed (k : Int) (h : Int) (n : Int) (m : Int) (s : Int)) 30) := by show Blk _ _ _ _; rw [← ht6]; exact (B1.out.below a3 h05).setRowOther (by omega)
  have C5 : Hid (Blk t6 g5 (pcs I seed (k : Int) (h : Int) (n : Int) (m : Int) (s : Int)) 30) := by show Blk _ _ _ _; rw [← ht6]; exact a1.setRow
  have C3 : Hid (Below w.heap.size w t6) := by show Below _ _ _; rw [← ht6]; exact below_setRow' (B3.out.trans (a3.mono (by rw [← hg5]; exact B3.out.size))) (by rw [← hg5]; exact B3.out.size) _
  have HT6 := Lib.hid ht6
  clear a1 a2 a3 B1 B3 ht6 hg5 h05
  go_wp2_with (first | (refine wpList_store_blk rfl 30 _ _ rfl g5 (pcs I seed (k : Int) (h : Int) (n : Int) (m : Int) (s : Int)) pcs0 30 rfl rfl A1.out HPS.out HLQ.out (pcs_one _ _ _ _ _ _ _) ?_; rw [HT6.out]; clear HT6) | (refine wpList_load_blkU rfl 30 _ rfl g0 rfl (pcs I seed (k : Int) (h : Int) (n : Int) (m : Int) (s : Int)) 30 C1.out dP HUP.out HDP.out HPS.out ?_))
  refine (crashP_any I seed _ _ _ _ _ _ HI.out HS.out).mono ?_
  rintro e w7 ⟨rfl, hb⟩
  have D1b : Hid (Blk w7 g0 (pcs I seed (k : Int) (h : Int) (n : Int) (m : Int) (s : Int)) 30) := C1.out.below hb C1.out.lt
  have D5b : Hid (Blk w7 g5 (pcs I seed (k : Int) (h : Int) (n : Int) (m : Int) (s : Int)) 30) := C5.out.below hb C5.out.lt
  have D3b : Hid (Below w.heap.size w w7) := C3.out.trans (hb.mono C3.out.size)
  clear hb A1 C1 C5 C3
  go_wp2_with (refine wpList_alloc_blk rfl 30 rfl _ ziPurse ?_)
  intro w8 a1 a2 a3
  obtain ⟨g9, hg9⟩ : ∃ g, w7.heap.size = g := ⟨_, rfl⟩
  have h09 : g0 < g9 := by have := D1b.out.lt; omega
  have h59 : g5 < g9 := by have := D5b.out.lt; omega
  rw [hg9] at a1 a2 a3 ⊢
  have A1 := Lib.hid a1
  obtain ⟨t8, ht8⟩ : ∃ t, w8.setRow g9 (pcs I seed (k : Int) (h : Int) (m : Int) (m : Int) (s : Int)).toArray = t := ⟨_, rfl⟩
  have B1 : Hid (Blk t8 g0 (pcs I seed (k : Int) (h : Int) (n : Int) (m : Int) (s : Int)) 30) := by show Blk _ _ _ _; rw [← ht8]; exact (D1b.out.below a3 h09).setRowOther (by omega)
  have B5 : Hid (Blk t8 g5 (pcs I seed (k : Int) (h : Int) (n : Int) (m : Int) (s : Int)) 30) := by show Blk _ _ _ _; rw [← ht8]; exact (D5b.out.below a3 h59).setRowOther (by omega)
  have B9 : Hid (Blk t8 g9 (pcs I seed (k : Int) (h : Int) (m : Int) (m : Int) (s : Int)) 30) := by show Blk _ _ _ _; rw [← ht8]; exact a1.setRow
  have B3 : Hid (Below w.heap.size w t8) := by show Below _ _ _; rw [← ht8]; exact below_setRow' (D3b.out.trans (a3.mono (by rw [← hg9]; exact D3b.out.size))) (by rw [← hg9]; exact D3b.out.size) _
  have HT8 := Lib.hid ht8
  clear a1 a2 a3 D1b D5b D3b ht8 hg9 h09 h59
  go_wp2_with (refine wpList_store_blk rfl 30 _ _ rfl g9 (pcs I seed (k : Int) (h : Int) (m : Int) (m : Int) (s : Int)) pcs0 30 rfl rfl A1.out HCS.out HLC.out (pcs_one _ _ _ _ _ _ _) ?_; rw [HT8.out]; clear HT8)
  clear A1
  refine wp_region_rely2 6 0 (fun x => ⟨#[Value.agg (pcs I seed ↑k ↑h ↑n ↑m ↑s).toArray, Value.slice At tl ct, Value.pointer (some { block := g0, off := 0 }), undef, Value.bool false, Value.pointer (some { block := g5, off := 0 }), Value.slice none 0 0, Value.bool false, Value.int IntKind.i64 12, Value.pointer (some { block := g9, off := 0 }), x 5, Value.pointer (some { block := g0, off := 0 }), Value.agg (tcs I seed ↑k ↑h).toArray, Value.bool true, Value.bool false, Value.bool false, Value.slice At tl ct, Value.int IntKind.i64 ↑tl, Value.bool false, Value.bool false, Value.bool false, Value.agg (pcs I seed ↑k ↑h ↑n ↑m ↑s).toArray, Value.agg (pcs I seed ↑k ↑h ↑n ↑m ↑s).toArray, Value.bool true, Value.bool false, Value.bool false, undef, Value.tuple #[Value.agg (pcs I seed ↑k ↑h ↑n ↑m ↑s).toArray, Value.slice none 0 0, Value.bool false, Value.int IntKind.i64 12], Value.agg (pcs I seed ↑k ↑h ↑n ↑m ↑s).toArray, Value.slice At tl ct, Value.tuple #[Value.agg (pcs I seed ↑k ↑h ↑n ↑m ↑s).toArray, Value.slice none 0 0, Value.bool false, Value.int IntKind.i64 12], Value.agg (pcs I seed ↑k ↑h ↑n ↑m ↑s).toArray, Value.slice none 0 0, Value.bool false, Value.int IntKind.i64 12, Value.agg (pcs I seed ↑k ↑h ↑n ↑m ↑s).toArray, Value.agg (pcs I seed ↑k ↑h ↑m ↑m ↑s).toArray, x 0, x 1, x 2, x 3, x 4, undef, undef, undef, undef, undef, undef, undef, undef, undef, undef, undef, undef, undef, undef, undef, undef, undef, undef, undef, undef, undef, undef, undef, undef, undef, undef, undef, undef, undef, undef, undef, undef, undef, undef, undef, undef, undef, undef, undef, undef, undef, undef, undef, undef, undef, undef, undef, undef, undef, undef, undef, undef, undef, undef, undef, undef, undef, undef, undef, undef, undef, undef, undef, undef, undef, undef, undef, undef, undef, undef, undef, undef, undef], []⟩) (fun jj => ([eqV (.agg (pcs I seed (k : Int) (h : Int) (n : Int) (m : Int) (s : Int)).toArray), (eqV (.int .i64 (D1 : Int))), eqV (.agg (pcs I seed (k : Int) (h : Int) (m : Int) (m : Int) (s : Int)).toArray), (eqV (.int .i64 (D2 : Int))), eqV (.int .i64 (D3 : Int)), eqV (.int .i64 (D3 : Int))] : List (Value → World → Prop)).getD jj (fun _ _ => True)) rfl ⟨fun kk => [_, _, _, _, _, _].getD kk undef, rfl⟩ (by kernel_rfl) (by kernel_rfl) ?steps ?fin
  case steps =>
    refine StepsAt.val 0 (.agg (pcs I seed (k : Int) (h : Int) (n : Int) (m : Int) (s : Int)).toArray) rfl (fun _ _ => rfl) rfl rfl (fun x w9 hb hd => ?_) ?_
    · exact run_load_blkU 30 (.tmp 2) rfl g0 rfl (pcs I seed (k : Int) (h : Int) (n : Int) (m : Int) (s : Int)) 30 (B1.out.below hb B1.out.lt) dP HUP.out HDP.out HPS.out
    refine StepsAt.cons 1 (fun _ _ _ h hb => h) (fun _ _ => rfl) rfl rfl (fun x w9 hb hd K hK => ?_) ?_
    · have h0 : Hid (x 0 = .agg (pcs I seed (k : Int) (h : Int) (n : Int) (m : Int) (s : Int)).toArray) := hd 0 (by kernel_rfl)
      go_simp
      refine calls_args (args2 := #[.agg (pcs I seed (k : Int) (h : Int) (n : Int) (m : Int) (s : Int)).toArray]) (by rw [h0.out]) ?_
      refine (leftP_yes I seed k h n m s _ HI.out HS.out HF.out).mono ?_
      rintro e w10 ⟨rfl, hb2⟩
      rw [HE1.out]
      exact hK.out _ _ hb2 rfl
    refine StepsAt.val 2 (.agg (pcs I seed (k : Int) (h : Int) (m : Int) (m : Int) (s : Int)).toArray) rfl (fun _ _ => rfl) rfl rfl (fun x w9 hb hd => ?_) ?_
    · exact run_load_blkU 30 (.tmp 9) rfl g9 rfl (pcs I seed (k : Int) (h : Int) (m : Int) (m : Int) (s : Int)) 30 (B9.out.below hb B9.out.lt) dP HUP.out HDP.out HCS.out
    refine StepsAt.cons 3 (fun _ _ _ h hb => h) (fun _ _ => rfl) rfl rfl (fun x w9 hb hd K hK => ?_) ?_
    · have h2 : Hid (x 2 = .agg (pcs I seed (k : Int) (h : Int) (m : Int) (m : Int) (s : Int)).toArray) := hd 2 (by kernel_rfl)
      go_simp
      refine calls_args (args2 := #[.agg (pcs I seed (k : Int) (h : Int) (m : Int) (m : Int) (s : Int)).toArray]) (by rw [h2.out]) ?_
      refine (leftP_yes I seed k h m m s _ HI.out HS.out HFC.out).mono ?_
      rintro e w10 ⟨rfl, hb2⟩
      rw [HE2.out]
      exact hK.out _ _ hb2 rfl
    refine StepsAt.val 4 (.int .i64 (D3 : Int)) rfl (fun _ _ => rfl) rfl rfl (fun x w9 hb hd => ?_) ?_
    · have h1 : x 1 = .int .i64 (D1 : Int) := hd 1 (by kernel_rfl)
      have h3 : x 3 = .int .i64 (D2 : Int) := hd 3 (by kernel_rfl)
      rw [h1, h3]
      go_simp
      rw [Z3.out]
      have := ZL.out
      exact wrap_i64 _ (by omega) (by omega)
    refine StepsAt.val 5 (.int .i64 (D3 : Int)) rfl (fun _ _ => rfl) rfl rfl (fun x w9 hb hd => ?_) ?_
    · have h4 : x 4 = .int .i64 (D3 : Int) := hd 4 (by kernel_rfl)
      rw [h4]
      first | (go_simp; done) | (go_simp; rfl)
    exact StepsAt.done
  case fin =>
    intro x w9 hb hd
    have h5 : x 5 = .int .i64 (D3 : Int) := hd 5 (by omega)
    refine AnyTill.any (S := fun _ => True) (m := 6) _ _ _ _ ?_
    refine AnyTill.done (by kernel_rfl) ?_
    refine NoPanic.normal ?_
    try dsimp only
    rw [h5]
    have E1 : Hid (Blk w9 g0 (pcs I seed (k : Int) (h : Int) (n : Int) (m : Int) (s : Int)) 30) := B1.out.below hb B1.out.lt
    have E5 : Hid (Blk w9 g5 (pcs I seed (k : Int) (h : Int) (n : Int) (m : Int) (s : Int)) 30) := B5.out.below hb B5.out.lt
    have E9 : Hid (Blk w9 g9 (pcs I seed (k : Int) (h : Int) (m : Int) (m : Int) (s : Int)) 30) := B9.out.below hb B9.out.lt
    have E3 : Hid (Below w.heap.size w w9) := B3.out.trans (hb.mono B3.out.size)
    generalize x 0 = y0
    generalize x 1 = y1
    generalize x 2 = y2
    generalize x 3 = y3
    generalize x 4 = y4
    clear hd h5 hb B1 B5 B9 B3 x
    have cn := (E1.out.cell 50).trans HCN.out
    have cm := (E1.out.cell 51).trans HCM.out
    have zw : IntKind.i64.wrap ((m : Int) - (n : Int)) = (D3 : Int) := by rw [Z4.out]; have := ZL.out; exact wrap_i64 _ (by omega) (by omega)
    go_wp2_with (refine wpList_load_blkUG 30 _ rfl g9 rfl (pcs I seed (k : Int) (h : Int) (m : Int) (m : Int) (s : Int)) 30 E9.out dP HUP.out HDP.out HCS.out (by rfl) ?_)
    refine (leftP_yes I seed k h m m s _ HI.out HS.out HFC.out).mono ?_
    rintro e w11 ⟨rfl, hb⟩
    rw [HE2.out]
    have F1 : Hid (Blk w11 g0 (pcs I seed (k : Int) (h : Int) (n : Int) (m : Int) (s : Int)) 30) := E1.out.below hb E1.out.lt
    have F5 : Hid (Blk w11 g5 (pcs I seed (k : Int) (h : Int) (n : Int) (m : Int) (s : Int)) 30) := E5.out.below hb E5.out.lt
    have F9 : Hid (Blk w11 g9 (pcs I seed (k : Int) (h : Int) (m : Int) (m : Int) (s : Int)) 30) := E9.out.below hb E9.out.lt
    have F3 : Hid (Below w.heap.size w w11) := E3.out.trans (hb.mono E3.out.size)
    clear hb E1 E5 E9 E3 cn cm zw
    have dz : decide ((D2 : Int) < 0) = false := decide_eq_false (by omega)
    go_wp2_with (refine wpList_load_blkUG 30 _ rfl g9 rfl (pcs I seed (k : Int) (h : Int) (m : Int) (m : Int) (s : Int)) 30 F9.out dP HUP.out HDP.out HCS.out (by rfl) ?_)
    refine (rightP_yes I seed k h m m s _ HI.out HS.out HFC.out).mono ?_
    rintro e w12 ⟨rfl, hb⟩
    have G1 : Hid (Blk w12 g0 (pcs I seed (k : Int) (h : Int) (n : Int) (m : Int) (s : Int)) 30) := F1.out.below hb F1.out.lt
    have G5 : Hid (Blk w12 g5 (pcs I seed (k : Int) (h : Int) (n : Int) (m : Int) (s : Int)) 30) := F5.out.below hb F5.out.lt
    have G3 : Hid (Below w.heap.size w w12) := F3.out.trans (hb.mono F3.out.size)
    clear hb F1 F5 F9 F3 dz
    go_wp2_with (refine wpList_load_blkU rfl 30 _ rfl g0 rfl (pcs I seed (k : Int) (h : Int) (n : Int) (m : Int) (s : Int)) 30 G1.out dP HUP.out HDP.out HPS.out ?_)
    refine (leftP_yes I seed k h n m s _ HI.out HS.out HF.out).mono ?_
    rintro e w13 ⟨rfl, hb⟩
    rw [HE1.out]
    have J1 : Hid (Blk w13 g0 (pcs I seed (k : Int) (h : Int) (n : Int) (m : Int) (s : Int)) 30) := G1.out.below hb G1.out.lt
    have J5 : Hid (Blk w13 g5 (pcs I seed (k : Int) (h : Int) (n : Int) (m : Int) (s : Int)) 30) := G5.out.below hb G5.out.lt
    have J3 : Hid (Below w.heap.size w w13) := G3.out.trans (hb.mono G3.out.size)
    clear hb G1 G5 G3
    obtain rfl : D1 = 0 := ZD1.out
    go_wp2_with fail
    refine (alive6_any _).mono ?_
    rintro e u ⟨rfl, hb⟩
    have U1 : Hid (Blk u g0 (pcs I seed (k : Int) (h : Int) (n : Int) (m : Int) (s : Int)) 30) := J1.out.below hb J1.out.lt
    have U5 : Hid (Blk u g5 (pcs I seed (k : Int) (h : Int) (n : Int) (m : Int) (s : Int)) 30) := J5.out.below hb J5.out.lt
    have U3 : Hid (Below w.heap.size w u) := J3.out.trans (hb.mono J3.out.size)
    clear hb J1 J5 J3
    have HEQ := Lib.hid (eqPurse_same I seed (k : Int) (h : Int) (n : Int) (m : Int) (s : Int) HI.out HS.out u)
    go_wp2_with (first | (refine wpList_runG (.bool true) (run_eql_agg 30 _ _ _ rfl (pcs I seed (k : Int) (h : Int) (n : Int) (m : Int) (s : Int)).toArray (pcs I seed (k : Int) (h : Int) (n : Int) (m : Int) (s : Int)).toArray rfl rfl gPurse true HEQ.out) (by rfl) ?_) | (refine wpList_load_blkUG 30 _ rfl g5 rfl (pcs I seed (k : Int) (h : Int) (n : Int) (m : Int) (s : Int)) 30 U5.out dP HUP.out HDP.out HPS.out (by rfl) ?_) | (refine wpList_load_blkUG 30 _ rfl g0 rfl (pcs I seed (k : Int) (h : Int) (n : Int) (m : Int) (s : Int)) 30 U1.out dP HUP.out HDP.out HPS.out (by rfl) ?_))
    go_ret
    exact ⟨rfl, U3.out⟩

set_option maxRecDepth 1000000 in
set_option maxHeartbeats 4000000 in
theorem leaves_old (I seed text : List UInt8) (k h n m s : Nat) (tv : Value) (w : World) (hI : I.length = 16) (hs : seed.length = 32) (ht : Rd w.heap.size w tv text) (hh : h = 1 ∨ h = 2) (hf : PFit k h n m s) (hl : text.length ≤ 1000) (hx : n < 2 ^ h) (M : Nat) (hM1 : n < M) (hM2 : M ≤ 2 ^ h) (hM3 : M = m) (hres : ∀ w, Calls Try.prog 17 #[.agg (pcs I seed (k : Int) (h : Int) (n : Int) (m : Int) (s : Int)).toArray] w (TwoD (.agg (pcs I seed (k : Int) (h : Int) (n : Int) (M : Int) (s : Int)).toArray) (.bool false) w)) : Calls Try.prog 4 #[.agg (pcs I seed (k : Int) (h : Int) (n : Int) (m : Int) (s : Int)).toArray, tv] w (One (.bool true) w) := by
  obtain ⟨At, ct, rfl, hct, hmt⟩ := ht.shape
  unfold maxLen at hmt
  have HTX := Lib.hid ht
  have HTL : Hid (text.length = text.length) := rfl
  obtain ⟨tl, hn⟩ : ∃ n, text.length = n := ⟨_, rfl⟩
  rw [hn] at hct HTX ⊢
  have HTN := Lib.hid hn
  have HI := Lib.hid hI
  have HS := Lib.hid hs
  have HT := Lib.hid (sTree' I seed (k : Int) (h : Int) hI hs)
  obtain ⟨dT, huT, hdT⟩ := rowTree
  have HU := Lib.hid huT
  have HD := Lib.hid hdT
  have HPS := Lib.hid (sPurse' I seed (k : Int) (h : Int) (n : Int) (m : Int) (s : Int) hI hs)
  obtain ⟨dP, huP, hdP⟩ := rowPurse
  have HUP := Lib.hid huP
  have HDP := Lib.hid hdP
  have HF := Lib.hid hf
  have HY : Hid ((h : Int) < 3 ∨ 5 < (h : Int)) := by rcases hh with rfl | rfl <;> exact .inl (by decide)
  rw [hn] at hl
  have zn : decide ((1000 : Int) < (tl : Int)) = false := decide_eq_false (by omega)
  obtain ⟨L, hL⟩ : ∃ L, 2 ^ h = L := ⟨_, rfl⟩
  have hL2 : L ≤ 32 := by rw [← hL]; exact hf.ht.pow.2
  have hmL : m ≤ L := by rw [← hL]; exact hf.mh
  have hnm := hf.nm
  have hs1 := hf.s1
  have hs8 := hf.s8
  rw [hL] at hx hM2
  have hfC : PFit k h m m s := ⟨hf.wd, hf.ht, Nat.le_refl _, hf.mh, hf.s1, hf.s8⟩
  have HFC := Lib.hid hfC
  obtain ⟨D1, hD1⟩ : ∃ D, L - n = D := ⟨_, rfl⟩
  obtain ⟨D2, hD2⟩ : ∃ D, L - m = D := ⟨_, rfl⟩
  obtain ⟨D3, hD3⟩ : ∃ D, m - n = D := ⟨_, rfl⟩
  have HE1 : Hid (2 ^ h - n = D1) := by show _ = _; rw [hL, hD1]
  have HE2 : Hid (2 ^ h - m = D2) := by show _ = _; rw [hL, hD2]
  have Z3 : Hid ((D1 : Int) - (D2 : Int) = (D3 : Int)) := by show _ = _; omega
  have Z4 : Hid ((m : Int) - (n : Int) = (D3 : Int)) := by show _ = _; omega
  have ZL : Hid (D1 ≤ 32 ∧ D2 ≤ 32 ∧ D3 ≤ 32) := by refine ⟨?_, ?_, ?_⟩ <;> omega
  have HCN := Lib.hid (pcs_n I seed (k : Int) (h : Int) (n : Int) (m : Int) (s : Int) hI hs)
  have HCM := Lib.hid (pcs_m I seed (k : Int) (h : Int) (n : Int) (m : Int) (s : Int) hI hs)
  have HCS := Lib.hid (sPurse' I seed (k : Int) (h : Int) (m : Int) (m : Int) (s : Int) hI hs)
  have HLC : Hid (pcs0.length = (pcs I seed (k : Int) (h : Int) (m : Int) (m : Int) (s : Int)).length) := by show _ = _; rw [pcs_length I seed _ _ _ _ _ hI hs]; rfl
  have HX : Hid (n < 2 ^ h) := by show _ < _; rw [hL]; exact hx
  obtain ⟨N1, hN1⟩ : ∃ N, n + 1 = N := ⟨_, rfl⟩
  have HN1 := Lib.hid hN1
  have hfQ : PFit k h N1 M s := ⟨hf.wd, hf.ht, by omega, by rw [hL]; exact hM2, hf.s1, hf.s8⟩
  have HFQ := Lib.hid hfQ
  obtain ⟨D4, hD4⟩ : ∃ D, L - N1 = D := ⟨_, rfl⟩
  have HE4 : Hid (2 ^ h - N1 = D4) := by show _ = _; rw [hL, hD4]
  have Z5 : Hid ((D1 : Int) - 1 = (D4 : Int)) := by show _ = _; omega
  have ZL4 : Hid (D4 ≤ 32) := by show _ ≤ _; omega
  have ZD1 : Hid (((D1 : Int) == 0) = false) := by show _ = _; simp; omega
  have ZMN : Hid (N1 ≤ M) := by show _ ≤ _; omega
  have HR := Lib.hid hres
  have HQS := Lib.hid (sPurse' I seed (k : Int) (h : Int) (N1 : Int) (M : Int) (s : Int) hI hs)
  have HLQ : Hid (pcs0.length = (pcs I seed (k : Int) (h : Int) (N1 : Int) (M : Int) (s : Int)).length) := by show _ = _; rw [pcs_length I seed _ _ _ _ _ hI hs]; rfl
  have HQN := Lib.hid (pcs_n I seed (k : Int) (h : Int) (N1 : Int) (M : Int) (s : Int) hI hs)
  have HQM := Lib.hid (pcs_m I seed (k : Int) (h : Int) (N1 : Int) (M : Int) (s : Int) hI hs)
  have HTL1 : Hid (text.length ≤ 100000) := by show _ ≤ _; omega
  have HMM := Lib.hid hM3
  clear ht hn hI hs huT hdT huP hdP hl hf hh hL hL2 hmL hnm hs1 hs8 hx hfC hD1 hD2 hD3 hN1 hfQ hD4 hres hM1 hM2 hM3
  go_enter Try.func4, Try.ntmps4
  go_wp2_with (refine wpList_box_blk rfl 30 _ rfl (pcs I seed (k : Int) (h : Int) (n : Int) (m : Int) (s : Int)) rfl ?_)
  intro w1 a1 a2 a3
  obtain ⟨g0, hg0⟩ : ∃ g, w.heap.size = g := ⟨_, rfl⟩
  have A1 : Hid (Blk w1 g0 (pcs I seed (k : Int) (h : Int) (n : Int) (m : Int) (s : Int)) 30) := by rw [← hg0]; exact a1
  have A3 := Lib.hid a3
  have HG0 := Lib.hid hg0
  rw [hg0]
  clear a1 a2 a3 hg0
  go_wp2_with (refine wpList_load_mid rfl 25 _ rfl g0 0 rfl (tcs I seed (k : Int) (h : Int)) dT (pcs_range A1.out) HU.out HD.out HT.out ?_)
  refine (low6_yes I seed (k : Int) (h : Int) _ HI.out HS.out HY.out).mono ?_
  rintro e w2 ⟨rfl, hb⟩
  have B1 : Hid (Blk w2 g0 (pcs I seed (k : Int) (h : Int) (n : Int) (m : Int) (s : Int)) 30) := A1.out.below hb A1.out.lt
  have B3 : Hid (Below w.heap.size w w2) := A3.out.trans (hb.mono A3.out.size)
  clear hb A1 A3
  go_wp2_with (refine wpList_load_blkUG 30 _ rfl g0 rfl (pcs I seed (k : Int) (h : Int) (n : Int) (m : Int) (s : Int)) 30 B1.out dP HUP.out HDP.out HPS.out (by rfl) ?_)
  refine (plain6_any I seed _ _ _ _ _ _ HI.out HS.out).mono ?_
  rintro e w3 ⟨rfl, hb⟩
  have C1 : Hid (Blk w3 g0 (pcs I seed (k : Int) (h : Int) (n : Int) (m : Int) (s : Int)) 30) := B1.out.below hb B1.out.lt
  have C3 : Hid (Below w.heap.size w w3) := B3.out.trans (hb.mono B3.out.size)
  clear hb B1 B3
  go_wp2_with fail
  refine (rf6Right_yes I seed k h n m s _ HI.out HS.out HF.out).mono ?_
  rintro e w4 ⟨rfl, hb⟩
  have D1b : Hid (Blk w4 g0 (pcs I seed (k : Int) (h : Int) (n : Int) (m : Int) (s : Int)) 30) := C1.out.below hb C1.out.lt
  have D3b : Hid (Below w.heap.size w w4) := C3.out.trans (hb.mono C3.out.size)
  clear hb C1 C3
  go_wp2_with (refine wpList_load_blkU rfl 30 _ rfl g0 rfl (pcs I seed (k : Int) (h : Int) (n : Int) (m : Int) (s : Int)) 30 D1b.out dP HUP.out HDP.out HPS.out ?_)
  refine (signP_leaf I seed text k h n m s M false _ _ HI.out HS.out HF.out HX.out ((HTX.out.below D3b.out).more D3b.out.size) HTL1.out HR.out).mono ?_
  rintro e w5 ⟨v5, rfl, hown, hb⟩
  rw [HN1.out]
  have B1 : Hid (Blk w5 g0 (pcs I seed (k : Int) (h : Int) (n : Int) (m : Int) (s : Int)) 30) := D1b.out.below hb D1b.out.lt
  have B3 : Hid (Below w.heap.size w w5) := D3b.out.trans (hb.mono D3b.out.size)
  clear hb D1b D3b hown
  go_wp2_with (refine wpList_alloc_blk rfl 30 rfl _ ziPurse ?_)
  intro w6 a1 a2 a3
  obtain ⟨g5, hg5⟩ : ∃ g, w5.heap.size = g := ⟨_, rfl⟩
  have h05 : g0 < g5 := by have := B1.out.lt; omega
  rw [hg5] at a1 a2 a3 ⊢
  have A1 := Lib.hid a1
  obtain ⟨t6, ht6⟩ : ∃ t, w6.setRow g5 (pcs I seed (k : Int) (h : Int) (N1 : Int) (M : Int) (s : Int)).toArray = t := ⟨_, rfl⟩
  have C1 : Hid (Blk t6 g0 (pcs I seed (k : Int) (h : Int) (n : Int) (m : Int) (s : Int)) 30) := by show Blk _ _ _ _; rw [← ht6]; exact (B1.out.below a3 h05).setRowOther (by omega)
  have C5 : Hid (Blk t6 g5 (pcs I seed (k : Int) (h : Int) (N1 : Int) (M : Int) (s : Int)) 30) := by show Blk _ _ _ _; rw [← ht6]; exact a1.setRow
  have C3 : Hid (Below w.heap.size w t6) := by show Below _ _ _; rw [← ht6]; exact below_setRow' (B3.out.trans (a3.mono (by rw [← hg5]; exact B3.out.size))) (by rw [← hg5]; exact B3.out.size) _
  have HT6 := Lib.hid ht6
  clear a1 a2 a3 B1 B3 ht6 hg5 h05
  go_wp2_with (first | (refine wpList_store_blk rfl 30 _ _ rfl g5 (pcs I seed (k : Int) (h : Int) (N1 : Int) (M : Int) (s : Int)) pcs0 30 rfl rfl A1.out HQS.out HLQ.out (pcs_one _ _ _ _ _ _ _) ?_; rw [HT6.out]; clear HT6) | (refine wpList_load_blkU rfl 30 _ rfl g0 rfl (pcs I seed (k : Int) (h : Int) (n : Int) (m : Int) (s : Int)) 30 C1.out dP HUP.out HDP.out HPS.out ?_))
  refine (crashP_any I seed _ _ _ _ _ _ HI.out HS.out).mono ?_
  rintro e w7 ⟨rfl, hb⟩
  have D1b : Hid (Blk w7 g0 (pcs I seed (k : Int) (h : Int) (n : Int) (m : Int) (s : Int)) 30) := C1.out.below hb C1.out.lt
  have D5b : Hid (Blk w7 g5 (pcs I seed (k : Int) (h : Int) (N1 : Int) (M : Int) (s : Int)) 30) := C5.out.below hb C5.out.lt
  have D3b : Hid (Below w.heap.size w w7) := C3.out.trans (hb.mono C3.out.size)
  clear hb A1 C1 C5 C3
  go_wp2_with (refine wpList_alloc_blk rfl 30 rfl _ ziPurse ?_)
  intro w8 a1 a2 a3
  obtain ⟨g9, hg9⟩ : ∃ g, w7.heap.size = g := ⟨_, rfl⟩
  have h09 : g0 < g9 := by have := D1b.out.lt; omega
  have h59 : g5 < g9 := by have := D5b.out.lt; omega
  rw [hg9] at a1 a2 a3 ⊢
  have A1 := Lib.hid a1
  obtain ⟨t8, ht8⟩ : ∃ t, w8.setRow g9 (pcs I seed (k : Int) (h : Int) (m : Int) (m : Int) (s : Int)).toArray = t := ⟨_, rfl⟩
  have B1 : Hid (Blk t8 g0 (pcs I seed (k : Int) (h : Int) (n : Int) (m : Int) (s : Int)) 30) := by show Blk _ _ _ _; rw [← ht8]; exact (D1b.out.below a3 h09).setRowOther (by omega)
  have B5 : Hid (Blk t8 g5 (pcs I seed (k : Int) (h : Int) (N1 : Int) (M : Int) (s : Int)) 30) := by show Blk _ _ _ _; rw [← ht8]; exact (D5b.out.below a3 h59).setRowOther (by omega)
  have B9 : Hid (Blk t8 g9 (pcs I seed (k : Int) (h : Int) (m : Int) (m : Int) (s : Int)) 30) := by show Blk _ _ _ _; rw [← ht8]; exact a1.setRow
  have B3 : Hid (Below w.heap.size w t8) := by show Below _ _ _; rw [← ht8]; exact below_setRow' (D3b.out.trans (a3.mono (by rw [← hg9]; exact D3b.out.size))) (by rw [← hg9]; exact D3b.out.size) _
  have HT8 := Lib.hid ht8
  clear a1 a2 a3 D1b D5b D3b ht8 hg9 h09 h59
  go_wp2_with (refine wpList_store_blk rfl 30 _ _ rfl g9 (pcs I seed (k : Int) (h : Int) (m : Int) (m : Int) (s : Int)) pcs0 30 rfl rfl A1.out HCS.out HLC.out (pcs_one _ _ _ _ _ _ _) ?_; rw [HT8.out]; clear HT8)
  clear A1
  refine wp_region_rely2 6 0 (fun x => ⟨#[Value.agg (pcs I seed ↑k ↑h ↑n ↑m ↑s).toArray, Value.slice At tl ct, Value.pointer (some { block := g0, off := 0 }), undef, Value.bool false, Value.pointer (some { block := g5, off := 0 }), v5, Value.bool false, Value.int IntKind.i64 0, Value.pointer (some { block := g9, off := 0 }), x 5, Value.pointer (some { block := g0, off := 0 }), Value.agg (tcs I seed ↑k ↑h).toArray, Value.bool true, Value.bool false, Value.bool false, Value.slice At tl ct, Value.int IntKind.i64 ↑tl, Value.bool false, Value.bool false, Value.bool false, Value.agg (pcs I seed ↑k ↑h ↑n ↑m ↑s).toArray, Value.agg (pcs I seed ↑k ↑h ↑n ↑m ↑s).toArray, Value.bool true, Value.bool false, Value.bool false, undef, Value.tuple #[Value.agg (pcs I seed ↑k ↑h ↑N1 ↑M ↑s).toArray, v5, Value.bool false, Value.int IntKind.i64 0], Value.agg (pcs I seed ↑k ↑h ↑n ↑m ↑s).toArray, Value.slice At tl ct, Value.tuple #[Value.agg (pcs I seed ↑k ↑h ↑N1 ↑M ↑s).toArray, v5, Value.bool false, Value.int IntKind.i64 0], Value.agg (pcs I seed ↑k ↑h ↑N1 ↑M ↑s).toArray, v5, Value.bool false, Value.int IntKind.i64 0, Value.agg (pcs I seed ↑k ↑h ↑n ↑m ↑s).toArray, Value.agg (pcs I seed ↑k ↑h ↑m ↑m ↑s).toArray, x 0, x 1, x 2, x 3, x 4, undef, undef, undef, undef, undef, undef, undef, undef, undef, undef, undef, undef, undef, undef, undef, undef, undef, undef, undef, undef, undef, undef, undef, undef, undef, undef, undef, undef, undef, undef, undef, undef, undef, undef, undef, undef, undef, undef, undef, undef, undef, undef, undef, undef, undef, undef, undef, undef, undef, undef, undef, undef, undef, undef, undef, undef, undef, undef, undef, undef, undef, undef, undef, undef, undef, undef, undef, undef, undef, undef, undef, undef, undef], []⟩) (fun jj => ([eqV (.agg (pcs I seed (k : Int) (h : Int) (n : Int) (m : Int) (s : Int)).toArray), (eqV (.int .i64 (D1 : Int))), eqV (.agg (pcs I seed (k : Int) (h : Int) (m : Int) (m : Int) (s : Int)).toArray), (eqV (.int .i64 (D2 : Int))), eqV (.int .i64 (D3 : Int)), eqV (.int .i64 (D3 : Int))] : List (Value → World → Prop)).getD jj (fun _ _ => True)) rfl ⟨fun kk => [_, _, _, _, _, _].getD kk undef, rfl⟩ (by kernel_rfl) (by kernel_rfl) ?steps ?fin
  case steps =>
    refine StepsAt.val 0 (.agg (pcs I seed (k : Int) (h : Int) (n : Int) (m : Int) (s : Int)).toArray) rfl (fun _ _ => rfl) rfl rfl (fun x w9 hb hd => ?_) ?_
    · exact run_load_blkU 30 (.tmp 2) rfl g0 rfl (pcs I seed (k : Int) (h : Int) (n : Int) (m : Int) (s : Int)) 30 (B1.out.below hb B1.out.lt) dP HUP.out HDP.out HPS.out
    refine StepsAt.cons 1 (fun _ _ _ h hb => h) (fun _ _ => rfl) rfl rfl (fun x w9 hb hd K hK => ?_) ?_
    · have h0 : Hid (x 0 = .agg (pcs I seed (k : Int) (h : Int) (n : Int) (m : Int) (s : Int)).toArray) := hd 0 (by kernel_rfl)
      go_simp
      refine calls_args (args2 := #[.agg (pcs I seed (k : Int) (h : Int) (n : Int) (m : Int) (s : Int)).toArray]) (by rw [h0.out]) ?_
      refine (leftP_yes I seed k h n m s _ HI.out HS.out HF.out).mono ?_
      rintro e w10 ⟨rfl, hb2⟩
      rw [HE1.out]
      exact hK.out _ _ hb2 rfl
    refine StepsAt.val 2 (.agg (pcs I seed (k : Int) (h : Int) (m : Int) (m : Int) (s : Int)).toArray) rfl (fun _ _ => rfl) rfl rfl (fun x w9 hb hd => ?_) ?_
    · exact run_load_blkU 30 (.tmp 9) rfl g9 rfl (pcs I seed (k : Int) (h : Int) (m : Int) (m : Int) (s : Int)) 30 (B9.out.below hb B9.out.lt) dP HUP.out HDP.out HCS.out
    refine StepsAt.cons 3 (fun _ _ _ h hb => h) (fun _ _ => rfl) rfl rfl (fun x w9 hb hd K hK => ?_) ?_
    · have h2 : Hid (x 2 = .agg (pcs I seed (k : Int) (h : Int) (m : Int) (m : Int) (s : Int)).toArray) := hd 2 (by kernel_rfl)
      go_simp
      refine calls_args (args2 := #[.agg (pcs I seed (k : Int) (h : Int) (m : Int) (m : Int) (s : Int)).toArray]) (by rw [h2.out]) ?_
      refine (leftP_yes I seed k h m m s _ HI.out HS.out HFC.out).mono ?_
      rintro e w10 ⟨rfl, hb2⟩
      rw [HE2.out]
      exact hK.out _ _ hb2 rfl
    refine StepsAt.val 4 (.int .i64 (D3 : Int)) rfl (fun _ _ => rfl) rfl rfl (fun x w9 hb hd => ?_) ?_
    · have h1 : x 1 = .int .i64 (D1 : Int) := hd 1 (by kernel_rfl)
      have h3 : x 3 = .int .i64 (D2 : Int) := hd 3 (by kernel_rfl)
      rw [h1, h3]
      go_simp
      rw [Z3.out]
      have := ZL.out
      exact wrap_i64 _ (by omega) (by omega)
    refine StepsAt.val 5 (.int .i64 (D3 : Int)) rfl (fun _ _ => rfl) rfl rfl (fun x w9 hb hd => ?_) ?_
    · have h4 : x 4 = .int .i64 (D3 : Int) := hd 4 (by kernel_rfl)
      rw [h4]
      first | (go_simp; done) | (go_simp; rfl)
    exact StepsAt.done
  case fin =>
    intro x w9 hb hd
    have h5 : x 5 = .int .i64 (D3 : Int) := hd 5 (by omega)
    refine AnyTill.any (S := fun _ => True) (m := 6) _ _ _ _ ?_
    refine AnyTill.done (by kernel_rfl) ?_
    refine NoPanic.normal ?_
    try dsimp only
    rw [h5]
    have E1 : Hid (Blk w9 g0 (pcs I seed (k : Int) (h : Int) (n : Int) (m : Int) (s : Int)) 30) := B1.out.below hb B1.out.lt
    have E5 : Hid (Blk w9 g5 (pcs I seed (k : Int) (h : Int) (N1 : Int) (M : Int) (s : Int)) 30) := B5.out.below hb B5.out.lt
    have E9 : Hid (Blk w9 g9 (pcs I seed (k : Int) (h : Int) (m : Int) (m : Int) (s : Int)) 30) := B9.out.below hb B9.out.lt
    have E3 : Hid (Below w.heap.size w w9) := B3.out.trans (hb.mono B3.out.size)
    generalize x 0 = y0
    generalize x 1 = y1
    generalize x 2 = y2
    generalize x 3 = y3
    generalize x 4 = y4
    clear hd h5 hb B1 B5 B9 B3 x
    have cn := (E1.out.cell 50).trans HCN.out
    have cm := (E1.out.cell 51).trans HCM.out
    have zw : IntKind.i64.wrap ((m : Int) - (n : Int)) = (D3 : Int) := by rw [Z4.out]; have := ZL.out; exact wrap_i64 _ (by omega) (by omega)
    go_wp2_with (refine wpList_load_blkUG 30 _ rfl g9 rfl (pcs I seed (k : Int) (h : Int) (m : Int) (m : Int) (s : Int)) 30 E9.out dP HUP.out HDP.out HCS.out (by rfl) ?_)
    refine (leftP_yes I seed k h m m s _ HI.out HS.out HFC.out).mono ?_
    rintro e w11 ⟨rfl, hb⟩
    rw [HE2.out]
    have F1 : Hid (Blk w11 g0 (pcs I seed (k : Int) (h : Int) (n : Int) (m : Int) (s : Int)) 30) := E1.out.below hb E1.out.lt
    have F5 : Hid (Blk w11 g5 (pcs I seed (k : Int) (h : Int) (N1 : Int) (M : Int) (s : Int)) 30) := E5.out.below hb E5.out.lt
    have F9 : Hid (Blk w11 g9 (pcs I seed (k : Int) (h : Int) (m : Int) (m : Int) (s : Int)) 30) := E9.out.below hb E9.out.lt
    have F3 : Hid (Below w.heap.size w w11) := E3.out.trans (hb.mono E3.out.size)
    clear hb E1 E5 E9 E3 cn cm zw
    have dz : decide ((D2 : Int) < 0) = false := decide_eq_false (by omega)
    go_wp2_with (refine wpList_load_blkUG 30 _ rfl g9 rfl (pcs I seed (k : Int) (h : Int) (m : Int) (m : Int) (s : Int)) 30 F9.out dP HUP.out HDP.out HCS.out (by rfl) ?_)
    refine (rightP_yes I seed k h m m s _ HI.out HS.out HFC.out).mono ?_
    rintro e w12 ⟨rfl, hb⟩
    have G1 : Hid (Blk w12 g0 (pcs I seed (k : Int) (h : Int) (n : Int) (m : Int) (s : Int)) 30) := F1.out.below hb F1.out.lt
    have G5 : Hid (Blk w12 g5 (pcs I seed (k : Int) (h : Int) (N1 : Int) (M : Int) (s : Int)) 30) := F5.out.below hb F5.out.lt
    have G3 : Hid (Below w.heap.size w w12) := F3.out.trans (hb.mono F3.out.size)
    clear hb F1 F5 F9 F3 dz
    go_wp2_with (refine wpList_load_blkU rfl 30 _ rfl g0 rfl (pcs I seed (k : Int) (h : Int) (n : Int) (m : Int) (s : Int)) 30 G1.out dP HUP.out HDP.out HPS.out ?_)
    refine (leftP_yes I seed k h n m s _ HI.out HS.out HF.out).mono ?_
    rintro e w13 ⟨rfl, hb⟩
    rw [HE1.out]
    have J1 : Hid (Blk w13 g0 (pcs I seed (k : Int) (h : Int) (n : Int) (m : Int) (s : Int)) 30) := G1.out.below hb G1.out.lt
    have J5 : Hid (Blk w13 g5 (pcs I seed (k : Int) (h : Int) (N1 : Int) (M : Int) (s : Int)) 30) := G5.out.below hb G5.out.lt
    have J3 : Hid (Below w.heap.size w w13) := G3.out.trans (hb.mono G3.out.size)
    clear hb G1 G5 G3
    have dd := ZD1.out
    go_wp2_with fail
    refine wp_region_rely2 35 0 (fun x => ⟨#[Value.agg (pcs I seed ↑k ↑h ↑n ↑m ↑s).toArray, Value.slice At tl ct, Value.pointer (some { block := g0, off := 0 }), undef, x 34, Value.pointer (some { block := g5, off := 0 }), v5, Value.bool false, Value.int IntKind.i64 0, Value.pointer (some { block := g9, off := 0 }), Value.int IntKind.i64 ↑D3, Value.pointer (some { block := g0, off := 0 }), Value.agg (tcs I seed ↑k ↑h).toArray, Value.bool true, Value.bool false, Value.bool false, Value.slice At tl ct, Value.int IntKind.i64 ↑tl, Value.bool false, Value.bool false, Value.bool false, Value.agg (pcs I seed ↑k ↑h ↑n ↑m ↑s).toArray, Value.agg (pcs I seed ↑k ↑h ↑n ↑m ↑s).toArray, Value.bool true, Value.bool false, Value.bool false, undef, Value.tuple #[Value.agg (pcs I seed ↑k ↑h ↑N1 ↑M ↑s).toArray, v5, Value.bool false, Value.int IntKind.i64 0], Value.agg (pcs I seed ↑k ↑h ↑n ↑m ↑s).toArray, Value.slice At tl ct, Value.tuple #[Value.agg (pcs I seed ↑k ↑h ↑N1 ↑M ↑s).toArray, v5, Value.bool false, Value.int IntKind.i64 0], Value.agg (pcs I seed ↑k ↑h ↑N1 ↑M ↑s).toArray, v5, Value.bool false, Value.int IntKind.i64 0, Value.agg (pcs I seed ↑k ↑h ↑n ↑m ↑s).toArray, Value.agg (pcs I seed ↑k ↑h ↑m ↑m ↑s).toArray, y0, y1, y2, y3, y4, Value.int IntKind.i64 ↑D3, Value.pointer (some { block := g0, off := 51 }), Value.int IntKind.i64 ↑m, Value.pointer (some { block := g0, off := 50 }), Value.int IntKind.i64 ↑n, Value.int IntKind.i64 ↑D3, Value.bool false, Value.bool false, Value.agg (pcs I seed ↑k ↑h ↑m ↑m ↑s).toArray, Value.int IntKind.i64 ↑D2, Value.bool false, Value.bool false, Value.bool false, Value.agg (pcs I seed ↑k ↑h ↑m ↑m ↑s).toArray, Value.bool true, Value.bool false, Value.bool false, Value.agg (pcs I seed ↑k ↑h ↑n ↑m ↑s).toArray, Value.int IntKind.i64 ↑D1, Value.bool false, undef, undef, undef, undef, undef, undef, undef, undef, undef, undef, undef, undef, undef, undef, undef, undef, undef, undef, undef, x 0, x 1, x 2, x 3, x 4, x 5, x 6, x 7, x 8, x 9, x 10, x 11, x 12, x 13, x 14, x 15, x 16, x 17, x 18, x 19, x 20, x 21, x 22, x 23, x 24, x 25, x 26, x 27, x 28, x 29, x 30, x 31, x 32, x 33], []⟩) (fun jj => ([(eqV (.bool true)), eqV (.bool true), eqV (.int .i64 0), eqV (.bool true), eqV (.bool true), eqV (.bool true), eqV (.agg (pcs I seed (k : Int) (h : Int) (N1 : Int) (M : Int) (s : Int)).toArray), (eqV (.int .i64 (D4 : Int))), eqV (.agg (pcs I seed (k : Int) (h : Int) (n : Int) (m : Int) (s : Int)).toArray), (eqV (.int .i64 (D1 : Int))), eqV (.int .i64 (D4 : Int)), eqV (.bool true), eqV (.bool true), eqV (.bool true), eqV (.agg (pcs I seed (k : Int) (h : Int) (N1 : Int) (M : Int) (s : Int)).toArray), (eqV (.bool true)), eqV (.bool true), eqV (.bool true), eqV (.pointer (some ⟨g5, 51, none⟩)), eqV (.int .i64 (M : Int)), eqV (.pointer (some ⟨g5, 50, none⟩)), eqV (.int .i64 (N1 : Int)), eqV (.bool true), eqV (.bool true), eqV (.bool true), eqV (.bool false), eqV (.bool false), eqV (.pointer (some ⟨g5, 51, none⟩)), eqV (.int .i64 (M : Int)), eqV (.pointer (some ⟨g0, 51, none⟩)), eqV (.int .i64 (m : Int)), eqV (.bool true), eqV (.bool true), eqV (.bool true), eqV (.bool true)] : List (Value → World → Prop)).getD jj (fun _ _ => True)) rfl ⟨fun kk => [_, _, _, _, _, _, _, _, _, _, _, _, _, _, _, _, _, _, _, _, _, _, _, _, _, _, _, _, _, _, _, _, _, _, _].getD kk undef, rfl⟩ (by kernel_rfl) (by kernel_rfl) ?steps ?fin
    case steps =>
      refine StepsAt.cons 0 (fun _ _ _ h hb => h) (fun _ _ => rfl) rfl rfl (fun x w14 hb hd K hK => ?_) ?_
      · go_simp
        refine (alive6_any _).mono ?_
        rintro e w15 ⟨rfl, hb2⟩
        exact hK.out _ _ hb2 rfl
      refine StepsAt.val 1 (.bool true) rfl (fun _ _ => rfl) rfl rfl (fun x w14 hb hd => ?_) ?_
      · have h0 : x 0 = .bool true := hd 0 (by kernel_rfl)
        rw [h0]
        first | (go_simp; done) | (go_simp; rfl)
      refine StepsAt.valG 2 (.int .i64 0) rfl (fun _ _ => rfl) rfl (fun x w14 hd => ?_) (fun x w14 hb hd => ?_) ?_
      · have hG : x 1 = .bool true := hd 1 (by kernel_rfl)
        simp [Region.wanted, yielded, hG]
      · first | (go_simp; done) | (go_simp; rfl)
      refine StepsAt.valG 3 (.bool true) rfl (fun _ _ => rfl) rfl (fun x w14 hd => ?_) (fun x w14 hb hd => ?_) ?_
      · have hG : x 1 = .bool true := hd 1 (by kernel_rfl)
        simp [Region.wanted, yielded, hG]
      · have h2 : x 2 = .int .i64 0 := hd 2 (by kernel_rfl)
        rw [h2]
        first | (go_simp; done) | (go_simp; rfl)
      refine StepsAt.val 4 (.bool true) rfl (fun _ _ => rfl) rfl rfl (fun x w14 hb hd => ?_) ?_
      · have h1 : x 1 = .bool true := hd 1 (by kernel_rfl)
        have h3 : x 3 = .bool true := hd 3 (by kernel_rfl)
        rw [h1, h3]
        first | (go_simp; done) | (go_simp; rfl)
      refine StepsAt.val 5 (.bool true) rfl (fun _ _ => rfl) rfl rfl (fun x w14 hb hd => ?_) ?_
      · have h4 : x 4 = .bool true := hd 4 (by kernel_rfl)
        rw [h4]
        first | (go_simp; done) | (go_simp; rfl)
      refine StepsAt.valG 6 (.agg (pcs I seed (k : Int) (h : Int) (N1 : Int) (M : Int) (s : Int)).toArray) rfl (fun _ _ => rfl) rfl (fun x w14 hd => ?_) (fun x w14 hb hd => ?_) ?_
      · have hG : x 5 = .bool true := hd 5 (by kernel_rfl)
        simp [Region.wanted, yielded, hG]
      · exact run_load_blkU 30 (.tmp 5) rfl g5 rfl (pcs I seed (k : Int) (h : Int) (N1 : Int) (M : Int) (s : Int)) 30 (J5.out.below hb J5.out.lt) dP HUP.out HDP.out HQS.out
      refine StepsAt.consG 7 (fun _ _ _ h hb => h) (fun _ _ => rfl) rfl (fun x w14 hd => ?_) (fun x w14 hb hd K hK => ?_) ?_
      · have hG : x 5 = .bool true := hd 5 (by kernel_rfl)
        simp [Region.wanted, yielded, hG]
      · have h6 : Hid (x 6 = .agg (pcs I seed (k : Int) (h : Int) (N1 : Int) (M : Int) (s : Int)).toArray) := hd 6 (by kernel_rfl)
        go_simp
        refine calls_args (args2 := #[.agg (pcs I seed (k : Int) (h : Int) (N1 : Int) (M : Int) (s : Int)).toArray]) (by rw [h6.out]) ?_
        refine (leftP_yes I seed k h N1 M s _ HI.out HS.out HFQ.out).mono ?_
        rintro e w15 ⟨rfl, hb2⟩
        rw [HE4.out]
        exact hK.out _ _ hb2 rfl
      refine StepsAt.valG 8 (.agg (pcs I seed (k : Int) (h : Int) (n : Int) (m : Int) (s : Int)).toArray) rfl (fun _ _ => rfl) rfl (fun x w14 hd => ?_) (fun x w14 hb hd => ?_) ?_
      · have hG : x 5 = .bool true := hd 5 (by kernel_rfl)
        simp [Region.wanted, yielded, hG]
      · exact run_load_blkU 30 (.tmp 2) rfl g0 rfl (pcs I seed (k : Int) (h : Int) (n : Int) (m : Int) (s : Int)) 30 (J1.out.below hb J1.out.lt) dP HUP.out HDP.out HPS.out
      refine StepsAt.consG 9 (fun _ _ _ h hb => h) (fun _ _ => rfl) rfl (fun x w14 hd => ?_) (fun x w14 hb hd K hK => ?_) ?_
      · have hG : x 5 = .bool true := hd 5 (by kernel_rfl)
        simp [Region.wanted, yielded, hG]
      · have h8 : Hid (x 8 = .agg (pcs I seed (k : Int) (h : Int) (n : Int) (m : Int) (s : Int)).toArray) := hd 8 (by kernel_rfl)
        go_simp
        refine calls_args (args2 := #[.agg (pcs I seed (k : Int) (h : Int) (n : Int) (m : Int) (s : Int)).toArray]) (by rw [h8.out]) ?_
        refine (leftP_yes I seed k h n m s _ HI.out HS.out HF.out).mono ?_
        rintro e w15 ⟨rfl, hb2⟩
        rw [HE1.out]
        exact hK.out _ _ hb2 rfl
      refine StepsAt.valG 10 (.int .i64 (D4 : Int)) rfl (fun _ _ => rfl) rfl (fun x w14 hd => ?_) (fun x w14 hb hd => ?_) ?_
      · have hG : x 5 = .bool true := hd 5 (by kernel_rfl)
        simp [Region.wanted, yielded, hG]
      · have h9 : x 9 = .int .i64 (D1 : Int) := hd 9 (by kernel_rfl)
        rw [h9]
        go_simp
        rw [Z5.out]
        have := ZL4.out
        exact wrap_i64 _ (by omega) (by omega)
      refine StepsAt.valG 11 (.bool true) rfl (fun _ _ => rfl) rfl (fun x w14 hd => ?_) (fun x w14 hb hd => ?_) ?_
      · have hG : x 5 = .bool true := hd 5 (by kernel_rfl)
        simp [Region.wanted, yielded, hG]
      · have h7 : x 7 = .int .i64 (D4 : Int) := hd 7 (by kernel_rfl)
        have h10 : x 10 = .int .i64 (D4 : Int) := hd 10 (by kernel_rfl)
        rw [h7, h10]
        first | (go_simp; done) | (go_simp; rfl)
      refine StepsAt.val 12 (.bool true) rfl (fun _ _ => rfl) rfl rfl (fun x w14 hb hd => ?_) ?_
      · have h5 : x 5 = .bool true := hd 5 (by kernel_rfl)
        have h11 : x 11 = .bool true := hd 11 (by kernel_rfl)
        rw [h5, h11]
        first | (go_simp; done) | (go_simp; rfl)
      refine StepsAt.val 13 (.bool true) rfl (fun _ _ => rfl) rfl rfl (fun x w14 hb hd => ?_) ?_
      · have h12 : x 12 = .bool true := hd 12 (by kernel_rfl)
        rw [h12]
        first | (go_simp; done) | (go_simp; rfl)
      refine StepsAt.valG 14 (.agg (pcs I seed (k : Int) (h : Int) (N1 : Int) (M : Int) (s : Int)).toArray) rfl (fun _ _ => rfl) rfl (fun x w14 hd => ?_) (fun x w14 hb hd => ?_) ?_
      · have hG : x 13 = .bool true := hd 13 (by kernel_rfl)
        simp [Region.wanted, yielded, hG]
      · exact run_load_blkU 30 (.tmp 5) rfl g5 rfl (pcs I seed (k : Int) (h : Int) (N1 : Int) (M : Int) (s : Int)) 30 (J5.out.below hb J5.out.lt) dP HUP.out HDP.out HQS.out
      refine StepsAt.consG 15 (fun _ _ _ h hb => h) (fun _ _ => rfl) rfl (fun x w14 hd => ?_) (fun x w14 hb hd K hK => ?_) ?_
      · have hG : x 13 = .bool true := hd 13 (by kernel_rfl)
        simp [Region.wanted, yielded, hG]
      · have h14 : Hid (x 14 = .agg (pcs I seed (k : Int) (h : Int) (N1 : Int) (M : Int) (s : Int)).toArray) := hd 14 (by kernel_rfl)
        go_simp
        refine calls_args (args2 := #[.agg (pcs I seed (k : Int) (h : Int) (N1 : Int) (M : Int) (s : Int)).toArray]) (by rw [h14.out]) ?_
        refine (rightP_yes I seed k h N1 M s _ HI.out HS.out HFQ.out).mono ?_
        rintro e w15 ⟨rfl, hb2⟩
        exact hK.out _ _ hb2 rfl
      refine StepsAt.val 16 (.bool true) rfl (fun _ _ => rfl) rfl rfl (fun x w14 hb hd => ?_) ?_
      · have h13 : x 13 = .bool true := hd 13 (by kernel_rfl)
        have h15 : x 15 = .bool true := hd 15 (by kernel_rfl)
        rw [h13, h15]
        first | (go_simp; done) | (go_simp; rfl)
      refine StepsAt.val 17 (.bool true) rfl (fun _ _ => rfl) rfl rfl (fun x w14 hb hd => ?_) ?_
      · have h16 : x 16 = .bool true := hd 16 (by kernel_rfl)
        rw [h16]
        first | (go_simp; done) | (go_simp; rfl)
      refine StepsAt.valG 18 (.pointer (some ⟨g5, 51, none⟩)) rfl (fun _ _ => rfl) rfl (fun x w14 hd => ?_) (fun x w14 hb hd => ?_) ?_
      · have hG : x 17 = .bool true := hd 17 (by kernel_rfl)
        simp [Region.wanted, yielded, hG]
      · first | (go_simp; done) | (go_simp; rfl)
      refine StepsAt.valG 19 (.int .i64 (M : Int)) rfl (fun _ _ => rfl) rfl (fun x w14 hd => ?_) (fun x w14 hb hd => ?_) ?_
      · have hG : x 17 = .bool true := hd 17 (by kernel_rfl)
        simp [Region.wanted, yielded, hG]
      · have h18 : x 18 = .pointer (some ⟨g5, 51, none⟩) := hd 18 (by kernel_rfl)
        have cc := ((J5.out.below hb J5.out.lt).cell 51).trans HQM.out
        rw [h18]
        first | (go_simp; done) | (go_simp; rfl)
      refine StepsAt.valG 20 (.pointer (some ⟨g5, 50, none⟩)) rfl (fun _ _ => rfl) rfl (fun x w14 hd => ?_) (fun x w14 hb hd => ?_) ?_
      · have hG : x 17 = .bool true := hd 17 (by kernel_rfl)
        simp [Region.wanted, yielded, hG]
      · first | (go_simp; done) | (go_simp; rfl)
      refine StepsAt.valG 21 (.int .i64 (N1 : Int)) rfl (fun _ _ => rfl) rfl (fun x w14 hd => ?_) (fun x w14 hb hd => ?_) ?_
      · have hG : x 17 = .bool true := hd 17 (by kernel_rfl)
        simp [Region.wanted, yielded, hG]
      · have h20 : x 20 = .pointer (some ⟨g5, 50, none⟩) := hd 20 (by kernel_rfl)
        have cc := ((J5.out.below hb J5.out.lt).cell 50).trans HQN.out
        rw [h20]
        first | (go_simp; done) | (go_simp; rfl)
      refine StepsAt.valG 22 (.bool true) rfl (fun _ _ => rfl) rfl (fun x w14 hd => ?_) (fun x w14 hb hd => ?_) ?_
      · have hG : x 17 = .bool true := hd 17 (by kernel_rfl)
        simp [Region.wanted, yielded, hG]
      · have h19 : x 19 = .int .i64 (M : Int) := hd 19 (by kernel_rfl)
        have h21 : x 21 = .int .i64 (N1 : Int) := hd 21 (by kernel_rfl)
        rw [h19, h21]
        have := ZMN.out
        first | (go_simp; done) | (go_simp; rfl)
      refine StepsAt.val 23 (.bool true) rfl (fun _ _ => rfl) rfl rfl (fun x w14 hb hd => ?_) ?_
      · have h17 : x 17 = .bool true := hd 17 (by kernel_rfl)
        have h22 : x 22 = .bool true := hd 22 (by kernel_rfl)
        rw [h17, h22]
        first | (go_simp; done) | (go_simp; rfl)
      refine StepsAt.val 24 (.bool true) rfl (fun _ _ => rfl) rfl rfl (fun x w14 hb hd => ?_) ?_
      · have h23 : x 23 = .bool true := hd 23 (by kernel_rfl)
        rw [h23]
        first | (go_simp; done) | (go_simp; rfl)
      refine StepsAt.valG 25 (.bool false) rfl (fun _ _ => rfl) rfl (fun x w14 hd => ?_) (fun x w14 hb hd => ?_) ?_
      · have hG : x 24 = .bool true := hd 24 (by kernel_rfl)
        simp [Region.wanted, yielded, hG]
      · first | (go_simp; done) | (go_simp; rfl)
      refine StepsAt.valG 26 (.bool false) rfl (fun _ _ => rfl) rfl (fun x w14 hd => ?_) (fun x w14 hb hd => ?_) ?_
      · have hG : x 24 = .bool true := hd 24 (by kernel_rfl)
        simp [Region.wanted, yielded, hG]
      · have h25 : x 25 = .bool false := hd 25 (by kernel_rfl)
        rw [h25]
        first | (go_simp; done) | (go_simp; rfl)
      refine StepsAt.valG 27 (.pointer (some ⟨g5, 51, none⟩)) rfl (fun _ _ => rfl) rfl (fun x w14 hd => ?_) (fun x w14 hb hd => ?_) ?_
      · have hG : x 26 = .bool false := hd 26 (by kernel_rfl)
        simp [Region.wanted, yielded, hG]
      · first | (go_simp; done) | (go_simp; rfl)
      refine StepsAt.valG 28 (.int .i64 (M : Int)) rfl (fun _ _ => rfl) rfl (fun x w14 hd => ?_) (fun x w14 hb hd => ?_) ?_
      · have hG : x 26 = .bool false := hd 26 (by kernel_rfl)
        simp [Region.wanted, yielded, hG]
      · have h27 : x 27 = .pointer (some ⟨g5, 51, none⟩) := hd 27 (by kernel_rfl)
        have cc := ((J5.out.below hb J5.out.lt).cell 51).trans HQM.out
        rw [h27]
        first | (go_simp; done) | (go_simp; rfl)
      refine StepsAt.valG 29 (.pointer (some ⟨g0, 51, none⟩)) rfl (fun _ _ => rfl) rfl (fun x w14 hd => ?_) (fun x w14 hb hd => ?_) ?_
      · have hG : x 26 = .bool false := hd 26 (by kernel_rfl)
        simp [Region.wanted, yielded, hG]
      · first | (go_simp; done) | (go_simp; rfl)
      refine StepsAt.valG 30 (.int .i64 (m : Int)) rfl (fun _ _ => rfl) rfl (fun x w14 hd => ?_) (fun x w14 hb hd => ?_) ?_
      · have hG : x 26 = .bool false := hd 26 (by kernel_rfl)
        simp [Region.wanted, yielded, hG]
      · have h29 : x 29 = .pointer (some ⟨g0, 51, none⟩) := hd 29 (by kernel_rfl)
        have cc := ((J1.out.below hb J1.out.lt).cell 51).trans HCM.out
        rw [h29]
        first | (go_simp; done) | (go_simp; rfl)
      refine StepsAt.valG 31 (.bool true) rfl (fun _ _ => rfl) rfl (fun x w14 hd => ?_) (fun x w14 hb hd => ?_) ?_
      · have hG : x 26 = .bool false := hd 26 (by kernel_rfl)
        simp [Region.wanted, yielded, hG]
      · have h28 : x 28 = .int .i64 (M : Int) := hd 28 (by kernel_rfl)
        have h30 : x 30 = .int .i64 (m : Int) := hd 30 (by kernel_rfl)
        rw [h28, h30]
        rw [HMM.out]
        first | (go_simp; done) | (go_simp; rfl)
      refine StepsAt.valG 32 (.bool true) rfl (fun _ _ => rfl) rfl (fun x w14 hd => ?_) (fun x w14 hb hd => ?_) ?_
      · have hG : x 24 = .bool true := hd 24 (by kernel_rfl)
        simp [Region.wanted, yielded, hG]
      · have h26 : x 26 = .bool false := hd 26 (by kernel_rfl)
        have h31 : x 31 = .bool true := hd 31 (by kernel_rfl)
        rw [h26, h31]
        first | (go_simp; done) | (go_simp; rfl)
      refine StepsAt.val 33 (.bool true) rfl (fun _ _ => rfl) rfl rfl (fun x w14 hb hd => ?_) ?_
      · have h24 : x 24 = .bool true := hd 24 (by kernel_rfl)
        have h32 : x 32 = .bool true := hd 32 (by kernel_rfl)
        rw [h24, h32]
        first | (go_simp; done) | (go_simp; rfl)
      refine StepsAt.val 34 (.bool true) rfl (fun _ _ => rfl) rfl rfl (fun x w14 hb hd => ?_) ?_
      · have h33 : x 33 = .bool true := hd 33 (by kernel_rfl)
        rw [h33]
        first | (go_simp; done) | (go_simp; rfl)
      exact StepsAt.done
    case fin =>
      intro x w14 hb hd
      have h34 : x 34 = .bool true := hd 34 (by omega)
      refine AnyTill.any (S := fun _ => True) (m := 35) _ _ _ _ ?_
      refine AnyTill.done (by kernel_rfl) ?_
      refine NoPanic.normal ?_
      try dsimp only
      rw [h34]
      have K3 : Hid (Below w.heap.size w w14) := J3.out.trans (hb.mono J3.out.size)
      generalize x 0 = y0
      generalize x 1 = y1
      generalize x 2 = y2
      generalize x 3 = y3
      generalize x 4 = y4
      generalize x 5 = y5
      generalize x 6 = y6
      generalize x 7 = y7
      generalize x 8 = y8
      generalize x 9 = y9
      generalize x 10 = y10
      generalize x 11 = y11
      generalize x 12 = y12
      generalize x 13 = y13
      generalize x 14 = y14
      generalize x 15 = y15
      generalize x 16 = y16
      generalize x 17 = y17
      generalize x 18 = y18
      generalize x 19 = y19
      generalize x 20 = y20
      generalize x 21 = y21
      generalize x 22 = y22
      generalize x 23 = y23
      generalize x 24 = y24
      generalize x 25 = y25
      generalize x 26 = y26
      generalize x 27 = y27
      generalize x 28 = y28
      generalize x 29 = y29
      generalize x 30 = y30
      generalize x 31 = y31
      generalize x 32 = y32
      generalize x 33 = y33
      clear hd h34 hb J1 J5 J3 x
      go_wp2
      go_ret
      exact ⟨rfl, K3.out⟩

set_option maxRecDepth 1000000 in
set_option maxHeartbeats 4000000 in
theorem leaves_new (I seed text : List UInt8) (k h n m s : Nat) (tv : Value) (w : World) (hI : I.length = 16) (hs : seed.length = 32) (ht : Rd w.heap.size w tv text) (hh : h = 1 ∨ h = 2) (hf : PFit k h n m s) (hl : text.length ≤ 1000) (hx : n < 2 ^ h) (M : Nat) (hM1 : n < M) (hM2 : M ≤ 2 ^ h) (_ : True) (hres : ∀ w, Calls Try.prog 17 #[.agg (pcs I seed (k : Int) (h : Int) (n : Int) (m : Int) (s : Int)).toArray] w (TwoD (.agg (pcs I seed (k : Int) (h : Int) (n : Int) (M : Int) (s : Int)).toArray) (.bool true) w)) : Calls Try.prog 4 #[.agg (pcs I seed (k : Int) (h : Int) (n : Int) (m : Int) (s : Int)).toArray, tv] w (One (.bool true) w) := by
  obtain ⟨At, ct, rfl, hct, hmt⟩ := ht.shape
  unfold maxLen at hmt
  have HTX := Lib.hid ht
  have HTL : Hid (text.length = text.length) := rfl
  obtain ⟨tl, hn⟩ : ∃ n, text.length = n := ⟨_, rfl⟩
  rw [hn] at hct HTX ⊢
  have HTN := Lib.hid hn
  have HI := Lib.hid hI
  have HS := Lib.hid hs
  have HT := Lib.hid (sTree' I seed (k : Int) (h : Int) hI hs)
  obtain ⟨dT, huT, hdT⟩ := rowTree
  have HU := Lib.hid huT
  have HD := Lib.hid hdT
  have HPS := Lib.hid (sPurse' I seed (k : Int) (h : Int) (n : Int) (m : Int) (s : Int) hI hs)
  obtain ⟨dP, huP, hdP⟩ := rowPurse
  have HUP := Lib.hid huP
  have HDP := Lib.hid hdP
  have HF := Lib.hid hf
  have HY : Hid ((h : Int) < 3 ∨ 5 < (h : Int)) := by rcases hh with rfl | rfl <;> exact .inl (by decide)
  rw [hn] at hl
  have zn : decide ((1000 : Int) < (tl : Int)) = false := decide_eq_false (by omega)
  obtain ⟨L, hL⟩ : ∃ L, 2 ^ h = L := ⟨_, rfl⟩
  have hL2 : L ≤ 32 := by rw [← hL]; exact hf.ht.pow.2
  have hmL : m ≤ L := by rw [← hL]; exact hf.mh
  have hnm := hf.nm
  have hs1 := hf.s1
  have hs8 := hf.s8
  rw [hL] at hx hM2
  have hfC : PFit k h m m s := ⟨hf.wd, hf.ht, Nat.le_refl _, hf.mh, hf.s1, hf.s8⟩
  have HFC := Lib.hid hfC
  obtain ⟨D1, hD1⟩ : ∃ D, L - n = D := ⟨_, rfl⟩
  obtain ⟨D2, hD2⟩ : ∃ D, L - m = D := ⟨_, rfl⟩
  obtain ⟨D3, hD3⟩ : ∃ D, m - n = D := ⟨_, rfl⟩
  have HE1 : Hid (2 ^ h - n = D1) := by show _ = _; rw [hL, hD1]
  have HE2 : Hid (2 ^ h - m = D2) := by show _ = _; rw [hL, hD2]
  have Z3 : Hid ((D1 : Int) - (D2 : Int) = (D3 : Int)) := by show _ = _; omega
  have Z4 : Hid ((m : Int) - (n : Int) = (D3 : Int)) := by show _ = _; omega
  have ZL : Hid (D1 ≤ 32 ∧ D2 ≤ 32 ∧ D3 ≤ 32) := by refine ⟨?_, ?_, ?_⟩ <;> omega
  have HCN := Lib.hid (pcs_n I seed (k : Int) (h : Int) (n : Int) (m : Int) (s : Int) hI hs)
  have HCM := Lib.hid (pcs_m I seed (k : Int) (h : Int) (n : Int) (m : Int) (s : Int) hI hs)
  have HCS := Lib.hid (sPurse' I seed (k : Int) (h : Int) (m : Int) (m : Int) (s : Int) hI hs)
  have HLC : Hid (pcs0.length = (pcs I seed (k : Int) (h : Int) (m : Int) (m : Int) (s : Int)).length) := by show _ = _; rw [pcs_length I seed _ _ _ _ _ hI hs]; rfl
  have HX : Hid (n < 2 ^ h) := by show _ < _; rw [hL]; exact hx
  obtain ⟨N1, hN1⟩ : ∃ N, n + 1 = N := ⟨_, rfl⟩
  have HN1 := Lib.hid hN1
  have hfQ : PFit k h N1 M s := ⟨hf.wd, hf.ht, by omega, by rw [hL]; exact hM2, hf.s1, hf.s8⟩
  have HFQ := Lib.hid hfQ
  obtain ⟨D4, hD4⟩ : ∃ D, L - N1 = D := ⟨_, rfl⟩
  have HE4 : Hid (2 ^ h - N1 = D4) := by show _ = _; rw [hL, hD4]
  have Z5 : Hid ((D1 : Int) - 1 = (D4 : Int)) := by show _ = _; omega
  have ZL4 : Hid (D4 ≤ 32) := by show _ ≤ _; omega
  have ZD1 : Hid (((D1 : Int) == 0) = false) := by show _ = _; simp; omega
  have ZMN : Hid (N1 ≤ M) := by show _ ≤ _; omega
  have HR := Lib.hid hres
  have HQS := Lib.hid (sPurse' I seed (k : Int) (h : Int) (N1 : Int) (M : Int) (s : Int) hI hs)
  have HLQ : Hid (pcs0.length = (pcs I seed (k : Int) (h : Int) (N1 : Int) (M : Int) (s : Int)).length) := by show _ = _; rw [pcs_length I seed _ _ _ _ _ hI hs]; rfl
  have HQN := Lib.hid (pcs_n I seed (k : Int) (h : Int) (N1 : Int) (M : Int) (s : Int) hI hs)
  have HQM := Lib.hid (pcs_m I seed (k : Int) (h : Int) (N1 : Int) (M : Int) (s : Int) hI hs)
  have HTL1 : Hid (text.length ≤ 100000) := by show _ ≤ _; omega
  clear ht hn hI hs huT hdT huP hdP hl hf hh hL hL2 hmL hnm hs1 hs8 hx hfC hD1 hD2 hD3 hN1 hfQ hD4 hres hM1 hM2
  go_enter Try.func4, Try.ntmps4
  go_wp2_with (refine wpList_box_blk rfl 30 _ rfl (pcs I seed (k : Int) (h : Int) (n : Int) (m : Int) (s : Int)) rfl ?_)
  intro w1 a1 a2 a3
  obtain ⟨g0, hg0⟩ : ∃ g, w.heap.size = g := ⟨_, rfl⟩
  have A1 : Hid (Blk w1 g0 (pcs I seed (k : Int) (h : Int) (n : Int) (m : Int) (s : Int)) 30) := by rw [← hg0]; exact a1
  have A3 := Lib.hid a3
  have HG0 := Lib.hid hg0
  rw [hg0]
  clear a1 a2 a3 hg0
  go_wp2_with (refine wpList_load_mid rfl 25 _ rfl g0 0 rfl (tcs I seed (k : Int) (h : Int)) dT (pcs_range A1.out) HU.out HD.out HT.out ?_)
  refine (low6_yes I seed (k : Int) (h : Int) _ HI.out HS.out HY.out).mono ?_
  rintro e w2 ⟨rfl, hb⟩
  have B1 : Hid (Blk w2 g0 (pcs I seed (k : Int) (h : Int) (n : Int) (m : Int) (s : Int)) 30) := A1.out.below hb A1.out.lt
  have B3 : Hid (Below w.heap.size w w2) := A3.out.trans (hb.mono A3.out.size)
  clear hb A1 A3
  go_wp2_with (refine wpList_load_blkUG 30 _ rfl g0 rfl (pcs I seed (k : Int) (h : Int) (n : Int) (m : Int) (s : Int)) 30 B1.out dP HUP.out HDP.out HPS.out (by rfl) ?_)
  refine (plain6_any I seed _ _ _ _ _ _ HI.out HS.out).mono ?_
  rintro e w3 ⟨rfl, hb⟩
  have C1 : Hid (Blk w3 g0 (pcs I seed (k : Int) (h : Int) (n : Int) (m : Int) (s : Int)) 30) := B1.out.below hb B1.out.lt
  have C3 : Hid (Below w.heap.size w w3) := B3.out.trans (hb.mono B3.out.size)
  clear hb B1 B3
  go_wp2_with fail
  refine (rf6Right_yes I seed k h n m s _ HI.out HS.out HF.out).mono ?_
  rintro e w4 ⟨rfl, hb⟩
  have D1b : Hid (Blk w4 g0 (pcs I seed (k : Int) (h : Int) (n : Int) (m : Int) (s : Int)) 30) := C1.out.below hb C1.out.lt
  have D3b : Hid (Below w.heap.size w w4) := C3.out.trans (hb.mono C3.out.size)
  clear hb C1 C3
  go_wp2_with (refine wpList_load_blkU rfl 30 _ rfl g0 rfl (pcs I seed (k : Int) (h : Int) (n : Int) (m : Int) (s : Int)) 30 D1b.out dP HUP.out HDP.out HPS.out ?_)
  refine (signP_leaf I seed text k h n m s M true _ _ HI.out HS.out HF.out HX.out ((HTX.out.below D3b.out).more D3b.out.size) HTL1.out HR.out).mono ?_
  rintro e w5 ⟨v5, rfl, hown, hb⟩
  rw [HN1.out]
  have B1 : Hid (Blk w5 g0 (pcs I seed (k : Int) (h : Int) (n : Int) (m : Int) (s : Int)) 30) := D1b.out.below hb D1b.out.lt
  have B3 : Hid (Below w.heap.size w w5) := D3b.out.trans (hb.mono D3b.out.size)
  clear hb D1b D3b hown
  go_wp2_with (refine wpList_alloc_blk rfl 30 rfl _ ziPurse ?_)
  intro w6 a1 a2 a3
  obtain ⟨g5, hg5⟩ : ∃ g, w5.heap.size = g := ⟨_, rfl⟩
  have h05 : g0 < g5 := by have := B1.out.lt; omega
  rw [hg5] at a1 a2 a3 ⊢
  have A1 := Lib.hid a1
  obtain ⟨t6, ht6⟩ : ∃ t, w6.setRow g5 (pcs I seed (k : Int) (h : Int) (N1 : Int) (M : Int) (s : Int)).toArray = t := ⟨_, rfl⟩
  have C1 : Hid (Blk t6 g0 (pcs I seed (k : Int) (h : Int) (n : Int) (m : Int) (s : Int)) 30) := by show Blk _ _ _ _; rw [← ht6]; exact (B1.out.below a3 h05).setRowOther (by omega)
  have C5 : Hid (Blk t6 g5 (pcs I seed (k : Int) (h : Int) (N1 : Int) (M : Int) (s : Int)) 30) := by show Blk _ _ _ _; rw [← ht6]; exact a1.setRow
  have C3 : Hid (Below w.heap.size w t6) := by show Below _ _ _; rw [← ht6]; exact below_setRow' (B3.out.trans (a3.mono (by rw [← hg5]; exact B3.out.size))) (by rw [← hg5]; exact B3.out.size) _
  have HT6 := Lib.hid ht6
  clear a1 a2 a3 B1 B3 ht6 hg5 h05
  go_wp2_with (first | (refine wpList_store_blk rfl 30 _ _ rfl g5 (pcs I seed (k : Int) (h : Int) (N1 : Int) (M : Int) (s : Int)) pcs0 30 rfl rfl A1.out HQS.out HLQ.out (pcs_one _ _ _ _ _ _ _) ?_; rw [HT6.out]; clear HT6) | (refine wpList_load_blkU rfl 30 _ rfl g0 rfl (pcs I seed (k : Int) (h : Int) (n : Int) (m : Int) (s : Int)) 30 C1.out dP HUP.out HDP.out HPS.out ?_))
  refine (crashP_any I seed _ _ _ _ _ _ HI.out HS.out).mono ?_
  rintro e w7 ⟨rfl, hb⟩
  have D1b : Hid (Blk w7 g0 (pcs I seed (k : Int) (h : Int) (n : Int) (m : Int) (s : Int)) 30) := C1.out.below hb C1.out.lt
  have D5b : Hid (Blk w7 g5 (pcs I seed (k : Int) (h : Int) (N1 : Int) (M : Int) (s : Int)) 30) := C5.out.below hb C5.out.lt
  have D3b : Hid (Below w.heap.size w w7) := C3.out.trans (hb.mono C3.out.size)
  clear hb A1 C1 C5 C3
  go_wp2_with (refine wpList_alloc_blk rfl 30 rfl _ ziPurse ?_)
  intro w8 a1 a2 a3
  obtain ⟨g9, hg9⟩ : ∃ g, w7.heap.size = g := ⟨_, rfl⟩
  have h09 : g0 < g9 := by have := D1b.out.lt; omega
  have h59 : g5 < g9 := by have := D5b.out.lt; omega
  rw [hg9] at a1 a2 a3 ⊢
  have A1 := Lib.hid a1
  obtain ⟨t8, ht8⟩ : ∃ t, w8.setRow g9 (pcs I seed (k : Int) (h : Int) (m : Int) (m : Int) (s : Int)).toArray = t := ⟨_, rfl⟩
  have B1 : Hid (Blk t8 g0 (pcs I seed (k : Int) (h : Int) (n : Int) (m : Int) (s : Int)) 30) := by show Blk _ _ _ _; rw [← ht8]; exact (D1b.out.below a3 h09).setRowOther (by omega)
  have B5 : Hid (Blk t8 g5 (pcs I seed (k : Int) (h : Int) (N1 : Int) (M : Int) (s : Int)) 30) := by show Blk _ _ _ _; rw [← ht8]; exact (D5b.out.below a3 h59).setRowOther (by omega)
  have B9 : Hid (Blk t8 g9 (pcs I seed (k : Int) (h : Int) (m : Int) (m : Int) (s : Int)) 30) := by show Blk _ _ _ _; rw [← ht8]; exact a1.setRow
  have B3 : Hid (Below w.heap.size w t8) := by show Below _ _ _; rw [← ht8]; exact below_setRow' (D3b.out.trans (a3.mono (by rw [← hg9]; exact D3b.out.size))) (by rw [← hg9]; exact D3b.out.size) _
  have HT8 := Lib.hid ht8
  clear a1 a2 a3 D1b D5b D3b ht8 hg9 h09 h59
  go_wp2_with (refine wpList_store_blk rfl 30 _ _ rfl g9 (pcs I seed (k : Int) (h : Int) (m : Int) (m : Int) (s : Int)) pcs0 30 rfl rfl A1.out HCS.out HLC.out (pcs_one _ _ _ _ _ _ _) ?_; rw [HT8.out]; clear HT8)
  clear A1
  refine wp_region_rely2 6 0 (fun x => ⟨#[Value.agg (pcs I seed ↑k ↑h ↑n ↑m ↑s).toArray, Value.slice At tl ct, Value.pointer (some { block := g0, off := 0 }), undef, Value.bool false, Value.pointer (some { block := g5, off := 0 }), v5, Value.bool true, Value.int IntKind.i64 0, Value.pointer (some { block := g9, off := 0 }), x 5, Value.pointer (some { block := g0, off := 0 }), Value.agg (tcs I seed ↑k ↑h).toArray, Value.bool true, Value.bool false, Value.bool false, Value.slice At tl ct, Value.int IntKind.i64 ↑tl, Value.bool false, Value.bool false, Value.bool false, Value.agg (pcs I seed ↑k ↑h ↑n ↑m ↑s).toArray, Value.agg (pcs I seed ↑k ↑h ↑n ↑m ↑s).toArray, Value.bool true, Value.bool false, Value.bool false, undef, Value.tuple #[Value.agg (pcs I seed ↑k ↑h ↑N1 ↑M ↑s).toArray, v5, Value.bool true, Value.int IntKind.i64 0], Value.agg (pcs I seed ↑k ↑h ↑n ↑m ↑s).toArray, Value.slice At tl ct, Value.tuple #[Value.agg (pcs I seed ↑k ↑h ↑N1 ↑M ↑s).toArray, v5, Value.bool true, Value.int IntKind.i64 0], Value.agg (pcs I seed ↑k ↑h ↑N1 ↑M ↑s).toArray, v5, Value.bool true, Value.int IntKind.i64 0, Value.agg (pcs I seed ↑k ↑h ↑n ↑m ↑s).toArray, Value.agg (pcs I seed ↑k ↑h ↑m ↑m ↑s).toArray, x 0, x 1, x 2, x 3, x 4, undef, undef, undef, undef, undef, undef, undef, undef, undef, undef, undef, undef, undef, undef, undef, undef, undef, undef, undef, undef, undef, undef, undef, undef, undef, undef, undef, undef, undef, undef, undef, undef, undef, undef, undef, undef, undef, undef, undef, undef, undef, undef, undef, undef, undef, undef, undef, undef, undef, undef, undef, undef, undef, undef, undef, undef, undef, undef, undef, undef, undef, undef, undef, undef, undef, undef, undef, undef, undef, undef, undef, undef, undef], []⟩) (fun jj => ([eqV (.agg (pcs I seed (k : Int) (h : Int) (n : Int) (m : Int) (s : Int)).toArray), (eqV (.int .i64 (D1 : Int))), eqV (.agg (pcs I seed (k : Int) (h : Int) (m : Int) (m : Int) (s : Int)).toArray), (eqV (.int .i64 (D2 : Int))), eqV (.int .i64 (D3 : Int)), eqV (.int .i64 (D3 : Int))] : List (Value → World → Prop)).getD jj (fun _ _ => True)) rfl ⟨fun kk => [_, _, _, _, _, _].getD kk undef, rfl⟩ (by kernel_rfl) (by kernel_rfl) ?steps ?fin
  case steps =>
    refine StepsAt.val 0 (.agg (pcs I seed (k : Int) (h : Int) (n : Int) (m : Int) (s : Int)).toArray) rfl (fun _ _ => rfl) rfl rfl (fun x w9 hb hd => ?_) ?_
    · exact run_load_blkU 30 (.tmp 2) rfl g0 rfl (pcs I seed (k : Int) (h : Int) (n : Int) (m : Int) (s : Int)) 30 (B1.out.below hb B1.out.lt) dP HUP.out HDP.out HPS.out
    refine StepsAt.cons 1 (fun _ _ _ h hb => h) (fun _ _ => rfl) rfl rfl (fun x w9 hb hd K hK => ?_) ?_
    · have h0 : Hid (x 0 = .agg (pcs I seed (k : Int) (h : Int) (n : Int) (m : Int) (s : Int)).toArray) := hd 0 (by kernel_rfl)
      go_simp
      refine calls_args (args2 := #[.agg (pcs I seed (k : Int) (h : Int) (n : Int) (m : Int) (s : Int)).toArray]) (by rw [h0.out]) ?_
      refine (leftP_yes I seed k h n m s _ HI.out HS.out HF.out).mono ?_
      rintro e w10 ⟨rfl, hb2⟩
      rw [HE1.out]
      exact hK.out _ _ hb2 rfl
    refine StepsAt.val 2 (.agg (pcs I seed (k : Int) (h : Int) (m : Int) (m : Int) (s : Int)).toArray) rfl (fun _ _ => rfl) rfl rfl (fun x w9 hb hd => ?_) ?_
    · exact run_load_blkU 30 (.tmp 9) rfl g9 rfl (pcs I seed (k : Int) (h : Int) (m : Int) (m : Int) (s : Int)) 30 (B9.out.below hb B9.out.lt) dP HUP.out HDP.out HCS.out
    refine StepsAt.cons 3 (fun _ _ _ h hb => h) (fun _ _ => rfl) rfl rfl (fun x w9 hb hd K hK => ?_) ?_
    · have h2 : Hid (x 2 = .agg (pcs I seed (k : Int) (h : Int) (m : Int) (m : Int) (s : Int)).toArray) := hd 2 (by kernel_rfl)
      go_simp
      refine calls_args (args2 := #[.agg (pcs I seed (k : Int) (h : Int) (m : Int) (m : Int) (s : Int)).toArray]) (by rw [h2.out]) ?_
      refine (leftP_yes I seed k h m m s _ HI.out HS.out HFC.out).mono ?_
      rintro e w10 ⟨rfl, hb2⟩
      rw [HE2.out]
      exact hK.out _ _ hb2 rfl
    refine StepsAt.val 4 (.int .i64 (D3 : Int)) rfl (fun _ _ => rfl) rfl rfl (fun x w9 hb hd => ?_) ?_
    · have h1 : x 1 = .int .i64 (D1 : Int) := hd 1 (by kernel_rfl)
      have h3 : x 3 = .int .i64 (D2 : Int) := hd 3 (by kernel_rfl)
      rw [h1, h3]
      go_simp
      rw [Z3.out]
      have := ZL.out
      exact wrap_i64 _ (by omega) (by omega)
    refine StepsAt.val 5 (.int .i64 (D3 : Int)) rfl (fun _ _ => rfl) rfl rfl (fun x w9 hb hd => ?_) ?_
    · have h4 : x 4 = .int .i64 (D3 : Int) := hd 4 (by kernel_rfl)
      rw [h4]
      first | (go_simp; done) | (go_simp; rfl)
    exact StepsAt.done
  case fin =>
    intro x w9 hb hd
    have h5 : x 5 = .int .i64 (D3 : Int) := hd 5 (by omega)
    refine AnyTill.any (S := fun _ => True) (m := 6) _ _ _ _ ?_
    refine AnyTill.done (by kernel_rfl) ?_
    refine NoPanic.normal ?_
    try dsimp only
    rw [h5]
    have E1 : Hid (Blk w9 g0 (pcs I seed (k : Int) (h : Int) (n : Int) (m : Int) (s : Int)) 30) := B1.out.below hb B1.out.lt
    have E5 : Hid (Blk w9 g5 (pcs I seed (k : Int) (h : Int) (N1 : Int) (M : Int) (s : Int)) 30) := B5.out.below hb B5.out.lt
    have E9 : Hid (Blk w9 g9 (pcs I seed (k : Int) (h : Int) (m : Int) (m : Int) (s : Int)) 30) := B9.out.below hb B9.out.lt
    have E3 : Hid (Below w.heap.size w w9) := B3.out.trans (hb.mono B3.out.size)
    generalize x 0 = y0
    generalize x 1 = y1
    generalize x 2 = y2
    generalize x 3 = y3
    generalize x 4 = y4
    clear hd h5 hb B1 B5 B9 B3 x
    have cn := (E1.out.cell 50).trans HCN.out
    have cm := (E1.out.cell 51).trans HCM.out
    have zw : IntKind.i64.wrap ((m : Int) - (n : Int)) = (D3 : Int) := by rw [Z4.out]; have := ZL.out; exact wrap_i64 _ (by omega) (by omega)
    go_wp2_with (refine wpList_load_blkUG 30 _ rfl g9 rfl (pcs I seed (k : Int) (h : Int) (m : Int) (m : Int) (s : Int)) 30 E9.out dP HUP.out HDP.out HCS.out (by rfl) ?_)
    refine (leftP_yes I seed k h m m s _ HI.out HS.out HFC.out).mono ?_
    rintro e w11 ⟨rfl, hb⟩
    rw [HE2.out]
    have F1 : Hid (Blk w11 g0 (pcs I seed (k : Int) (h : Int) (n : Int) (m : Int) (s : Int)) 30) := E1.out.below hb E1.out.lt
    have F5 : Hid (Blk w11 g5 (pcs I seed (k : Int) (h : Int) (N1 : Int) (M : Int) (s : Int)) 30) := E5.out.below hb E5.out.lt
    have F9 : Hid (Blk w11 g9 (pcs I seed (k : Int) (h : Int) (m : Int) (m : Int) (s : Int)) 30) := E9.out.below hb E9.out.lt
    have F3 : Hid (Below w.heap.size w w11) := E3.out.trans (hb.mono E3.out.size)
    clear hb E1 E5 E9 E3 cn cm zw
    have dz : decide ((D2 : Int) < 0) = false := decide_eq_false (by omega)
    go_wp2_with (refine wpList_load_blkUG 30 _ rfl g9 rfl (pcs I seed (k : Int) (h : Int) (m : Int) (m : Int) (s : Int)) 30 F9.out dP HUP.out HDP.out HCS.out (by rfl) ?_)
    refine (rightP_yes I seed k h m m s _ HI.out HS.out HFC.out).mono ?_
    rintro e w12 ⟨rfl, hb⟩
    have G1 : Hid (Blk w12 g0 (pcs I seed (k : Int) (h : Int) (n : Int) (m : Int) (s : Int)) 30) := F1.out.below hb F1.out.lt
    have G5 : Hid (Blk w12 g5 (pcs I seed (k : Int) (h : Int) (N1 : Int) (M : Int) (s : Int)) 30) := F5.out.below hb F5.out.lt
    have G3 : Hid (Below w.heap.size w w12) := F3.out.trans (hb.mono F3.out.size)
    clear hb F1 F5 F9 F3 dz
    go_wp2_with (refine wpList_load_blkU rfl 30 _ rfl g0 rfl (pcs I seed (k : Int) (h : Int) (n : Int) (m : Int) (s : Int)) 30 G1.out dP HUP.out HDP.out HPS.out ?_)
    refine (leftP_yes I seed k h n m s _ HI.out HS.out HF.out).mono ?_
    rintro e w13 ⟨rfl, hb⟩
    rw [HE1.out]
    have J1 : Hid (Blk w13 g0 (pcs I seed (k : Int) (h : Int) (n : Int) (m : Int) (s : Int)) 30) := G1.out.below hb G1.out.lt
    have J5 : Hid (Blk w13 g5 (pcs I seed (k : Int) (h : Int) (N1 : Int) (M : Int) (s : Int)) 30) := G5.out.below hb G5.out.lt
    have J3 : Hid (Below w.heap.size w w13) := G3.out.trans (hb.mono G3.out.size)
    clear hb G1 G5 G3
    have dd := ZD1.out
    go_wp2_with fail
    refine wp_region_rely2 35 0 (fun x => ⟨#[Value.agg (pcs I seed ↑k ↑h ↑n ↑m ↑s).toArray, Value.slice At tl ct, Value.pointer (some { block := g0, off := 0 }), undef, x 34, Value.pointer (some { block := g5, off := 0 }), v5, Value.bool true, Value.int IntKind.i64 0, Value.pointer (some { block := g9, off := 0 }), Value.int IntKind.i64 ↑D3, Value.pointer (some { block := g0, off := 0 }), Value.agg (tcs I seed ↑k ↑h).toArray, Value.bool true, Value.bool false, Value.bool false, Value.slice At tl ct, Value.int IntKind.i64 ↑tl, Value.bool false, Value.bool false, Value.bool false, Value.agg (pcs I seed ↑k ↑h ↑n ↑m ↑s).toArray, Value.agg (pcs I seed ↑k ↑h ↑n ↑m ↑s).toArray, Value.bool true, Value.bool false, Value.bool false, undef, Value.tuple #[Value.agg (pcs I seed ↑k ↑h ↑N1 ↑M ↑s).toArray, v5, Value.bool true, Value.int IntKind.i64 0], Value.agg (pcs I seed ↑k ↑h ↑n ↑m ↑s).toArray, Value.slice At tl ct, Value.tuple #[Value.agg (pcs I seed ↑k ↑h ↑N1 ↑M ↑s).toArray, v5, Value.bool true, Value.int IntKind.i64 0], Value.agg (pcs I seed ↑k ↑h ↑N1 ↑M ↑s).toArray, v5, Value.bool true, Value.int IntKind.i64 0, Value.agg (pcs I seed ↑k ↑h ↑n ↑m ↑s).toArray, Value.agg (pcs I seed ↑k ↑h ↑m ↑m ↑s).toArray, y0, y1, y2, y3, y4, Value.int IntKind.i64 ↑D3, Value.pointer (some { block := g0, off := 51 }), Value.int IntKind.i64 ↑m, Value.pointer (some { block := g0, off := 50 }), Value.int IntKind.i64 ↑n, Value.int IntKind.i64 ↑D3, Value.bool false, Value.bool false, Value.agg (pcs I seed ↑k ↑h ↑m ↑m ↑s).toArray, Value.int IntKind.i64 ↑D2, Value.bool false, Value.bool false, Value.bool false, Value.agg (pcs I seed ↑k ↑h ↑m ↑m ↑s).toArray, Value.bool true, Value.bool false, Value.bool false, Value.agg (pcs I seed ↑k ↑h ↑n ↑m ↑s).toArray, Value.int IntKind.i64 ↑D1, Value.bool false, undef, undef, undef, undef, undef, undef, undef, undef, undef, undef, undef, undef, undef, undef, undef, undef, undef, undef, undef, x 0, x 1, x 2, x 3, x 4, x 5, x 6, x 7, x 8, x 9, x 10, x 11, x 12, x 13, x 14, x 15, x 16, x 17, x 18, x 19, x 20, x 21, x 22, x 23, x 24, x 25, x 26, x 27, x 28, x 29, x 30, x 31, x 32, x 33], []⟩) (fun jj => ([(eqV (.bool true)), eqV (.bool true), eqV (.int .i64 0), eqV (.bool true), eqV (.bool true), eqV (.bool true), eqV (.agg (pcs I seed (k : Int) (h : Int) (N1 : Int) (M : Int) (s : Int)).toArray), (eqV (.int .i64 (D4 : Int))), eqV (.agg (pcs I seed (k : Int) (h : Int) (n : Int) (m : Int) (s : Int)).toArray), (eqV (.int .i64 (D1 : Int))), eqV (.int .i64 (D4 : Int)), eqV (.bool true), eqV (.bool true), eqV (.bool true), eqV (.agg (pcs I seed (k : Int) (h : Int) (N1 : Int) (M : Int) (s : Int)).toArray), (eqV (.bool true)), eqV (.bool true), eqV (.bool true), eqV (.pointer (some ⟨g5, 51, none⟩)), eqV (.int .i64 (M : Int)), eqV (.pointer (some ⟨g5, 50, none⟩)), eqV (.int .i64 (N1 : Int)), eqV (.bool true), eqV (.bool true), eqV (.bool true), eqV (.bool true), eqV (.bool true), (eqV undef), (eqV undef), (eqV undef), (eqV undef), (eqV undef), eqV (.bool true), eqV (.bool true), eqV (.bool true)] : List (Value → World → Prop)).getD jj (fun _ _ => True)) rfl ⟨fun kk => [_, _, _, _, _, _, _, _, _, _, _, _, _, _, _, _, _, _, _, _, _, _, _, _, _, _, _, _, _, _, _, _, _, _, _].getD kk undef, rfl⟩ (by kernel_rfl) (by kernel_rfl) ?steps ?fin
    case steps =>
      refine StepsAt.cons 0 (fun _ _ _ h hb => h) (fun _ _ => rfl) rfl rfl (fun x w14 hb hd K hK => ?_) ?_
      · go_simp
        refine (alive6_any _).mono ?_
        rintro e w15 ⟨rfl, hb2⟩
        exact hK.out _ _ hb2 rfl
      refine StepsAt.val 1 (.bool true) rfl (fun _ _ => rfl) rfl rfl (fun x w14 hb hd => ?_) ?_
      · have h0 : x 0 = .bool true := hd 0 (by kernel_rfl)
        rw [h0]
        first | (go_simp; done) | (go_simp; rfl)
      refine StepsAt.valG 2 (.int .i64 0) rfl (fun _ _ => rfl) rfl (fun x w14 hd => ?_) (fun x w14 hb hd => ?_) ?_
      · have hG : x 1 = .bool true := hd 1 (by kernel_rfl)
        simp [Region.wanted, yielded, hG]
      · first | (go_simp; done) | (go_simp; rfl)
      refine StepsAt.valG 3 (.bool true) rfl (fun _ _ => rfl) rfl (fun x w14 hd => ?_) (fun x w14 hb hd => ?_) ?_
      · have hG : x 1 = .bool true := hd 1 (by kernel_rfl)
        simp [Region.wanted, yielded, hG]
      · have h2 : x 2 = .int .i64 0 := hd 2 (by kernel_rfl)
        rw [h2]
        first | (go_simp; done) | (go_simp; rfl)
      refine StepsAt.val 4 (.bool true) rfl (fun _ _ => rfl) rfl rfl (fun x w14 hb hd => ?_) ?_
      · have h1 : x 1 = .bool true := hd 1 (by kernel_rfl)
        have h3 : x 3 = .bool true := hd 3 (by kernel_rfl)
        rw [h1, h3]
        first | (go_simp; done) | (go_simp; rfl)
      refine StepsAt.val 5 (.bool true) rfl (fun _ _ => rfl) rfl rfl (fun x w14 hb hd => ?_) ?_
      · have h4 : x 4 = .bool true := hd 4 (by kernel_rfl)
        rw [h4]
        first | (go_simp; done) | (go_simp; rfl)
      refine StepsAt.valG 6 (.agg (pcs I seed (k : Int) (h : Int) (N1 : Int) (M : Int) (s : Int)).toArray) rfl (fun _ _ => rfl) rfl (fun x w14 hd => ?_) (fun x w14 hb hd => ?_) ?_
      · have hG : x 5 = .bool true := hd 5 (by kernel_rfl)
        simp [Region.wanted, yielded, hG]
      · exact run_load_blkU 30 (.tmp 5) rfl g5 rfl (pcs I seed (k : Int) (h : Int) (N1 : Int) (M : Int) (s : Int)) 30 (J5.out.below hb J5.out.lt) dP HUP.out HDP.out HQS.out
      refine StepsAt.consG 7 (fun _ _ _ h hb => h) (fun _ _ => rfl) rfl (fun x w14 hd => ?_) (fun x w14 hb hd K hK => ?_) ?_
      · have hG : x 5 = .bool true := hd 5 (by kernel_rfl)
        simp [Region.wanted, yielded, hG]
      · have h6 : Hid (x 6 = .agg (pcs I seed (k : Int) (h : Int) (N1 : Int) (M : Int) (s : Int)).toArray) := hd 6 (by kernel_rfl)
        go_simp
        refine calls_args (args2 := #[.agg (pcs I seed (k : Int) (h : Int) (N1 : Int) (M : Int) (s : Int)).toArray]) (by rw [h6.out]) ?_
        refine (leftP_yes I seed k h N1 M s _ HI.out HS.out HFQ.out).mono ?_
        rintro e w15 ⟨rfl, hb2⟩
        rw [HE4.out]
        exact hK.out _ _ hb2 rfl
      refine StepsAt.valG 8 (.agg (pcs I seed (k : Int) (h : Int) (n : Int) (m : Int) (s : Int)).toArray) rfl (fun _ _ => rfl) rfl (fun x w14 hd => ?_) (fun x w14 hb hd => ?_) ?_
      · have hG : x 5 = .bool true := hd 5 (by kernel_rfl)
        simp [Region.wanted, yielded, hG]
      · exact run_load_blkU 30 (.tmp 2) rfl g0 rfl (pcs I seed (k : Int) (h : Int) (n : Int) (m : Int) (s : Int)) 30 (J1.out.below hb J1.out.lt) dP HUP.out HDP.out HPS.out
      refine StepsAt.consG 9 (fun _ _ _ h hb => h) (fun _ _ => rfl) rfl (fun x w14 hd => ?_) (fun x w14 hb hd K hK => ?_) ?_
      · have hG : x 5 = .bool true := hd 5 (by kernel_rfl)
        simp [Region.wanted, yielded, hG]
      · have h8 : Hid (x 8 = .agg (pcs I seed (k : Int) (h : Int) (n : Int) (m : Int) (s : Int)).toArray) := hd 8 (by kernel_rfl)
        go_simp
        refine calls_args (args2 := #[.agg (pcs I seed (k : Int) (h : Int) (n : Int) (m : Int) (s : Int)).toArray]) (by rw [h8.out]) ?_
        refine (leftP_yes I seed k h n m s _ HI.out HS.out HF.out).mono ?_
        rintro e w15 ⟨rfl, hb2⟩
        rw [HE1.out]
        exact hK.out _ _ hb2 rfl
      refine StepsAt.valG 10 (.int .i64 (D4 : Int)) rfl (fun _ _ => rfl) rfl (fun x w14 hd => ?_) (fun x w14 hb hd => ?_) ?_
      · have hG : x 5 = .bool true := hd 5 (by kernel_rfl)
        simp [Region.wanted, yielded, hG]
      · have h9 : x 9 = .int .i64 (D1 : Int) := hd 9 (by kernel_rfl)
        rw [h9]
        go_simp
        rw [Z5.out]
        have := ZL4.out
        exact wrap_i64 _ (by omega) (by omega)
      refine StepsAt.valG 11 (.bool true) rfl (fun _ _ => rfl) rfl (fun x w14 hd => ?_) (fun x w14 hb hd => ?_) ?_
      · have hG : x 5 = .bool true := hd 5 (by kernel_rfl)
        simp [Region.wanted, yielded, hG]
      · have h7 : x 7 = .int .i64 (D4 : Int) := hd 7 (by kernel_rfl)
        have h10 : x 10 = .int .i64 (D4 : Int) := hd 10 (by kernel_rfl)
        rw [h7, h10]
        first | (go_simp; done) | (go_simp; rfl)
      refine StepsAt.val 12 (.bool true) rfl (fun _ _ => rfl) rfl rfl (fun x w14 hb hd => ?_) ?_
      · have h5 : x 5 = .bool true := hd 5 (by kernel_rfl)
        have h11 : x 11 = .bool true := hd 11 (by kernel_rfl)
        rw [h5, h11]
        first | (go_simp; done) | (go_simp; rfl)
      refine StepsAt.val 13 (.bool true) rfl (fun _ _ => rfl) rfl rfl (fun x w14 hb hd => ?_) ?_
      · have h12 : x 12 = .bool true := hd 12 (by kernel_rfl)
        rw [h12]
        first | (go_simp; done) | (go_simp; rfl)
      refine StepsAt.valG 14 (.agg (pcs I seed (k : Int) (h : Int) (N1 : Int) (M : Int) (s : Int)).toArray) rfl (fun _ _ => rfl) rfl (fun x w14 hd => ?_) (fun x w14 hb hd => ?_) ?_
      · have hG : x 13 = .bool true := hd 13 (by kernel_rfl)
        simp [Region.wanted, yielded, hG]
      · exact run_load_blkU 30 (.tmp 5) rfl g5 rfl (pcs I seed (k : Int) (h : Int) (N1 : Int) (M : Int) (s : Int)) 30 (J5.out.below hb J5.out.lt) dP HUP.out HDP.out HQS.out
      refine StepsAt.consG 15 (fun _ _ _ h hb => h) (fun _ _ => rfl) rfl (fun x w14 hd => ?_) (fun x w14 hb hd K hK => ?_) ?_
      · have hG : x 13 = .bool true := hd 13 (by kernel_rfl)
        simp [Region.wanted, yielded, hG]
      · have h14 : Hid (x 14 = .agg (pcs I seed (k : Int) (h : Int) (N1 : Int) (M : Int) (s : Int)).toArray) := hd 14 (by kernel_rfl)
        go_simp
        refine calls_args (args2 := #[.agg (pcs I seed (k : Int) (h : Int) (N1 : Int) (M : Int) (s : Int)).toArray]) (by rw [h14.out]) ?_
        refine (rightP_yes I seed k h N1 M s _ HI.out HS.out HFQ.out).mono ?_
        rintro e w15 ⟨rfl, hb2⟩
        exact hK.out _ _ hb2 rfl
      refine StepsAt.val 16 (.bool true) rfl (fun _ _ => rfl) rfl rfl (fun x w14 hb hd => ?_) ?_
      · have h13 : x 13 = .bool true := hd 13 (by kernel_rfl)
        have h15 : x 15 = .bool true := hd 15 (by kernel_rfl)
        rw [h13, h15]
        first | (go_simp; done) | (go_simp; rfl)
      refine StepsAt.val 17 (.bool true) rfl (fun _ _ => rfl) rfl rfl (fun x w14 hb hd => ?_) ?_
      · have h16 : x 16 = .bool true := hd 16 (by kernel_rfl)
        rw [h16]
        first | (go_simp; done) | (go_simp; rfl)
      refine StepsAt.valG 18 (.pointer (some ⟨g5, 51, none⟩)) rfl (fun _ _ => rfl) rfl (fun x w14 hd => ?_) (fun x w14 hb hd => ?_) ?_
      · have hG : x 17 = .bool true := hd 17 (by kernel_rfl)
        simp [Region.wanted, yielded, hG]
      · first | (go_simp; done) | (go_simp; rfl)
      refine StepsAt.valG 19 (.int .i64 (M : Int)) rfl (fun _ _ => rfl) rfl (fun x w14 hd => ?_) (fun x w14 hb hd => ?_) ?_
      · have hG : x 17 = .bool true := hd 17 (by kernel_rfl)
        simp [Region.wanted, yielded, hG]
      · have h18 : x 18 = .pointer (some ⟨g5, 51, none⟩) := hd 18 (by kernel_rfl)
        have cc := ((J5.out.below hb J5.out.lt).cell 51).trans HQM.out
        rw [h18]
        first | (go_simp; done) | (go_simp; rfl)
      refine StepsAt.valG 20 (.pointer (some ⟨g5, 50, none⟩)) rfl (fun _ _ => rfl) rfl (fun x w14 hd => ?_) (fun x w14 hb hd => ?_) ?_
      · have hG : x 17 = .bool true := hd 17 (by kernel_rfl)
        simp [Region.wanted, yielded, hG]
      · first | (go_simp; done) | (go_simp; rfl)
      refine StepsAt.valG 21 (.int .i64 (N1 : Int)) rfl (fun _ _ => rfl) rfl (fun x w14 hd => ?_) (fun x w14 hb hd => ?_) ?_
      · have hG : x 17 = .bool true := hd 17 (by kernel_rfl)
        simp [Region.wanted, yielded, hG]
      · have h20 : x 20 = .pointer (some ⟨g5, 50, none⟩) := hd 20 (by kernel_rfl)
        have cc := ((J5.out.below hb J5.out.lt).cell 50).trans HQN.out
        rw [h20]
        first | (go_simp; done) | (go_simp; rfl)
      refine StepsAt.valG 22 (.bool true) rfl (fun _ _ => rfl) rfl (fun x w14 hd => ?_) (fun x w14 hb hd => ?_) ?_
      · have hG : x 17 = .bool true := hd 17 (by kernel_rfl)
        simp [Region.wanted, yielded, hG]
      · have h19 : x 19 = .int .i64 (M : Int) := hd 19 (by kernel_rfl)
        have h21 : x 21 = .int .i64 (N1 : Int) := hd 21 (by kernel_rfl)
        rw [h19, h21]
        have := ZMN.out
        first | (go_simp; done) | (go_simp; rfl)
      refine StepsAt.val 23 (.bool true) rfl (fun _ _ => rfl) rfl rfl (fun x w14 hb hd => ?_) ?_
      · have h17 : x 17 = .bool true := hd 17 (by kernel_rfl)
        have h22 : x 22 = .bool true := hd 22 (by kernel_rfl)
        rw [h17, h22]
        first | (go_simp; done) | (go_simp; rfl)
      refine StepsAt.val 24 (.bool true) rfl (fun _ _ => rfl) rfl rfl (fun x w14 hb hd => ?_) ?_
      · have h23 : x 23 = .bool true := hd 23 (by kernel_rfl)
        rw [h23]
        first | (go_simp; done) | (go_simp; rfl)
      refine StepsAt.valG 25 (.bool true) rfl (fun _ _ => rfl) rfl (fun x w14 hd => ?_) (fun x w14 hb hd => ?_) ?_
      · have hG : x 24 = .bool true := hd 24 (by kernel_rfl)
        simp [Region.wanted, yielded, hG]
      · first | (go_simp; done) | (go_simp; rfl)
      refine StepsAt.valG 26 (.bool true) rfl (fun _ _ => rfl) rfl (fun x w14 hd => ?_) (fun x w14 hb hd => ?_) ?_
      · have hG : x 24 = .bool true := hd 24 (by kernel_rfl)
        simp [Region.wanted, yielded, hG]
      · have h25 : x 25 = .bool true := hd 25 (by kernel_rfl)
        rw [h25]
        first | (go_simp; done) | (go_simp; rfl)
      refine StepsAt.skip 27 rfl (fun _ _ => rfl) rfl (fun x w14 hd => ?_) ?_
      · have hG : x 26 = .bool true := hd 26 (by kernel_rfl)
        simp [Region.wanted, yielded, hG]
      refine StepsAt.skip 28 rfl (fun _ _ => rfl) rfl (fun x w14 hd => ?_) ?_
      · have hG : x 26 = .bool true := hd 26 (by kernel_rfl)
        simp [Region.wanted, yielded, hG]
      refine StepsAt.skip 29 rfl (fun _ _ => rfl) rfl (fun x w14 hd => ?_) ?_
      · have hG : x 26 = .bool true := hd 26 (by kernel_rfl)
        simp [Region.wanted, yielded, hG]
      refine StepsAt.skip 30 rfl (fun _ _ => rfl) rfl (fun x w14 hd => ?_) ?_
      · have hG : x 26 = .bool true := hd 26 (by kernel_rfl)
        simp [Region.wanted, yielded, hG]
      refine StepsAt.skip 31 rfl (fun _ _ => rfl) rfl (fun x w14 hd => ?_) ?_
      · have hG : x 26 = .bool true := hd 26 (by kernel_rfl)
        simp [Region.wanted, yielded, hG]
      refine StepsAt.valG 32 (.bool true) rfl (fun _ _ => rfl) rfl (fun x w14 hd => ?_) (fun x w14 hb hd => ?_) ?_
      · have hG : x 24 = .bool true := hd 24 (by kernel_rfl)
        simp [Region.wanted, yielded, hG]
      · have h26 : x 26 = .bool true := hd 26 (by kernel_rfl)
        have h31 : x 31 = undef := hd 31 (by kernel_rfl)
        rw [h26, h31]
        first | (go_simp; done) | (go_simp; rfl)
      refine StepsAt.val 33 (.bool true) rfl (fun _ _ => rfl) rfl rfl (fun x w14 hb hd => ?_) ?_
      · have h24 : x 24 = .bool true := hd 24 (by kernel_rfl)
        have h32 : x 32 = .bool true := hd 32 (by kernel_rfl)
        rw [h24, h32]
        first | (go_simp; done) | (go_simp; rfl)
      refine StepsAt.val 34 (.bool true) rfl (fun _ _ => rfl) rfl rfl (fun x w14 hb hd => ?_) ?_
      · have h33 : x 33 = .bool true := hd 33 (by kernel_rfl)
        rw [h33]
        first | (go_simp; done) | (go_simp; rfl)
      exact StepsAt.done
    case fin =>
      intro x w14 hb hd
      have h34 : x 34 = .bool true := hd 34 (by omega)
      refine AnyTill.any (S := fun _ => True) (m := 35) _ _ _ _ ?_
      refine AnyTill.done (by kernel_rfl) ?_
      refine NoPanic.normal ?_
      try dsimp only
      rw [h34]
      have K3 : Hid (Below w.heap.size w w14) := J3.out.trans (hb.mono J3.out.size)
      generalize x 0 = y0
      generalize x 1 = y1
      generalize x 2 = y2
      generalize x 3 = y3
      generalize x 4 = y4
      generalize x 5 = y5
      generalize x 6 = y6
      generalize x 7 = y7
      generalize x 8 = y8
      generalize x 9 = y9
      generalize x 10 = y10
      generalize x 11 = y11
      generalize x 12 = y12
      generalize x 13 = y13
      generalize x 14 = y14
      generalize x 15 = y15
      generalize x 16 = y16
      generalize x 17 = y17
      generalize x 18 = y18
      generalize x 19 = y19
      generalize x 20 = y20
      generalize x 21 = y21
      generalize x 22 = y22
      generalize x 23 = y23
      generalize x 24 = y24
      generalize x 25 = y25
      generalize x 26 = y26
      generalize x 27 = y27
      generalize x 28 = y28
      generalize x 29 = y29
      generalize x 30 = y30
      generalize x 31 = y31
      generalize x 32 = y32
      generalize x 33 = y33
      clear hd h34 hb J1 J5 J3 x
      go_wp2
      go_ret
      exact ⟨rfl, K3.out⟩

theorem leaves_all (I seed : List UInt8) (z y n m s : Int) (tv : Value) (text : List UInt8) (w : World) (hI : I.length = 16) (hs : seed.length = 32) (ht : Rd w.heap.size w tv text) : Calls Try.prog 4 #[.agg (pcs I seed z y n m s).toArray, tv] w (One (.bool true) w) := by
  by_cases h1 : 3 ≤ y ∧ y ≤ 5
  · exact leaves_high I seed text z y n m s tv w hI hs ht h1.1 h1.2
  by_cases h2 : 1000 < text.length
  · exact leaves_long I seed text z y n m s tv w hI hs ht (by omega) h2
  rcases purse_or z y n m s with ⟨k, h, N, M, S, hf, rfl, rfl, rfl, rfl, rfl⟩ | hp
  · have hh : h = 1 ∨ h = 2 := by have := hf.ht.le; omega
    have hnm := hf.nm
    have hmh := hf.mh
    have hs1 := hf.s1
    by_cases hx : N = 2 ^ h
    · exact leaves_spent I seed text k h N M S tv w hI hs ht hh hf (by omega) hx
    · by_cases hm : N < M
      · exact leaves_old I seed text k h N M S tv w hI hs ht hh hf (by omega) (by omega) M hm hmh rfl (fun w => reserveP_old I seed k h N M S w hI hs hf hm)
      · exact leaves_new I seed text k h N M S tv w hI hs ht hh hf (by omega) (by omega) (min (M + S) (2 ^ h)) (by omega) (Nat.min_le_right _ _) trivial (fun w => reserveP_new I seed k h N M S w hI hs hf (by omega))
  · exact leaves_none I seed text z y n m s tv w hI hs ht (by omega) (by omega) hp
end Go.Proofs.Ythkanlkjdmlafaa
