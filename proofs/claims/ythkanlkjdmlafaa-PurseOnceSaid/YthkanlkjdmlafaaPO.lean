/-
  The law PurseOnce, walked: it answers true for every tree, every step and every script.
-/
import Derived.Test.YthkanlkjdmlafaaPW
namespace Go.Proofs.Ythkanlkjdmlafaa
open Go.RowKit

set_option maxRecDepth 1000000 in
set_option maxHeartbeats 8000000 in
theorem once_high (I seed : List UInt8) (script : List Bool) (z y s : Int) (sv : Value) (w : World) (hI : I.length = 16) (hs : seed.length = 32) (ht : RdO w.heap.size w sv script) (h1 : 3 ≤ y) (h2 : y ≤ 5) : Calls Try.prog 3 #[.agg (tcs I seed z y).toArray, .int .i64 s, sv] w (One (.bool true) w) := by
  obtain ⟨As, cs, rfl, hct, hmt⟩ := ht.shape
  unfold maxLen at hmt
  have HTX := Lib.hid ht
  obtain ⟨N, hn⟩ : ∃ n, script.length = n := ⟨_, rfl⟩
  rw [hn] at hct HTX ⊢
  have HTN := Lib.hid hn
  have HI := Lib.hid hI
  have HS := Lib.hid hs
  have HT := Lib.hid (sTree' I seed z y hI hs)
  obtain ⟨dT, huT, hdT⟩ := rowTree
  have HU := Lib.hid huT
  have HD := Lib.hid hdT
  obtain ⟨dP, huP, hdP⟩ := rowPurse
  have HUP := Lib.hid huP
  have HDP := Lib.hid hdP
  have H1 := Lib.hid h1
  have H2 := Lib.hid h2
  clear ht hn hI hs huT hdT huP hdP h1 h2
  go_enter Try.func3, Try.ntmps3
  go_wp2_with (refine wpList_box_blk rfl 25 _ rfl (tcs I seed z y) rfl ?_)
  intro w1 a1 a2 a3
  obtain ⟨g3, hg3⟩ : ∃ g, w.heap.size = g := ⟨_, rfl⟩
  have A1 : Hid (Blk w1 g3 (tcs I seed z y) 25) := by rw [← hg3]; exact a1
  have A3 := Lib.hid a3
  have HG3 := Lib.hid hg3
  rw [hg3]
  clear a1 a2 a3 hg3
  go_wp2_with (refine wpList_load_blkU rfl 25 _ rfl g3 rfl (tcs I seed z y) 25 A1.out dT HU.out HD.out HT.out ?_)
  refine (low6_no I seed z y _ HI.out HS.out H1.out H2.out).mono ?_
  rintro e w2 ⟨rfl, hb⟩
  have B1 : Hid (Blk w2 g3 (tcs I seed z y) 25) := A1.out.below hb A1.out.lt
  have B3 : Hid (Below w.heap.size w w2) := A3.out.trans (hb.mono A3.out.size)
  clear hb A1 A3
  go_wp2_with fail
  refine (alive6_any _).mono ?_
  rintro e w3 ⟨rfl, hb⟩
  have Z3 : Hid (Below w.heap.size w w3) := B3.out.trans (hb.mono B3.out.size)
  clear hb
  go_wp2
  go_ret
  exact ⟨rfl, Z3.out⟩

set_option maxRecDepth 1000000 in
set_option maxHeartbeats 8000000 in
theorem once_long (I seed : List UInt8) (script : List Bool) (z y s : Int) (sv : Value) (w : World) (hI : I.length = 16) (hs : seed.length = 32) (ht : RdO w.heap.size w sv script) (hy : y < 3 ∨ 5 < y) (hl : 12 < script.length) : Calls Try.prog 3 #[.agg (tcs I seed z y).toArray, .int .i64 s, sv] w (One (.bool true) w) := by
  obtain ⟨As, cs, rfl, hct, hmt⟩ := ht.shape
  unfold maxLen at hmt
  have HTX := Lib.hid ht
  obtain ⟨N, hn⟩ : ∃ n, script.length = n := ⟨_, rfl⟩
  rw [hn] at hct HTX ⊢
  have HTN := Lib.hid hn
  have HI := Lib.hid hI
  have HS := Lib.hid hs
  have HT := Lib.hid (sTree' I seed z y hI hs)
  obtain ⟨dT, huT, hdT⟩ := rowTree
  have HU := Lib.hid huT
  have HD := Lib.hid hdT
  obtain ⟨dP, huP, hdP⟩ := rowPurse
  have HUP := Lib.hid huP
  have HDP := Lib.hid hdP
  have HY := Lib.hid hy
  rw [hn] at hl
  have zn : decide ((12 : Int) < (N : Int)) = true := decide_eq_true (by omega)
  have zn2 : decide (12 < N) = true := decide_eq_true (by omega)
  clear ht hn hI hs huT hdT huP hdP hy hl
  go_enter Try.func3, Try.ntmps3
  go_wp2_with (refine wpList_box_blk rfl 25 _ rfl (tcs I seed z y) rfl ?_)
  intro w1 a1 a2 a3
  obtain ⟨g3, hg3⟩ : ∃ g, w.heap.size = g := ⟨_, rfl⟩
  have A1 : Hid (Blk w1 g3 (tcs I seed z y) 25) := by rw [← hg3]; exact a1
  have A3 := Lib.hid a3
  have HG3 := Lib.hid hg3
  rw [hg3]
  clear a1 a2 a3 hg3
  go_wp2_with (refine wpList_load_blkU rfl 25 _ rfl g3 rfl (tcs I seed z y) 25 A1.out dT HU.out HD.out HT.out ?_)
  refine (low6_yes I seed z y _ HI.out HS.out HY.out).mono ?_
  rintro e w2 ⟨rfl, hb⟩
  have B1 : Hid (Blk w2 g3 (tcs I seed z y) 25) := A1.out.below hb A1.out.lt
  have B3 : Hid (Below w.heap.size w w2) := A3.out.trans (hb.mono A3.out.size)
  clear hb A1 A3
  go_wp2_with fail
  refine (alive6_any _).mono ?_
  rintro e w3 ⟨rfl, hb⟩
  have Z3 : Hid (Below w.heap.size w w3) := B3.out.trans (hb.mono B3.out.size)
  clear hb
  go_wp2
  go_ret
  exact ⟨rfl, Z3.out⟩

set_option maxRecDepth 1000000 in
set_option maxHeartbeats 8000000 in
theorem once_none (I seed : List UInt8) (script : List Bool) (z y s : Int) (sv : Value) (w : World) (hI : I.length = 16) (hs : seed.length = 32) (ht : RdO w.heap.size w sv script) (hy : y < 3 ∨ 5 < y) (hl : script.length ≤ 12) (hp : NoP z y 0 0 s) : Calls Try.prog 3 #[.agg (tcs I seed z y).toArray, .int .i64 s, sv] w (One (.bool true) w) := by
  obtain ⟨As, cs, rfl, hct, hmt⟩ := ht.shape
  unfold maxLen at hmt
  have HTX := Lib.hid ht
  obtain ⟨N, hn⟩ : ∃ n, script.length = n := ⟨_, rfl⟩
  rw [hn] at hct HTX ⊢
  have HTN := Lib.hid hn
  have HI := Lib.hid hI
  have HS := Lib.hid hs
  have HT := Lib.hid (sTree' I seed z y hI hs)
  obtain ⟨dT, huT, hdT⟩ := rowTree
  have HU := Lib.hid huT
  have HD := Lib.hid hdT
  obtain ⟨dP, huP, hdP⟩ := rowPurse
  have HUP := Lib.hid huP
  have HDP := Lib.hid hdP
  have HY := Lib.hid hy
  have HP := Lib.hid hp
  rw [hn] at hl
  have zn : decide ((12 : Int) < (N : Int)) = false := decide_eq_false (by omega)
  have zn2 : decide (12 < N) = false := decide_eq_false (by omega)
  clear ht hn hI hs huT hdT huP hdP hy hl hp
  go_enter Try.func3, Try.ntmps3
  go_wp2_with (refine wpList_box_blk rfl 25 _ rfl (tcs I seed z y) rfl ?_)
  intro w1 a1 a2 a3
  obtain ⟨g3, hg3⟩ : ∃ g, w.heap.size = g := ⟨_, rfl⟩
  have A1 : Hid (Blk w1 g3 (tcs I seed z y) 25) := by rw [← hg3]; exact a1
  have A3 := Lib.hid a3
  have HG3 := Lib.hid hg3
  rw [hg3]
  clear a1 a2 a3 hg3
  go_wp2_with (refine wpList_load_blkU rfl 25 _ rfl g3 rfl (tcs I seed z y) 25 A1.out dT HU.out HD.out HT.out ?_)
  refine (low6_yes I seed z y _ HI.out HS.out HY.out).mono ?_
  rintro e w2 ⟨rfl, hb⟩
  have B1 : Hid (Blk w2 g3 (tcs I seed z y) 25) := A1.out.below hb A1.out.lt
  have B3 : Hid (Below w.heap.size w w2) := A3.out.trans (hb.mono A3.out.size)
  clear hb A1 A3
  go_wp2_with (refine wpList_load_blkU rfl 25 _ rfl g3 rfl (tcs I seed z y) 25 B1.out dT HU.out HD.out HT.out ?_)
  refine (newP_no I seed z y s _ HI.out HS.out HP.out).mono ?_
  rintro e w3 ⟨rfl, hb⟩
  have C1 : Hid (Blk w3 g3 (tcs I seed z y) 25) := B1.out.below hb B1.out.lt
  have C3 : Hid (Below w.heap.size w w3) := B3.out.trans (hb.mono B3.out.size)
  clear hb B1 B3
  go_wp2_with (refine wpList_alloc_blk rfl 30 rfl _ ziPurse ?_)
  intro w4 a1 a2 a3
  obtain ⟨g7, hg7⟩ : ∃ g, w3.heap.size = g := ⟨_, rfl⟩
  have h37 : g3 < g7 := by have := C1.out.lt; omega
  rw [hg7] at a1 a2 a3 ⊢
  have A1 := Lib.hid a1
  obtain ⟨t4, ht4⟩ : ∃ t, w4.setRow g7 (pcs0).toArray = t := ⟨_, rfl⟩
  have D1 : Hid (Blk t4 g3 (tcs I seed z y) 25) := by show Blk _ _ _ _; rw [← ht4]; exact (C1.out.below a3 h37).setRowOther (by omega)
  have D7 : Hid (Blk t4 g7 (pcs0) 30) := by show Blk _ _ _ _; rw [← ht4]; exact a1.setRow
  have D3 : Hid (Below w.heap.size w t4) := by show Below _ _ _; rw [← ht4]; exact below_setRow' (C3.out.trans (a3.mono (by rw [← hg7]; exact C3.out.size))) (by rw [← hg7]; exact C3.out.size) _
  have HW7 : Hid (w.heap.size ≤ g7) := by show _ ≤ _; rw [← hg7]; exact C3.out.size
  have HT4 := Lib.hid ht4
  have H37 := Lib.hid h37
  clear a1 a2 a3 C1 C3 ht4 hg7 h37
  go_wp2_with (refine wpList_store_blk rfl 30 _ _ rfl g7 pcs0 pcs0 30 rfl rfl A1.out sPurse0 rfl pcs0_one ?_; rw [HT4.out]; clear HT4)
  refine (alive6_any _).mono ?_
  rintro e w5 ⟨rfl, hb⟩
  have Z3 : Hid (Below w.heap.size w w5) := D3.out.trans (hb.mono D3.out.size)
  clear hb
  go_wp2
  go_ret
  exact ⟨rfl, Z3.out⟩

set_option maxRecDepth 1000000 in
set_option maxHeartbeats 8000000 in
theorem once_main (I seed : List UInt8) (script : List Bool) (k h s : Nat) (sv : Value) (w : World) (hI : I.length = 16) (hs : seed.length = 32) (ht : RdO w.heap.size w sv script) (hh : h = 1 ∨ h = 2) (hf : PFit k h 0 0 s) (hl : script.length ≤ 12) : Calls Try.prog 3 #[.agg (tcs I seed (k : Int) (h : Int)).toArray, .int .i64 (s : Int), sv] w (One (.bool true) w) := by
  obtain ⟨As, cs, rfl, hct, hmt⟩ := ht.shape
  unfold maxLen at hmt
  have HTX := Lib.hid ht
  obtain ⟨N, hn⟩ : ∃ n, script.length = n := ⟨_, rfl⟩
  rw [hn] at hct HTX ⊢
  have HTN := Lib.hid hn
  have HI := Lib.hid hI
  have HS := Lib.hid hs
  have HT := Lib.hid (sTree' I seed (k : Int) (h : Int) hI hs)
  obtain ⟨dT, huT, hdT⟩ := rowTree
  have HU := Lib.hid huT
  have HD := Lib.hid hdT
  obtain ⟨dP, huP, hdP⟩ := rowPurse
  have HUP := Lib.hid huP
  have HDP := Lib.hid hdP
  have HF := Lib.hid hf
  have HHH := Lib.hid hh
  have HY : Hid ((h : Int) < 3 ∨ 5 < (h : Int)) := by rcases hh with rfl | rfl <;> exact .inl (by decide)
  rw [hn] at hl
  have HNL := Lib.hid hl
  obtain ⟨L, hL⟩ : ∃ L, 2 ^ h = L := ⟨_, rfl⟩
  have HL := Lib.hid hL
  have HL2 : Hid (L ≤ 32) := by show _ ≤ _; rw [← hL]; exact hf.ht.pow.2
  have HLZ : Hid (pcs0.length = (pcs I seed (k : Int) (h : Int) 0 0 (s : Int)).length) := by show _ = _; rw [pcs_length I seed _ _ _ _ _ hI hs]; rfl
  have HLEN : Hid (∀ a b c d : Int, (pcs I seed (k : Int) (h : Int) a b (s : Int)).length = (pcs I seed (k : Int) (h : Int) c d (s : Int)).length) := by intro a b c d; rw [pcs_length I seed _ _ _ _ _ hI hs, pcs_length I seed _ _ _ _ _ hI hs]
  obtain ⟨ii, hii, iz, isz, iby⟩ := info_parts3
  have HII := Lib.hid hii
  have HIZ := Lib.hid iz
  have HIS := Lib.hid isz
  have HIB := Lib.hid iby
  have zn : decide ((12 : Int) < (N : Int)) = false := decide_eq_false (by omega)
  have zn2 : decide (12 < N) = false := decide_eq_false (by omega)
  clear ht hn hI hs huT hdT huP hdP hf hh hl hL hii iz isz iby
  go_enter Try.func3, Try.ntmps3
  go_wp2_with (refine wpList_box_blk rfl 25 _ rfl (tcs I seed (k : Int) (h : Int)) rfl ?_)
  intro w1 a1 a2 a3
  obtain ⟨g3, hg3⟩ : ∃ g, w.heap.size = g := ⟨_, rfl⟩
  have A1 : Hid (Blk w1 g3 (tcs I seed (k : Int) (h : Int)) 25) := by rw [← hg3]; exact a1
  have A3 := Lib.hid a3
  have HG3 := Lib.hid hg3
  rw [hg3]
  clear a1 a2 a3 hg3
  go_wp2_with (refine wpList_load_blkU rfl 25 _ rfl g3 rfl (tcs I seed (k : Int) (h : Int)) 25 A1.out dT HU.out HD.out HT.out ?_)
  refine (low6_yes I seed (k : Int) (h : Int) _ HI.out HS.out HY.out).mono ?_
  rintro e w2 ⟨rfl, hb⟩
  have B1 : Hid (Blk w2 g3 (tcs I seed (k : Int) (h : Int)) 25) := A1.out.below hb A1.out.lt
  have B3 : Hid (Below w.heap.size w w2) := A3.out.trans (hb.mono A3.out.size)
  clear hb A1 A3
  go_wp2_with (refine wpList_load_blkU rfl 25 _ rfl g3 rfl (tcs I seed (k : Int) (h : Int)) 25 B1.out dT HU.out HD.out HT.out ?_)
  refine (newP_yes I seed k h s _ HI.out HS.out HF.out).mono ?_
  rintro e w3 ⟨rfl, hb⟩
  have C1 : Hid (Blk w3 g3 (tcs I seed (k : Int) (h : Int)) 25) := B1.out.below hb B1.out.lt
  have C3 : Hid (Below w.heap.size w w3) := B3.out.trans (hb.mono B3.out.size)
  clear hb B1 B3
  go_wp2_with (refine wpList_alloc_blk rfl 30 rfl _ ziPurse ?_)
  intro w4 a1 a2 a3
  obtain ⟨g7, hg7⟩ : ∃ g, w3.heap.size = g := ⟨_, rfl⟩
  have h37 : g3 < g7 := by have := C1.out.lt; omega
  rw [hg7] at a1 a2 a3 ⊢
  have A1 := Lib.hid a1
  obtain ⟨t4, ht4⟩ : ∃ t, w4.setRow g7 (pcs I seed (k : Int) (h : Int) 0 0 (s : Int)).toArray = t := ⟨_, rfl⟩
  have D1 : Hid (Blk t4 g3 (tcs I seed (k : Int) (h : Int)) 25) := by show Blk _ _ _ _; rw [← ht4]; exact (C1.out.below a3 h37).setRowOther (by omega)
  have D7 : Hid (Blk t4 g7 (pcs I seed (k : Int) (h : Int) 0 0 (s : Int)) 30) := by show Blk _ _ _ _; rw [← ht4]; exact a1.setRow
  have D3 : Hid (Below w.heap.size w t4) := by show Below _ _ _; rw [← ht4]; exact below_setRow' (C3.out.trans (a3.mono (by rw [← hg7]; exact C3.out.size))) (by rw [← hg7]; exact C3.out.size) _
  have HW7 : Hid (w.heap.size ≤ g7) := by show _ ≤ _; rw [← hg7]; exact C3.out.size
  have HT4 := Lib.hid ht4
  have H37 := Lib.hid h37
  clear a1 a2 a3 C1 C3 ht4 hg7 h37
  go_wp2_with (refine wpList_store_blk rfl 30 _ _ rfl g7 (pcs I seed (k : Int) (h : Int) 0 0 (s : Int)) pcs0 30 rfl rfl A1.out (sPurse' I seed _ _ _ _ _ HI.out HS.out) HLZ.out (pcs_one _ _ _ _ _ _ _) ?_; rw [HT4.out]; clear HT4)
  have K0 : Hid (OnceAt w I seed k h s g3 g7 (.slice (some ⟨t4.heap.size, 0, none⟩) 0 0) [] 0 0 (t4.alloc (.cells #[] 3))) := by
    have hb : Below t4.heap.size t4 (t4.alloc (.cells #[] 3)) := (Below.refl _ _).alloc (Nat.le_refl _) _
    exact ⟨(OwnI.madeS 3 t4).base D7.out.lt, D7.out.below hb D7.out.lt, D1.out.below hb D1.out.lt, HF.out, fun u hu => (by cases hu), D3.out.trans (hb.mono D3.out.size)⟩
  clear D1 D3 D7 A1
  go_loopw [9, 10] (fun x9 x10 wr => ∃ (j n m : Nat) (U : List Nat), x10 = .int .i64 (j : Int) ∧ j ≤ N ∧ U.length ≤ j ∧ Hid (OnceAt w I seed k h s g3 g7 x9 U n m wr)) (fun _ x _ => N - (intOf x).toNat)
  case atStart => exact ⟨0, 0, 0, [], rfl, Nat.zero_le _, Nat.le_refl _, K0⟩
  case round =>
    clear K0 zn zn2
    obtain ⟨j, n, m, U, rfl, hjN, hUj, KK⟩ := hrel
    have hN12 := HNL.out
    by_cases hj : j < N
    · have tj : decide ((j : Int) < (N : Int)) = true := decide_eq_true (by omega)
      go_wp2_with (refine wpList_load_blkU rfl 30 _ rfl g7 rfl (pcs I seed (k : Int) (h : Int) (n : Int) (m : Int) (s : Int)) 30 KK.out.2.1 dP HUP.out HDP.out (sPurse' I seed _ _ _ _ _ HI.out HS.out) ?_)
      refine (plain6_any I seed _ _ _ _ _ _ HI.out HS.out).mono ?_
      rintro e w2 ⟨rfl, hb⟩
      have K2 : Hid (OnceAt w I seed k h s g3 g7 u9 U n m w2) := KK.out.below hb
      clear hb KK
      go_wp2_with fail
      refine (rf6Right_yes I seed k h n m s _ HI.out HS.out K2.out.2.2.2.1).mono ?_
      rintro e w3 ⟨rfl, hb⟩
      have K3 : Hid (OnceAt w I seed k h s g3 g7 u9 U n m w3) := K2.out.below hb
      clear hb K2
      have hsc := HTX.out.below K3.out.2.2.2.2.2
      obtain ⟨aS, rfl, hcell⟩ := hsc.at_ j (by rw [HTN.out]; exact hj)
      obtain ⟨b, hb0⟩ : ∃ b, script.getD j false = b := ⟨_, rfl⟩
      rw [hb0] at hcell
      have hcN : N ≤ cs := hct
      clear hsc hb0
      cases b
      · have hN2 : j < 256 := by omega
        obtain ⟨bt, hbt⟩ : ∃ b : UInt8, b = UInt8.ofNat j := ⟨_, rfl⟩
        have hbn : (j : Int) = (bt.toNat : Int) := by rw [hbt]; simp; omega
        have HBN := Lib.hid hbn
        have hw8 : IntKind.u8.wrap (j : Int) = (j : Int) := wraps_u8 _ (by omega) (by omega)
        obtain ⟨w4, hw4⟩ : ∃ t, w3.alloc (.cells #[.int .u8 (j : Int)] 5) = t := ⟨_, rfl⟩
        obtain ⟨g11, hg11⟩ : ∃ g, w3.heap.size = g := ⟨_, rfl⟩
        have hb4 : Below w3.heap.size w3 w4 := by rw [← hw4]; exact (Below.refl _ _).alloc (Nat.le_refl _) _
        have hs4 : w4.heap.size = g11 + 1 := by rw [← hw4, ← hg11]; simp
        have K4 : Hid (OnceAt w I seed k h s g3 g7 u9 U n m w4) := K3.out.below hb4
        have RT : Hid (Rd w4.heap.size w4 (.slice (some ⟨g11, 0, none⟩) 1 1) [bt]) := by
          show Rd _ _ _ _
          rw [hs4, ← hg11, ← hw4, hbn]
          exact Rd.one 5 w3 bt
        have HW4 := Lib.hid hw4
        have HG11 := Lib.hid hg11
        have HK9 : Hid (∀ kb, u9.ownBlock = some kb → g7 + 1 ≤ kb ∧ kb < g11) := by
          intro kb hkb
          have := World.ownsRow.lt K3.out.1 kb hkb
          omega
        clear hb4 hs4 hw4 hg11 K3 hbn hbt hN2
        go_wp2_with (rw [HW4.out, HG11.out]; clear HW4 HG11; refine wpList_load_blkU rfl 30 _ rfl g7 rfl (pcs I seed (k : Int) (h : Int) (n : Int) (m : Int) (s : Int)) 30 K4.out.2.1 dP HUP.out HDP.out (sPurse' I seed _ _ _ _ _ HI.out HS.out) ?_)
        clear hcell hw8
        have hf := K4.out.2.2.2.1
        have hfm := hf.mh
        have hfn := hf.nm
        by_cases hx : n = 2 ^ h
        · have HX := Lib.hid hx
          refine (signP_spent I seed k h n m s _ _ HI.out HS.out hf hx).mono ?_
          rintro e w5 ⟨rfl, hb⟩
          have K5 : Hid (OnceAt w I seed k h s g3 g7 u9 U n m w5) := K4.out.below hb
          have R5 : Hid (g11 < w5.heap.size) := by
            have h1 : g11 < w4.heap.size := by obtain ⟨A, c, hv, _, _, _, hr⟩ := RT.out; injection hv with e1 _ _; exact (hr _ e1.symm).1 (by simp)
            exact Nat.lt_of_lt_of_le h1 hb.size
          clear hb K4 RT hf hx hfm hfn
          go_wp2_with (refine wpList_alloc_blk rfl 30 rfl _ ziPurse ?_)
          intro w6 a1 a2 a3
          obtain ⟨g12, hg12⟩ : ∃ g, w5.heap.size = g := ⟨_, rfl⟩
          rw [hg12] at a1 a2 a3 ⊢
          have A1 := Lib.hid a1
          obtain ⟨t6, ht6⟩ : ∃ t, w6.setRow g12 (pcs I seed (k : Int) (h : Int) (n : Int) (m : Int) (s : Int)).toArray = t := ⟨_, rfl⟩
          have hb6 : Below w5.heap.size w5 t6 := by rw [← ht6, hg12]; exact below_setRow' a3 (Nat.le_refl _) _
          have K6 : Hid (OnceAt w I seed k h s g3 g7 u9 U n m t6) := K5.out.below hb6
          have Q6 : Hid (Blk t6 g12 (pcs I seed (k : Int) (h : Int) (n : Int) (m : Int) (s : Int)) 30) := by show Blk _ _ _ _; rw [← ht6]; exact a1.setRow
          have H1112 : Hid (g11 < g12) := by have := R5.out; show _ < _; omega
          have HLQ : Hid (pcs0.length = (pcs I seed (k : Int) (h : Int) (n : Int) (m : Int) (s : Int)).length) := by show _ = _; rw [pcs_length I seed _ _ _ _ _ HI.out HS.out]; rfl
          have HT6 := Lib.hid ht6
          clear a1 a2 a3 hb6 ht6 hg12 K5
          go_wp2_with (first | (refine wpList_store_blk rfl 30 _ _ rfl g12 (pcs I seed (k : Int) (h : Int) (n : Int) (m : Int) (s : Int)) pcs0 30 rfl rfl A1.out (sPurse' I seed _ _ _ _ _ HI.out HS.out) HLQ.out (pcs_one _ _ _ _ _ _ _) ?_; rw [HT6.out]; clear HT6) | (refine wpList_load_blkUG 30 _ rfl g7 rfl (pcs I seed (k : Int) (h : Int) (n : Int) (m : Int) (s : Int)) 30 K6.out.2.1 dP HUP.out HDP.out (sPurse' I seed _ _ _ _ _ HI.out HS.out) (by rfl) ?_))
          refine (leftP_yes I seed k h n m s _ HI.out HS.out K6.out.2.2.2.1).mono ?_
          rintro e w7 ⟨rfl, hb⟩
          rw [show 2 ^ h - n = 0 from by have := HX.out; omega]
          have K7 : Hid (OnceAt w I seed k h s g3 g7 u9 U n m w7) := K6.out.below hb
          have Q7 : Hid (Blk w7 g12 (pcs I seed (k : Int) (h : Int) (n : Int) (m : Int) (s : Int)) 30) := Q6.out.below hb Q6.out.lt
          clear hb K6 Q6 A1
          have HEQ := Lib.hid (eqPurse_same I seed (k : Int) (h : Int) (n : Int) (m : Int) (s : Int) HI.out HS.out w7)
          go_wp2_with (first | (refine wpList_runG (.bool (!true)) (run_neq_agg 30 _ _ _ rfl (pcs I seed (k : Int) (h : Int) (n : Int) (m : Int) (s : Int)).toArray (pcs I seed (k : Int) (h : Int) (n : Int) (m : Int) (s : Int)).toArray rfl rfl gPurse true HEQ.out) (by rfl) ?_) | (refine wpList_load_blkUG 30 _ rfl g12 rfl (pcs I seed (k : Int) (h : Int) (n : Int) (m : Int) (s : Int)) 30 Q7.out dP HUP.out HDP.out (sPurse' I seed _ _ _ _ _ HI.out HS.out) (by rfl) ?_) | (refine wpList_load_blkUG 30 _ rfl g7 rfl (pcs I seed (k : Int) (h : Int) (n : Int) (m : Int) (s : Int)) 30 K7.out.2.1 dP HUP.out HDP.out (sPurse' I seed _ _ _ _ _ HI.out HS.out) (by rfl) ?_))
          go_roundw
          case rel => exact ⟨j + 1, n, m, U, by go_num, by omega, by omega, K7⟩
          case measure => simp [intOf]; omega
        · by_cases hm : n < m
          · have HFF := Lib.hid hf
            have HXX : Hid (n < 2 ^ h) := by show _ < _; omega
            obtain ⟨M, hM⟩ : ∃ M, m = M := ⟨_, rfl⟩
            have hnM : n < M := by have := hf.s1; omega
            have hM2 : M ≤ 2 ^ h := by omega
            obtain ⟨N1, hN1⟩ : ∃ N, n + 1 = N := ⟨_, rfl⟩
            have hfQ : PFit k h N1 M s := ⟨hf.wd, hf.ht, by omega, hM2, hf.s1, hf.s8⟩
            have HFQ := Lib.hid hfQ
            have HN1 := Lib.hid hN1
            refine (signP_leaf I seed [bt] k h n m s M false _ _ HI.out HS.out hf HXX.out RT.out (by simp) (fun w => by rw [← hM]; exact reserveP_old I seed k h n m s w HI.out HS.out HFF.out hm)).mono ?_
            rintro e w5 ⟨v5, rfl, hown, hb⟩
            rw [hN1]
            have K5 : Hid (OnceAt w I seed k h s g3 g7 u9 U n m w5) := K4.out.below hb
            have R5 : Hid (g11 < w5.heap.size) := by
              have h1 : g11 < w4.heap.size := by obtain ⟨A, c, hv, _, _, _, hr⟩ := RT.out; injection hv with e1 _ _; exact (hr _ e1.symm).1 (by simp)
              exact Nat.lt_of_lt_of_le h1 hb.size
            have T5 : Hid (Rd w5.heap.size w5 (.slice (some ⟨g11, 0, none⟩) 1 1) [bt]) := (RT.out.below hb).more hb.size
            obtain ⟨SG, hSG⟩ : ∃ S, lsig I seed [bt] k h n = S := ⟨_, rfl⟩
            have HSG := Lib.hid hSG
            have hn32 : n < 4294967296 := by have := hf.ht.pow; omega
            have HWS : Hid (wd SG 0 = n) := by show _ = _; rw [← hSG]; exact (lsig_parts I seed [bt] k h n hf.wd hf.ht hn32).1
            have HSL : Hid (4 ≤ SG.length) := by show _ ≤ _; rw [← hSG, lsig_length]; unfold llng; omega
            rw [hSG] at hown
            have S5 : Hid (Rd w5.heap.size w5 v5 SG) := hown.rd
            have HMN : Hid (N1 ≤ M ∧ n < N1) := by constructor <;> omega
            have d1 : decide ((m : Int) ≤ (n : Int)) = false := by simp; omega
            have d2 : decide ((M : Int) ≤ (n : Int)) = false := by simp; omega
            have d1' : decide (m ≤ n) = false := by simp; omega
            have d2' : decide (M ≤ n) = false := by simp; omega
            clear hb K4 RT hx hfm hfn hown hN1 hfQ hM hM2 hnM hSG hn32 hf
            go_wp2_with (refine wpList_alloc_blk rfl 30 rfl _ ziPurse ?_)
            intro w6 a1 a2 a3
            obtain ⟨g12, hg12⟩ : ∃ g, w5.heap.size = g := ⟨_, rfl⟩
            rw [hg12] at a1 a2 a3 ⊢
            have A1 := Lib.hid a1
            obtain ⟨t6, ht6⟩ : ∃ t, w6.setRow g12 (pcs I seed (k : Int) (h : Int) (N1 : Int) (M : Int) (s : Int)).toArray = t := ⟨_, rfl⟩
            have hb6 : Below w5.heap.size w5 t6 := by rw [← ht6, hg12]; exact below_setRow' a3 (Nat.le_refl _) _
            have K6 : Hid (OnceAt w I seed k h s g3 g7 u9 U n m t6) := K5.out.below hb6
            have Q6 : Hid (Blk t6 g12 (pcs I seed (k : Int) (h : Int) (N1 : Int) (M : Int) (s : Int)) 30) := by show Blk _ _ _ _; rw [← ht6]; exact a1.setRow
            have H1112 : Hid (g11 < g12) := by have := R5.out; show _ < _; omega
            have HLQ : Hid (pcs0.length = (pcs I seed (k : Int) (h : Int) (N1 : Int) (M : Int) (s : Int)).length) := by show _ = _; rw [pcs_length I seed _ _ _ _ _ HI.out HS.out]; rfl
            have S6 : Hid (Rd t6.heap.size t6 v5 SG) := (S5.out.below hb6).more hb6.size
            have T6 : Hid (Rd t6.heap.size t6 (.slice (some ⟨g11, 0, none⟩) 1 1) [bt]) := (T5.out.below hb6).more hb6.size
            have HT6 := Lib.hid ht6
            clear a1 a2 a3 hb6 ht6 hg12 K5 S5 T5
            go_wp2_with (refine wpList_store_blk rfl 30 _ _ rfl g12 (pcs I seed (k : Int) (h : Int) (N1 : Int) (M : Int) (s : Int)) pcs0 30 rfl rfl A1.out (sPurse' I seed _ _ _ _ _ HI.out HS.out) HLQ.out (pcs_one _ _ _ _ _ _ _) ?_; rw [HT6.out]; clear HT6)
            refine (leafT_yes _ SG _ S6.out HSL.out).mono ?_
            rintro e w7 ⟨rfl, hb⟩
            rw [HWS.out]
            have K7 : Hid (OnceAt w I seed k h s g3 g7 u9 U n m w7) := K6.out.below hb
            have Q7 : Hid (Blk w7 g12 (pcs I seed (k : Int) (h : Int) (N1 : Int) (M : Int) (s : Int)) 30) := Q6.out.below hb Q6.out.lt
            have S7 : Hid (Rd w7.heap.size w7 v5 SG) := (S6.out.below hb).more hb.size
            have T7 : Hid (Rd w7.heap.size w7 (.slice (some ⟨g11, 0, none⟩) 1 1) [bt]) := (T6.out.below hb).more hb.size
            clear hb K6 Q6 A1 S6 T6
            go_wp2_with (refine wpList_load_blkUG 30 _ rfl g12 rfl (pcs I seed (k : Int) (h : Int) (N1 : Int) (M : Int) (s : Int)) 30 Q7.out dP HUP.out HDP.out (sPurse' I seed _ _ _ _ _ HI.out HS.out) (by rfl) ?_)
            refine (ownsP_yes I seed [bt] SG k h _ _ _ 0 _ _ _ HI.out HS.out HFQ.out.wd HFQ.out.ht T7.out S7.out (fun pv w hp ht hsg => verT_right I seed [bt] k h n pv _ _ w HI.out HFQ.out.wd HFQ.out.ht HXX.out hp ht (by simp) (by rw [HSG.out]; exact hsg))).mono ?_
            rintro e w8 ⟨rfl, hb⟩
            have K8 : Hid (OnceAt w I seed k h s g3 g7 u9 U n m w8) := K7.out.below hb
            have Q8 : Hid (Blk w8 g12 (pcs I seed (k : Int) (h : Int) (N1 : Int) (M : Int) (s : Int)) 30) := Q7.out.below hb Q7.out.lt
            clear hb K7 Q7 S7 T7
            rw [show ((0 : Int) == 0) = true from rfl]
            have cm := (K8.out.2.1.cell 51).trans (pcs_m I seed _ _ _ _ _ HI.out HS.out)
            have cM := (Q8.out.cell 51).trans (pcs_m I seed _ _ _ _ _ HI.out HS.out)
            have rd8 := K8.out.1.rd
            obtain ⟨A9, c9, hv9, hc9, hm9⟩ := rd8.shape
            unfold maxLen at hm9
            subst hv9
            go_wp2
            clear cm cM d1 d2 d1' d2'
            go_loopw [18] (fun x wr => ∃ i : Nat, i ≤ U.length ∧ x = .int .i64 (i : Int) ∧ w8 = wr) (fun x _ => U.length - (intOf x).toNat)
            case atStart => exact ⟨0, Nat.zero_le _, rfl, rfl⟩
            case round =>
              obtain ⟨i, hi, rfl, rfl⟩ := hrel
              have hU12 : U.length ≤ 12 := by omega
              by_cases hiU : i < U.length
              · obtain ⟨a9, rfl, hc⟩ := rd8.at_ i hiU
                have hne : U.getD i 0 < n := by
                  refine K8.out.2.2.2.2.1 _ ?_
                  rw [List.getD_eq_getElem?_getD, List.getElem?_eq_getElem hiU, Option.getD_some]
                  exact List.getElem_mem hiU
                obtain ⟨y, hy⟩ : ∃ y, U.getD i 0 = y := ⟨_, rfl⟩
                rw [hy] at hc hne
                have z1 : ((y : Int) == (n : Int)) = false := by simp; omega
                have z1' : (y == n) = false := by simp; omega
                have ti : decide ((i : Int) < (U.length : Int)) = true := decide_eq_true (by omega)
                have ti' : decide (i < U.length) = true := decide_eq_true hiU
                clear hy
                go_wp2
                go_roundw
                case rel => exact ⟨i + 1, by omega, by go_num, by trivial⟩
                case measure => simp [intOf]; omega
              · have ti : decide ((i : Int) < (U.length : Int)) = false := decide_eq_false (by omega)
                have ti' : decide (i < U.length) = false := decide_eq_false (by omega)
                have hl8 : g12 < w8.heap.size := Q8.out.lt
                obtain ⟨w9, hw9⟩ : ∃ t, w8.alloc (.cells #[.int .i64 (n : Int)] 3) = t := ⟨_, rfl⟩
                have hb9 : Below w8.heap.size w8 w9 := by rw [← hw9]; exact (Below.refl _ _).alloc (Nat.le_refl _) _
                have K9 : Hid (OnceAt w I seed k h s g3 g7 _ U n m w9) := K8.out.below hb9
                have Q9 : Hid (Blk w9 g12 (pcs I seed (k : Int) (h : Int) (N1 : Int) (M : Int) (s : Int)) 30) := Q8.out.below hb9 hl8
                have c99 : w9.cell? ⟨w8.heap.size, 0, none⟩ = some (.int .i64 (n : Int)) := by rw [← hw9, World.cell?_alloc_mark]; rfl
                have HW9 := Lib.hid hw9
                have hsz9 : Hid (g7 + 1 ≤ w9.heap.size) := by have := K9.out.2.1.lt; show _ ≤ _; omega
                clear hw9 hb9 rd8
                go_wp2_with (rw [HW9.out]; at_builtin; refine wpList_app1G rfl _ _ 34 rfl 3 ii Try.underlying34 HII.out HIZ.out HIS.out HIB.out (g7 + 1) _ U n _ rfl K9.out.1 rfl c99 (by omega) hsz9.out ?_)
                intro v10 w10 ho hg
                have hnb : ∀ g, g ≤ g7 ∨ g11 ≤ g → some g ≠ (Value.slice A9 U.length c9).ownBlock := fun g hg0 he => by have := HK9.out g he.symm; omega
                have K10 : Hid (OnceAt w I seed k h s g3 g7 v10 (U ++ [n]) N1 M (w10.setRow g7 (pcs I seed (k : Int) (h : Int) (N1 : Int) (M : Int) (s : Int)).toArray)) := by
                  have b7 := K9.out.2.1.grown hg (hnb g7 (.inl (Nat.le_refl _)))
                  have b3 := K9.out.2.2.1.grown hg (hnb g3 (.inl (by have := H37.out; omega)))
                  have hbw : Below w.heap.size w w10 := K9.out.2.2.2.2.2.trans ((Below.refl _ _).grown hg K9.out.2.2.2.2.2.size (fun kb hk => by have := (HK9.out kb hk).1; have := HW7.out; omega))
                  refine ⟨ho.but ((But.refl g7 w10).setRow _) (Nat.lt_succ_self _), b7.setRow, b3.setRowOther (by have := H37.out; omega), HFQ.out, fun u hu => ?_, below_setRow' hbw HW7.out _⟩
                  have h1 := HMN.out
                  rcases List.mem_append.1 hu with hu | hu
                  · have := K9.out.2.2.2.2.1 u hu; omega
                  · simp at hu; omega
                have Q10 : Hid (Blk w10 g12 (pcs I seed (k : Int) (h : Int) (N1 : Int) (M : Int) (s : Int)) 30) := Q9.out.grown hg (hnb g12 (.inr (by have := H1112.out; omega)))
                have B10 : Hid (Blk w10 g7 (pcs I seed (k : Int) (h : Int) (n : Int) (m : Int) (s : Int)) 30) := K9.out.2.1.grown hg (hnb g7 (.inl (Nat.le_refl _)))
                clear ho hg hnb K8 Q8 K9 Q9 c99 hl8
                go_wp2_with (first | (refine wpList_load_blkU rfl 30 _ rfl g12 rfl (pcs I seed (k : Int) (h : Int) (N1 : Int) (M : Int) (s : Int)) 30 Q10.out dP HUP.out HDP.out (sPurse' I seed _ _ _ _ _ HI.out HS.out) ?_) | (refine wpList_store_blk rfl 30 _ _ rfl g7 (pcs I seed (k : Int) (h : Int) (N1 : Int) (M : Int) (s : Int)) (pcs I seed (k : Int) (h : Int) (n : Int) (m : Int) (s : Int)) 30 rfl rfl B10.out (sPurse' I seed _ _ _ _ _ HI.out HS.out) (HLEN.out _ _ _ _) (pcs_one _ _ _ _ _ _ _) ?_))
                go_roundw
                case rel => exact ⟨j + 1, N1, M, U ++ [n], by go_num, by omega, by simp; omega, K10⟩
                case measure => simp [intOf]; omega
          · have HFF := Lib.hid hf
            have HXX : Hid (n < 2 ^ h) := by show _ < _; omega
            obtain ⟨M, hM⟩ : ∃ M, min (m + s) (2 ^ h) = M := ⟨_, rfl⟩
            have hnM : n < M := by have := hf.s1; omega
            have hM2 : M ≤ 2 ^ h := by omega
            obtain ⟨N1, hN1⟩ : ∃ N, n + 1 = N := ⟨_, rfl⟩
            have hfQ : PFit k h N1 M s := ⟨hf.wd, hf.ht, by omega, hM2, hf.s1, hf.s8⟩
            have HFQ := Lib.hid hfQ
            have HN1 := Lib.hid hN1
            refine (signP_leaf I seed [bt] k h n m s M true _ _ HI.out HS.out hf HXX.out RT.out (by simp) (fun w => by rw [← hM]; exact reserveP_new I seed k h n m s w HI.out HS.out HFF.out (by omega))).mono ?_
            rintro e w5 ⟨v5, rfl, hown, hb⟩
            rw [hN1]
            have K5 : Hid (OnceAt w I seed k h s g3 g7 u9 U n m w5) := K4.out.below hb
            have R5 : Hid (g11 < w5.heap.size) := by
              have h1 : g11 < w4.heap.size := by obtain ⟨A, c, hv, _, _, _, hr⟩ := RT.out; injection hv with e1 _ _; exact (hr _ e1.symm).1 (by simp)
              exact Nat.lt_of_lt_of_le h1 hb.size
            have T5 : Hid (Rd w5.heap.size w5 (.slice (some ⟨g11, 0, none⟩) 1 1) [bt]) := (RT.out.below hb).more hb.size
            obtain ⟨SG, hSG⟩ : ∃ S, lsig I seed [bt] k h n = S := ⟨_, rfl⟩
            have HSG := Lib.hid hSG
            have hn32 : n < 4294967296 := by have := hf.ht.pow; omega
            have HWS : Hid (wd SG 0 = n) := by show _ = _; rw [← hSG]; exact (lsig_parts I seed [bt] k h n hf.wd hf.ht hn32).1
            have HSL : Hid (4 ≤ SG.length) := by show _ ≤ _; rw [← hSG, lsig_length]; unfold llng; omega
            rw [hSG] at hown
            have S5 : Hid (Rd w5.heap.size w5 v5 SG) := hown.rd
            have HMN : Hid (N1 ≤ M ∧ n < N1) := by constructor <;> omega
            have d1 : decide ((m : Int) ≤ (n : Int)) = true := by simp; omega
            have d2 : decide ((M : Int) ≤ (n : Int)) = false := by simp; omega
            have d1' : decide (m ≤ n) = true := by simp; omega
            have d2' : decide (M ≤ n) = false := by simp; omega
            clear hb K4 RT hx hfm hfn hown hN1 hfQ hM hM2 hnM hSG hn32 hf
            go_wp2_with (refine wpList_alloc_blk rfl 30 rfl _ ziPurse ?_)
            intro w6 a1 a2 a3
            obtain ⟨g12, hg12⟩ : ∃ g, w5.heap.size = g := ⟨_, rfl⟩
            rw [hg12] at a1 a2 a3 ⊢
            have A1 := Lib.hid a1
            obtain ⟨t6, ht6⟩ : ∃ t, w6.setRow g12 (pcs I seed (k : Int) (h : Int) (N1 : Int) (M : Int) (s : Int)).toArray = t := ⟨_, rfl⟩
            have hb6 : Below w5.heap.size w5 t6 := by rw [← ht6, hg12]; exact below_setRow' a3 (Nat.le_refl _) _
            have K6 : Hid (OnceAt w I seed k h s g3 g7 u9 U n m t6) := K5.out.below hb6
            have Q6 : Hid (Blk t6 g12 (pcs I seed (k : Int) (h : Int) (N1 : Int) (M : Int) (s : Int)) 30) := by show Blk _ _ _ _; rw [← ht6]; exact a1.setRow
            have H1112 : Hid (g11 < g12) := by have := R5.out; show _ < _; omega
            have HLQ : Hid (pcs0.length = (pcs I seed (k : Int) (h : Int) (N1 : Int) (M : Int) (s : Int)).length) := by show _ = _; rw [pcs_length I seed _ _ _ _ _ HI.out HS.out]; rfl
            have S6 : Hid (Rd t6.heap.size t6 v5 SG) := (S5.out.below hb6).more hb6.size
            have T6 : Hid (Rd t6.heap.size t6 (.slice (some ⟨g11, 0, none⟩) 1 1) [bt]) := (T5.out.below hb6).more hb6.size
            have HT6 := Lib.hid ht6
            clear a1 a2 a3 hb6 ht6 hg12 K5 S5 T5
            go_wp2_with (refine wpList_store_blk rfl 30 _ _ rfl g12 (pcs I seed (k : Int) (h : Int) (N1 : Int) (M : Int) (s : Int)) pcs0 30 rfl rfl A1.out (sPurse' I seed _ _ _ _ _ HI.out HS.out) HLQ.out (pcs_one _ _ _ _ _ _ _) ?_; rw [HT6.out]; clear HT6)
            refine (leafT_yes _ SG _ S6.out HSL.out).mono ?_
            rintro e w7 ⟨rfl, hb⟩
            rw [HWS.out]
            have K7 : Hid (OnceAt w I seed k h s g3 g7 u9 U n m w7) := K6.out.below hb
            have Q7 : Hid (Blk w7 g12 (pcs I seed (k : Int) (h : Int) (N1 : Int) (M : Int) (s : Int)) 30) := Q6.out.below hb Q6.out.lt
            have S7 : Hid (Rd w7.heap.size w7 v5 SG) := (S6.out.below hb).more hb.size
            have T7 : Hid (Rd w7.heap.size w7 (.slice (some ⟨g11, 0, none⟩) 1 1) [bt]) := (T6.out.below hb).more hb.size
            clear hb K6 Q6 A1 S6 T6
            go_wp2_with (refine wpList_load_blkUG 30 _ rfl g12 rfl (pcs I seed (k : Int) (h : Int) (N1 : Int) (M : Int) (s : Int)) 30 Q7.out dP HUP.out HDP.out (sPurse' I seed _ _ _ _ _ HI.out HS.out) (by rfl) ?_)
            refine (ownsP_yes I seed [bt] SG k h _ _ _ 0 _ _ _ HI.out HS.out HFQ.out.wd HFQ.out.ht T7.out S7.out (fun pv w hp ht hsg => verT_right I seed [bt] k h n pv _ _ w HI.out HFQ.out.wd HFQ.out.ht HXX.out hp ht (by simp) (by rw [HSG.out]; exact hsg))).mono ?_
            rintro e w8 ⟨rfl, hb⟩
            have K8 : Hid (OnceAt w I seed k h s g3 g7 u9 U n m w8) := K7.out.below hb
            have Q8 : Hid (Blk w8 g12 (pcs I seed (k : Int) (h : Int) (N1 : Int) (M : Int) (s : Int)) 30) := Q7.out.below hb Q7.out.lt
            clear hb K7 Q7 S7 T7
            rw [show ((0 : Int) == 0) = true from rfl]
            have cm := (K8.out.2.1.cell 51).trans (pcs_m I seed _ _ _ _ _ HI.out HS.out)
            have cM := (Q8.out.cell 51).trans (pcs_m I seed _ _ _ _ _ HI.out HS.out)
            have rd8 := K8.out.1.rd
            obtain ⟨A9, c9, hv9, hc9, hm9⟩ := rd8.shape
            unfold maxLen at hm9
            subst hv9
            go_wp2
            clear cm cM d1 d2 d1' d2'
            go_loopw [18] (fun x wr => ∃ i : Nat, i ≤ U.length ∧ x = .int .i64 (i : Int) ∧ w8 = wr) (fun x _ => U.length - (intOf x).toNat)
            case atStart => exact ⟨0, Nat.zero_le _, rfl, rfl⟩
            case round =>
              obtain ⟨i, hi, rfl, rfl⟩ := hrel
              have hU12 : U.length ≤ 12 := by omega
              by_cases hiU : i < U.length
              · obtain ⟨a9, rfl, hc⟩ := rd8.at_ i hiU
                have hne : U.getD i 0 < n := by
                  refine K8.out.2.2.2.2.1 _ ?_
                  rw [List.getD_eq_getElem?_getD, List.getElem?_eq_getElem hiU, Option.getD_some]
                  exact List.getElem_mem hiU
                obtain ⟨y, hy⟩ : ∃ y, U.getD i 0 = y := ⟨_, rfl⟩
                rw [hy] at hc hne
                have z1 : ((y : Int) == (n : Int)) = false := by simp; omega
                have z1' : (y == n) = false := by simp; omega
                have ti : decide ((i : Int) < (U.length : Int)) = true := decide_eq_true (by omega)
                have ti' : decide (i < U.length) = true := decide_eq_true hiU
                clear hy
                go_wp2
                go_roundw
                case rel => exact ⟨i + 1, by omega, by go_num, by trivial⟩
                case measure => simp [intOf]; omega
              · have ti : decide ((i : Int) < (U.length : Int)) = false := decide_eq_false (by omega)
                have ti' : decide (i < U.length) = false := decide_eq_false (by omega)
                have hl8 : g12 < w8.heap.size := Q8.out.lt
                obtain ⟨w9, hw9⟩ : ∃ t, w8.alloc (.cells #[.int .i64 (n : Int)] 3) = t := ⟨_, rfl⟩
                have hb9 : Below w8.heap.size w8 w9 := by rw [← hw9]; exact (Below.refl _ _).alloc (Nat.le_refl _) _
                have K9 : Hid (OnceAt w I seed k h s g3 g7 _ U n m w9) := K8.out.below hb9
                have Q9 : Hid (Blk w9 g12 (pcs I seed (k : Int) (h : Int) (N1 : Int) (M : Int) (s : Int)) 30) := Q8.out.below hb9 hl8
                have c99 : w9.cell? ⟨w8.heap.size, 0, none⟩ = some (.int .i64 (n : Int)) := by rw [← hw9, World.cell?_alloc_mark]; rfl
                have HW9 := Lib.hid hw9
                have hsz9 : Hid (g7 + 1 ≤ w9.heap.size) := by have := K9.out.2.1.lt; show _ ≤ _; omega
                clear hw9 hb9 rd8
                go_wp2_with (rw [HW9.out]; at_builtin; refine wpList_app1G rfl _ _ 34 rfl 3 ii Try.underlying34 HII.out HIZ.out HIS.out HIB.out (g7 + 1) _ U n _ rfl K9.out.1 rfl c99 (by omega) hsz9.out ?_)
                intro v10 w10 ho hg
                have hnb : ∀ g, g ≤ g7 ∨ g11 ≤ g → some g ≠ (Value.slice A9 U.length c9).ownBlock := fun g hg0 he => by have := HK9.out g he.symm; omega
                have K10 : Hid (OnceAt w I seed k h s g3 g7 v10 (U ++ [n]) N1 M (w10.setRow g7 (pcs I seed (k : Int) (h : Int) (N1 : Int) (M : Int) (s : Int)).toArray)) := by
                  have b7 := K9.out.2.1.grown hg (hnb g7 (.inl (Nat.le_refl _)))
                  have b3 := K9.out.2.2.1.grown hg (hnb g3 (.inl (by have := H37.out; omega)))
                  have hbw : Below w.heap.size w w10 := K9.out.2.2.2.2.2.trans ((Below.refl _ _).grown hg K9.out.2.2.2.2.2.size (fun kb hk => by have := (HK9.out kb hk).1; have := HW7.out; omega))
                  refine ⟨ho.but ((But.refl g7 w10).setRow _) (Nat.lt_succ_self _), b7.setRow, b3.setRowOther (by have := H37.out; omega), HFQ.out, fun u hu => ?_, below_setRow' hbw HW7.out _⟩
                  have h1 := HMN.out
                  rcases List.mem_append.1 hu with hu | hu
                  · have := K9.out.2.2.2.2.1 u hu; omega
                  · simp at hu; omega
                have Q10 : Hid (Blk w10 g12 (pcs I seed (k : Int) (h : Int) (N1 : Int) (M : Int) (s : Int)) 30) := Q9.out.grown hg (hnb g12 (.inr (by have := H1112.out; omega)))
                have B10 : Hid (Blk w10 g7 (pcs I seed (k : Int) (h : Int) (n : Int) (m : Int) (s : Int)) 30) := K9.out.2.1.grown hg (hnb g7 (.inl (Nat.le_refl _)))
                clear ho hg hnb K8 Q8 K9 Q9 c99 hl8
                go_wp2_with (first | (refine wpList_load_blkU rfl 30 _ rfl g12 rfl (pcs I seed (k : Int) (h : Int) (N1 : Int) (M : Int) (s : Int)) 30 Q10.out dP HUP.out HDP.out (sPurse' I seed _ _ _ _ _ HI.out HS.out) ?_) | (refine wpList_store_blk rfl 30 _ _ rfl g7 (pcs I seed (k : Int) (h : Int) (N1 : Int) (M : Int) (s : Int)) (pcs I seed (k : Int) (h : Int) (n : Int) (m : Int) (s : Int)) 30 rfl rfl B10.out (sPurse' I seed _ _ _ _ _ HI.out HS.out) (HLEN.out _ _ _ _) (pcs_one _ _ _ _ _ _ _) ?_))
                go_roundw
                case rel => exact ⟨j + 1, N1, M, U ++ [n], by go_num, by omega, by simp; omega, K10⟩
                case measure => simp [intOf]; omega
      · go_wp2_with (refine wpList_load_blkU rfl 30 _ rfl g7 rfl (pcs I seed (k : Int) (h : Int) (n : Int) (m : Int) (s : Int)) 30 K3.out.2.1 dP HUP.out HDP.out (sPurse' I seed _ _ _ _ _ HI.out HS.out) ?_)
        clear hcell
        refine (crashP_any I seed _ _ _ _ _ _ HI.out HS.out).mono ?_
        rintro e w4 ⟨rfl, hb⟩
        have K4 : Hid (OnceAt w I seed k h s g3 g7 u9 U n m w4) := K3.out.below hb
        have hfC : PFit k h m m s := ⟨K3.out.2.2.2.1.wd, K3.out.2.2.2.1.ht, Nat.le_refl _, K3.out.2.2.2.1.mh, K3.out.2.2.2.1.s1, K3.out.2.2.2.1.s8⟩
        have K5 : Hid (OnceAt w I seed k h s g3 g7 u9 U m m (w4.setRow g7 (pcs I seed (k : Int) (h : Int) (m : Int) (m : Int) (s : Int)).toArray)) := K4.out.put H37.out HW7.out hfC K4.out.2.2.2.1.nm
        clear hb K3 hfC
        go_wp2_with (refine wpList_store_blk rfl 30 _ _ rfl g7 (pcs I seed (k : Int) (h : Int) (m : Int) (m : Int) (s : Int)) (pcs I seed (k : Int) (h : Int) (n : Int) (m : Int) (s : Int)) 30 rfl rfl K4.out.2.1 (sPurse' I seed _ _ _ _ _ HI.out HS.out) (HLEN.out _ _ _ _) (pcs_one _ _ _ _ _ _ _) ?_)
        go_roundw
        case rel => exact ⟨j + 1, m, m, U, by go_num, by omega, by omega, K5⟩
        case measure => simp [intOf]; omega
    · obtain rfl : j = N := by omega
      have tj : decide ((j : Int) < (j : Int)) = false := decide_eq_false (by omega)
      have rd8 := KK.out.1.rd
      obtain ⟨A9, c9, hv9, hc9, hm9⟩ := rd8.shape
      unfold maxLen at hm9
      subst hv9
      obtain ⟨ul, hul⟩ : ∃ u, U.length = u := ⟨_, rfl⟩
      have HUL := Lib.hid hul
      rw [hul] at hc9 ⊢
      clear rd8 hul
      go_wp2_with fail
      by_cases he : ul = 0
      · subst he
        refine wp_region_rely2 15 0 (fun x => ⟨#[Value.agg (tcs I seed ↑k ↑h).toArray, Value.int IntKind.i64 ↑s, Value.slice As j cs, Value.pointer (some { block := g3, off := 0 }), undef, undef, x 14, Value.pointer (some { block := g7, off := 0 }), Value.int IntKind.i64 0, Value.slice A9 0 c9, Value.int IntKind.i64 ↑j, u11, u12, u13, u14, u15, u16, u17, u18, Value.agg (tcs I seed ↑k ↑h).toArray, Value.bool true, Value.bool false, Value.bool false, Value.slice As j cs, Value.int IntKind.i64 ↑j, Value.bool false, Value.bool false, undef, Value.tuple #[Value.agg (pcs I seed (↑k) (↑h) 0 0 ↑s).toArray, Value.int IntKind.i64 0], Value.agg (tcs I seed ↑k ↑h).toArray, Value.int IntKind.i64 ↑s, Value.tuple #[Value.agg (pcs I seed (↑k) (↑h) 0 0 ↑s).toArray, Value.int IntKind.i64 0], Value.agg (pcs I seed (↑k) (↑h) 0 0 ↑s).toArray, Value.int IntKind.i64 0, Value.int IntKind.i64 0, Value.bool false, undef, Value.slice (some { block := t4.heap.size, off := 0 }) 0 0, Value.int IntKind.i64 ↑j, Value.slice As j cs, Value.int IntKind.i64 ↑j, Value.bool false, u42, u43, u44, u45, u46, u47, u48, u49, u50, u51, u52, u53, u54, u55, u56, u57, u58, u59, u60, u61, u62, u63, u64, u65, u66, u67, u68, u69, u70, u71, u72, u73, u74, u75, u76, u77, u78, u79, u80, u81, u82, u83, u84, u85, u86, u87, u88, u89, u90, u91, u92, u93, u94, u95, u96, u97, u98, u99, u100, u101, u102, u103, u104, u105, u106, u107, u108, u109, u110, u111, u112, u113, u114, u115, u116, u117, u118, u119, u120, u121, u122, u123, x 0, x 1, x 2, x 3, x 4, x 5, x 6, x 7, x 8, x 9, x 10, x 11, x 12, x 13], []⟩) (fun jj => ([(eqV (.bool true)), eqV (.bool true), eqV (.slice A9 0 c9), eqV (.int .i64 0), eqV (.bool true), eqV (.bool true), (eqV undef), (eqV undef), (eqV undef), (eqV undef), (eqV undef), (eqV undef), eqV (.bool true), eqV (.bool true), eqV (.bool true)] : List (Value → World → Prop)).getD jj (fun _ _ => True)) rfl ⟨fun kk => [_, _, _, _, _, _, _, _, _, _, _, _, _, _, _].getD kk undef, rfl⟩ (by kernel_rfl) (by kernel_rfl) ?steps ?fin
        case steps =>
          refine StepsAt.cons 0 (fun _ _ _ h hb => h) (fun _ _ => rfl) rfl rfl (fun x w14 hb hd K hK => ?_) ?_
          · go_simp
            refine (alive6_any _).mono ?_
            rintro e w15 ⟨rfl, hb2⟩
            exact hK.out _ _ hb2 rfl
          refine StepsAt.val 1 (.bool true) rfl (fun _ _ => rfl) rfl rfl (fun x w14 hb hd => ?_) ?_
          · have h0 : x 0 = .bool true := hd 0 (by kernel_rfl)
            rw [h0]
            first | (go_simp; done) | (go_simp; rfl)
          refine StepsAt.valG 2 (.slice A9 0 c9) rfl (fun _ _ => rfl) rfl (fun x w14 hd => ?_) (fun x w14 hb hd => ?_) ?_
          · have hG : x 1 = .bool true := hd 1 (by kernel_rfl)
            simp [Region.wanted, yielded, hG]
          · first | (go_simp; done) | (go_simp; rfl)
          refine StepsAt.valG 3 (.int .i64 0) rfl (fun _ _ => rfl) rfl (fun x w14 hd => ?_) (fun x w14 hb hd => ?_) ?_
          · have hG : x 1 = .bool true := hd 1 (by kernel_rfl)
            simp [Region.wanted, yielded, hG]
          · have h2 : x 2 = .slice A9 0 c9 := hd 2 (by kernel_rfl)
            rw [h2]
            first | (go_simp; done) | (go_simp; rfl)
          refine StepsAt.valG 4 (.bool true) rfl (fun _ _ => rfl) rfl (fun x w14 hd => ?_) (fun x w14 hb hd => ?_) ?_
          · have hG : x 1 = .bool true := hd 1 (by kernel_rfl)
            simp [Region.wanted, yielded, hG]
          · have h3 : x 3 = .int .i64 0 := hd 3 (by kernel_rfl)
            rw [h3]
            first | (go_simp; done) | (go_simp; rfl)
          refine StepsAt.valG 5 (.bool true) rfl (fun _ _ => rfl) rfl (fun x w14 hd => ?_) (fun x w14 hb hd => ?_) ?_
          · have hG : x 1 = .bool true := hd 1 (by kernel_rfl)
            simp [Region.wanted, yielded, hG]
          · have h4 : x 4 = .bool true := hd 4 (by kernel_rfl)
            rw [h4]
            first | (go_simp; done) | (go_simp; rfl)
          refine StepsAt.skip 6 rfl (fun _ _ => rfl) rfl (fun x w14 hd => ?_) ?_
          · have hG : x 5 = .bool true := hd 5 (by kernel_rfl)
            simp [Region.wanted, yielded, hG]
          refine StepsAt.skip 7 rfl (fun _ _ => rfl) rfl (fun x w14 hd => ?_) ?_
          · have hG : x 5 = .bool true := hd 5 (by kernel_rfl)
            simp [Region.wanted, yielded, hG]
          refine StepsAt.skip 8 rfl (fun _ _ => rfl) rfl (fun x w14 hd => ?_) ?_
          · have hG : x 5 = .bool true := hd 5 (by kernel_rfl)
            simp [Region.wanted, yielded, hG]
          refine StepsAt.skip 9 rfl (fun _ _ => rfl) rfl (fun x w14 hd => ?_) ?_
          · have hG : x 5 = .bool true := hd 5 (by kernel_rfl)
            simp [Region.wanted, yielded, hG]
          refine StepsAt.skip 10 rfl (fun _ _ => rfl) rfl (fun x w14 hd => ?_) ?_
          · have hG : x 5 = .bool true := hd 5 (by kernel_rfl)
            simp [Region.wanted, yielded, hG]
          refine StepsAt.skip 11 rfl (fun _ _ => rfl) rfl (fun x w14 hd => ?_) ?_
          · have hG : x 5 = .bool true := hd 5 (by kernel_rfl)
            simp [Region.wanted, yielded, hG]
          refine StepsAt.valG 12 (.bool true) rfl (fun _ _ => rfl) rfl (fun x w14 hd => ?_) (fun x w14 hb hd => ?_) ?_
          · have hG : x 1 = .bool true := hd 1 (by kernel_rfl)
            simp [Region.wanted, yielded, hG]
          · have h5 : x 5 = .bool true := hd 5 (by kernel_rfl)
            have h11 : x 11 = undef := hd 11 (by kernel_rfl)
            rw [h5, h11]
            first | (go_simp; done) | (go_simp; rfl)
          refine StepsAt.val 13 (.bool true) rfl (fun _ _ => rfl) rfl rfl (fun x w14 hb hd => ?_) ?_
          · have h1 : x 1 = .bool true := hd 1 (by kernel_rfl)
            have h12 : x 12 = .bool true := hd 12 (by kernel_rfl)
            rw [h1, h12]
            first | (go_simp; done) | (go_simp; rfl)
          refine StepsAt.val 14 (.bool true) rfl (fun _ _ => rfl) rfl rfl (fun x w14 hb hd => ?_) ?_
          · have h13 : x 13 = .bool true := hd 13 (by kernel_rfl)
            rw [h13]
            first | (go_simp; done) | (go_simp; rfl)
          exact StepsAt.done
        case fin =>
          intro x w14 hb hd
          have h14 : x 14 = .bool true := hd 14 (by omega)
          refine AnyTill.any (S := fun _ => True) (m := 15) _ _ _ _ ?_
          refine AnyTill.done (by kernel_rfl) ?_
          refine NoPanic.normal ?_
          try dsimp only
          rw [h14]
          have K3 : Hid (Below w.heap.size w w14) := KK.out.2.2.2.2.2.trans (hb.mono KK.out.2.2.2.2.2.size)
          generalize x 0 = y0
          generalize x 1 = y1
          generalize x 2 = y2
          generalize x 3 = y3
          generalize x 4 = y4
          generalize x 5 = y5
          generalize x 6 = y6
          generalize x 7 = y7
          generalize x 8 = y8
          generalize x 9 = y9
          generalize x 10 = y10
          generalize x 11 = y11
          generalize x 12 = y12
          generalize x 13 = y13
          clear hd h14 hb KK x
          go_wp2
          go_ret
          exact ⟨rfl, K3.out⟩
      · have z0 : ((ul : Int) == 0) = false := by simp; omega
        obtain ⟨D, hD⟩ : ∃ D, 2 ^ h - n = D := ⟨_, rfl⟩
        have HDE := Lib.hid hD
        have hn1 : 1 ≤ n := by
          cases U with
          | nil => exact absurd HUL.out.symm he
          | cons u us => have := KK.out.2.2.2.2.1 u (by simp); omega
        have hnn := KK.out.2.2.2.1.nm
        have hmm := KK.out.2.2.2.1.mh
        have hLL := HL.out
        have z1 : decide ((D : Int) < (L : Int)) = true := decide_eq_true (by omega)
        have z1' : decide (D < L) = true := decide_eq_true (by omega)
        clear hD hn1 hnn hmm hLL
        refine wp_region_rely2 15 0 (fun x => ⟨#[Value.agg (tcs I seed ↑k ↑h).toArray, Value.int IntKind.i64 ↑s, Value.slice As j cs, Value.pointer (some { block := g3, off := 0 }), undef, undef, x 14, Value.pointer (some { block := g7, off := 0 }), Value.int IntKind.i64 0, Value.slice A9 ul c9, Value.int IntKind.i64 ↑j, u11, u12, u13, u14, u15, u16, u17, u18, Value.agg (tcs I seed ↑k ↑h).toArray, Value.bool true, Value.bool false, Value.bool false, Value.slice As j cs, Value.int IntKind.i64 ↑j, Value.bool false, Value.bool false, undef, Value.tuple #[Value.agg (pcs I seed (↑k) (↑h) 0 0 ↑s).toArray, Value.int IntKind.i64 0], Value.agg (tcs I seed ↑k ↑h).toArray, Value.int IntKind.i64 ↑s, Value.tuple #[Value.agg (pcs I seed (↑k) (↑h) 0 0 ↑s).toArray, Value.int IntKind.i64 0], Value.agg (pcs I seed (↑k) (↑h) 0 0 ↑s).toArray, Value.int IntKind.i64 0, Value.int IntKind.i64 0, Value.bool false, undef, Value.slice (some { block := t4.heap.size, off := 0 }) 0 0, Value.int IntKind.i64 ↑j, Value.slice As j cs, Value.int IntKind.i64 ↑j, Value.bool false, u42, u43, u44, u45, u46, u47, u48, u49, u50, u51, u52, u53, u54, u55, u56, u57, u58, u59, u60, u61, u62, u63, u64, u65, u66, u67, u68, u69, u70, u71, u72, u73, u74, u75, u76, u77, u78, u79, u80, u81, u82, u83, u84, u85, u86, u87, u88, u89, u90, u91, u92, u93, u94, u95, u96, u97, u98, u99, u100, u101, u102, u103, u104, u105, u106, u107, u108, u109, u110, u111, u112, u113, u114, u115, u116, u117, u118, u119, u120, u121, u122, u123, x 0, x 1, x 2, x 3, x 4, x 5, x 6, x 7, x 8, x 9, x 10, x 11, x 12, x 13], []⟩) (fun jj => ([(eqV (.bool true)), eqV (.bool true), eqV (.slice A9 ul c9), eqV (.int .i64 (ul : Int)), eqV (.bool false), eqV (.bool false), eqV (.agg (pcs I seed (k : Int) (h : Int) (n : Int) (m : Int) (s : Int)).toArray), (eqV (.int .i64 (D : Int))), eqV (.pointer (some ⟨g3, 49, none⟩)), eqV (.int .i64 (h : Int)), eqV (.int .i64 (L : Int)), eqV (.bool true), eqV (.bool true), eqV (.bool true), eqV (.bool true)] : List (Value → World → Prop)).getD jj (fun _ _ => True)) rfl ⟨fun kk => [_, _, _, _, _, _, _, _, _, _, _, _, _, _, _].getD kk undef, rfl⟩ (by kernel_rfl) (by kernel_rfl) ?steps ?fin
        case steps =>
          refine StepsAt.cons 0 (fun _ _ _ h hb => h) (fun _ _ => rfl) rfl rfl (fun x w14 hb hd K hK => ?_) ?_
          · go_simp
            refine (alive6_any _).mono ?_
            rintro e w15 ⟨rfl, hb2⟩
            exact hK.out _ _ hb2 rfl
          refine StepsAt.val 1 (.bool true) rfl (fun _ _ => rfl) rfl rfl (fun x w14 hb hd => ?_) ?_
          · have h0 : x 0 = .bool true := hd 0 (by kernel_rfl)
            rw [h0]
            first | (go_simp; done) | (go_simp; rfl)
          refine StepsAt.valG 2 (.slice A9 ul c9) rfl (fun _ _ => rfl) rfl (fun x w14 hd => ?_) (fun x w14 hb hd => ?_) ?_
          · have hG : x 1 = .bool true := hd 1 (by kernel_rfl)
            simp [Region.wanted, yielded, hG]
          · first | (go_simp; done) | (go_simp; rfl)
          refine StepsAt.valG 3 (.int .i64 (ul : Int)) rfl (fun _ _ => rfl) rfl (fun x w14 hd => ?_) (fun x w14 hb hd => ?_) ?_
          · have hG : x 1 = .bool true := hd 1 (by kernel_rfl)
            simp [Region.wanted, yielded, hG]
          · have h2 : x 2 = .slice A9 ul c9 := hd 2 (by kernel_rfl)
            rw [h2]
            first | (go_simp; done) | (go_simp; rfl)
          refine StepsAt.valG 4 (.bool false) rfl (fun _ _ => rfl) rfl (fun x w14 hd => ?_) (fun x w14 hb hd => ?_) ?_
          · have hG : x 1 = .bool true := hd 1 (by kernel_rfl)
            simp [Region.wanted, yielded, hG]
          · have h3 : x 3 = .int .i64 (ul : Int) := hd 3 (by kernel_rfl)
            rw [h3]
            first | (go_simp; done) | (go_simp; rfl)
          refine StepsAt.valG 5 (.bool false) rfl (fun _ _ => rfl) rfl (fun x w14 hd => ?_) (fun x w14 hb hd => ?_) ?_
          · have hG : x 1 = .bool true := hd 1 (by kernel_rfl)
            simp [Region.wanted, yielded, hG]
          · have h4 : x 4 = .bool false := hd 4 (by kernel_rfl)
            rw [h4]
            first | (go_simp; done) | (go_simp; rfl)
          refine StepsAt.valG 6 (.agg (pcs I seed (k : Int) (h : Int) (n : Int) (m : Int) (s : Int)).toArray) rfl (fun _ _ => rfl) rfl (fun x w14 hd => ?_) (fun x w14 hb hd => ?_) ?_
          · have hG : x 5 = .bool false := hd 5 (by kernel_rfl)
            simp [Region.wanted, yielded, hG]
          · exact run_load_blkU 30 (.tmp 7) rfl g7 rfl (pcs I seed (k : Int) (h : Int) (n : Int) (m : Int) (s : Int)) 30 (KK.out.2.1.below hb KK.out.2.1.lt) dP HUP.out HDP.out (sPurse' I seed _ _ _ _ _ HI.out HS.out)
          refine StepsAt.consG 7 (fun _ _ _ h hb => h) (fun _ _ => rfl) rfl (fun x w14 hd => ?_) (fun x w14 hb hd K hK => ?_) ?_
          · have hG : x 5 = .bool false := hd 5 (by kernel_rfl)
            simp [Region.wanted, yielded, hG]
          · have h6 : Hid (x 6 = .agg (pcs I seed (k : Int) (h : Int) (n : Int) (m : Int) (s : Int)).toArray) := hd 6 (by kernel_rfl)
            go_simp
            refine calls_args (args2 := #[.agg (pcs I seed (k : Int) (h : Int) (n : Int) (m : Int) (s : Int)).toArray]) (by rw [h6.out]) ?_
            refine (leftP_yes I seed k h n m s _ HI.out HS.out KK.out.2.2.2.1).mono ?_
            rintro e w15 ⟨rfl, hb2⟩
            rw [HDE.out]
            exact hK.out _ _ hb2 rfl
          refine StepsAt.valG 8 (.pointer (some ⟨g3, 49, none⟩)) rfl (fun _ _ => rfl) rfl (fun x w14 hd => ?_) (fun x w14 hb hd => ?_) ?_
          · have hG : x 5 = .bool false := hd 5 (by kernel_rfl)
            simp [Region.wanted, yielded, hG]
          · first | (go_simp; done) | (go_simp; rfl)
          refine StepsAt.valG 9 (.int .i64 (h : Int)) rfl (fun _ _ => rfl) rfl (fun x w14 hd => ?_) (fun x w14 hb hd => ?_) ?_
          · have hG : x 5 = .bool false := hd 5 (by kernel_rfl)
            simp [Region.wanted, yielded, hG]
          · have h8 : x 8 = .pointer (some ⟨g3, 49, none⟩) := hd 8 (by kernel_rfl)
            have cc := ((KK.out.2.2.1.below hb KK.out.2.2.1.lt).cell 49).trans (tcs_y I seed _ _ HI.out HS.out)
            rw [h8]
            first | (go_simp; done) | (go_simp; rfl)
          refine StepsAt.valG 10 (.int .i64 (L : Int)) rfl (fun _ _ => rfl) rfl (fun x w14 hd => ?_) (fun x w14 hb hd => ?_) ?_
          · have hG : x 5 = .bool false := hd 5 (by kernel_rfl)
            simp [Region.wanted, yielded, hG]
          · have h9 : x 9 = .int .i64 (h : Int) := hd 9 (by kernel_rfl)
            rw [h9]
            have hL0 := HL.out
            have hh0 := HHH.out
            clear hd h9 z1 z1'
            rcases hh0 with e0 | e0
            · rw [e0] at hL0 ⊢
              obtain rfl : L = 2 := hL0.symm.trans (show 2 ^ 1 = 2 from rfl)
              clear hL0
              first | (go_simp; done) | (go_simp; rfl)
            · rw [e0] at hL0 ⊢
              obtain rfl : L = 4 := hL0.symm.trans (show 2 ^ 2 = 4 from rfl)
              clear hL0
              first | (go_simp; done) | (go_simp; rfl)
          refine StepsAt.valG 11 (.bool true) rfl (fun _ _ => rfl) rfl (fun x w14 hd => ?_) (fun x w14 hb hd => ?_) ?_
          · have hG : x 5 = .bool false := hd 5 (by kernel_rfl)
            simp [Region.wanted, yielded, hG]
          · have h7 : x 7 = .int .i64 (D : Int) := hd 7 (by kernel_rfl)
            have h10 : x 10 = .int .i64 (L : Int) := hd 10 (by kernel_rfl)
            rw [h7, h10]
            first | (go_simp; done) | (go_simp; rfl)
          refine StepsAt.valG 12 (.bool true) rfl (fun _ _ => rfl) rfl (fun x w14 hd => ?_) (fun x w14 hb hd => ?_) ?_
          · have hG : x 1 = .bool true := hd 1 (by kernel_rfl)
            simp [Region.wanted, yielded, hG]
          · have h5 : x 5 = .bool false := hd 5 (by kernel_rfl)
            have h11 : x 11 = .bool true := hd 11 (by kernel_rfl)
            rw [h5, h11]
            first | (go_simp; done) | (go_simp; rfl)
          refine StepsAt.val 13 (.bool true) rfl (fun _ _ => rfl) rfl rfl (fun x w14 hb hd => ?_) ?_
          · have h1 : x 1 = .bool true := hd 1 (by kernel_rfl)
            have h12 : x 12 = .bool true := hd 12 (by kernel_rfl)
            rw [h1, h12]
            first | (go_simp; done) | (go_simp; rfl)
          refine StepsAt.val 14 (.bool true) rfl (fun _ _ => rfl) rfl rfl (fun x w14 hb hd => ?_) ?_
          · have h13 : x 13 = .bool true := hd 13 (by kernel_rfl)
            rw [h13]
            first | (go_simp; done) | (go_simp; rfl)
          exact StepsAt.done
        case fin =>
          intro x w14 hb hd
          have h14 : x 14 = .bool true := hd 14 (by omega)
          refine AnyTill.any (S := fun _ => True) (m := 15) _ _ _ _ ?_
          refine AnyTill.done (by kernel_rfl) ?_
          refine NoPanic.normal ?_
          try dsimp only
          rw [h14]
          have K3 : Hid (Below w.heap.size w w14) := KK.out.2.2.2.2.2.trans (hb.mono KK.out.2.2.2.2.2.size)
          generalize x 0 = y0
          generalize x 1 = y1
          generalize x 2 = y2
          generalize x 3 = y3
          generalize x 4 = y4
          generalize x 5 = y5
          generalize x 6 = y6
          generalize x 7 = y7
          generalize x 8 = y8
          generalize x 9 = y9
          generalize x 10 = y10
          generalize x 11 = y11
          generalize x 12 = y12
          generalize x 13 = y13
          clear hd h14 hb KK x
          go_wp2
          go_ret
          exact ⟨rfl, K3.out⟩

theorem once_all (I seed : List UInt8) (z y s : Int) (sv : Value) (script : List Bool) (w : World) (hI : I.length = 16) (hs : seed.length = 32) (ht : RdO w.heap.size w sv script) : Calls Try.prog 3 #[.agg (tcs I seed z y).toArray, .int .i64 s, sv] w (One (.bool true) w) := by
  by_cases h1 : 3 ≤ y ∧ y ≤ 5
  · exact once_high I seed script z y s sv w hI hs ht h1.1 h1.2
  by_cases h2 : 12 < script.length
  · exact once_long I seed script z y s sv w hI hs ht (by omega) h2
  rcases purse_or z y 0 0 s with ⟨k, h, N, M, S, hf, rfl, rfl, hN, hM, rfl⟩ | hp
  · have hh : h = 1 ∨ h = 2 := by have := hf.ht.le; omega
    obtain rfl : N = 0 := by omega
    obtain rfl : M = 0 := by omega
    exact once_main I seed script k h S sv w hI hs ht hh hf (by omega)
  · exact once_none I seed script z y s sv w hI hs ht (by omega) (by omega) hp
end Go.Proofs.Ythkanlkjdmlafaa
