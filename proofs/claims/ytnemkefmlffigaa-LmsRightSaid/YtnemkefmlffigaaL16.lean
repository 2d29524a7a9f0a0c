/-
  The law LmsRight, walked: it answers true for every tree, every leaf's number and every text.
-/
import Derived.Test.YtnemkefmlffigaaLE
namespace Go.Proofs.Ytnemkefmlffigaa
open Go.RowKit

set_option maxRecDepth 100000 in
set_option maxHeartbeats 400000 in
theorem right_high (I seed text : List UInt8) (z y q : Int) (tv : Value) (w : World) (hI : I.length = 16) (hs : seed.length = 32) (ht : Rd w.heap.size w tv text) (hh : (3 ≤ y ∧ y ≤ 5) ∨ 2000 < text.length) : Calls Try.prog 4 #[.agg (tcs I seed z y).toArray, .int .i64 q, tv] w (One (.bool true) w) := by
  obtain ⟨At, ct, rfl, hct, hmt⟩ := ht.shape
  unfold maxLen at hmt
  obtain ⟨n, hn⟩ : ∃ n, text.length = n := ⟨_, rfl⟩
  rw [hn] at hh hct ⊢
  have HI := Lib.hid hI
  have HS := Lib.hid hs
  have HT : Hid ((Try.prog.info? 34).map (·.size) = some (tcs I seed z y).length) := by show _ = _; rw [tcs_length I seed _ _ hI hs]; exact sTree
  obtain ⟨dT, huT, hdT⟩ := rowTree
  have HU := Lib.hid huT
  have HD := Lib.hid hdT
  clear ht hn hI hs huT hdT
  go_enter Try.func4, Try.ntmps4
  go_wp2_with (refine wpList_box_blk rfl 34 _ rfl (tcs I seed z y) rfl ?_)
  intro w1 a1 a2 a3
  have A1 := Lib.hid a1
  have A3 := Lib.hid a3
  clear a1 a2 a3
  go_wp2_with (refine wpList_load_blkU rfl 34 _ rfl w.heap.size rfl (tcs I seed z y) 34 A1.out dT HU.out HD.out HT.out ?_)
  by_cases hy : 3 ≤ y ∧ y ≤ 5
  · refine (low_no I seed z y _ HI.out HS.out hy.1 hy.2).mono ?_
    rintro e w2 ⟨rfl, hb⟩
    have B3 : Hid (Below w.heap.size w w2) := A3.out.trans (hb.mono A3.out.size)
    clear hb A1 A3 hh hy
    go_wp2_with fail
    refine (alive5_any _).mono ?_
    rintro e w3 ⟨rfl, hb⟩
    have C3 : Hid (Below w.heap.size w w3) := B3.out.trans (hb.mono B3.out.size)
    clear hb B3
    go_wp2
    go_ret
    exact ⟨rfl, C3.out⟩
  · refine (low_yes I seed z y _ HI.out HS.out (by omega)).mono ?_
    rintro e w2 ⟨rfl, hb⟩
    have B3 : Hid (Below w.heap.size w w2) := A3.out.trans (hb.mono A3.out.size)
    have zn : (2000 : Int) < (n : Int) := by omega
    clear hb A1 A3 hh hy
    go_wp2_with fail
    refine (alive5_any _).mono ?_
    rintro e w3 ⟨rfl, hb⟩
    have C3 : Hid (Below w.heap.size w w3) := B3.out.trans (hb.mono B3.out.size)
    clear hb B3
    go_wp2
    go_ret
    exact ⟨rfl, C3.out⟩

set_option maxRecDepth 100000 in
set_option maxHeartbeats 400000 in
theorem right_no (I seed text : List UInt8) (z y q : Int) (tv : Value) (w : World) (hI : I.length = 16) (hs : seed.length = 32) (ht : Rd w.heap.size w tv text) (hy : y < 3 ∨ 5 < y) (hl : text.length ≤ 2000) (hn : NoT z y) : Calls Try.prog 4 #[.agg (tcs I seed z y).toArray, .int .i64 q, tv] w (One (.bool true) w) := by
  obtain ⟨At, ct, rfl, hct, hmt⟩ := ht.shape
  unfold maxLen at hmt
  obtain ⟨n, hn2⟩ : ∃ n, text.length = n := ⟨_, rfl⟩
  rw [hn2] at hl hct ⊢
  have HI := Lib.hid hI
  have HS := Lib.hid hs
  have HY := Lib.hid hy
  have HN := Lib.hid hn
  have zn : ¬ ((2000 : Int) < (n : Int)) := by omega
  have HT : Hid ((Try.prog.info? 34).map (·.size) = some (tcs I seed z y).length) := by show _ = _; rw [tcs_length I seed _ _ hI hs]; exact sTree
  obtain ⟨dT, huT, hdT⟩ := rowTree
  have HU := Lib.hid huT
  have HD := Lib.hid hdT
  clear ht hn2 hI hs huT hdT hy hn
  go_enter Try.func4, Try.ntmps4
  go_wp2_with (refine wpList_box_blk rfl 34 _ rfl (tcs I seed z y) rfl ?_)
  intro w1 a1 a2 a3
  obtain ⟨g0, hg0⟩ : ∃ g, w.heap.size = g := ⟨_, rfl⟩
  have A1 : Hid (Blk w1 g0 (tcs I seed z y) 34) := by rw [← hg0]; exact a1
  have A3 := Lib.hid a3
  rw [hg0]
  clear a1 a2 a3 hg0
  go_wp2_with (refine wpList_load_blkU rfl 34 _ rfl g0 rfl (tcs I seed z y) 34 A1.out dT HU.out HD.out HT.out ?_)
  refine (low_yes I seed z y _ HI.out HS.out HY.out).mono ?_
  rintro e w2 ⟨rfl, hb⟩
  have B1 : Hid (Blk w2 g0 (tcs I seed z y) 34) := A1.out.below hb A1.out.lt
  have B3 : Hid (Below w.heap.size w w2) := A3.out.trans (hb.mono A3.out.size)
  clear hb A1 A3
  go_wp2_with (refine wpList_load_blkU rfl 34 _ rfl g0 rfl (tcs I seed z y) 34 B1.out dT HU.out HD.out HT.out ?_)
  refine (pubT_no I seed z y _ HI.out HS.out HN.out).mono ?_
  rintro e w3 ⟨rfl, hb⟩
  have C1 : Hid (Blk w3 g0 (tcs I seed z y) 34) := B1.out.below hb B1.out.lt
  have C3 : Hid (Below w.heap.size w w3) := B3.out.trans (hb.mono B3.out.size)
  clear hb B1 B3
  go_wp2_with (refine wpList_load_blkU rfl 34 _ rfl g0 rfl (tcs I seed z y) 34 C1.out dT HU.out HD.out HT.out ?_)
  refine (signT_no I seed z y q _ _ HI.out HS.out HN.out).mono ?_
  rintro e w4 ⟨rfl, hb⟩
  have D1 : Hid (Blk w4 g0 (tcs I seed z y) 34) := C1.out.below hb C1.out.lt
  have D3 : Hid (Below w.heap.size w w4) := C3.out.trans (hb.mono C3.out.size)
  clear hb C1 C3
  go_wp2_with (refine wpList_load_blkU rfl 34 _ rfl g0 rfl (tcs I seed z y) 34 D1.out dT HU.out HD.out HT.out ?_)
  refine (longT_no I seed z y _ HI.out HS.out HN.out).mono ?_
  rintro e w5 ⟨rfl, hb⟩
  have E3 : Hid (Below w.heap.size w w5) := D3.out.trans (hb.mono D3.out.size)
  clear hb D1 D3
  go_wp2_with fail
  refine (alive5_any _).mono ?_
  rintro e w6 ⟨rfl, hb⟩
  have F3 : Hid (Below w.heap.size w w6) := E3.out.trans (hb.mono E3.out.size)
  clear hb E3
  go_wp2
  go_ret
  exact ⟨rfl, F3.out⟩

set_option maxRecDepth 100000 in
set_option maxHeartbeats 2000000 in
theorem right_yes (I seed text : List UInt8) (k h : Nat) (q : Int) (tv : Value) (w : World) (hI : I.length = 16) (hs : seed.length = 32) (ht : Rd w.heap.size w tv text) (hk : Wd k) (hh : h = 1 ∨ h = 2) (hl : text.length ≤ 2000) : Calls Try.prog 4 #[.agg (tcs I seed (k : Int) (h : Int)).toArray, .int .i64 q, tv] w (One (.bool true) w) := by
  have HTX := Lib.hid ht
  have HTL : Hid (text.length ≤ 100000) := by show _ ≤ _; omega
  obtain ⟨At, ct, rfl, hct, hmt⟩ := ht.shape
  unfold maxLen at hmt
  obtain ⟨n, hn2⟩ : ∃ n, text.length = n := ⟨_, rfl⟩
  rw [hn2] at hl hct HTX ⊢
  have HI := Lib.hid hI
  have HS := Lib.hid hs
  have HK := Lib.hid hk
  have HHT : Hid (Ht h) := by rcases hh with rfl | rfl; exact .inl rfl; exact .inr (.inl rfl)
  have HYL : Hid ((h : Int) < 3 ∨ 5 < (h : Int)) := by rcases hh with rfl | rfl <;> exact .inl (by decide)
  have zn : ¬ ((2000 : Int) < (n : Int)) := by omega
  have HT : Hid ((Try.prog.info? 34).map (·.size) = some (tcs I seed (k : Int) (h : Int)).length) := by show _ = _; rw [tcs_length I seed _ _ hI hs]; exact sTree
  have HYC := Lib.hid (tcs_y I seed (k : Int) (h : Int) hI hs)
  obtain ⟨dT, huT, hdT⟩ := rowTree
  have HU := Lib.hid huT
  have HD := Lib.hid hdT
  obtain ⟨P, hP⟩ : ∃ P, lpub I seed k h = P := ⟨_, rfl⟩
  have HPE := Lib.hid hP
  have HPL : Hid (P.length = 56) := by show _ = _; rw [← hP]; exact lpub_length _ _ _ _ hI
  obtain ⟨N, hN⟩ : ∃ N, llng k h = N := ⟨_, rfl⟩
  have HNE := Lib.hid hN
  have HHH := Lib.hid hh
  clear ht hn2 hI hs huT hdT hk hP hN hh
  go_enter Try.func4, Try.ntmps4
  go_wp2_with (refine wpList_box_blk rfl 34 _ rfl (tcs I seed (k : Int) (h : Int)) rfl ?_)
  intro w1 a1 a2 a3
  obtain ⟨g0, hg0⟩ : ∃ g, w.heap.size = g := ⟨_, rfl⟩
  have A1 : Hid (Blk w1 g0 (tcs I seed (k : Int) (h : Int)) 34) := by rw [← hg0]; exact a1
  have A3 := Lib.hid a3
  rw [hg0]
  clear a1 a2 a3 hg0
  go_wp2_with (refine wpList_load_blkU rfl 34 _ rfl g0 rfl (tcs I seed (k : Int) (h : Int)) 34 A1.out dT HU.out HD.out HT.out ?_)
  refine (low_yes I seed (k : Int) (h : Int) _ HI.out HS.out HYL.out).mono ?_
  rintro e w2 ⟨rfl, hb⟩
  have B1 : Hid (Blk w2 g0 (tcs I seed (k : Int) (h : Int)) 34) := A1.out.below hb A1.out.lt
  have B3 : Hid (Below w.heap.size w w2) := A3.out.trans (hb.mono A3.out.size)
  clear hb A1 A3
  go_wp2_with (refine wpList_load_blkU rfl 34 _ rfl g0 rfl (tcs I seed (k : Int) (h : Int)) 34 B1.out dT HU.out HD.out HT.out ?_)
  refine (pubT_yes I seed k h _ HI.out HS.out HK.out HHT.out).mono ?_
  rintro e w3 ⟨v3, rfl, hown3, hb⟩
  rw [HPE.out] at hown3
  obtain ⟨Ap, cp, hv3, hcp, hmp⟩ := hown3.rd.shape
  subst hv3
  unfold maxLen at hmp
  rw [HPL.out] at hown3 hcp ⊢
  have C1 : Hid (Blk w3 g0 (tcs I seed (k : Int) (h : Int)) 34) := B1.out.below hb B1.out.lt
  have CP : Hid (Rd w3.heap.size w3 (.slice Ap 56 cp) P) := hown3.rd
  have C3 : Hid (Below w.heap.size w w3) := B3.out.trans (hb.mono B3.out.size)
  clear hb B1 B3 hown3
  go_wp2_with (refine wpList_load_blkU rfl 34 _ rfl g0 rfl (tcs I seed (k : Int) (h : Int)) 34 C1.out dT HU.out HD.out HT.out ?_)
  by_cases hq : q < 0 ∨ ((2 ^ h : Nat) : Int) ≤ q
  · refine (signT_spent I seed k h q _ _ HI.out HS.out HK.out HHT.out hq).mono ?_
    rintro e w4 ⟨rfl, hb⟩
    have D1 : Hid (Blk w4 g0 (tcs I seed (k : Int) (h : Int)) 34) := C1.out.below hb C1.out.lt
    have D3 : Hid (Below w.heap.size w w4) := C3.out.trans (hb.mono C3.out.size)
    have HQ := Lib.hid hq
    clear hb C1 C3 CP hq
    go_wp2_with (refine wpList_load_blkU rfl 34 _ rfl g0 rfl (tcs I seed (k : Int) (h : Int)) 34 D1.out dT HU.out HD.out HT.out ?_)
    refine (longT_yes I seed k h _ HI.out HS.out HK.out HHT.out).mono ?_
    rintro e w5 ⟨rfl, hb⟩
    rw [HNE.out]
    have E1 : Hid (Blk w5 g0 (tcs I seed (k : Int) (h : Int)) 34) := D1.out.below hb D1.out.lt
    have E3 : Hid (Below w.heap.size w w5) := D3.out.trans (hb.mono D3.out.size)
    have cy := (E1.out.cell 49).trans HYC.out
    clear hb D1 D3 E1
    have hq := HQ.out
    rcases hq with hq | hq
    · go_wp2_with fail
      refine (alive5_any _).mono ?_
      rintro e w6 ⟨rfl, hb⟩
      have F3 : Hid (Below w.heap.size w w6) := E3.out.trans (hb.mono E3.out.size)
      clear hb E3 cy
      go_wp2
      go_ret
      exact ⟨rfl, F3.out⟩
    · have hq0 : decide (q < 0) = false := by
        have : (0 : Int) ≤ ((2 ^ h : Nat) : Int) := Int.natCast_nonneg _
        simp; omega
      have hh := HHH.out
      rcases hh with rfl | rfl
      all_goals
        simp at hq
        go_wp2_with fail
        refine (alive5_any _).mono ?_
        rintro e w6 ⟨rfl, hb⟩
        have F3 : Hid (Below w.heap.size w w6) := E3.out.trans (hb.mono E3.out.size)
        clear hb E3 cy
        go_wp2
        go_ret
        exact ⟨rfl, F3.out⟩
  · obtain ⟨q, rfl⟩ : ∃ m : Nat, q = (m : Int) := ⟨q.toNat, by omega⟩
    have hqh : q < 2 ^ h := by omega
    have HQH := Lib.hid hqh
    have HQ4 : Hid (q < 4294967296) := by
      show _ < _
      have : 2 ^ h ≤ 32 := by have := HHT.out; rcases this with rfl | rfl | rfl | rfl | rfl <;> decide
      omega
    obtain ⟨S, hS⟩ : ∃ S, lsig I seed text k h q = S := ⟨_, rfl⟩
    have HSE := Lib.hid hS
    have HSL : Hid (S.length = N) := by show _ = _; rw [← hS, lsig_length, HNE.out]
    have HWS : Hid (wd S 0 = q) := by show _ = _; rw [← hS]; exact (lsig_parts I seed text k h q HK.out HHT.out HQ4.out).1
    have hN4 : 4 ≤ N := by rw [← HNE.out]; unfold llng; omega
    clear hq hqh hS
    refine (signT_yes I seed text k h q _ _ HI.out HS.out HK.out HHT.out HQH.out ((HTX.out.below C3.out).more C3.out.size) HTL.out).mono ?_
    rintro e w4 ⟨v4, rfl, hown4, hb⟩
    rw [HSE.out] at hown4
    obtain ⟨As, cs, hv4, hcs, hms⟩ := hown4.rd.shape
    subst hv4
    unfold maxLen at hms
    rw [HSL.out] at hown4 hcs ⊢
    have D1 : Hid (Blk w4 g0 (tcs I seed (k : Int) (h : Int)) 34) := C1.out.below hb C1.out.lt
    have DP : Hid (Rd w4.heap.size w4 (.slice Ap 56 cp) P) := (CP.out.below hb).more hb.size
    have DS : Hid (Rd w4.heap.size w4 (.slice As N cs) S) := hown4.rd
    have D3 : Hid (Below w.heap.size w w4) := C3.out.trans (hb.mono C3.out.size)
    clear hb C1 C3 CP hown4
    go_wp2_with (refine wpList_load_blkU rfl 34 _ rfl g0 rfl (tcs I seed (k : Int) (h : Int)) 34 D1.out dT HU.out HD.out HT.out ?_)
    refine (longT_yes I seed k h _ HI.out HS.out HK.out HHT.out).mono ?_
    rintro e w5 ⟨rfl, hb⟩
    rw [HNE.out]
    have E1 : Hid (Blk w5 g0 (tcs I seed (k : Int) (h : Int)) 34) := D1.out.below hb D1.out.lt
    have EP : Hid (Rd w5.heap.size w5 (.slice Ap 56 cp) P) := (DP.out.below hb).more hb.size
    have ES : Hid (Rd w5.heap.size w5 (.slice As N cs) S) := (DS.out.below hb).more hb.size
    have E3 : Hid (Below w.heap.size w w5) := D3.out.trans (hb.mono D3.out.size)
    have cy := (E1.out.cell 49).trans HYC.out
    have hq0 : decide ((q : Int) < 0) = false := by simp
    clear hb D1 D3 DP DS E1
    have hh := HHH.out
    rcases hh with rfl | rfl
    all_goals
      first | have hq1 : decide ((2 : Int) ≤ (q : Int)) = false := decide_eq_false (by have h0 : q < 2 := HQH.out; omega) | have hq1 : decide ((4 : Int) ≤ (q : Int)) = false := decide_eq_false (by have h0 : q < 4 := HQH.out; omega)
      go_wp2_with fail
      clear cy
      refine (leafT_yes _ S _ ES.out (by rw [HSL.out]; exact hN4)).mono ?_
      rintro e w6 ⟨rfl, hb⟩
      rw [HWS.out]
      have FP : Hid (Rd w6.heap.size w6 (.slice Ap 56 cp) P) := (EP.out.below hb).more hb.size
      have FS : Hid (Rd w6.heap.size w6 (.slice As N cs) S) := (ES.out.below hb).more hb.size
      have F3 : Hid (Below w.heap.size w w6) := E3.out.trans (hb.mono E3.out.size)
      clear hb EP ES E3
      go_wp2_with fail
      refine (alive5_any _).mono ?_
      rintro e w7 ⟨rfl, hb⟩
      have GP : Hid (Rd w7.heap.size w7 (.slice Ap 56 cp) P) := (FP.out.below hb).more hb.size
      have GS : Hid (Rd w7.heap.size w7 (.slice As N cs) S) := (FS.out.below hb).more hb.size
      have G3 : Hid (Below w.heap.size w w7) := F3.out.trans (hb.mono F3.out.size)
      clear hb FP FS F3
      go_wp2_with fail
      refine (verT_right I seed text k _ q _ _ _ _ HI.out HK.out HHT.out HQH.out (by rw [HPE.out]; exact GP.out) ((HTX.out.below G3.out).more G3.out.size) HTL.out (by rw [HSE.out]; exact GS.out)).mono ?_
      rintro e w8 ⟨rfl, hb⟩
      have J3 : Hid (Below w.heap.size w w8) := G3.out.trans (hb.mono G3.out.size)
      clear hb GP GS G3
      go_wp2
      go_ret
      exact ⟨rfl, J3.out⟩

theorem right_all (I seed : List UInt8) (z y q : Int) (tv : Value) (text : List UInt8) (w : World) (hI : I.length = 16) (hs : seed.length = 32) (ht : Rd w.heap.size w tv text) : Calls Try.prog 4 #[.agg (tcs I seed z y).toArray, .int .i64 q, tv] w (One (.bool true) w) := by
  by_cases h1 : (3 ≤ y ∧ y ≤ 5) ∨ 2000 < text.length
  · exact right_high I seed text z y q tv w hI hs ht h1
  · rcases tree_or z y with ⟨k, h, hk, hh, rfl, rfl⟩ | hn
    · exact right_yes I seed text k h q tv w hI hs ht hk (by have := hh.le; omega) (by omega)
    · exact right_no I seed text z y q tv w hI hs ht (by omega) (by omega) hn
end Go.Proofs.Ytnemkefmlffigaa
