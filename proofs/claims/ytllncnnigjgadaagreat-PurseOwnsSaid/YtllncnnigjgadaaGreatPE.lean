/-
  The document's purse: leaves and Right, for every purse; the laws' own copy of a purse, and which trees they ask about.
-/
import Derived.Test.YtllncnnigjgadaaGreatPD
import Derived.Test.YtllncnnigjgadaaGreatMB
namespace Go.Proofs.YtllncnnigjgadaaGreat
open Go.RowKit

theorem sTree5' (I seed : List UInt8) (z y : Int) (hI : I.length = 16) (hs : seed.length = 32) : (Tryz.prog.info? 38).map (·.size) = some (tcs I seed z y).length := by rw [tcs_length I seed z y hI hs]; exact sTree5
theorem sPurse6 : (Tryz.prog.info? 40).map (·.size) = some 53 := by kernel_rfl
theorem rowPurse6 : ∃ d, Tryz.prog.underlying 40 = some d ∧ d.isRow = true := row_of (by kernel_rfl)
theorem sPurse6' (I seed : List UInt8) (z y n m s : Int) (hI : I.length = 16) (hs : seed.length = 32) : (Tryz.prog.info? 40).map (·.size) = some (pcs I seed z y n m s).length := by rw [pcs_length I seed z y n m s hI hs]; exact sPurse6
theorem ziPurse6 : (Tryz.prog.info? 40).map (·.zero) = some (some (.agg pcs0.toArray)) := by kernel_rfl
theorem pcs_rangeI {w : World} {g : Nat} {I seed : List UInt8} {z y n m s : Int} {t : TypeId} (h : Blk w g (pcs I seed z y n m s) t) : w.rangeAt g 0 (bys I) := fun j v hv => by
  have hj : j < (bys I).length := (List.getElem?_eq_some_iff.1 hv).1
  refine pcs_range h j v ?_
  unfold tcs
  rw [List.getElem?_append_left hj]
  exact hv
theorem pcs_rangeS {w : World} {g : Nat} {I seed : List UInt8} {z y n m s : Int} {t : TypeId} (h : Blk w g (pcs I seed z y n m s) t) (hI : I.length = 16) : w.rangeAt g 16 (bys seed) := fun j v hv => by
  have hj : j < (bys seed).length := (List.getElem?_eq_some_iff.1 hv).1
  have e := pcs_range h (16 + j) v (by
    unfold tcs
    rw [List.getElem?_append_right (by rw [bys_length, hI]; omega), bys_length, hI, show 16 + j - 16 = j by omega, List.getElem?_append_left hj]
    exact hv)
  rw [Nat.zero_add] at e
  exact e
theorem builtR0 (f g : Nat → UInt8) (z y n m s : Int) : Tryz.prog.built 40 [(0, .agg (bys ((List.range 16).map f) ++ (bys ((List.range 32).map g) ++ [Value.int .i64 z, Value.int .i64 y])).toArray), (1, .int .i64 n), (2, .int .i64 m), (3, .int .i64 s)] = some (bys ((List.range 16).map f) ++ (bys ((List.range 32).map g) ++ [Value.int .i64 z, Value.int .i64 y]) ++ [Value.int .i64 n, Value.int .i64 m, Value.int .i64 s]).toArray := by kernel_rfl
theorem builtR (I seed : List UInt8) (z y n m s : Int) (hI : I.length = 16) (hs : seed.length = 32) : Tryz.prog.built 40 [(0, .agg (tcs I seed z y).toArray), (1, .int .i64 n), (2, .int .i64 m), (3, .int .i64 s)] = some (pcs I seed z y n m s).toArray := by
  rw [list_asL I 16 hI, list_asL seed 32 hs]
  exact builtR0 _ _ _ _ _ _ _

set_option maxRecDepth 100000 in
set_option maxHeartbeats 1000000 in
theorem rf6Leaves_yes (I seed : List UInt8) (k h : Nat) (w : World) (hI : I.length = 16) (hs : seed.length = 32) (hk : Wd k) (hh : Ht h) : Calls Tryz.prog 40 #[.agg (tcs I seed (k : Int) (h : Int)).toArray] w (One (.int .i64 (2 ^ h : Nat)) w) := by
  have HI := Lib.hid hI
  have HS := Lib.hid hs
  have HT := Lib.hid (sTree5' I seed (k : Int) (h : Int) hI hs)
  obtain ⟨dT, huT, hdT⟩ := rowTree5
  have HU := Lib.hid huT
  have HD := Lib.hid hdT
  have HY := Lib.hid (tcs_y I seed (k : Int) (h : Int) hI hs)
  have HK := Lib.hid hk
  have HH := Lib.hid hh
  obtain ⟨h1, h5⟩ := hh.le
  have z5 : (h : Int) ≤ 5 := by omega
  clear hI hs huT hdT hk hh
  go_enter Tryz.func40, Tryz.ntmps40
  go_wp2_with (refine wpList_box_blk rfl 38 _ rfl (tcs I seed (k : Int) (h : Int)) rfl ?_)
  intro w1 a1 a2 a3
  obtain ⟨g0, hg0⟩ : ∃ g, w.heap.size = g := ⟨_, rfl⟩
  have A1 : Hid (Blk w1 g0 (tcs I seed (k : Int) (h : Int)) 38) := by rw [← hg0]; exact a1
  have A3 := Lib.hid a3
  rw [hg0]
  clear a1 a2 a3 hg0
  go_wp2_with (refine wpList_load_blkU rfl 38 _ rfl g0 rfl (tcs I seed (k : Int) (h : Int)) 38 A1.out dT HU.out HD.out HT.out ?_)
  refine (rfLong_yes I seed k h _ HI.out HS.out HK.out HH.out).mono ?_
  rintro e w2 ⟨rfl, hb⟩
  have B1 := A1.out.below hb A1.out.lt
  have B3 : Hid (Below w.heap.size w w2) := A3.out.trans (hb.mono A3.out.size)
  have cy := (B1.cell 49).trans HY.out
  clear hb A1 A3 B1
  go_wp2
  go_loopw [5, 6] (fun x2 x3 wr => ∃ j n : Nat, j ≤ h ∧ Hid (n = 2 ^ j) ∧ n ≤ 32 ∧ x2 = .int .i64 (n : Int) ∧ x3 = .int .i64 (j : Int) ∧ w2 = wr) (fun _ x _ => h - (intOf x).toNat)
  case atStart => exact ⟨0, 1, Nat.zero_le _, rfl, by omega, rfl, rfl, rfl⟩
  case round =>
    obtain ⟨j, n, hj, HN, hn, rfl, rfl, rfl⟩ := hrel
    have zn : (n : Int) ≤ 32 := by omega
    by_cases hjh : j < h
    · have hn2 : Hid (2 * n = 2 ^ (j + 1)) := by show _ = _; rw [Nat.pow_succ, HN.out]; omega
      have hn3 : 2 * n ≤ 32 := by
        rw [hn2.out]
        have : 2 ^ (j + 1) ≤ 2 ^ 5 := Nat.pow_le_pow_right (by omega) (by omega)
        omega
      have tj : decide ((j : Int) < (h : Int)) = true := by simp; omega
      go_wp2
      go_roundw
      case rel => exact ⟨j + 1, 2 * n, by omega, hn2, hn3, by go_num, by go_num, by trivial⟩
      case measure => simp [intOf]; omega
    · have e : j = h := by omega
      subst e
      have tj : decide ((j : Int) < (j : Int)) = false := by simp
      go_wp2
      go_ret
      exact ⟨by rw [← HN.out]; rfl, B3.out⟩

set_option maxRecDepth 100000 in
set_option maxHeartbeats 1000000 in
theorem rf6Leaves_no (I seed : List UInt8) (z y : Int) (w : World) (hI : I.length = 16) (hs : seed.length = 32) (hn : NoT z y) : Calls Tryz.prog 40 #[.agg (tcs I seed z y).toArray] w (One (.int .i64 0) w) := by
  have HI := Lib.hid hI
  have HS := Lib.hid hs
  have HT := Lib.hid (sTree5' I seed z y hI hs)
  obtain ⟨dT, huT, hdT⟩ := rowTree5
  have HU := Lib.hid huT
  have HD := Lib.hid hdT
  have HN := Lib.hid hn
  clear hI hs huT hdT hn
  go_enter Tryz.func40, Tryz.ntmps40
  go_wp2_with (refine wpList_box_blk rfl 38 _ rfl (tcs I seed z y) rfl ?_)
  intro w1 a1 a2 a3
  obtain ⟨g0, hg0⟩ : ∃ g, w.heap.size = g := ⟨_, rfl⟩
  have A1 : Hid (Blk w1 g0 (tcs I seed z y) 38) := by rw [← hg0]; exact a1
  have A3 := Lib.hid a3
  rw [hg0]
  clear a1 a2 a3 hg0
  go_wp2_with (refine wpList_load_blkU rfl 38 _ rfl g0 rfl (tcs I seed z y) 38 A1.out dT HU.out HD.out HT.out ?_)
  refine (rfLong_no I seed z y _ HI.out HS.out HN.out).mono ?_
  rintro e w2 ⟨rfl, hb⟩
  have B3 : Hid (Below w.heap.size w w2) := A3.out.trans (hb.mono A3.out.size)
  clear hb A1 A3
  go_wp2
  go_ret
  exact ⟨rfl, B3.out⟩

set_option maxRecDepth 100000 in
set_option maxHeartbeats 1000000 in
theorem rf6Right_treeY (I seed : List UInt8) (k h : Nat) (n m s : Int) (w : World) (hI : I.length = 16) (hs : seed.length = 32) (hk : Wd k) (hh : Ht h) (hx : 1 ≤ s ∧ s ≤ 8 ∧ 0 ≤ n ∧ n ≤ m ∧ m ≤ ((2 ^ h : Nat) : Int)) : Calls Tryz.prog 16 #[.agg (pcs I seed (k : Int) (h : Int) n m s).toArray] w (One (.bool true) w) := by
  have HI := Lib.hid hI
  have HS := Lib.hid hs
  have HT := Lib.hid (sTree5' I seed (k : Int) (h : Int) hI hs)
  obtain ⟨dT, huT, hdT⟩ := rowTree5
  have HU := Lib.hid huT
  have HD := Lib.hid hdT
  have HN := Lib.hid (pcs_n I seed (k : Int) (h : Int) n m s hI hs)
  have HM := Lib.hid (pcs_m I seed (k : Int) (h : Int) n m s hI hs)
  have HST := Lib.hid (pcs_s I seed (k : Int) (h : Int) n m s hI hs)
  have HK := Lib.hid hk
  have HH := Lib.hid hh
  obtain ⟨L, hL⟩ : ∃ L, 2 ^ h = L := ⟨_, rfl⟩
  have HL := Lib.hid hL
  have hL1 : 2 ≤ L := by rw [← hL]; exact hh.pow.1
  rw [hL] at hx
  have HX := Lib.hid hx
  have d0 : decide ((0 : Int) < (L : Int)) = true := decide_eq_true (by omega)
  have d0' : decide (0 < L) = true := decide_eq_true (by omega)
  clear hI hs huT hdT hk hh hL hx hL1
  go_enter Tryz.func16, Tryz.ntmps16
  go_wp2_with (refine wpList_box_blk rfl 40 _ rfl (pcs I seed (k : Int) (h : Int) n m s) rfl ?_)
  intro w1 a1 a2 a3
  obtain ⟨g0, hg0⟩ : ∃ g, w.heap.size = g := ⟨_, rfl⟩
  have A1 : Hid (Blk w1 g0 (pcs I seed (k : Int) (h : Int) n m s) 40) := by rw [← hg0]; exact a1
  have A3 := Lib.hid a3
  rw [hg0]
  clear a1 a2 a3 hg0
  go_wp2_with (refine wpList_load_mid rfl 38 _ rfl g0 0 rfl (tcs I seed (k : Int) (h : Int)) dT (pcs_range A1.out) HU.out HD.out HT.out ?_)
  refine (rf6Leaves_yes I seed k h _ HI.out HS.out HK.out HH.out).mono ?_
  rintro e w2 ⟨rfl, hb⟩
  rw [HL.out]
  have B1 := A1.out.below hb A1.out.lt
  have B3 : Hid (Below w.heap.size w w2) := A3.out.trans (hb.mono A3.out.size)
  have cn := (B1.cell 50).trans HN.out
  have cm := (B1.cell 51).trans HM.out
  have cs := (B1.cell 52).trans HST.out
  clear hb A1 A3 B1
  have hx := HX.out
  have e0 : decide ((1 : Int) ≤ s) = true := decide_eq_true (by omega)
  have e1 : decide (s ≤ 8) = true := decide_eq_true (by omega)
  have e2 : decide ((0 : Int) ≤ n) = true := decide_eq_true (by omega)
  have e3 : decide (n ≤ m) = true := decide_eq_true (by omega)
  have e4 : decide (m ≤ (L : Int)) = true := decide_eq_true (by omega)
  clear hx
  go_wp2
  go_ret
  exact ⟨rfl, B3.out⟩

set_option maxRecDepth 100000 in
set_option maxHeartbeats 1000000 in
theorem rf6Right_treeN (I seed : List UInt8) (k h : Nat) (n m s : Int) (w : World) (hI : I.length = 16) (hs : seed.length = 32) (hk : Wd k) (hh : Ht h) (hx : s < 1 ∨ 8 < s ∨ n < 0 ∨ m < n ∨ ((2 ^ h : Nat) : Int) < m) : Calls Tryz.prog 16 #[.agg (pcs I seed (k : Int) (h : Int) n m s).toArray] w (One (.bool false) w) := by
  have HI := Lib.hid hI
  have HS := Lib.hid hs
  have HT := Lib.hid (sTree5' I seed (k : Int) (h : Int) hI hs)
  obtain ⟨dT, huT, hdT⟩ := rowTree5
  have HU := Lib.hid huT
  have HD := Lib.hid hdT
  have HN := Lib.hid (pcs_n I seed (k : Int) (h : Int) n m s hI hs)
  have HM := Lib.hid (pcs_m I seed (k : Int) (h : Int) n m s hI hs)
  have HST := Lib.hid (pcs_s I seed (k : Int) (h : Int) n m s hI hs)
  have HK := Lib.hid hk
  have HH := Lib.hid hh
  obtain ⟨L, hL⟩ : ∃ L, 2 ^ h = L := ⟨_, rfl⟩
  have HL := Lib.hid hL
  have hL1 : 2 ≤ L := by rw [← hL]; exact hh.pow.1
  rw [hL] at hx
  have HX := Lib.hid hx
  have d0 : decide ((0 : Int) < (L : Int)) = true := decide_eq_true (by omega)
  have d0' : decide (0 < L) = true := decide_eq_true (by omega)
  clear hI hs huT hdT hk hh hL hx hL1
  go_enter Tryz.func16, Tryz.ntmps16
  go_wp2_with (refine wpList_box_blk rfl 40 _ rfl (pcs I seed (k : Int) (h : Int) n m s) rfl ?_)
  intro w1 a1 a2 a3
  obtain ⟨g0, hg0⟩ : ∃ g, w.heap.size = g := ⟨_, rfl⟩
  have A1 : Hid (Blk w1 g0 (pcs I seed (k : Int) (h : Int) n m s) 40) := by rw [← hg0]; exact a1
  have A3 := Lib.hid a3
  rw [hg0]
  clear a1 a2 a3 hg0
  go_wp2_with (refine wpList_load_mid rfl 38 _ rfl g0 0 rfl (tcs I seed (k : Int) (h : Int)) dT (pcs_range A1.out) HU.out HD.out HT.out ?_)
  refine (rf6Leaves_yes I seed k h _ HI.out HS.out HK.out HH.out).mono ?_
  rintro e w2 ⟨rfl, hb⟩
  rw [HL.out]
  have B1 := A1.out.below hb A1.out.lt
  have B3 : Hid (Below w.heap.size w w2) := A3.out.trans (hb.mono A3.out.size)
  have cn := (B1.cell 50).trans HN.out
  have cm := (B1.cell 51).trans HM.out
  have cs := (B1.cell 52).trans HST.out
  clear hb A1 A3 B1
  have hx := HX.out
  by_cases c0 : s < 1
  · have e0 : decide ((1 : Int) ≤ s) = false := decide_eq_false (by omega)
    clear hx
    go_wp2
    go_ret
    exact ⟨rfl, B3.out⟩
  · have e0 : decide ((1 : Int) ≤ s) = true := decide_eq_true (by omega)
    by_cases c1 : 8 < s
    · have e1 : decide (s ≤ 8) = false := decide_eq_false (by omega)
      clear hx
      go_wp2
      go_ret
      exact ⟨rfl, B3.out⟩
    · have e1 : decide (s ≤ 8) = true := decide_eq_true (by omega)
      by_cases c2 : n < 0
      · have e2 : decide ((0 : Int) ≤ n) = false := decide_eq_false (by omega)
        clear hx
        go_wp2
        go_ret
        exact ⟨rfl, B3.out⟩
      · have e2 : decide ((0 : Int) ≤ n) = true := decide_eq_true (by omega)
        by_cases c3 : m < n
        · have e3 : decide (n ≤ m) = false := decide_eq_false (by omega)
          clear hx
          go_wp2
          go_ret
          exact ⟨rfl, B3.out⟩
        · have e3 : decide (n ≤ m) = true := decide_eq_true (by omega)
          have e4 : decide (m ≤ (L : Int)) = false := decide_eq_false (by omega)
          clear hx
          go_wp2
          go_ret
          exact ⟨rfl, B3.out⟩

set_option maxRecDepth 100000 in
set_option maxHeartbeats 1000000 in
theorem rf6Right_noT (I seed : List UInt8) (z y n m s : Int) (w : World) (hI : I.length = 16) (hs : seed.length = 32) (hn : NoT z y) : Calls Tryz.prog 16 #[.agg (pcs I seed z y n m s).toArray] w (One (.bool false) w) := by
  have HI := Lib.hid hI
  have HS := Lib.hid hs
  have HT := Lib.hid (sTree5' I seed z y hI hs)
  obtain ⟨dT, huT, hdT⟩ := rowTree5
  have HU := Lib.hid huT
  have HD := Lib.hid hdT
  have HN := Lib.hid hn
  clear hI hs huT hdT hn
  go_enter Tryz.func16, Tryz.ntmps16
  go_wp2_with (refine wpList_box_blk rfl 40 _ rfl (pcs I seed z y n m s) rfl ?_)
  intro w1 a1 a2 a3
  obtain ⟨g0, hg0⟩ : ∃ g, w.heap.size = g := ⟨_, rfl⟩
  have A1 : Hid (Blk w1 g0 (pcs I seed z y n m s) 40) := by rw [← hg0]; exact a1
  have A3 := Lib.hid a3
  rw [hg0]
  clear a1 a2 a3 hg0
  go_wp2_with (refine wpList_load_mid rfl 38 _ rfl g0 0 rfl (tcs I seed z y) dT (pcs_range A1.out) HU.out HD.out HT.out ?_)
  refine (rf6Leaves_no I seed z y _ HI.out HS.out HN.out).mono ?_
  rintro e w2 ⟨rfl, hb⟩
  have B3 : Hid (Below w.heap.size w w2) := A3.out.trans (hb.mono A3.out.size)
  clear hb A1 A3
  go_wp2
  go_ret
  exact ⟨rfl, B3.out⟩

theorem rf6Right_yes (I seed : List UInt8) (k h n m s : Nat) (w : World) (hI : I.length = 16) (hs : seed.length = 32) (hf : PFit k h n m s) : Calls Tryz.prog 16 #[.agg (pcs I seed (k : Int) (h : Int) (n : Int) (m : Int) (s : Int)).toArray] w (One (.bool true) w) :=
  rf6Right_treeY I seed k h n m s w hI hs hf.wd hf.ht ⟨by have := hf.s1; omega, by have := hf.s8; omega, by omega, by have := hf.nm; omega, by have := hf.mh; omega⟩
theorem rf6Right_no (I seed : List UInt8) (z y n m s : Int) (w : World) (hI : I.length = 16) (hs : seed.length = 32) (hn : NoP z y n m s) : Calls Tryz.prog 16 #[.agg (pcs I seed z y n m s).toArray] w (One (.bool false) w) := by
  rcases tree_or z y with ⟨k, h, hk, hh, rfl, rfl⟩ | ht
  · refine rf6Right_treeN I seed k h n m s w hI hs hk hh ?_
    rcases hn with a | a | ⟨_, _, a⟩ | ⟨k', h', hk', hh', e1, e2, _, _, a⟩
    · exact .inl a
    · exact .inr (.inl a)
    · exfalso
      rcases a with a | a
      · exact absurd a (by unfold NoW; rcases hk with rfl | rfl | rfl | rfl <;> simp)
      · have := hh.le; unfold NoH at a; omega
    · obtain rfl : h' = h := by omega
      exact .inr (.inr a)
  · exact rf6Right_noT I seed z y n m s w hI hs ht

set_option maxRecDepth 100000 in
set_option maxHeartbeats 1000000 in
theorem plain6_any (I seed : List UInt8) (z y n m s : Int) (w : World) (hI : I.length = 16) (hs : seed.length = 32) : Calls Tryz.prog 15 #[.agg (pcs I seed z y n m s).toArray] w (Arr (pcs I seed z y n m s) w) := by
  have HI := Lib.hid hI
  have HS := Lib.hid hs
  obtain ⟨d51, hu51, hd51⟩ := rowPurse6
  have HU := Lib.hid hu51
  have HD := Lib.hid hd51
  have H22 : Hid ((Tryz.prog.info? 29).map (·.size) = some (bys I).length) := by show _ = _; rw [bys_length, hI]; exact s22
  have H24 : Hid ((Tryz.prog.info? 30).map (·.size) = some (bys seed).length) := by show _ = _; rw [bys_length, hs]; exact s24
  have H51 := Lib.hid (sPurse6' I seed z y n m s hI hs)
  have HL : Hid (pcs0.length = (pcs I seed z y n m s).length) := by show _ = _; rw [pcs_length I seed _ _ _ _ _ hI hs]; rfl
  have HB1 := Lib.hid (built_tree I seed z y hI hs)
  have HB2 := Lib.hid (builtR I seed z y n m s hI hs)
  clear hI hs hu51 hd51
  go_enter Tryz.func15, Tryz.ntmps15
  go_wp2_with (refine wpList_box_blk rfl 34 _ rfl (pcs I seed z y n m s) rfl ?_)
  intro w1 a1 a2 a3
  have A1 := Lib.hid a1
  have A2 := Lib.hid a2
  have A3 := Lib.hid a3
  clear a1 a2 a3
  go_wp2_with (refine wpList_alloc_blk rfl 40 rfl _ ziPurse6 ?_)
  intro w2 a1 a2 a3
  rw [A2.out] at a1 a2 a3 ⊢
  have G1 : Hid (Blk w2 w.heap.size (pcs I seed z y n m s) 34) := A1.out.below a3 (by omega)
  have G2 : Hid (Blk w2 (w.heap.size + 1) pcs0 40) := a1
  have GB : Hid (Below w.heap.size w w2) := A3.out.trans (a3.mono (by omega))
  have cw := (G1.out.cell 48).trans (pcs_z I seed z y n m s HI.out HS.out)
  have cy := (G1.out.cell 49).trans (pcs_y I seed z y n m s HI.out HS.out)
  have cn := (G1.out.cell 50).trans (pcs_n I seed z y n m s HI.out HS.out)
  have cm := (G1.out.cell 51).trans (pcs_m I seed z y n m s HI.out HS.out)
  have cs := (G1.out.cell 52).trans (pcs_s I seed z y n m s HI.out HS.out)
  clear a1 a2 a3 A1 A2 A3
  go_wp2_with (first | (refine wpList_load_mid rfl 29 _ rfl w.heap.size 0 rfl (bys I) _ (pcs_rangeI G1.out) tu22 rfl H22.out ?_) | (refine wpList_load_mid rfl 30 _ rfl w.heap.size 16 rfl (bys seed) _ (pcs_rangeS G1.out HI.out) tu24 rfl H24.out ?_) | (refine wpList_buildTo rfl 38 _ rfl (some 15) rfl (tcs I seed z y).toArray (by simp only [List.map_toArray, List.map_cons, List.map_nil]; exact HB1.out) ?_) | (refine wpList_buildTo rfl 40 _ rfl (some 22) rfl (pcs I seed z y n m s).toArray (by simp only [List.map_toArray, List.map_cons, List.map_nil]; exact HB2.out) ?_) | (refine wpList_store_blk rfl 40 _ _ rfl (w.heap.size + 1) (pcs I seed z y n m s) pcs0 40 rfl rfl G2.out H51.out HL.out (pcs_one _ _ _ _ _ _ _) ?_))
  refine bodyPost_ret (v := .agg (pcs I seed z y n m s).toArray) ?_ rfl ?_
  · exact ret_blkUL rfl _ _ (w.heap.size + 1) 40 _ rfl G2.out.setRow d51 HU.out HD.out H51.out
  · exact ⟨rfl, below_setRow' GB.out (by omega) _⟩

set_option maxRecDepth 100000 in
set_option maxHeartbeats 1000000 in
theorem low6_yes (I seed : List UInt8) (z y : Int) (w : World) (hI : I.length = 16) (hs : seed.length = 32) (hy : y < 3 ∨ 5 < y) : Calls Tryz.prog 11 #[.agg (tcs I seed z y).toArray] w (One (.bool true) w) := by
  have HY := Lib.hid (tcs_y I seed z y hI hs)
  clear hI hs
  go_enter Tryz.func11, Tryz.ntmps11
  go_wp2_with (refine wpList_box_blk rfl 32 _ rfl (tcs I seed z y) rfl ?_)
  intro w1 a1 a2 a3
  obtain ⟨g0, hg0⟩ : ∃ g, w.heap.size = g := ⟨_, rfl⟩
  have A1 : Hid (Blk w1 g0 (tcs I seed z y) 32) := by rw [← hg0]; exact a1
  have A3 := Lib.hid a3
  rw [hg0]
  clear a1 a2 a3 hg0
  have cy := (A1.out.cell 49).trans HY.out
  clear A1 HY
  by_cases h : y < 3
  · have e : decide (y < 3) = true := decide_eq_true h
    clear hy
    go_wp2
    go_ret
    exact ⟨rfl, A3.out⟩
  · have e : decide (y < 3) = false := decide_eq_false h
    have e2 : decide (5 < y) = true := decide_eq_true (by omega)
    clear hy
    go_wp2
    go_ret
    exact ⟨rfl, A3.out⟩

set_option maxRecDepth 100000 in
set_option maxHeartbeats 1000000 in
theorem low6_no (I seed : List UInt8) (z y : Int) (w : World) (hI : I.length = 16) (hs : seed.length = 32) (h1 : 3 ≤ y) (h2 : y ≤ 5) : Calls Tryz.prog 11 #[.agg (tcs I seed z y).toArray] w (One (.bool false) w) := by
  have HY := Lib.hid (tcs_y I seed z y hI hs)
  clear hI hs
  go_enter Tryz.func11, Tryz.ntmps11
  go_wp2_with (refine wpList_box_blk rfl 32 _ rfl (tcs I seed z y) rfl ?_)
  intro w1 a1 a2 a3
  obtain ⟨g0, hg0⟩ : ∃ g, w.heap.size = g := ⟨_, rfl⟩
  have A1 : Hid (Blk w1 g0 (tcs I seed z y) 32) := by rw [← hg0]; exact a1
  have A3 := Lib.hid a3
  rw [hg0]
  clear a1 a2 a3 hg0
  have cy := (A1.out.cell 49).trans HY.out
  clear A1 HY
  have e : decide (y < 3) = false := decide_eq_false (by omega)
  have e2 : decide (5 < y) = false := decide_eq_false (by omega)
  go_wp2
  go_ret
  exact ⟨rfl, A3.out⟩

end Go.Proofs.YtllncnnigjgadaaGreat
