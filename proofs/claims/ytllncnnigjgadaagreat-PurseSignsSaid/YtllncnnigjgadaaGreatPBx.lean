/-
  Package purse: Right, for every purse.
-/
import Derived.Test.YtllncnnigjgadaaGreatPA
import Derived.Test.YtllncnnigjgadaaGreatRel4
import Derived.Test.YtllncnnigjgadaaGreatPB
import Derived.Test.YtllncnnigjgadaaGreatDDx
import Derived.Test.YtllncnnigjgadaaGreatLAx
import Derived.Test.YtllncnnigjgadaaGreatOBx
import Derived.Test.YtllncnnigjgadaaGreatPAx
import Derived.Test.YtllncnnigjgadaaGreatSXx
namespace Go.Proofs.YtllncnnigjgadaaGreat
open Go.RowKit

set_option maxRecDepth 100000 in
set_option maxHeartbeats 1000000 in
theorem rightP_lo (I seed : List UInt8) (z y n m s : Int) (w : World) (hI : I.length = 16) (hs : seed.length = 32) (hx : s < 1) : Calls Tryz.prog 17 #[.agg (pcs I seed z y n m s).toArray] w (One (.bool false) w) := by
  have HN := Lib.hid (pcs_n I seed z y n m s hI hs)
  have HM := Lib.hid (pcs_m I seed z y n m s hI hs)
  have HST := Lib.hid (pcs_s I seed z y n m s hI hs)
  have HI := Lib.hid hI
  have HS := Lib.hid hs
  have HT := Lib.hid (sTree' I seed z y hI hs)
  obtain ⟨dT, huT, hdT⟩ := rowTree
  have HU := Lib.hid huT
  have HD := Lib.hid hdT
  clear hI hs huT hdT
  have d1 : decide (s < 1) = true := decide_eq_true hx
  clear hx
  go_enter Tryz.func17, Tryz.ntmps17
  go_wp2_with (refine wpList_box_blk rfl 34 _ rfl (pcs I seed z y n m s) rfl ?_)
  intro w1 a1 a2 a3
  obtain ⟨g0, hg0⟩ : ∃ g, w.heap.size = g := ⟨_, rfl⟩
  have A1 : Hid (Blk w1 g0 (pcs I seed z y n m s) 34) := by rw [← hg0]; exact a1
  have A3 := Lib.hid a3
  have cs := (A1.out.cell 52).trans HST.out
  rw [hg0]
  clear a1 a2 a3 hg0
  go_wp2
  go_ret
  exact ⟨rfl, A3.out⟩

set_option maxRecDepth 100000 in
set_option maxHeartbeats 1000000 in
theorem rightP_hi (I seed : List UInt8) (z y n m s : Int) (w : World) (hI : I.length = 16) (hs : seed.length = 32) (hx : 8 < s) : Calls Tryz.prog 17 #[.agg (pcs I seed z y n m s).toArray] w (One (.bool false) w) := by
  have HN := Lib.hid (pcs_n I seed z y n m s hI hs)
  have HM := Lib.hid (pcs_m I seed z y n m s hI hs)
  have HST := Lib.hid (pcs_s I seed z y n m s hI hs)
  have HI := Lib.hid hI
  have HS := Lib.hid hs
  have HT := Lib.hid (sTree' I seed z y hI hs)
  obtain ⟨dT, huT, hdT⟩ := rowTree
  have HU := Lib.hid huT
  have HD := Lib.hid hdT
  clear hI hs huT hdT
  have d1 : decide (s < 1) = false := decide_eq_false (by omega)
  have d2 : decide ((8 : Int) < s) = true := decide_eq_true hx
  clear hx
  go_enter Tryz.func17, Tryz.ntmps17
  go_wp2_with (refine wpList_box_blk rfl 34 _ rfl (pcs I seed z y n m s) rfl ?_)
  intro w1 a1 a2 a3
  obtain ⟨g0, hg0⟩ : ∃ g, w.heap.size = g := ⟨_, rfl⟩
  have A1 : Hid (Blk w1 g0 (pcs I seed z y n m s) 34) := by rw [← hg0]; exact a1
  have A3 := Lib.hid a3
  have cs := (A1.out.cell 52).trans HST.out
  rw [hg0]
  clear a1 a2 a3 hg0
  go_wp2
  go_ret
  exact ⟨rfl, A3.out⟩

set_option maxRecDepth 100000 in
set_option maxHeartbeats 1000000 in
theorem rightP_noT (I seed : List UInt8) (z y n m s : Int) (w : World) (hI : I.length = 16) (hs : seed.length = 32) (h1 : 1 ≤ s) (h8 : s ≤ 8) (hn : NoT z y) : Calls Tryz.prog 17 #[.agg (pcs I seed z y n m s).toArray] w (One (.bool false) w) := by
  have HN := Lib.hid (pcs_n I seed z y n m s hI hs)
  have HM := Lib.hid (pcs_m I seed z y n m s hI hs)
  have HST := Lib.hid (pcs_s I seed z y n m s hI hs)
  have HI := Lib.hid hI
  have HS := Lib.hid hs
  have HT := Lib.hid (sTree' I seed z y hI hs)
  obtain ⟨dT, huT, hdT⟩ := rowTree
  have HU := Lib.hid huT
  have HD := Lib.hid hdT
  clear hI hs huT hdT
  have HNT := Lib.hid hn
  have d1 : decide (s < 1) = false := decide_eq_false (by omega)
  have d2 : decide ((8 : Int) < s) = false := decide_eq_false (by omega)
  clear hn h1 h8
  go_enter Tryz.func17, Tryz.ntmps17
  go_wp2_with (refine wpList_box_blk rfl 34 _ rfl (pcs I seed z y n m s) rfl ?_)
  intro w1 a1 a2 a3
  obtain ⟨g0, hg0⟩ : ∃ g, w.heap.size = g := ⟨_, rfl⟩
  have A1 : Hid (Blk w1 g0 (pcs I seed z y n m s) 34) := by rw [← hg0]; exact a1
  have A3 := Lib.hid a3
  have cs := (A1.out.cell 52).trans HST.out
  rw [hg0]
  clear a1 a2 a3 hg0
  go_wp2_with (refine wpList_load_midG 32 _ rfl g0 0 rfl (tcs I seed z y) dT (pcs_range A1.out) HU.out HD.out HT.out (by rfl) ?_)
  refine (isTree_no I seed z y _ HI.out HS.out HNT.out).mono ?_
  rintro e w2 ⟨rfl, hb⟩
  have B3 : Hid (Below w.heap.size w w2) := A3.out.trans (hb.mono A3.out.size)
  clear hb A1 A3 cs
  go_wp2
  go_ret
  exact ⟨rfl, B3.out⟩

set_option maxRecDepth 100000 in
set_option maxHeartbeats 1000000 in
theorem rightP_treeN (I seed : List UInt8) (k h : Nat) (n m s : Int) (w : World) (hI : I.length = 16) (hs : seed.length = 32) (hk : Wd k) (hh : Ht h) (h1 : 1 ≤ s) (h8 : s ≤ 8) (c1 : n < 0) : Calls Tryz.prog 17 #[.agg (pcs I seed (k : Int) (h : Int) n m s).toArray] w (One (.bool false) w) := by
  have HN := Lib.hid (pcs_n I seed (k : Int) (h : Int) n m s hI hs)
  have HM := Lib.hid (pcs_m I seed (k : Int) (h : Int) n m s hI hs)
  have HST := Lib.hid (pcs_s I seed (k : Int) (h : Int) n m s hI hs)
  have HI := Lib.hid hI
  have HS := Lib.hid hs
  have HT := Lib.hid (sTree' I seed (k : Int) (h : Int) hI hs)
  obtain ⟨dT, huT, hdT⟩ := rowTree
  have HU := Lib.hid huT
  have HD := Lib.hid hdT
  clear hI hs huT hdT
  have HK := Lib.hid hk
  have HH := Lib.hid hh
  have d1 : decide (s < 1) = false := decide_eq_false (by omega)
  have d2 : decide ((8 : Int) < s) = false := decide_eq_false (by omega)
  obtain ⟨L, hL⟩ : ∃ L, 2 ^ h = L := ⟨_, rfl⟩
  have HL := Lib.hid hL
  have d3 : decide ((0 : Int) ≤ n) = false := by simp; omega
  clear hk hh h1 h8 hL c1
  go_enter Tryz.func17, Tryz.ntmps17
  go_wp2_with (refine wpList_box_blk rfl 34 _ rfl (pcs I seed (k : Int) (h : Int) n m s) rfl ?_)
  intro w1 a1 a2 a3
  obtain ⟨g0, hg0⟩ : ∃ g, w.heap.size = g := ⟨_, rfl⟩
  have A1 : Hid (Blk w1 g0 (pcs I seed (k : Int) (h : Int) n m s) 34) := by rw [← hg0]; exact a1
  have A3 := Lib.hid a3
  have cs := (A1.out.cell 52).trans HST.out
  rw [hg0]
  clear a1 a2 a3 hg0
  go_wp2_with (refine wpList_load_midG 32 _ rfl g0 0 rfl (tcs I seed (k : Int) (h : Int)) dT (pcs_range A1.out) HU.out HD.out HT.out (by rfl) ?_)
  refine (isTree_yes I seed k h _ HI.out HS.out HK.out HH.out).mono ?_
  rintro e w2 ⟨rfl, hb⟩
  have B1 : Hid (Blk w2 g0 (pcs I seed (k : Int) (h : Int) n m s) 34) := A1.out.below hb A1.out.lt
  have B3 : Hid (Below w.heap.size w w2) := A3.out.trans (hb.mono A3.out.size)
  clear hb A1 A3 cs
  go_wp2_with fail
  refine wp_region_rely2 19 0 (fun x => ⟨#[.agg (pcs I seed (k : Int) (h : Int) n m s).toArray, .pointer (some ⟨g0, 0, none⟩), x 18, .pointer (some ⟨g0, 52, none⟩), .int .i64 s, .bool false, .bool false, .pointer (some ⟨g0, 52, none⟩), .int .i64 s, .bool false, .bool false, .bool false, .pointer (some ⟨g0, 0, none⟩), .agg (tcs I seed (k : Int) (h : Int)).toArray, .bool true, .bool false, .bool false, x 0, x 1, x 2, x 3, x 4, x 5, x 6, x 7, x 8, x 9, x 10, x 11, x 12, x 13, x 14, x 15, x 16, x 17], []⟩) (fun jj => ([eqV (.pointer (some ⟨g0, 50, none⟩)), eqV (.int .i64 n), eqV (.bool false), eqV (.bool false), (eqV undef), (eqV undef), (eqV undef), (eqV undef), (eqV undef), eqV (.bool false), eqV (.bool false), (eqV undef), (eqV undef), (eqV undef), (eqV undef), (eqV undef), (eqV undef), eqV (.bool false), eqV (.bool false)] : List (Value → World → Prop)).getD jj (fun _ _ => True)) rfl ⟨fun kk => [_, _, _, _, _, _, _, _, _, _, _, _, _, _, _, _, _, _, _].getD kk undef, rfl⟩ (by kernel_rfl) (by kernel_rfl) ?steps ?fin
  case steps =>
    refine StepsAt.val 0 (.pointer (some ⟨g0, 50, none⟩)) rfl (fun _ _ => rfl) rfl rfl (fun x w9 hb hd => ?_) ?_
    · first | (go_simp; done) | (go_simp; rfl)
    refine StepsAt.val 1 (.int .i64 n) rfl (fun _ _ => rfl) rfl rfl (fun x w9 hb hd => ?_) ?_
    · have h0 : x 0 = .pointer (some ⟨g0, 50, none⟩) := hd 0 (by kernel_rfl)
      have cc := ((B1.out.below hb B1.out.lt).cell 50).trans HN.out
      rw [h0]
      first | (go_simp; done) | (go_simp; rfl)
    refine StepsAt.val 2 (.bool false) rfl (fun _ _ => rfl) rfl rfl (fun x w9 hb hd => ?_) ?_
    · have h1 : x 1 = .int .i64 n := hd 1 (by kernel_rfl)
      rw [h1]
      first | (go_simp; done) | (go_simp; rfl)
    refine StepsAt.val 3 (.bool false) rfl (fun _ _ => rfl) rfl rfl (fun x w9 hb hd => ?_) ?_
    · have h2 : x 2 = .bool false := hd 2 (by kernel_rfl)
      rw [h2]
      first | (go_simp; done) | (go_simp; rfl)
    refine StepsAt.skip 4 rfl (fun _ _ => rfl) rfl (fun x w9 hd => ?_) ?_
    · have hG : x 3 = .bool false := hd 3 (by kernel_rfl)
      simp [Region.wanted, yielded, hG]
    refine StepsAt.skip 5 rfl (fun _ _ => rfl) rfl (fun x w9 hd => ?_) ?_
    · have hG : x 3 = .bool false := hd 3 (by kernel_rfl)
      simp [Region.wanted, yielded, hG]
    refine StepsAt.skip 6 rfl (fun _ _ => rfl) rfl (fun x w9 hd => ?_) ?_
    · have hG : x 3 = .bool false := hd 3 (by kernel_rfl)
      simp [Region.wanted, yielded, hG]
    refine StepsAt.skip 7 rfl (fun _ _ => rfl) rfl (fun x w9 hd => ?_) ?_
    · have hG : x 3 = .bool false := hd 3 (by kernel_rfl)
      simp [Region.wanted, yielded, hG]
    refine StepsAt.skip 8 rfl (fun _ _ => rfl) rfl (fun x w9 hd => ?_) ?_
    · have hG : x 3 = .bool false := hd 3 (by kernel_rfl)
      simp [Region.wanted, yielded, hG]
    refine StepsAt.val 9 (.bool false) rfl (fun _ _ => rfl) rfl rfl (fun x w9 hb hd => ?_) ?_
    · have h3 : x 3 = .bool false := hd 3 (by kernel_rfl)
      have h8 : x 8 = undef := hd 8 (by kernel_rfl)
      rw [h3, h8]
      first | (go_simp; done) | (go_simp; rfl)
    refine StepsAt.val 10 (.bool false) rfl (fun _ _ => rfl) rfl rfl (fun x w9 hb hd => ?_) ?_
    · have h9 : x 9 = .bool false := hd 9 (by kernel_rfl)
      rw [h9]
      first | (go_simp; done) | (go_simp; rfl)
    refine StepsAt.skip 11 rfl (fun _ _ => rfl) rfl (fun x w9 hd => ?_) ?_
    · have hG : x 10 = .bool false := hd 10 (by kernel_rfl)
      simp [Region.wanted, yielded, hG]
    refine StepsAt.skip 12 rfl (fun _ _ => rfl) rfl (fun x w9 hd => ?_) ?_
    · have hG : x 10 = .bool false := hd 10 (by kernel_rfl)
      simp [Region.wanted, yielded, hG]
    refine StepsAt.skip 13 rfl (fun _ _ => rfl) rfl (fun x w9 hd => ?_) ?_
    · have hG : x 10 = .bool false := hd 10 (by kernel_rfl)
      simp [Region.wanted, yielded, hG]
    refine StepsAt.skip 14 rfl (fun _ _ => rfl) rfl (fun x w9 hd => ?_) ?_
    · have hG : x 10 = .bool false := hd 10 (by kernel_rfl)
      simp [Region.wanted, yielded, hG]
    refine StepsAt.skip 15 rfl (fun _ _ => rfl) rfl (fun x w9 hd => ?_) ?_
    · have hG : x 10 = .bool false := hd 10 (by kernel_rfl)
      simp [Region.wanted, yielded, hG]
    refine StepsAt.skip 16 rfl (fun _ _ => rfl) rfl (fun x w9 hd => ?_) ?_
    · have hG : x 10 = .bool false := hd 10 (by kernel_rfl)
      simp [Region.wanted, yielded, hG]
    refine StepsAt.val 17 (.bool false) rfl (fun _ _ => rfl) rfl rfl (fun x w9 hb hd => ?_) ?_
    · have h10 : x 10 = .bool false := hd 10 (by kernel_rfl)
      have h16 : x 16 = undef := hd 16 (by kernel_rfl)
      rw [h10, h16]
      first | (go_simp; done) | (go_simp; rfl)
    refine StepsAt.val 18 (.bool false) rfl (fun _ _ => rfl) rfl rfl (fun x w9 hb hd => ?_) ?_
    · have h17 : x 17 = .bool false := hd 17 (by kernel_rfl)
      rw [h17]
      first | (go_simp; done) | (go_simp; rfl)
    exact StepsAt.done
  case fin =>
    intro x w9 hb hd
    have h18 : x 18 = .bool false := hd 18 (by omega)
    refine AnyTill.any (S := fun _ => True) (m := 19) _ _ _ _ ?_
    refine AnyTill.done (by kernel_rfl) ?_
    refine NoPanic.normal ?_
    dsimp only
    rw [h18]
    have C3 : Hid (Below w.heap.size w w9) := B3.out.trans (hb.mono B3.out.size)
    generalize x 0 = y0
    generalize x 1 = y1
    generalize x 2 = y2
    generalize x 3 = y3
    generalize x 4 = y4
    generalize x 5 = y5
    generalize x 6 = y6
    generalize x 7 = y7
    generalize x 8 = y8
    generalize x 9 = y9
    generalize x 10 = y10
    generalize x 11 = y11
    generalize x 12 = y12
    generalize x 13 = y13
    generalize x 14 = y14
    generalize x 15 = y15
    generalize x 16 = y16
    generalize x 17 = y17
    clear hd h18 hb B1 B3 x
    go_wp2
    go_ret
    exact ⟨rfl, C3.out⟩

set_option maxRecDepth 100000 in
set_option maxHeartbeats 1000000 in
theorem rightP_treeM (I seed : List UInt8) (k h : Nat) (n m s : Int) (w : World) (hI : I.length = 16) (hs : seed.length = 32) (hk : Wd k) (hh : Ht h) (h1 : 1 ≤ s) (h8 : s ≤ 8) (c1 : 0 ≤ n) (c2 : m < n) : Calls Tryz.prog 17 #[.agg (pcs I seed (k : Int) (h : Int) n m s).toArray] w (One (.bool false) w) := by
  have HN := Lib.hid (pcs_n I seed (k : Int) (h : Int) n m s hI hs)
  have HM := Lib.hid (pcs_m I seed (k : Int) (h : Int) n m s hI hs)
  have HST := Lib.hid (pcs_s I seed (k : Int) (h : Int) n m s hI hs)
  have HI := Lib.hid hI
  have HS := Lib.hid hs
  have HT := Lib.hid (sTree' I seed (k : Int) (h : Int) hI hs)
  obtain ⟨dT, huT, hdT⟩ := rowTree
  have HU := Lib.hid huT
  have HD := Lib.hid hdT
  clear hI hs huT hdT
  have HK := Lib.hid hk
  have HH := Lib.hid hh
  have d1 : decide (s < 1) = false := decide_eq_false (by omega)
  have d2 : decide ((8 : Int) < s) = false := decide_eq_false (by omega)
  obtain ⟨L, hL⟩ : ∃ L, 2 ^ h = L := ⟨_, rfl⟩
  have HL := Lib.hid hL
  have d3 : decide ((0 : Int) ≤ n) = true := by simp; omega
  have d4 : decide (n ≤ m) = false := by simp; omega
  clear hk hh h1 h8 hL c1 c2
  go_enter Tryz.func17, Tryz.ntmps17
  go_wp2_with (refine wpList_box_blk rfl 34 _ rfl (pcs I seed (k : Int) (h : Int) n m s) rfl ?_)
  intro w1 a1 a2 a3
  obtain ⟨g0, hg0⟩ : ∃ g, w.heap.size = g := ⟨_, rfl⟩
  have A1 : Hid (Blk w1 g0 (pcs I seed (k : Int) (h : Int) n m s) 34) := by rw [← hg0]; exact a1
  have A3 := Lib.hid a3
  have cs := (A1.out.cell 52).trans HST.out
  rw [hg0]
  clear a1 a2 a3 hg0
  go_wp2_with (refine wpList_load_midG 32 _ rfl g0 0 rfl (tcs I seed (k : Int) (h : Int)) dT (pcs_range A1.out) HU.out HD.out HT.out (by rfl) ?_)
  refine (isTree_yes I seed k h _ HI.out HS.out HK.out HH.out).mono ?_
  rintro e w2 ⟨rfl, hb⟩
  have B1 : Hid (Blk w2 g0 (pcs I seed (k : Int) (h : Int) n m s) 34) := A1.out.below hb A1.out.lt
  have B3 : Hid (Below w.heap.size w w2) := A3.out.trans (hb.mono A3.out.size)
  clear hb A1 A3 cs
  go_wp2_with fail
  refine wp_region_rely2 19 0 (fun x => ⟨#[.agg (pcs I seed (k : Int) (h : Int) n m s).toArray, .pointer (some ⟨g0, 0, none⟩), x 18, .pointer (some ⟨g0, 52, none⟩), .int .i64 s, .bool false, .bool false, .pointer (some ⟨g0, 52, none⟩), .int .i64 s, .bool false, .bool false, .bool false, .pointer (some ⟨g0, 0, none⟩), .agg (tcs I seed (k : Int) (h : Int)).toArray, .bool true, .bool false, .bool false, x 0, x 1, x 2, x 3, x 4, x 5, x 6, x 7, x 8, x 9, x 10, x 11, x 12, x 13, x 14, x 15, x 16, x 17], []⟩) (fun jj => ([eqV (.pointer (some ⟨g0, 50, none⟩)), eqV (.int .i64 n), eqV (.bool true), eqV (.bool true), eqV (.pointer (some ⟨g0, 50, none⟩)), eqV (.int .i64 n), eqV (.pointer (some ⟨g0, 51, none⟩)), eqV (.int .i64 m), eqV (.bool false), eqV (.bool false), eqV (.bool false), (eqV undef), (eqV undef), (eqV undef), (eqV undef), (eqV undef), (eqV undef), eqV (.bool false), eqV (.bool false)] : List (Value → World → Prop)).getD jj (fun _ _ => True)) rfl ⟨fun kk => [_, _, _, _, _, _, _, _, _, _, _, _, _, _, _, _, _, _, _].getD kk undef, rfl⟩ (by kernel_rfl) (by kernel_rfl) ?steps ?fin
  case steps =>
    refine StepsAt.val 0 (.pointer (some ⟨g0, 50, none⟩)) rfl (fun _ _ => rfl) rfl rfl (fun x w9 hb hd => ?_) ?_
    · first | (go_simp; done) | (go_simp; rfl)
    refine StepsAt.val 1 (.int .i64 n) rfl (fun _ _ => rfl) rfl rfl (fun x w9 hb hd => ?_) ?_
    · have h0 : x 0 = .pointer (some ⟨g0, 50, none⟩) := hd 0 (by kernel_rfl)
      have cc := ((B1.out.below hb B1.out.lt).cell 50).trans HN.out
      rw [h0]
      first | (go_simp; done) | (go_simp; rfl)
    refine StepsAt.val 2 (.bool true) rfl (fun _ _ => rfl) rfl rfl (fun x w9 hb hd => ?_) ?_
    · have h1 : x 1 = .int .i64 n := hd 1 (by kernel_rfl)
      rw [h1]
      first | (go_simp; done) | (go_simp; rfl)
    refine StepsAt.val 3 (.bool true) rfl (fun _ _ => rfl) rfl rfl (fun x w9 hb hd => ?_) ?_
    · have h2 : x 2 = .bool true := hd 2 (by kernel_rfl)
      rw [h2]
      first | (go_simp; done) | (go_simp; rfl)
    refine StepsAt.valG 4 (.pointer (some ⟨g0, 50, none⟩)) rfl (fun _ _ => rfl) rfl (fun x w9 hd => ?_) (fun x w9 hb hd => ?_) ?_
    · have hG : x 3 = .bool true := hd 3 (by kernel_rfl)
      simp [Region.wanted, yielded, hG]
    · first | (go_simp; done) | (go_simp; rfl)
    refine StepsAt.valG 5 (.int .i64 n) rfl (fun _ _ => rfl) rfl (fun x w9 hd => ?_) (fun x w9 hb hd => ?_) ?_
    · have hG : x 3 = .bool true := hd 3 (by kernel_rfl)
      simp [Region.wanted, yielded, hG]
    · have h4 : x 4 = .pointer (some ⟨g0, 50, none⟩) := hd 4 (by kernel_rfl)
      have cc := ((B1.out.below hb B1.out.lt).cell 50).trans HN.out
      rw [h4]
      first | (go_simp; done) | (go_simp; rfl)
    refine StepsAt.valG 6 (.pointer (some ⟨g0, 51, none⟩)) rfl (fun _ _ => rfl) rfl (fun x w9 hd => ?_) (fun x w9 hb hd => ?_) ?_
    · have hG : x 3 = .bool true := hd 3 (by kernel_rfl)
      simp [Region.wanted, yielded, hG]
    · first | (go_simp; done) | (go_simp; rfl)
    refine StepsAt.valG 7 (.int .i64 m) rfl (fun _ _ => rfl) rfl (fun x w9 hd => ?_) (fun x w9 hb hd => ?_) ?_
    · have hG : x 3 = .bool true := hd 3 (by kernel_rfl)
      simp [Region.wanted, yielded, hG]
    · have h6 : x 6 = .pointer (some ⟨g0, 51, none⟩) := hd 6 (by kernel_rfl)
      have cc := ((B1.out.below hb B1.out.lt).cell 51).trans HM.out
      rw [h6]
      first | (go_simp; done) | (go_simp; rfl)
    refine StepsAt.valG 8 (.bool false) rfl (fun _ _ => rfl) rfl (fun x w9 hd => ?_) (fun x w9 hb hd => ?_) ?_
    · have hG : x 3 = .bool true := hd 3 (by kernel_rfl)
      simp [Region.wanted, yielded, hG]
    · have h5 : x 5 = .int .i64 n := hd 5 (by kernel_rfl)
      have h7 : x 7 = .int .i64 m := hd 7 (by kernel_rfl)
      rw [h5, h7]
      first | (go_simp; done) | (go_simp; rfl)
    refine StepsAt.val 9 (.bool false) rfl (fun _ _ => rfl) rfl rfl (fun x w9 hb hd => ?_) ?_
    · have h3 : x 3 = .bool true := hd 3 (by kernel_rfl)
      have h8 : x 8 = .bool false := hd 8 (by kernel_rfl)
      rw [h3, h8]
      first | (go_simp; done) | (go_simp; rfl)
    refine StepsAt.val 10 (.bool false) rfl (fun _ _ => rfl) rfl rfl (fun x w9 hb hd => ?_) ?_
    · have h9 : x 9 = .bool false := hd 9 (by kernel_rfl)
      rw [h9]
      first | (go_simp; done) | (go_simp; rfl)
    refine StepsAt.skip 11 rfl (fun _ _ => rfl) rfl (fun x w9 hd => ?_) ?_
    · have hG : x 10 = .bool false := hd 10 (by kernel_rfl)
      simp [Region.wanted, yielded, hG]
    refine StepsAt.skip 12 rfl (fun _ _ => rfl) rfl (fun x w9 hd => ?_) ?_
    · have hG : x 10 = .bool false := hd 10 (by kernel_rfl)
      simp [Region.wanted, yielded, hG]
    refine StepsAt.skip 13 rfl (fun _ _ => rfl) rfl (fun x w9 hd => ?_) ?_
    · have hG : x 10 = .bool false := hd 10 (by kernel_rfl)
      simp [Region.wanted, yielded, hG]
    refine StepsAt.skip 14 rfl (fun _ _ => rfl) rfl (fun x w9 hd => ?_) ?_
    · have hG : x 10 = .bool false := hd 10 (by kernel_rfl)
      simp [Region.wanted, yielded, hG]
    refine StepsAt.skip 15 rfl (fun _ _ => rfl) rfl (fun x w9 hd => ?_) ?_
    · have hG : x 10 = .bool false := hd 10 (by kernel_rfl)
      simp [Region.wanted, yielded, hG]
    refine StepsAt.skip 16 rfl (fun _ _ => rfl) rfl (fun x w9 hd => ?_) ?_
    · have hG : x 10 = .bool false := hd 10 (by kernel_rfl)
      simp [Region.wanted, yielded, hG]
    refine StepsAt.val 17 (.bool false) rfl (fun _ _ => rfl) rfl rfl (fun x w9 hb hd => ?_) ?_
    · have h10 : x 10 = .bool false := hd 10 (by kernel_rfl)
      have h16 : x 16 = undef := hd 16 (by kernel_rfl)
      rw [h10, h16]
      first | (go_simp; done) | (go_simp; rfl)
    refine StepsAt.val 18 (.bool false) rfl (fun _ _ => rfl) rfl rfl (fun x w9 hb hd => ?_) ?_
    · have h17 : x 17 = .bool false := hd 17 (by kernel_rfl)
      rw [h17]
      first | (go_simp; done) | (go_simp; rfl)
    exact StepsAt.done
  case fin =>
    intro x w9 hb hd
    have h18 : x 18 = .bool false := hd 18 (by omega)
    refine AnyTill.any (S := fun _ => True) (m := 19) _ _ _ _ ?_
    refine AnyTill.done (by kernel_rfl) ?_
    refine NoPanic.normal ?_
    dsimp only
    rw [h18]
    have C3 : Hid (Below w.heap.size w w9) := B3.out.trans (hb.mono B3.out.size)
    generalize x 0 = y0
    generalize x 1 = y1
    generalize x 2 = y2
    generalize x 3 = y3
    generalize x 4 = y4
    generalize x 5 = y5
    generalize x 6 = y6
    generalize x 7 = y7
    generalize x 8 = y8
    generalize x 9 = y9
    generalize x 10 = y10
    generalize x 11 = y11
    generalize x 12 = y12
    generalize x 13 = y13
    generalize x 14 = y14
    generalize x 15 = y15
    generalize x 16 = y16
    generalize x 17 = y17
    clear hd h18 hb B1 B3 x
    go_wp2
    go_ret
    exact ⟨rfl, C3.out⟩

set_option maxRecDepth 100000 in
set_option maxHeartbeats 1000000 in
theorem rightP_treeL (I seed : List UInt8) (k h : Nat) (n m s : Int) (w : World) (hI : I.length = 16) (hs : seed.length = 32) (hk : Wd k) (hh : Ht h) (h1 : 1 ≤ s) (h8 : s ≤ 8) (c1 : 0 ≤ n) (c2 : n ≤ m) (c3 : ((2 ^ h : Nat) : Int) < m) : Calls Tryz.prog 17 #[.agg (pcs I seed (k : Int) (h : Int) n m s).toArray] w (One (.bool false) w) := by
  have HN := Lib.hid (pcs_n I seed (k : Int) (h : Int) n m s hI hs)
  have HM := Lib.hid (pcs_m I seed (k : Int) (h : Int) n m s hI hs)
  have HST := Lib.hid (pcs_s I seed (k : Int) (h : Int) n m s hI hs)
  have HI := Lib.hid hI
  have HS := Lib.hid hs
  have HT := Lib.hid (sTree' I seed (k : Int) (h : Int) hI hs)
  obtain ⟨dT, huT, hdT⟩ := rowTree
  have HU := Lib.hid huT
  have HD := Lib.hid hdT
  clear hI hs huT hdT
  have HK := Lib.hid hk
  have HH := Lib.hid hh
  have d1 : decide (s < 1) = false := decide_eq_false (by omega)
  have d2 : decide ((8 : Int) < s) = false := decide_eq_false (by omega)
  obtain ⟨L, hL⟩ : ∃ L, 2 ^ h = L := ⟨_, rfl⟩
  have HL := Lib.hid hL
  rw [hL] at c3
  have d3 : decide ((0 : Int) ≤ n) = true := by simp; omega
  have d4 : decide (n ≤ m) = true := by simp; omega
  have d5 : decide (m ≤ (L : Int)) = false := by simp; omega
  clear hk hh h1 h8 hL c1 c2 c3
  go_enter Tryz.func17, Tryz.ntmps17
  go_wp2_with (refine wpList_box_blk rfl 34 _ rfl (pcs I seed (k : Int) (h : Int) n m s) rfl ?_)
  intro w1 a1 a2 a3
  obtain ⟨g0, hg0⟩ : ∃ g, w.heap.size = g := ⟨_, rfl⟩
  have A1 : Hid (Blk w1 g0 (pcs I seed (k : Int) (h : Int) n m s) 34) := by rw [← hg0]; exact a1
  have A3 := Lib.hid a3
  have cs := (A1.out.cell 52).trans HST.out
  rw [hg0]
  clear a1 a2 a3 hg0
  go_wp2_with (refine wpList_load_midG 32 _ rfl g0 0 rfl (tcs I seed (k : Int) (h : Int)) dT (pcs_range A1.out) HU.out HD.out HT.out (by rfl) ?_)
  refine (isTree_yes I seed k h _ HI.out HS.out HK.out HH.out).mono ?_
  rintro e w2 ⟨rfl, hb⟩
  have B1 : Hid (Blk w2 g0 (pcs I seed (k : Int) (h : Int) n m s) 34) := A1.out.below hb A1.out.lt
  have B3 : Hid (Below w.heap.size w w2) := A3.out.trans (hb.mono A3.out.size)
  clear hb A1 A3 cs
  go_wp2_with fail
  refine wp_region_rely2 19 0 (fun x => ⟨#[.agg (pcs I seed (k : Int) (h : Int) n m s).toArray, .pointer (some ⟨g0, 0, none⟩), x 18, .pointer (some ⟨g0, 52, none⟩), .int .i64 s, .bool false, .bool false, .pointer (some ⟨g0, 52, none⟩), .int .i64 s, .bool false, .bool false, .bool false, .pointer (some ⟨g0, 0, none⟩), .agg (tcs I seed (k : Int) (h : Int)).toArray, .bool true, .bool false, .bool false, x 0, x 1, x 2, x 3, x 4, x 5, x 6, x 7, x 8, x 9, x 10, x 11, x 12, x 13, x 14, x 15, x 16, x 17], []⟩) (fun jj => ([eqV (.pointer (some ⟨g0, 50, none⟩)), eqV (.int .i64 n), eqV (.bool true), eqV (.bool true), eqV (.pointer (some ⟨g0, 50, none⟩)), eqV (.int .i64 n), eqV (.pointer (some ⟨g0, 51, none⟩)), eqV (.int .i64 m), eqV (.bool true), eqV (.bool true), eqV (.bool true), eqV (.pointer (some ⟨g0, 51, none⟩)), eqV (.int .i64 m), eqV (.pointer (some ⟨g0, 0, none⟩)), eqV (.agg (tcs I seed (k : Int) (h : Int)).toArray), (eqV (.int .i64 (L : Int))), eqV (.bool false), eqV (.bool false), eqV (.bool false)] : List (Value → World → Prop)).getD jj (fun _ _ => True)) rfl ⟨fun kk => [_, _, _, _, _, _, _, _, _, _, _, _, _, _, _, _, _, _, _].getD kk undef, rfl⟩ (by kernel_rfl) (by kernel_rfl) ?steps ?fin
  case steps =>
    refine StepsAt.val 0 (.pointer (some ⟨g0, 50, none⟩)) rfl (fun _ _ => rfl) rfl rfl (fun x w9 hb hd => ?_) ?_
    · first | (go_simp; done) | (go_simp; rfl)
    refine StepsAt.val 1 (.int .i64 n) rfl (fun _ _ => rfl) rfl rfl (fun x w9 hb hd => ?_) ?_
    · have h0 : x 0 = .pointer (some ⟨g0, 50, none⟩) := hd 0 (by kernel_rfl)
      have cc := ((B1.out.below hb B1.out.lt).cell 50).trans HN.out
      rw [h0]
      first | (go_simp; done) | (go_simp; rfl)
    refine StepsAt.val 2 (.bool true) rfl (fun _ _ => rfl) rfl rfl (fun x w9 hb hd => ?_) ?_
    · have h1 : x 1 = .int .i64 n := hd 1 (by kernel_rfl)
      rw [h1]
      first | (go_simp; done) | (go_simp; rfl)
    refine StepsAt.val 3 (.bool true) rfl (fun _ _ => rfl) rfl rfl (fun x w9 hb hd => ?_) ?_
    · have h2 : x 2 = .bool true := hd 2 (by kernel_rfl)
      rw [h2]
      first | (go_simp; done) | (go_simp; rfl)
    refine StepsAt.valG 4 (.pointer (some ⟨g0, 50, none⟩)) rfl (fun _ _ => rfl) rfl (fun x w9 hd => ?_) (fun x w9 hb hd => ?_) ?_
    · have hG : x 3 = .bool true := hd 3 (by kernel_rfl)
      simp [Region.wanted, yielded, hG]
    · first | (go_simp; done) | (go_simp; rfl)
    refine StepsAt.valG 5 (.int .i64 n) rfl (fun _ _ => rfl) rfl (fun x w9 hd => ?_) (fun x w9 hb hd => ?_) ?_
    · have hG : x 3 = .bool true := hd 3 (by kernel_rfl)
      simp [Region.wanted, yielded, hG]
    · have h4 : x 4 = .pointer (some ⟨g0, 50, none⟩) := hd 4 (by kernel_rfl)
      have cc := ((B1.out.below hb B1.out.lt).cell 50).trans HN.out
      rw [h4]
      first | (go_simp; done) | (go_simp; rfl)
    refine StepsAt.valG 6 (.pointer (some ⟨g0, 51, none⟩)) rfl (fun _ _ => rfl) rfl (fun x w9 hd => ?_) (fun x w9 hb hd => ?_) ?_
    · have hG : x 3 = .bool true := hd 3 (by kernel_rfl)
      simp [Region.wanted, yielded, hG]
    · first | (go_simp; done) | (go_simp; rfl)
    refine StepsAt.valG 7 (.int .i64 m) rfl (fun _ _ => rfl) rfl (fun x w9 hd => ?_) (fun x w9 hb hd => ?_) ?_
    · have hG : x 3 = .bool true := hd 3 (by kernel_rfl)
      simp [Region.wanted, yielded, hG]
    · have h6 : x 6 = .pointer (some ⟨g0, 51, none⟩) := hd 6 (by kernel_rfl)
      have cc := ((B1.out.below hb B1.out.lt).cell 51).trans HM.out
      rw [h6]
      first | (go_simp; done) | (go_simp; rfl)
    refine StepsAt.valG 8 (.bool true) rfl (fun _ _ => rfl) rfl (fun x w9 hd => ?_) (fun x w9 hb hd => ?_) ?_
    · have hG : x 3 = .bool true := hd 3 (by kernel_rfl)
      simp [Region.wanted, yielded, hG]
    · have h5 : x 5 = .int .i64 n := hd 5 (by kernel_rfl)
      have h7 : x 7 = .int .i64 m := hd 7 (by kernel_rfl)
      rw [h5, h7]
      first | (go_simp; done) | (go_simp; rfl)
    refine StepsAt.val 9 (.bool true) rfl (fun _ _ => rfl) rfl rfl (fun x w9 hb hd => ?_) ?_
    · have h3 : x 3 = .bool true := hd 3 (by kernel_rfl)
      have h8 : x 8 = .bool true := hd 8 (by kernel_rfl)
      rw [h3, h8]
      first | (go_simp; done) | (go_simp; rfl)
    refine StepsAt.val 10 (.bool true) rfl (fun _ _ => rfl) rfl rfl (fun x w9 hb hd => ?_) ?_
    · have h9 : x 9 = .bool true := hd 9 (by kernel_rfl)
      rw [h9]
      first | (go_simp; done) | (go_simp; rfl)
    refine StepsAt.valG 11 (.pointer (some ⟨g0, 51, none⟩)) rfl (fun _ _ => rfl) rfl (fun x w9 hd => ?_) (fun x w9 hb hd => ?_) ?_
    · have hG : x 10 = .bool true := hd 10 (by kernel_rfl)
      simp [Region.wanted, yielded, hG]
    · first | (go_simp; done) | (go_simp; rfl)
    refine StepsAt.valG 12 (.int .i64 m) rfl (fun _ _ => rfl) rfl (fun x w9 hd => ?_) (fun x w9 hb hd => ?_) ?_
    · have hG : x 10 = .bool true := hd 10 (by kernel_rfl)
      simp [Region.wanted, yielded, hG]
    · have h11 : x 11 = .pointer (some ⟨g0, 51, none⟩) := hd 11 (by kernel_rfl)
      have cc := ((B1.out.below hb B1.out.lt).cell 51).trans HM.out
      rw [h11]
      first | (go_simp; done) | (go_simp; rfl)
    refine StepsAt.valG 13 (.pointer (some ⟨g0, 0, none⟩)) rfl (fun _ _ => rfl) rfl (fun x w9 hd => ?_) (fun x w9 hb hd => ?_) ?_
    · have hG : x 10 = .bool true := hd 10 (by kernel_rfl)
      simp [Region.wanted, yielded, hG]
    · first | (go_simp; done) | (go_simp; rfl)
    refine StepsAt.valG 14 (.agg (tcs I seed (k : Int) (h : Int)).toArray) rfl (fun _ _ => rfl) rfl (fun x w9 hd => ?_) (fun x w9 hb hd => ?_) ?_
    · have hG : x 10 = .bool true := hd 10 (by kernel_rfl)
      simp [Region.wanted, yielded, hG]
    · have h13 : x 13 = .pointer (some ⟨g0, 0, none⟩) := hd 13 (by kernel_rfl)
      exact run_load_midU 32 (.tmp 30) rfl g0 0 (by exact h13) (tcs I seed (k : Int) (h : Int)) dT (pcs_range (B1.out.below hb B1.out.lt)) HU.out HD.out HT.out
    refine StepsAt.consG 15 (fun _ _ _ h hb => h) (fun _ _ => rfl) rfl (fun x w9 hd => ?_) (fun x w9 hb hd K hK => ?_) ?_
    · have hG : x 10 = .bool true := hd 10 (by kernel_rfl)
      simp [Region.wanted, yielded, hG]
    · have h14 : Hid (x 14 = .agg (tcs I seed (k : Int) (h : Int)).toArray) := hd 14 (by kernel_rfl)
      go_simp
      refine calls_args (args2 := #[.agg (tcs I seed (k : Int) (h : Int)).toArray]) (by rw [h14.out]) ?_
      refine (leavesP_any I seed (k : Int) h _ HI.out HS.out HH.out).mono ?_
      rintro e w5 ⟨rfl, hb2⟩
      rw [HL.out]
      exact hK.out _ _ hb2 rfl
    refine StepsAt.valG 16 (.bool false) rfl (fun _ _ => rfl) rfl (fun x w9 hd => ?_) (fun x w9 hb hd => ?_) ?_
    · have hG : x 10 = .bool true := hd 10 (by kernel_rfl)
      simp [Region.wanted, yielded, hG]
    · have h12 : x 12 = .int .i64 m := hd 12 (by kernel_rfl)
      have h15 : x 15 = .int .i64 (L : Int) := hd 15 (by kernel_rfl)
      rw [h12, h15]
      first | (go_simp; done) | (go_simp; rfl)
    refine StepsAt.val 17 (.bool false) rfl (fun _ _ => rfl) rfl rfl (fun x w9 hb hd => ?_) ?_
    · have h10 : x 10 = .bool true := hd 10 (by kernel_rfl)
      have h16 : x 16 = .bool false := hd 16 (by kernel_rfl)
      rw [h10, h16]
      first | (go_simp; done) | (go_simp; rfl)
    refine StepsAt.val 18 (.bool false) rfl (fun _ _ => rfl) rfl rfl (fun x w9 hb hd => ?_) ?_
    · have h17 : x 17 = .bool false := hd 17 (by kernel_rfl)
      rw [h17]
      first | (go_simp; done) | (go_simp; rfl)
    exact StepsAt.done
  case fin =>
    intro x w9 hb hd
    have h18 : x 18 = .bool false := hd 18 (by omega)
    refine AnyTill.any (S := fun _ => True) (m := 19) _ _ _ _ ?_
    refine AnyTill.done (by kernel_rfl) ?_
    refine NoPanic.normal ?_
    dsimp only
    rw [h18]
    have C3 : Hid (Below w.heap.size w w9) := B3.out.trans (hb.mono B3.out.size)
    generalize x 0 = y0
    generalize x 1 = y1
    generalize x 2 = y2
    generalize x 3 = y3
    generalize x 4 = y4
    generalize x 5 = y5
    generalize x 6 = y6
    generalize x 7 = y7
    generalize x 8 = y8
    generalize x 9 = y9
    generalize x 10 = y10
    generalize x 11 = y11
    generalize x 12 = y12
    generalize x 13 = y13
    generalize x 14 = y14
    generalize x 15 = y15
    generalize x 16 = y16
    generalize x 17 = y17
    clear hd h18 hb B1 B3 x
    go_wp2
    go_ret
    exact ⟨rfl, C3.out⟩

theorem rightP_no (I seed : List UInt8) (z y n m s : Int) (w : World) (hI : I.length = 16) (hs : seed.length = 32) (hn : NoP z y n m s) : Calls Tryz.prog 17 #[.agg (pcs I seed z y n m s).toArray] w (One (.bool false) w) := by
  rcases hn with h | h | ⟨h1, h8, h⟩ | ⟨k, h, hk, hh, rfl, rfl, h1, h8, c⟩
  · exact rightP_lo I seed z y n m s w hI hs h
  · exact rightP_hi I seed z y n m s w hI hs h
  · exact rightP_noT I seed z y n m s w hI hs h1 h8 h
  · by_cases c1 : n < 0
    · exact rightP_treeN I seed k h n m s w hI hs hk hh h1 h8 c1
    · by_cases c2 : m < n
      · exact rightP_treeM I seed k h n m s w hI hs hk hh h1 h8 (by omega) c2
      · exact rightP_treeL I seed k h n m s w hI hs hk hh h1 h8 (by omega) (by omega) (by omega)
end Go.Proofs.YtllncnnigjgadaaGreat
