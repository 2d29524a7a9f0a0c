/-
  The document's lms: the type of a height, the leaves, the key of a leaf, the hashes of nodes, for every input that they are called with.
  The document's lms: the hashes of nodes.
  The document's lms: which trees there are, how long a signature is, and the law's own copy of a tree.
  The document's lms: the hash of a node, by recursion.
  The document's lms: the hash of an inner node, and of every node.
-/
import Derived.Test.YthkanlkjdmlafaaLA
import Derived.Test.YthkanlkjdmlafaaRB
import Derived.Test.YthkanlkjdmlafaaRel4
namespace Go.Proofs.Ythkanlkjdmlafaa
open Go.RowKit

theorem sTree5 : (Try.prog.info? 36).map (·.size) = some 50 := by kernel_rfl
theorem rowTree5 : ∃ d, Try.prog.underlying 36 = some d ∧ d.isRow = true := row_of (by kernel_rfl)

end Go.Proofs.Ythkanlkjdmlafaa

namespace Go.Proofs.Ythkanlkjdmlafaa
open Go.RowKit

end Go.Proofs.Ythkanlkjdmlafaa

namespace Go.Proofs.Ythkanlkjdmlafaa
open Go.RowKit

set_option maxRecDepth 100000 in
set_option maxHeartbeats 400000 in
theorem rfMay_yes (I seed : List UInt8) (k h : Nat) (w : World) (hI : I.length = 16) (hs : seed.length = 32) (hk : Wd k) (hh : Ht h) : Calls Try.prog 38 #[.agg (tcs I seed (k : Int) (h : Int)).toArray] w (One (.bool true) w) := by
  have HZ := Lib.hid (tcs_z I seed (k : Int) (h : Int) hI hs)
  have HY := Lib.hid (tcs_y I seed (k : Int) (h : Int) hI hs)
  have HK := Lib.hid hk
  clear hI hs hk
  go_enter Try.func38, Try.ntmps38
  go_wp2_with (refine wpList_box_blk rfl 36 _ rfl (tcs I seed (k : Int) (h : Int)) rfl ?_)
  intro w1 a1 a2 a3
  have cz := (a1.cell 48).trans HZ.out
  have cy := (a1.cell 49).trans HY.out
  have A3 := Lib.hid a3
  clear a1 a2 a3 HZ HY
  go_wp2_with fail
  refine (refType_yes k _ HK.out).mono ?_
  rintro e w2 ⟨rfl, rfl⟩
  clear cz
  obtain ⟨h1, h5⟩ := hh.le
  have t1 : decide ((1 : Int) ≤ (h : Int)) = true := by simp; omega
  have t2 : decide ((h : Int) ≤ 5) = true := by simp; omega
  go_wp2
  go_ret
  exact ⟨rfl, A3.out⟩

set_option maxRecDepth 100000 in
set_option maxHeartbeats 400000 in
theorem rfMay_no (I seed : List UInt8) (z y : Int) (w : World) (hI : I.length = 16) (hs : seed.length = 32) (hn : NoT z y) : Calls Try.prog 38 #[.agg (tcs I seed z y).toArray] w (One (.bool false) w) := by
  have HZ := Lib.hid (tcs_z I seed z y hI hs)
  have HY := Lib.hid (tcs_y I seed z y hI hs)
  clear hI hs
  go_enter Try.func38, Try.ntmps38
  go_wp2_with (refine wpList_box_blk rfl 36 _ rfl (tcs I seed z y) rfl ?_)
  intro w1 a1 a2 a3
  have cz := (a1.cell 48).trans HZ.out
  have cy := (a1.cell 49).trans HY.out
  have A3 := Lib.hid a3
  clear a1 a2 a3 HZ HY
  rcases width_or z with ⟨k, hk, rfl⟩ | hz
  · have hy : y < 1 ∨ 5 < y := by
      rcases hn with hn | hn
      · exact absurd hn (by unfold NoW; rcases hk with rfl | rfl | rfl | rfl <;> simp)
      · unfold NoH at hn; omega
    clear hn
    have HK := Lib.hid hk
    clear hk
    go_wp2_with fail
    refine (refType_yes k _ HK.out).mono ?_
    rintro e w2 ⟨rfl, rfl⟩
    clear cz HK
    by_cases h : 1 ≤ y
    · have h5 : 5 < y := by omega
      have t1 : decide ((1 : Int) ≤ y) = true := by simp; omega
      have t2 : decide (y ≤ (5 : Int)) = false := by simp; omega
      clear hy
      go_wp2
      go_ret
      exact ⟨rfl, A3.out⟩
    · have t1 : decide ((1 : Int) ≤ y) = false := by simp; omega
      clear hy
      go_wp2
      go_ret
      exact ⟨rfl, A3.out⟩
  · clear hn
    have HZ := Lib.hid hz
    clear hz
    go_wp2_with fail
    refine (refType_no z _ HZ.out).mono ?_
    rintro e w2 ⟨rfl, rfl⟩
    clear cz HZ
    go_wp2
    go_ret
    exact ⟨rfl, A3.out⟩

set_option maxRecDepth 100000 in
set_option maxHeartbeats 400000 in
theorem rfLong_no (I seed : List UInt8) (z y : Int) (w : World) (hI : I.length = 16) (hs : seed.length = 32) (hn : NoT z y) : Calls Try.prog 24 #[.agg (tcs I seed z y).toArray] w (TwoD (.int .i64 0) (.int .i64 1) w) := by
  have H5 : Hid ((Try.prog.info? 36).map (·.size) = some (tcs I seed z y).length) := by show _ = _; rw [tcs_length I seed z y hI hs]; exact sTree5
  obtain ⟨d5, hu5, hd5⟩ := rowTree5
  have HU := Lib.hid hu5
  have HD := Lib.hid hd5
  have HI := Lib.hid hI
  have HS := Lib.hid hs
  have HN := Lib.hid hn
  clear hI hs hn hu5 hd5
  go_enter Try.func24, Try.ntmps24
  go_wp2_with (refine wpList_box_blk rfl 36 _ rfl (tcs I seed z y) rfl ?_)
  intro w1 a1 a2 a3
  have A1 := Lib.hid a1
  have A3 := Lib.hid a3
  clear a1 a2 a3
  go_wp2_with (refine wpList_load_blkU rfl 36 _ rfl w.heap.size rfl (tcs I seed z y) 36 A1.out d5 HU.out HD.out H5.out ?_)
  refine (rfMay_no I seed z y _ HI.out HS.out HN.out).mono ?_
  rintro e w2 ⟨rfl, hb⟩
  have B1 : Hid (Below w.heap.size w w2) := A3.out.trans (hb.mono A3.out.size)
  clear hb A1 A3
  go_wp2
  go_ret2
  exact ⟨rfl, B1.out⟩

set_option maxRecDepth 100000 in
set_option maxHeartbeats 400000 in
theorem rfLong_yes (I seed : List UInt8) (k h : Nat) (w : World) (hI : I.length = 16) (hs : seed.length = 32) (hk : Wd k) (hh : Ht h) : Calls Try.prog 24 #[.agg (tcs I seed (k : Int) (h : Int)).toArray] w (TwoD (.int .i64 (llng k h : Nat)) (.int .i64 0) w) := by
  have H5 : Hid ((Try.prog.info? 36).map (·.size) = some (tcs I seed (k : Int) (h : Int)).length) := by show _ = _; rw [tcs_length I seed _ _ hI hs]; exact sTree5
  obtain ⟨d5, hu5, hd5⟩ := rowTree5
  have HU := Lib.hid hu5
  have HD := Lib.hid hd5
  have HI := Lib.hid hI
  have HS := Lib.hid hs
  have HK := Lib.hid hk
  have HH := Lib.hid hh
  have HL9 : Hid (lng k ≤ 10000) := by have := mny_le k hk; show _ ≤ _; unfold lng; omega
  obtain ⟨h1, h5⟩ := hh.le
  clear hI hs hk hh hu5 hd5
  go_enter Try.func24, Try.ntmps24
  go_wp2_with (refine wpList_box_blk rfl 36 _ rfl (tcs I seed (k : Int) (h : Int)) rfl ?_)
  intro w1 a1 a2 a3
  have A1 := Lib.hid a1
  have A3 := Lib.hid a3
  clear a1 a2 a3
  go_wp2_with (refine wpList_load_blkU rfl 36 _ rfl w.heap.size rfl (tcs I seed (k : Int) (h : Int)) 36 A1.out d5 HU.out HD.out H5.out ?_)
  refine (rfMay_yes I seed k h _ HI.out HS.out HK.out HH.out).mono ?_
  rintro e w2 ⟨rfl, hb⟩
  have B1 : Hid (Below w.heap.size w w2) := A3.out.trans (hb.mono A3.out.size)
  have B2 := A1.out.below hb A1.out.lt
  have cz := (B2.cell 48).trans (tcs_z I seed _ _ HI.out HS.out)
  have cy := (B2.cell 49).trans (tcs_y I seed _ _ HI.out HS.out)
  clear hb A1 A3 B2
  go_wp2_with fail
  refine (refLong_yes k _ HK.out).mono ?_
  rintro e w3 ⟨rfl, nd, rfl⟩
  have C1 : Hid (Below w.heap.size w (w2.drewN nd)) := Below.drewN' B1.out
  have cy2 : (w2.drewN nd).cell? ⟨w.heap.size, 49, none⟩ = some (.int .i64 (h : Int)) := cy
  generalize w2.drewN nd = w3 at C1 cy2 ⊢
  obtain ⟨L, hLE⟩ : ∃ L, lng k = L := ⟨_, rfl⟩
  have HE : Hid (((llng k h : Nat) : Int) = 4 + (L : Int) + 4 + 32 * (h : Int)) := by show _ = _; unfold llng; rw [← hLE]; omega
  have hL := HL9.out
  rw [hLE] at hL ⊢
  clear cz cy B1 hLE HL9
  have z1 : (L : Int) ≤ 10000 := by omega
  have z2 : (h : Int) ≤ 5 := by omega
  go_wp2
  go_ret2
  refine ⟨?_, C1.out⟩
  rw [HE.out]
  rfl
end Go.Proofs.Ythkanlkjdmlafaa

namespace Go.Proofs.Ythkanlkjdmlafaa
open Go.RowKit

end Go.Proofs.Ythkanlkjdmlafaa

namespace Go.Proofs.Ythkanlkjdmlafaa
open Go.RowKit

end Go.Proofs.Ythkanlkjdmlafaa
