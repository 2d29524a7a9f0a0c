/-
  The law DigitsAll: for every hash and every int all digits, the checksum and the counts are those of the document's own words.
-/
import Derived.Test.YtklbegioifpfjaaR3
import Derived.Test.YtklbegioifpfjaaF1
namespace Go.Proofs.Ytklbegioifpfjaa
open Go.RowKit

set_option maxRecDepth 100000 in
set_option maxHeartbeats 2000000 in
theorem allLaw_no (l : List UInt8) (z : Int) (w : World) (hl : l.length = 32) (hz : NoW z) : Calls Try.prog 4 #[.agg (bys l).toArray, .int .i64 z] w (One (.bool true) w) := by
  have HZ := Lib.hid hz
  have HL : Hid ((Try.prog.info? 28).map (·.size) = some (bys l).length) := by show _ = _; rw [bys_length, hl]; exact s28
  clear hl hz
  go_enter Try.func4, Try.ntmps4
  go_wp2_with (refine wpList_box_blk rfl 28 _ rfl (bys l) rfl ?_)
  intro w1 a1 a2 a3
  have hsz := a2
  have G1 := Lib.hid a1
  have B1 := Lib.hid a3
  clear a1 a2 a3
  have h1 : w.heap.size < w1.heap.size := by omega
  clear hsz
  go_wp2_with (refine wpList_load_blk rfl 28 _ rfl w.heap.size rfl (bys l) 28 G1.out 32 5 tu28 HL.out ?_)
  refine (all_no _ (bys l) z _ rfl HZ.out).mono ?_
  rintro e w2 ⟨rfl, hb⟩
  have G2 : Hid (Blk w2 w.heap.size (bys l) 28) := G1.out.below hb (by omega)
  have B2 : Hid (Below w.heap.size w w2) := B1.out.trans (hb.mono (by omega))
  have h2 : w.heap.size < w2.heap.size := by have := hb.size; omega
  clear hb G1 B1 h1
  go_wp2_with (refine wpList_load_blk rfl 28 _ rfl w.heap.size rfl (bys l) 28 G2.out 32 5 tu28 HL.out ?_)
  refine (refAll_no (bys l) z _ HL.out HZ.out).mono ?_
  rintro e w3 ⟨rfl, hb⟩
  have G3 : Hid (Blk w3 w.heap.size (bys l) 28) := G2.out.below hb (by omega)
  have B3 : Hid (Below w.heap.size w w3) := B2.out.trans (hb.mono (by omega))
  have h3 : w.heap.size < w3.heap.size := by have := hb.size; omega
  clear hb G2 B2 h2
  go_wp2_with (refine wpList_load_blk rfl 28 _ rfl w.heap.size rfl (bys l) 28 G3.out 32 5 tu28 HL.out ?_)
  refine (numberX_no (bys l) z _ HZ.out).mono ?_
  rintro e w4 ⟨rfl, hb⟩
  have G4 : Hid (Blk w4 w.heap.size (bys l) 28) := G3.out.below hb (by omega)
  have B4 : Hid (Below w.heap.size w w4) := B3.out.trans (hb.mono (by omega))
  clear hb G3 B3 h3
  go_wp2_with (refine wpList_load_blk rfl 28 _ rfl w.heap.size rfl (bys l) 28 G4.out 32 5 tu28 HL.out ?_)
  refine (refNumber_no (bys l) z _ HZ.out).mono ?_
  rintro e w5 ⟨rfl, hb⟩
  have B5 : Hid (Below w.heap.size w w5) := B4.out.trans (hb.mono B4.out.size)
  clear hb G4 B4
  go_wp2_with fail
  refine (ownX_no z _ HZ.out).mono ?_
  rintro e w6 ⟨rfl, hb⟩
  have B6 : Hid (Below w.heap.size w w6) := B5.out.trans (hb.mono B5.out.size)
  clear hb B5
  go_wp2_with fail
  refine (refOwn_no z _ HZ.out).mono ?_
  rintro e w7 ⟨rfl, rfl⟩
  go_wp2_with fail
  refine (ints_same 0 _ _ [] _ (RdI.nil _ _) (RdI.nil _ _) (by simp)).mono ?_
  rintro e w7 ⟨rfl, n, rfl⟩
  have B7 : Hid (Below w.heap.size w (w6.drewN n)) := Below.drewN' B6.out
  generalize w6.drewN n = w7 at B7 ⊢
  clear B6
  go_wp2_with fail
  refine (checkX_no z _ HZ.out).mono ?_
  rintro e w8 ⟨rfl, hb⟩
  have B8 : Hid (Below w.heap.size w w8) := B7.out.trans (hb.mono B7.out.size)
  clear hb B7
  go_wp2_with fail
  refine (refCheck_no z _ HZ.out).mono ?_
  rintro e w9 ⟨rfl, rfl⟩
  go_wp2_with fail
  refine (shiftX_no z _ HZ.out).mono ?_
  rintro e w9 ⟨rfl, hb⟩
  have B9 : Hid (Below w.heap.size w w9) := B8.out.trans (hb.mono B8.out.size)
  clear hb B8
  go_wp2_with fail
  refine (refShift_no z _ HZ.out).mono ?_
  rintro e w10 ⟨rfl, rfl⟩
  go_wp2_with fail
  refine (alive_any _).mono ?_
  rintro e w11 ⟨rfl, hb⟩
  have B11 : Hid (Below w.heap.size w w11) := B9.out.trans (hb.mono B9.out.size)
  clear hb B9
  go_wp2
  go_ret
  exact ⟨rfl, B11.out⟩

set_option maxRecDepth 100000 in
set_option maxHeartbeats 2000000 in
theorem allLaw_yes (l : List UInt8) (k : Nat) (w : World) (hl : l.length = 32) (hk : Wd k) : Calls Try.prog 4 #[.agg (bys l).toArray, .int .i64 (k : Int)] w (One (.bool true) w) := by
  have HK := Lib.hid hk
  have HL : Hid ((Try.prog.info? 28).map (·.size) = some (bys l).length) := by show _ = _; rw [bys_length, hl]; exact s28
  have HL0 := Lib.hid hl
  obtain ⟨k1, k8, hP, hG⟩ := hk.le
  have hC := chk_le k
  have hA : (allD l k).length ≤ 300 := by rw [allD_length]; unfold onn at hP; omega
  clear hl hk
  go_enter Try.func4, Try.ntmps4
  go_wp2_with (refine wpList_box_blk rfl 28 _ rfl (bys l) rfl ?_)
  intro w1 a1 a2 a3
  have hsz := a2
  have G1 := Lib.hid a1
  have B1 := Lib.hid a3
  clear a1 a2 a3
  have h1 : w.heap.size < w1.heap.size := by omega
  clear hsz
  go_wp2_with (refine wpList_load_blk rfl 28 _ rfl w.heap.size rfl (bys l) 28 G1.out 32 5 tu28 HL.out ?_)
  refine (all_yes l k _ HK.out HL0.out).mono ?_
  rintro e w2 ⟨x, rfl, hown, hb⟩
  have G2 : Hid (Blk w2 w.heap.size (bys l) 28) := G1.out.below hb (by omega)
  have B2 : Hid (Below w.heap.size w w2) := B1.out.trans (hb.mono (by omega))
  have X2 : Hid (RdI w2.heap.size w2 x (allD l k)) := hown.rd
  have h2 : w.heap.size < w2.heap.size := by have := hb.size; omega
  clear hb hown G1 B1 h1
  go_wp2_with (refine wpList_load_blk rfl 28 _ rfl w.heap.size rfl (bys l) 28 G2.out 32 5 tu28 HL.out ?_)
  refine (refAll_yes l k _ HK.out HL0.out).mono ?_
  rintro e w3 ⟨y, rfl, hown, hb⟩
  have G3 : Hid (Blk w3 w.heap.size (bys l) 28) := G2.out.below hb (by omega)
  have B3 : Hid (Below w.heap.size w w3) := B2.out.trans (hb.mono (by omega))
  have X3 : Hid (RdI w3.heap.size w3 x (allD l k)) := (X2.out.below hb).more hb.size
  have Y3 : Hid (RdI w3.heap.size w3 y (allD l k)) := hown.rd
  have h3 : w.heap.size < w3.heap.size := by have := hb.size; omega
  clear hb hown G2 B2 h2 X2
  go_wp2_with (refine wpList_load_blk rfl 28 _ rfl w.heap.size rfl (bys l) 28 G3.out 32 5 tu28 HL.out ?_)
  refine (numberX_yes l k _ HK.out HL0.out).mono ?_
  rintro e w4 ⟨rfl, hb⟩
  have G4 : Hid (Blk w4 w.heap.size (bys l) 28) := G3.out.below hb (by omega)
  have B4 : Hid (Below w.heap.size w w4) := B3.out.trans (hb.mono (by omega))
  have X4 : Hid (RdI w4.heap.size w4 x (allD l k)) := (X3.out.below hb).more hb.size
  have Y4 : Hid (RdI w4.heap.size w4 y (allD l k)) := (Y3.out.below hb).more hb.size
  clear hb G3 B3 h3 X3 Y3
  go_wp2_with (refine wpList_load_blk rfl 28 _ rfl w.heap.size rfl (bys l) 28 G4.out 32 5 tu28 HL.out ?_)
  refine (refNumber_yes l k _ HK.out HL0.out).mono ?_
  rintro e w5 ⟨rfl, hb⟩
  have B5 : Hid (Below w.heap.size w w5) := B4.out.trans (hb.mono B4.out.size)
  have X5 : Hid (RdI w5.heap.size w5 x (allD l k)) := (X4.out.below hb).more hb.size
  have Y5 : Hid (RdI w5.heap.size w5 y (allD l k)) := (Y4.out.below hb).more hb.size
  clear hb G4 B4 X4 Y4
  go_wp2_with fail
  refine (ownX_yes k _ HK.out).mono ?_
  rintro e w6 ⟨rfl, hb⟩
  have B6 : Hid (Below w.heap.size w w6) := B5.out.trans (hb.mono B5.out.size)
  have X6 : Hid (RdI w6.heap.size w6 x (allD l k)) := (X5.out.below hb).more hb.size
  have Y6 : Hid (RdI w6.heap.size w6 y (allD l k)) := (Y5.out.below hb).more hb.size
  clear hb B5 X5 Y5
  go_wp2_with fail
  refine (refOwn_yes k _ HK.out).mono ?_
  rintro e w7 ⟨rfl, rfl⟩
  go_wp2_with fail
  refine (ints_same _ _ _ (allD l k) _ X6.out Y6.out (by omega)).mono ?_
  rintro e w7 ⟨rfl, n, rfl⟩
  have B7 : Hid (Below w.heap.size w (w6.drewN n)) := Below.drewN' B6.out
  generalize w6.drewN n = w7 at B7 ⊢
  clear B6 X6 Y6
  go_wp2_with fail
  refine (checkX_yes k _ HK.out).mono ?_
  rintro e w8 ⟨rfl, hb⟩
  have B8 : Hid (Below w.heap.size w w8) := B7.out.trans (hb.mono B7.out.size)
  clear hb B7
  go_wp2_with fail
  refine (refCheck_yes k _ HK.out).mono ?_
  rintro e w9 ⟨rfl, n8, rfl⟩
  have B8' : Hid (Below w.heap.size w (w8.drewN n8)) := Below.drewN' B8.out
  generalize w8.drewN n8 = w8' at B8' ⊢
  clear B8
  go_wp2_with fail
  refine (shiftX_yes k _ HK.out).mono ?_
  rintro e w9 ⟨rfl, hb⟩
  have B9 : Hid (Below w.heap.size w w9) := B8'.out.trans (hb.mono B8'.out.size)
  clear hb B8'
  go_wp2_with fail
  refine (refShift_yes k _ HK.out).mono ?_
  rintro e w10 ⟨rfl, n9, rfl⟩
  have B10 : Hid (Below w.heap.size w (w9.drewN n9)) := Below.drewN' B9.out
  generalize w9.drewN n9 = w10 at B10 ⊢
  clear B9
  go_wp2_with fail
  refine (alive_any _).mono ?_
  rintro e w11 ⟨rfl, hb⟩
  have B11 : Hid (Below w.heap.size w w11) := B10.out.trans (hb.mono B10.out.size)
  clear hb B10
  go_wp2
  go_ret
  exact ⟨rfl, B11.out⟩

theorem all_law (l : List UInt8) (z : Int) (w : World) (hl : l.length = 32) (_ : -9223372036854775808 ≤ z) (_ : z ≤ 9223372036854775807) : Calls Try.prog 4 #[.agg (bys l).toArray, .int .i64 z] w (One (.bool true) w) := by
  rcases width_or z with ⟨k, hk, rfl⟩ | hz
  · exact allLaw_yes l k w hl hk
  · exact allLaw_no l z w hl hz
end Go.Proofs.Ytklbegioifpfjaa
