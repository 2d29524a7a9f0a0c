/-
  Package ots: Secret, for every key and every int.
-/
import Derived.Test.YtejeefkoalbcmaaO8
namespace Go.Proofs.Ytejeefkoalbcmaa
open Go.RowKit

set_option maxRecDepth 100000 in
set_option maxHeartbeats 1000000 in
theorem secretX_yes (I seed : List UInt8) (q k i : Nat) (w : World) (hI : I.length = 16) (hs : seed.length = 32) (hq : q < 4294967296) (hk : Wd k) (hi : i < mny k) :
    Calls Try.prog 9 #[.agg (kcs I q seed (k : Int)).toArray, .int .i64 (i : Int)] w (TwoD (.agg (bys (hsec (pre20 I q) seed i)).toArray) (.int .i64 0) w) := by
  have HI := Lib.hid hI
  have HS := Lib.hid hs
  have HK := Lib.hid hk
  have HIN := Lib.hid hi
  have hm := mny_le k hk
  have hi2 : i < 65536 := by omega
  have H26 : Hid ((Try.prog.info? 26).map (·.size) = some (kcs I q seed (k : Int)).length) := by show _ = _; rw [kcs_length I seed q _ hI hs]; exact s26
  have H24 : Hid ((Try.prog.info? 24).map (·.size) = some (bys (hsec (pre20 I q) seed i)).length) := by show _ = _; rw [bys_length]; unfold hsec; rw [hash_length]; exact s24
  have HLZ : Hid (z32.length = (bys (hsec (pre20 I q) seed i)).length) := by show _ = _; rw [bys_length, z32_length]; unfold hsec; rw [hash_length]
  clear hI hs hk hi hm
  obtain ⟨d57, hu57, hd57⟩ := row57
  have HU := Lib.hid hu57
  have HD := Lib.hid hd57
  obtain ⟨d26, hu26, hd26⟩ := row26
  have HU2 := Lib.hid hu26
  have HD2 := Lib.hid hd26
  clear hu57 hd57 hu26 hd26
  go_enter Try.func9, Try.ntmps9
  go_wp2_with (refine wpList_box_blk rfl 26 _ rfl (kcs I q seed (k : Int)) rfl ?_)
  intro v1 a1 a2 a3
  have A1 := Lib.hid a1
  have A2 := Lib.hid a2
  have A3 := Lib.hid a3
  clear a1 a2 a3
  go_wp2_with (refine wpList_alloc_blk rfl 24 rfl _ z24 ?_)
  intro v2 a1 a2 a3
  rw [A2.out] at a1 a2 a3 ⊢
  have G1 : Hid (Blk v2 w.heap.size (kcs I q seed (k : Int)) 26) := A1.out.below a3 (by omega)
  have G2 : Hid (Blk v2 (w.heap.size + 1) z32 24) := a1
  have GB : Hid (Below w.heap.size w v2) := A3.out.trans (a3.mono (by omega))
  have hs2 : w.heap.size + 1 < v2.heap.size := by omega
  clear a1 a2 a3 A1 A2 A3
  go_wp2
  refine wp_scope_goto 0 rfl ?_
  have cw := (G1.out.cell 49).trans (kcs_z I seed q (k : Int) HI.out HS.out)
  go_wp2_with fail
  clear cw
  refine (shapeOf_yes k _ HK.out).mono ?_
  rintro e w1 ⟨rfl, hb⟩
  have E1 : Hid (Blk w1 w.heap.size (kcs I q seed (k : Int)) 26) := G1.out.below hb (by omega)
  have E2 : Hid (Blk w1 (w.heap.size + 1) z32 24) := G2.out.below hb (by omega)
  have EB : Hid (Below w.heap.size w w1) := GB.out.trans (hb.mono (by omega))
  have hs1 : w.heap.size + 1 < w1.heap.size := Nat.lt_of_lt_of_le hs2 hb.size
  clear hb G1 G2 GB hs2
  go_wp2_with (first | (refine wpList_alloc_blk rfl 57 rfl _ zi57 ?_))
  intro w2 a1 a2 a3
  obtain ⟨g, hg⟩ : ∃ g, w1.heap.size = g := ⟨_, rfl⟩
  rw [hg] at a1 a2 a3 hs1 ⊢
  have A1 := Lib.hid a1
  have L0 : Hid (Blk (w2.setRow g (shp k).toArray) g (shp k) 57) := a1.setRow
  have L1 : Hid (Blk (w2.setRow g (shp k).toArray) w.heap.size (kcs I q seed (k : Int)) 26) := (E1.out.below a3 (by omega)).setRowOther (by omega)
  have L2 : Hid (Blk (w2.setRow g (shp k).toArray) (w.heap.size + 1) z32 24) := (E2.out.below a3 (by omega)).setRowOther (by omega)
  have LB : Hid (Below w.heap.size w (w2.setRow g (shp k).toArray)) := below_setRow' (EB.out.trans (a3.mono (by omega))) (by omega) _
  have hs3 : g < (w2.setRow g (shp k).toArray).heap.size := L0.out.lt
  clear a1 a2 a3 E1 E2 EB hg
  go_wp2_with (first | (refine wpList_store_blk rfl 57 _ _ rfl g (shp k) shp0 57 rfl rfl A1.out s57 rfl (shp_one k) ?_) | (refine wpList_load_blkU rfl 57 _ rfl g rfl (shp k) 57 L0.out d57 HU.out HD.out s57 ?_))
  refine (hasDigit_in k i _ HK.out HIN.out).mono ?_
  rintro e w3 ⟨rfl, hb⟩
  have M1 : Hid (Blk w3 w.heap.size (kcs I q seed (k : Int)) 26) := L1.out.below hb (by omega)
  have M2 : Hid (Blk w3 (w.heap.size + 1) z32 24) := L2.out.below hb (by omega)
  have MB : Hid (Below w.heap.size w w3) := LB.out.trans (hb.mono LB.out.size)
  have hs4 : w.heap.size + 1 < w3.heap.size := M2.out.lt
  clear hb L0 L1 L2 LB A1 hs1 hs3
  go_wp2_with (first | (refine wpList_load_blkU rfl 26 _ rfl w.heap.size rfl (kcs I q seed (k : Int)) 26 M1.out d26 HU2.out HD2.out H26.out ?_))
  refine (secret_any I seed q i (k : Int) _ HI.out HS.out hq hi2).mono ?_
  rintro e w4 ⟨rfl, hb⟩
  have N2 : Hid (Blk w4 (w.heap.size + 1) z32 24) := M2.out.below hb (by omega)
  have NB : Hid (Below w.heap.size w w4) := MB.out.trans (hb.mono MB.out.size)
  clear hb M1 M2 MB
  go_wp2_with (refine wpList_store_blk rfl 24 _ _ rfl (w.heap.size + 1) (bys (hsec (pre20 I q) seed i)) z32 24 rfl rfl N2.out H24.out HLZ.out (bys_one' _) ?_)
  rw [jump_ret]
  refine bodyPost_ret (v := .tuple #[.agg (bys (hsec (pre20 I q) seed i)).toArray, .int .i64 0]) ?_ rfl ?_
  · exact ret_blk2 rfl _ _ (w.heap.size + 1) 24 _ _ rfl rfl N2.out.setRow 32 5 tu24 H24.out
  · exact ⟨rfl, below_setRow' NB.out (by omega) _⟩

set_option maxRecDepth 100000 in
set_option maxHeartbeats 1000000 in
theorem secretX_out (I seed : List UInt8) (q k : Nat) (i : Int) (w : World) (hI : I.length = 16) (hs : seed.length = 32) (hk : Wd k) (hi : i < 0 ∨ (mny k : Int) ≤ i) :
    Calls Try.prog 9 #[.agg (kcs I q seed (k : Int)).toArray, .int .i64 i] w (TwoD (.agg z32.toArray) (.int .i64 1) w) := by
  have HI := Lib.hid hI
  have HS := Lib.hid hs
  have HK := Lib.hid hk
  have HIN := Lib.hid hi
  clear hI hs hk hi
  obtain ⟨d57, hu57, hd57⟩ := row57
  have HU := Lib.hid hu57
  have HD := Lib.hid hd57
  clear hu57 hd57
  go_enter Try.func9, Try.ntmps9
  go_wp2_with (refine wpList_box_blk rfl 26 _ rfl (kcs I q seed (k : Int)) rfl ?_)
  intro v1 a1 a2 a3
  have A1 := Lib.hid a1
  have A2 := Lib.hid a2
  have A3 := Lib.hid a3
  clear a1 a2 a3
  go_wp2_with (refine wpList_alloc_blk rfl 24 rfl _ z24 ?_)
  intro v2 a1 a2 a3
  rw [A2.out] at a1 a2 a3 ⊢
  have G1 : Hid (Blk v2 w.heap.size (kcs I q seed (k : Int)) 26) := A1.out.below a3 (by omega)
  have G2 : Hid (Blk v2 (w.heap.size + 1) z32 24) := a1
  have GB : Hid (Below w.heap.size w v2) := A3.out.trans (a3.mono (by omega))
  have hs2 : w.heap.size + 1 < v2.heap.size := by omega
  clear a1 a2 a3 A1 A2 A3
  go_wp2
  refine wp_scope_goto 0 rfl ?_
  have cw := (G1.out.cell 49).trans (kcs_z I seed q (k : Int) HI.out HS.out)
  go_wp2_with fail
  clear cw
  refine (shapeOf_yes k _ HK.out).mono ?_
  rintro e w1 ⟨rfl, hb⟩
  have E1 : Hid (Blk w1 w.heap.size (kcs I q seed (k : Int)) 26) := G1.out.below hb (by omega)
  have E2 : Hid (Blk w1 (w.heap.size + 1) z32 24) := G2.out.below hb (by omega)
  have EB : Hid (Below w.heap.size w w1) := GB.out.trans (hb.mono (by omega))
  have hs1 : w.heap.size + 1 < w1.heap.size := Nat.lt_of_lt_of_le hs2 hb.size
  clear hb G1 G2 GB hs2
  go_wp2_with (first | (refine wpList_alloc_blk rfl 57 rfl _ zi57 ?_))
  intro w2 a1 a2 a3
  obtain ⟨g, hg⟩ : ∃ g, w1.heap.size = g := ⟨_, rfl⟩
  rw [hg] at a1 a2 a3 hs1 ⊢
  have A1 := Lib.hid a1
  have L0 : Hid (Blk (w2.setRow g (shp k).toArray) g (shp k) 57) := a1.setRow
  have L1 : Hid (Blk (w2.setRow g (shp k).toArray) w.heap.size (kcs I q seed (k : Int)) 26) := (E1.out.below a3 (by omega)).setRowOther (by omega)
  have L2 : Hid (Blk (w2.setRow g (shp k).toArray) (w.heap.size + 1) z32 24) := (E2.out.below a3 (by omega)).setRowOther (by omega)
  have LB : Hid (Below w.heap.size w (w2.setRow g (shp k).toArray)) := below_setRow' (EB.out.trans (a3.mono (by omega))) (by omega) _
  have hs3 : g < (w2.setRow g (shp k).toArray).heap.size := L0.out.lt
  clear a1 a2 a3 E1 E2 EB hg
  go_wp2_with (first | (refine wpList_store_blk rfl 57 _ _ rfl g (shp k) shp0 57 rfl rfl A1.out s57 rfl (shp_one k) ?_) | (refine wpList_load_blkU rfl 57 _ rfl g rfl (shp k) 57 L0.out d57 HU.out HD.out s57 ?_))
  refine (hasDigit_out k i _ HK.out HIN.out).mono ?_
  rintro e w3 ⟨rfl, hb⟩
  have N2 : Hid (Blk w3 (w.heap.size + 1) z32 24) := L2.out.below hb (by omega)
  have NB : Hid (Below w.heap.size w w3) := LB.out.trans (hb.mono LB.out.size)
  have hs4 : w.heap.size + 1 < w3.heap.size := N2.out.lt
  clear hb L0 L1 L2 LB A1 hs1 hs3
  go_wp2
  refine wp_goto ⟨rfl, ?_⟩
  go_wp2_with (first | (refine wpList_store_blk rfl 24 _ _ rfl (w.heap.size + 1) z32 z32 24 rfl rfl N2.out s24 rfl (bys_one' _) ?_) | (refine wpList_buildTo rfl 24 _ rfl (some 23) rfl z32.toArray (by kernel_rfl) ?_))
  rw [Exit.noGoto_ret]
  refine bodyPost_ret (v := .tuple #[.agg z32.toArray, .int .i64 1]) ?_ rfl ?_
  · exact ret_blk2 rfl _ _ (w.heap.size + 1) 24 z32 _ rfl rfl N2.out.setRow 32 5 tu24 s24
  · exact ⟨rfl, below_setRow' NB.out (by omega) _⟩

set_option maxRecDepth 100000 in
set_option maxHeartbeats 1000000 in
theorem secretX_no (I seed : List UInt8) (q : Nat) (z i : Int) (w : World) (hI : I.length = 16) (hs : seed.length = 32) (hk : NoW z) :
    Calls Try.prog 9 #[.agg (kcs I q seed z).toArray, .int .i64 i] w (TwoD (.agg z32.toArray) (.int .i64 1) w) := by
  have HI := Lib.hid hI
  have HS := Lib.hid hs
  have HK := Lib.hid hk
  clear hI hs hk
  go_enter Try.func9, Try.ntmps9
  go_wp2_with (refine wpList_box_blk rfl 26 _ rfl (kcs I q seed z) rfl ?_)
  intro v1 a1 a2 a3
  have A1 := Lib.hid a1
  have A2 := Lib.hid a2
  have A3 := Lib.hid a3
  clear a1 a2 a3
  go_wp2_with (refine wpList_alloc_blk rfl 24 rfl _ z24 ?_)
  intro v2 a1 a2 a3
  rw [A2.out] at a1 a2 a3 ⊢
  have G1 : Hid (Blk v2 w.heap.size (kcs I q seed z) 26) := A1.out.below a3 (by omega)
  have G2 : Hid (Blk v2 (w.heap.size + 1) z32 24) := a1
  have GB : Hid (Below w.heap.size w v2) := A3.out.trans (a3.mono (by omega))
  have hs2 : w.heap.size + 1 < v2.heap.size := by omega
  clear a1 a2 a3 A1 A2 A3
  go_wp2
  refine wp_scope_goto 0 rfl ?_
  have cw := (G1.out.cell 49).trans (kcs_z I seed q z HI.out HS.out)
  go_wp2_with fail
  clear cw
  refine (shapeOf_no z _ HK.out).mono ?_
  rintro e w1 ⟨rfl, hb⟩
  have E2 : Hid (Blk w1 (w.heap.size + 1) z32 24) := G2.out.below hb (by omega)
  have EB : Hid (Below w.heap.size w w1) := GB.out.trans (hb.mono (by omega))
  have hs1 : w.heap.size + 1 < w1.heap.size := Nat.lt_of_lt_of_le hs2 hb.size
  clear hb G1 G2 GB hs2
  go_wp2_with (first | (refine wpList_alloc_blk rfl 57 rfl _ zi57 ?_))
  intro w2 a1 a2 a3
  obtain ⟨g, hg⟩ : ∃ g, w1.heap.size = g := ⟨_, rfl⟩
  rw [hg] at a1 a2 a3 hs1 ⊢
  have A1 := Lib.hid a1
  have N2 : Hid (Blk (w2.setRow g shp0.toArray) (w.heap.size + 1) z32 24) := (E2.out.below a3 (by omega)).setRowOther (by omega)
  have NB : Hid (Below w.heap.size w (w2.setRow g shp0.toArray)) := below_setRow' (EB.out.trans (a3.mono (by omega))) (by omega) _
  clear a1 a2 a3 E2 EB hg
  go_wp2_with (first | (refine wpList_store_blk rfl 57 _ _ rfl g shp0 shp0 57 rfl rfl A1.out s57 rfl shp0_one ?_))
  refine wp_goto ⟨rfl, ?_⟩
  go_wp2_with (first | (refine wpList_store_blk rfl 24 _ _ rfl (w.heap.size + 1) z32 z32 24 rfl rfl N2.out s24 rfl (bys_one' _) ?_) | (refine wpList_buildTo rfl 24 _ rfl (some 23) rfl z32.toArray (by kernel_rfl) ?_))
  rw [Exit.noGoto_ret]
  refine bodyPost_ret (v := .tuple #[.agg z32.toArray, .int .i64 1]) ?_ rfl ?_
  · exact ret_blk2 rfl _ _ (w.heap.size + 1) 24 z32 _ rfl rfl N2.out.setRow 32 5 tu24 s24
  · exact ⟨rfl, below_setRow' NB.out (by omega) _⟩
end Go.Proofs.Ytejeefkoalbcmaa
