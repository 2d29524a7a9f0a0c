/-
  Package ots: Public of a key whose W is no width; the statements' live question, which is answered with true.
-/
import Derived.Test.YtejeefkoalbcmaaOa
namespace Go.Proofs.Ytejeefkoalbcmaa
open Go.RowKit

set_option maxRecDepth 100000 in
set_option maxHeartbeats 1000000 in
theorem publicX_no (I seed : List UInt8) (q : Nat) (z : Int) (w : World) (hI : I.length = 16) (hs : seed.length = 32) (hq : q < 4294967296) (hk : NoW z) :
    Calls Try.prog 21 #[.agg (kcs I q seed z).toArray] w (TwoD (.agg z32.toArray) (.int .i64 1) w) := by
  have HI := Lib.hid hI
  have HS := Lib.hid hs
  have HK := Lib.hid hk
  have H22 : Hid ((Try.prog.info? 22).map (·.size) = some (bys I).length) := by show _ = _; rw [bys_length, hI]; exact s22
  have H67 : Hid ((Try.prog.info? 67).map (·.size) = some (bys (pre20 I q)).length) := by show _ = _; rw [bys_length, pre20_length I q hI]; exact s67
  have HL67 : Hid (z20.length = (bys (pre20 I q)).length) := by show _ = _; rw [bys_length, pre20_length I q hI, z20_length]
  clear hI hs hk
  go_enter Try.func21, Try.ntmps21
  go_wp2_with (refine wpList_box_blk rfl 26 _ rfl (kcs I q seed z) rfl ?_)
  intro v1 a1 a2 a3
  have A1 := Lib.hid a1
  have A2 := Lib.hid a2
  have A3 := Lib.hid a3
  clear a1 a2 a3
  go_wp2_with (refine wpList_alloc_blk rfl 24 rfl _ z24 ?_)
  intro v2 a1 a2 a3
  rw [A2.out] at a1 a2 a3 ⊢
  have G1 : Hid (Blk v2 w.heap.size (kcs I q seed z) 26) := A1.out.below a3 (by omega)
  have G2 : Hid (Blk v2 (w.heap.size + 1) z32 24) := a1
  have GB : Hid (Below w.heap.size w v2) := A3.out.trans (a3.mono (by omega))
  have hs2 : w.heap.size + 1 < v2.heap.size := by omega
  clear a1 a2 a3 A1 A2 A3
  go_wp2
  refine wp_scope_goto 0 rfl ?_
  have cq := (G1.out.cell 16).trans (kcs_q I seed q z HI.out)
  go_wp2_with (refine wpList_load_mid rfl 22 _ rfl w.heap.size 0 rfl (bys I) _ (kcs_rangeI G1.out) tu22 rfl H22.out ?_)
  clear cq
  refine (prefixOf_any I q _ HI.out hq).mono ?_
  rintro e w1 ⟨rfl, hb⟩
  have E1 : Hid (Blk w1 w.heap.size (kcs I q seed z) 26) := G1.out.below hb (by omega)
  have E2 : Hid (Blk w1 (w.heap.size + 1) z32 24) := G2.out.below hb (by omega)
  have EB : Hid (Below w.heap.size w w1) := GB.out.trans (hb.mono (by omega))
  have hs1 : w.heap.size + 1 < w1.heap.size := Nat.lt_of_lt_of_le hs2 hb.size
  clear hb G1 G2 GB hs2
  go_wp2_with (refine wpList_alloc_blk rfl 67 rfl _ zi67 ?_)
  intro w2 a1 a2 a3
  obtain ⟨gp, hgp⟩ : ∃ g, w1.heap.size = g := ⟨_, rfl⟩
  rw [hgp] at a1 a2 a3 hs1 ⊢
  have A1 := Lib.hid a1
  have L1 : Hid (Blk (w2.setRow gp (bys (pre20 I q)).toArray) w.heap.size (kcs I q seed z) 26) := (E1.out.below a3 (by omega)).setRowOther (by omega)
  have L2 : Hid (Blk (w2.setRow gp (bys (pre20 I q)).toArray) (w.heap.size + 1) z32 24) := (E2.out.below a3 (by omega)).setRowOther (by omega)
  have LB : Hid (Below w.heap.size w (w2.setRow gp (bys (pre20 I q)).toArray)) := below_setRow' (EB.out.trans (a3.mono (by omega))) (by omega) _
  have cw := (L1.out.cell 49).trans (kcs_z I seed q z HI.out HS.out)
  clear a1 a2 a3 E1 E2 EB hgp
  go_wp2_with (first | (refine wpList_store_blk rfl 67 _ _ rfl gp (bys (pre20 I q)) z20 67 rfl rfl A1.out H67.out HL67.out (bys_one' _) ?_))
  clear cw
  refine (shapeOf_no z _ HK.out).mono ?_
  rintro e w3 ⟨rfl, hb⟩
  have M2 : Hid (Blk w3 (w.heap.size + 1) z32 24) := L2.out.below hb L2.out.lt
  have MB : Hid (Below w.heap.size w w3) := LB.out.trans (hb.mono LB.out.size)
  have hs3 : w.heap.size + 1 < w3.heap.size := M2.out.lt
  clear hb L1 L2 LB A1 hs1
  go_wp2_with (refine wpList_alloc_blk rfl 57 rfl _ zi57 ?_)
  intro w4 a1 a2 a3
  obtain ⟨g, hg⟩ : ∃ g, w3.heap.size = g := ⟨_, rfl⟩
  rw [hg] at a1 a2 a3 hs3 ⊢
  have A1 := Lib.hid a1
  have N2 : Hid (Blk (w4.setRow g shp0.toArray) (w.heap.size + 1) z32 24) := (M2.out.below a3 (by omega)).setRowOther (by omega)
  have NB : Hid (Below w.heap.size w (w4.setRow g shp0.toArray)) := below_setRow' (MB.out.trans (a3.mono (by omega))) (by omega) _
  clear a1 a2 a3 M2 MB hg
  go_wp2_with (first | (refine wpList_store_blk rfl 57 _ _ rfl g shp0 shp0 57 rfl rfl A1.out s57 rfl shp0_one ?_))
  refine wp_goto ⟨rfl, ?_⟩
  go_wp2_with (first | (refine wpList_store_blk rfl 24 _ _ rfl (w.heap.size + 1) z32 z32 24 rfl rfl N2.out s24 rfl (bys_one' _) ?_) | (refine wpList_buildTo rfl 24 _ rfl (some 43) rfl z32.toArray (by kernel_rfl) ?_))
  rw [Exit.noGoto_ret]
  refine bodyPost_ret (v := .tuple #[.agg z32.toArray, .int .i64 1]) ?_ rfl ?_
  · exact ret_blk2 rfl _ _ (w.heap.size + 1) 24 z32 _ rfl rfl N2.out.setRow 32 5 tu24 s24
  · exact ⟨rfl, below_setRow' NB.out (by omega) _⟩

set_option maxRecDepth 100000 in
set_option maxHeartbeats 1000000 in
theorem alive_any (w : World) : Calls Try.prog 18 #[] w (One (.bool true) w) := by
  have W4 : Hid (Wd 4) := by simp [Hid, Wd]
  have W8 : Hid (Wd 8) := by simp [Hid, Wd]
  have W3 : Hid (NoW 3) := by simp [Hid, NoW]
  go_enter Try.func18, Try.ntmps18
  go_wp2_with fail
  refine (longX_yes 4 _ W4.out).mono ?_
  rintro e w1 ⟨rfl, hb1⟩
  rw [show lng 4 = 2180 by decide]
  have B1 := Lib.hid hb1
  clear hb1
  go_wp2_with fail
  refine (typeX_yes 8 _ W8.out).mono ?_
  rintro e w2 ⟨rfl, hb2⟩
  rw [show typ 8 = 4 by decide]
  have B2 : Hid (Below w.heap.size w w2) := B1.out.trans (hb2.mono B1.out.size)
  clear hb2 B1
  go_wp2_with (refine wpList_buildTo rfl 26 _ rfl (some 16) rfl (kcs (List.replicate 16 0) 0 (List.replicate 32 0) 3).toArray (by kernel_rfl) ?_)
  refine (publicX_no (List.replicate 16 0) (List.replicate 32 0) 0 3 _ (by simp) (by simp) (by omega) W3.out).mono ?_
  rintro e w3 ⟨rfl, hb3⟩
  have B3 : Hid (Below w.heap.size w w3) := B2.out.trans (hb3.mono B2.out.size)
  clear hb3 B2
  go_wp2_with (refine wpList_alloc_blk rfl 24 rfl _ z24 ?_)
  intro w4 a1 a2 a3
  have A1 := Lib.hid a1
  have B4 : Hid (Below w.heap.size w (w4.setRow w3.heap.size z32.toArray)) := below_setRow' (B3.out.trans (a3.mono B3.out.size)) B3.out.size _
  clear a1 a2 a3
  go_wp2_with (first | (refine wpList_store_blk rfl 24 _ _ rfl w3.heap.size z32 z32 24 rfl rfl A1.out s24 rfl (bys_one' _) ?_))
  go_ret
  exact ⟨rfl, B4.out⟩
end Go.Proofs.Ytejeefkoalbcmaa
