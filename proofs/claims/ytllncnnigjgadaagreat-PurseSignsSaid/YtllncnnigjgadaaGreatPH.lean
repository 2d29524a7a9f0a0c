/-
  The document's purse: New and Crash, for every input that they are called with.
-/
import Derived.Test.YtllncnnigjgadaaGreatPG
import Derived.Test.YtllncnnigjgadaaGreatDDx
import Derived.Test.YtllncnnigjgadaaGreatLAx
import Derived.Test.YtllncnnigjgadaaGreatOBx
import Derived.Test.YtllncnnigjgadaaGreatPAx
import Derived.Test.YtllncnnigjgadaaGreatPBx
import Derived.Test.YtllncnnigjgadaaGreatPCx
import Derived.Test.YtllncnnigjgadaaGreatPDx
import Derived.Test.YtllncnnigjgadaaGreatPGx
import Derived.Test.YtllncnnigjgadaaGreatRBx
import Derived.Test.YtllncnnigjgadaaGreatSXx
namespace Go.Proofs.YtllncnnigjgadaaGreat
open Go.RowKit

theorem builtR20 (f g : Nat → UInt8) (z y s : Int) : Tryz.prog.built 40 [(0, .agg (bys ((List.range 16).map f) ++ (bys ((List.range 32).map g) ++ [Value.int .i64 z, Value.int .i64 y])).toArray), (3, .int .i64 s)] = some (bys ((List.range 16).map f) ++ (bys ((List.range 32).map g) ++ [Value.int .i64 z, Value.int .i64 y]) ++ [Value.int .i64 0, Value.int .i64 0, Value.int .i64 s]).toArray := by kernel_rfl
theorem builtR2 (I seed : List UInt8) (z y s : Int) (hI : I.length = 16) (hs : seed.length = 32) : Tryz.prog.built 40 [(0, .agg (tcs I seed z y).toArray), (3, .int .i64 s)] = some (pcs I seed z y 0 0 s).toArray := by
  rw [list_asL I 16 hI, list_asL seed 32 hs]
  exact builtR20 _ _ _ _ _
theorem sPurse60 : (Tryz.prog.info? 40).map (·.size) = some pcs0.length := sPurse6' K16 K32 0 0 0 0 0 rfl rfl

set_option maxRecDepth 100000 in
set_option maxHeartbeats 1000000 in
theorem rf6New_yes (I seed : List UInt8) (k h s : Nat) (w : World) (hI : I.length = 16) (hs : seed.length = 32) (hf : PFit k h 0 0 s) : Calls Tryz.prog 14 #[.agg (tcs I seed (k : Int) (h : Int)).toArray, .int .i64 (s : Int)] w (TwoD (.agg (pcs I seed (k : Int) (h : Int) 0 0 (s : Int)).toArray) (.int .i64 0) w) := by
  have HI := Lib.hid hI
  have HS := Lib.hid hs
  have HF := Lib.hid hf
  have HT := Lib.hid (sTree5' I seed (k : Int) (h : Int) hI hs)
  obtain ⟨dT, huT, hdT⟩ := rowTree5
  have HU := Lib.hid huT
  have HD := Lib.hid hdT
  have HPS := Lib.hid (sPurse6' I seed (k : Int) (h : Int) 0 0 (s : Int) hI hs)
  have HLZ : Hid (pcs0.length = (pcs I seed (k : Int) (h : Int) 0 0 (s : Int)).length) := by show _ = _; rw [pcs_length I seed _ _ _ _ _ hI hs]; rfl
  have HBU := Lib.hid (builtR2 I seed (k : Int) (h : Int) (s : Int) hI hs)
  obtain ⟨dP, huP, hdP⟩ := rowPurse6
  have HUP := Lib.hid huP
  have HDP := Lib.hid hdP
  clear hI hs huT hdT huP hdP hf
  go_enter Tryz.func14, Tryz.ntmps14
  go_wp2_with (refine wpList_box_blk rfl 38 _ rfl (tcs I seed (k : Int) (h : Int)) rfl ?_)
  intro w1 a1 a2 a3
  have A1 := Lib.hid a1
  have A2 := Lib.hid a2
  have A3 := Lib.hid a3
  clear a1 a2 a3
  go_wp2_with (refine wpList_alloc_blk rfl 40 rfl _ ziPurse6 ?_)
  intro w2 a1 a2 a3
  rw [A2.out] at a1 a2 a3 ⊢
  obtain ⟨g0, hg0⟩ : ∃ g, w.heap.size = g := ⟨_, rfl⟩
  have G0 : Hid (Blk w2 g0 (tcs I seed (k : Int) (h : Int)) 38) := by show Blk _ _ _ _; rw [← hg0]; exact A1.out.below a3 (by omega)
  have G1 : Hid (Blk w2 (g0 + 1) pcs0 40) := by show Blk _ _ _ _; rw [← hg0]; exact a1
  have GB : Hid (Below g0 w w2) := by show Below _ _ _; rw [← hg0]; exact A3.out.trans (a3.mono (by omega))
  have GS : Hid (w2.heap.size = g0 + 2) := by show _ = _; omega
  rw [hg0]
  have HG := Lib.hid hg0
  clear a1 a2 a3 A1 A2 A3 hg0
  go_wp2_with (first | (refine wpList_load_blkU rfl 38 _ rfl g0 rfl (tcs I seed (k : Int) (h : Int)) 38 G0.out dT HU.out HD.out HT.out ?_) | (refine wpList_buildTo rfl 40 _ rfl (some 9) rfl (pcs I seed (k : Int) (h : Int) 0 0 (s : Int)).toArray (by simp only [List.map_toArray, List.map_cons, List.map_nil]; exact HBU.out) ?_) | (refine wpList_alloc_blk rfl 40 rfl _ ziPurse6 ?_))
  intro w3 a1 a2 a3
  rw [GS.out] at a1 a2 a3 ⊢
  have A1 := Lib.hid a1
  obtain ⟨t4, ht4⟩ : ∃ t, w3.setRow (g0 + 2) (pcs I seed (k : Int) (h : Int) 0 0 (s : Int)).toArray = t := ⟨_, rfl⟩
  have J1 : Hid (Blk t4 (g0 + 1) pcs0 40) := by show Blk _ _ _ _; rw [← ht4]; exact (G1.out.below a3 (by omega)).setRowOther (by omega)
  have J2 : Hid (Blk t4 (g0 + 2) (pcs I seed (k : Int) (h : Int) 0 0 (s : Int)) 40) := by show Blk _ _ _ _; rw [← ht4]; exact a1.setRow
  have JB : Hid (Below g0 w t4) := by show Below _ _ _; rw [← ht4]; exact below_setRow' (GB.out.trans (a3.mono (by omega))) (by omega) _
  have JS : Hid (g0 + 1 < t4.heap.size) := J1.out.lt
  have HT4 := Lib.hid ht4
  clear a1 a2 a3 G0 G1 GB GS ht4
  go_wp2_with (first | (refine wpList_store_blk rfl 40 _ _ rfl (g0 + 2) (pcs I seed (k : Int) (h : Int) 0 0 (s : Int)) pcs0 40 rfl rfl A1.out HPS.out HLZ.out (pcs_one _ _ _ _ _ _ _) ?_; rw [HT4.out]; clear HT4) | (refine wpList_load_blkU rfl 40 _ rfl (g0 + 2) rfl (pcs I seed (k : Int) (h : Int) 0 0 (s : Int)) 40 J2.out dP HUP.out HDP.out HPS.out ?_))
  refine (rf6Right_yes I seed k h 0 0 s _ HI.out HS.out HF.out).mono ?_
  rintro e w5 ⟨rfl, hb⟩
  have K1 : Hid (Blk w5 (g0 + 1) pcs0 40) := J1.out.below hb J1.out.lt
  have K2 : Hid (Blk w5 (g0 + 2) (pcs I seed (k : Int) (h : Int) 0 0 (s : Int)) 40) := J2.out.below hb J2.out.lt
  have KB : Hid (Below g0 w w5) := JB.out.trans (hb.mono (by have := JS.out; omega))
  clear hb A1 J1 J2 JB
  go_wp2_with (first | (refine wpList_load_blkU rfl 40 _ rfl (g0 + 2) rfl (pcs I seed (k : Int) (h : Int) 0 0 (s : Int)) 40 K2.out dP HUP.out HDP.out HPS.out ?_) | (refine wpList_store_blk rfl 40 _ _ rfl (g0 + 1) (pcs I seed (k : Int) (h : Int) 0 0 (s : Int)) pcs0 40 rfl rfl K1.out HPS.out HLZ.out (pcs_one _ _ _ _ _ _ _) ?_))
  refine bodyPost_ret (v := .tuple #[.agg (pcs I seed (k : Int) (h : Int) 0 0 (s : Int)).toArray, .int .i64 0]) ?_ rfl ?_
  · exact ret_blk2U rfl _ _ (g0 + 1) 40 (pcs I seed (k : Int) (h : Int) 0 0 (s : Int)) _ rfl rfl K1.out.setRow dP HUP.out HDP.out HPS.out
  · exact ⟨rfl, below_setRow' (by rw [HG.out]; exact KB.out) (by have := HG.out; omega) _⟩

set_option maxRecDepth 100000 in
set_option maxHeartbeats 1000000 in
theorem rf6New_no (I seed : List UInt8) (z y s : Int) (w : World) (hI : I.length = 16) (hs : seed.length = 32) (hf : NoP z y 0 0 s) : Calls Tryz.prog 14 #[.agg (tcs I seed z y).toArray, .int .i64 s] w (TwoD (.agg (pcs0).toArray) (.int .i64 1) w) := by
  have HI := Lib.hid hI
  have HS := Lib.hid hs
  have HF := Lib.hid hf
  have HT := Lib.hid (sTree5' I seed z y hI hs)
  obtain ⟨dT, huT, hdT⟩ := rowTree5
  have HU := Lib.hid huT
  have HD := Lib.hid hdT
  have HPS := Lib.hid (sPurse6' I seed z y 0 0 s hI hs)
  have HLZ : Hid (pcs0.length = (pcs I seed z y 0 0 s).length) := by show _ = _; rw [pcs_length I seed _ _ _ _ _ hI hs]; rfl
  have HBU := Lib.hid (builtR2 I seed z y s hI hs)
  obtain ⟨dP, huP, hdP⟩ := rowPurse6
  have HUP := Lib.hid huP
  have HDP := Lib.hid hdP
  clear hI hs huT hdT huP hdP hf
  go_enter Tryz.func14, Tryz.ntmps14
  go_wp2_with (refine wpList_box_blk rfl 38 _ rfl (tcs I seed z y) rfl ?_)
  intro w1 a1 a2 a3
  have A1 := Lib.hid a1
  have A2 := Lib.hid a2
  have A3 := Lib.hid a3
  clear a1 a2 a3
  go_wp2_with (refine wpList_alloc_blk rfl 40 rfl _ ziPurse6 ?_)
  intro w2 a1 a2 a3
  rw [A2.out] at a1 a2 a3 ⊢
  obtain ⟨g0, hg0⟩ : ∃ g, w.heap.size = g := ⟨_, rfl⟩
  have G0 : Hid (Blk w2 g0 (tcs I seed z y) 38) := by show Blk _ _ _ _; rw [← hg0]; exact A1.out.below a3 (by omega)
  have G1 : Hid (Blk w2 (g0 + 1) pcs0 40) := by show Blk _ _ _ _; rw [← hg0]; exact a1
  have GB : Hid (Below g0 w w2) := by show Below _ _ _; rw [← hg0]; exact A3.out.trans (a3.mono (by omega))
  have GS : Hid (w2.heap.size = g0 + 2) := by show _ = _; omega
  rw [hg0]
  have HG := Lib.hid hg0
  clear a1 a2 a3 A1 A2 A3 hg0
  go_wp2_with (first | (refine wpList_load_blkU rfl 38 _ rfl g0 rfl (tcs I seed z y) 38 G0.out dT HU.out HD.out HT.out ?_) | (refine wpList_buildTo rfl 40 _ rfl (some 9) rfl (pcs I seed z y 0 0 s).toArray (by simp only [List.map_toArray, List.map_cons, List.map_nil]; exact HBU.out) ?_) | (refine wpList_alloc_blk rfl 40 rfl _ ziPurse6 ?_))
  intro w3 a1 a2 a3
  rw [GS.out] at a1 a2 a3 ⊢
  have A1 := Lib.hid a1
  obtain ⟨t4, ht4⟩ : ∃ t, w3.setRow (g0 + 2) (pcs I seed z y 0 0 s).toArray = t := ⟨_, rfl⟩
  have J1 : Hid (Blk t4 (g0 + 1) pcs0 40) := by show Blk _ _ _ _; rw [← ht4]; exact (G1.out.below a3 (by omega)).setRowOther (by omega)
  have J2 : Hid (Blk t4 (g0 + 2) (pcs I seed z y 0 0 s) 40) := by show Blk _ _ _ _; rw [← ht4]; exact a1.setRow
  have JB : Hid (Below g0 w t4) := by show Below _ _ _; rw [← ht4]; exact below_setRow' (GB.out.trans (a3.mono (by omega))) (by omega) _
  have JS : Hid (g0 + 1 < t4.heap.size) := J1.out.lt
  have HT4 := Lib.hid ht4
  clear a1 a2 a3 G0 G1 GB GS ht4
  go_wp2_with (first | (refine wpList_store_blk rfl 40 _ _ rfl (g0 + 2) (pcs I seed z y 0 0 s) pcs0 40 rfl rfl A1.out HPS.out HLZ.out (pcs_one _ _ _ _ _ _ _) ?_; rw [HT4.out]; clear HT4) | (refine wpList_load_blkU rfl 40 _ rfl (g0 + 2) rfl (pcs I seed z y 0 0 s) 40 J2.out dP HUP.out HDP.out HPS.out ?_))
  refine (rf6Right_no I seed z y 0 0 s _ HI.out HS.out HF.out).mono ?_
  rintro e w5 ⟨rfl, hb⟩
  have K1 : Hid (Blk w5 (g0 + 1) pcs0 40) := J1.out.below hb J1.out.lt
  have K2 : Hid (Blk w5 (g0 + 2) (pcs I seed z y 0 0 s) 40) := J2.out.below hb J2.out.lt
  have KB : Hid (Below g0 w w5) := JB.out.trans (hb.mono (by have := JS.out; omega))
  clear hb A1 J1 J2 JB
  go_wp2_with (first | (refine wpList_buildTo rfl 40 _ rfl (some 13) rfl pcs0.toArray (by kernel_rfl) ?_) | (refine wpList_store_blk rfl 40 _ _ rfl (g0 + 1) pcs0 pcs0 40 rfl rfl K1.out sPurse60 rfl pcs0_one ?_))
  refine bodyPost_ret (v := .tuple #[.agg pcs0.toArray, .int .i64 1]) ?_ rfl ?_
  · exact ret_blk2U rfl _ _ (g0 + 1) 40 pcs0 _ rfl rfl K1.out.setRow dP HUP.out HDP.out sPurse60
  · exact ⟨rfl, below_setRow' (by rw [HG.out]; exact KB.out) (by have := HG.out; omega) _⟩

set_option maxRecDepth 100000 in
set_option maxHeartbeats 1000000 in
theorem rf6Crash_any (I seed : List UInt8) (z y n m s : Int) (w : World) (hI : I.length = 16) (hs : seed.length = 32) : Calls Tryz.prog 21 #[.agg (pcs I seed z y n m s).toArray] w (Arr (pcs I seed z y m m s) w) := by
  have HI := Lib.hid hI
  have HS := Lib.hid hs
  obtain ⟨d51, hu51, hd51⟩ := rowPurse6
  have HU := Lib.hid hu51
  have HD := Lib.hid hd51
  obtain ⟨dT, huT, hdT⟩ := rowTree5
  have HUT := Lib.hid huT
  have HDT := Lib.hid hdT
  have HT := Lib.hid (sTree5' I seed z y hI hs)
  have H51 := Lib.hid (sPurse6' I seed z y m m s hI hs)
  have HL : Hid (pcs0.length = (pcs I seed z y m m s).length) := by show _ = _; rw [pcs_length I seed _ _ _ _ _ hI hs]; rfl
  have HB2 := Lib.hid (builtR I seed z y m m s hI hs)
  clear hI hs hu51 hd51 huT hdT
  go_enter Tryz.func21, Tryz.ntmps21
  go_wp2_with (refine wpList_box_blk rfl 40 _ rfl (pcs I seed z y n m s) rfl ?_)
  intro w1 a1 a2 a3
  have A1 := Lib.hid a1
  have A2 := Lib.hid a2
  have A3 := Lib.hid a3
  clear a1 a2 a3
  go_wp2_with (refine wpList_alloc_blk rfl 40 rfl _ ziPurse6 ?_)
  intro w2 a1 a2 a3
  rw [A2.out] at a1 a2 a3 ⊢
  have G1 : Hid (Blk w2 w.heap.size (pcs I seed z y n m s) 40) := A1.out.below a3 (by omega)
  have G2 : Hid (Blk w2 (w.heap.size + 1) pcs0 40) := a1
  have GB : Hid (Below w.heap.size w w2) := A3.out.trans (a3.mono (by omega))
  have cm := (G1.out.cell 51).trans (pcs_m I seed z y n m s HI.out HS.out)
  have cs := (G1.out.cell 52).trans (pcs_s I seed z y n m s HI.out HS.out)
  clear a1 a2 a3 A1 A2 A3
  go_wp2_with (first | (refine wpList_load_mid rfl 38 _ rfl w.heap.size 0 rfl (tcs I seed z y) dT (pcs_range G1.out) HUT.out HDT.out HT.out ?_) | (refine wpList_buildTo rfl 40 _ rfl (some 11) rfl (pcs I seed z y m m s).toArray (by simp only [List.map_toArray, List.map_cons, List.map_nil]; exact HB2.out) ?_) | (refine wpList_store_blk rfl 40 _ _ rfl (w.heap.size + 1) (pcs I seed z y m m s) pcs0 40 rfl rfl G2.out H51.out HL.out (pcs_one _ _ _ _ _ _ _) ?_))
  refine bodyPost_ret (v := .agg (pcs I seed z y m m s).toArray) ?_ rfl ?_
  · exact ret_blkUL rfl _ _ (w.heap.size + 1) 40 _ rfl G2.out.setRow d51 HU.out HD.out H51.out
  · exact ⟨rfl, below_setRow' GB.out (by omega) _⟩

end Go.Proofs.YtllncnnigjgadaaGreat
