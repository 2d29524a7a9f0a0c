/-
  Package purse: New, Sign and Owns, for every input that they are called with.
-/
import Derived.Test.YtllncnnigjgadaaGreatPC
import Derived.Test.YtllncnnigjgadaaGreatLE
import Derived.Laws.ResultCell
import Derived.Test.YtllncnnigjgadaaGreatPD
import Derived.Test.YtllncnnigjgadaaGreatDDx
import Derived.Test.YtllncnnigjgadaaGreatLAx
import Derived.Test.YtllncnnigjgadaaGreatOBx
import Derived.Test.YtllncnnigjgadaaGreatPAx
import Derived.Test.YtllncnnigjgadaaGreatPBx
import Derived.Test.YtllncnnigjgadaaGreatPCx
import Derived.Test.YtllncnnigjgadaaGreatSXx
namespace Go.Proofs.YtllncnnigjgadaaGreat
open Go.RowKit

theorem pcs0_one : pcs0.toArray.all (·.oneCell') = true := pcs_one _ _ _ _ _ _ _
theorem sPurse0 : (Tryz.prog.info? 34).map (·.size) = some pcs0.length := sPurse' K16 K32 0 0 0 0 0 rfl rfl

set_option maxRecDepth 100000 in
set_option maxHeartbeats 1000000 in
theorem newP_no (I seed : List UInt8) (z y s : Int) (w : World) (hI : I.length = 16) (hs : seed.length = 32) (hf : NoP z y 0 0 s) : Calls Tryz.prog 13 #[.agg (tcs I seed z y).toArray, .int .i64 s] w (TwoD (.agg (pcs0).toArray) (.int .i64 1) w) := by
  have HI := Lib.hid hI
  have HS := Lib.hid hs
  have HF := Lib.hid hf
  have HT := Lib.hid (sTree' I seed z y hI hs)
  obtain ⟨dT, huT, hdT⟩ := rowTree
  have HU := Lib.hid huT
  have HD := Lib.hid hdT
  have HPS := Lib.hid (sPurse' I seed z y 0 0 s hI hs)
  have HLZ : Hid (pcs0.length = (pcs I seed z y 0 0 s).length) := by show _ = _; rw [pcs_length I seed _ _ _ _ _ hI hs]; rfl
  have HBU := Lib.hid (builtP I seed z y s hI hs)
  obtain ⟨dP, huP, hdP⟩ := rowPurse
  have HUP := Lib.hid huP
  have HDP := Lib.hid hdP
  clear hI hs huT hdT huP hdP hf
  go_enter Tryz.func13, Tryz.ntmps13
  go_wp2_with (refine wpList_box_blk rfl 32 _ rfl (tcs I seed z y) rfl ?_)
  intro w1 a1 a2 a3
  have A1 := Lib.hid a1
  have A2 := Lib.hid a2
  have A3 := Lib.hid a3
  clear a1 a2 a3
  go_wp2_with (refine wpList_alloc_blk rfl 34 rfl _ ziPurse ?_)
  intro w2 a1 a2 a3
  rw [A2.out] at a1 a2 a3 ⊢
  obtain ⟨g0, hg0⟩ : ∃ g, w.heap.size = g := ⟨_, rfl⟩
  have G0 : Hid (Blk w2 g0 (tcs I seed z y) 32) := by show Blk _ _ _ _; rw [← hg0]; exact A1.out.below a3 (by omega)
  have G1 : Hid (Blk w2 (g0 + 1) pcs0 34) := by show Blk _ _ _ _; rw [← hg0]; exact a1
  have GB : Hid (Below g0 w w2) := by show Below _ _ _; rw [← hg0]; exact A3.out.trans (a3.mono (by omega))
  have GS : Hid (w2.heap.size = g0 + 2) := by show _ = _; omega
  rw [hg0]
  have HG := Lib.hid hg0
  clear a1 a2 a3 A1 A2 A3 hg0
  go_wp2_with (first | (refine wpList_load_blkU rfl 32 _ rfl g0 rfl (tcs I seed z y) 32 G0.out dT HU.out HD.out HT.out ?_) | (refine wpList_buildTo rfl 34 _ rfl (some 9) rfl (pcs I seed z y 0 0 s).toArray (by simp only [List.map_toArray, List.map_cons, List.map_nil]; exact HBU.out) ?_) | (refine wpList_alloc_blk rfl 34 rfl _ ziPurse ?_))
  intro w3 a1 a2 a3
  rw [GS.out] at a1 a2 a3 ⊢
  have A1 := Lib.hid a1
  obtain ⟨t4, ht4⟩ : ∃ t, w3.setRow (g0 + 2) (pcs I seed z y 0 0 s).toArray = t := ⟨_, rfl⟩
  have J1 : Hid (Blk t4 (g0 + 1) pcs0 34) := by show Blk _ _ _ _; rw [← ht4]; exact (G1.out.below a3 (by omega)).setRowOther (by omega)
  have J2 : Hid (Blk t4 (g0 + 2) (pcs I seed z y 0 0 s) 34) := by show Blk _ _ _ _; rw [← ht4]; exact a1.setRow
  have JB : Hid (Below g0 w t4) := by show Below _ _ _; rw [← ht4]; exact below_setRow' (GB.out.trans (a3.mono (by omega))) (by omega) _
  have JS : Hid (g0 + 1 < t4.heap.size) := J1.out.lt
  have HT4 := Lib.hid ht4
  clear a1 a2 a3 G0 G1 GB GS ht4
  go_wp2_with (first | (refine wpList_store_blk rfl 34 _ _ rfl (g0 + 2) (pcs I seed z y 0 0 s) pcs0 34 rfl rfl A1.out HPS.out HLZ.out (pcs_one _ _ _ _ _ _ _) ?_; rw [HT4.out]; clear HT4) | (refine wpList_load_blkU rfl 34 _ rfl (g0 + 2) rfl (pcs I seed z y 0 0 s) 34 J2.out dP HUP.out HDP.out HPS.out ?_))
  refine (rightP_no I seed z y 0 0 s _ HI.out HS.out HF.out).mono ?_
  rintro e w5 ⟨rfl, hb⟩
  have K1 : Hid (Blk w5 (g0 + 1) pcs0 34) := J1.out.below hb J1.out.lt
  have K2 : Hid (Blk w5 (g0 + 2) (pcs I seed z y 0 0 s) 34) := J2.out.below hb J2.out.lt
  have KB : Hid (Below g0 w w5) := JB.out.trans (hb.mono (by have := JS.out; omega))
  clear hb A1 J1 J2 JB
  go_wp2_with (first | (refine wpList_buildTo rfl 34 _ rfl (some 13) rfl pcs0.toArray (by kernel_rfl) ?_) | (refine wpList_store_blk rfl 34 _ _ rfl (g0 + 1) pcs0 pcs0 34 rfl rfl K1.out sPurse0 rfl pcs0_one ?_))
  refine bodyPost_ret (v := .tuple #[.agg pcs0.toArray, .int .i64 1]) ?_ rfl ?_
  · exact ret_blk2U rfl _ _ (g0 + 1) 34 pcs0 _ rfl rfl K1.out.setRow dP HUP.out HDP.out sPurse0
  · exact ⟨rfl, below_setRow' (by rw [HG.out]; exact KB.out) (by have := HG.out; omega) _⟩

set_option maxRecDepth 100000 in
set_option maxHeartbeats 1000000 in
theorem signP_spent (I seed : List UInt8) (k h n m s : Nat) (tv : Value) (w : World) (hI : I.length = 16) (hs : seed.length = 32) (hf : PFit k h n m s) (hx : n = 2 ^ h) : Calls Tryz.prog 18 #[.agg (pcs I seed (k : Int) (h : Int) (n : Int) (m : Int) (s : Int)).toArray, tv] w (fun e w' => e = .returned (.tuple #[.agg (pcs I seed (k : Int) (h : Int) (n : Int) (m : Int) (s : Int)).toArray, .slice none 0 0, .bool false, .int .i64 12]) ∧ Below w.heap.size w w') := by
  have HI := Lib.hid hI
  have HS := Lib.hid hs
  have HF := Lib.hid hf
  have HPS := Lib.hid (sPurse' I seed (k : Int) (h : Int) (n : Int) (m : Int) (s : Int) hI hs)
  have HLZ : Hid (pcs0.length = (pcs I seed (k : Int) (h : Int) (n : Int) (m : Int) (s : Int)).length) := by show _ = _; rw [pcs_length I seed _ _ _ _ _ hI hs]; rfl
  obtain ⟨dP, huP, hdP⟩ := rowPurse
  have HUP := Lib.hid huP
  have HDP := Lib.hid hdP
  have HDE : Hid (2 ^ h - n = 0) := by show _ = _; omega
  clear hI hs huP hdP hf hx
  go_enter Tryz.func18, Tryz.ntmps18
  go_wp2_with (refine wpList_box_blk rfl 34 _ rfl (pcs I seed (k : Int) (h : Int) (n : Int) (m : Int) (s : Int)) rfl ?_)
  intro w1 a1 a2 a3
  have A1 := Lib.hid a1
  have A2 := Lib.hid a2
  have A3 := Lib.hid a3
  clear a1 a2 a3
  go_wp2_with (refine wpList_alloc_blk rfl 34 rfl _ ziPurse ?_)
  intro w2 a1 a2 a3
  rw [A2.out] at a1 a2 a3 ⊢
  obtain ⟨g0, hg0⟩ : ∃ g, w.heap.size = g := ⟨_, rfl⟩
  have G0 : Hid (Blk w2 g0 (pcs I seed (k : Int) (h : Int) (n : Int) (m : Int) (s : Int)) 34) := by show Blk _ _ _ _; rw [← hg0]; exact A1.out.below a3 (by omega)
  have G1 : Hid (Blk w2 (g0 + 1) pcs0 34) := by show Blk _ _ _ _; rw [← hg0]; exact a1
  have GB : Hid (Below g0 w w2) := by show Below _ _ _; rw [← hg0]; exact A3.out.trans (a3.mono (by omega))
  rw [hg0]
  have HG := Lib.hid hg0
  have HLT : Hid (g0 ≤ w2.heap.size) := by show _ ≤ _; omega
  clear a1 a2 a3 A1 A2 A3 hg0
  go_wp2_with (refine wpList_load_blkU rfl 34 _ rfl g0 rfl (pcs I seed (k : Int) (h : Int) (n : Int) (m : Int) (s : Int)) 34 G0.out dP HUP.out HDP.out HPS.out ?_)
  refine (rightP_yes I seed k h n m s _ HI.out HS.out HF.out).mono ?_
  rintro e w3 ⟨rfl, hb⟩
  have J0 : Hid (Blk w3 g0 (pcs I seed (k : Int) (h : Int) (n : Int) (m : Int) (s : Int)) 34) := G0.out.below hb G0.out.lt
  have J1 : Hid (Blk w3 (g0 + 1) pcs0 34) := G1.out.below hb G1.out.lt
  have JB : Hid (Below g0 w w3) := GB.out.trans (hb.mono HLT.out)
  have JL : Hid (g0 ≤ w3.heap.size) := by have := J0.out.lt; show _ ≤ _; omega
  clear hb G0 G1 GB HLT
  go_wp2_with (refine wpList_load_blkU rfl 34 _ rfl g0 rfl (pcs I seed (k : Int) (h : Int) (n : Int) (m : Int) (s : Int)) 34 J0.out dP HUP.out HDP.out HPS.out ?_)
  refine (leftP_yes I seed k h n m s _ HI.out HS.out HF.out).mono ?_
  rintro e w4 ⟨rfl, hb⟩
  rw [HDE.out]
  have G0 : Hid (Blk w4 g0 (pcs I seed (k : Int) (h : Int) (n : Int) (m : Int) (s : Int)) 34) := J0.out.below hb J0.out.lt
  have G1 : Hid (Blk w4 (g0 + 1) pcs0 34) := J1.out.below hb J1.out.lt
  have GB : Hid (Below g0 w w4) := JB.out.trans (hb.mono JL.out)
  have GL : Hid (g0 ≤ w4.heap.size) := by have := G0.out.lt; show _ ≤ _; omega
  clear hb J0 J1 JB JL
  go_wp2_with (first | (refine wpList_load_blkU rfl 34 _ rfl g0 rfl (pcs I seed (k : Int) (h : Int) (n : Int) (m : Int) (s : Int)) 34 G0.out dP HUP.out HDP.out HPS.out ?_) | (refine wpList_store_blk rfl 34 _ _ rfl (g0 + 1) (pcs I seed (k : Int) (h : Int) (n : Int) (m : Int) (s : Int)) pcs0 34 rfl rfl G1.out HPS.out HLZ.out (pcs_one _ _ _ _ _ _ _) ?_))
  refine bodyPost_ret (v := .tuple #[.agg (pcs I seed (k : Int) (h : Int) (n : Int) (m : Int) (s : Int)).toArray, .slice none 0 0, .bool false, .int .i64 12]) ?_ rfl ?_
  · exact ret_blk4U rfl _ _ (g0 + 1) 34 (pcs I seed (k : Int) (h : Int) (n : Int) (m : Int) (s : Int)) _ _ _ rfl rfl rfl rfl G1.out.setRow dP HUP.out HDP.out HPS.out
  · exact ⟨rfl, below_setRow' (by rw [HG.out]; exact GB.out) (by have := HG.out; omega) _⟩

end Go.Proofs.YtllncnnigjgadaaGreat
