/-
  Package purse: Left and reserve, for every purse that may be.
-/
import Derived.Test.YtllncnnigjgadaaGreatPB
import Derived.Test.YtllncnnigjgadaaGreatPC
import Derived.Test.YtllncnnigjgadaaGreatDDx
import Derived.Test.YtllncnnigjgadaaGreatLAx
import Derived.Test.YtllncnnigjgadaaGreatOBx
import Derived.Test.YtllncnnigjgadaaGreatPAx
import Derived.Test.YtllncnnigjgadaaGreatPBx
import Derived.Test.YtllncnnigjgadaaGreatSXx
namespace Go.Proofs.YtllncnnigjgadaaGreat
open Go.RowKit

set_option maxRecDepth 100000 in
set_option maxHeartbeats 1000000 in
theorem reserveP_old (I seed : List UInt8) (k h n m s : Nat) (w : World) (hI : I.length = 16) (hs : seed.length = 32) (hf : PFit k h n m s) (hx : n < m) : Calls Tryz.prog 43 #[.agg (pcs I seed (k : Int) (h : Int) (n : Int) (m : Int) (s : Int)).toArray] w (TwoD (.agg (pcs I seed (k : Int) (h : Int) (n : Int) (m : Int) (s : Int)).toArray) (.bool false) w) := by
  have HN := Lib.hid (pcs_n I seed (k : Int) (h : Int) (n : Int) (m : Int) (s : Int) hI hs)
  have HM := Lib.hid (pcs_m I seed (k : Int) (h : Int) (n : Int) (m : Int) (s : Int) hI hs)
  have HST := Lib.hid (pcs_s I seed (k : Int) (h : Int) (n : Int) (m : Int) (s : Int) hI hs)
  have HI := Lib.hid hI
  have HS := Lib.hid hs
  have HF := Lib.hid hf
  have HT := Lib.hid (sTree' I seed (k : Int) (h : Int) hI hs)
  obtain ⟨dT, huT, hdT⟩ := rowTree
  have HU := Lib.hid huT
  have HD := Lib.hid hdT
  have HPS := Lib.hid (sPurse' I seed (k : Int) (h : Int) (n : Int) (m : Int) (s : Int) hI hs)
  obtain ⟨dP, huP, hdP⟩ := rowPurse
  have HUP := Lib.hid huP
  have HDP := Lib.hid hdP
  obtain ⟨L, hL⟩ : ∃ L, 2 ^ h = L := ⟨_, rfl⟩
  have HL := Lib.hid hL
  have hL2 : L ≤ 32 := by rw [← hL]; exact hf.ht.pow.2
  have hmL : m ≤ L := by rw [← hL]; exact hf.mh
  have hnm := hf.nm
  have hs8 := hf.s8
  have HLZ : Hid (pcs0.length = (pcs I seed (k : Int) (h : Int) (n : Int) (m : Int) (s : Int)).length) := by show _ = _; rw [pcs_length I seed _ _ _ _ _ hI hs]; rfl
  have d1 : decide (n < m) = true := decide_eq_true hx
  clear hI hs huT hdT huP hdP hf hL hL2 hmL hnm hs8 hx
  go_enter Tryz.func43, Tryz.ntmps43
  go_wp2_with (refine wpList_box_blk rfl 34 _ rfl (pcs I seed (k : Int) (h : Int) (n : Int) (m : Int) (s : Int)) rfl ?_)
  intro w1 a1 a2 a3
  have A1 := Lib.hid a1
  have A2 := Lib.hid a2
  have A3 := Lib.hid a3
  clear a1 a2 a3
  go_wp2_with (refine wpList_alloc_blk rfl 34 rfl _ ziPurse ?_)
  intro w2 a1 a2 a3
  rw [A2.out] at a1 a2 a3 ⊢
  obtain ⟨g0, hg0⟩ : ∃ g, w.heap.size = g := ⟨_, rfl⟩
  have G1 : Hid (Blk w2 g0 (pcs I seed (k : Int) (h : Int) (n : Int) (m : Int) (s : Int)) 34) := by show Blk _ _ _ _; rw [← hg0]; exact A1.out.below a3 (by omega)
  have G2 : Hid (Blk w2 (g0 + 1) pcs0 34) := by show Blk _ _ _ _; rw [← hg0]; exact a1
  have GB : Hid (Below g0 w w2) := by show Below _ _ _; rw [← hg0]; exact A3.out.trans (a3.mono (by omega))
  rw [hg0]
  have HG := Lib.hid hg0
  have cn := (G1.out.cell 50).trans HN.out
  have cm := (G1.out.cell 51).trans HM.out
  clear a1 a2 a3 A1 A2 A3 hg0
  go_wp2_with (first | (refine wpList_load_blkU rfl 34 _ rfl g0 rfl (pcs I seed (k : Int) (h : Int) (n : Int) (m : Int) (s : Int)) 34 G1.out dP HUP.out HDP.out HPS.out ?_) | (refine wpList_store_blk rfl 34 _ _ rfl (g0 + 1) (pcs I seed (k : Int) (h : Int) (n : Int) (m : Int) (s : Int)) pcs0 34 rfl rfl G2.out HPS.out HLZ.out (pcs_one _ _ _ _ _ _ _) ?_))
  refine bodyPost_ret (v := .tuple #[.agg (pcs I seed (k : Int) (h : Int) (n : Int) (m : Int) (s : Int)).toArray, .bool false]) ?_ rfl ?_
  · exact ret_blk2U rfl _ _ (g0 + 1) 34 (pcs I seed (k : Int) (h : Int) (n : Int) (m : Int) (s : Int)) _ rfl rfl G2.out.setRow dP HUP.out HDP.out HPS.out
  · exact ⟨rfl, below_setRow' (by rw [HG.out]; exact GB.out) (by have := HG.out; omega) _⟩

end Go.Proofs.YtllncnnigjgadaaGreat
