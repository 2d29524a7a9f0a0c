/-
  The document's purse: Sign, for every purse that is right and every text.
-/
import Derived.Test.YtllncnnigjgadaaGreatW1
import Derived.Test.YtllncnnigjgadaaGreatSG
import Derived.Test.YtllncnnigjgadaaGreatDDx
import Derived.Test.YtllncnnigjgadaaGreatLAx
import Derived.Test.YtllncnnigjgadaaGreatOBx
import Derived.Test.YtllncnnigjgadaaGreatPAx
import Derived.Test.YtllncnnigjgadaaGreatPBx
import Derived.Test.YtllncnnigjgadaaGreatPCx
import Derived.Test.YtllncnnigjgadaaGreatPDx
import Derived.Test.YtllncnnigjgadaaGreatPGx
import Derived.Test.YtllncnnigjgadaaGreatRBx
import Derived.Test.YtllncnnigjgadaaGreatSXx
namespace Go.Proofs.YtllncnnigjgadaaGreat
open Go.RowKit

set_option maxRecDepth 100000 in
set_option maxHeartbeats 1000000 in
theorem rf6Sign_spent (I seed : List UInt8) (k h n m s : Nat) (tv : Value) (w : World) (hI : I.length = 16) (hs : seed.length = 32) (hf : PFit k h n m s) (hx : n = 2 ^ h) : Calls Tryz.prog 19 #[.agg (pcs I seed (k : Int) (h : Int) (n : Int) (m : Int) (s : Int)).toArray, tv] w (fun e w' => e = .returned (.tuple #[.agg (pcs I seed (k : Int) (h : Int) (n : Int) (m : Int) (s : Int)).toArray, .slice none 0 0, .bool false, .int .i64 12]) ∧ Below w.heap.size w w') := by
  have HI := Lib.hid hI
  have HS := Lib.hid hs
  have HF := Lib.hid hf
  have HPS := Lib.hid (sPurse6' I seed (k : Int) (h : Int) (n : Int) (m : Int) (s : Int) hI hs)
  have HLZ : Hid (pcs0.length = (pcs I seed (k : Int) (h : Int) (n : Int) (m : Int) (s : Int)).length) := by show _ = _; rw [pcs_length I seed _ _ _ _ _ hI hs]; rfl
  obtain ⟨dP, huP, hdP⟩ := rowPurse6
  have HUP := Lib.hid huP
  have HDP := Lib.hid hdP
  have HT := Lib.hid (sTree5' I seed (k : Int) (h : Int) hI hs)
  obtain ⟨dT, huT, hdT⟩ := rowTree5
  have HU := Lib.hid huT
  have HD := Lib.hid hdT
  have HCN := Lib.hid (pcs_n I seed (k : Int) (h : Int) (n : Int) (m : Int) (s : Int) hI hs)
  have HCM := Lib.hid (pcs_m I seed (k : Int) (h : Int) (n : Int) (m : Int) (s : Int) hI hs)
  have HCS := Lib.hid (pcs_s I seed (k : Int) (h : Int) (n : Int) (m : Int) (s : Int) hI hs)
  obtain ⟨L, hL⟩ : ∃ L, 2 ^ h = L := ⟨_, rfl⟩
  have hL2 : L ≤ 32 := by rw [← hL]; exact hf.ht.pow.2
  have hmL : m ≤ L := by rw [← hL]; exact hf.mh
  have hnm := hf.nm
  have hs1 := hf.s1
  have hs8 := hf.s8
  have HLE := Lib.hid hL
  rw [hL] at hx
  have dL : decide ((L : Int) ≤ (n : Int)) = true := decide_eq_true (by omega)
  have dL2 : decide (L ≤ n) = true := decide_eq_true (by omega)
  have dL3 : L ≤ n := by omega
  clear hI hs hf huP hdP huT hdT hL hx
  go_enter Tryz.func19, Tryz.ntmps19
  go_wp2_with (refine wpList_box_blk rfl 40 _ rfl (pcs I seed (k : Int) (h : Int) (n : Int) (m : Int) (s : Int)) rfl ?_)
  intro w1 a1 a2 a3
  have A1 := Lib.hid a1
  have A2 := Lib.hid a2
  have A3 := Lib.hid a3
  clear a1 a2 a3
  go_wp2_with (refine wpList_alloc_blk rfl 40 rfl _ ziPurse6 ?_)
  intro w2 a1 a2 a3
  rw [A2.out] at a1 a2 a3 ⊢
  obtain ⟨g0, hg0⟩ : ∃ g, w.heap.size = g := ⟨_, rfl⟩
  have G0 : Hid (Blk w2 g0 (pcs I seed (k : Int) (h : Int) (n : Int) (m : Int) (s : Int)) 40) := by show Blk _ _ _ _; rw [← hg0]; exact A1.out.below a3 (by omega)
  have G1 : Hid (Blk w2 (g0 + 1) pcs0 40) := by show Blk _ _ _ _; rw [← hg0]; exact a1
  have GB : Hid (Below g0 w w2) := by show Below _ _ _; rw [← hg0]; exact A3.out.trans (a3.mono (by omega))
  rw [hg0]
  have HG := Lib.hid hg0
  have HLT : Hid (g0 ≤ w2.heap.size) := by show _ ≤ _; omega
  clear a1 a2 a3 A1 A2 A3 hg0
  go_wp2_with (refine wpList_load_mid rfl 38 _ rfl g0 0 rfl (tcs I seed (k : Int) (h : Int)) dT (pcs_range G0.out) HU.out HD.out HT.out ?_)
  refine (rf6Leaves_yes I seed k h _ HI.out HS.out HF.out.wd HF.out.ht).mono ?_
  rintro e w3 ⟨rfl, hb⟩
  rw [HLE.out]
  have J0 : Hid (Blk w3 g0 (pcs I seed (k : Int) (h : Int) (n : Int) (m : Int) (s : Int)) 40) := G0.out.below hb G0.out.lt
  have J1 : Hid (Blk w3 (g0 + 1) pcs0 40) := G1.out.below hb G1.out.lt
  have JB : Hid (Below g0 w w3) := GB.out.trans (hb.mono HLT.out)
  clear hb G0 G1 GB HLT
  have cn := (J0.out.cell 50).trans HCN.out
  go_wp2_with (first | (refine wpList_load_blkU rfl 40 _ rfl g0 rfl (pcs I seed (k : Int) (h : Int) (n : Int) (m : Int) (s : Int)) 40 J0.out dP HUP.out HDP.out HPS.out ?_) | (refine wpList_store_blk rfl 40 _ _ rfl (g0 + 1) (pcs I seed (k : Int) (h : Int) (n : Int) (m : Int) (s : Int)) pcs0 40 rfl rfl J1.out HPS.out HLZ.out (pcs_one _ _ _ _ _ _ _) ?_))
  refine bodyPost_ret (v := .tuple #[.agg (pcs I seed (k : Int) (h : Int) (n : Int) (m : Int) (s : Int)).toArray, .slice none 0 0, .bool false, .int .i64 12]) ?_ rfl ?_
  · exact ret_blk4U rfl _ _ (g0 + 1) 40 (pcs I seed (k : Int) (h : Int) (n : Int) (m : Int) (s : Int)) _ _ _ rfl rfl rfl rfl J1.out.setRow dP HUP.out HDP.out HPS.out
  · exact ⟨rfl, below_setRow' (by rw [HG.out]; exact JB.out) (by have := HG.out; omega) _⟩

set_option maxRecDepth 100000 in
set_option maxHeartbeats 1000000 in
theorem rf6Sign_old (I seed text : List UInt8) (k h n m s : Nat) (tv : Value) (w : World) (hI : I.length = 16) (hs : seed.length = 32) (hf : PFit k h n m s) (hx : n < 2 ^ h) (ht : Rd w.heap.size w tv text) (hl : text.length ≤ 90000) (hm : n < m) : Calls Tryz.prog 19 #[.agg (pcs I seed (k : Int) (h : Int) (n : Int) (m : Int) (s : Int)).toArray, tv] w (fun e w' => ∃ v, e = .returned (.tuple #[.agg (pcs I seed (k : Int) (h : Int) ((n + 1 : Nat) : Int) ((m : Nat) : Int) (s : Int)).toArray, v, .bool false, .int .i64 0]) ∧ Own 5 w' w.heap.size v (lsig I seed text k h n) ∧ Below w.heap.size w w') := by
  have HI := Lib.hid hI
  have HS := Lib.hid hs
  have HF := Lib.hid hf
  have HPS := Lib.hid (sPurse6' I seed (k : Int) (h : Int) (n : Int) (m : Int) (s : Int) hI hs)
  have HLZ : Hid (pcs0.length = (pcs I seed (k : Int) (h : Int) (n : Int) (m : Int) (s : Int)).length) := by show _ = _; rw [pcs_length I seed _ _ _ _ _ hI hs]; rfl
  obtain ⟨dP, huP, hdP⟩ := rowPurse6
  have HUP := Lib.hid huP
  have HDP := Lib.hid hdP
  have HT := Lib.hid (sTree5' I seed (k : Int) (h : Int) hI hs)
  obtain ⟨dT, huT, hdT⟩ := rowTree5
  have HU := Lib.hid huT
  have HD := Lib.hid hdT
  have HCN := Lib.hid (pcs_n I seed (k : Int) (h : Int) (n : Int) (m : Int) (s : Int) hI hs)
  have HCM := Lib.hid (pcs_m I seed (k : Int) (h : Int) (n : Int) (m : Int) (s : Int) hI hs)
  have HCS := Lib.hid (pcs_s I seed (k : Int) (h : Int) (n : Int) (m : Int) (s : Int) hI hs)
  obtain ⟨L, hL⟩ : ∃ L, 2 ^ h = L := ⟨_, rfl⟩
  have hL2 : L ≤ 32 := by rw [← hL]; exact hf.ht.pow.2
  have hmL : m ≤ L := by rw [← hL]; exact hf.mh
  have hnm := hf.nm
  have hs1 := hf.s1
  have hs8 := hf.s8
  have HLE := Lib.hid hL
  have HX := Lib.hid hx
  have HTX := Lib.hid ht
  have HTL := Lib.hid hl
  obtain ⟨N1, hN1⟩ : ∃ N, n + 1 = N := ⟨_, rfl⟩
  have ZN : Hid ((n : Int) + 1 = (N1 : Int)) := by show _ = _; omega
  rw [hL] at hx
  rw [hN1]
  have HQ1 := Lib.hid (sPurse6' I seed (k : Int) (h : Int) (N1 : Int) (m : Int) (s : Int) hI hs)
  have HQZ : Hid (pcs0.length = (pcs I seed (k : Int) (h : Int) (N1 : Int) (m : Int) (s : Int)).length) := by show _ = _; rw [pcs_length I seed _ _ _ _ _ hI hs]; rfl
  have HQF := Lib.hid (sPurse6' I seed (k : Int) (h : Int) (N1 : Int) (m : Int) (s : Int) hI hs)
  have HQFZ : Hid (pcs0.length = (pcs I seed (k : Int) (h : Int) (N1 : Int) (m : Int) (s : Int)).length) := by show _ = _; rw [pcs_length I seed _ _ _ _ _ hI hs]; rfl
  have HBU := Lib.hid (builtR I seed (k : Int) (h : Int) (N1 : Int) (m : Int) (s : Int) hI hs)
  have HC1 := Lib.hid (pcs_m I seed (k : Int) (h : Int) (N1 : Int) (m : Int) (s : Int) hI hs)
  have HSET := Lib.hid (pcs_setm I seed (k : Int) (h : Int) (N1 : Int) (m : Int) (s : Int) (m : Int) hI hs)
  have dL : decide ((L : Int) ≤ (n : Int)) = false := decide_eq_false (by omega)
  have dL2 : decide (L ≤ n) = false := decide_eq_false (by omega)
  have dL3 : ¬ L ≤ n := by omega
  have zw : IntKind.i64.wrap ((n : Int) + 1) = (N1 : Int) := by rw [ZN.out]; exact wrap_i64 _ (by omega) (by omega)
  have dM : decide ((m : Int) ≤ (n : Int)) = false := decide_eq_false (by omega)
  have dM2 : decide (m ≤ n) = false := decide_eq_false (by omega)
  clear hI hs hf huP hdP huT hdT hL hx ht hl hN1
  go_enter Tryz.func19, Tryz.ntmps19
  go_wp2_with (refine wpList_box_blk rfl 40 _ rfl (pcs I seed (k : Int) (h : Int) (n : Int) (m : Int) (s : Int)) rfl ?_)
  intro w1 a1 a2 a3
  have A1 := Lib.hid a1
  have A2 := Lib.hid a2
  have A3 := Lib.hid a3
  clear a1 a2 a3
  go_wp2_with (refine wpList_alloc_blk rfl 40 rfl _ ziPurse6 ?_)
  intro w2 a1 a2 a3
  rw [A2.out] at a1 a2 a3 ⊢
  obtain ⟨g0, hg0⟩ : ∃ g, w.heap.size = g := ⟨_, rfl⟩
  have G0 : Hid (Blk w2 g0 (pcs I seed (k : Int) (h : Int) (n : Int) (m : Int) (s : Int)) 40) := by show Blk _ _ _ _; rw [← hg0]; exact A1.out.below a3 (by omega)
  have G1 : Hid (Blk w2 (g0 + 1) pcs0 40) := by show Blk _ _ _ _; rw [← hg0]; exact a1
  have GB : Hid (Below g0 w w2) := by show Below _ _ _; rw [← hg0]; exact A3.out.trans (a3.mono (by omega))
  rw [hg0]
  have HG := Lib.hid hg0
  have HLT : Hid (g0 ≤ w2.heap.size) := by show _ ≤ _; omega
  clear a1 a2 a3 A1 A2 A3 hg0
  go_wp2_with (refine wpList_load_mid rfl 38 _ rfl g0 0 rfl (tcs I seed (k : Int) (h : Int)) dT (pcs_range G0.out) HU.out HD.out HT.out ?_)
  refine (rf6Leaves_yes I seed k h _ HI.out HS.out HF.out.wd HF.out.ht).mono ?_
  rintro e w3 ⟨rfl, hb⟩
  rw [HLE.out]
  have J0 : Hid (Blk w3 g0 (pcs I seed (k : Int) (h : Int) (n : Int) (m : Int) (s : Int)) 40) := G0.out.below hb G0.out.lt
  have J1 : Hid (Blk w3 (g0 + 1) pcs0 40) := G1.out.below hb G1.out.lt
  have JB : Hid (Below g0 w w3) := GB.out.trans (hb.mono HLT.out)
  clear hb G0 G1 GB HLT
  have cn := (J0.out.cell 50).trans HCN.out
  have cm := (J0.out.cell 51).trans HCM.out
  have cs_ := (J0.out.cell 52).trans HCS.out
  go_wp2_with (first | (refine wpList_load_mid rfl 38 _ rfl g0 0 rfl (tcs I seed (k : Int) (h : Int)) dT (pcs_range J0.out) HU.out HD.out HT.out ?_) | (refine wpList_buildTo rfl 40 _ rfl (some 30) rfl (pcs I seed (k : Int) (h : Int) (N1 : Int) (m : Int) (s : Int)).toArray (by simp only [List.map_toArray, List.map_cons, List.map_nil]; exact HBU.out) ?_) | (refine wpList_alloc_blk rfl 40 rfl _ ziPurse6 ?_))
  intro w4 a1 a2 a3
  obtain ⟨g2, hg2⟩ : ∃ g, w3.heap.size = g := ⟨_, rfl⟩
  have hg12 : g0 + 1 < g2 := by have := J1.out.lt; omega
  rw [hg2] at a1 a2 a3 ⊢
  have A1 := Lib.hid a1
  obtain ⟨t5, ht5⟩ : ∃ t, w4.setRow g2 (pcs I seed (k : Int) (h : Int) (N1 : Int) (m : Int) (s : Int)).toArray = t := ⟨_, rfl⟩
  have K0 : Hid (Blk t5 g0 (pcs I seed (k : Int) (h : Int) (n : Int) (m : Int) (s : Int)) 40) := by show Blk _ _ _ _; rw [← ht5]; exact (J0.out.below a3 (by omega)).setRowOther (by omega)
  have K1 : Hid (Blk t5 (g0 + 1) pcs0 40) := by show Blk _ _ _ _; rw [← ht5]; exact (J1.out.below a3 (by omega)).setRowOther (by omega)
  have K2 : Hid (Blk t5 g2 (pcs I seed (k : Int) (h : Int) (N1 : Int) (m : Int) (s : Int)) 40) := by show Blk _ _ _ _; rw [← ht5]; exact a1.setRow
  have KB : Hid (Below g0 w t5) := by show Below _ _ _; rw [← ht5]; exact below_setRow' (JB.out.trans (a3.mono (by omega))) (by omega) _
  have HT5 := Lib.hid ht5
  have HG12 := Lib.hid hg12
  clear a1 a2 a3 J0 J1 JB ht5 hg2 hg12 cn cm cs_
  have cn := (K0.out.cell 50).trans HCN.out
  have cm := (K0.out.cell 51).trans HCM.out
  have cs_ := (K0.out.cell 52).trans HCS.out
  have R0 := K0
  have R1 := K1
  have R2 := K2
  have RB := KB
  obtain ⟨t6, ht6⟩ : ∃ t, t5 = t := ⟨_, rfl⟩
  subst ht6
  have cnR := (R0.out.cell 50).trans HCN.out
  have KT : Hid (Rd t5.heap.size t5 tv text) := (HTX.out.below (by rw [HG.out]; exact RB.out)).more (by rw [HG.out]; have := R0.out.lt; omega)
  go_wp2_with (first | (refine wpList_store_blk rfl 40 _ _ rfl g2 (pcs I seed (k : Int) (h : Int) (N1 : Int) (m : Int) (s : Int)) pcs0 40 rfl rfl A1.out HQ1.out HQZ.out (pcs_one _ _ _ _ _ _ _) ?_; rw [HT5.out]; clear HT5) | (refine wpList_load_mid rfl 38 _ rfl g0 0 rfl (tcs I seed (k : Int) (h : Int)) dT (pcs_range R0.out) HU.out HD.out HT.out ?_))
  refine (rfSignT_yes I seed text k h n _ _ HI.out HS.out HF.out.wd HF.out.ht HX.out KT.out HTL.out).mono ?_
  rintro e w8 ⟨v8, rfl, hown, hb⟩
  have M1 : Hid (Blk w8 (g0 + 1) pcs0 40) := R1.out.below hb R1.out.lt
  have M2 : Hid (Blk w8 g2 (pcs I seed (k : Int) (h : Int) (N1 : Int) (m : Int) (s : Int)) 40) := R2.out.below hb R2.out.lt
  have MB : Hid (Below g0 w w8) := RB.out.trans (hb.mono (by have := R0.out.lt; omega))
  have MO : Hid (Own 5 w8 (g2 + 1) v8 (lsig I seed text k h n)) := hown.base (by have := R2.out.lt; omega)
  clear hb hown K0 K1 K2 KB KT A1 R0 R1 R2 RB cn cm cs_ cnR 
  go_wp2_with (first | (refine wpList_load_blkU rfl 40 _ rfl g2 rfl (pcs I seed (k : Int) (h : Int) (N1 : Int) (m : Int) (s : Int)) 40 M2.out dP HUP.out HDP.out HQF.out ?_) | (refine wpList_store_blk rfl 40 _ _ rfl (g0 + 1) (pcs I seed (k : Int) (h : Int) (N1 : Int) (m : Int) (s : Int)) pcs0 40 rfl rfl M1.out HQF.out HQFZ.out (pcs_one _ _ _ _ _ _ _) ?_))
  refine bodyPost_ret (v := .tuple #[.agg (pcs I seed (k : Int) (h : Int) (N1 : Int) (m : Int) (s : Int)).toArray, v8, .bool false, .int .i64 0]) ?_ rfl ?_
  · exact ret_blk4U rfl _ _ (g0 + 1) 40 (pcs I seed (k : Int) (h : Int) (N1 : Int) (m : Int) (s : Int)) _ _ _ rfl rfl rfl rfl M1.out.setRow dP HUP.out HDP.out HQF.out
  · refine ⟨_, rfl, ?_, below_setRow' (by rw [HG.out]; exact MB.out) (by have := HG.out; omega) _⟩
    exact (MO.out.but ((But.refl (g0 + 1) w8).setRow _) (by have := HG12.out; omega)).base (by have := HG12.out; rw [HG.out]; omega)

set_option maxRecDepth 100000 in
set_option maxHeartbeats 1000000 in
theorem rf6Sign_new (I seed text : List UInt8) (k h n m s : Nat) (tv : Value) (w : World) (hI : I.length = 16) (hs : seed.length = 32) (hf : PFit k h n m s) (hx : n < 2 ^ h) (ht : Rd w.heap.size w tv text) (hl : text.length ≤ 90000) (hm : m ≤ n) : Calls Tryz.prog 19 #[.agg (pcs I seed (k : Int) (h : Int) (n : Int) (m : Int) (s : Int)).toArray, tv] w (fun e w' => ∃ v, e = .returned (.tuple #[.agg (pcs I seed (k : Int) (h : Int) ((n + 1 : Nat) : Int) ((min (m + s) (2 ^ h) : Nat) : Int) (s : Int)).toArray, v, .bool true, .int .i64 0]) ∧ Own 5 w' w.heap.size v (lsig I seed text k h n) ∧ Below w.heap.size w w') := by
  have HI := Lib.hid hI
  have HS := Lib.hid hs
  have HF := Lib.hid hf
  have HPS := Lib.hid (sPurse6' I seed (k : Int) (h : Int) (n : Int) (m : Int) (s : Int) hI hs)
  have HLZ : Hid (pcs0.length = (pcs I seed (k : Int) (h : Int) (n : Int) (m : Int) (s : Int)).length) := by show _ = _; rw [pcs_length I seed _ _ _ _ _ hI hs]; rfl
  obtain ⟨dP, huP, hdP⟩ := rowPurse6
  have HUP := Lib.hid huP
  have HDP := Lib.hid hdP
  have HT := Lib.hid (sTree5' I seed (k : Int) (h : Int) hI hs)
  obtain ⟨dT, huT, hdT⟩ := rowTree5
  have HU := Lib.hid huT
  have HD := Lib.hid hdT
  have HCN := Lib.hid (pcs_n I seed (k : Int) (h : Int) (n : Int) (m : Int) (s : Int) hI hs)
  have HCM := Lib.hid (pcs_m I seed (k : Int) (h : Int) (n : Int) (m : Int) (s : Int) hI hs)
  have HCS := Lib.hid (pcs_s I seed (k : Int) (h : Int) (n : Int) (m : Int) (s : Int) hI hs)
  obtain ⟨L, hL⟩ : ∃ L, 2 ^ h = L := ⟨_, rfl⟩
  have hL2 : L ≤ 32 := by rw [← hL]; exact hf.ht.pow.2
  have hmL : m ≤ L := by rw [← hL]; exact hf.mh
  have hnm := hf.nm
  have hs1 := hf.s1
  have hs8 := hf.s8
  have HLE := Lib.hid hL
  have HX := Lib.hid hx
  have HTX := Lib.hid ht
  have HTL := Lib.hid hl
  obtain ⟨N1, hN1⟩ : ∃ N, n + 1 = N := ⟨_, rfl⟩
  have ZN : Hid ((n : Int) + 1 = (N1 : Int)) := by show _ = _; omega
  rw [hL] at hx ⊢
  rw [hN1]
  obtain ⟨S1, hS1⟩ : ∃ x, m + s = x := ⟨_, rfl⟩
  rw [hS1]
  obtain ⟨M, hM⟩ : ∃ x, min S1 L = x := ⟨_, rfl⟩
  rw [hM]
  have zw2 : IntKind.i64.wrap ((m : Int) + (s : Int)) = (S1 : Int) := by rw [show (m : Int) + (s : Int) = (S1 : Int) by omega]; exact wrap_i64 _ (by omega) (by omega)
  have ZS : Hid ((m : Int) + (s : Int) = (S1 : Int)) := by show _ = _; omega
  have zm : min (L : Int) (S1 : Int) = (M : Int) := by omega
  have hS1b : S1 ≤ 40 := by omega
  have HQ1 := Lib.hid (sPurse6' I seed (k : Int) (h : Int) (N1 : Int) (m : Int) (s : Int) hI hs)
  have HQZ : Hid (pcs0.length = (pcs I seed (k : Int) (h : Int) (N1 : Int) (m : Int) (s : Int)).length) := by show _ = _; rw [pcs_length I seed _ _ _ _ _ hI hs]; rfl
  have HQF := Lib.hid (sPurse6' I seed (k : Int) (h : Int) (N1 : Int) (M : Int) (s : Int) hI hs)
  have HQFZ : Hid (pcs0.length = (pcs I seed (k : Int) (h : Int) (N1 : Int) (M : Int) (s : Int)).length) := by show _ = _; rw [pcs_length I seed _ _ _ _ _ hI hs]; rfl
  have HBU := Lib.hid (builtR I seed (k : Int) (h : Int) (N1 : Int) (m : Int) (s : Int) hI hs)
  have HC1 := Lib.hid (pcs_m I seed (k : Int) (h : Int) (N1 : Int) (m : Int) (s : Int) hI hs)
  have HSET := Lib.hid (pcs_setm I seed (k : Int) (h : Int) (N1 : Int) (m : Int) (s : Int) (M : Int) hI hs)
  have dL : decide ((L : Int) ≤ (n : Int)) = false := decide_eq_false (by omega)
  have dL2 : decide (L ≤ n) = false := decide_eq_false (by omega)
  have dL3 : ¬ L ≤ n := by omega
  have zw : IntKind.i64.wrap ((n : Int) + 1) = (N1 : Int) := by rw [ZN.out]; exact wrap_i64 _ (by omega) (by omega)
  have dM : decide ((m : Int) ≤ (n : Int)) = true := decide_eq_true (by omega)
  have dM2 : decide (m ≤ n) = true := decide_eq_true (by omega)
  clear hI hs hf huP hdP huT hdT hL hx ht hl hN1 hS1 hM
  go_enter Tryz.func19, Tryz.ntmps19
  go_wp2_with (refine wpList_box_blk rfl 40 _ rfl (pcs I seed (k : Int) (h : Int) (n : Int) (m : Int) (s : Int)) rfl ?_)
  intro w1 a1 a2 a3
  have A1 := Lib.hid a1
  have A2 := Lib.hid a2
  have A3 := Lib.hid a3
  clear a1 a2 a3
  go_wp2_with (refine wpList_alloc_blk rfl 40 rfl _ ziPurse6 ?_)
  intro w2 a1 a2 a3
  rw [A2.out] at a1 a2 a3 ⊢
  obtain ⟨g0, hg0⟩ : ∃ g, w.heap.size = g := ⟨_, rfl⟩
  have G0 : Hid (Blk w2 g0 (pcs I seed (k : Int) (h : Int) (n : Int) (m : Int) (s : Int)) 40) := by show Blk _ _ _ _; rw [← hg0]; exact A1.out.below a3 (by omega)
  have G1 : Hid (Blk w2 (g0 + 1) pcs0 40) := by show Blk _ _ _ _; rw [← hg0]; exact a1
  have GB : Hid (Below g0 w w2) := by show Below _ _ _; rw [← hg0]; exact A3.out.trans (a3.mono (by omega))
  rw [hg0]
  have HG := Lib.hid hg0
  have HLT : Hid (g0 ≤ w2.heap.size) := by show _ ≤ _; omega
  clear a1 a2 a3 A1 A2 A3 hg0
  go_wp2_with (refine wpList_load_mid rfl 38 _ rfl g0 0 rfl (tcs I seed (k : Int) (h : Int)) dT (pcs_range G0.out) HU.out HD.out HT.out ?_)
  refine (rf6Leaves_yes I seed k h _ HI.out HS.out HF.out.wd HF.out.ht).mono ?_
  rintro e w3 ⟨rfl, hb⟩
  rw [HLE.out]
  have J0 : Hid (Blk w3 g0 (pcs I seed (k : Int) (h : Int) (n : Int) (m : Int) (s : Int)) 40) := G0.out.below hb G0.out.lt
  have J1 : Hid (Blk w3 (g0 + 1) pcs0 40) := G1.out.below hb G1.out.lt
  have JB : Hid (Below g0 w w3) := GB.out.trans (hb.mono HLT.out)
  clear hb G0 G1 GB HLT
  have cn := (J0.out.cell 50).trans HCN.out
  have cm := (J0.out.cell 51).trans HCM.out
  have cs_ := (J0.out.cell 52).trans HCS.out
  go_wp2_with (first | (refine wpList_load_mid rfl 38 _ rfl g0 0 rfl (tcs I seed (k : Int) (h : Int)) dT (pcs_range J0.out) HU.out HD.out HT.out ?_) | (refine wpList_buildTo rfl 40 _ rfl (some 30) rfl (pcs I seed (k : Int) (h : Int) (N1 : Int) (m : Int) (s : Int)).toArray (by simp only [List.map_toArray, List.map_cons, List.map_nil]; exact HBU.out) ?_) | (refine wpList_alloc_blk rfl 40 rfl _ ziPurse6 ?_))
  intro w4 a1 a2 a3
  obtain ⟨g2, hg2⟩ : ∃ g, w3.heap.size = g := ⟨_, rfl⟩
  have hg12 : g0 + 1 < g2 := by have := J1.out.lt; omega
  rw [hg2] at a1 a2 a3 ⊢
  have A1 := Lib.hid a1
  obtain ⟨t5, ht5⟩ : ∃ t, w4.setRow g2 (pcs I seed (k : Int) (h : Int) (N1 : Int) (m : Int) (s : Int)).toArray = t := ⟨_, rfl⟩
  have K0 : Hid (Blk t5 g0 (pcs I seed (k : Int) (h : Int) (n : Int) (m : Int) (s : Int)) 40) := by show Blk _ _ _ _; rw [← ht5]; exact (J0.out.below a3 (by omega)).setRowOther (by omega)
  have K1 : Hid (Blk t5 (g0 + 1) pcs0 40) := by show Blk _ _ _ _; rw [← ht5]; exact (J1.out.below a3 (by omega)).setRowOther (by omega)
  have K2 : Hid (Blk t5 g2 (pcs I seed (k : Int) (h : Int) (N1 : Int) (m : Int) (s : Int)) 40) := by show Blk _ _ _ _; rw [← ht5]; exact a1.setRow
  have KB : Hid (Below g0 w t5) := by show Below _ _ _; rw [← ht5]; exact below_setRow' (JB.out.trans (a3.mono (by omega))) (by omega) _
  have HT5 := Lib.hid ht5
  have HG12 := Lib.hid hg12
  clear a1 a2 a3 J0 J1 JB ht5 hg2 hg12 cn cm cs_
  have cn := (K0.out.cell 50).trans HCN.out
  have cm := (K0.out.cell 51).trans HCM.out
  have cs_ := (K0.out.cell 52).trans HCS.out
  have c2 := (K2.out.cell 51).trans HC1.out
  have fz := K2.out.frozen 51
  obtain ⟨t6, ht6⟩ : ∃ t, t5.setCell ⟨g2, 51, none⟩ (.int .i64 (M : Int)) = t := ⟨_, rfl⟩
  have R0 : Hid (Blk t6 g0 (pcs I seed (k : Int) (h : Int) (n : Int) (m : Int) (s : Int)) 40) := by show Blk _ _ _ _; rw [← ht6]; exact K0.out.setOther _ _ (by have := HG12.out; show g0 ≠ g2; omega)
  have R1 : Hid (Blk t6 (g0 + 1) pcs0 40) := by show Blk _ _ _ _; rw [← ht6]; exact K1.out.setOther _ _ (by have := HG12.out; show g0 + 1 ≠ g2; omega)
  have R2 : Hid (Blk t6 g2 (pcs I seed (k : Int) (h : Int) (N1 : Int) (M : Int) (s : Int)) 40) := by show Blk _ _ _ _; rw [← ht6, ← HSET.out]; exact K2.out.set 51 _
  have RB : Hid (Below g0 w t6) := by show Below _ _ _; rw [← ht6]; exact KB.out.setCell (by have := HG12.out; show g0 ≤ g2; omega) _
  have HT6 := Lib.hid ht6
  have cnR := (R0.out.cell 50).trans HCN.out
  clear ht6
  have KT : Hid (Rd t6.heap.size t6 tv text) := (HTX.out.below (by rw [HG.out]; exact RB.out)).more (by rw [HG.out]; have := R0.out.lt; omega)
  go_wp2_with (first | (refine wpList_store_blk rfl 40 _ _ rfl g2 (pcs I seed (k : Int) (h : Int) (N1 : Int) (m : Int) (s : Int)) pcs0 40 rfl rfl A1.out HQ1.out HQZ.out (pcs_one _ _ _ _ _ _ _) ?_; rw [HT5.out]; clear HT5) | (rw [HT6.out]; clear HT6; refine wpList_load_mid rfl 38 _ rfl g0 0 rfl (tcs I seed (k : Int) (h : Int)) dT (pcs_range R0.out) HU.out HD.out HT.out ?_) | (refine wpList_load_mid rfl 38 _ rfl g0 0 rfl (tcs I seed (k : Int) (h : Int)) dT (pcs_range R0.out) HU.out HD.out HT.out ?_))
  refine (rfSignT_yes I seed text k h n _ _ HI.out HS.out HF.out.wd HF.out.ht HX.out KT.out HTL.out).mono ?_
  rintro e w8 ⟨v8, rfl, hown, hb⟩
  have M1 : Hid (Blk w8 (g0 + 1) pcs0 40) := R1.out.below hb R1.out.lt
  have M2 : Hid (Blk w8 g2 (pcs I seed (k : Int) (h : Int) (N1 : Int) (M : Int) (s : Int)) 40) := R2.out.below hb R2.out.lt
  have MB : Hid (Below g0 w w8) := RB.out.trans (hb.mono (by have := R0.out.lt; omega))
  have MO : Hid (Own 5 w8 (g2 + 1) v8 (lsig I seed text k h n)) := hown.base (by have := R2.out.lt; omega)
  clear hb hown K0 K1 K2 KB KT A1 R0 R1 R2 RB cn cm cs_ cnR c2 fz
  go_wp2_with (first | (refine wpList_load_blkU rfl 40 _ rfl g2 rfl (pcs I seed (k : Int) (h : Int) (N1 : Int) (M : Int) (s : Int)) 40 M2.out dP HUP.out HDP.out HQF.out ?_) | (refine wpList_store_blk rfl 40 _ _ rfl (g0 + 1) (pcs I seed (k : Int) (h : Int) (N1 : Int) (M : Int) (s : Int)) pcs0 40 rfl rfl M1.out HQF.out HQFZ.out (pcs_one _ _ _ _ _ _ _) ?_))
  refine bodyPost_ret (v := .tuple #[.agg (pcs I seed (k : Int) (h : Int) (N1 : Int) (M : Int) (s : Int)).toArray, v8, .bool true, .int .i64 0]) ?_ rfl ?_
  · exact ret_blk4U rfl _ _ (g0 + 1) 40 (pcs I seed (k : Int) (h : Int) (N1 : Int) (M : Int) (s : Int)) _ _ _ rfl rfl rfl rfl M1.out.setRow dP HUP.out HDP.out HQF.out
  · refine ⟨_, rfl, ?_, below_setRow' (by rw [HG.out]; exact MB.out) (by have := HG.out; omega) _⟩
    exact (MO.out.but ((But.refl (g0 + 1) w8).setRow _) (by have := HG12.out; omega)).base (by have := HG12.out; rw [HG.out]; omega)

end Go.Proofs.YtllncnnigjgadaaGreat
