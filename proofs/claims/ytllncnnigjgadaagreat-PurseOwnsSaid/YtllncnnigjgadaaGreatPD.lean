/-
  Package purse: New, Sign and Owns, for every input that they are called with.
-/
import Derived.Test.YtllncnnigjgadaaGreatPC
import Derived.Test.YtllncnnigjgadaaGreatLE
import Derived.Laws.ResultCell
namespace Go.Proofs.YtllncnnigjgadaaGreat
open Go.RowKit

/-- What a function answers whose first result lies in a variable of its own, three more in slots. -/
theorem ret_blk4U {P : Program} {fn : Func} {p u1 u2 u3 : Tmp} {ty : TypeId} (h : fn.results = #[.cell p ty, .tmp u1, .tmp u2, .tmp u3]) (tmps : Array Value) (w : World) (g : Nat) (t : TypeId) (cs : List Value) (v1 v2 v3 : Value)
    (hp : tmps.getD p undef = .pointer (some ⟨g, 0, none⟩)) (h1 : tmps.getD u1 undef = v1) (h2 : tmps.getD u2 undef = v2) (h3 : tmps.getD u3 undef = v3) (hb : Blk w g cs t) (d : TypeDesc) (hu : P.underlying ty = some d) (hd : d.isRow = true) (hi : (P.info? ty).map (·.size) = some cs.length) :
    (results fn tmps).run P w = .ok (.tuple #[.agg cs.toArray, v1, v2, v3]) w := by
  have e : (results fn tmps).run P w = ((asAddr (tmps.getD p undef)).run P w).andThen fun a w₁ => ((loadVar ty a).run P w₁).andThen fun v w₂ => .ok (.tuple #[v, tmps.getD u1 undef, tmps.getD u2 undef, tmps.getD u3 undef]) w₂ := by
    simp only [results, h]
    simp [Sem.run_bind, Result.andThen]
  rw [e, hp, h1, h2, h3]
  simp [asAddr, Result.andThen, run_loadVar_row w g t ty cs.toArray (0, 0) d hb hu (by cases d <;> first | rfl | cases hd) (by simpa using hi)]

theorem builtP0 (f g : Nat → UInt8) (z y s : Int) : Tryz.prog.built 34 [(0, .agg (bys ((List.range 16).map f) ++ (bys ((List.range 32).map g) ++ [Value.int .i64 z, Value.int .i64 y])).toArray), (3, .int .i64 s)] = some (bys ((List.range 16).map f) ++ (bys ((List.range 32).map g) ++ [Value.int .i64 z, Value.int .i64 y]) ++ [Value.int .i64 0, Value.int .i64 0, Value.int .i64 s]).toArray := by kernel_rfl
theorem builtP (I seed : List UInt8) (z y s : Int) (hI : I.length = 16) (hs : seed.length = 32) : Tryz.prog.built 34 [(0, .agg (tcs I seed z y).toArray), (3, .int .i64 s)] = some (pcs I seed z y 0 0 s).toArray := by
  rw [list_asL I 16 hI, list_asL seed 32 hs]
  exact builtP0 _ _ _ _ _
set_option maxRecDepth 100000 in
set_option maxHeartbeats 1000000 in
theorem newP_yes (I seed : List UInt8) (k h s : Nat) (w : World) (hI : I.length = 16) (hs : seed.length = 32) (hf : PFit k h 0 0 s) : Calls Tryz.prog 13 #[.agg (tcs I seed (k : Int) (h : Int)).toArray, .int .i64 (s : Int)] w (TwoD (.agg (pcs I seed (k : Int) (h : Int) 0 0 (s : Int)).toArray) (.int .i64 0) w) := by
  have HI := Lib.hid hI
  have HS := Lib.hid hs
  have HF := Lib.hid hf
  have HT := Lib.hid (sTree' I seed (k : Int) (h : Int) hI hs)
  obtain ⟨dT, huT, hdT⟩ := rowTree
  have HU := Lib.hid huT
  have HD := Lib.hid hdT
  have HPS := Lib.hid (sPurse' I seed (k : Int) (h : Int) 0 0 (s : Int) hI hs)
  have HLZ : Hid (pcs0.length = (pcs I seed (k : Int) (h : Int) 0 0 (s : Int)).length) := by show _ = _; rw [pcs_length I seed _ _ _ _ _ hI hs]; rfl
  have HBU := Lib.hid (builtP I seed (k : Int) (h : Int) (s : Int) hI hs)
  obtain ⟨dP, huP, hdP⟩ := rowPurse
  have HUP := Lib.hid huP
  have HDP := Lib.hid hdP
  clear hI hs huT hdT huP hdP hf
  go_enter Tryz.func13, Tryz.ntmps13
  go_wp2_with (refine wpList_box_blk rfl 32 _ rfl (tcs I seed (k : Int) (h : Int)) rfl ?_)
  intro w1 a1 a2 a3
  have A1 := Lib.hid a1
  have A2 := Lib.hid a2
  have A3 := Lib.hid a3
  clear a1 a2 a3
  go_wp2_with (refine wpList_alloc_blk rfl 34 rfl _ ziPurse ?_)
  intro w2 a1 a2 a3
  rw [A2.out] at a1 a2 a3 ⊢
  obtain ⟨g0, hg0⟩ : ∃ g, w.heap.size = g := ⟨_, rfl⟩
  have G0 : Hid (Blk w2 g0 (tcs I seed (k : Int) (h : Int)) 32) := by show Blk _ _ _ _; rw [← hg0]; exact A1.out.below a3 (by omega)
  have G1 : Hid (Blk w2 (g0 + 1) pcs0 34) := by show Blk _ _ _ _; rw [← hg0]; exact a1
  have GB : Hid (Below g0 w w2) := by show Below _ _ _; rw [← hg0]; exact A3.out.trans (a3.mono (by omega))
  have GS : Hid (w2.heap.size = g0 + 2) := by show _ = _; omega
  rw [hg0]
  have HG := Lib.hid hg0
  clear a1 a2 a3 A1 A2 A3 hg0
  go_wp2_with (first | (refine wpList_load_blkU rfl 32 _ rfl g0 rfl (tcs I seed (k : Int) (h : Int)) 32 G0.out dT HU.out HD.out HT.out ?_) | (refine wpList_buildTo rfl 34 _ rfl (some 9) rfl (pcs I seed (k : Int) (h : Int) 0 0 (s : Int)).toArray (by simp only [List.map_toArray, List.map_cons, List.map_nil]; exact HBU.out) ?_) | (refine wpList_alloc_blk rfl 34 rfl _ ziPurse ?_))
  intro w3 a1 a2 a3
  rw [GS.out] at a1 a2 a3 ⊢
  have A1 := Lib.hid a1
  obtain ⟨t4, ht4⟩ : ∃ t, w3.setRow (g0 + 2) (pcs I seed (k : Int) (h : Int) 0 0 (s : Int)).toArray = t := ⟨_, rfl⟩
  have J1 : Hid (Blk t4 (g0 + 1) pcs0 34) := by show Blk _ _ _ _; rw [← ht4]; exact (G1.out.below a3 (by omega)).setRowOther (by omega)
  have J2 : Hid (Blk t4 (g0 + 2) (pcs I seed (k : Int) (h : Int) 0 0 (s : Int)) 34) := by show Blk _ _ _ _; rw [← ht4]; exact a1.setRow
  have JB : Hid (Below g0 w t4) := by show Below _ _ _; rw [← ht4]; exact below_setRow' (GB.out.trans (a3.mono (by omega))) (by omega) _
  have JS : Hid (g0 + 1 < t4.heap.size) := J1.out.lt
  have HT4 := Lib.hid ht4
  clear a1 a2 a3 G0 G1 GB GS ht4
  go_wp2_with (first | (refine wpList_store_blk rfl 34 _ _ rfl (g0 + 2) (pcs I seed (k : Int) (h : Int) 0 0 (s : Int)) pcs0 34 rfl rfl A1.out HPS.out HLZ.out (pcs_one _ _ _ _ _ _ _) ?_; rw [HT4.out]; clear HT4) | (refine wpList_load_blkU rfl 34 _ rfl (g0 + 2) rfl (pcs I seed (k : Int) (h : Int) 0 0 (s : Int)) 34 J2.out dP HUP.out HDP.out HPS.out ?_))
  refine (rightP_yes I seed k h 0 0 s _ HI.out HS.out HF.out).mono ?_
  rintro e w5 ⟨rfl, hb⟩
  have K1 : Hid (Blk w5 (g0 + 1) pcs0 34) := J1.out.below hb J1.out.lt
  have K2 : Hid (Blk w5 (g0 + 2) (pcs I seed (k : Int) (h : Int) 0 0 (s : Int)) 34) := J2.out.below hb J2.out.lt
  have KB : Hid (Below g0 w w5) := JB.out.trans (hb.mono (by have := JS.out; omega))
  clear hb A1 J1 J2 JB
  go_wp2_with (first | (refine wpList_load_blkU rfl 34 _ rfl (g0 + 2) rfl (pcs I seed (k : Int) (h : Int) 0 0 (s : Int)) 34 K2.out dP HUP.out HDP.out HPS.out ?_) | (refine wpList_store_blk rfl 34 _ _ rfl (g0 + 1) (pcs I seed (k : Int) (h : Int) 0 0 (s : Int)) pcs0 34 rfl rfl K1.out HPS.out HLZ.out (pcs_one _ _ _ _ _ _ _) ?_))
  refine bodyPost_ret (v := .tuple #[.agg (pcs I seed (k : Int) (h : Int) 0 0 (s : Int)).toArray, .int .i64 0]) ?_ rfl ?_
  · exact ret_blk2U rfl _ _ (g0 + 1) 34 (pcs I seed (k : Int) (h : Int) 0 0 (s : Int)) _ rfl rfl K1.out.setRow dP HUP.out HDP.out HPS.out
  · exact ⟨rfl, below_setRow' (by rw [HG.out]; exact KB.out) (by have := HG.out; omega) _⟩

set_option maxRecDepth 100000 in
set_option maxHeartbeats 1000000 in
theorem signP_leaf (I seed text : List UInt8) (k h n m s M : Nat) (b : Bool) (tv : Value) (w : World) (hI : I.length = 16) (hs : seed.length = 32) (hf : PFit k h n m s) (hx : n < 2 ^ h) (ht : Rd w.heap.size w tv text) (hl : text.length ≤ 100000)
    (hres : ∀ w, Calls Tryz.prog 43 #[.agg (pcs I seed (k : Int) (h : Int) (n : Int) (m : Int) (s : Int)).toArray] w (TwoD (.agg (pcs I seed (k : Int) (h : Int) (n : Int) (M : Int) (s : Int)).toArray) (.bool b) w)) :
    Calls Tryz.prog 18 #[.agg (pcs I seed (k : Int) (h : Int) (n : Int) (m : Int) (s : Int)).toArray, tv] w (fun e w' => ∃ v, e = .returned (.tuple #[.agg (pcs I seed (k : Int) (h : Int) ((n + 1 : Nat) : Int) (M : Int) (s : Int)).toArray, v, .bool b, .int .i64 0]) ∧ Own 5 w' w.heap.size v (lsig I seed text k h n) ∧ Below w.heap.size w w') := by
  have HI := Lib.hid hI
  have HS := Lib.hid hs
  have HF := Lib.hid hf
  have HPS := Lib.hid (sPurse' I seed (k : Int) (h : Int) (n : Int) (m : Int) (s : Int) hI hs)
  have HLZ : Hid (pcs0.length = (pcs I seed (k : Int) (h : Int) (n : Int) (m : Int) (s : Int)).length) := by show _ = _; rw [pcs_length I seed _ _ _ _ _ hI hs]; rfl
  obtain ⟨dP, huP, hdP⟩ := rowPurse
  have HUP := Lib.hid huP
  have HDP := Lib.hid hdP
  obtain ⟨D, hD⟩ : ∃ D, 2 ^ h - n = D := ⟨_, rfl⟩
  have HDE := Lib.hid hD
  have dD : ((D : Int) == 0) = false := by simp; omega
  have HX := Lib.hid hx
  have HTX := Lib.hid ht
  have HTL := Lib.hid hl
  have HR := Lib.hid hres
  obtain ⟨N1, hN1⟩ : ∃ N, n + 1 = N := ⟨_, rfl⟩
  rw [hN1]
  have zN : (n : Int) + 1 = (N1 : Int) := by omega
  have HNL : Hid (N1 ≤ 40) := by have := hf.ht.pow; show _ ≤ _; omega
  have HT := Lib.hid (sTree' I seed (k : Int) (h : Int) hI hs)
  obtain ⟨dT, huT, hdT⟩ := rowTree
  have HU := Lib.hid huT
  have HD := Lib.hid hdT
  have HQS := Lib.hid (sPurse' I seed (k : Int) (h : Int) (n : Int) (M : Int) (s : Int) hI hs)
  have HQZ : Hid (pcs0.length = (pcs I seed (k : Int) (h : Int) (n : Int) (M : Int) (s : Int)).length) := by show _ = _; rw [pcs_length I seed _ _ _ _ _ hI hs]; rfl
  have HQ1 := Lib.hid (sPurse' I seed (k : Int) (h : Int) (N1 : Int) (M : Int) (s : Int) hI hs)
  have HQ1Z : Hid (pcs0.length = (pcs I seed (k : Int) (h : Int) (N1 : Int) (M : Int) (s : Int)).length) := by show _ = _; rw [pcs_length I seed _ _ _ _ _ hI hs]; rfl
  have HCN := Lib.hid (pcs_n I seed (k : Int) (h : Int) (n : Int) (M : Int) (s : Int) hI hs)
  have HSET := Lib.hid (pcs_setn I seed (k : Int) (h : Int) (n : Int) (M : Int) (s : Int) (N1 : Int) hI hs)
  have ZN := Lib.hid zN
  clear hI hs huP hdP hf hx hD ht hl hres hN1 zN huT hdT
  go_enter Tryz.func18, Tryz.ntmps18
  go_wp2_with (refine wpList_box_blk rfl 34 _ rfl (pcs I seed (k : Int) (h : Int) (n : Int) (m : Int) (s : Int)) rfl ?_)
  intro w1 a1 a2 a3
  have A1 := Lib.hid a1
  have A2 := Lib.hid a2
  have A3 := Lib.hid a3
  clear a1 a2 a3
  go_wp2_with (refine wpList_alloc_blk rfl 34 rfl _ ziPurse ?_)
  intro w2 a1 a2 a3
  rw [A2.out] at a1 a2 a3 ⊢
  obtain ⟨g0, hg0⟩ : ∃ g, w.heap.size = g := ⟨_, rfl⟩
  have G0 : Hid (Blk w2 g0 (pcs I seed (k : Int) (h : Int) (n : Int) (m : Int) (s : Int)) 34) := by show Blk _ _ _ _; rw [← hg0]; exact A1.out.below a3 (by omega)
  have G1 : Hid (Blk w2 (g0 + 1) pcs0 34) := by show Blk _ _ _ _; rw [← hg0]; exact a1
  have GB : Hid (Below g0 w w2) := by show Below _ _ _; rw [← hg0]; exact A3.out.trans (a3.mono (by omega))
  rw [hg0]
  have HG := Lib.hid hg0
  have HLT : Hid (g0 ≤ w2.heap.size) := by show _ ≤ _; omega
  clear a1 a2 a3 A1 A2 A3 hg0
  go_wp2_with (refine wpList_load_blkU rfl 34 _ rfl g0 rfl (pcs I seed (k : Int) (h : Int) (n : Int) (m : Int) (s : Int)) 34 G0.out dP HUP.out HDP.out HPS.out ?_)
  refine (rightP_yes I seed k h n m s _ HI.out HS.out HF.out).mono ?_
  rintro e w3 ⟨rfl, hb⟩
  have J0 : Hid (Blk w3 g0 (pcs I seed (k : Int) (h : Int) (n : Int) (m : Int) (s : Int)) 34) := G0.out.below hb G0.out.lt
  have J1 : Hid (Blk w3 (g0 + 1) pcs0 34) := G1.out.below hb G1.out.lt
  have JB : Hid (Below g0 w w3) := GB.out.trans (hb.mono HLT.out)
  have JL : Hid (g0 ≤ w3.heap.size) := by have := J0.out.lt; show _ ≤ _; omega
  clear hb G0 G1 GB HLT
  go_wp2_with (refine wpList_load_blkU rfl 34 _ rfl g0 rfl (pcs I seed (k : Int) (h : Int) (n : Int) (m : Int) (s : Int)) 34 J0.out dP HUP.out HDP.out HPS.out ?_)
  refine (leftP_yes I seed k h n m s _ HI.out HS.out HF.out).mono ?_
  rintro e w4 ⟨rfl, hb⟩
  rw [HDE.out]
  have G0 : Hid (Blk w4 g0 (pcs I seed (k : Int) (h : Int) (n : Int) (m : Int) (s : Int)) 34) := J0.out.below hb J0.out.lt
  have G1 : Hid (Blk w4 (g0 + 1) pcs0 34) := J1.out.below hb J1.out.lt
  have GB : Hid (Below g0 w w4) := JB.out.trans (hb.mono JL.out)
  have GL : Hid (g0 ≤ w4.heap.size) := by have := G0.out.lt; show _ ≤ _; omega
  clear hb J0 J1 JB JL
  go_wp2_with (refine wpList_load_blkU rfl 34 _ rfl g0 rfl (pcs I seed (k : Int) (h : Int) (n : Int) (m : Int) (s : Int)) 34 G0.out dP HUP.out HDP.out HPS.out ?_)
  refine (HR.out _).mono ?_
  rintro e w5 ⟨rfl, hb⟩
  have J1 : Hid (Blk w5 (g0 + 1) pcs0 34) := G1.out.below hb G1.out.lt
  have JB : Hid (Below g0 w w5) := GB.out.trans (hb.mono GL.out)
  have JL : Hid (g0 + 1 < w5.heap.size) := J1.out.lt
  clear hb G0 G1 GB GL dD
  go_wp2_with (refine wpList_alloc_blk rfl 34 rfl _ ziPurse ?_)
  intro w6 a1 a2 a3
  obtain ⟨g2, hg2⟩ : ∃ g, w5.heap.size = g := ⟨_, rfl⟩
  have hg12 : g0 + 1 < g2 := by have := JL.out; omega
  rw [hg2] at a1 a2 a3 ⊢
  have A1 := Lib.hid a1
  obtain ⟨t7, ht7⟩ : ∃ t, w6.setRow g2 (pcs I seed (k : Int) (h : Int) (n : Int) (M : Int) (s : Int)).toArray = t := ⟨_, rfl⟩
  have K1 : Hid (Blk t7 (g0 + 1) pcs0 34) := by show Blk _ _ _ _; rw [← ht7]; exact (J1.out.below a3 (by omega)).setRowOther (by omega)
  have K2 : Hid (Blk t7 g2 (pcs I seed (k : Int) (h : Int) (n : Int) (M : Int) (s : Int)) 34) := by show Blk _ _ _ _; rw [← ht7]; exact a1.setRow
  have KB : Hid (Below g0 w t7) := by show Below _ _ _; rw [← ht7]; exact below_setRow' (JB.out.trans (a3.mono (by omega))) (by omega) _
  have KL : Hid (g2 < t7.heap.size) := K2.out.lt
  have HT7 := Lib.hid ht7
  have HG12 := Lib.hid hg12
  have cn := (K2.out.cell 50).trans HCN.out
  have KT : Hid (Rd t7.heap.size t7 tv text) := (HTX.out.below (by rw [HG.out]; exact KB.out)).more (by rw [HG.out]; have := KL.out; omega)
  clear a1 a2 a3 J1 JB JL ht7 hg2 hg12
  go_wp2_with (first | (refine wpList_store_blk rfl 34 _ _ rfl g2 (pcs I seed (k : Int) (h : Int) (n : Int) (M : Int) (s : Int)) pcs0 34 rfl rfl A1.out HQS.out HQZ.out (pcs_one _ _ _ _ _ _ _) ?_; rw [HT7.out]; clear HT7) | (refine wpList_load_mid rfl 32 _ rfl g2 0 rfl (tcs I seed (k : Int) (h : Int)) dT (pcs_range K2.out) HU.out HD.out HT.out ?_))
  refine (signT_yes I seed text k h n _ _ HI.out HS.out HF.out.wd HF.out.ht HX.out KT.out HTL.out).mono ?_
  rintro e w8 ⟨v8, rfl, hown, hb⟩
  have M1 : Hid (Blk w8 (g0 + 1) pcs0 34) := K1.out.below hb K1.out.lt
  have M2 : Hid (Blk w8 g2 (pcs I seed (k : Int) (h : Int) (n : Int) (M : Int) (s : Int)) 34) := K2.out.below hb K2.out.lt
  have MB : Hid (Below g0 w w8) := KB.out.trans (hb.mono (by have := KL.out; have := HG12.out; omega))
  have MO : Hid (Own 5 w8 (g2 + 1) v8 (lsig I seed text k h n)) := hown.base (by have := KL.out; omega)
  clear hb hown K1 K2 KB KT A1 cn KL
  have cn := (M2.out.cell 50).trans HCN.out
  have fz := M2.out.frozen 50
  obtain ⟨t9, ht9⟩ : ∃ t, w8.setCell ⟨g2, 50, none⟩ (.int .i64 (N1 : Int)) = t := ⟨_, rfl⟩
  have R1 : Hid (Blk t9 (g0 + 1) pcs0 34) := by show Blk _ _ _ _; rw [← ht9]; exact M1.out.setOther _ _ (by have := HG12.out; show g0 + 1 ≠ g2; omega)
  have R2 : Hid (Blk t9 g2 (pcs I seed (k : Int) (h : Int) (N1 : Int) (M : Int) (s : Int)) 34) := by show Blk _ _ _ _; rw [← ht9, ← HSET.out]; exact M2.out.set 50 _
  have RB : Hid (Below g0 w t9) := by show Below _ _ _; rw [← ht9]; exact MB.out.setCell (by have := HG12.out; show g0 ≤ g2; omega) _
  have RO : Hid (Own 5 t9 (g2 + 1) v8 (lsig I seed text k h n)) := by show Own _ _ _ _ _; rw [← ht9]; exact MO.out.but ((But.refl g2 w8).setCell 50 _) (Nat.lt_succ_self g2)
  have HT9 := Lib.hid ht9
  have dn : (n : Int) ≤ 40 := by have := HNL.out; have := ZN.out; omega
  clear M1 M2 MB MO ht9
  go_wp2_with (first | (rw [ZN.out, HT9.out]; clear HT9 cn fz; refine wpList_load_blkU rfl 34 _ rfl g2 rfl (pcs I seed (k : Int) (h : Int) (N1 : Int) (M : Int) (s : Int)) 34 R2.out dP HUP.out HDP.out HQ1.out ?_) | (refine wpList_store_blk rfl 34 _ _ rfl (g0 + 1) (pcs I seed (k : Int) (h : Int) (N1 : Int) (M : Int) (s : Int)) pcs0 34 rfl rfl R1.out HQ1.out HQ1Z.out (pcs_one _ _ _ _ _ _ _) ?_))
  refine bodyPost_ret (v := .tuple #[.agg (pcs I seed (k : Int) (h : Int) (N1 : Int) (M : Int) (s : Int)).toArray, v8, .bool b, .int .i64 0]) ?_ rfl ?_
  · exact ret_blk4U rfl _ _ (g0 + 1) 34 (pcs I seed (k : Int) (h : Int) (N1 : Int) (M : Int) (s : Int)) _ _ _ rfl rfl rfl rfl R1.out.setRow dP HUP.out HDP.out HQ1.out
  · refine ⟨_, rfl, ?_, below_setRow' (by rw [HG.out]; exact RB.out) (by have := HG.out; omega) _⟩
    exact (RO.out.but ((But.refl (g0 + 1) t9).setRow _) (by have := HG12.out; omega)).base (by have := HG12.out; rw [HG.out]; omega)

set_option maxRecDepth 100000 in
set_option maxHeartbeats 1000000 in
theorem ownsP_yes (I seed text sg : List UInt8) (k h : Nat) (n m s E : Int) (tv sv : Value) (w : World) (hI : I.length = 16) (hs : seed.length = 32) (hk : Wd k) (hh : Ht h) (ht : Rd w.heap.size w tv text) (hsv : Rd w.heap.size w sv sg)
    (hv : ∀ pv w, Rd w.heap.size w pv (lpub I seed k h) → Rd w.heap.size w tv text → Rd w.heap.size w sv sg → Calls Tryz.prog 9 #[pv, tv, sv] w (One (.int .i64 E) w)) :
    Calls Tryz.prog 24 #[.agg (pcs I seed (k : Int) (h : Int) n m s).toArray, tv, sv] w (One (.bool (E == 0)) w) := by
  have HI := Lib.hid hI
  have HS := Lib.hid hs
  have HK := Lib.hid hk
  have HH := Lib.hid hh
  have HTX := Lib.hid ht
  have HSX := Lib.hid hsv
  have HV := Lib.hid hv
  have HT := Lib.hid (sTree' I seed (k : Int) (h : Int) hI hs)
  obtain ⟨dT, huT, hdT⟩ := rowTree
  have HU := Lib.hid huT
  have HD := Lib.hid hdT
  clear hI hs huT hdT hk hh ht hsv hv
  go_enter Tryz.func24, Tryz.ntmps24
  go_wp2_with (refine wpList_box_blk rfl 34 _ rfl (pcs I seed (k : Int) (h : Int) n m s) rfl ?_)
  intro w1 a1 a2 a3
  obtain ⟨g0, hg0⟩ : ∃ g, w.heap.size = g := ⟨_, rfl⟩
  have A1 : Hid (Blk w1 g0 (pcs I seed (k : Int) (h : Int) n m s) 34) := by rw [← hg0]; exact a1
  have A3 := Lib.hid a3
  rw [hg0]
  clear a1 a2 a3 hg0
  go_wp2_with (refine wpList_load_mid rfl 32 _ rfl g0 0 rfl (tcs I seed (k : Int) (h : Int)) dT (pcs_range A1.out) HU.out HD.out HT.out ?_)
  refine (pubT_yes I seed k h _ HI.out HS.out HK.out HH.out).mono ?_
  rintro e w2 ⟨v2, rfl, hown, hb⟩
  have B3 : Hid (Below w.heap.size w w2) := A3.out.trans (hb.mono A3.out.size)
  have BP : Hid (Rd w2.heap.size w2 v2 (lpub I seed k h)) := hown.rd
  clear hb A1 A3 hown
  go_wp2_with fail
  refine (HV.out _ _ BP.out ((HTX.out.below B3.out).more B3.out.size) ((HSX.out.below B3.out).more B3.out.size)).mono ?_
  rintro e w3 ⟨rfl, hb⟩
  have C3 : Hid (Below w.heap.size w w3) := B3.out.trans (hb.mono B3.out.size)
  clear hb B3 BP
  go_wp2
  go_ret
  exact ⟨rfl, C3.out⟩

end Go.Proofs.YtllncnnigjgadaaGreat
