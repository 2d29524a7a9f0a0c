/-
  Package purse: Left and reserve, for every purse that may be.
-/
import Derived.Test.YtllncnnigjgadaaGreatPB
namespace Go.Proofs.YtllncnnigjgadaaGreat
open Go.RowKit

set_option maxRecDepth 100000 in
set_option maxHeartbeats 1000000 in
theorem leftP_yes (I seed : List UInt8) (k h n m s : Nat) (w : World) (hI : I.length = 16) (hs : seed.length = 32) (hf : PFit k h n m s) : Calls Tryz.prog 22 #[.agg (pcs I seed (k : Int) (h : Int) (n : Int) (m : Int) (s : Int)).toArray] w (One (.int .i64 ((2 ^ h - n : Nat) : Int)) w) := by
  have HN := Lib.hid (pcs_n I seed (k : Int) (h : Int) (n : Int) (m : Int) (s : Int) hI hs)
  have HM := Lib.hid (pcs_m I seed (k : Int) (h : Int) (n : Int) (m : Int) (s : Int) hI hs)
  have HST := Lib.hid (pcs_s I seed (k : Int) (h : Int) (n : Int) (m : Int) (s : Int) hI hs)
  have HI := Lib.hid hI
  have HS := Lib.hid hs
  have HF := Lib.hid hf
  have HT := Lib.hid (sTree' I seed (k : Int) (h : Int) hI hs)
  obtain ⟨dT, huT, hdT⟩ := rowTree
  have HU := Lib.hid huT
  have HD := Lib.hid hdT
  have HPS := Lib.hid (sPurse' I seed (k : Int) (h : Int) (n : Int) (m : Int) (s : Int) hI hs)
  obtain ⟨dP, huP, hdP⟩ := rowPurse
  have HUP := Lib.hid huP
  have HDP := Lib.hid hdP
  obtain ⟨L, hL⟩ : ∃ L, 2 ^ h = L := ⟨_, rfl⟩
  have HL := Lib.hid hL
  have hL2 : L ≤ 32 := by rw [← hL]; exact hf.ht.pow.2
  have hmL : m ≤ L := by rw [← hL]; exact hf.mh
  have hnm := hf.nm
  have hs8 := hf.s8
  rw [hL]
  obtain ⟨D, hD0⟩ : ∃ D, L - n = D := ⟨_, rfl⟩
  have zD : (L : Int) - (n : Int) = (D : Int) := by omega
  have ZD := Lib.hid zD
  have HDL : Hid (D ≤ 32) := by show _ ≤ _; omega
  rw [hD0]
  clear hI hs huT hdT huP hdP hf hL hL2 hmL hnm hs8 hD0 zD
  go_enter Tryz.func22, Tryz.ntmps22
  go_wp2_with (refine wpList_box_blk rfl 34 _ rfl (pcs I seed (k : Int) (h : Int) (n : Int) (m : Int) (s : Int)) rfl ?_)
  intro w1 a1 a2 a3
  obtain ⟨g0, hg0⟩ : ∃ g, w.heap.size = g := ⟨_, rfl⟩
  have A1 : Hid (Blk w1 g0 (pcs I seed (k : Int) (h : Int) (n : Int) (m : Int) (s : Int)) 34) := by rw [← hg0]; exact a1
  have A3 := Lib.hid a3
  rw [hg0]
  clear a1 a2 a3 hg0
  go_wp2_with (refine wpList_load_blkU rfl 34 _ rfl g0 rfl (pcs I seed (k : Int) (h : Int) (n : Int) (m : Int) (s : Int)) 34 A1.out dP HUP.out HDP.out HPS.out ?_)
  refine (rightP_yes I seed k h n m s _ HI.out HS.out HF.out).mono ?_
  rintro e w2 ⟨rfl, hb⟩
  have B1 : Hid (Blk w2 g0 (pcs I seed (k : Int) (h : Int) (n : Int) (m : Int) (s : Int)) 34) := A1.out.below hb A1.out.lt
  have B3 : Hid (Below w.heap.size w w2) := A3.out.trans (hb.mono A3.out.size)
  clear hb A1 A3
  go_wp2_with fail
  refine wp_region_rely2 7 0 (fun x => ⟨#[.agg (pcs I seed (k : Int) (h : Int) (n : Int) (m : Int) (s : Int)).toArray, .pointer (some ⟨g0, 0, none⟩), x 6, .agg (pcs I seed (k : Int) (h : Int) (n : Int) (m : Int) (s : Int)).toArray, .bool true, .bool false, x 0, x 1, x 2, x 3, x 4, x 5], []⟩) (fun jj => ([eqV (.pointer (some ⟨g0, 0, none⟩)), eqV (.agg (tcs I seed (k : Int) (h : Int)).toArray), (eqV (.int .i64 (L : Int))), eqV (.pointer (some ⟨g0, 50, none⟩)), eqV (.int .i64 (n : Int)), eqV (.int .i64 (D : Int)), eqV (.int .i64 (D : Int))] : List (Value → World → Prop)).getD jj (fun _ _ => True)) rfl ⟨fun kk => [_, _, _, _, _, _, _].getD kk undef, rfl⟩ (by kernel_rfl) (by kernel_rfl) ?steps ?fin
  case steps =>
    refine StepsAt.val 0 (.pointer (some ⟨g0, 0, none⟩)) rfl (fun _ _ => rfl) rfl rfl (fun x w9 hb hd => ?_) ?_
    · first | (go_simp; done) | (go_simp; rfl)
    refine StepsAt.val 1 (.agg (tcs I seed (k : Int) (h : Int)).toArray) rfl (fun _ _ => rfl) rfl rfl (fun x w9 hb hd => ?_) ?_
    · have h0 : x 0 = .pointer (some ⟨g0, 0, none⟩) := hd 0 (by kernel_rfl)
      exact run_load_midU 32 (.tmp 6) rfl g0 0 (by exact h0) (tcs I seed (k : Int) (h : Int)) dT (pcs_range (B1.out.below hb B1.out.lt)) HU.out HD.out HT.out
    refine StepsAt.cons 2 (fun _ _ _ h hb => h) (fun _ _ => rfl) rfl rfl (fun x w9 hb hd K hK => ?_) ?_
    · have h1 : Hid (x 1 = .agg (tcs I seed (k : Int) (h : Int)).toArray) := hd 1 (by kernel_rfl)
      go_simp
      refine calls_args (args2 := #[.agg (tcs I seed (k : Int) (h : Int)).toArray]) (by rw [h1.out]) ?_
      refine (leavesP_any I seed (k : Int) h _ HI.out HS.out HF.out.ht).mono ?_
      rintro e w5 ⟨rfl, hb2⟩
      rw [HL.out]
      exact hK.out _ _ hb2 rfl
    refine StepsAt.val 3 (.pointer (some ⟨g0, 50, none⟩)) rfl (fun _ _ => rfl) rfl rfl (fun x w9 hb hd => ?_) ?_
    · first | (go_simp; done) | (go_simp; rfl)
    refine StepsAt.val 4 (.int .i64 (n : Int)) rfl (fun _ _ => rfl) rfl rfl (fun x w9 hb hd => ?_) ?_
    · have h3 : x 3 = .pointer (some ⟨g0, 50, none⟩) := hd 3 (by kernel_rfl)
      have cc := ((B1.out.below hb B1.out.lt).cell 50).trans HN.out
      rw [h3]
      first | (go_simp; done) | (go_simp; rfl)
    refine StepsAt.val 5 (.int .i64 (D : Int)) rfl (fun _ _ => rfl) rfl rfl (fun x w9 hb hd => ?_) ?_
    · have h2 : x 2 = .int .i64 (L : Int) := hd 2 (by kernel_rfl)
      have h4 : x 4 = .int .i64 (n : Int) := hd 4 (by kernel_rfl)
      rw [h2, h4]
      go_simp
      rw [ZD.out]
      have := HDL.out
      exact wrap_i64 _ (by omega) (by omega)
    refine StepsAt.val 6 (.int .i64 (D : Int)) rfl (fun _ _ => rfl) rfl rfl (fun x w9 hb hd => ?_) ?_
    · have h5 : x 5 = .int .i64 (D : Int) := hd 5 (by kernel_rfl)
      rw [h5]
      first | (go_simp; done) | (go_simp; rfl)
    exact StepsAt.done
  case fin =>
    intro x w9 hb hd
    have h6 : x 6 = .int .i64 (D : Int) := hd 6 (by omega)
    refine AnyTill.any (S := fun _ => True) (m := 7) _ _ _ _ ?_
    refine AnyTill.done (by kernel_rfl) ?_
    refine NoPanic.normal ?_
    try dsimp only
    rw [h6]
    have C3 : Hid (Below w.heap.size w w9) := B3.out.trans (hb.mono B3.out.size)
    generalize x 0 = y0
    generalize x 1 = y1
    generalize x 2 = y2
    generalize x 3 = y3
    generalize x 4 = y4
    generalize x 5 = y5
    clear hd h6 hb B1 B3 x
    go_wp2
    go_ret
    exact ⟨rfl, C3.out⟩

set_option maxRecDepth 100000 in
set_option maxHeartbeats 1000000 in
theorem reserveP_new (I seed : List UInt8) (k h n m s : Nat) (w : World) (hI : I.length = 16) (hs : seed.length = 32) (hf : PFit k h n m s) (hx : m ≤ n) : Calls Tryz.prog 43 #[.agg (pcs I seed (k : Int) (h : Int) (n : Int) (m : Int) (s : Int)).toArray] w (TwoD (.agg (pcs I seed (k : Int) (h : Int) (n : Int) ((min (m + s) (2 ^ h) : Nat) : Int) (s : Int)).toArray) (.bool true) w) := by
  have HN := Lib.hid (pcs_n I seed (k : Int) (h : Int) (n : Int) (m : Int) (s : Int) hI hs)
  have HM := Lib.hid (pcs_m I seed (k : Int) (h : Int) (n : Int) (m : Int) (s : Int) hI hs)
  have HST := Lib.hid (pcs_s I seed (k : Int) (h : Int) (n : Int) (m : Int) (s : Int) hI hs)
  have HI := Lib.hid hI
  have HS := Lib.hid hs
  have HF := Lib.hid hf
  have HT := Lib.hid (sTree' I seed (k : Int) (h : Int) hI hs)
  obtain ⟨dT, huT, hdT⟩ := rowTree
  have HU := Lib.hid huT
  have HD := Lib.hid hdT
  have HPS := Lib.hid (sPurse' I seed (k : Int) (h : Int) (n : Int) (m : Int) (s : Int) hI hs)
  obtain ⟨dP, huP, hdP⟩ := rowPurse
  have HUP := Lib.hid huP
  have HDP := Lib.hid hdP
  obtain ⟨L, hL⟩ : ∃ L, 2 ^ h = L := ⟨_, rfl⟩
  have HL := Lib.hid hL
  have hL2 : L ≤ 32 := by rw [← hL]; exact hf.ht.pow.2
  have hmL : m ≤ L := by rw [← hL]; exact hf.mh
  have hnm := hf.nm
  have hs8 := hf.s8
  rw [hL]
  obtain ⟨M, hM0⟩ : ∃ M, min (m + s) L = M := ⟨_, rfl⟩
  rw [hM0]
  have zM : min ((m : Int) + (s : Int)) (L : Int) = (M : Int) := by omega
  have ZM := Lib.hid zM
  obtain ⟨A, hA⟩ : ∃ A, m + s = A := ⟨_, rfl⟩
  have ZA : Hid ((m : Int) + (s : Int) = (A : Int)) := by show _ = _; omega
  have HAL : Hid (A ≤ 40) := by show _ ≤ _; omega
  have ZM2 : Hid (min (A : Int) (L : Int) = (M : Int)) := by show _ = _; omega
  have HLZ : Hid (pcs0.length = (pcs I seed (k : Int) (h : Int) (n : Int) (M : Int) (s : Int)).length) := by show _ = _; rw [pcs_length I seed _ _ _ _ _ hI hs]; rfl
  have HP2 := Lib.hid (sPurse' I seed (k : Int) (h : Int) (n : Int) (M : Int) (s : Int) hI hs)
  have HSET := Lib.hid (pcs_setm I seed (k : Int) (h : Int) (n : Int) (m : Int) (s : Int) (M : Int) hI hs)
  have d1 : decide (n < m) = false := decide_eq_false (by omega)
  clear hI hs huT hdT huP hdP hf hL hL2 hmL hnm hs8 hx hM0 zM hA
  go_enter Tryz.func43, Tryz.ntmps43
  go_wp2_with (refine wpList_box_blk rfl 34 _ rfl (pcs I seed (k : Int) (h : Int) (n : Int) (m : Int) (s : Int)) rfl ?_)
  intro w1 a1 a2 a3
  have A1 := Lib.hid a1
  have A2 := Lib.hid a2
  have A3 := Lib.hid a3
  clear a1 a2 a3
  go_wp2_with (refine wpList_alloc_blk rfl 34 rfl _ ziPurse ?_)
  intro w2 a1 a2 a3
  rw [A2.out] at a1 a2 a3 ⊢
  obtain ⟨g0, hg0⟩ : ∃ g, w.heap.size = g := ⟨_, rfl⟩
  have G1 : Hid (Blk w2 g0 (pcs I seed (k : Int) (h : Int) (n : Int) (m : Int) (s : Int)) 34) := by show Blk _ _ _ _; rw [← hg0]; exact A1.out.below a3 (by omega)
  have G2 : Hid (Blk w2 (g0 + 1) pcs0 34) := by show Blk _ _ _ _; rw [← hg0]; exact a1
  have GB : Hid (Below g0 w w2) := by show Below _ _ _; rw [← hg0]; exact A3.out.trans (a3.mono (by omega))
  rw [hg0]
  have HG := Lib.hid hg0
  have cn := (G1.out.cell 50).trans HN.out
  have cm := (G1.out.cell 51).trans HM.out
  clear a1 a2 a3 A1 A2 A3 hg0
  clear cn cm
  have cn := (G1.out.cell 50).trans HN.out
  have cm := (G1.out.cell 51).trans HM.out
  go_wp2_with fail
  clear cn cm
  refine wp_region_rely2 10 1 (fun x => ⟨#[.agg (pcs I seed (k : Int) (h : Int) (n : Int) (m : Int) (s : Int)).toArray, .pointer (some ⟨g0, 0, none⟩), .pointer (some ⟨g0 + 1, 0, none⟩), .bool false, .pointer (some ⟨g0, 50, none⟩), .int .i64 (n : Int), .pointer (some ⟨g0, 51, none⟩), .int .i64 (m : Int), .bool false, undef, x 0, x 1, x 2, x 3, x 4, x 5, x 6, x 7, x 8, x 9, undef], []⟩) (fun jj => ([eqV (.pointer (some ⟨g0, 51, none⟩)), eqV (.int .i64 (m : Int)), eqV (.pointer (some ⟨g0, 52, none⟩)), eqV (.int .i64 (s : Int)), eqV (.int .i64 (A : Int)), eqV (.pointer (some ⟨g0, 0, none⟩)), eqV (.agg (tcs I seed (k : Int) (h : Int)).toArray), (eqV (.int .i64 (L : Int))), eqV (.int .i64 (M : Int)), eqV (.pointer (some ⟨g0, 51, none⟩))] : List (Value → World → Prop)).getD jj (fun _ _ => True)) rfl ⟨fun kk => [_, _, _, _, _, _, _, _, _, _].getD kk undef, rfl⟩ (by kernel_rfl) (by kernel_rfl) ?steps ?fin
  case steps =>
    refine StepsAt.val 0 (.pointer (some ⟨g0, 51, none⟩)) rfl (fun _ _ => rfl) rfl rfl (fun x w9 hb hd => ?_) ?_
    · first | (go_simp; done) | (go_simp; rfl)
    refine StepsAt.val 1 (.int .i64 (m : Int)) rfl (fun _ _ => rfl) rfl rfl (fun x w9 hb hd => ?_) ?_
    · have h0 : x 0 = .pointer (some ⟨g0, 51, none⟩) := hd 0 (by kernel_rfl)
      have cc := ((G1.out.below hb G1.out.lt).cell 51).trans HM.out
      rw [h0]
      first | (go_simp; done) | (go_simp; rfl)
    refine StepsAt.val 2 (.pointer (some ⟨g0, 52, none⟩)) rfl (fun _ _ => rfl) rfl rfl (fun x w9 hb hd => ?_) ?_
    · first | (go_simp; done) | (go_simp; rfl)
    refine StepsAt.val 3 (.int .i64 (s : Int)) rfl (fun _ _ => rfl) rfl rfl (fun x w9 hb hd => ?_) ?_
    · have h2 : x 2 = .pointer (some ⟨g0, 52, none⟩) := hd 2 (by kernel_rfl)
      have cc := ((G1.out.below hb G1.out.lt).cell 52).trans HST.out
      rw [h2]
      first | (go_simp; done) | (go_simp; rfl)
    refine StepsAt.val 4 (.int .i64 (A : Int)) rfl (fun _ _ => rfl) rfl rfl (fun x w9 hb hd => ?_) ?_
    · have h1 : x 1 = .int .i64 (m : Int) := hd 1 (by kernel_rfl)
      have h3 : x 3 = .int .i64 (s : Int) := hd 3 (by kernel_rfl)
      rw [h1, h3]
      go_simp
      rw [ZA.out]
      have := HAL.out
      exact wrap_i64 _ (by omega) (by omega)
    refine StepsAt.val 5 (.pointer (some ⟨g0, 0, none⟩)) rfl (fun _ _ => rfl) rfl rfl (fun x w9 hb hd => ?_) ?_
    · first | (go_simp; done) | (go_simp; rfl)
    refine StepsAt.val 6 (.agg (tcs I seed (k : Int) (h : Int)).toArray) rfl (fun _ _ => rfl) rfl rfl (fun x w9 hb hd => ?_) ?_
    · have h5 : x 5 = .pointer (some ⟨g0, 0, none⟩) := hd 5 (by kernel_rfl)
      exact run_load_midU 32 (.tmp 15) rfl g0 0 (by exact h5) (tcs I seed (k : Int) (h : Int)) dT (pcs_range (G1.out.below hb G1.out.lt)) HU.out HD.out HT.out
    refine StepsAt.cons 7 (fun _ _ _ h hb => h) (fun _ _ => rfl) rfl rfl (fun x w9 hb hd K hK => ?_) ?_
    · have h6 : Hid (x 6 = .agg (tcs I seed (k : Int) (h : Int)).toArray) := hd 6 (by kernel_rfl)
      go_simp
      refine calls_args (args2 := #[.agg (tcs I seed (k : Int) (h : Int)).toArray]) (by rw [h6.out]) ?_
      refine (leavesP_any I seed (k : Int) h _ HI.out HS.out HF.out.ht).mono ?_
      rintro e w5 ⟨rfl, hb2⟩
      rw [HL.out]
      exact hK.out _ _ hb2 rfl
    refine StepsAt.val 8 (.int .i64 (M : Int)) rfl (fun _ _ => rfl) rfl rfl (fun x w9 hb hd => ?_) ?_
    · have h4 : x 4 = .int .i64 (A : Int) := hd 4 (by kernel_rfl)
      have h7 : x 7 = .int .i64 (L : Int) := hd 7 (by kernel_rfl)
      rw [h4, h7]
      go_simp
      exact ZM2.out
    refine StepsAt.val 9 (.pointer (some ⟨g0, 51, none⟩)) rfl (fun _ _ => rfl) rfl rfl (fun x w9 hb hd => ?_) ?_
    · first | (go_simp; done) | (go_simp; rfl)
    exact StepsAt.done
  case fin =>
    intro x w9 hb hd
    have h8 : x 8 = .int .i64 (M : Int) := hd 8 (by omega)
    have h9 : x 9 = .pointer (some ⟨g0, 51, none⟩) := hd 9 (by omega)
    have X1 : Hid (Blk w9 g0 (pcs I seed (k : Int) (h : Int) (n : Int) (m : Int) (s : Int)) 34) := G1.out.below hb G1.out.lt
    have X2 : Hid (Blk w9 (g0 + 1) pcs0 34) := G2.out.below hb G2.out.lt
    have XB : Hid (Below g0 w w9) := GB.out.trans (hb.mono (by have := GB.out.size; have := HG.out; omega))
    refine AnyTill.any (S := fun _ => True) (m := 11) _ _ _ _ ?_
    refine AnyTill.one (i := 10) (by kernel_rfl) rfl (by rfl) (fun K hK => ?_)
    have cm := (X1.out.cell 51).trans HM.out
    have fz := X1.out.frozen 51
    rw [h8, h9]
    go_simp
    refine hK.out _ _ (.inr trivial) ?_
    clear hK K
    refine AnyTill.done (by kernel_rfl) ?_
    refine NoPanic.normal ?_
    clear h8 h9 hd cm fz
    obtain ⟨t3, ht3⟩ : ∃ t, w9.setCell ⟨g0, 51, none⟩ (.int .i64 (M : Int)) = t := ⟨_, rfl⟩
    have T1 : Hid (Blk t3 g0 (pcs I seed (k : Int) (h : Int) (n : Int) (M : Int) (s : Int)) 34) := by show Blk _ _ _ _; rw [← ht3, ← HSET.out]; exact X1.out.set 51 _
    have T2 : Hid (Blk t3 (g0 + 1) pcs0 34) := by show Blk _ _ _ _; rw [← ht3]; exact X2.out.setOther _ _ (by show g0 + 1 ≠ g0; omega)
    have TB : Hid (Below g0 w t3) := by show Below _ _ _; rw [← ht3]; exact XB.out.setCell (Nat.le_refl g0) _
    rw [ht3]
    clear ht3 X1 X2 XB G1 G2 GB hb
    go_wp2_with (first | (refine wpList_load_blkU rfl 34 _ rfl g0 rfl (pcs I seed (k : Int) (h : Int) (n : Int) (M : Int) (s : Int)) 34 T1.out dP HUP.out HDP.out HP2.out ?_) | (refine wpList_store_blk rfl 34 _ _ rfl (g0 + 1) (pcs I seed (k : Int) (h : Int) (n : Int) (M : Int) (s : Int)) pcs0 34 rfl rfl T2.out HP2.out HLZ.out (pcs_one _ _ _ _ _ _ _) ?_))
    refine bodyPost_ret (v := .tuple #[.agg (pcs I seed (k : Int) (h : Int) (n : Int) (M : Int) (s : Int)).toArray, .bool true]) ?_ rfl ?_
    · exact ret_blk2U rfl _ _ (g0 + 1) 34 (pcs I seed (k : Int) (h : Int) (n : Int) (M : Int) (s : Int)) _ rfl rfl T2.out.setRow dP HUP.out HDP.out HP2.out
    · exact ⟨rfl, below_setRow' (by rw [HG.out]; exact TB.out) (by have := HG.out; omega) _⟩

end Go.Proofs.YtllncnnigjgadaaGreat
