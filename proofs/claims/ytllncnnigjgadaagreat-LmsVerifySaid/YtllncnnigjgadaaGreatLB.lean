/-
  Package lms: Sign, for every input.
  Package lms: shapeWith, for every two types; the way up a tree, climb, for every input that it is called with.
  Package lms: the way up a tree, climb, for every input that it is called with.
  Package lms: keyIn, what a public key states, for every bytes.
  Package lms: partsIn, the parts of a signature, for every bytes.
  Package lms: Verify, for every input.
-/
import Derived.Test.YtllncnnigjgadaaGreatLA
import Derived.Test.YtllncnnigjgadaaGreatRel4
import Derived.Test.YtllncnnigjgadaaGreatDD
namespace Go.Proofs.YtllncnnigjgadaaGreat
open Go.RowKit

set_option maxRecDepth 100000 in
set_option maxHeartbeats 400000 in
theorem signT_spent (I seed : List UInt8) (k h : Nat) (q : Int) (tv : Value) (w : World) (hI : I.length = 16) (hs : seed.length = 32) (hk : Wd k) (hh : Ht h) (hq : q < 0 ∨ ((2 ^ h : Nat) : Int) ≤ q) : Calls Tryz.prog 27 #[.agg (tcs I seed (k : Int) (h : Int)).toArray, .int .i64 q, tv] w (TwoD (.slice none 0 0) (.int .i64 12) w) := by
  have HZ := Lib.hid (tcs_z I seed (k : Int) (h : Int) hI hs)
  have HY := Lib.hid (tcs_y I seed (k : Int) (h : Int) hI hs)
  have HK := Lib.hid hk
  have HH := Lib.hid hh
  obtain ⟨d74, hu74, hd74⟩ := row74
  have HU := Lib.hid hu74
  have HD := Lib.hid hd74
  obtain ⟨L, hL⟩ : ∃ L, 2 ^ h = L := ⟨_, rfl⟩
  have HLE := Lib.hid hL
  rw [hL] at hq
  clear hI hs hk hh hu74 hd74 hL
  go_enter Tryz.func27, Tryz.ntmps27
  go_wp2_with (refine wpList_box_blk rfl 32 _ rfl (tcs I seed (k : Int) (h : Int)) rfl ?_)
  intro w1 a1 a2 a3
  have cz := (a1.cell 48).trans HZ.out
  have cy := (a1.cell 49).trans HY.out
  have A3 := Lib.hid a3
  clear a1 a2 a3
  go_wp2
  refine wp_scope_goto 0 rfl ?_
  go_wp2_with fail
  refine (lshape_yes k h _ HK.out HH.out).mono ?_
  rintro e w3 ⟨rfl, hb⟩
  have B1 : Hid (Below w.heap.size w w3) := A3.out.trans (hb.mono A3.out.size)
  clear hb A3 cz cy
  go_wp2_with (first | (refine wpList_alloc_blk rfl 65 rfl _ zi74 ?_))
  intro w4 a1 a2 a3
  have A1 := Lib.hid a1
  have hs := B1.out.size
  obtain ⟨gs, hgs⟩ : ∃ g, w3.heap.size = g := ⟨_, rfl⟩
  rw [hgs] at a1 a2 a3 hs A1 ⊢
  obtain ⟨t4, ht4⟩ : ∃ t, w4.setRow gs (shl k h).toArray = t := ⟨_, rfl⟩
  have LS : Hid (Blk t4 gs (shl k h) 65) := by rw [← ht4]; exact a1.setRow
  have LB : Hid (Below w.heap.size w t4) := by rw [← ht4]; exact below_setRow' (B1.out.trans (a3.mono hs)) hs _
  clear a1 a2 a3 B1 hgs hs
  rcases hq with hq | hq
  · go_wp2_with (first | (refine wpList_store_blk rfl 65 _ _ rfl gs (shl k h) shl0 65 rfl rfl A1.out s74 rfl (shl_one k h) ?_; rw [ht4]; clear ht4))
    refine wp_goto ⟨rfl, ?_⟩
    go_wp2
    rw [Exit.noGoto_ret]
    go_ret2
    exact ⟨rfl, LB.out⟩
  · have hq0 : decide (q < 0) = false := by simp; omega
    go_wp2_with (first | (refine wpList_store_blk rfl 65 _ _ rfl gs (shl k h) shl0 65 rfl rfl A1.out s74 rfl (shl_one k h) ?_; rw [ht4]; clear ht4) | (refine wpList_load_blkUG 65 _ rfl gs rfl (shl k h) 65 LS.out d74 HU.out HD.out s74 (by rfl) ?_))
    refine (leavesL_any k h _ HH.out).mono ?_
    rintro e w5 ⟨rfl, hb⟩
    rw [HLE.out]
    have B5 : Hid (Below w.heap.size w w5) := LB.out.trans (hb.mono LB.out.size)
    clear hb LB LS A1
    go_wp2
    refine wp_goto ⟨rfl, ?_⟩
    go_wp2
    rw [Exit.noGoto_ret]
    go_ret2
    exact ⟨rfl, B5.out⟩

set_option maxRecDepth 100000 in
set_option maxHeartbeats 2000000 in
theorem signT_yes (I seed text : List UInt8) (k h q : Nat) (tv : Value) (w : World) (hI : I.length = 16) (hs : seed.length = 32) (hk : Wd k) (hh : Ht h) (hq : q < 2 ^ h) (ht : Rd w.heap.size w tv text) (hl : text.length ≤ 100000) : Calls Tryz.prog 27 #[.agg (tcs I seed (k : Int) (h : Int)).toArray, .int .i64 (q : Int), tv] w (fun e w' => ∃ v, e = .returned (.tuple #[v, .int .i64 0]) ∧ Own 5 w' w.heap.size v (lsig I seed text k h q) ∧ Below w.heap.size w w') := by
  obtain ⟨i0, hi, hz0, hz1, hz2⟩ := info_parts info5
  have HIN := Lib.hid hi
  have H0 := Lib.hid hz0
  have H1 := Lib.hid hz1
  have H2 := Lib.hid hz2
  have HI := Lib.hid hI
  have HS := Lib.hid hs
  have HK := Lib.hid hk
  have HH := Lib.hid hh
  have HTX := Lib.hid ht
  have HTL := Lib.hid hl
  obtain ⟨At, ct, rfl, hct, hmt⟩ := ht.shape
  unfold maxLen at hmt
  have HZ := Lib.hid (tcs_z I seed (k : Int) (h : Int) hI hs)
  have HY := Lib.hid (tcs_y I seed (k : Int) (h : Int) hI hs)
  have HT : Hid ((Tryz.prog.info? 32).map (·.size) = some (tcs I seed (k : Int) (h : Int)).length) := by show _ = _; rw [tcs_length I seed _ _ hI hs]; exact sTree
  obtain ⟨dT, huT, hdT⟩ := rowTree
  have HU := Lib.hid huT
  have HD := Lib.hid hdT
  obtain ⟨d74, hu74, hd74⟩ := row74
  have HU7 := Lib.hid hu74
  have HD7 := Lib.hid hd74
  have hp : 2 ^ h ≤ 32 := by rcases hh with rfl | rfl | rfl | rfl | rfl <;> decide
  have h5 := hh.le
  have hL9 : lng k ≤ 10000 := by have := mny_le k hk; unfold lng; omega
  obtain ⟨D, hDe⟩ : ∃ N, knd h = N := ⟨_, rfl⟩
  have hD4 : D < 4294967296 := by rw [← hDe]; exact knd_lt hh
  have HC0 : Hid (((shl k h)[0]? : Option Value) = some (.int .u32 (D : Int))) := by show _ = _; rw [← hDe]; rfl
  obtain ⟨N, hN⟩ : ∃ N, llng k h = N := ⟨_, rfl⟩
  have hN2 : N ≤ 20000 := by rw [← hN]; unfold llng; omega
  have HNE := Lib.hid hN
  obtain ⟨S, hS⟩ : ∃ S, sigL (pre20 I q) seed text k = S := ⟨_, rfl⟩
  have hSl : S.length ≤ 10000 := by rw [← hS, sigL_length]; exact hL9
  have HSE := Lib.hid hS
  have HSL := Lib.hid hSl
  obtain ⟨L, hL⟩ : ∃ L, 2 ^ h = L := ⟨_, rfl⟩
  have HLE := Lib.hid hL
  obtain ⟨R, hR⟩ : ∃ R, L + q = R := ⟨_, rfl⟩
  obtain ⟨B, hB⟩ : ∃ B, sbl I seed k (2 ^ h) 0 h R = B := ⟨_, rfl⟩
  have hBl : B.length ≤ 200 := by rw [← hB, sbl_length]; omega
  have HBE := Lib.hid hB
  have HBL := Lib.hid hBl
  have HPE : Hid (lsig I seed text k h q = be 4 q ++ S ++ be 4 D ++ B) := by show _ = _; unfold lsig; rw [hDe, hS, hL, hR, ← hL, hB]
  rw [hL] at hq hp
  have zq0 : decide ((q : Int) < 0) = false := by simp
  have zq1 : ¬ ((L : Int) ≤ (q : Int)) := by omega
  have zR : (L : Int) + (q : Int) = (R : Int) := by omega
  have hR64 : R ≤ 64 := by omega
  have HRB : Hid (2 ^ h ≤ R ∧ R < 2 * 2 ^ h) := ⟨by rw [hL]; omega, by rw [hL]; omega⟩
  have HQ4 : Hid (q < 4294967296) := by show _ < _; omega
  clear hI hs hk hh hi hz0 hz1 hz2 huT hdT hu74 hd74 hDe hN hS hSl hL hR hB hBl ht h5
  go_enter Tryz.func27, Tryz.ntmps27
  go_wp2_with (refine wpList_box_blk rfl 32 _ rfl (tcs I seed (k : Int) (h : Int)) rfl ?_)
  intro w1 a1 a2 a3
  obtain ⟨g0, hg0⟩ : ∃ g, w.heap.size = g := ⟨_, rfl⟩
  have G1 : Hid (Blk w1 g0 (tcs I seed (k : Int) (h : Int)) 32) := by rw [← hg0]; exact a1
  have GB := Lib.hid a3
  have cz := (G1.out.cell 48).trans HZ.out
  have cy := (G1.out.cell 49).trans HY.out
  have hw0 : w.heap.size ≤ g0 := by omega
  rw [hg0]
  clear a1 a2 a3 hg0
  go_wp2
  refine wp_scope_goto 0 rfl ?_
  go_wp2_with fail
  refine (lshape_yes k h _ HK.out HH.out).mono ?_
  rintro e w3 ⟨rfl, hb⟩
  have E1 : Hid (Blk w3 g0 (tcs I seed (k : Int) (h : Int)) 32) := G1.out.below hb G1.out.lt
  have EB : Hid (Below w.heap.size w w3) := GB.out.trans (hb.mono GB.out.size)
  have hs3 : g0 < w3.heap.size := E1.out.lt
  clear hb GB G1 cz cy
  go_wp2_with (first | (refine wpList_alloc_blk rfl 65 rfl _ zi74 ?_))
  intro w4 a1 a2 a3
  obtain ⟨gs, hgs⟩ : ∃ g, w3.heap.size = g := ⟨_, rfl⟩
  rw [hgs] at a1 a2 a3 hs3 ⊢
  have A1 := Lib.hid a1
  obtain ⟨t4, ht4⟩ : ∃ t, w4.setRow gs (shl k h).toArray = t := ⟨_, rfl⟩
  have F1 : Hid (Blk t4 g0 (tcs I seed (k : Int) (h : Int)) 32) := by rw [← ht4]; exact (E1.out.below a3 (by omega)).setRowOther (by omega)
  have FS : Hid (Blk t4 gs (shl k h) 65) := by rw [← ht4]; exact a1.setRow
  have FB : Hid (Below w.heap.size w t4) := by rw [← ht4]; exact below_setRow' (EB.out.trans (a3.mono (by omega))) (by omega) _
  clear a1 a2 a3 E1 EB hgs
  go_wp2_with (first | (refine wpList_store_blk rfl 65 _ _ rfl gs (shl k h) shl0 65 rfl rfl A1.out s74 rfl (shl_one k h) ?_; rw [ht4]; clear ht4) | (refine wpList_load_blkUG 65 _ rfl gs rfl (shl k h) 65 FS.out d74 HU7.out HD7.out s74 (by rfl) ?_))
  refine (leavesL_any k h _ HH.out).mono ?_
  rintro e w5 ⟨rfl, hb⟩
  rw [HLE.out]
  have I1 : Hid (Blk w5 g0 (tcs I seed (k : Int) (h : Int)) 32) := F1.out.below hb F1.out.lt
  have IS : Hid (Blk w5 gs (shl k h) 65) := FS.out.below hb FS.out.lt
  have IB : Hid (Below w.heap.size w w5) := FB.out.trans (hb.mono FB.out.size)
  clear hb F1 FS FB A1
  go_wp2_with (refine wpList_load_blkU rfl 32 _ rfl g0 rfl (tcs I seed (k : Int) (h : Int)) 32 I1.out dT HU.out HD.out HT.out ?_)
  refine (keyL_any I seed q _ _ _ HI.out HS.out HQ4.out).mono ?_
  rintro e w6 ⟨rfl, hb⟩
  have J1 : Hid (Blk w6 g0 (tcs I seed (k : Int) (h : Int)) 32) := I1.out.below hb I1.out.lt
  have JS : Hid (Blk w6 gs (shl k h) 65) := IS.out.below hb IS.out.lt
  have JB : Hid (Below w.heap.size w w6) := IB.out.trans (hb.mono IB.out.size)
  clear hb I1 IS IB
  go_wp2_with fail
  refine (signX_yes I seed text q k _ _ HI.out HS.out HQ4.out HK.out ((HTX.out.below JB.out).more JB.out.size) HTL.out).mono ?_
  rintro e w7 ⟨v7, rfl, hown7, hb⟩
  rw [HSE.out] at hown7
  have M1 : Hid (Blk w7 g0 (tcs I seed (k : Int) (h : Int)) 32) := J1.out.below hb J1.out.lt
  have MS : Hid (Blk w7 gs (shl k h) 65) := JS.out.below hb JS.out.lt
  have MV : Hid (Rd w7.heap.size w7 v7 S) := hown7.rd
  have MB : Hid (Below w.heap.size w w7) := JB.out.trans (hb.mono JB.out.size)
  clear hb hown7 J1 JS JB
  go_wp2
  refine wp_region_rely3 6 2 (fun x => ⟨#[Value.agg (tcs I seed ↑k ↑h).toArray, Value.int IntKind.i64 ↑q, Value.slice At text.length ct, Value.pointer (some { block := g0, off := 0 }), undef, undef, Value.slice none 0 0, Value.int IntKind.i64 0, v7, Value.slice none 0 0, Value.pointer (some { block := gs, off := 0 }), Value.int IntKind.i64 0, Value.tuple #[Value.agg (shl k h).toArray, Value.int IntKind.i64 0], Value.pointer (some { block := g0, off := 48 }), Value.int IntKind.i64 ↑k, Value.pointer (some { block := g0, off := 49 }), Value.int IntKind.i64 ↑h, Value.tuple #[Value.agg (shl k h).toArray, Value.int IntKind.i64 0], Value.agg (shl k h).toArray, Value.int IntKind.i64 0, Value.int IntKind.i64 0, Value.bool false, Value.int IntKind.i64 ↑q, Value.bool false, Value.bool false, Value.int IntKind.i64 ↑q, Value.agg (shl k h).toArray, Value.int IntKind.i64 ↑L, Value.bool false, Value.bool false, Value.tuple #[v7, Value.int IntKind.i64 0], Value.agg (tcs I seed ↑k ↑h).toArray, Value.int IntKind.i64 ↑q, Value.agg (kcs I q seed ↑k).toArray, Value.slice At text.length ct, Value.tuple #[v7, Value.int IntKind.i64 0], v7, Value.int IntKind.i64 0, Value.int IntKind.i64 0, Value.bool false, x 0, x 1, x 2, x 3, x 4, x 5, undef, undef, undef, undef, undef, undef, undef, undef, undef, undef, undef, undef, undef, undef, undef, undef, undef, undef], []⟩) (fun jj => ([eqV (.agg (shl k h).toArray), (eqV (.int .i64 (N : Int))), (OwnN w7.heap.size []), eqV (.int .i64 (q : Int)), eqV (.int .u32 (q : Int)), (RdN (be 4 q))] : List (Value → World → Prop)).getD jj (fun _ _ => True)) rfl ⟨fun kk => [_, _, _, _, _, _].getD kk undef, rfl⟩ (by kernel_rfl) (by kernel_rfl) ?steps ?fin
  case steps =>
    refine StepsAt.val 0 (.agg (shl k h).toArray) rfl (fun _ _ => rfl) rfl rfl (fun x w9 hb hd => ?_) ?_
    · exact run_load_blkU 65 (.tmp 10) rfl gs rfl (shl k h) 65 (MS.out.below hb MS.out.lt) d74 HU7.out HD7.out s74
    refine StepsAt.cons 1 (fun _ _ _ h hb => h) (fun _ _ => rfl) rfl rfl (fun x w9 hb hd K hK => ?_) ?_
    · have h0 : Hid (x 0 = .agg (shl k h).toArray) := hd 0 (by kernel_rfl)
      go_simp
      refine calls_args (args2 := #[.agg (shl k h).toArray]) (by rw [h0.out]) ?_
      refine (longL_any k h _ HK.out HH.out).mono ?_
      rintro e w2 ⟨rfl, hb2⟩
      rw [HNE.out]
      exact hK.out _ _ hb2 rfl
    refine StepsAt.cons 2 (fun _ _ _ h hb => OwnN.keep h hb) (fun _ _ => rfl) rfl rfl (fun x w9 hb hd K hK => ?_) ?_
    · have h1 : Hid (x 1 = .int .i64 (N : Int)) := hd 1 (by kernel_rfl)
      refine wp_of_list rfl (wpList_make_own _ rfl (.const (.int .i64 0)) (.tmp 41) 22 rfl w7.heap.size 5 i0 (.int .u8 0) 1 Tryz.underlying22 HIN.out H0.out H1.out .i64 .i64 (N : Int) N rfl h1.out rfl (by rw [H2.out]; omega) (by unfold maxLen; omega) hb.size ?_)
      intro w2 hown hgrow
      exact hK.out _ _ ((Below.refl _ _).grown hgrow (Nat.le_refl _) (fun k hk => by cases hk)) hown
    refine StepsAt.val 3 (.int .i64 (q : Int)) rfl (fun _ _ => rfl) rfl rfl (fun x w9 hb hd => ?_) ?_
    · first | (go_simp; done) | (go_simp; rfl)
    refine StepsAt.val 4 (.int .u32 (q : Int)) rfl (fun _ _ => rfl) rfl rfl (fun x w9 hb hd => ?_) ?_
    · have h3 : x 3 = .int .i64 (q : Int) := hd 3 (by kernel_rfl)
      rw [h3]
      clear zq0 zq1 zR hq hp
      go_simp
      have := HQ4.out
      rw [IntKind.wrap_u32']
      omega
    refine StepsAt.cons 5 (fun _ _ _ h hb => RdN.keep h hb) (fun _ _ => rfl) rfl rfl (fun x w9 hb hd K hK => ?_) ?_
    · have h4 : Hid (x 4 = .int .u32 (q : Int)) := hd 4 (by kernel_rfl)
      go_simp
      refine calls_args (args2 := #[.int .u32 (q : Int)]) (by rw [h4.out]) ?_
      refine (fourL_any q _ HQ4.out).mono ?_
      rintro e w2 ⟨v2, rfl, hown, hb2⟩
      exact hK.out _ _ hb2 hown.rd
    exact StepsAt.done
  case fin =>
    intro x w9 hb hd
    have h2 : Own 5 w9 w7.heap.size (x 2) [] := hd 2 (by omega)
    have h5 : Rd w9.heap.size w9 (x 5) (be 4 q) := hd 5 (by omega)
    refine AnyTill.any (S := fun _ => True) (m := 8) _ _ _ _ ?_
    refine AnyTill.one (i := 6) (by kernel_rfl) rfl (by rfl) (fun K hK => ?_)
    refine wp_of_list rfl (wpList_app rfl (.tmp 42) (.tmp 45) 22 rfl 5 i0 Tryz.underlying22 HIN.out H0.out H1.out H2.out w7.heap.size w9.heap.size (x 2) (x 5) [] (be 4 q) rfl h2 rfl h5 (by rw [be_length]; simp) hb.size ?_)
    intro v10 w10 hown10 hb10
    rw [List.nil_append] at hown10
    refine hK.out _ _ (.inr trivial) ?_
    clear hK K
    refine AnyTill.one (i := 7) (by kernel_rfl) rfl (by rfl) (fun K hK => ?_)
    refine hK.out _ _ (.inr trivial) ?_
    clear hK K
    refine AnyTill.done (by kernel_rfl) ?_
    refine NoPanic.normal ?_
    simp only [Act.put, Act.eval, List.setIfInBounds_toArray, List.set_cons_zero, List.set_cons_succ, Array.getD_eq_getD_getElem?, List.getElem?_toArray, List.getElem?_cons_zero, List.getElem?_cons_succ, Option.getD_some]
    have hbA : Below w7.heap.size w7 w10 := hb.trans hb10
    obtain ⟨b, hbE⟩ : ∃ b, w7.heap.size = b := ⟨_, rfl⟩
    have N1 : Hid (Blk w10 g0 (tcs I seed (k : Int) (h : Int)) 32) := M1.out.below hbA M1.out.lt
    have NS : Hid (Blk w10 gs (shl k h) 65) := MS.out.below hbA MS.out.lt
    have NV : Hid (Rd w10.heap.size w10 v7 S) := (MV.out.below hbA).more hbA.size
    have NO : Hid (Own 5 w10 b v10 (be 4 q)) := by rw [← hbE]; exact hown10
    have NB : Hid (Below w.heap.size w w10) := MB.out.trans (hbA.mono MB.out.size)
    have hb10s : b ≤ w10.heap.size := by rw [← hbE]; exact hbA.size
    have hg0b : g0 < b := by rw [← hbE]; exact M1.out.lt
    have hgsb : gs < b := by rw [← hbE]; exact MS.out.lt
    have hwb : w.heap.size ≤ b := by rw [← hbE]; exact MB.out.size
    obtain ⟨A7, c7, hv7, hc7, hm7⟩ := NV.out.shape
    subst hv7
    unfold maxLen at hm7
    generalize x 0 = z0
    generalize x 1 = z1
    generalize x 2 = z2
    generalize x 3 = z3
    generalize x 4 = z4
    generalize x 5 = z5
    clear hd h2 h5 hb hb10 hown10 hbA M1 MS MV MB hbE x
    go_wp2_with (at_builtin; refine wpList_app rfl _ _ 22 rfl 5 i0 Tryz.underlying22 HIN.out H0.out H1.out H2.out b w10.heap.size _ _ (be 4 q) S rfl NO.out rfl NV.out (by have := HSL.out; rw [be_length]; omega) hb10s ?_)
    intro v11 w11 hown11 hb11
    have P1 : Hid (Blk w11 g0 (tcs I seed (k : Int) (h : Int)) 32) := N1.out.below hb11 hg0b
    have PS : Hid (Blk w11 gs (shl k h) 65) := NS.out.below hb11 hgsb
    have PO := Lib.hid hown11
    have PB : Hid (Below w.heap.size w w11) := NB.out.trans (hb11.mono hwb)
    have hb11s : b ≤ w11.heap.size := Nat.le_trans hb10s hb11.size
    have c0 := (PS.out.cell 0).trans HC0.out
    clear hown11 hb11 N1 NS NV NO NB hb10s
    go_wp2_with fail
    clear c0
    refine (fourL_any D _ hD4).mono ?_
    rintro e w12 ⟨v12, rfl, hown, hb⟩
    have Q1 : Hid (Blk w12 g0 (tcs I seed (k : Int) (h : Int)) 32) := P1.out.below hb P1.out.lt
    have QS : Hid (Blk w12 gs (shl k h) 65) := PS.out.below hb PS.out.lt
    have QO : Hid (Own 5 w12 b v11 (be 4 q ++ S)) := PO.out.below hb (Nat.le_refl _)
    have QV := Lib.hid hown.rd
    have QB : Hid (Below w.heap.size w w12) := PB.out.trans (hb.mono PB.out.size)
    have hb12s : b ≤ w12.heap.size := Nat.le_trans hb11s hb.size
    clear hb hown P1 PS PO PB hb11s
    go_wp2_with (at_builtin; refine wpList_app rfl _ _ 22 rfl 5 i0 Tryz.underlying22 HIN.out H0.out H1.out H2.out b w12.heap.size _ _ (be 4 q ++ S) (be 4 D) rfl QO.out rfl QV.out (by have := HSL.out; rw [List.length_append, be_length, be_length]; omega) hb12s ?_)
    intro v13 w13 hown13 hb13
    have R1 : Hid (Blk w13 g0 (tcs I seed (k : Int) (h : Int)) 32) := Q1.out.below hb13 hg0b
    have RS : Hid (Blk w13 gs (shl k h) 65) := QS.out.below hb13 hgsb
    have RO := Lib.hid hown13
    have RB : Hid (Below w.heap.size w w13) := QB.out.trans (hb13.mono hwb)
    have hb13s : b ≤ w13.heap.size := Nat.le_trans hb12s hb13.size
    clear hown13 hb13 Q1 QS QO QV QB hb12s
    go_wp2
    refine wp_region_rely3 7 3 (fun x => ⟨#[Value.agg (tcs I seed ↑k ↑h).toArray, Value.int IntKind.i64 ↑q, Value.slice At text.length ct, Value.pointer (some { block := g0, off := 0 }), undef, undef, Value.slice none 0 0, Value.int IntKind.i64 0, Value.slice A7 S.length c7, v13, Value.pointer (some { block := gs, off := 0 }), Value.int IntKind.i64 0, Value.tuple #[Value.agg (shl k h).toArray, Value.int IntKind.i64 0], Value.pointer (some { block := g0, off := 48 }), Value.int IntKind.i64 ↑k, Value.pointer (some { block := g0, off := 49 }), Value.int IntKind.i64 ↑h, Value.tuple #[Value.agg (shl k h).toArray, Value.int IntKind.i64 0], Value.agg (shl k h).toArray, Value.int IntKind.i64 0, Value.int IntKind.i64 0, Value.bool false, Value.int IntKind.i64 ↑q, Value.bool false, Value.bool false, Value.int IntKind.i64 ↑q, Value.agg (shl k h).toArray, Value.int IntKind.i64 ↑L, Value.bool false, Value.bool false, Value.tuple #[Value.slice A7 S.length c7, Value.int IntKind.i64 0], Value.agg (tcs I seed ↑k ↑h).toArray, Value.int IntKind.i64 ↑q, Value.agg (kcs I q seed ↑k).toArray, Value.slice At text.length ct, Value.tuple #[Value.slice A7 S.length c7, Value.int IntKind.i64 0], Value.slice A7 S.length c7, Value.int IntKind.i64 0, Value.int IntKind.i64 0, Value.bool false, z0, z1, z2, z3, z4, z5, v10, v10, Value.slice A7 S.length c7, v11, v11, Value.pointer (some { block := gs, off := 0 }), Value.int IntKind.u32 ↑D, v12, v13, x 0, x 1, x 2, x 3, x 4, x 5, x 6, undef, undef], []⟩) (fun jj => ([(OwnN b (be 4 q ++ S ++ be 4 D)), eqV (.agg (tcs I seed (k : Int) (h : Int)).toArray), eqV (.agg (shl k h).toArray), (eqV (.int .i64 (L : Int))), eqV (.int .i64 (q : Int)), eqV (.int .i64 (R : Int)), (RdN B)] : List (Value → World → Prop)).getD jj (fun _ _ => True)) rfl ⟨fun kk => [_, _, _, _, _, _, _].getD kk undef, rfl⟩ (by kernel_rfl) (by kernel_rfl) ?steps ?fin
    case steps =>
      refine StepsAt.cons 0 (fun _ _ _ h hb => OwnN.keep h hb) (fun _ _ => rfl) rfl rfl (fun x w9 hb hd K hK => ?_) ?_
      · exact hK.out _ _ (Below.refl _ _) (RO.out.below hb (Nat.le_refl _))
      refine StepsAt.val 1 (.agg (tcs I seed (k : Int) (h : Int)).toArray) rfl (fun _ _ => rfl) rfl rfl (fun x w9 hb hd => ?_) ?_
      · exact run_load_blkU 32 (.tmp 3) rfl g0 rfl (tcs I seed (k : Int) (h : Int)) 32 (R1.out.below hb R1.out.lt) dT HU.out HD.out HT.out
      refine StepsAt.val 2 (.agg (shl k h).toArray) rfl (fun _ _ => rfl) rfl rfl (fun x w9 hb hd => ?_) ?_
      · exact run_load_blkU 65 (.tmp 10) rfl gs rfl (shl k h) 65 (RS.out.below hb RS.out.lt) d74 HU7.out HD7.out s74
      refine StepsAt.cons 3 (fun _ _ _ h hb => h) (fun _ _ => rfl) rfl rfl (fun x w9 hb hd K hK => ?_) ?_
      · have h2 : Hid (x 2 = .agg (shl k h).toArray) := hd 2 (by kernel_rfl)
        go_simp
        refine calls_args (args2 := #[.agg (shl k h).toArray]) (by rw [h2.out]) ?_
        refine (leavesL_any k h _ HH.out).mono ?_
        rintro e w2 ⟨rfl, hb2⟩
        rw [HLE.out]
        exact hK.out _ _ hb2 rfl
      refine StepsAt.val 4 (.int .i64 (q : Int)) rfl (fun _ _ => rfl) rfl rfl (fun x w9 hb hd => ?_) ?_
      · first | (go_simp; done) | (go_simp; rfl)
      refine StepsAt.val 5 (.int .i64 (R : Int)) rfl (fun _ _ => rfl) rfl rfl (fun x w9 hb hd => ?_) ?_
      · have h3 : x 3 = .int .i64 (L : Int) := hd 3 (by kernel_rfl)
        have h4 : x 4 = .int .i64 (q : Int) := hd 4 (by kernel_rfl)
        rw [h3, h4]
        clear zq0 zq1 hq hp
        go_simp
        exact wrap_i64 _ (by omega) (by omega)
      refine StepsAt.cons 6 (fun _ _ _ h hb => RdN.keep h hb) (fun _ _ => rfl) rfl rfl (fun x w9 hb hd K hK => ?_) ?_
      · have h1 : Hid (x 1 = .agg (tcs I seed (k : Int) (h : Int)).toArray) := hd 1 (by kernel_rfl)
        have h5 : Hid (x 5 = .int .i64 (R : Int)) := hd 5 (by kernel_rfl)
        go_simp
        refine calls_args (args2 := #[.agg (tcs I seed (k : Int) (h : Int)).toArray, .int .i64 (R : Int)]) (by rw [h1.out, h5.out]) ?_
        refine (siblings_any I seed k h R _ HI.out HS.out HK.out HH.out HRB.out.1 HRB.out.2).mono ?_
        rintro e w2 ⟨v2, rfl, hown, hb2⟩
        rw [HBE.out] at hown
        exact hK.out _ _ hb2 hown.rd
      exact StepsAt.done
    case fin =>
      intro x w9 hb hd
      have h0 : Own 5 w9 b (x 0) (be 4 q ++ S ++ be 4 D) := hd 0 (by omega)
      have h6 : Rd w9.heap.size w9 (x 6) B := hd 6 (by omega)
      refine AnyTill.any (S := fun _ => True) (m := 10) _ _ _ _ ?_
      refine AnyTill.one (i := 7) (by kernel_rfl) rfl (by rfl) (fun K hK => ?_)
      refine wp_of_list rfl (wpList_app rfl (.tmp 55) (.tmp 61) 22 rfl 5 i0 Tryz.underlying22 HIN.out H0.out H1.out H2.out b w9.heap.size (x 0) (x 6) (be 4 q ++ S ++ be 4 D) B rfl h0 rfl h6 (by have := HSL.out; have := HBL.out; rw [List.length_append, List.length_append, be_length, be_length]; omega) (Nat.le_trans hb13s hb.size) ?_)
      intro v14 w14 hown14 hb14
      refine hK.out _ _ (.inr trivial) ?_
      clear hK K
      refine AnyTill.one (i := 8) (by kernel_rfl) rfl (by rfl) (fun K hK => ?_)
      refine hK.out _ _ (.inr trivial) ?_
      clear hK K
      refine AnyTill.one (i := 9) (by kernel_rfl) rfl (by rfl) (fun K hK => ?_)
      refine hK.out _ _ (.inr trivial) ?_
      clear hK K
      refine AnyTill.done (by kernel_rfl) ?_
      refine NoPanic.normal ?_
      simp only [Act.put, Act.eval, List.setIfInBounds_toArray, List.set_cons_zero, List.set_cons_succ, Array.getD_eq_getD_getElem?, List.getElem?_toArray, List.getElem?_cons_zero, List.getElem?_cons_succ, Option.getD_some]
      have SO : Hid (Own 5 w14 w.heap.size v14 (be 4 q ++ S ++ be 4 D ++ B)) := hown14.base hwb
      have SB : Hid (Below w.heap.size w w14) := (RB.out.trans (hb.mono RB.out.size)).trans (hb14.mono hwb)
      clear hd h0 h6 hown14 hb14
      go_wp2
      rw [jump_ret]
      go_ret2
      refine ⟨_, rfl, ?_, SB.out⟩
      rw [HPE.out]
      exact SO.out
end Go.Proofs.YtllncnnigjgadaaGreat

namespace Go.Proofs.YtllncnnigjgadaaGreat
open Go.RowKit

/-- A width and a height of these types. -/
def LFit (D Y k h : Nat) : Prop := Wd k ∧ Ht h ∧ knd h = D ∧ typ k = Y
/-- What shapeWith answers. -/
def LShape (D Y : Nat) (w : World) (e : Ending) (w' : World) : Prop :=
  (∃ k h, LFit D Y k h ∧ TwoD (.agg (shl k h).toArray) (.int .i64 0) w e w') ∨ ((∀ k h, ¬ LFit D Y k h) ∧ TwoD (.agg shl0.toArray) (.int .i64 3) w e w')
/-- What its loops keep. -/
def SW (w : World) (g D Y K H : Nat) (wr : World) : Prop := Blk wr g shl0 65 ∧ Below w.heap.size w wr ∧ ∀ k h, LFit D Y k h → K < k ∨ (k = K ∧ H ≤ h)

set_option maxRecDepth 100000 in
set_option maxHeartbeats 2000000 in
theorem shapeWith_any (D Y : Nat) (w : World) : Calls Tryz.prog 53 #[.int .u32 (D : Int), .int .u32 (Y : Int)] w (LShape D Y w) := by
  obtain ⟨d74, hu74, hd74⟩ := row74
  have HU := Lib.hid hu74
  have HD := Lib.hid hd74
  clear hu74 hd74
  go_enter Tryz.func53, Tryz.ntmps53
  go_wp2_with (refine wpList_alloc_blk rfl 65 rfl _ zi74 ?_)
  intro w1 a1 a2 a3
  obtain ⟨g4, hg4⟩ : ∃ g, w.heap.size = g := ⟨_, rfl⟩
  have hwg : w.heap.size ≤ g4 := by omega
  have K0 : Hid (SW w g4 D Y 1 1 w1) := ⟨by rw [← hg4]; exact a1, a3, fun k h hf => by
    have h1 : 1 ≤ k := by rcases hf.1 with rfl | rfl | rfl | rfl <;> omega
    have h2 := hf.2.1.le
    omega⟩
  rw [hg4]
  clear a1 a2 a3 hg4
  go_wp2
  go_loopw [6] (fun x wr => ∃ K : Nat, (Wd K ∨ K = 16) ∧ x = .int .i64 (K : Int) ∧ Hid (SW w g4 D Y K 1 wr)) (fun x _ => 16 - (intOf x).toNat)
  case atStart => exact ⟨1, .inl (.inl rfl), rfl, K0⟩
  case round =>
    clear K0
    obtain ⟨K, hK, rfl, KK⟩ := hrel
    by_cases hK8 : K ≤ 8
    · have hKw : Wd K := by
        rcases hK with h | h
        · exact h
        · omega
      have HKW := Lib.hid hKw
      have zK : (K : Int) ≤ 8 := by omega
      clear hK hKw
      go_wp2
      go_loopw [7] (fun y wr => ∃ H : Nat, 1 ≤ H ∧ H ≤ 6 ∧ y = .int .i64 (H : Int) ∧ Hid (SW w g4 D Y K H wr)) (fun y _ => 6 - (intOf y).toNat)
      case atStart => exact ⟨1, by omega, by omega, rfl, KK⟩
      case round =>
        clear KK
        obtain ⟨H, hH1, hH6, rfl, LL⟩ := hrel
        by_cases hH5 : H ≤ 5
        · have HHT := Lib.hid (Ht.of hH1 hH5)
          have zH : (H : Int) ≤ 5 := by omega
          go_wp2_with fail
          refine (lshape_yes K H _ HKW.out HHT.out).mono ?_
          rintro e w2 ⟨rfl, hb⟩
          have LB : Hid (SW w g4 D Y K H w2) := ⟨LL.out.1.below hb LL.out.1.lt, LL.out.2.1.trans (hb.mono LL.out.2.1.size), LL.out.2.2⟩
          have hl4 : g4 < w2.heap.size := LB.out.1.lt
          clear hb LL
          go_wp2_with (refine wpList_alloc_blk rfl 65 rfl _ zi74 ?_)
          intro w3 a1 a2 a3
          obtain ⟨g8, hg8⟩ : ∃ g, w2.heap.size = g := ⟨_, rfl⟩
          have hw2 := LB.out.2.1.size
          rw [hg8] at a1 a2 a3 hl4 hw2 ⊢
          have A1 := Lib.hid a1
          obtain ⟨t3, ht3⟩ : ∃ t, w3.setRow g8 (shl K H).toArray = t := ⟨_, rfl⟩
          have N8 : Hid (Blk t3 g8 (shl K H) 65) := by rw [← ht3]; exact a1.setRow
          have NB : Hid (SW w g4 D Y K H t3) := ⟨by rw [← ht3]; exact (LB.out.1.below a3 hl4).setRowOther (by omega), by rw [← ht3]; exact below_setRow' (LB.out.2.1.trans (a3.mono hw2)) hw2 _, LB.out.2.2⟩
          obtain ⟨P, hP⟩ : ∃ P, knd H = P := ⟨_, rfl⟩
          obtain ⟨Q, hQ⟩ : ∃ Q, typ K = Q := ⟨_, rfl⟩
          have c0 : t3.cell? ⟨g8, 0, none⟩ = some (.int .u32 (P : Int)) := (N8.out.cell 0).trans (by rw [← hP]; rfl)
          have c1 : t3.cell? ⟨g8, 1, none⟩ = some (.int .u32 (Q : Int)) := (N8.out.cell 1).trans (by rw [← hQ]; rfl)
          have HPE := Lib.hid hP
          have HQE := Lib.hid hQ
          clear a1 a2 a3 LB hP hQ hg8
          by_cases hPD : P = D
          · by_cases hQY : Q = Y
            · have HF : Hid (LFit D Y K H) := ⟨HKW.out, HHT.out, by rw [HPE.out, hPD], by rw [HQE.out, hQY]⟩
              have z1 : ((P : Int) == (D : Int)) = true := by simp; omega
              have z2 : ((Q : Int) == (Y : Int)) = true := by simp; omega
              clear hPD hQY
              go_wp2_with (first | (refine wpList_store_blk rfl 65 _ _ rfl g8 (shl K H) shl0 65 rfl rfl A1.out s74 rfl (shl_one K H) ?_; rw [ht3]; clear ht3) | (refine wpList_load_blkU rfl 65 _ rfl g8 rfl (shl K H) 65 N8.out d74 HU.out HD.out s74 ?_) | (refine wpList_store_blk rfl 65 _ _ rfl g4 (shl K H) shl0 65 rfl rfl NB.out.1 s74 rfl (shl_one K H) ?_))
              refine bodyPost_ret (v := .tuple #[.agg (shl K H).toArray, .int .i64 0]) ?_ rfl ?_
              · exact ret_blk2U rfl _ _ g4 65 (shl K H) _ rfl rfl NB.out.1.setRow d74 HU.out HD.out s74
              · exact .inl ⟨K, H, HF.out, rfl, below_setRow' NB.out.2.1 hwg _⟩
            · have z1 : ((P : Int) == (D : Int)) = true := by simp; omega
              have z2 : ((Q : Int) == (Y : Int)) = false := by simp; omega
              have NN : Hid (SW w g4 D Y K (H + 1) t3) := ⟨NB.out.1, NB.out.2.1, fun k h hf => by
                rcases NB.out.2.2 k h hf with h1 | ⟨h1, h2⟩
                · exact .inl h1
                · refine .inr ⟨h1, ?_⟩
                  have : h ≠ H := fun e => hQY (by rw [← HQE.out, ← h1]; exact hf.2.2.2)
                  omega⟩
              clear NB
              go_wp2_with (first | (refine wpList_store_blk rfl 65 _ _ rfl g8 (shl K H) shl0 65 rfl rfl A1.out s74 rfl (shl_one K H) ?_; rw [ht3]; clear ht3))
              go_roundw
              case rel => exact ⟨H + 1, by omega, by omega, by go_num, NN⟩
              case measure => simp [intOf]; omega
          · have z1 : ((P : Int) == (D : Int)) = false := by simp; omega
            have NN : Hid (SW w g4 D Y K (H + 1) t3) := ⟨NB.out.1, NB.out.2.1, fun k h hf => by
                rcases NB.out.2.2 k h hf with h1 | ⟨h1, h2⟩
                · exact .inl h1
                · refine .inr ⟨h1, ?_⟩
                  have : h ≠ H := fun e => hPD (by rw [← HPE.out, ← e]; exact hf.2.2.1)
                  omega⟩
            clear NB
            go_wp2_with (first | (refine wpList_store_blk rfl 65 _ _ rfl g8 (shl K H) shl0 65 rfl rfl A1.out s74 rfl (shl_one K H) ?_; rw [ht3]; clear ht3))
            go_roundw
            case rel => exact ⟨H + 1, by omega, by omega, by go_num, NN⟩
            case measure => simp [intOf]; omega
        · have hH : H = 6 := by omega
          subst hH
          have NN : Hid (SW w g4 D Y (K * 2) 1 wr) := ⟨LL.out.1, LL.out.2.1, fun k h hf => by
            have h3 := hf.2.1.le
            have hk := HKW.out
            rcases LL.out.2.2 k h hf with h1 | ⟨h1, h2⟩
            · rcases hf.1 with rfl | rfl | rfl | rfl <;> rcases hk with rfl | rfl | rfl | rfl <;> omega
            · omega⟩
          have hKK : Wd (K * 2) ∨ K * 2 = 16 := by
            rcases HKW.out with rfl | rfl | rfl | rfl <;> simp [Wd]
          have hK0 : 0 < K := by rcases HKW.out with rfl | rfl | rfl | rfl <;> omega
          obtain ⟨K2, hK2⟩ : ∃ x, K * 2 = x := ⟨_, rfl⟩
          rw [hK2] at NN hKK
          have zz : (K : Int) * 2 = (K2 : Int) := by omega
          have hK16 : K2 ≤ 16 := by omega
          have hKlt : K < K2 := by omega
          have HKK := Lib.hid hKK
          clear hK2 LL hKK
          go_wp2
          go_roundw
          case rel => exact ⟨K2, HKK.out, by go_num, NN⟩
          case measure => simp [intOf]; omega
    · have hK16 : K = 16 := by
        rcases hK with h | h
        · rcases h with rfl | rfl | rfl | rfl <;> omega
        · exact h
      subst hK16
      have HNO : Hid (∀ k h, ¬ LFit D Y k h) := fun k h hf => by
        rcases KK.out.2.2 k h hf with h1 | ⟨h1, h2⟩ <;> rcases hf.1 with rfl | rfl | rfl | rfl <;> omega
      go_wp2_with (first | (refine wpList_store_blk rfl 65 _ _ rfl g4 shl0 shl0 65 rfl rfl KK.out.1 s74 rfl shl0_one ?_))
      refine bodyPost_ret (v := .tuple #[.agg shl0.toArray, .int .i64 3]) ?_ rfl ?_
      · exact ret_blk2U rfl _ _ g4 65 shl0 _ rfl rfl KK.out.1.setRow d74 HU.out HD.out s74
      · exact .inr ⟨HNO.out, rfl, below_setRow' KK.out.2.1 hwg _⟩
end Go.Proofs.YtllncnnigjgadaaGreat

namespace Go.Proofs.YtllncnnigjgadaaGreat
open Go.RowKit

theorem run_sliceFromE (a : Addr) (n c m : Nat) (w : World) (h1 : m ≤ n) (_ : n ≤ c) : (Instr.sliceAt 22 (.slice (some a) n c) (some (.int .i64 (m : Int))) none none).run Tryz.prog w = .ok (.slice (some (if c = m then a else a.add m)) (n - m) (c - m)) w := by
  by_cases hc : c = m
  · simp [Instr.sliceAt, Instr.slice, run_underlying Tryz.underlying22, Instr.sliceBounds, Instr.sliceBound, asIntOf, h1, hc, Sem.run_bind, Result.andThen]
  · simp [Instr.sliceAt, Instr.slice, run_underlying Tryz.underlying22, Instr.sliceBounds, Instr.sliceBound, asIntOf, h1, hc, Sem.run_bind, Result.andThen]
theorem Rd.dropE {B : Nat} {w : World} {a : Addr} {n c : Nat} {l : List UInt8} (h : Rd B w (.slice (some a) n c) l) (m : Nat) (hm : m ≤ n) : Rd B w (.slice (some (if c = m then a else a.add m)) (n - m) (c - m)) (l.drop m) := by
  have := h.drop m hm
  by_cases hc : c = m
  · rw [if_pos hc] at this ⊢; exact this
  · rw [if_neg hc] at this ⊢; exact this

/-- What the loop of climb keeps. -/
def ClAt (w : World) (I : List UInt8) (g4 g9 g8 : Nat) (H s : List UInt8) (v : Value) (wr : World) : Prop :=
  Blk wr g4 (bys I) 29 ∧ Blk wr g9 (bys H) 30 ∧ Blk wr g8 z32 30 ∧ Rd w.heap.size wr v s ∧ Below w.heap.size w wr
theorem ClAt.below {w : World} {I : List UInt8} {g4 g9 g8 : Nat} {H s : List UInt8} {v : Value} {wr w' : World} (h : ClAt w I g4 g9 g8 H s v wr) (hb : Below wr.heap.size wr w') : ClAt w I g4 g9 g8 H s v w' := by
  obtain ⟨h1, h2, h3, h4, h5⟩ := h
  exact ⟨h1.below hb h1.lt, h2.below hb h2.lt, h3.below hb h3.lt, h4.below (hb.mono h5.size), h5.trans (hb.mono h5.size)⟩

set_option maxRecDepth 100000 in
set_option maxHeartbeats 2000000 in
theorem climb_any (I p s : List UInt8) (n r : Nat) (sv : Value) (w : World) (hI : I.length = 16) (hp : p.length = 32) (hn0 : 1 ≤ n) (hn : n ≤ 5) (h1 : 2 ^ n ≤ r) (h2 : r < 2 * 2 ^ n) (hs : s.length = 32 * n) (hsv : Rd w.heap.size w sv s) :
    Calls Tryz.prog 32 #[.agg (bys I).toArray, .int .i64 (r : Int), .agg (bys p).toArray, sv] w (Arr (bys (clm I n r (leafL I r p) s)) w) := by
  have HI := Lib.hid hI
  have HP := Lib.hid hp
  have HSV := Lib.hid hsv
  obtain ⟨a, c, hv, hc, hm⟩ := hsv.some_ (by omega)
  subst hv
  unfold maxLen at hm
  have HSL := Lib.hid hs
  rw [hs] at hc HSV ⊢
  have hp5 : 2 ^ n ≤ 32 := by
    have : n = 1 ∨ n = 2 ∨ n = 3 ∨ n = 4 ∨ n = 5 := by omega
    rcases this with rfl | rfl | rfl | rfl | rfl <;> decide
  have hr64 : r < 64 := by omega
  obtain ⟨X, hX⟩ : ∃ X, leafL I r p = X := ⟨_, rfl⟩
  have hXl : X.length = 32 := by rw [← hX]; exact leafL_length _ _ _
  have HXE := Lib.hid hX
  have HXL := Lib.hid hXl
  obtain ⟨F, hF⟩ : ∃ F, clm I n r X s = F := ⟨_, rfl⟩
  have hFl : F.length = 32 := by rw [← hF]; exact clm_length I n r X s hXl
  have HFE := Lib.hid hF
  rw [hX, hF]
  have H22 : Hid ((Tryz.prog.info? 29).map (·.size) = some (bys I).length) := by show _ = _; rw [bys_length, hI]; exact s22
  have H24p : Hid ((Tryz.prog.info? 30).map (·.size) = some (bys p).length) := by show _ = _; rw [bys_length, hp]; exact s24
  have H24x : Hid ((Tryz.prog.info? 30).map (·.size) = some (bys X).length) := by show _ = _; rw [bys_length, hXl]; exact s24
  have HLZx : Hid (z32.length = (bys X).length) := by show _ = _; rw [bys_length, hXl, z32_length]
  have H24f : Hid ((Tryz.prog.info? 30).map (·.size) = some (bys F).length) := by show _ = _; rw [bys_length, hFl]; exact s24
  have HLZf : Hid (z32.length = (bys F).length) := by show _ = _; rw [bys_length, hFl, z32_length]
  have HB1 := Lib.hid h1
  have HB2 := Lib.hid h2
  clear hI hp hsv hs hX hXl hF hFl h1 h2 hp5
  go_enter Tryz.func32, Tryz.ntmps32
  go_wp2_with (refine wpList_box_blk rfl 29 _ rfl (bys I) rfl ?_)
  intro v1 a1 a2 a3
  have A1 := Lib.hid a1
  have A2 := Lib.hid a2
  have A3 := Lib.hid a3
  clear a1 a2 a3
  go_wp2_with (refine wpList_box_blk rfl 30 _ rfl (bys p) rfl ?_)
  intro v2 a1 a2 a3
  rw [A2.out] at a1 a2 a3 ⊢
  have E0 : Hid (Blk v2 w.heap.size (bys I) 29) := A1.out.below a3 (by omega)
  have E1 : Hid (Blk v2 (w.heap.size + 1) (bys p) 30) := a1
  have EB : Hid (Below w.heap.size w v2) := A3.out.trans (a3.mono (by omega))
  have ES := Lib.hid a2
  clear a1 a2 a3 A1 A2 A3
  go_wp2_with (refine wpList_alloc_blk rfl 30 rfl _ z24 ?_)
  intro v3 a1 a2 a3
  rw [ES.out] at a1 a2 a3 ⊢
  obtain ⟨g4, hg4⟩ : ∃ g, w.heap.size = g := ⟨_, rfl⟩
  obtain ⟨g6, hg6⟩ : ∃ g, g4 + 1 = g := ⟨_, rfl⟩
  obtain ⟨g8, hg8⟩ : ∃ g, g6 + 1 = g := ⟨_, rfl⟩
  have G4 : Hid (Blk v3 g4 (bys I) 29) := by rw [← hg4]; exact E0.out.below a3 (by omega)
  have G6 : Hid (Blk v3 g6 (bys p) 30) := by rw [← hg6, ← hg4]; exact E1.out.below a3 (by omega)
  have G8 : Hid (Blk v3 g8 z32 30) := by rw [← hg8, ← hg6, ← hg4]; exact a1
  have GB : Hid (Below w.heap.size w v3) := EB.out.trans (a3.mono (by omega))
  have hw8 : w.heap.size ≤ g8 := by omega
  have hw4 : w.heap.size ≤ g4 := by omega
  have hg48 : g4 < g8 := by omega
  rw [hg4, hg6, hg8]
  clear a1 a2 a3 E0 E1 EB ES hg4 hg6 hg8
  go_wp2_with (first | (refine wpList_load_blk rfl 29 _ rfl g4 rfl (bys I) 29 G4.out 16 5 tu22 H22.out ?_) | (refine wpList_load_blk rfl 30 _ rfl g6 rfl (bys p) 30 G6.out 32 5 tu24 H24p.out ?_))
  refine (leafHash_any I p r _ HI.out HP.out (by omega)).mono ?_
  rintro e w1 ⟨rfl, hb⟩
  rw [HXE.out]
  have I4 : Hid (Blk w1 g4 (bys I) 29) := G4.out.below hb G4.out.lt
  have I8 : Hid (Blk w1 g8 z32 30) := G8.out.below hb G8.out.lt
  have IB : Hid (Below w.heap.size w w1) := GB.out.trans (hb.mono GB.out.size)
  have hl8 : g8 < w1.heap.size := I8.out.lt
  clear hb G4 G6 G8 GB
  go_wp2_with (refine wpList_alloc_blk rfl 30 rfl _ z24 ?_)
  intro w2 a1 a2 a3
  obtain ⟨g9, hg9⟩ : ∃ g, w1.heap.size = g := ⟨_, rfl⟩
  rw [hg9] at a1 a2 a3 hl8 ⊢
  have A1 := Lib.hid a1
  obtain ⟨t2, ht2⟩ : ∃ t, w2.setRow g9 (bys X).toArray = t := ⟨_, rfl⟩
  have hbt : Below w.heap.size w t2 := by rw [← ht2]; exact below_setRow' (IB.out.trans (a3.mono (by omega))) (by omega) _
  have K0 : Hid (ClAt w I g4 g9 g8 X s (.slice (some a) (32 * n) c) t2) := ⟨by rw [← ht2]; exact (I4.out.below a3 (by omega)).setRowOther (by omega), by rw [← ht2]; exact a1.setRow, by rw [← ht2]; exact (I8.out.below a3 (by omega)).setRowOther (by omega), HSV.out.below hbt, hbt⟩
  have hg89 : g8 < g9 := hl8
  clear a1 a2 a3 hg9 I4 I8 IB hbt hl8
  go_wp2_with (first | (refine wpList_store_blk rfl 30 _ _ rfl g9 (bys X) z32 30 rfl rfl A1.out H24x.out HLZx.out (bys_one' _) ?_; rw [ht2]; clear ht2))
  simp only [Act.put]
  go_loopw [1, 3] (fun x v wr => ∃ (m R : Nat) (H s' : List UInt8) (a' : Addr) (c' : Nat), m ≤ n ∧ x = .int .i64 (R : Int) ∧ v = .slice (some a') (32 * m) c' ∧ 32 * m ≤ c' ∧ c' ≤ 2 ^ 63 - 1 ∧ R < 64 ∧ Hid (s'.length = 32 * m) ∧ Hid (2 ^ m ≤ R) ∧ Hid (R < 2 * 2 ^ m) ∧ Hid (H.length = 32) ∧ Hid (clm I m R H s' = F) ∧ Hid (ClAt w I g4 g9 g8 H s' v wr)) (fun x _ _ => (intOf x).toNat)
  case atStart => exact ⟨n, r, X, s, a, c, Nat.le_refl _, rfl, rfl, hc, hm, hr64, HSL, HB1, HB2, HXL, HFE, K0⟩
  case round =>
    clear K0
    obtain ⟨m, R, H, s', a', c', hmn, rfl, rfl, hc', hm', hR64, HS', HR1, HR2, HHL, HCL, KK⟩ := hrel
    cases m with
    | zero =>
      have hR1 : R = 1 := by have e1 := HR1.out; have e2 := HR2.out; rw [Nat.pow_zero] at e1 e2; omega
      subst hR1
      have hHF : H = F := HCL.out
      subst hHF
      go_wp2_with (first | (refine wpList_load_blk rfl 30 _ rfl g9 rfl (bys H) 30 KK.out.2.1 32 5 tu24 H24f.out ?_) | (refine wpList_store_blk rfl 30 _ _ rfl g8 (bys H) z32 30 rfl rfl KK.out.2.2.1 H24f.out HLZf.out (bys_one' _) ?_))
      refine bodyPost_ret (v := .agg (bys H).toArray) ?_ rfl ?_
      · exact ret_blk rfl _ _ g8 30 _ rfl KK.out.2.2.1.setRow 32 5 tu24 H24f.out
      · exact ⟨rfl, below_setRow' KK.out.2.2.2.2 hw8 _⟩
    | succ m =>
      have hpm : 1 ≤ 2 ^ m := Nat.pow_pos (by omega)
      have hR2 : 2 ≤ R := by have e1 := HR1.out; rw [Nat.pow_succ] at e1; omega
      have zR : (1 : Int) < (R : Int) := by omega
      have hQ1 : Hid (2 ^ m ≤ R / 2) := by show _ ≤ _; have e1 := HR1.out; rw [Nat.pow_succ] at e1; omega
      have hQ2 : Hid (R / 2 < 2 * 2 ^ m) := by show _ < _; have e1 := HR2.out; rw [Nat.pow_succ] at e1; omega
      obtain ⟨T, hT⟩ : ∃ T, s'.take 32 = T := ⟨_, rfl⟩
      have hTl : T.length = 32 := by rw [← hT, List.length_take, HS'.out]; omega
      have HTE := Lib.hid hT
      have HTL := Lib.hid hTl
      have H24t : Hid ((Tryz.prog.info? 30).map (·.size) = some (bys T).length) := by show _ = _; rw [bys_length, hTl]; exact s24
      have H24h : Hid ((Tryz.prog.info? 30).map (·.size) = some (bys H).length) := by show _ = _; rw [bys_length, HHL.out]; exact s24
      have hDl : Hid ((s'.drop 32).length = 32 * m) := by show _ = _; rw [List.length_drop, HS'.out]; omega
      have HTK : Hid ((s'.take 32).length = 32) := by show _ = _; rw [hT]; exact hTl
      have HOV : Hid (z32.take 0 ++ (bys (s'.take 32) ++ z32.drop (0 + (s'.take 32).length)) = bys T) := by show _ = _; rw [hT, hTl]; simp [z32, bys]
      clear hT hTl hpm
      have hl9 : g9 < wr.heap.size := KK.out.2.1.lt
      have hwr := KK.out.2.2.2.2.size
      go_wp2_with (refine wpList_alloc_blk rfl 30 rfl _ z24 ?_)
      intro w3 a1 a2 a3
      obtain ⟨g10, hg10⟩ : ∃ g, wr.heap.size = g := ⟨_, rfl⟩
      have K1 := Lib.hid (KK.out.below a3)
      rw [hg10] at a1 a2 a3 hl9 hwr ⊢
      have A10 := Lib.hid a1
      have hss := run_sliceFromE a' (32 * (m + 1)) c' 32
      clear a1 a2 a3 hg10 KK A1
      go_wp2_with (refine wpList_copy_to rfl _ _ 22 rfl 5 Tryz.underlying22 s5 g10 0 32 32 _ rfl rfl z32 30 A10.out w.heap.size s' K1.out.2.2.2.1 (by rw [z32_length]; omega) 32 HTK.out (bys T) HOV.out ?_)
      intro w4 h4 hb4
      have K2 : Hid (ClAt w I g4 g9 g8 H s' (.slice (some a') (32 * (m + 1)) c') w4) := by
        obtain ⟨f1, f2, f3, f4, f5⟩ := K1.out
        have hbb : Below w.heap.size w3 w4 := hb4.below hwr f5.size
        exact ⟨hb4.blk f1 (by omega), hb4.blk f2 (by omega), hb4.blk f3 (by omega), f4.below hbb, f5.trans hbb⟩
      have A11 := Lib.hid h4
      have hl10 : g10 < w4.heap.size := A11.out.lt
      clear h4 hb4 K1 A10
      have hln : 32 * (m + 1) - 32 = 32 * m := by omega
      by_cases hc32 : c' = 32
      · have hm0 : m = 0 := by omega
        subst hm0
        subst hc32
        have K3 : Hid (ClAt w I g4 g9 g8 H (s'.drop 32) (.slice (some a') (32 * 0) 0) w4) := by
          obtain ⟨f1, f2, f3, f4, f5⟩ := K2.out
          have hd := f4.dropE 32 (by omega)
          rw [if_pos rfl] at hd
          exact ⟨f1, f2, f3, hd, f5⟩
        clear K2 hss hln
        go_wp2_with fail
        refine (siblingL_any R _ (by omega) (by omega)).mono ?_
        rintro e w5 ⟨rfl, hb⟩
        have K4 := Lib.hid (K3.out.below hb)
        have A12 : Hid (Blk w5 g10 (bys T) 30) := A11.out.below hb hl10
        clear hb K3 A11 hl10
        have zq : (R : Int) / 2 = ((R / 2 : Nat) : Int) := by omega
        have zt : Int.tdiv (R : Int) 2 = ((R / 2 : Nat) : Int) := by rw [Int.tdiv_eq_ediv_of_nonneg (by omega)]; exact zq
        obtain ⟨Q, hQ⟩ : ∃ x, R / 2 = x := ⟨_, rfl⟩
        rw [hQ] at zq zt hQ1 hQ2
        have hQR : Q < R := by omega
        have HQE := Lib.hid hQ
        by_cases hev : R % 2 = 0
        · have hsb : ((sbr R : Nat) : Int) = (R : Int) + 1 := by unfold sbr; rw [if_pos hev]; omega
          rw [hsb]
          obtain ⟨U, hU⟩ : ∃ U, upL I Q H T = U := ⟨_, rfl⟩
          have hUl : U.length = 32 := by rw [← hU]; exact upL_length _ _ _ _
          have HUE := Lib.hid hU
          have HUL := Lib.hid hUl
          have H24u : Hid ((Tryz.prog.info? 30).map (·.size) = some (bys U).length) := by show _ = _; rw [bys_length, hUl]; exact s24
          have HLU : Hid ((bys H).length = (bys U).length) := by show _ = _; rw [bys_length, bys_length, hUl, HHL.out]
          have HC2 : Hid (clm I 0 Q U (s'.drop 32) = F) := by
            have e := HCL.out
            rw [clm, if_pos hev, HTE.out, HQE.out, hU] at e
            exact e
          have zgt : (R : Int) < (R : Int) + 1 := by omega
          clear hsb hU hUl hQ hev
          go_wp2_with (first | (refine wpList_load_blk rfl 29 _ rfl g4 rfl (bys I) 29 K4.out.1 16 5 tu22 H22.out ?_) | (refine wpList_load_blk rfl 30 _ rfl g9 rfl (bys H) 30 K4.out.2.1 32 5 tu24 H24h.out ?_) | (refine wpList_load_blk rfl 30 _ rfl g10 rfl (bys T) 30 A12.out 32 5 tu24 H24t.out ?_))
          refine (upperHash_any I H T Q _ HI.out HHL.out HTL.out (by omega)).mono ?_
          rintro e w6 ⟨rfl, hb⟩
          rw [HUE.out]
          have K5 := Lib.hid (K4.out.below hb)
          clear hb K4 A12
          have K6 : Hid (ClAt w I g4 g9 g8 U (s'.drop 32) (.slice (some a') (32 * 0) (0)) (w6.setRow g9 (bys U).toArray)) := by
            obtain ⟨f1, f2, f3, f4, f5⟩ := K5.out
            have hbb : Below w.heap.size w6 (w6.setRow g9 (bys U).toArray) := below_setRow' (Below.refl _ _) (by omega) _
            exact ⟨f1.setRowOther (by omega), f2.setRow, f3.setRowOther (by omega), f4.below hbb, f5.trans hbb⟩
          go_wp2_with (refine wpList_store_blk rfl 30 _ _ rfl g9 (bys U) (bys H) 30 rfl rfl K5.out.2.1 H24u.out HLU.out (bys_one' _) ?_)
          go_roundw
          case rel => exact ⟨0, Q, U, s'.drop 32, a', 0, by omega, by go_num, rfl, by omega, by omega, by omega, hDl, hQ1, hQ2, HUL, HC2, K6⟩
          case measure => simp [intOf]; omega
        · have hsb : ((sbr R : Nat) : Int) = (R : Int) - 1 := by unfold sbr; rw [if_neg hev]; omega
          rw [hsb]
          obtain ⟨U, hU⟩ : ∃ U, upL I Q T H = U := ⟨_, rfl⟩
          have hUl : U.length = 32 := by rw [← hU]; exact upL_length _ _ _ _
          have HUE := Lib.hid hU
          have HUL := Lib.hid hUl
          have H24u : Hid ((Tryz.prog.info? 30).map (·.size) = some (bys U).length) := by show _ = _; rw [bys_length, hUl]; exact s24
          have HLU : Hid ((bys H).length = (bys U).length) := by show _ = _; rw [bys_length, bys_length, hUl, HHL.out]
          have HC2 : Hid (clm I 0 Q U (s'.drop 32) = F) := by
            have e := HCL.out
            rw [clm, if_neg hev, HTE.out, HQE.out, hU] at e
            exact e
          have zgt : ¬ ((R : Int) < (R : Int) - 1) := by omega
          clear hsb hU hUl hQ hev
          go_wp2_with (first | (refine wpList_load_blk rfl 29 _ rfl g4 rfl (bys I) 29 K4.out.1 16 5 tu22 H22.out ?_) | (refine wpList_load_blk rfl 30 _ rfl g9 rfl (bys H) 30 K4.out.2.1 32 5 tu24 H24h.out ?_) | (refine wpList_load_blk rfl 30 _ rfl g10 rfl (bys T) 30 A12.out 32 5 tu24 H24t.out ?_))
          refine (upperHash_any I T H Q _ HI.out HTL.out HHL.out (by omega)).mono ?_
          rintro e w6 ⟨rfl, hb⟩
          rw [HUE.out]
          have K5 := Lib.hid (K4.out.below hb)
          clear hb K4 A12
          have K6 : Hid (ClAt w I g4 g9 g8 U (s'.drop 32) (.slice (some a') (32 * 0) (0)) (w6.setRow g9 (bys U).toArray)) := by
            obtain ⟨f1, f2, f3, f4, f5⟩ := K5.out
            have hbb : Below w.heap.size w6 (w6.setRow g9 (bys U).toArray) := below_setRow' (Below.refl _ _) (by omega) _
            exact ⟨f1.setRowOther (by omega), f2.setRow, f3.setRowOther (by omega), f4.below hbb, f5.trans hbb⟩
          go_wp2_with (refine wpList_store_blk rfl 30 _ _ rfl g9 (bys U) (bys H) 30 rfl rfl K5.out.2.1 H24u.out HLU.out (bys_one' _) ?_)
          go_roundw
          case rel => exact ⟨0, Q, U, s'.drop 32, a', 0, by omega, by go_num, rfl, by omega, by omega, by omega, hDl, hQ1, hQ2, HUL, HC2, K6⟩
          case measure => simp [intOf]; omega
      · obtain ⟨a2, ha2⟩ : ∃ x : Addr, x = ⟨a'.block, a'.off + 32, none⟩ := ⟨_, rfl⟩
        have K3 : Hid (ClAt w I g4 g9 g8 H (s'.drop 32) (.slice (some ⟨a'.block, a'.off + 32, none⟩) (32 * m) (c' - 32)) w4) := by
          obtain ⟨f1, f2, f3, f4, f5⟩ := K2.out
          have hd := f4.dropE 32 (by omega)
          rw [if_neg hc32, hln, show a'.add 32 = ⟨a'.block, a'.off + 32, none⟩ by simp [Addr.add]] at hd
          exact ⟨f1, f2, f3, hd, f5⟩
        clear K2 hss ha2
        go_wp2_with fail
        refine (siblingL_any R _ (by omega) (by omega)).mono ?_
        rintro e w5 ⟨rfl, hb⟩
        have K4 := Lib.hid (K3.out.below hb)
        have A12 : Hid (Blk w5 g10 (bys T) 30) := A11.out.below hb hl10
        clear hb K3 A11 hl10
        have zq : (R : Int) / 2 = ((R / 2 : Nat) : Int) := by omega
        have zt : Int.tdiv (R : Int) 2 = ((R / 2 : Nat) : Int) := by rw [Int.tdiv_eq_ediv_of_nonneg (by omega)]; exact zq
        obtain ⟨Q, hQ⟩ : ∃ x, R / 2 = x := ⟨_, rfl⟩
        rw [hQ] at zq zt hQ1 hQ2
        have hQR : Q < R := by omega
        have HQE := Lib.hid hQ
        by_cases hev : R % 2 = 0
        · have hsb : ((sbr R : Nat) : Int) = (R : Int) + 1 := by unfold sbr; rw [if_pos hev]; omega
          rw [hsb]
          obtain ⟨U, hU⟩ : ∃ U, upL I Q H T = U := ⟨_, rfl⟩
          have hUl : U.length = 32 := by rw [← hU]; exact upL_length _ _ _ _
          have HUE := Lib.hid hU
          have HUL := Lib.hid hUl
          have H24u : Hid ((Tryz.prog.info? 30).map (·.size) = some (bys U).length) := by show _ = _; rw [bys_length, hUl]; exact s24
          have HLU : Hid ((bys H).length = (bys U).length) := by show _ = _; rw [bys_length, bys_length, hUl, HHL.out]
          have HC2 : Hid (clm I m Q U (s'.drop 32) = F) := by
            have e := HCL.out
            rw [clm, if_pos hev, HTE.out, HQE.out, hU] at e
            exact e
          have zgt : (R : Int) < (R : Int) + 1 := by omega
          clear hsb hU hUl hQ hev
          go_wp2_with (first | (refine wpList_load_blk rfl 29 _ rfl g4 rfl (bys I) 29 K4.out.1 16 5 tu22 H22.out ?_) | (refine wpList_load_blk rfl 30 _ rfl g9 rfl (bys H) 30 K4.out.2.1 32 5 tu24 H24h.out ?_) | (refine wpList_load_blk rfl 30 _ rfl g10 rfl (bys T) 30 A12.out 32 5 tu24 H24t.out ?_))
          refine (upperHash_any I H T Q _ HI.out HHL.out HTL.out (by omega)).mono ?_
          rintro e w6 ⟨rfl, hb⟩
          rw [HUE.out]
          have K5 := Lib.hid (K4.out.below hb)
          clear hb K4 A12
          have K6 : Hid (ClAt w I g4 g9 g8 U (s'.drop 32) (.slice (some ⟨a'.block, a'.off + 32, none⟩) (32 * m) (c' - 32)) (w6.setRow g9 (bys U).toArray)) := by
            obtain ⟨f1, f2, f3, f4, f5⟩ := K5.out
            have hbb : Below w.heap.size w6 (w6.setRow g9 (bys U).toArray) := below_setRow' (Below.refl _ _) (by omega) _
            exact ⟨f1.setRowOther (by omega), f2.setRow, f3.setRowOther (by omega), f4.below hbb, f5.trans hbb⟩
          go_wp2_with (refine wpList_store_blk rfl 30 _ _ rfl g9 (bys U) (bys H) 30 rfl rfl K5.out.2.1 H24u.out HLU.out (bys_one' _) ?_)
          go_roundw
          case rel => exact ⟨m, Q, U, s'.drop 32, ⟨a'.block, a'.off + 32, none⟩, c' - 32, by omega, by go_num, rfl, by omega, by omega, by omega, hDl, hQ1, hQ2, HUL, HC2, K6⟩
          case measure => simp [intOf]; omega
        · have hsb : ((sbr R : Nat) : Int) = (R : Int) - 1 := by unfold sbr; rw [if_neg hev]; omega
          rw [hsb]
          obtain ⟨U, hU⟩ : ∃ U, upL I Q T H = U := ⟨_, rfl⟩
          have hUl : U.length = 32 := by rw [← hU]; exact upL_length _ _ _ _
          have HUE := Lib.hid hU
          have HUL := Lib.hid hUl
          have H24u : Hid ((Tryz.prog.info? 30).map (·.size) = some (bys U).length) := by show _ = _; rw [bys_length, hUl]; exact s24
          have HLU : Hid ((bys H).length = (bys U).length) := by show _ = _; rw [bys_length, bys_length, hUl, HHL.out]
          have HC2 : Hid (clm I m Q U (s'.drop 32) = F) := by
            have e := HCL.out
            rw [clm, if_neg hev, HTE.out, HQE.out, hU] at e
            exact e
          have zgt : ¬ ((R : Int) < (R : Int) - 1) := by omega
          clear hsb hU hUl hQ hev
          go_wp2_with (first | (refine wpList_load_blk rfl 29 _ rfl g4 rfl (bys I) 29 K4.out.1 16 5 tu22 H22.out ?_) | (refine wpList_load_blk rfl 30 _ rfl g9 rfl (bys H) 30 K4.out.2.1 32 5 tu24 H24h.out ?_) | (refine wpList_load_blk rfl 30 _ rfl g10 rfl (bys T) 30 A12.out 32 5 tu24 H24t.out ?_))
          refine (upperHash_any I T H Q _ HI.out HTL.out HHL.out (by omega)).mono ?_
          rintro e w6 ⟨rfl, hb⟩
          rw [HUE.out]
          have K5 := Lib.hid (K4.out.below hb)
          clear hb K4 A12
          have K6 : Hid (ClAt w I g4 g9 g8 U (s'.drop 32) (.slice (some ⟨a'.block, a'.off + 32, none⟩) (32 * m) (c' - 32)) (w6.setRow g9 (bys U).toArray)) := by
            obtain ⟨f1, f2, f3, f4, f5⟩ := K5.out
            have hbb : Below w.heap.size w6 (w6.setRow g9 (bys U).toArray) := below_setRow' (Below.refl _ _) (by omega) _
            exact ⟨f1.setRowOther (by omega), f2.setRow, f3.setRowOther (by omega), f4.below hbb, f5.trans hbb⟩
          go_wp2_with (refine wpList_store_blk rfl 30 _ _ rfl g9 (bys U) (bys H) 30 rfl rfl K5.out.2.1 H24u.out HLU.out (bys_one' _) ?_)
          go_roundw
          case rel => exact ⟨m, Q, U, s'.drop 32, ⟨a'.block, a'.off + 32, none⟩, c' - 32, by omega, by go_num, rfl, by omega, by omega, by omega, hDl, hQ1, hQ2, HUL, HC2, K6⟩
          case measure => simp [intOf]; omega
end Go.Proofs.YtllncnnigjgadaaGreat

namespace Go.Proofs.YtllncnnigjgadaaGreat
open Go.RowKit

theorem LFit.uniq {D Y k h k' h' : Nat} (a : LFit D Y k h) (b : LFit D Y k' h') : k = k' ∧ h = h' := by
  obtain ⟨a1, a2, a3, a4⟩ := a
  obtain ⟨b1, b2, b3, b4⟩ := b
  refine ⟨?_, ?_⟩
  · rw [← b4] at a4
    rcases a1 with rfl | rfl | rfl | rfl <;> rcases b1 with rfl | rfl | rfl | rfl <;> first | rfl | (simp [typ] at a4)
  · rw [← b3] at a3
    rcases a2 with rfl | rfl | rfl | rfl | rfl <;> rcases b2 with rfl | rfl | rfl | rfl | rfl <;> first | rfl | (simp [knd] at a3)
theorem shapeWith_yes (D Y k h : Nat) (w : World) (hf : LFit D Y k h) : Calls Tryz.prog 53 #[.int .u32 (D : Int), .int .u32 (Y : Int)] w (TwoD (.agg (shl k h).toArray) (.int .i64 0) w) := by
  refine (shapeWith_any D Y w).mono ?_
  rintro e w' (⟨k', h', hf', H⟩ | ⟨hn, _⟩)
  · obtain ⟨rfl, rfl⟩ := hf.uniq hf'
    exact H
  · exact absurd hf (hn k h)
theorem shapeWith_no (D Y : Nat) (w : World) (hf : ∀ k h, ¬ LFit D Y k h) : Calls Tryz.prog 53 #[.int .u32 (D : Int), .int .u32 (Y : Int)] w (TwoD (.agg shl0.toArray) (.int .i64 3) w) := by
  refine (shapeWith_any D Y w).mono ?_
  rintro e w' (⟨k', h', hf', H⟩ | ⟨hn, H⟩)
  · exact absurd hf' (hf k' h')
  · exact H

/-- The cells of a key. -/
def kyl (S : List Value) (I R : List UInt8) : List Value := S ++ (bys I ++ bys R)
theorem kyl_length (S : List Value) (I R : List UInt8) (hS : S.length = 4) (hI : I.length = 16) (hR : R.length = 32) : (kyl S I R).length = 52 := by simp [kyl, bys_length, hS, hI, hR]
def K16 : List UInt8 := List.replicate 16 0
def K32 : List UInt8 := List.replicate 32 0
def kyl0 : List Value := kyl shl0 K16 K32
theorem zi88 : (Tryz.prog.info? 67).map (·.zero) = some (some (.agg kyl0.toArray)) := by kernel_rfl
theorem s88 : (Tryz.prog.info? 67).map (·.size) = some 52 := by kernel_rfl
theorem s88' (S : List Value) (I R : List UInt8) (hS : S.length = 4) (hI : I.length = 16) (hR : R.length = 32) : (Tryz.prog.info? 67).map (·.size) = some (kyl S I R).length := by rw [kyl_length S I R hS hI hR]; exact s88
theorem row88 : ∃ d, Tryz.prog.underlying 67 = some d ∧ d.isRow = true := row_of (by kernel_rfl)
theorem kyl_one (S : List Value) (I R : List UInt8) (hS : S.toArray.all (·.oneCell') = true) : (kyl S I R).toArray.all (·.oneCell') = true := by
  rw [Array.all_eq_true_iff_forall_mem] at hS ⊢
  intro v hv
  simp only [kyl, List.mem_toArray, List.mem_append] at hv
  rcases hv with h | h | h
  · exact hS v (by simpa using h)
  · exact bys_one _ _ h
  · exact bys_one _ _ h
theorem kyl0_one : kyl0.toArray.all (·.oneCell') = true := kyl_one _ _ _ shl0_one
theorem kyl0_len : kyl0.length = 52 := kyl_length _ _ _ rfl rfl rfl
theorem s88z : (Tryz.prog.info? 67).map (·.size) = some kyl0.length := by rw [kyl0_len]; exact s88

set_option maxRecDepth 100000 in
set_option maxHeartbeats 400000 in
theorem keyIn_len (v : Value) (p : List UInt8) (w : World) (hr : Rd w.heap.size w v p) (hl : p.length ≠ 56) : Calls Tryz.prog 29 #[v] w (TwoD (.agg kyl0.toArray) (.int .i64 3) w) := by
  obtain ⟨A, c, rfl, hc, hm⟩ := hr.shape
  unfold maxLen at hm
  obtain ⟨n, hn⟩ : ∃ n, p.length = n := ⟨_, rfl⟩
  rw [hn] at hl hc ⊢
  have z : ((n : Int) != 56) = true := by simp; omega
  obtain ⟨d88, hu88, hd88⟩ := row88
  have HU := Lib.hid hu88
  have HD := Lib.hid hd88
  clear hr hn hu88 hd88
  go_enter Tryz.func29, Tryz.ntmps29
  go_wp2_with (refine wpList_alloc_blk rfl 67 rfl _ zi88 ?_)
  intro w1 a1 a2 a3
  obtain ⟨g2, hg2⟩ : ∃ g, w.heap.size = g := ⟨_, rfl⟩
  rw [hg2] at a1 a2 a3 ⊢
  have A1 := Lib.hid a1
  have A2 := Lib.hid a2
  have A3 : Hid (Below w.heap.size w w1) := by rw [hg2]; exact a3
  have hw2 : w.heap.size ≤ g2 := by omega
  clear a1 a2 a3 hg2
  go_wp2
  refine wp_scope_goto 0 rfl ?_
  go_wp2_with (refine wpList_alloc_blk rfl 67 rfl _ zi88 ?_)
  intro w2 a1 a2 a3
  have hs1 := A2.out
  have G2 : Hid (Blk w2 g2 kyl0 67) := A1.out.below a3 (by omega)
  have GB : Hid (Below w.heap.size w w2) := A3.out.trans (a3.mono (by omega))
  clear a1 a2 a3 A1 A2 A3 hs1
  go_wp2
  refine wp_goto ⟨rfl, ?_⟩
  go_wp2_with (first | (refine wpList_buildTo rfl 67 _ rfl (some 32) rfl kyl0.toArray (by kernel_rfl) ?_) | (refine wpList_store_blk rfl 67 _ _ rfl g2 kyl0 kyl0 67 rfl rfl G2.out s88z rfl kyl0_one ?_))
  rw [Exit.noGoto_ret]
  refine bodyPost_ret (v := .tuple #[.agg kyl0.toArray, .int .i64 3]) ?_ rfl ?_
  · exact ret_blk2U rfl _ _ g2 67 kyl0 _ rfl rfl G2.out.setRow d88 HU.out HD.out s88z
  · exact ⟨rfl, below_setRow' GB.out hw2 _⟩

theorem kyl_shape (S S' : List Value) (I R : List UInt8) (hS : S.length = 4) (hS' : S'.length = 4) : (kyl S I R).take 0 ++ (S' ++ (kyl S I R).drop (0 + S'.length)) = kyl S' I R := by
  unfold kyl
  rw [List.take_zero, List.nil_append, hS', Nat.zero_add, List.drop_append, List.drop_of_length_le (by omega), hS, List.nil_append]
  rfl
theorem kyl_name (S : List Value) (I I' R : List UInt8) (hS : S.length = 4) (hI : I.length = 16) (hI' : I'.length = 16) : (kyl S I R).take 4 ++ (bys I' ++ (kyl S I R).drop (4 + I'.length)) = kyl S I' R := by
  unfold kyl
  rw [List.take_append_of_le_length (by omega), List.take_of_length_le (by omega), hI', List.drop_append, List.drop_of_length_le (by omega), hS, List.nil_append, show 4 + 16 - 4 = 16 from rfl, List.drop_append, List.drop_of_length_le (by rw [bys_length]; omega), bys_length, hI, List.nil_append]
  rfl
theorem kyl_root (S : List Value) (I R R' : List UInt8) (hS : S.length = 4) (hI : I.length = 16) (hR : R.length = 32) (hR' : R'.length = 32) : (kyl S I R).take 20 ++ (bys R' ++ (kyl S I R).drop (20 + R'.length)) = kyl S I R' := by
  unfold kyl
  rw [List.take_append, List.take_of_length_le (by omega), hS, show 20 - 4 = 16 from rfl, List.take_append_of_le_length (by rw [bys_length]; omega), List.take_of_length_le (by rw [bys_length]; omega), List.drop_of_length_le (by simp [bys_length]; omega), List.append_nil, List.append_assoc]

set_option maxRecDepth 100000 in
set_option maxHeartbeats 2000000 in
theorem keyIn_no (v : Value) (p : List UInt8) (w : World) (hr : Rd w.heap.size w v p) (hl : p.length = 56) (hf : ∀ k h, ¬ LFit (wd p 0) (wd (p.drop 4) 0) k h) : Calls Tryz.prog 29 #[v] w (TwoD (.agg kyl0.toArray) (.int .i64 3) w) := by
  have HR := Lib.hid hr
  have HPL := Lib.hid hl
  obtain ⟨a, c, hv, hc, hm⟩ := hr.some_ (by omega)
  subst hv
  unfold maxLen at hm
  rw [hl] at hc HR ⊢
  obtain ⟨D, hD⟩ : ∃ D, wd p 0 = D := ⟨_, rfl⟩
  obtain ⟨Y, hY⟩ : ∃ Y, wd (p.drop 4) 0 = Y := ⟨_, rfl⟩
  rw [hD, hY] at hf
  have HDE := Lib.hid hD
  have HYE := Lib.hid hY
  have HF := Lib.hid hf
  obtain ⟨d88, hu88, hd88⟩ := row88
  have HU := Lib.hid hu88
  have HD := Lib.hid hd88
  have HDR : Hid (Rd w.heap.size w (.slice (some (a.add 4)) (56 - 4) (c - 4)) (p.drop 4)) := by
    have h := HR.out.drop 4 (by omega)
    rw [if_neg (by omega)] at h
    exact h
  clear hr hl hD hY hf hu88 hd88
  go_enter Tryz.func29, Tryz.ntmps29
  go_wp2_with (refine wpList_alloc_blk rfl 67 rfl _ zi88 ?_)
  intro w1 a1 a2 a3
  obtain ⟨g2, hg2⟩ : ∃ g, w.heap.size = g := ⟨_, rfl⟩
  rw [hg2] at a1 a2 a3 ⊢
  have A1 := Lib.hid a1
  have A2 := Lib.hid a2
  have A3 : Hid (Below w.heap.size w w1) := by rw [hg2]; exact a3
  have hw2 : w.heap.size ≤ g2 := by omega
  clear a1 a2 a3 hg2
  go_wp2
  refine wp_scope_goto 0 rfl ?_
  go_wp2_with (refine wpList_alloc_blk rfl 67 rfl _ zi88 ?_)
  intro w2 a1 a2 a3
  have hs1 := A2.out
  obtain ⟨g4, hg4⟩ : ∃ g, w1.heap.size = g := ⟨_, rfl⟩
  rw [hg4] at a1 a2 a3 hs1 ⊢
  have G2 : Hid (Blk w2 g2 kyl0 67) := A1.out.below a3 (by omega)
  have G4 : Hid (Blk w2 g4 kyl0 67) := a1
  have GB : Hid (Below w.heap.size w w2) := A3.out.trans (a3.mono (by have := A3.out.size; omega))
  have hg24 : g2 < g4 := by omega
  clear a1 a2 a3 A1 A2 A3 hs1 hg4
  go_wp2
  refine wp_region_rely3 7 5 (fun x => ⟨#[.slice (some a) 56 c, undef, .pointer (some ⟨g2, 0, none⟩), .int .i64 0, .pointer (some ⟨g4, 0, none⟩), .int .i64 3, .slice (some a) 56 c, .int .i64 56, .bool false, x 6, x 0, x 1, x 2, x 3, x 4, x 5, undef, undef, undef, undef, undef, undef, undef, undef, undef, undef, undef, undef, undef, undef, undef, undef, undef, undef], []⟩) (fun jj => ([eqV (.slice (some a) 56 c), (eqV (.int .u32 (D : Int))), eqV (.slice (some a) 56 c), eqV (.slice (some (a.add 4)) 52 (c - 4)), (eqV (.int .u32 (Y : Int))), (eqV (.tuple #[.agg (shl0).toArray, .int .i64 3])), eqV (.tuple #[.agg (shl0).toArray, .int .i64 3])] : List (Value → World → Prop)).getD jj (fun _ _ => True)) rfl ⟨fun kk => [_, _, _, _, _, _, _].getD kk undef, rfl⟩ (by kernel_rfl) (by kernel_rfl) ?steps ?fin
  case steps =>
    refine StepsAt.val 0 (.slice (some a) 56 c) rfl (fun _ _ => rfl) rfl rfl (fun x w9 hb hd => ?_) ?_
    · first | (go_simp; done) | (go_simp; rfl)
    refine StepsAt.cons 1 (fun _ _ _ h hb => h) (fun _ _ => rfl) rfl rfl (fun x w9 hb hd K hK => ?_) ?_
    · have h0 : Hid (x 0 = .slice (some a) 56 c) := hd 0 (by kernel_rfl)
      go_simp
      refine calls_args (args2 := #[.slice (some a) 56 c]) (by rw [h0.out]) ?_
      refine (numberL_any w.heap.size _ p _ ((HR.out.below GB.out).below (hb.mono GB.out.size)) (by rw [HPL.out]; omega)).mono ?_
      rintro e w5 ⟨rfl, nd, rfl⟩
      rw [HDE.out]
      exact hK.out _ _ (below_drewN (Below.refl _ _) _) rfl
    refine StepsAt.val 2 (.slice (some a) 56 c) rfl (fun _ _ => rfl) rfl rfl (fun x w9 hb hd => ?_) ?_
    · first | (go_simp; done) | (go_simp; rfl)
    refine StepsAt.val 3 (.slice (some (a.add 4)) 52 (c - 4)) rfl (fun _ _ => rfl) rfl rfl (fun x w9 hb hd => ?_) ?_
    · have h2 : x 2 = .slice (some a) 56 c := hd 2 (by kernel_rfl)
      rw [h2]
      have hs := run_sliceFromS a 56 c 4 w9 (by omega) hc
      first | (go_simp; done) | (go_simp; rfl) | (go_simp; intro h0; omega)
    refine StepsAt.cons 4 (fun _ _ _ h hb => h) (fun _ _ => rfl) rfl rfl (fun x w9 hb hd K hK => ?_) ?_
    · have h3 : Hid (x 3 = .slice (some (a.add 4)) 52 (c - 4)) := hd 3 (by kernel_rfl)
      go_simp
      refine calls_args (args2 := #[.slice (some (a.add 4)) 52 (c - 4)]) (by rw [h3.out]) ?_
      refine (numberL_any w.heap.size _ (p.drop 4) _ ((HDR.out.below GB.out).below (hb.mono GB.out.size)) (by rw [List.length_drop, HPL.out]; omega)).mono ?_
      rintro e w5 ⟨rfl, nd, rfl⟩
      rw [HYE.out]
      exact hK.out _ _ (below_drewN (Below.refl _ _) _) rfl
    refine StepsAt.cons 5 (fun _ _ _ h hb => h) (fun _ _ => rfl) rfl rfl (fun x w9 hb hd K hK => ?_) ?_
    · have h1 : Hid (x 1 = .int .u32 (D : Int)) := hd 1 (by kernel_rfl)
      have h4 : Hid (x 4 = .int .u32 (Y : Int)) := hd 4 (by kernel_rfl)
      go_simp
      refine calls_args (args2 := #[.int .u32 (D : Int), .int .u32 (Y : Int)]) (by rw [h1.out, h4.out]) ?_
      refine (shapeWith_no D Y _ HF.out).mono ?_
      rintro e w5 ⟨rfl, hb2⟩
      exact hK.out _ _ hb2 rfl
    refine StepsAt.val 6 (.tuple #[.agg (shl0).toArray, .int .i64 3]) rfl (fun _ _ => rfl) rfl rfl (fun x w9 hb hd => ?_) ?_
    · have h5 : x 5 = .tuple #[.agg (shl0).toArray, .int .i64 3] := hd 5 (by kernel_rfl)
      rw [h5]
      first | (go_simp; done) | (go_simp; rfl)
    exact StepsAt.done
  case fin =>
    intro x w9 hb hd
    have h6 : x 6 = .tuple #[.agg (shl0).toArray, .int .i64 3] := hd 6 (by omega)
    have hB4 := G4.out.below hb G4.out.lt
    refine AnyTill.any (S := fun _ => True) (m := 12) _ _ _ _ ?_
    dsimp only
    rw [h6]
    refine AnyTill.free (i := 7) (v := .agg (shl0).toArray) rfl (by kernel_rfl) (by kernel_rfl) (by kernel_rfl) (by kernel_rfl) (fun _ _ _ h => h) (by rfl) (fun w' => ?_) trivial ?_
    · first | (go_simp; done) | (go_simp; rfl)
    simp only [Act.put, List.setIfInBounds_toArray, List.set_cons_zero, List.set_cons_succ]
    refine AnyTill.free (i := 8) (v := .int .i64 3) rfl (by kernel_rfl) (by kernel_rfl) (by kernel_rfl) (by kernel_rfl) (fun _ _ _ h => h) (by rfl) (fun w' => ?_) trivial ?_
    · first | (go_simp; done) | (go_simp; rfl)
    simp only [Act.put, List.setIfInBounds_toArray, List.set_cons_zero, List.set_cons_succ]
    refine AnyTill.free (i := 9) (v := .pointer (some ⟨g4, 0, none⟩)) rfl (by kernel_rfl) (by kernel_rfl) (by kernel_rfl) (by kernel_rfl) (fun _ _ _ h => h) (by rfl) (fun w' => ?_) trivial ?_
    · first | (go_simp; done) | (go_simp; rfl)
    simp only [Act.put, List.setIfInBounds_toArray, List.set_cons_zero, List.set_cons_succ]
    refine AnyTill.one (i := 10) (by kernel_rfl) rfl (by rfl) (fun K hK => ?_)
    refine wp_store_mid 65 (.tmp 18) (.tmp 16) rfl g4 0 (shl0).toArray rfl rfl (hB4.there 4 (by rw [kyl0_len]; omega)) s74 (shl0_one) ?_
    refine hK.out _ _ (.inr trivial) ?_
    clear hK K
    refine AnyTill.one (i := 11) (by kernel_rfl) rfl (by rfl) (fun K hK => ?_)
    refine hK.out _ _ (.inr trivial) ?_
    clear hK K
    refine AnyTill.done (by kernel_rfl) ?_
    refine NoPanic.normal ?_
    simp only [Act.put, Act.eval, List.setIfInBounds_toArray, List.set_cons_zero, List.set_cons_succ, Array.getD_eq_getD_getElem?, List.getElem?_toArray, List.getElem?_cons_zero, List.getElem?_cons_succ, Option.getD_some]
    obtain ⟨w6, hw6⟩ : ∃ t, w9.setCells g4 0 (shl0).toArray.toList = t := ⟨_, rfl⟩
    have hBut : But g4 w9 w6 := by rw [← hw6]; exact (But.refl _ _).setCells _ _
    have M4 : Hid (Blk w6 g4 (kyl (shl0) K16 K32) 67) := by
      have hq := Blk.setCells (shl0).toArray.toList 0 hB4 (by rw [kyl0_len]; show 0 + 4 ≤ 52; omega)
      rw [hw6] at hq
      have e := kyl_shape shl0 (shl0) K16 K32 rfl rfl
      rw [← e]
      exact hq
    have M2 : Hid (Blk w6 g2 kyl0 67) := hBut.blk (G2.out.below hb G2.out.lt) (by omega)
    have hs9 : w.heap.size ≤ w9.heap.size := Nat.le_trans GB.out.size hb.size
    have MB : Hid (Below w.heap.size w w6) := (GB.out.trans (hb.mono GB.out.size)).trans (hBut.below (by omega) hs9)
    rw [hw6]
    generalize x 0 = y0
    generalize x 1 = y1
    generalize x 2 = y2
    generalize x 3 = y3
    generalize x 4 = y4
    generalize x 5 = y5
    clear hd h6 hb hB4 hBut hs9 hw6 G2 G4 GB x
    go_wp2
    refine wp_goto ⟨rfl, ?_⟩
    go_wp2_with (first | (refine wpList_buildTo rfl 67 _ rfl (some 32) rfl kyl0.toArray (by kernel_rfl) ?_) | (refine wpList_store_blk rfl 67 _ _ rfl g2 kyl0 kyl0 67 rfl rfl M2.out s88z rfl kyl0_one ?_))
    rw [Exit.noGoto_ret]
    refine bodyPost_ret (v := .tuple #[.agg kyl0.toArray, .int .i64 3]) ?_ rfl ?_
    · exact ret_blk2U rfl _ _ g2 67 kyl0 _ rfl rfl M2.out.setRow d88 HU.out HD.out s88z
    · exact ⟨rfl, below_setRow' MB.out hw2 _⟩

set_option maxRecDepth 100000 in
set_option maxHeartbeats 2000000 in
theorem keyIn_yes (v : Value) (p : List UInt8) (k h : Nat) (w : World) (hr : Rd w.heap.size w v p) (hl : p.length = 56) (hf : LFit (wd p 0) (wd (p.drop 4) 0) k h) : Calls Tryz.prog 29 #[v] w (TwoD (.agg (kyl (shl k h) ((p.drop 8).take 16) (p.drop 24)).toArray) (.int .i64 0) w) := by
  have HR := Lib.hid hr
  have HPL := Lib.hid hl
  obtain ⟨a, c, hv, hc, hm⟩ := hr.some_ (by omega)
  subst hv
  unfold maxLen at hm
  rw [hl] at hc HR ⊢
  obtain ⟨D, hD⟩ : ∃ D, wd p 0 = D := ⟨_, rfl⟩
  obtain ⟨Y, hY⟩ : ∃ Y, wd (p.drop 4) 0 = Y := ⟨_, rfl⟩
  rw [hD, hY] at hf
  have HDE := Lib.hid hD
  have HYE := Lib.hid hY
  have HF := Lib.hid hf
  obtain ⟨N, hN⟩ : ∃ N, (p.drop 8).take 16 = N := ⟨_, rfl⟩
  have hNl : N.length = 16 := by rw [← hN, List.length_take, List.length_drop, HPL.out]; omega
  obtain ⟨Z, hZ⟩ : ∃ Z, p.drop 24 = Z := ⟨_, rfl⟩
  have hZl : Z.length = 32 := by rw [← hZ, List.length_drop, HPL.out]
  have HNE := Lib.hid hN
  have HNL := Lib.hid hNl
  have HZE := Lib.hid hZ
  have HZL := Lib.hid hZl
  rw [hN, hZ]
  clear hN hNl hZ hZl
  obtain ⟨d88, hu88, hd88⟩ := row88
  have HU := Lib.hid hu88
  have HD := Lib.hid hd88
  have HDR : Hid (Rd w.heap.size w (.slice (some (a.add 4)) (56 - 4) (c - 4)) (p.drop 4)) := by
    have h := HR.out.drop 4 (by omega)
    rw [if_neg (by omega)] at h
    exact h
  clear hr hl hD hY hf hu88 hd88
  go_enter Tryz.func29, Tryz.ntmps29
  go_wp2_with (refine wpList_alloc_blk rfl 67 rfl _ zi88 ?_)
  intro w1 a1 a2 a3
  obtain ⟨g2, hg2⟩ : ∃ g, w.heap.size = g := ⟨_, rfl⟩
  rw [hg2] at a1 a2 a3 ⊢
  have A1 := Lib.hid a1
  have A2 := Lib.hid a2
  have A3 : Hid (Below w.heap.size w w1) := by rw [hg2]; exact a3
  have hw2 : w.heap.size ≤ g2 := by omega
  clear a1 a2 a3 hg2
  go_wp2
  refine wp_scope_goto 0 rfl ?_
  go_wp2_with (refine wpList_alloc_blk rfl 67 rfl _ zi88 ?_)
  intro w2 a1 a2 a3
  have hs1 := A2.out
  obtain ⟨g4, hg4⟩ : ∃ g, w1.heap.size = g := ⟨_, rfl⟩
  rw [hg4] at a1 a2 a3 hs1 ⊢
  have G2 : Hid (Blk w2 g2 kyl0 67) := A1.out.below a3 (by omega)
  have G4 : Hid (Blk w2 g4 kyl0 67) := a1
  have GB : Hid (Below w.heap.size w w2) := A3.out.trans (a3.mono (by have := A3.out.size; omega))
  have hg24 : g2 < g4 := by omega
  clear a1 a2 a3 A1 A2 A3 hs1 hg4
  go_wp2
  refine wp_region_rely3 7 5 (fun x => ⟨#[.slice (some a) 56 c, undef, .pointer (some ⟨g2, 0, none⟩), .int .i64 0, .pointer (some ⟨g4, 0, none⟩), .int .i64 3, .slice (some a) 56 c, .int .i64 56, .bool false, x 6, x 0, x 1, x 2, x 3, x 4, x 5, undef, undef, undef, undef, undef, undef, undef, undef, undef, undef, undef, undef, undef, undef, undef, undef, undef, undef], []⟩) (fun jj => ([eqV (.slice (some a) 56 c), (eqV (.int .u32 (D : Int))), eqV (.slice (some a) 56 c), eqV (.slice (some (a.add 4)) 52 (c - 4)), (eqV (.int .u32 (Y : Int))), (eqV (.tuple #[.agg (shl k h).toArray, .int .i64 0])), eqV (.tuple #[.agg (shl k h).toArray, .int .i64 0])] : List (Value → World → Prop)).getD jj (fun _ _ => True)) rfl ⟨fun kk => [_, _, _, _, _, _, _].getD kk undef, rfl⟩ (by kernel_rfl) (by kernel_rfl) ?steps ?fin
  case steps =>
    refine StepsAt.val 0 (.slice (some a) 56 c) rfl (fun _ _ => rfl) rfl rfl (fun x w9 hb hd => ?_) ?_
    · first | (go_simp; done) | (go_simp; rfl)
    refine StepsAt.cons 1 (fun _ _ _ h hb => h) (fun _ _ => rfl) rfl rfl (fun x w9 hb hd K hK => ?_) ?_
    · have h0 : Hid (x 0 = .slice (some a) 56 c) := hd 0 (by kernel_rfl)
      go_simp
      refine calls_args (args2 := #[.slice (some a) 56 c]) (by rw [h0.out]) ?_
      refine (numberL_any w.heap.size _ p _ ((HR.out.below GB.out).below (hb.mono GB.out.size)) (by rw [HPL.out]; omega)).mono ?_
      rintro e w5 ⟨rfl, nd, rfl⟩
      rw [HDE.out]
      exact hK.out _ _ (below_drewN (Below.refl _ _) _) rfl
    refine StepsAt.val 2 (.slice (some a) 56 c) rfl (fun _ _ => rfl) rfl rfl (fun x w9 hb hd => ?_) ?_
    · first | (go_simp; done) | (go_simp; rfl)
    refine StepsAt.val 3 (.slice (some (a.add 4)) 52 (c - 4)) rfl (fun _ _ => rfl) rfl rfl (fun x w9 hb hd => ?_) ?_
    · have h2 : x 2 = .slice (some a) 56 c := hd 2 (by kernel_rfl)
      rw [h2]
      have hs := run_sliceFromS a 56 c 4 w9 (by omega) hc
      first | (go_simp; done) | (go_simp; rfl) | (go_simp; intro h0; omega)
    refine StepsAt.cons 4 (fun _ _ _ h hb => h) (fun _ _ => rfl) rfl rfl (fun x w9 hb hd K hK => ?_) ?_
    · have h3 : Hid (x 3 = .slice (some (a.add 4)) 52 (c - 4)) := hd 3 (by kernel_rfl)
      go_simp
      refine calls_args (args2 := #[.slice (some (a.add 4)) 52 (c - 4)]) (by rw [h3.out]) ?_
      refine (numberL_any w.heap.size _ (p.drop 4) _ ((HDR.out.below GB.out).below (hb.mono GB.out.size)) (by rw [List.length_drop, HPL.out]; omega)).mono ?_
      rintro e w5 ⟨rfl, nd, rfl⟩
      rw [HYE.out]
      exact hK.out _ _ (below_drewN (Below.refl _ _) _) rfl
    refine StepsAt.cons 5 (fun _ _ _ h hb => h) (fun _ _ => rfl) rfl rfl (fun x w9 hb hd K hK => ?_) ?_
    · have h1 : Hid (x 1 = .int .u32 (D : Int)) := hd 1 (by kernel_rfl)
      have h4 : Hid (x 4 = .int .u32 (Y : Int)) := hd 4 (by kernel_rfl)
      go_simp
      refine calls_args (args2 := #[.int .u32 (D : Int), .int .u32 (Y : Int)]) (by rw [h1.out, h4.out]) ?_
      refine (shapeWith_yes D Y k h _ HF.out).mono ?_
      rintro e w5 ⟨rfl, hb2⟩
      exact hK.out _ _ hb2 rfl
    refine StepsAt.val 6 (.tuple #[.agg (shl k h).toArray, .int .i64 0]) rfl (fun _ _ => rfl) rfl rfl (fun x w9 hb hd => ?_) ?_
    · have h5 : x 5 = .tuple #[.agg (shl k h).toArray, .int .i64 0] := hd 5 (by kernel_rfl)
      rw [h5]
      first | (go_simp; done) | (go_simp; rfl)
    exact StepsAt.done
  case fin =>
    intro x w9 hb hd
    have h6 : x 6 = .tuple #[.agg (shl k h).toArray, .int .i64 0] := hd 6 (by omega)
    have hB4 := G4.out.below hb G4.out.lt
    refine AnyTill.any (S := fun _ => True) (m := 12) _ _ _ _ ?_
    dsimp only
    rw [h6]
    refine AnyTill.free (i := 7) (v := .agg (shl k h).toArray) rfl (by kernel_rfl) (by kernel_rfl) (by kernel_rfl) (by kernel_rfl) (fun _ _ _ h => h) (by rfl) (fun w' => ?_) trivial ?_
    · first | (go_simp; done) | (go_simp; rfl)
    simp only [Act.put, List.setIfInBounds_toArray, List.set_cons_zero, List.set_cons_succ]
    refine AnyTill.free (i := 8) (v := .int .i64 0) rfl (by kernel_rfl) (by kernel_rfl) (by kernel_rfl) (by kernel_rfl) (fun _ _ _ h => h) (by rfl) (fun w' => ?_) trivial ?_
    · first | (go_simp; done) | (go_simp; rfl)
    simp only [Act.put, List.setIfInBounds_toArray, List.set_cons_zero, List.set_cons_succ]
    refine AnyTill.free (i := 9) (v := .pointer (some ⟨g4, 0, none⟩)) rfl (by kernel_rfl) (by kernel_rfl) (by kernel_rfl) (by kernel_rfl) (fun _ _ _ h => h) (by rfl) (fun w' => ?_) trivial ?_
    · first | (go_simp; done) | (go_simp; rfl)
    simp only [Act.put, List.setIfInBounds_toArray, List.set_cons_zero, List.set_cons_succ]
    refine AnyTill.one (i := 10) (by kernel_rfl) rfl (by rfl) (fun K hK => ?_)
    refine wp_store_mid 65 (.tmp 18) (.tmp 16) rfl g4 0 (shl k h).toArray rfl rfl (hB4.there 4 (by rw [kyl0_len]; omega)) s74 (shl_one k h) ?_
    refine hK.out _ _ (.inr trivial) ?_
    clear hK K
    refine AnyTill.one (i := 11) (by kernel_rfl) rfl (by rfl) (fun K hK => ?_)
    refine hK.out _ _ (.inr trivial) ?_
    clear hK K
    refine AnyTill.done (by kernel_rfl) ?_
    refine NoPanic.normal ?_
    simp only [Act.put, Act.eval, List.setIfInBounds_toArray, List.set_cons_zero, List.set_cons_succ, Array.getD_eq_getD_getElem?, List.getElem?_toArray, List.getElem?_cons_zero, List.getElem?_cons_succ, Option.getD_some]
    obtain ⟨w6, hw6⟩ : ∃ t, w9.setCells g4 0 (shl k h).toArray.toList = t := ⟨_, rfl⟩
    have hBut : But g4 w9 w6 := by rw [← hw6]; exact (But.refl _ _).setCells _ _
    have M4 : Hid (Blk w6 g4 (kyl (shl k h) K16 K32) 67) := by
      have hq := Blk.setCells (shl k h).toArray.toList 0 hB4 (by rw [kyl0_len]; show 0 + 4 ≤ 52; omega)
      rw [hw6] at hq
      have e := kyl_shape shl0 (shl k h) K16 K32 rfl rfl
      rw [← e]
      exact hq
    have M2 : Hid (Blk w6 g2 kyl0 67) := hBut.blk (G2.out.below hb G2.out.lt) (by omega)
    have hs9 : w.heap.size ≤ w9.heap.size := Nat.le_trans GB.out.size hb.size
    have MB : Hid (Below w.heap.size w w6) := (GB.out.trans (hb.mono GB.out.size)).trans (hBut.below (by omega) hs9)
    rw [hw6]
    generalize x 0 = y0
    generalize x 1 = y1
    generalize x 2 = y2
    generalize x 3 = y3
    generalize x 4 = y4
    generalize x 5 = y5
    clear hd h6 hb hB4 hBut hs9 hw6 G2 G4 GB x
    go_wp2
    refine wp_region_till 5 4 (fun _ => True) (by kernel_rfl) rfl ?_
    refine AnyTill.free (i := 0) (v := .pointer (some ⟨g4, 4, none⟩)) rfl (by kernel_rfl) (by kernel_rfl) (by kernel_rfl) (by kernel_rfl) (fun _ _ _ h => h) (by rfl) (fun w' => ?_) trivial ?_
    · first | (go_simp; done) | (go_simp; rfl)
    simp only [Act.put, List.setIfInBounds_toArray, List.set_cons_zero, List.set_cons_succ]
    refine AnyTill.free (i := 1) (v := .slice (some ⟨g4, 4, none⟩) 16 16) rfl (by kernel_rfl) (by kernel_rfl) (by kernel_rfl) (by kernel_rfl) (fun _ _ _ h => h) (by rfl) (fun w' => ?_) trivial ?_
    · first | (go_simp; done) | (go_simp; rfl)
    simp only [Act.put, List.setIfInBounds_toArray, List.set_cons_zero, List.set_cons_succ]
    refine AnyTill.free (i := 2) (v := .slice (some a) 56 c) rfl (by kernel_rfl) (by kernel_rfl) (by kernel_rfl) (by kernel_rfl) (fun _ _ _ h => h) (by rfl) (fun w' => ?_) trivial ?_
    · first | (go_simp; done) | (go_simp; rfl)
    simp only [Act.put, List.setIfInBounds_toArray, List.set_cons_zero, List.set_cons_succ]
    refine AnyTill.free (i := 3) (v := .slice (some (a.add 8)) 48 (c - 8)) rfl (by kernel_rfl) (by kernel_rfl) (by kernel_rfl) (by kernel_rfl) (fun _ _ _ h => h) (by rfl) (fun w' => ?_) trivial ?_
    · have hs := run_sliceFromS a 56 c 8 w' (by omega) hc; first | (go_simp; done) | (go_simp; rfl) | (go_simp; intro h0; omega)
    simp only [Act.put, List.setIfInBounds_toArray, List.set_cons_zero, List.set_cons_succ]
    refine AnyTill.one (i := 4) (by kernel_rfl) rfl (by rfl) (fun K hK => ?_)
    have hrd : Rd w.heap.size w (.slice (some (a.add 8)) 48 (c - 8)) (p.drop 8) := by
      have h := HR.out.drop 8 (by omega)
      rw [if_neg (by omega)] at h
      exact h
    refine wp_of_list rfl (wpList_copy_to rfl _ _ 22 rfl 5 Tryz.underlying22 s5 g4 4 16 16 _ rfl rfl (kyl (shl k h) K16 K32) 67 M4.out.drew w.heap.size (p.drop 8) (hrd.below MB.out.drew) (by rw [kyl_length _ _ _ rfl rfl rfl]; omega) 16 (by rw [HNE.out]; exact HNL.out) (kyl (shl k h) N K32) ?_ ?_)
    · rw [HNE.out]
      exact kyl_name (shl k h) K16 N K32 rfl rfl HNL.out
    intro w7 h7 hb7
    refine hK.out _ _ (.inl (by kernel_rfl)) ?_
    clear hK K
    refine AnyTill.done (by kernel_rfl) ?_
    refine NoPanic.normal ?_
    simp only [Act.put, List.setIfInBounds_toArray, List.set_cons_zero, List.set_cons_succ]
    have N4 := Lib.hid h7
    have N2 : Hid (Blk w7 g2 kyl0 67) := hb7.blk M2.out.drew (by omega)
    have NB : Hid (Below w.heap.size w w7) := MB.out.trans (((Below.refl _ _).drew).trans (hb7.below (by omega) (by simpa using MB.out.size)))
    clear h7 hb7 hrd M2 M4 MB
    go_wp2
    refine wp_region_till 5 4 (fun _ => True) (by kernel_rfl) rfl ?_
    refine AnyTill.free (i := 0) (v := .pointer (some ⟨g4, 20, none⟩)) rfl (by kernel_rfl) (by kernel_rfl) (by kernel_rfl) (by kernel_rfl) (fun _ _ _ h => h) (by rfl) (fun w' => ?_) trivial ?_
    · first | (go_simp; done) | (go_simp; rfl)
    simp only [Act.put, List.setIfInBounds_toArray, List.set_cons_zero, List.set_cons_succ]
    refine AnyTill.free (i := 1) (v := .slice (some ⟨g4, 20, none⟩) 32 32) rfl (by kernel_rfl) (by kernel_rfl) (by kernel_rfl) (by kernel_rfl) (fun _ _ _ h => h) (by rfl) (fun w' => ?_) trivial ?_
    · first | (go_simp; done) | (go_simp; rfl)
    simp only [Act.put, List.setIfInBounds_toArray, List.set_cons_zero, List.set_cons_succ]
    refine AnyTill.free (i := 2) (v := .slice (some a) 56 c) rfl (by kernel_rfl) (by kernel_rfl) (by kernel_rfl) (by kernel_rfl) (fun _ _ _ h => h) (by rfl) (fun w' => ?_) trivial ?_
    · first | (go_simp; done) | (go_simp; rfl)
    simp only [Act.put, List.setIfInBounds_toArray, List.set_cons_zero, List.set_cons_succ]
    refine AnyTill.free (i := 3) (v := .slice (some (a.add 24)) 32 (c - 24)) rfl (by kernel_rfl) (by kernel_rfl) (by kernel_rfl) (by kernel_rfl) (fun _ _ _ h => h) (by rfl) (fun w' => ?_) trivial ?_
    · have hs := run_sliceFromS a 56 c 24 w' (by omega) hc; first | (go_simp; done) | (go_simp; rfl) | (go_simp; intro h0; omega)
    simp only [Act.put, List.setIfInBounds_toArray, List.set_cons_zero, List.set_cons_succ]
    refine AnyTill.one (i := 4) (by kernel_rfl) rfl (by rfl) (fun K hK => ?_)
    have hrd : Rd w.heap.size w (.slice (some (a.add 24)) 32 (c - 24)) Z := by
      have h := HR.out.drop 24 (by omega)
      rw [if_neg (by omega), HZE.out] at h
      exact h
    refine wp_of_list rfl (wpList_copy_to rfl _ _ 22 rfl 5 Tryz.underlying22 s5 g4 20 32 32 _ rfl rfl (kyl (shl k h) N K32) 67 N4.out.drew w.heap.size Z (hrd.below NB.out.drew) (by rw [kyl_length _ _ _ rfl HNL.out rfl]; omega) 32 (by rw [List.length_take, HZL.out]; omega) (kyl (shl k h) N Z) ?_ ?_)
    · rw [List.take_of_length_le (l := Z) (by rw [HZL.out]; omega)]
      exact kyl_root (shl k h) N K32 Z rfl HNL.out rfl HZL.out
    intro w8 h8 hb8
    refine hK.out _ _ (.inl (by kernel_rfl)) ?_
    clear hK K
    refine AnyTill.done (by kernel_rfl) ?_
    refine NoPanic.normal ?_
    simp only [Act.put, List.setIfInBounds_toArray, List.set_cons_zero, List.set_cons_succ]
    have O4 := Lib.hid h8
    have O2 : Hid (Blk w8 g2 kyl0 67) := hb8.blk N2.out.drew (by omega)
    have OB : Hid (Below w.heap.size w w8) := NB.out.trans (((Below.refl _ _).drew).trans (hb8.below (by omega) (by simpa using NB.out.size)))
    clear h8 hb8 hrd N2 N4 NB
    have HS9 := Lib.hid (s88' (shl k h) N Z rfl HNL.out HZL.out)
    have HL9 : Hid (kyl0.length = (kyl (shl k h) N Z).length) := by show _ = _; rw [kyl0_len, kyl_length _ _ _ rfl HNL.out HZL.out]
    go_wp2_with (first | (refine wpList_load_blkU rfl 67 _ rfl g4 rfl (kyl (shl k h) N Z) 67 O4.out d88 HU.out HD.out HS9.out ?_) | (refine wpList_store_blk rfl 67 _ _ rfl g2 (kyl (shl k h) N Z) kyl0 67 rfl rfl O2.out HS9.out HL9.out (kyl_one _ _ _ (shl_one k h)) ?_))
    rw [jump_ret]
    refine bodyPost_ret (v := .tuple #[.agg (kyl (shl k h) N Z).toArray, .int .i64 0]) ?_ rfl ?_
    · exact ret_blk2U rfl _ _ g2 67 (kyl (shl k h) N Z) _ rfl rfl O2.out.setRow d88 HU.out HD.out HS9.out
    · exact ⟨rfl, below_setRow' OB.out hw2 _⟩

end Go.Proofs.YtllncnnigjgadaaGreat

namespace Go.Proofs.YtllncnnigjgadaaGreat
open Go.RowKit

def pts0 : List Value := [.int .u32 0, .slice none 0 0, .slice none 0 0]
theorem zi86 : (Tryz.prog.info? 63).map (·.zero) = some (some (.agg pts0.toArray)) := by kernel_rfl
theorem s86 : (Tryz.prog.info? 63).map (·.size) = some 3 := by kernel_rfl
theorem row86 : ∃ d, Tryz.prog.underlying 63 = some d ∧ d.isRow = true := row_of (by kernel_rfl)
theorem pts0_one : pts0.toArray.all (·.oneCell') = true := by simp [pts0, Value.oneCell']

set_option maxRecDepth 100000 in
set_option maxHeartbeats 400000 in
theorem partsIn_len (v : Value) (s : List UInt8) (k h : Nat) (w : World) (hr : Rd w.heap.size w v s) (hk : Wd k) (hh : Ht h) (hl : s.length ≠ llng k h) : Calls Tryz.prog 30 #[v, .agg (shl k h).toArray] w (TwoD (.agg pts0.toArray) (.int .i64 3) w) := by
  obtain ⟨A, c, rfl, hc, hm⟩ := hr.shape
  unfold maxLen at hm
  obtain ⟨n, hn⟩ : ∃ n, s.length = n := ⟨_, rfl⟩
  obtain ⟨N, hN⟩ : ∃ N, llng k h = N := ⟨_, rfl⟩
  rw [hn] at hl hc ⊢
  rw [hN] at hl
  have HNE := Lib.hid hN
  have HK := Lib.hid hk
  have HH := Lib.hid hh
  have z : ((n : Int) != (N : Int)) = true := by simp; omega
  obtain ⟨d86, hu86, hd86⟩ := row86
  have HU := Lib.hid hu86
  have HD := Lib.hid hd86
  obtain ⟨d74, hu74, hd74⟩ := row74
  have HU7 := Lib.hid hu74
  have HD7 := Lib.hid hd74
  clear hr hn hN hk hh hu86 hd86 hu74 hd74
  go_enter Tryz.func30, Tryz.ntmps30
  go_wp2_with (refine wpList_box_blk rfl 65 _ rfl (shl k h) rfl ?_)
  intro w1 a1 a2 a3
  have A1 := Lib.hid a1
  have A2 := Lib.hid a2
  have A3 := Lib.hid a3
  clear a1 a2 a3
  go_wp2_with (refine wpList_alloc_blk rfl 63 rfl _ zi86 ?_)
  intro w2 a1 a2 a3
  obtain ⟨g3, hg3⟩ : ∃ g, w.heap.size = g := ⟨_, rfl⟩
  obtain ⟨g4, hg4⟩ : ∃ g, w1.heap.size = g := ⟨_, rfl⟩
  have hs1 := A2.out
  have G3 : Hid (Blk w2 g3 (shl k h) 65) := by rw [← hg3]; exact A1.out.below a3 (by omega)
  have G4 : Hid (Blk w2 g4 pts0 63) := by rw [← hg4]; exact a1
  have GB : Hid (Below w.heap.size w w2) := A3.out.trans (a3.mono (by omega))
  have hw4 : w.heap.size ≤ g4 := by omega
  rw [hg3, hg4]
  clear a1 a2 a3 A1 A2 A3 hs1 hg3 hg4
  go_wp2
  refine wp_scope_goto 0 rfl ?_
  go_wp2_with (refine wpList_alloc_blk rfl 63 rfl _ zi86 ?_)
  intro w3 a1 a2 a3
  have E3 : Hid (Blk w3 g3 (shl k h) 65) := G3.out.below a3 G3.out.lt
  have E4 : Hid (Blk w3 g4 pts0 63) := G4.out.below a3 G4.out.lt
  have EB : Hid (Below w.heap.size w w3) := GB.out.trans (a3.mono GB.out.size)
  clear a1 a2 a3 G3 G4 GB
  go_wp2_with (refine wpList_load_blkU rfl 65 _ rfl g3 rfl (shl k h) 65 E3.out d74 HU7.out HD7.out s74 ?_)
  refine (longL_any k h _ HK.out HH.out).mono ?_
  rintro e w4 ⟨rfl, hb⟩
  rw [HNE.out]
  have F4 : Hid (Blk w4 g4 pts0 63) := E4.out.below hb E4.out.lt
  have FB : Hid (Below w.heap.size w w4) := EB.out.trans (hb.mono EB.out.size)
  clear hb E3 E4 EB
  go_wp2
  refine wp_goto ⟨rfl, ?_⟩
  go_wp2_with (first | (refine wpList_buildTo rfl 63 _ rfl (some 53) rfl pts0.toArray (by kernel_rfl) ?_) | (refine wpList_store_blk rfl 63 _ _ rfl g4 pts0 pts0 63 rfl rfl F4.out s86 rfl pts0_one ?_))
  rw [Exit.noGoto_ret]
  refine bodyPost_ret (v := .tuple #[.agg pts0.toArray, .int .i64 3]) ?_ rfl ?_
  · exact ret_blk2U rfl _ _ g4 63 pts0 _ rfl rfl F4.out.setRow d86 HU.out HD.out s86
  · exact ⟨rfl, below_setRow' FB.out hw4 _⟩

/-- The cells of a signature's parts. -/
def ptl (q : Nat) (o b : Value) : List Value := [.int .u32 (q : Int), o, b]
theorem ptl_one (q n m c d : Nat) (A B : Option Addr) : (ptl q (.slice A n c) (.slice B m d)).toArray.all (·.oneCell') = true := by simp [ptl, Value.oneCell']

set_option maxRecDepth 100000 in
set_option maxHeartbeats 2000000 in
theorem partsIn_A (v : Value) (s : List UInt8) (k h : Nat) (w : World) (hr : Rd w.heap.size w v s) (hk : Wd k) (hh : Ht h) (hl : s.length = llng k h) (h1 : wd ((s.drop 4).take (lng k)) 0 ≠ typ k) : Calls Tryz.prog 30 #[v, .agg (shl k h).toArray] w (TwoD (.agg pts0.toArray) (.int .i64 3) w) := by
  have HR := Lib.hid hr
  have HSL := Lib.hid hl
  have hL9 : lng k ≤ 10000 := by have := mny_le k hk; unfold lng; omega
  have hL4 : 4 ≤ lng k := by unfold lng; omega
  obtain ⟨hh1, hh5⟩ := hh.le
  have hNe : llng k h = 4 + lng k + 4 + h * 32 := rfl
  obtain ⟨a, c, hv, hc, hm⟩ := hr.some_ (by omega)
  subst hv
  unfold maxLen at hm
  obtain ⟨L, hL⟩ : ∃ L, lng k = L := ⟨_, rfl⟩
  obtain ⟨N, hN⟩ : ∃ N, llng k h = N := ⟨_, rfl⟩
  rw [hl] at hc HR ⊢
  rw [hN] at hc hNe HR HSL ⊢
  rw [hL] at hNe hL9 hL4
  have HNE := Lib.hid hN
  have HLE := Lib.hid hL
  have HK := Lib.hid hk
  have HH := Lib.hid hh
  have HC2 : Hid (((shl k h)[2]? : Option Value) = some (.int .i64 (L : Int))) := by show _ = _; rw [← hL]; rfl
  obtain ⟨M, hM⟩ : ∃ M, 4 + L = M := ⟨_, rfl⟩
  have zM : 4 + (L : Int) = (M : Int) := by omega
  have hc4 : ¬ c = 4 := by omega
  have hcM : ¬ c = M := by omega
  have hcM4 : ¬ c - M = 4 := by omega
  have hML : M - 4 = L := by omega
  have hMN : M + 4 + 32 ≤ N := by omega
  have HHN : Hid (N - M - 4 = 32 * h) := by show _ = _; omega
  have HMN : Hid (M + 4 + 32 * h = N) := by show _ = _; omega
  have HME := Lib.hid hM
  obtain ⟨d86, hu86, hd86⟩ := row86
  have HU := Lib.hid hu86
  have HD := Lib.hid hd86
  obtain ⟨d74, hu74, hd74⟩ := row74
  have HU7 := Lib.hid hu74
  have HD7 := Lib.hid hd74
  obtain ⟨q, hq⟩ : ∃ q, wd s 0 = q := ⟨_, rfl⟩
  have HQE := Lib.hid hq
  have hq4 : Hid (q < 4294967296) := by show _ < _; rw [← hq]; exact wd_lt _ _
  obtain ⟨Y, hY⟩ : ∃ Y, typ k = Y := ⟨_, rfl⟩
  obtain ⟨D, hD⟩ : ∃ D, knd h = D := ⟨_, rfl⟩
  have HC0 : Hid (((shl k h)[0]? : Option Value) = some (.int .u32 (D : Int))) := by show _ = _; rw [← hD]; rfl
  have HC1 : Hid (((shl k h)[1]? : Option Value) = some (.int .u32 (Y : Int))) := by show _ = _; rw [← hY]; rfl
  have HO0 : Hid (Rd w.heap.size w (.slice (some ⟨a.block, a.off + 4, none⟩) L (c - 4)) ((s.drop 4).take L)) := by
    have e1 := HR.out.drop 4 (by omega)
    rw [if_neg hc4, show a.add 4 = ⟨a.block, a.off + 4, none⟩ by simp [Addr.add]] at e1
    exact e1.take L (by omega)
  have HB0 : Hid (Rd w.heap.size w (.slice (some (a.add M)) (N - M) (c - M)) (s.drop M)) := by
    have e1 := HR.out.drop M (by omega)
    rw [if_neg hcM] at e1
    exact e1
  have HS0 : Hid (Rd w.heap.size w (.slice (some ⟨(a.add M).block, (a.add M).off + 4, none⟩) (N - M - 4) (c - M - 4)) ((s.drop M).drop 4)) := by
    have e1 := HB0.out.drop 4 (by omega)
    rw [if_neg hcM4, show (a.add M).add 4 = ⟨(a.add M).block, (a.add M).off + 4, none⟩ by simp [Addr.add]] at e1
    exact e1
  obtain ⟨E, hE⟩ : ∃ E, wd ((s.drop 4).take L) 0 = E := ⟨_, rfl⟩
  rw [hL, hE, hY] at h1
  have HE := Lib.hid hE
  have zE : ((E : Int) != (Y : Int)) = true := by simp; omega
  clear hE
  clear hY hD
  clear hr hl hN hL hk hh hu86 hd86 hu74 hd74 hNe hM hq hh1
  go_enter Tryz.func30, Tryz.ntmps30
  go_wp2_with (refine wpList_box_blk rfl 65 _ rfl (shl k h) rfl ?_)
  intro w1 a1 a2 a3
  have A1 := Lib.hid a1
  have A2 := Lib.hid a2
  have A3 := Lib.hid a3
  clear a1 a2 a3
  go_wp2_with (refine wpList_alloc_blk rfl 63 rfl _ zi86 ?_)
  intro w2 a1 a2 a3
  obtain ⟨g3, hg3⟩ : ∃ g, w.heap.size = g := ⟨_, rfl⟩
  obtain ⟨g4, hg4⟩ : ∃ g, w1.heap.size = g := ⟨_, rfl⟩
  have hs1 := A2.out
  have G3 : Hid (Blk w2 g3 (shl k h) 65) := by rw [← hg3]; exact A1.out.below a3 (by omega)
  have G4 : Hid (Blk w2 g4 pts0 63) := by rw [← hg4]; exact a1
  have GB : Hid (Below w.heap.size w w2) := A3.out.trans (a3.mono (by omega))
  have hw4 : w.heap.size ≤ g4 := by omega
  have hw3 : w.heap.size ≤ g3 := by omega
  have hg34 : g3 < g4 := by omega
  rw [hg3, hg4]
  clear a1 a2 a3 A1 A2 A3 hs1 hg3 hg4
  go_wp2
  refine wp_scope_goto 0 rfl ?_
  go_wp2_with (refine wpList_alloc_blk rfl 63 rfl _ zi86 ?_)
  intro w3 a1 a2 a3
  obtain ⟨g6, hg6⟩ : ∃ g, w2.heap.size = g := ⟨_, rfl⟩
  have hg46 : g4 < g6 := by rw [← hg6]; exact G4.out.lt
  have E3 : Hid (Blk w3 g3 (shl k h) 65) := G3.out.below a3 G3.out.lt
  have E4 : Hid (Blk w3 g4 pts0 63) := G4.out.below a3 G4.out.lt
  have E6 : Hid (Blk w3 g6 pts0 63) := by rw [← hg6]; exact a1
  have EB : Hid (Below w.heap.size w w3) := GB.out.trans (a3.mono GB.out.size)
  rw [hg6]
  clear a1 a2 a3 G3 G4 GB hg6
  go_wp2_with (refine wpList_load_blkU rfl 65 _ rfl g3 rfl (shl k h) 65 E3.out d74 HU7.out HD7.out s74 ?_)
  refine (longL_any k h _ HK.out HH.out).mono ?_
  rintro e w4 ⟨rfl, hb⟩
  rw [HNE.out]
  have F3 : Hid (Blk w4 g3 (shl k h) 65) := E3.out.below hb E3.out.lt
  have F4 : Hid (Blk w4 g4 pts0 63) := E4.out.below hb E4.out.lt
  have F6 : Hid (Blk w4 g6 pts0 63) := E6.out.below hb E6.out.lt
  have FB : Hid (Below w.heap.size w w4) := EB.out.trans (hb.mono EB.out.size)
  clear hb E3 E4 E6 EB
  go_wp2_with fail
  refine (numberL_any w.heap.size _ s _ (HR.out.below FB.out) (by rw [HSL.out]; omega)).mono ?_
  rintro e w5' ⟨rfl, nd, hw5⟩
  rw [HQE.out]
  have hb5 : Below w4.heap.size w4 w5' := by rw [hw5]; exact below_drewN (Below.refl _ _) _
  have I3 : Hid (Blk w5' g3 (shl k h) 65) := F3.out.below hb5 F3.out.lt
  have I4 : Hid (Blk w5' g4 pts0 63) := F4.out.below hb5 F4.out.lt
  have I6 : Hid (Blk w5' g6 pts0 63) := F6.out.below hb5 F6.out.lt
  have IB : Hid (Below w.heap.size w w5') := FB.out.trans (hb5.mono FB.out.size)
  have c0 : w5'.cell? ⟨g6, 0, none⟩ = some (.int .u32 0) := (I6.out.cell 0).trans rfl
  have f0 := I6.out.frozen 0
  obtain ⟨V0, hV0⟩ : ∃ V, w5'.setCell ⟨g6, 0, none⟩ (.int .u32 (q : Int)) = V := ⟨_, rfl⟩
  have J6 : Hid (Blk V0 g6 [.int .u32 (q : Int), .slice none 0 0, .slice none 0 0] 63) := by rw [← hV0]; exact I6.out.set 0 _
  have J3 : Hid (Blk V0 g3 (shl k h) 65) := by rw [← hV0]; exact I3.out.setOther _ _ (by show g3 ≠ g6; omega)
  have cL : V0.cell? ⟨g3, 2, none⟩ = some (.int .i64 (L : Int)) := (J3.out.cell 2).trans HC2.out
  have c1 : V0.cell? ⟨g6, 1, none⟩ = some (.slice none 0 0) := (J6.out.cell 1).trans rfl
  have f1 := J6.out.frozen 1
  obtain ⟨V1, hV1⟩ : ∃ V, V0.setCell ⟨g6, 1, none⟩ (.slice (some ⟨a.block, a.off + 4, none⟩) L (c - 4)) = V := ⟨_, rfl⟩
  have P6 : Hid (Blk V1 g6 [.int .u32 (q : Int), .slice (some ⟨a.block, a.off + 4, none⟩) L (c - 4), .slice none 0 0] 63) := by rw [← hV1]; exact J6.out.set 1 _
  have P3 : Hid (Blk V1 g3 (shl k h) 65) := by rw [← hV1]; exact J3.out.setOther _ _ (by show g3 ≠ g6; omega)
  have cL2 : V1.cell? ⟨g3, 2, none⟩ = some (.int .i64 (L : Int)) := (P3.out.cell 2).trans HC2.out
  have c2 : V1.cell? ⟨g6, 2, none⟩ = some (.slice none 0 0) := (P6.out.cell 2).trans rfl
  have f2 := P6.out.frozen 2
  obtain ⟨V2, hV2⟩ : ∃ V, V1.setCell ⟨g6, 2, none⟩ (.slice (some ⟨(a.add M).block, (a.add M).off + 4, none⟩) (N - M - 4) (c - M - 4)) = V := ⟨_, rfl⟩
  have R6 : Hid (Blk V2 g6 (ptl q (.slice (some ⟨a.block, a.off + 4, none⟩) L (c - 4)) (.slice (some ⟨(a.add M).block, (a.add M).off + 4, none⟩) (N - M - 4) (c - M - 4))) 63) := by rw [← hV2]; exact P6.out.set 2 _
  have R3 : Hid (Blk V2 g3 (shl k h) 65) := by rw [← hV2]; exact P3.out.setOther _ _ (by show g3 ≠ g6; omega)
  have R4 : Hid (Blk V2 g4 pts0 63) := by
    rw [← hV2, ← hV1, ← hV0]
    exact ((I4.out.setOther _ _ (by show g4 ≠ g6; omega)).setOther _ _ (by show g4 ≠ g6; omega)).setOther _ _ (by show g4 ≠ g6; omega)
  have RB : Hid (Below w.heap.size w V2) := by
    rw [← hV2, ← hV1, ← hV0]
    exact IB.out.trans ((((But.refl g6 w5').setCell 0 _).setCell 1 _).setCell 2 _ |>.below (by omega) IB.out.size)
  clear hw5 hb5 F3 F4 F6 FB
  go_wp2
  have HO : Hid (Rd w.heap.size V2 (.slice (some ⟨a.block, a.off + 4, none⟩) L (c - 4)) ((s.drop 4).take L)) := HO0.out.below RB.out
  have HB : Hid (Rd w.heap.size V2 (.slice (some (a.add M)) (N - M) (c - M)) (s.drop M)) := HB0.out.below RB.out
  clear c0 f0 c1 f1 c2 f2 cL cL2 hV0 hV1 hV2 I3 I4 I6 IB J3 J6 P3 P6
  refine wp_region_rely2 21 0 (fun x => ⟨#[Value.slice (some a) N c, Value.agg (shl k h).toArray, undef, Value.pointer (some { block := g3, off := 0 }), Value.pointer (some { block := g4, off := 0 }), Value.int IntKind.i64 0, Value.pointer (some { block := g6, off := 0 }), Value.slice (some (a.add M)) (N - M) (c - M), Value.int IntKind.i64 3, Value.slice (some a) N c, Value.int IntKind.i64 ↑N, Value.agg (shl k h).toArray, Value.int IntKind.i64 ↑N, Value.bool false, Value.slice (some a) N c, Value.int IntKind.u32 ↑q, Value.pointer (some { block := g6, off := 0 }), Value.slice (some a) N c, Value.pointer (some { block := g3, off := 2 }), Value.int IntKind.i64 ↑L, Value.int IntKind.i64 ↑M, Value.slice (some { block := a.block, off := a.off + 4 }) L (c - 4), Value.pointer (some { block := g6, off := 1 }), Value.slice (some a) N c, Value.pointer (some { block := g3, off := 2 }), Value.int IntKind.i64 ↑L, Value.int IntKind.i64 ↑M, Value.slice (some (a.add M)) (N - M) (c - M), Value.slice (some (a.add M)) (N - M) (c - M), Value.slice (some { block := (a.add M).block, off := (a.add M).off + 4 }) (N - M - 4) (c - M - 4), Value.pointer (some { block := g6, off := 2 }), x 0, x 1, x 2, x 3, x 4, x 5, x 6, x 7, x 8, x 9, x 10, x 11, x 12, x 13, x 14, x 15, x 16, x 17, x 18, x 19, x 20, undef, undef, undef], []⟩) (fun jj => ([eqV (.pointer (some ⟨g6, 1, none⟩)), eqV (.slice (some ⟨a.block, a.off + 4, none⟩) L (c - 4)), (eqV (.int .u32 (E : Int))), eqV (.pointer (some ⟨g3, 1, none⟩)), eqV (.int .u32 (Y : Int)), eqV (.bool true), eqV (.bool true), (eqV undef), (eqV undef), (eqV undef), (eqV undef), (eqV undef), eqV (.bool true), eqV (.bool true), (eqV undef), (eqV undef), (eqV undef), (eqV undef), (eqV undef), (eqV undef), eqV (.bool true)] : List (Value → World → Prop)).getD jj (fun _ _ => True)) rfl ⟨fun kk => [_, _, _, _, _, _, _, _, _, _, _, _, _, _, _, _, _, _, _, _, _].getD kk undef, rfl⟩ (by kernel_rfl) (by kernel_rfl) ?steps ?fin
  case steps =>
    refine StepsAt.val 0 (.pointer (some ⟨g6, 1, none⟩)) rfl (fun _ _ => rfl) rfl rfl (fun x w9 hb hd => ?_) ?_
    · first | (go_simp; done) | (go_simp; rfl)
    refine StepsAt.val 1 (.slice (some ⟨a.block, a.off + 4, none⟩) L (c - 4)) rfl (fun _ _ => rfl) rfl rfl (fun x w9 hb hd => ?_) ?_
    · have h0 : x 0 = .pointer (some ⟨g6, 1, none⟩) := hd 0 (by kernel_rfl)
      have cc := ((R6.out.below hb R6.out.lt).cell 1).trans rfl
      rw [h0]
      first | (go_simp; done) | (go_simp; rfl)
    refine StepsAt.cons 2 (fun _ _ _ h hb => h) (fun _ _ => rfl) rfl rfl (fun x w9 hb hd K hK => ?_) ?_
    · have h1 : Hid (x 1 = .slice (some ⟨a.block, a.off + 4, none⟩) L (c - 4)) := hd 1 (by kernel_rfl)
      go_simp
      refine calls_args (args2 := #[.slice (some ⟨a.block, a.off + 4, none⟩) L (c - 4)]) (by rw [h1.out]) ?_
      refine (numberL_any w.heap.size _ ((s.drop 4).take L) _ (HO.out.below (hb.mono RB.out.size)) (by rw [List.length_take, List.length_drop, HSL.out]; omega)).mono ?_
      rintro e w5 ⟨rfl, nd, rfl⟩
      rw [HE.out]
      exact hK.out _ _ (below_drewN (Below.refl _ _) _) rfl
    refine StepsAt.val 3 (.pointer (some ⟨g3, 1, none⟩)) rfl (fun _ _ => rfl) rfl rfl (fun x w9 hb hd => ?_) ?_
    · first | (go_simp; done) | (go_simp; rfl)
    refine StepsAt.val 4 (.int .u32 (Y : Int)) rfl (fun _ _ => rfl) rfl rfl (fun x w9 hb hd => ?_) ?_
    · have h3 : x 3 = .pointer (some ⟨g3, 1, none⟩) := hd 3 (by kernel_rfl)
      have cc := ((R3.out.below hb R3.out.lt).cell 1).trans HC1.out
      rw [h3]
      first | (go_simp; done) | (go_simp; rfl)
    refine StepsAt.val 5 (.bool true) rfl (fun _ _ => rfl) rfl rfl (fun x w9 hb hd => ?_) ?_
    · have h2 : x 2 = .int .u32 (E : Int) := hd 2 (by kernel_rfl)
      have h4 : x 4 = .int .u32 (Y : Int) := hd 4 (by kernel_rfl)
      rw [h2, h4]
      first | (go_simp; done) | (go_simp; rfl)
    refine StepsAt.val 6 (.bool true) rfl (fun _ _ => rfl) rfl rfl (fun x w9 hb hd => ?_) ?_
    · have h5 : x 5 = .bool true := hd 5 (by kernel_rfl)
      rw [h5]
      first | (go_simp; done) | (go_simp; rfl)
    refine StepsAt.skip 7 rfl (fun _ _ => rfl) rfl (fun x w9 hd => ?_) ?_
    · have hG : x 6 = .bool true := hd 6 (by kernel_rfl)
      simp [Region.wanted, yielded, hG]
    refine StepsAt.skip 8 rfl (fun _ _ => rfl) rfl (fun x w9 hd => ?_) ?_
    · have hG : x 6 = .bool true := hd 6 (by kernel_rfl)
      simp [Region.wanted, yielded, hG]
    refine StepsAt.skip 9 rfl (fun _ _ => rfl) rfl (fun x w9 hd => ?_) ?_
    · have hG : x 6 = .bool true := hd 6 (by kernel_rfl)
      simp [Region.wanted, yielded, hG]
    refine StepsAt.skip 10 rfl (fun _ _ => rfl) rfl (fun x w9 hd => ?_) ?_
    · have hG : x 6 = .bool true := hd 6 (by kernel_rfl)
      simp [Region.wanted, yielded, hG]
    refine StepsAt.skip 11 rfl (fun _ _ => rfl) rfl (fun x w9 hd => ?_) ?_
    · have hG : x 6 = .bool true := hd 6 (by kernel_rfl)
      simp [Region.wanted, yielded, hG]
    refine StepsAt.val 12 (.bool true) rfl (fun _ _ => rfl) rfl rfl (fun x w9 hb hd => ?_) ?_
    · have h6 : x 6 = .bool true := hd 6 (by kernel_rfl)
      have h11 : x 11 = undef := hd 11 (by kernel_rfl)
      rw [h6, h11]
      first | (go_simp; done) | (go_simp; rfl)
    refine StepsAt.val 13 (.bool true) rfl (fun _ _ => rfl) rfl rfl (fun x w9 hb hd => ?_) ?_
    · have h12 : x 12 = .bool true := hd 12 (by kernel_rfl)
      rw [h12]
      first | (go_simp; done) | (go_simp; rfl)
    refine StepsAt.skip 14 rfl (fun _ _ => rfl) rfl (fun x w9 hd => ?_) ?_
    · have hG : x 13 = .bool true := hd 13 (by kernel_rfl)
      simp [Region.wanted, yielded, hG]
    refine StepsAt.skip 15 rfl (fun _ _ => rfl) rfl (fun x w9 hd => ?_) ?_
    · have hG : x 13 = .bool true := hd 13 (by kernel_rfl)
      simp [Region.wanted, yielded, hG]
    refine StepsAt.skip 16 rfl (fun _ _ => rfl) rfl (fun x w9 hd => ?_) ?_
    · have hG : x 13 = .bool true := hd 13 (by kernel_rfl)
      simp [Region.wanted, yielded, hG]
    refine StepsAt.skip 17 rfl (fun _ _ => rfl) rfl (fun x w9 hd => ?_) ?_
    · have hG : x 13 = .bool true := hd 13 (by kernel_rfl)
      simp [Region.wanted, yielded, hG]
    refine StepsAt.skip 18 rfl (fun _ _ => rfl) rfl (fun x w9 hd => ?_) ?_
    · have hG : x 13 = .bool true := hd 13 (by kernel_rfl)
      simp [Region.wanted, yielded, hG]
    refine StepsAt.skip 19 rfl (fun _ _ => rfl) rfl (fun x w9 hd => ?_) ?_
    · have hG : x 13 = .bool true := hd 13 (by kernel_rfl)
      simp [Region.wanted, yielded, hG]
    refine StepsAt.val 20 (.bool true) rfl (fun _ _ => rfl) rfl rfl (fun x w9 hb hd => ?_) ?_
    · have h13 : x 13 = .bool true := hd 13 (by kernel_rfl)
      have h19 : x 19 = undef := hd 19 (by kernel_rfl)
      rw [h13, h19]
      first | (go_simp; done) | (go_simp; rfl)
    exact StepsAt.done
  case fin =>
    intro x w9 hb hd
    have h20 : x 20 = .bool true := hd 20 (by omega)
    refine AnyTill.any (S := fun _ => True) (m := 21) _ _ _ _ ?_
    refine AnyTill.done (by kernel_rfl) ?_
    refine NoPanic.normal ?_
    dsimp only
    rw [h20]
    have T6 : Hid (Blk w9 g6 (ptl q (.slice (some ⟨a.block, a.off + 4, none⟩) L (c - 4)) (.slice (some ⟨(a.add M).block, (a.add M).off + 4, none⟩) (N - M - 4) (c - M - 4))) 63) := R6.out.below hb R6.out.lt
    have T4 : Hid (Blk w9 g4 pts0 63) := R4.out.below hb R4.out.lt
    have TB : Hid (Below w.heap.size w w9) := RB.out.trans (hb.mono RB.out.size)
    generalize x 0 = y0
    generalize x 1 = y1
    generalize x 2 = y2
    generalize x 3 = y3
    generalize x 4 = y4
    generalize x 5 = y5
    generalize x 6 = y6
    generalize x 7 = y7
    generalize x 8 = y8
    generalize x 9 = y9
    generalize x 10 = y10
    generalize x 11 = y11
    generalize x 12 = y12
    generalize x 13 = y13
    generalize x 14 = y14
    generalize x 15 = y15
    generalize x 16 = y16
    generalize x 17 = y17
    generalize x 18 = y18
    generalize x 19 = y19
    clear hd h20 hb R3 R4 R6 RB x
    go_wp2
    refine wp_goto ⟨rfl, ?_⟩
    go_wp2_with (first | (refine wpList_buildTo rfl 63 _ rfl (some 53) rfl pts0.toArray (by kernel_rfl) ?_) | (refine wpList_store_blk rfl 63 _ _ rfl g4 pts0 pts0 63 rfl rfl T4.out s86 rfl pts0_one ?_))
    rw [Exit.noGoto_ret]
    refine bodyPost_ret (v := .tuple #[.agg pts0.toArray, .int .i64 3]) ?_ rfl ?_
    · exact ret_blk2U rfl _ _ g4 63 pts0 _ rfl rfl T4.out.setRow d86 HU.out HD.out s86
    · exact ⟨rfl, below_setRow' TB.out hw4 _⟩

set_option maxRecDepth 100000 in
set_option maxHeartbeats 2000000 in
theorem partsIn_B (v : Value) (s : List UInt8) (k h : Nat) (w : World) (hr : Rd w.heap.size w v s) (hk : Wd k) (hh : Ht h) (hl : s.length = llng k h) (h1 : wd ((s.drop 4).take (lng k)) 0 = typ k) (h2 : wd (s.drop (4 + lng k)) 0 ≠ knd h) : Calls Tryz.prog 30 #[v, .agg (shl k h).toArray] w (TwoD (.agg pts0.toArray) (.int .i64 3) w) := by
  have HR := Lib.hid hr
  have HSL := Lib.hid hl
  have hL9 : lng k ≤ 10000 := by have := mny_le k hk; unfold lng; omega
  have hL4 : 4 ≤ lng k := by unfold lng; omega
  obtain ⟨hh1, hh5⟩ := hh.le
  have hNe : llng k h = 4 + lng k + 4 + h * 32 := rfl
  obtain ⟨a, c, hv, hc, hm⟩ := hr.some_ (by omega)
  subst hv
  unfold maxLen at hm
  obtain ⟨L, hL⟩ : ∃ L, lng k = L := ⟨_, rfl⟩
  obtain ⟨N, hN⟩ : ∃ N, llng k h = N := ⟨_, rfl⟩
  rw [hl] at hc HR ⊢
  rw [hN] at hc hNe HR HSL ⊢
  rw [hL] at hNe hL9 hL4
  have HNE := Lib.hid hN
  have HLE := Lib.hid hL
  have HK := Lib.hid hk
  have HH := Lib.hid hh
  have HC2 : Hid (((shl k h)[2]? : Option Value) = some (.int .i64 (L : Int))) := by show _ = _; rw [← hL]; rfl
  obtain ⟨M, hM⟩ : ∃ M, 4 + L = M := ⟨_, rfl⟩
  have zM : 4 + (L : Int) = (M : Int) := by omega
  have hc4 : ¬ c = 4 := by omega
  have hcM : ¬ c = M := by omega
  have hcM4 : ¬ c - M = 4 := by omega
  have hML : M - 4 = L := by omega
  have hMN : M + 4 + 32 ≤ N := by omega
  have HHN : Hid (N - M - 4 = 32 * h) := by show _ = _; omega
  have HMN : Hid (M + 4 + 32 * h = N) := by show _ = _; omega
  have HME := Lib.hid hM
  obtain ⟨d86, hu86, hd86⟩ := row86
  have HU := Lib.hid hu86
  have HD := Lib.hid hd86
  obtain ⟨d74, hu74, hd74⟩ := row74
  have HU7 := Lib.hid hu74
  have HD7 := Lib.hid hd74
  obtain ⟨q, hq⟩ : ∃ q, wd s 0 = q := ⟨_, rfl⟩
  have HQE := Lib.hid hq
  have hq4 : Hid (q < 4294967296) := by show _ < _; rw [← hq]; exact wd_lt _ _
  obtain ⟨Y, hY⟩ : ∃ Y, typ k = Y := ⟨_, rfl⟩
  obtain ⟨D, hD⟩ : ∃ D, knd h = D := ⟨_, rfl⟩
  have HC0 : Hid (((shl k h)[0]? : Option Value) = some (.int .u32 (D : Int))) := by show _ = _; rw [← hD]; rfl
  have HC1 : Hid (((shl k h)[1]? : Option Value) = some (.int .u32 (Y : Int))) := by show _ = _; rw [← hY]; rfl
  have HO0 : Hid (Rd w.heap.size w (.slice (some ⟨a.block, a.off + 4, none⟩) L (c - 4)) ((s.drop 4).take L)) := by
    have e1 := HR.out.drop 4 (by omega)
    rw [if_neg hc4, show a.add 4 = ⟨a.block, a.off + 4, none⟩ by simp [Addr.add]] at e1
    exact e1.take L (by omega)
  have HB0 : Hid (Rd w.heap.size w (.slice (some (a.add M)) (N - M) (c - M)) (s.drop M)) := by
    have e1 := HR.out.drop M (by omega)
    rw [if_neg hcM] at e1
    exact e1
  have HS0 : Hid (Rd w.heap.size w (.slice (some ⟨(a.add M).block, (a.add M).off + 4, none⟩) (N - M - 4) (c - M - 4)) ((s.drop M).drop 4)) := by
    have e1 := HB0.out.drop 4 (by omega)
    rw [if_neg hcM4, show (a.add M).add 4 = ⟨(a.add M).block, (a.add M).off + 4, none⟩ by simp [Addr.add]] at e1
    exact e1
  rw [hL, hY] at h1
  have HE := Lib.hid h1
  clear h1
  obtain ⟨G, hG⟩ : ∃ G, wd (s.drop M) 0 = G := ⟨_, rfl⟩
  rw [hL, hM, hG, hD] at h2
  have HG := Lib.hid hG
  have zG : ((G : Int) != (D : Int)) = true := by simp; omega
  clear hG
  clear hY hD
  clear hr hl hN hL hk hh hu86 hd86 hu74 hd74 hNe hM hq hh1
  go_enter Tryz.func30, Tryz.ntmps30
  go_wp2_with (refine wpList_box_blk rfl 65 _ rfl (shl k h) rfl ?_)
  intro w1 a1 a2 a3
  have A1 := Lib.hid a1
  have A2 := Lib.hid a2
  have A3 := Lib.hid a3
  clear a1 a2 a3
  go_wp2_with (refine wpList_alloc_blk rfl 63 rfl _ zi86 ?_)
  intro w2 a1 a2 a3
  obtain ⟨g3, hg3⟩ : ∃ g, w.heap.size = g := ⟨_, rfl⟩
  obtain ⟨g4, hg4⟩ : ∃ g, w1.heap.size = g := ⟨_, rfl⟩
  have hs1 := A2.out
  have G3 : Hid (Blk w2 g3 (shl k h) 65) := by rw [← hg3]; exact A1.out.below a3 (by omega)
  have G4 : Hid (Blk w2 g4 pts0 63) := by rw [← hg4]; exact a1
  have GB : Hid (Below w.heap.size w w2) := A3.out.trans (a3.mono (by omega))
  have hw4 : w.heap.size ≤ g4 := by omega
  have hw3 : w.heap.size ≤ g3 := by omega
  have hg34 : g3 < g4 := by omega
  rw [hg3, hg4]
  clear a1 a2 a3 A1 A2 A3 hs1 hg3 hg4
  go_wp2
  refine wp_scope_goto 0 rfl ?_
  go_wp2_with (refine wpList_alloc_blk rfl 63 rfl _ zi86 ?_)
  intro w3 a1 a2 a3
  obtain ⟨g6, hg6⟩ : ∃ g, w2.heap.size = g := ⟨_, rfl⟩
  have hg46 : g4 < g6 := by rw [← hg6]; exact G4.out.lt
  have E3 : Hid (Blk w3 g3 (shl k h) 65) := G3.out.below a3 G3.out.lt
  have E4 : Hid (Blk w3 g4 pts0 63) := G4.out.below a3 G4.out.lt
  have E6 : Hid (Blk w3 g6 pts0 63) := by rw [← hg6]; exact a1
  have EB : Hid (Below w.heap.size w w3) := GB.out.trans (a3.mono GB.out.size)
  rw [hg6]
  clear a1 a2 a3 G3 G4 GB hg6
  go_wp2_with (refine wpList_load_blkU rfl 65 _ rfl g3 rfl (shl k h) 65 E3.out d74 HU7.out HD7.out s74 ?_)
  refine (longL_any k h _ HK.out HH.out).mono ?_
  rintro e w4 ⟨rfl, hb⟩
  rw [HNE.out]
  have F3 : Hid (Blk w4 g3 (shl k h) 65) := E3.out.below hb E3.out.lt
  have F4 : Hid (Blk w4 g4 pts0 63) := E4.out.below hb E4.out.lt
  have F6 : Hid (Blk w4 g6 pts0 63) := E6.out.below hb E6.out.lt
  have FB : Hid (Below w.heap.size w w4) := EB.out.trans (hb.mono EB.out.size)
  clear hb E3 E4 E6 EB
  go_wp2_with fail
  refine (numberL_any w.heap.size _ s _ (HR.out.below FB.out) (by rw [HSL.out]; omega)).mono ?_
  rintro e w5' ⟨rfl, nd, hw5⟩
  rw [HQE.out]
  have hb5 : Below w4.heap.size w4 w5' := by rw [hw5]; exact below_drewN (Below.refl _ _) _
  have I3 : Hid (Blk w5' g3 (shl k h) 65) := F3.out.below hb5 F3.out.lt
  have I4 : Hid (Blk w5' g4 pts0 63) := F4.out.below hb5 F4.out.lt
  have I6 : Hid (Blk w5' g6 pts0 63) := F6.out.below hb5 F6.out.lt
  have IB : Hid (Below w.heap.size w w5') := FB.out.trans (hb5.mono FB.out.size)
  have c0 : w5'.cell? ⟨g6, 0, none⟩ = some (.int .u32 0) := (I6.out.cell 0).trans rfl
  have f0 := I6.out.frozen 0
  obtain ⟨V0, hV0⟩ : ∃ V, w5'.setCell ⟨g6, 0, none⟩ (.int .u32 (q : Int)) = V := ⟨_, rfl⟩
  have J6 : Hid (Blk V0 g6 [.int .u32 (q : Int), .slice none 0 0, .slice none 0 0] 63) := by rw [← hV0]; exact I6.out.set 0 _
  have J3 : Hid (Blk V0 g3 (shl k h) 65) := by rw [← hV0]; exact I3.out.setOther _ _ (by show g3 ≠ g6; omega)
  have cL : V0.cell? ⟨g3, 2, none⟩ = some (.int .i64 (L : Int)) := (J3.out.cell 2).trans HC2.out
  have c1 : V0.cell? ⟨g6, 1, none⟩ = some (.slice none 0 0) := (J6.out.cell 1).trans rfl
  have f1 := J6.out.frozen 1
  obtain ⟨V1, hV1⟩ : ∃ V, V0.setCell ⟨g6, 1, none⟩ (.slice (some ⟨a.block, a.off + 4, none⟩) L (c - 4)) = V := ⟨_, rfl⟩
  have P6 : Hid (Blk V1 g6 [.int .u32 (q : Int), .slice (some ⟨a.block, a.off + 4, none⟩) L (c - 4), .slice none 0 0] 63) := by rw [← hV1]; exact J6.out.set 1 _
  have P3 : Hid (Blk V1 g3 (shl k h) 65) := by rw [← hV1]; exact J3.out.setOther _ _ (by show g3 ≠ g6; omega)
  have cL2 : V1.cell? ⟨g3, 2, none⟩ = some (.int .i64 (L : Int)) := (P3.out.cell 2).trans HC2.out
  have c2 : V1.cell? ⟨g6, 2, none⟩ = some (.slice none 0 0) := (P6.out.cell 2).trans rfl
  have f2 := P6.out.frozen 2
  obtain ⟨V2, hV2⟩ : ∃ V, V1.setCell ⟨g6, 2, none⟩ (.slice (some ⟨(a.add M).block, (a.add M).off + 4, none⟩) (N - M - 4) (c - M - 4)) = V := ⟨_, rfl⟩
  have R6 : Hid (Blk V2 g6 (ptl q (.slice (some ⟨a.block, a.off + 4, none⟩) L (c - 4)) (.slice (some ⟨(a.add M).block, (a.add M).off + 4, none⟩) (N - M - 4) (c - M - 4))) 63) := by rw [← hV2]; exact P6.out.set 2 _
  have R3 : Hid (Blk V2 g3 (shl k h) 65) := by rw [← hV2]; exact P3.out.setOther _ _ (by show g3 ≠ g6; omega)
  have R4 : Hid (Blk V2 g4 pts0 63) := by
    rw [← hV2, ← hV1, ← hV0]
    exact ((I4.out.setOther _ _ (by show g4 ≠ g6; omega)).setOther _ _ (by show g4 ≠ g6; omega)).setOther _ _ (by show g4 ≠ g6; omega)
  have RB : Hid (Below w.heap.size w V2) := by
    rw [← hV2, ← hV1, ← hV0]
    exact IB.out.trans ((((But.refl g6 w5').setCell 0 _).setCell 1 _).setCell 2 _ |>.below (by omega) IB.out.size)
  clear hw5 hb5 F3 F4 F6 FB
  go_wp2
  have HO : Hid (Rd w.heap.size V2 (.slice (some ⟨a.block, a.off + 4, none⟩) L (c - 4)) ((s.drop 4).take L)) := HO0.out.below RB.out
  have HB : Hid (Rd w.heap.size V2 (.slice (some (a.add M)) (N - M) (c - M)) (s.drop M)) := HB0.out.below RB.out
  clear c0 f0 c1 f1 c2 f2 cL cL2 hV0 hV1 hV2 I3 I4 I6 IB J3 J6 P3 P6
  refine wp_region_rely2 21 0 (fun x => ⟨#[Value.slice (some a) N c, Value.agg (shl k h).toArray, undef, Value.pointer (some { block := g3, off := 0 }), Value.pointer (some { block := g4, off := 0 }), Value.int IntKind.i64 0, Value.pointer (some { block := g6, off := 0 }), Value.slice (some (a.add M)) (N - M) (c - M), Value.int IntKind.i64 3, Value.slice (some a) N c, Value.int IntKind.i64 ↑N, Value.agg (shl k h).toArray, Value.int IntKind.i64 ↑N, Value.bool false, Value.slice (some a) N c, Value.int IntKind.u32 ↑q, Value.pointer (some { block := g6, off := 0 }), Value.slice (some a) N c, Value.pointer (some { block := g3, off := 2 }), Value.int IntKind.i64 ↑L, Value.int IntKind.i64 ↑M, Value.slice (some { block := a.block, off := a.off + 4 }) L (c - 4), Value.pointer (some { block := g6, off := 1 }), Value.slice (some a) N c, Value.pointer (some { block := g3, off := 2 }), Value.int IntKind.i64 ↑L, Value.int IntKind.i64 ↑M, Value.slice (some (a.add M)) (N - M) (c - M), Value.slice (some (a.add M)) (N - M) (c - M), Value.slice (some { block := (a.add M).block, off := (a.add M).off + 4 }) (N - M - 4) (c - M - 4), Value.pointer (some { block := g6, off := 2 }), x 0, x 1, x 2, x 3, x 4, x 5, x 6, x 7, x 8, x 9, x 10, x 11, x 12, x 13, x 14, x 15, x 16, x 17, x 18, x 19, x 20, undef, undef, undef], []⟩) (fun jj => ([eqV (.pointer (some ⟨g6, 1, none⟩)), eqV (.slice (some ⟨a.block, a.off + 4, none⟩) L (c - 4)), (eqV (.int .u32 (Y : Int))), eqV (.pointer (some ⟨g3, 1, none⟩)), eqV (.int .u32 (Y : Int)), eqV (.bool false), eqV (.bool false), eqV (.slice (some (a.add M)) (N - M) (c - M)), (eqV (.int .u32 (G : Int))), eqV (.pointer (some ⟨g3, 0, none⟩)), eqV (.int .u32 (D : Int)), eqV (.bool true), eqV (.bool true), eqV (.bool true), (eqV undef), (eqV undef), (eqV undef), (eqV undef), (eqV undef), (eqV undef), eqV (.bool true)] : List (Value → World → Prop)).getD jj (fun _ _ => True)) rfl ⟨fun kk => [_, _, _, _, _, _, _, _, _, _, _, _, _, _, _, _, _, _, _, _, _].getD kk undef, rfl⟩ (by kernel_rfl) (by kernel_rfl) ?steps ?fin
  case steps =>
    refine StepsAt.val 0 (.pointer (some ⟨g6, 1, none⟩)) rfl (fun _ _ => rfl) rfl rfl (fun x w9 hb hd => ?_) ?_
    · first | (go_simp; done) | (go_simp; rfl)
    refine StepsAt.val 1 (.slice (some ⟨a.block, a.off + 4, none⟩) L (c - 4)) rfl (fun _ _ => rfl) rfl rfl (fun x w9 hb hd => ?_) ?_
    · have h0 : x 0 = .pointer (some ⟨g6, 1, none⟩) := hd 0 (by kernel_rfl)
      have cc := ((R6.out.below hb R6.out.lt).cell 1).trans rfl
      rw [h0]
      first | (go_simp; done) | (go_simp; rfl)
    refine StepsAt.cons 2 (fun _ _ _ h hb => h) (fun _ _ => rfl) rfl rfl (fun x w9 hb hd K hK => ?_) ?_
    · have h1 : Hid (x 1 = .slice (some ⟨a.block, a.off + 4, none⟩) L (c - 4)) := hd 1 (by kernel_rfl)
      go_simp
      refine calls_args (args2 := #[.slice (some ⟨a.block, a.off + 4, none⟩) L (c - 4)]) (by rw [h1.out]) ?_
      refine (numberL_any w.heap.size _ ((s.drop 4).take L) _ (HO.out.below (hb.mono RB.out.size)) (by rw [List.length_take, List.length_drop, HSL.out]; omega)).mono ?_
      rintro e w5 ⟨rfl, nd, rfl⟩
      rw [HE.out]
      exact hK.out _ _ (below_drewN (Below.refl _ _) _) rfl
    refine StepsAt.val 3 (.pointer (some ⟨g3, 1, none⟩)) rfl (fun _ _ => rfl) rfl rfl (fun x w9 hb hd => ?_) ?_
    · first | (go_simp; done) | (go_simp; rfl)
    refine StepsAt.val 4 (.int .u32 (Y : Int)) rfl (fun _ _ => rfl) rfl rfl (fun x w9 hb hd => ?_) ?_
    · have h3 : x 3 = .pointer (some ⟨g3, 1, none⟩) := hd 3 (by kernel_rfl)
      have cc := ((R3.out.below hb R3.out.lt).cell 1).trans HC1.out
      rw [h3]
      first | (go_simp; done) | (go_simp; rfl)
    refine StepsAt.val 5 (.bool false) rfl (fun _ _ => rfl) rfl rfl (fun x w9 hb hd => ?_) ?_
    · have h2 : x 2 = .int .u32 (Y : Int) := hd 2 (by kernel_rfl)
      have h4 : x 4 = .int .u32 (Y : Int) := hd 4 (by kernel_rfl)
      rw [h2, h4]
      first | (go_simp; done) | (go_simp; rfl)
    refine StepsAt.val 6 (.bool false) rfl (fun _ _ => rfl) rfl rfl (fun x w9 hb hd => ?_) ?_
    · have h5 : x 5 = .bool false := hd 5 (by kernel_rfl)
      rw [h5]
      first | (go_simp; done) | (go_simp; rfl)
    refine StepsAt.valG 7 (.slice (some (a.add M)) (N - M) (c - M)) rfl (fun _ _ => rfl) rfl (fun x w9 hd => ?_) (fun x w9 hb hd => ?_) ?_
    · have hG : x 6 = .bool false := hd 6 (by kernel_rfl)
      simp [Region.wanted, yielded, hG]
    · first | (go_simp; done) | (go_simp; rfl)
    refine StepsAt.consG 8 (fun _ _ _ h hb => h) (fun _ _ => rfl) rfl (fun x w9 hd => ?_) (fun x w9 hb hd K hK => ?_) ?_
    · have hG : x 6 = .bool false := hd 6 (by kernel_rfl)
      simp [Region.wanted, yielded, hG]
    · have h7 : Hid (x 7 = .slice (some (a.add M)) (N - M) (c - M)) := hd 7 (by kernel_rfl)
      go_simp
      refine calls_args (args2 := #[.slice (some (a.add M)) (N - M) (c - M)]) (by rw [h7.out]) ?_
      refine (numberL_any w.heap.size _ (s.drop M) _ (HB.out.below (hb.mono RB.out.size)) (by rw [List.length_drop, HSL.out]; omega)).mono ?_
      rintro e w5 ⟨rfl, nd, rfl⟩
      rw [HG.out]
      exact hK.out _ _ (below_drewN (Below.refl _ _) _) rfl
    refine StepsAt.valG 9 (.pointer (some ⟨g3, 0, none⟩)) rfl (fun _ _ => rfl) rfl (fun x w9 hd => ?_) (fun x w9 hb hd => ?_) ?_
    · have hG : x 6 = .bool false := hd 6 (by kernel_rfl)
      simp [Region.wanted, yielded, hG]
    · first | (go_simp; done) | (go_simp; rfl)
    refine StepsAt.valG 10 (.int .u32 (D : Int)) rfl (fun _ _ => rfl) rfl (fun x w9 hd => ?_) (fun x w9 hb hd => ?_) ?_
    · have hG : x 6 = .bool false := hd 6 (by kernel_rfl)
      simp [Region.wanted, yielded, hG]
    · have h9 : x 9 = .pointer (some ⟨g3, 0, none⟩) := hd 9 (by kernel_rfl)
      have cc := ((R3.out.below hb R3.out.lt).cell 0).trans HC0.out
      rw [h9]
      first | (go_simp; done) | (go_simp; rfl)
    refine StepsAt.valG 11 (.bool true) rfl (fun _ _ => rfl) rfl (fun x w9 hd => ?_) (fun x w9 hb hd => ?_) ?_
    · have hG : x 6 = .bool false := hd 6 (by kernel_rfl)
      simp [Region.wanted, yielded, hG]
    · have h8 : x 8 = .int .u32 (G : Int) := hd 8 (by kernel_rfl)
      have h10 : x 10 = .int .u32 (D : Int) := hd 10 (by kernel_rfl)
      rw [h8, h10]
      first | (go_simp; done) | (go_simp; rfl)
    refine StepsAt.val 12 (.bool true) rfl (fun _ _ => rfl) rfl rfl (fun x w9 hb hd => ?_) ?_
    · have h6 : x 6 = .bool false := hd 6 (by kernel_rfl)
      have h11 : x 11 = .bool true := hd 11 (by kernel_rfl)
      rw [h6, h11]
      first | (go_simp; done) | (go_simp; rfl)
    refine StepsAt.val 13 (.bool true) rfl (fun _ _ => rfl) rfl rfl (fun x w9 hb hd => ?_) ?_
    · have h12 : x 12 = .bool true := hd 12 (by kernel_rfl)
      rw [h12]
      first | (go_simp; done) | (go_simp; rfl)
    refine StepsAt.skip 14 rfl (fun _ _ => rfl) rfl (fun x w9 hd => ?_) ?_
    · have hG : x 13 = .bool true := hd 13 (by kernel_rfl)
      simp [Region.wanted, yielded, hG]
    refine StepsAt.skip 15 rfl (fun _ _ => rfl) rfl (fun x w9 hd => ?_) ?_
    · have hG : x 13 = .bool true := hd 13 (by kernel_rfl)
      simp [Region.wanted, yielded, hG]
    refine StepsAt.skip 16 rfl (fun _ _ => rfl) rfl (fun x w9 hd => ?_) ?_
    · have hG : x 13 = .bool true := hd 13 (by kernel_rfl)
      simp [Region.wanted, yielded, hG]
    refine StepsAt.skip 17 rfl (fun _ _ => rfl) rfl (fun x w9 hd => ?_) ?_
    · have hG : x 13 = .bool true := hd 13 (by kernel_rfl)
      simp [Region.wanted, yielded, hG]
    refine StepsAt.skip 18 rfl (fun _ _ => rfl) rfl (fun x w9 hd => ?_) ?_
    · have hG : x 13 = .bool true := hd 13 (by kernel_rfl)
      simp [Region.wanted, yielded, hG]
    refine StepsAt.skip 19 rfl (fun _ _ => rfl) rfl (fun x w9 hd => ?_) ?_
    · have hG : x 13 = .bool true := hd 13 (by kernel_rfl)
      simp [Region.wanted, yielded, hG]
    refine StepsAt.val 20 (.bool true) rfl (fun _ _ => rfl) rfl rfl (fun x w9 hb hd => ?_) ?_
    · have h13 : x 13 = .bool true := hd 13 (by kernel_rfl)
      have h19 : x 19 = undef := hd 19 (by kernel_rfl)
      rw [h13, h19]
      first | (go_simp; done) | (go_simp; rfl)
    exact StepsAt.done
  case fin =>
    intro x w9 hb hd
    have h20 : x 20 = .bool true := hd 20 (by omega)
    refine AnyTill.any (S := fun _ => True) (m := 21) _ _ _ _ ?_
    refine AnyTill.done (by kernel_rfl) ?_
    refine NoPanic.normal ?_
    dsimp only
    rw [h20]
    have T6 : Hid (Blk w9 g6 (ptl q (.slice (some ⟨a.block, a.off + 4, none⟩) L (c - 4)) (.slice (some ⟨(a.add M).block, (a.add M).off + 4, none⟩) (N - M - 4) (c - M - 4))) 63) := R6.out.below hb R6.out.lt
    have T4 : Hid (Blk w9 g4 pts0 63) := R4.out.below hb R4.out.lt
    have TB : Hid (Below w.heap.size w w9) := RB.out.trans (hb.mono RB.out.size)
    generalize x 0 = y0
    generalize x 1 = y1
    generalize x 2 = y2
    generalize x 3 = y3
    generalize x 4 = y4
    generalize x 5 = y5
    generalize x 6 = y6
    generalize x 7 = y7
    generalize x 8 = y8
    generalize x 9 = y9
    generalize x 10 = y10
    generalize x 11 = y11
    generalize x 12 = y12
    generalize x 13 = y13
    generalize x 14 = y14
    generalize x 15 = y15
    generalize x 16 = y16
    generalize x 17 = y17
    generalize x 18 = y18
    generalize x 19 = y19
    clear hd h20 hb R3 R4 R6 RB x
    go_wp2
    refine wp_goto ⟨rfl, ?_⟩
    go_wp2_with (first | (refine wpList_buildTo rfl 63 _ rfl (some 53) rfl pts0.toArray (by kernel_rfl) ?_) | (refine wpList_store_blk rfl 63 _ _ rfl g4 pts0 pts0 63 rfl rfl T4.out s86 rfl pts0_one ?_))
    rw [Exit.noGoto_ret]
    refine bodyPost_ret (v := .tuple #[.agg pts0.toArray, .int .i64 3]) ?_ rfl ?_
    · exact ret_blk2U rfl _ _ g4 63 pts0 _ rfl rfl T4.out.setRow d86 HU.out HD.out s86
    · exact ⟨rfl, below_setRow' TB.out hw4 _⟩

set_option maxRecDepth 100000 in
set_option maxHeartbeats 2000000 in
theorem partsIn_C (v : Value) (s : List UInt8) (k h : Nat) (w : World) (hr : Rd w.heap.size w v s) (hk : Wd k) (hh : Ht h) (hl : s.length = llng k h) (h1 : wd ((s.drop 4).take (lng k)) 0 = typ k) (h2 : wd (s.drop (4 + lng k)) 0 = knd h) (h3 : 2 ^ h ≤ wd s 0) : Calls Tryz.prog 30 #[v, .agg (shl k h).toArray] w (TwoD (.agg pts0.toArray) (.int .i64 3) w) := by
  have HR := Lib.hid hr
  have HSL := Lib.hid hl
  have hL9 : lng k ≤ 10000 := by have := mny_le k hk; unfold lng; omega
  have hL4 : 4 ≤ lng k := by unfold lng; omega
  obtain ⟨hh1, hh5⟩ := hh.le
  have hNe : llng k h = 4 + lng k + 4 + h * 32 := rfl
  obtain ⟨a, c, hv, hc, hm⟩ := hr.some_ (by omega)
  subst hv
  unfold maxLen at hm
  obtain ⟨L, hL⟩ : ∃ L, lng k = L := ⟨_, rfl⟩
  obtain ⟨N, hN⟩ : ∃ N, llng k h = N := ⟨_, rfl⟩
  rw [hl] at hc HR ⊢
  rw [hN] at hc hNe HR HSL ⊢
  rw [hL] at hNe hL9 hL4
  have HNE := Lib.hid hN
  have HLE := Lib.hid hL
  have HK := Lib.hid hk
  have HH := Lib.hid hh
  have HC2 : Hid (((shl k h)[2]? : Option Value) = some (.int .i64 (L : Int))) := by show _ = _; rw [← hL]; rfl
  obtain ⟨M, hM⟩ : ∃ M, 4 + L = M := ⟨_, rfl⟩
  have zM : 4 + (L : Int) = (M : Int) := by omega
  have hc4 : ¬ c = 4 := by omega
  have hcM : ¬ c = M := by omega
  have hcM4 : ¬ c - M = 4 := by omega
  have hML : M - 4 = L := by omega
  have hMN : M + 4 + 32 ≤ N := by omega
  have HHN : Hid (N - M - 4 = 32 * h) := by show _ = _; omega
  have HMN : Hid (M + 4 + 32 * h = N) := by show _ = _; omega
  have HME := Lib.hid hM
  obtain ⟨d86, hu86, hd86⟩ := row86
  have HU := Lib.hid hu86
  have HD := Lib.hid hd86
  obtain ⟨d74, hu74, hd74⟩ := row74
  have HU7 := Lib.hid hu74
  have HD7 := Lib.hid hd74
  obtain ⟨q, hq⟩ : ∃ q, wd s 0 = q := ⟨_, rfl⟩
  have HQE := Lib.hid hq
  have hq4 : Hid (q < 4294967296) := by show _ < _; rw [← hq]; exact wd_lt _ _
  obtain ⟨Y, hY⟩ : ∃ Y, typ k = Y := ⟨_, rfl⟩
  obtain ⟨D, hD⟩ : ∃ D, knd h = D := ⟨_, rfl⟩
  have HC0 : Hid (((shl k h)[0]? : Option Value) = some (.int .u32 (D : Int))) := by show _ = _; rw [← hD]; rfl
  have HC1 : Hid (((shl k h)[1]? : Option Value) = some (.int .u32 (Y : Int))) := by show _ = _; rw [← hY]; rfl
  have HO0 : Hid (Rd w.heap.size w (.slice (some ⟨a.block, a.off + 4, none⟩) L (c - 4)) ((s.drop 4).take L)) := by
    have e1 := HR.out.drop 4 (by omega)
    rw [if_neg hc4, show a.add 4 = ⟨a.block, a.off + 4, none⟩ by simp [Addr.add]] at e1
    exact e1.take L (by omega)
  have HB0 : Hid (Rd w.heap.size w (.slice (some (a.add M)) (N - M) (c - M)) (s.drop M)) := by
    have e1 := HR.out.drop M (by omega)
    rw [if_neg hcM] at e1
    exact e1
  have HS0 : Hid (Rd w.heap.size w (.slice (some ⟨(a.add M).block, (a.add M).off + 4, none⟩) (N - M - 4) (c - M - 4)) ((s.drop M).drop 4)) := by
    have e1 := HB0.out.drop 4 (by omega)
    rw [if_neg hcM4, show (a.add M).add 4 = ⟨(a.add M).block, (a.add M).off + 4, none⟩ by simp [Addr.add]] at e1
    exact e1
  rw [hL, hY] at h1
  have HE := Lib.hid h1
  clear h1
  rw [hL, hM, hD] at h2
  have HG := Lib.hid h2
  clear h2
  obtain ⟨B2, hB2⟩ : ∃ B, 2 ^ h = B := ⟨_, rfl⟩
  have HBL : Hid (B2 ≤ 32) := by show _ ≤ _; rw [← hB2]; rcases hh with rfl | rfl | rfl | rfl | rfl <;> decide
  have HB2 := Lib.hid hB2
  rw [hq, hB2] at h3
  have z3 : decide ((B2 : Int) ≤ (q : Int)) = true := by simp; omega
  clear hB2
  clear hY hD
  clear hr hl hN hL hk hh hu86 hd86 hu74 hd74 hNe hM hq hh1
  go_enter Tryz.func30, Tryz.ntmps30
  go_wp2_with (refine wpList_box_blk rfl 65 _ rfl (shl k h) rfl ?_)
  intro w1 a1 a2 a3
  have A1 := Lib.hid a1
  have A2 := Lib.hid a2
  have A3 := Lib.hid a3
  clear a1 a2 a3
  go_wp2_with (refine wpList_alloc_blk rfl 63 rfl _ zi86 ?_)
  intro w2 a1 a2 a3
  obtain ⟨g3, hg3⟩ : ∃ g, w.heap.size = g := ⟨_, rfl⟩
  obtain ⟨g4, hg4⟩ : ∃ g, w1.heap.size = g := ⟨_, rfl⟩
  have hs1 := A2.out
  have G3 : Hid (Blk w2 g3 (shl k h) 65) := by rw [← hg3]; exact A1.out.below a3 (by omega)
  have G4 : Hid (Blk w2 g4 pts0 63) := by rw [← hg4]; exact a1
  have GB : Hid (Below w.heap.size w w2) := A3.out.trans (a3.mono (by omega))
  have hw4 : w.heap.size ≤ g4 := by omega
  have hw3 : w.heap.size ≤ g3 := by omega
  have hg34 : g3 < g4 := by omega
  rw [hg3, hg4]
  clear a1 a2 a3 A1 A2 A3 hs1 hg3 hg4
  go_wp2
  refine wp_scope_goto 0 rfl ?_
  go_wp2_with (refine wpList_alloc_blk rfl 63 rfl _ zi86 ?_)
  intro w3 a1 a2 a3
  obtain ⟨g6, hg6⟩ : ∃ g, w2.heap.size = g := ⟨_, rfl⟩
  have hg46 : g4 < g6 := by rw [← hg6]; exact G4.out.lt
  have E3 : Hid (Blk w3 g3 (shl k h) 65) := G3.out.below a3 G3.out.lt
  have E4 : Hid (Blk w3 g4 pts0 63) := G4.out.below a3 G4.out.lt
  have E6 : Hid (Blk w3 g6 pts0 63) := by rw [← hg6]; exact a1
  have EB : Hid (Below w.heap.size w w3) := GB.out.trans (a3.mono GB.out.size)
  rw [hg6]
  clear a1 a2 a3 G3 G4 GB hg6
  go_wp2_with (refine wpList_load_blkU rfl 65 _ rfl g3 rfl (shl k h) 65 E3.out d74 HU7.out HD7.out s74 ?_)
  refine (longL_any k h _ HK.out HH.out).mono ?_
  rintro e w4 ⟨rfl, hb⟩
  rw [HNE.out]
  have F3 : Hid (Blk w4 g3 (shl k h) 65) := E3.out.below hb E3.out.lt
  have F4 : Hid (Blk w4 g4 pts0 63) := E4.out.below hb E4.out.lt
  have F6 : Hid (Blk w4 g6 pts0 63) := E6.out.below hb E6.out.lt
  have FB : Hid (Below w.heap.size w w4) := EB.out.trans (hb.mono EB.out.size)
  clear hb E3 E4 E6 EB
  go_wp2_with fail
  refine (numberL_any w.heap.size _ s _ (HR.out.below FB.out) (by rw [HSL.out]; omega)).mono ?_
  rintro e w5' ⟨rfl, nd, hw5⟩
  rw [HQE.out]
  have hb5 : Below w4.heap.size w4 w5' := by rw [hw5]; exact below_drewN (Below.refl _ _) _
  have I3 : Hid (Blk w5' g3 (shl k h) 65) := F3.out.below hb5 F3.out.lt
  have I4 : Hid (Blk w5' g4 pts0 63) := F4.out.below hb5 F4.out.lt
  have I6 : Hid (Blk w5' g6 pts0 63) := F6.out.below hb5 F6.out.lt
  have IB : Hid (Below w.heap.size w w5') := FB.out.trans (hb5.mono FB.out.size)
  have c0 : w5'.cell? ⟨g6, 0, none⟩ = some (.int .u32 0) := (I6.out.cell 0).trans rfl
  have f0 := I6.out.frozen 0
  obtain ⟨V0, hV0⟩ : ∃ V, w5'.setCell ⟨g6, 0, none⟩ (.int .u32 (q : Int)) = V := ⟨_, rfl⟩
  have J6 : Hid (Blk V0 g6 [.int .u32 (q : Int), .slice none 0 0, .slice none 0 0] 63) := by rw [← hV0]; exact I6.out.set 0 _
  have J3 : Hid (Blk V0 g3 (shl k h) 65) := by rw [← hV0]; exact I3.out.setOther _ _ (by show g3 ≠ g6; omega)
  have cL : V0.cell? ⟨g3, 2, none⟩ = some (.int .i64 (L : Int)) := (J3.out.cell 2).trans HC2.out
  have c1 : V0.cell? ⟨g6, 1, none⟩ = some (.slice none 0 0) := (J6.out.cell 1).trans rfl
  have f1 := J6.out.frozen 1
  obtain ⟨V1, hV1⟩ : ∃ V, V0.setCell ⟨g6, 1, none⟩ (.slice (some ⟨a.block, a.off + 4, none⟩) L (c - 4)) = V := ⟨_, rfl⟩
  have P6 : Hid (Blk V1 g6 [.int .u32 (q : Int), .slice (some ⟨a.block, a.off + 4, none⟩) L (c - 4), .slice none 0 0] 63) := by rw [← hV1]; exact J6.out.set 1 _
  have P3 : Hid (Blk V1 g3 (shl k h) 65) := by rw [← hV1]; exact J3.out.setOther _ _ (by show g3 ≠ g6; omega)
  have cL2 : V1.cell? ⟨g3, 2, none⟩ = some (.int .i64 (L : Int)) := (P3.out.cell 2).trans HC2.out
  have c2 : V1.cell? ⟨g6, 2, none⟩ = some (.slice none 0 0) := (P6.out.cell 2).trans rfl
  have f2 := P6.out.frozen 2
  obtain ⟨V2, hV2⟩ : ∃ V, V1.setCell ⟨g6, 2, none⟩ (.slice (some ⟨(a.add M).block, (a.add M).off + 4, none⟩) (N - M - 4) (c - M - 4)) = V := ⟨_, rfl⟩
  have R6 : Hid (Blk V2 g6 (ptl q (.slice (some ⟨a.block, a.off + 4, none⟩) L (c - 4)) (.slice (some ⟨(a.add M).block, (a.add M).off + 4, none⟩) (N - M - 4) (c - M - 4))) 63) := by rw [← hV2]; exact P6.out.set 2 _
  have R3 : Hid (Blk V2 g3 (shl k h) 65) := by rw [← hV2]; exact P3.out.setOther _ _ (by show g3 ≠ g6; omega)
  have R4 : Hid (Blk V2 g4 pts0 63) := by
    rw [← hV2, ← hV1, ← hV0]
    exact ((I4.out.setOther _ _ (by show g4 ≠ g6; omega)).setOther _ _ (by show g4 ≠ g6; omega)).setOther _ _ (by show g4 ≠ g6; omega)
  have RB : Hid (Below w.heap.size w V2) := by
    rw [← hV2, ← hV1, ← hV0]
    exact IB.out.trans ((((But.refl g6 w5').setCell 0 _).setCell 1 _).setCell 2 _ |>.below (by omega) IB.out.size)
  clear hw5 hb5 F3 F4 F6 FB
  go_wp2
  have HO : Hid (Rd w.heap.size V2 (.slice (some ⟨a.block, a.off + 4, none⟩) L (c - 4)) ((s.drop 4).take L)) := HO0.out.below RB.out
  have HB : Hid (Rd w.heap.size V2 (.slice (some (a.add M)) (N - M) (c - M)) (s.drop M)) := HB0.out.below RB.out
  clear c0 f0 c1 f1 c2 f2 cL cL2 hV0 hV1 hV2 I3 I4 I6 IB J3 J6 P3 P6
  refine wp_region_rely2 21 0 (fun x => ⟨#[Value.slice (some a) N c, Value.agg (shl k h).toArray, undef, Value.pointer (some { block := g3, off := 0 }), Value.pointer (some { block := g4, off := 0 }), Value.int IntKind.i64 0, Value.pointer (some { block := g6, off := 0 }), Value.slice (some (a.add M)) (N - M) (c - M), Value.int IntKind.i64 3, Value.slice (some a) N c, Value.int IntKind.i64 ↑N, Value.agg (shl k h).toArray, Value.int IntKind.i64 ↑N, Value.bool false, Value.slice (some a) N c, Value.int IntKind.u32 ↑q, Value.pointer (some { block := g6, off := 0 }), Value.slice (some a) N c, Value.pointer (some { block := g3, off := 2 }), Value.int IntKind.i64 ↑L, Value.int IntKind.i64 ↑M, Value.slice (some { block := a.block, off := a.off + 4 }) L (c - 4), Value.pointer (some { block := g6, off := 1 }), Value.slice (some a) N c, Value.pointer (some { block := g3, off := 2 }), Value.int IntKind.i64 ↑L, Value.int IntKind.i64 ↑M, Value.slice (some (a.add M)) (N - M) (c - M), Value.slice (some (a.add M)) (N - M) (c - M), Value.slice (some { block := (a.add M).block, off := (a.add M).off + 4 }) (N - M - 4) (c - M - 4), Value.pointer (some { block := g6, off := 2 }), x 0, x 1, x 2, x 3, x 4, x 5, x 6, x 7, x 8, x 9, x 10, x 11, x 12, x 13, x 14, x 15, x 16, x 17, x 18, x 19, x 20, undef, undef, undef], []⟩) (fun jj => ([eqV (.pointer (some ⟨g6, 1, none⟩)), eqV (.slice (some ⟨a.block, a.off + 4, none⟩) L (c - 4)), (eqV (.int .u32 (Y : Int))), eqV (.pointer (some ⟨g3, 1, none⟩)), eqV (.int .u32 (Y : Int)), eqV (.bool false), eqV (.bool false), eqV (.slice (some (a.add M)) (N - M) (c - M)), (eqV (.int .u32 (D : Int))), eqV (.pointer (some ⟨g3, 0, none⟩)), eqV (.int .u32 (D : Int)), eqV (.bool false), eqV (.bool false), eqV (.bool false), eqV (.pointer (some ⟨g6, 0, none⟩)), eqV (.int .u32 (q : Int)), eqV (.agg (shl k h).toArray), (eqV (.int .i64 (B2 : Int))), eqV (.int .u32 (B2 : Int)), eqV (.bool true), eqV (.bool true)] : List (Value → World → Prop)).getD jj (fun _ _ => True)) rfl ⟨fun kk => [_, _, _, _, _, _, _, _, _, _, _, _, _, _, _, _, _, _, _, _, _].getD kk undef, rfl⟩ (by kernel_rfl) (by kernel_rfl) ?steps ?fin
  case steps =>
    refine StepsAt.val 0 (.pointer (some ⟨g6, 1, none⟩)) rfl (fun _ _ => rfl) rfl rfl (fun x w9 hb hd => ?_) ?_
    · first | (go_simp; done) | (go_simp; rfl)
    refine StepsAt.val 1 (.slice (some ⟨a.block, a.off + 4, none⟩) L (c - 4)) rfl (fun _ _ => rfl) rfl rfl (fun x w9 hb hd => ?_) ?_
    · have h0 : x 0 = .pointer (some ⟨g6, 1, none⟩) := hd 0 (by kernel_rfl)
      have cc := ((R6.out.below hb R6.out.lt).cell 1).trans rfl
      rw [h0]
      first | (go_simp; done) | (go_simp; rfl)
    refine StepsAt.cons 2 (fun _ _ _ h hb => h) (fun _ _ => rfl) rfl rfl (fun x w9 hb hd K hK => ?_) ?_
    · have h1 : Hid (x 1 = .slice (some ⟨a.block, a.off + 4, none⟩) L (c - 4)) := hd 1 (by kernel_rfl)
      go_simp
      refine calls_args (args2 := #[.slice (some ⟨a.block, a.off + 4, none⟩) L (c - 4)]) (by rw [h1.out]) ?_
      refine (numberL_any w.heap.size _ ((s.drop 4).take L) _ (HO.out.below (hb.mono RB.out.size)) (by rw [List.length_take, List.length_drop, HSL.out]; omega)).mono ?_
      rintro e w5 ⟨rfl, nd, rfl⟩
      rw [HE.out]
      exact hK.out _ _ (below_drewN (Below.refl _ _) _) rfl
    refine StepsAt.val 3 (.pointer (some ⟨g3, 1, none⟩)) rfl (fun _ _ => rfl) rfl rfl (fun x w9 hb hd => ?_) ?_
    · first | (go_simp; done) | (go_simp; rfl)
    refine StepsAt.val 4 (.int .u32 (Y : Int)) rfl (fun _ _ => rfl) rfl rfl (fun x w9 hb hd => ?_) ?_
    · have h3 : x 3 = .pointer (some ⟨g3, 1, none⟩) := hd 3 (by kernel_rfl)
      have cc := ((R3.out.below hb R3.out.lt).cell 1).trans HC1.out
      rw [h3]
      first | (go_simp; done) | (go_simp; rfl)
    refine StepsAt.val 5 (.bool false) rfl (fun _ _ => rfl) rfl rfl (fun x w9 hb hd => ?_) ?_
    · have h2 : x 2 = .int .u32 (Y : Int) := hd 2 (by kernel_rfl)
      have h4 : x 4 = .int .u32 (Y : Int) := hd 4 (by kernel_rfl)
      rw [h2, h4]
      first | (go_simp; done) | (go_simp; rfl)
    refine StepsAt.val 6 (.bool false) rfl (fun _ _ => rfl) rfl rfl (fun x w9 hb hd => ?_) ?_
    · have h5 : x 5 = .bool false := hd 5 (by kernel_rfl)
      rw [h5]
      first | (go_simp; done) | (go_simp; rfl)
    refine StepsAt.valG 7 (.slice (some (a.add M)) (N - M) (c - M)) rfl (fun _ _ => rfl) rfl (fun x w9 hd => ?_) (fun x w9 hb hd => ?_) ?_
    · have hG : x 6 = .bool false := hd 6 (by kernel_rfl)
      simp [Region.wanted, yielded, hG]
    · first | (go_simp; done) | (go_simp; rfl)
    refine StepsAt.consG 8 (fun _ _ _ h hb => h) (fun _ _ => rfl) rfl (fun x w9 hd => ?_) (fun x w9 hb hd K hK => ?_) ?_
    · have hG : x 6 = .bool false := hd 6 (by kernel_rfl)
      simp [Region.wanted, yielded, hG]
    · have h7 : Hid (x 7 = .slice (some (a.add M)) (N - M) (c - M)) := hd 7 (by kernel_rfl)
      go_simp
      refine calls_args (args2 := #[.slice (some (a.add M)) (N - M) (c - M)]) (by rw [h7.out]) ?_
      refine (numberL_any w.heap.size _ (s.drop M) _ (HB.out.below (hb.mono RB.out.size)) (by rw [List.length_drop, HSL.out]; omega)).mono ?_
      rintro e w5 ⟨rfl, nd, rfl⟩
      rw [HG.out]
      exact hK.out _ _ (below_drewN (Below.refl _ _) _) rfl
    refine StepsAt.valG 9 (.pointer (some ⟨g3, 0, none⟩)) rfl (fun _ _ => rfl) rfl (fun x w9 hd => ?_) (fun x w9 hb hd => ?_) ?_
    · have hG : x 6 = .bool false := hd 6 (by kernel_rfl)
      simp [Region.wanted, yielded, hG]
    · first | (go_simp; done) | (go_simp; rfl)
    refine StepsAt.valG 10 (.int .u32 (D : Int)) rfl (fun _ _ => rfl) rfl (fun x w9 hd => ?_) (fun x w9 hb hd => ?_) ?_
    · have hG : x 6 = .bool false := hd 6 (by kernel_rfl)
      simp [Region.wanted, yielded, hG]
    · have h9 : x 9 = .pointer (some ⟨g3, 0, none⟩) := hd 9 (by kernel_rfl)
      have cc := ((R3.out.below hb R3.out.lt).cell 0).trans HC0.out
      rw [h9]
      first | (go_simp; done) | (go_simp; rfl)
    refine StepsAt.valG 11 (.bool false) rfl (fun _ _ => rfl) rfl (fun x w9 hd => ?_) (fun x w9 hb hd => ?_) ?_
    · have hG : x 6 = .bool false := hd 6 (by kernel_rfl)
      simp [Region.wanted, yielded, hG]
    · have h8 : x 8 = .int .u32 (D : Int) := hd 8 (by kernel_rfl)
      have h10 : x 10 = .int .u32 (D : Int) := hd 10 (by kernel_rfl)
      rw [h8, h10]
      first | (go_simp; done) | (go_simp; rfl)
    refine StepsAt.val 12 (.bool false) rfl (fun _ _ => rfl) rfl rfl (fun x w9 hb hd => ?_) ?_
    · have h6 : x 6 = .bool false := hd 6 (by kernel_rfl)
      have h11 : x 11 = .bool false := hd 11 (by kernel_rfl)
      rw [h6, h11]
      first | (go_simp; done) | (go_simp; rfl)
    refine StepsAt.val 13 (.bool false) rfl (fun _ _ => rfl) rfl rfl (fun x w9 hb hd => ?_) ?_
    · have h12 : x 12 = .bool false := hd 12 (by kernel_rfl)
      rw [h12]
      first | (go_simp; done) | (go_simp; rfl)
    refine StepsAt.valG 14 (.pointer (some ⟨g6, 0, none⟩)) rfl (fun _ _ => rfl) rfl (fun x w9 hd => ?_) (fun x w9 hb hd => ?_) ?_
    · have hG : x 13 = .bool false := hd 13 (by kernel_rfl)
      simp [Region.wanted, yielded, hG]
    · first | (go_simp; done) | (go_simp; rfl)
    refine StepsAt.valG 15 (.int .u32 (q : Int)) rfl (fun _ _ => rfl) rfl (fun x w9 hd => ?_) (fun x w9 hb hd => ?_) ?_
    · have hG : x 13 = .bool false := hd 13 (by kernel_rfl)
      simp [Region.wanted, yielded, hG]
    · have h14 : x 14 = .pointer (some ⟨g6, 0, none⟩) := hd 14 (by kernel_rfl)
      have cc := ((R6.out.below hb R6.out.lt).cell 0).trans rfl
      rw [h14]
      first | (go_simp; done) | (go_simp; rfl)
    refine StepsAt.valG 16 (.agg (shl k h).toArray) rfl (fun _ _ => rfl) rfl (fun x w9 hd => ?_) (fun x w9 hb hd => ?_) ?_
    · have hG : x 13 = .bool false := hd 13 (by kernel_rfl)
      simp [Region.wanted, yielded, hG]
    · exact run_load_blkU 65 (.tmp 3) rfl g3 rfl (shl k h) 65 (R3.out.below hb R3.out.lt) d74 HU7.out HD7.out s74
    refine StepsAt.consG 17 (fun _ _ _ h hb => h) (fun _ _ => rfl) rfl (fun x w9 hd => ?_) (fun x w9 hb hd K hK => ?_) ?_
    · have hG : x 13 = .bool false := hd 13 (by kernel_rfl)
      simp [Region.wanted, yielded, hG]
    · have h16 : Hid (x 16 = .agg (shl k h).toArray) := hd 16 (by kernel_rfl)
      go_simp
      refine calls_args (args2 := #[.agg (shl k h).toArray]) (by rw [h16.out]) ?_
      refine (leavesL_any k h _ HH.out).mono ?_
      rintro e w5 ⟨rfl, hb2⟩
      rw [HB2.out]
      exact hK.out _ _ hb2 rfl
    refine StepsAt.valG 18 (.int .u32 (B2 : Int)) rfl (fun _ _ => rfl) rfl (fun x w9 hd => ?_) (fun x w9 hb hd => ?_) ?_
    · have hG : x 13 = .bool false := hd 13 (by kernel_rfl)
      simp [Region.wanted, yielded, hG]
    · have h17 : x 17 = .int .i64 (B2 : Int) := hd 17 (by kernel_rfl)
      rw [h17]
      go_simp
      have := HBL.out
      rw [IntKind.wrap_u32']
      omega
    refine StepsAt.valG 19 (.bool true) rfl (fun _ _ => rfl) rfl (fun x w9 hd => ?_) (fun x w9 hb hd => ?_) ?_
    · have hG : x 13 = .bool false := hd 13 (by kernel_rfl)
      simp [Region.wanted, yielded, hG]
    · have h15 : x 15 = .int .u32 (q : Int) := hd 15 (by kernel_rfl)
      have h18 : x 18 = .int .u32 (B2 : Int) := hd 18 (by kernel_rfl)
      rw [h15, h18]
      first | (go_simp; done) | (go_simp; rfl)
    refine StepsAt.val 20 (.bool true) rfl (fun _ _ => rfl) rfl rfl (fun x w9 hb hd => ?_) ?_
    · have h13 : x 13 = .bool false := hd 13 (by kernel_rfl)
      have h19 : x 19 = .bool true := hd 19 (by kernel_rfl)
      rw [h13, h19]
      first | (go_simp; done) | (go_simp; rfl)
    exact StepsAt.done
  case fin =>
    intro x w9 hb hd
    have h20 : x 20 = .bool true := hd 20 (by omega)
    refine AnyTill.any (S := fun _ => True) (m := 21) _ _ _ _ ?_
    refine AnyTill.done (by kernel_rfl) ?_
    refine NoPanic.normal ?_
    dsimp only
    rw [h20]
    have T6 : Hid (Blk w9 g6 (ptl q (.slice (some ⟨a.block, a.off + 4, none⟩) L (c - 4)) (.slice (some ⟨(a.add M).block, (a.add M).off + 4, none⟩) (N - M - 4) (c - M - 4))) 63) := R6.out.below hb R6.out.lt
    have T4 : Hid (Blk w9 g4 pts0 63) := R4.out.below hb R4.out.lt
    have TB : Hid (Below w.heap.size w w9) := RB.out.trans (hb.mono RB.out.size)
    generalize x 0 = y0
    generalize x 1 = y1
    generalize x 2 = y2
    generalize x 3 = y3
    generalize x 4 = y4
    generalize x 5 = y5
    generalize x 6 = y6
    generalize x 7 = y7
    generalize x 8 = y8
    generalize x 9 = y9
    generalize x 10 = y10
    generalize x 11 = y11
    generalize x 12 = y12
    generalize x 13 = y13
    generalize x 14 = y14
    generalize x 15 = y15
    generalize x 16 = y16
    generalize x 17 = y17
    generalize x 18 = y18
    generalize x 19 = y19
    clear hd h20 hb R3 R4 R6 RB x
    go_wp2
    refine wp_goto ⟨rfl, ?_⟩
    go_wp2_with (first | (refine wpList_buildTo rfl 63 _ rfl (some 53) rfl pts0.toArray (by kernel_rfl) ?_) | (refine wpList_store_blk rfl 63 _ _ rfl g4 pts0 pts0 63 rfl rfl T4.out s86 rfl pts0_one ?_))
    rw [Exit.noGoto_ret]
    refine bodyPost_ret (v := .tuple #[.agg pts0.toArray, .int .i64 3]) ?_ rfl ?_
    · exact ret_blk2U rfl _ _ g4 63 pts0 _ rfl rfl T4.out.setRow d86 HU.out HD.out s86
    · exact ⟨rfl, below_setRow' TB.out hw4 _⟩

set_option maxRecDepth 100000 in
set_option maxHeartbeats 2000000 in
theorem partsIn_yes (v : Value) (s : List UInt8) (k h : Nat) (w : World) (hr : Rd w.heap.size w v s) (hk : Wd k) (hh : Ht h) (hl : s.length = llng k h) (h1 : wd ((s.drop 4).take (lng k)) 0 = typ k) (h2 : wd (s.drop (4 + lng k)) 0 = knd h) (h3 : wd s 0 < 2 ^ h) : Calls Tryz.prog 30 #[v, .agg (shl k h).toArray] w (fun e w' => ∃ o t, e = .returned (.tuple #[.agg (ptl (wd s 0) o t).toArray, .int .i64 0]) ∧ (∀ B w0, Rd B w0 v s → Rd B w0 o ((s.drop 4).take (lng k)) ∧ Rd B w0 t ((s.drop (4 + lng k)).drop 4)) ∧ Below w.heap.size w w') := by
  have HR := Lib.hid hr
  have HSL := Lib.hid hl
  have hL9 : lng k ≤ 10000 := by have := mny_le k hk; unfold lng; omega
  have hL4 : 4 ≤ lng k := by unfold lng; omega
  obtain ⟨hh1, hh5⟩ := hh.le
  have hNe : llng k h = 4 + lng k + 4 + h * 32 := rfl
  obtain ⟨a, c, hv, hc, hm⟩ := hr.some_ (by omega)
  subst hv
  unfold maxLen at hm
  obtain ⟨L, hL⟩ : ∃ L, lng k = L := ⟨_, rfl⟩
  obtain ⟨N, hN⟩ : ∃ N, llng k h = N := ⟨_, rfl⟩
  rw [hl] at hc HR ⊢
  rw [hN] at hc hNe HR HSL ⊢
  rw [hL] at hNe hL9 hL4
  have HNE := Lib.hid hN
  have HLE := Lib.hid hL
  have HK := Lib.hid hk
  have HH := Lib.hid hh
  have HC2 : Hid (((shl k h)[2]? : Option Value) = some (.int .i64 (L : Int))) := by show _ = _; rw [← hL]; rfl
  obtain ⟨M, hM⟩ : ∃ M, 4 + L = M := ⟨_, rfl⟩
  have zM : 4 + (L : Int) = (M : Int) := by omega
  have hc4 : ¬ c = 4 := by omega
  have hcM : ¬ c = M := by omega
  have hcM4 : ¬ c - M = 4 := by omega
  have hML : M - 4 = L := by omega
  have hMN : M + 4 + 32 ≤ N := by omega
  have HHN : Hid (N - M - 4 = 32 * h) := by show _ = _; omega
  have HMN : Hid (M + 4 + 32 * h = N) := by show _ = _; omega
  have HME := Lib.hid hM
  obtain ⟨d86, hu86, hd86⟩ := row86
  have HU := Lib.hid hu86
  have HD := Lib.hid hd86
  obtain ⟨d74, hu74, hd74⟩ := row74
  have HU7 := Lib.hid hu74
  have HD7 := Lib.hid hd74
  obtain ⟨q, hq⟩ : ∃ q, wd s 0 = q := ⟨_, rfl⟩
  have HQE := Lib.hid hq
  have hq4 : Hid (q < 4294967296) := by show _ < _; rw [← hq]; exact wd_lt _ _
  obtain ⟨Y, hY⟩ : ∃ Y, typ k = Y := ⟨_, rfl⟩
  obtain ⟨D, hD⟩ : ∃ D, knd h = D := ⟨_, rfl⟩
  have HC0 : Hid (((shl k h)[0]? : Option Value) = some (.int .u32 (D : Int))) := by show _ = _; rw [← hD]; rfl
  have HC1 : Hid (((shl k h)[1]? : Option Value) = some (.int .u32 (Y : Int))) := by show _ = _; rw [← hY]; rfl
  have HO0 : Hid (Rd w.heap.size w (.slice (some ⟨a.block, a.off + 4, none⟩) L (c - 4)) ((s.drop 4).take L)) := by
    have e1 := HR.out.drop 4 (by omega)
    rw [if_neg hc4, show a.add 4 = ⟨a.block, a.off + 4, none⟩ by simp [Addr.add]] at e1
    exact e1.take L (by omega)
  have HB0 : Hid (Rd w.heap.size w (.slice (some (a.add M)) (N - M) (c - M)) (s.drop M)) := by
    have e1 := HR.out.drop M (by omega)
    rw [if_neg hcM] at e1
    exact e1
  have HS0 : Hid (Rd w.heap.size w (.slice (some ⟨(a.add M).block, (a.add M).off + 4, none⟩) (N - M - 4) (c - M - 4)) ((s.drop M).drop 4)) := by
    have e1 := HB0.out.drop 4 (by omega)
    rw [if_neg hcM4, show (a.add M).add 4 = ⟨(a.add M).block, (a.add M).off + 4, none⟩ by simp [Addr.add]] at e1
    exact e1
  rw [hL, hY] at h1
  have HE := Lib.hid h1
  clear h1
  rw [hL, hM, hD] at h2
  have HG := Lib.hid h2
  clear h2
  obtain ⟨B2, hB2⟩ : ∃ B, 2 ^ h = B := ⟨_, rfl⟩
  have HBL : Hid (B2 ≤ 32) := by show _ ≤ _; rw [← hB2]; rcases hh with rfl | rfl | rfl | rfl | rfl <;> decide
  have HB2 := Lib.hid hB2
  rw [hq, hB2] at h3
  have z3 : decide ((B2 : Int) ≤ (q : Int)) = false := by simp; omega
  clear hB2
  clear hY hD
  clear hr hl hN hL hk hh hu86 hd86 hu74 hd74 hNe hM hq hh1
  go_enter Tryz.func30, Tryz.ntmps30
  go_wp2_with (refine wpList_box_blk rfl 65 _ rfl (shl k h) rfl ?_)
  intro w1 a1 a2 a3
  have A1 := Lib.hid a1
  have A2 := Lib.hid a2
  have A3 := Lib.hid a3
  clear a1 a2 a3
  go_wp2_with (refine wpList_alloc_blk rfl 63 rfl _ zi86 ?_)
  intro w2 a1 a2 a3
  obtain ⟨g3, hg3⟩ : ∃ g, w.heap.size = g := ⟨_, rfl⟩
  obtain ⟨g4, hg4⟩ : ∃ g, w1.heap.size = g := ⟨_, rfl⟩
  have hs1 := A2.out
  have G3 : Hid (Blk w2 g3 (shl k h) 65) := by rw [← hg3]; exact A1.out.below a3 (by omega)
  have G4 : Hid (Blk w2 g4 pts0 63) := by rw [← hg4]; exact a1
  have GB : Hid (Below w.heap.size w w2) := A3.out.trans (a3.mono (by omega))
  have hw4 : w.heap.size ≤ g4 := by omega
  have hw3 : w.heap.size ≤ g3 := by omega
  have hg34 : g3 < g4 := by omega
  rw [hg3, hg4]
  clear a1 a2 a3 A1 A2 A3 hs1 hg3 hg4
  go_wp2
  refine wp_scope_goto 0 rfl ?_
  go_wp2_with (refine wpList_alloc_blk rfl 63 rfl _ zi86 ?_)
  intro w3 a1 a2 a3
  obtain ⟨g6, hg6⟩ : ∃ g, w2.heap.size = g := ⟨_, rfl⟩
  have hg46 : g4 < g6 := by rw [← hg6]; exact G4.out.lt
  have E3 : Hid (Blk w3 g3 (shl k h) 65) := G3.out.below a3 G3.out.lt
  have E4 : Hid (Blk w3 g4 pts0 63) := G4.out.below a3 G4.out.lt
  have E6 : Hid (Blk w3 g6 pts0 63) := by rw [← hg6]; exact a1
  have EB : Hid (Below w.heap.size w w3) := GB.out.trans (a3.mono GB.out.size)
  rw [hg6]
  clear a1 a2 a3 G3 G4 GB hg6
  go_wp2_with (refine wpList_load_blkU rfl 65 _ rfl g3 rfl (shl k h) 65 E3.out d74 HU7.out HD7.out s74 ?_)
  refine (longL_any k h _ HK.out HH.out).mono ?_
  rintro e w4 ⟨rfl, hb⟩
  rw [HNE.out]
  have F3 : Hid (Blk w4 g3 (shl k h) 65) := E3.out.below hb E3.out.lt
  have F4 : Hid (Blk w4 g4 pts0 63) := E4.out.below hb E4.out.lt
  have F6 : Hid (Blk w4 g6 pts0 63) := E6.out.below hb E6.out.lt
  have FB : Hid (Below w.heap.size w w4) := EB.out.trans (hb.mono EB.out.size)
  clear hb E3 E4 E6 EB
  go_wp2_with fail
  refine (numberL_any w.heap.size _ s _ (HR.out.below FB.out) (by rw [HSL.out]; omega)).mono ?_
  rintro e w5' ⟨rfl, nd, hw5⟩
  rw [HQE.out]
  have hb5 : Below w4.heap.size w4 w5' := by rw [hw5]; exact below_drewN (Below.refl _ _) _
  have I3 : Hid (Blk w5' g3 (shl k h) 65) := F3.out.below hb5 F3.out.lt
  have I4 : Hid (Blk w5' g4 pts0 63) := F4.out.below hb5 F4.out.lt
  have I6 : Hid (Blk w5' g6 pts0 63) := F6.out.below hb5 F6.out.lt
  have IB : Hid (Below w.heap.size w w5') := FB.out.trans (hb5.mono FB.out.size)
  have c0 : w5'.cell? ⟨g6, 0, none⟩ = some (.int .u32 0) := (I6.out.cell 0).trans rfl
  have f0 := I6.out.frozen 0
  obtain ⟨V0, hV0⟩ : ∃ V, w5'.setCell ⟨g6, 0, none⟩ (.int .u32 (q : Int)) = V := ⟨_, rfl⟩
  have J6 : Hid (Blk V0 g6 [.int .u32 (q : Int), .slice none 0 0, .slice none 0 0] 63) := by rw [← hV0]; exact I6.out.set 0 _
  have J3 : Hid (Blk V0 g3 (shl k h) 65) := by rw [← hV0]; exact I3.out.setOther _ _ (by show g3 ≠ g6; omega)
  have cL : V0.cell? ⟨g3, 2, none⟩ = some (.int .i64 (L : Int)) := (J3.out.cell 2).trans HC2.out
  have c1 : V0.cell? ⟨g6, 1, none⟩ = some (.slice none 0 0) := (J6.out.cell 1).trans rfl
  have f1 := J6.out.frozen 1
  obtain ⟨V1, hV1⟩ : ∃ V, V0.setCell ⟨g6, 1, none⟩ (.slice (some ⟨a.block, a.off + 4, none⟩) L (c - 4)) = V := ⟨_, rfl⟩
  have P6 : Hid (Blk V1 g6 [.int .u32 (q : Int), .slice (some ⟨a.block, a.off + 4, none⟩) L (c - 4), .slice none 0 0] 63) := by rw [← hV1]; exact J6.out.set 1 _
  have P3 : Hid (Blk V1 g3 (shl k h) 65) := by rw [← hV1]; exact J3.out.setOther _ _ (by show g3 ≠ g6; omega)
  have cL2 : V1.cell? ⟨g3, 2, none⟩ = some (.int .i64 (L : Int)) := (P3.out.cell 2).trans HC2.out
  have c2 : V1.cell? ⟨g6, 2, none⟩ = some (.slice none 0 0) := (P6.out.cell 2).trans rfl
  have f2 := P6.out.frozen 2
  obtain ⟨V2, hV2⟩ : ∃ V, V1.setCell ⟨g6, 2, none⟩ (.slice (some ⟨(a.add M).block, (a.add M).off + 4, none⟩) (N - M - 4) (c - M - 4)) = V := ⟨_, rfl⟩
  have R6 : Hid (Blk V2 g6 (ptl q (.slice (some ⟨a.block, a.off + 4, none⟩) L (c - 4)) (.slice (some ⟨(a.add M).block, (a.add M).off + 4, none⟩) (N - M - 4) (c - M - 4))) 63) := by rw [← hV2]; exact P6.out.set 2 _
  have R3 : Hid (Blk V2 g3 (shl k h) 65) := by rw [← hV2]; exact P3.out.setOther _ _ (by show g3 ≠ g6; omega)
  have R4 : Hid (Blk V2 g4 pts0 63) := by
    rw [← hV2, ← hV1, ← hV0]
    exact ((I4.out.setOther _ _ (by show g4 ≠ g6; omega)).setOther _ _ (by show g4 ≠ g6; omega)).setOther _ _ (by show g4 ≠ g6; omega)
  have RB : Hid (Below w.heap.size w V2) := by
    rw [← hV2, ← hV1, ← hV0]
    exact IB.out.trans ((((But.refl g6 w5').setCell 0 _).setCell 1 _).setCell 2 _ |>.below (by omega) IB.out.size)
  clear hw5 hb5 F3 F4 F6 FB
  go_wp2
  have HO : Hid (Rd w.heap.size V2 (.slice (some ⟨a.block, a.off + 4, none⟩) L (c - 4)) ((s.drop 4).take L)) := HO0.out.below RB.out
  have HB : Hid (Rd w.heap.size V2 (.slice (some (a.add M)) (N - M) (c - M)) (s.drop M)) := HB0.out.below RB.out
  clear c0 f0 c1 f1 c2 f2 cL cL2 hV0 hV1 hV2 I3 I4 I6 IB J3 J6 P3 P6
  refine wp_region_rely2 21 0 (fun x => ⟨#[Value.slice (some a) N c, Value.agg (shl k h).toArray, undef, Value.pointer (some { block := g3, off := 0 }), Value.pointer (some { block := g4, off := 0 }), Value.int IntKind.i64 0, Value.pointer (some { block := g6, off := 0 }), Value.slice (some (a.add M)) (N - M) (c - M), Value.int IntKind.i64 3, Value.slice (some a) N c, Value.int IntKind.i64 ↑N, Value.agg (shl k h).toArray, Value.int IntKind.i64 ↑N, Value.bool false, Value.slice (some a) N c, Value.int IntKind.u32 ↑q, Value.pointer (some { block := g6, off := 0 }), Value.slice (some a) N c, Value.pointer (some { block := g3, off := 2 }), Value.int IntKind.i64 ↑L, Value.int IntKind.i64 ↑M, Value.slice (some { block := a.block, off := a.off + 4 }) L (c - 4), Value.pointer (some { block := g6, off := 1 }), Value.slice (some a) N c, Value.pointer (some { block := g3, off := 2 }), Value.int IntKind.i64 ↑L, Value.int IntKind.i64 ↑M, Value.slice (some (a.add M)) (N - M) (c - M), Value.slice (some (a.add M)) (N - M) (c - M), Value.slice (some { block := (a.add M).block, off := (a.add M).off + 4 }) (N - M - 4) (c - M - 4), Value.pointer (some { block := g6, off := 2 }), x 0, x 1, x 2, x 3, x 4, x 5, x 6, x 7, x 8, x 9, x 10, x 11, x 12, x 13, x 14, x 15, x 16, x 17, x 18, x 19, x 20, undef, undef, undef], []⟩) (fun jj => ([eqV (.pointer (some ⟨g6, 1, none⟩)), eqV (.slice (some ⟨a.block, a.off + 4, none⟩) L (c - 4)), (eqV (.int .u32 (Y : Int))), eqV (.pointer (some ⟨g3, 1, none⟩)), eqV (.int .u32 (Y : Int)), eqV (.bool false), eqV (.bool false), eqV (.slice (some (a.add M)) (N - M) (c - M)), (eqV (.int .u32 (D : Int))), eqV (.pointer (some ⟨g3, 0, none⟩)), eqV (.int .u32 (D : Int)), eqV (.bool false), eqV (.bool false), eqV (.bool false), eqV (.pointer (some ⟨g6, 0, none⟩)), eqV (.int .u32 (q : Int)), eqV (.agg (shl k h).toArray), (eqV (.int .i64 (B2 : Int))), eqV (.int .u32 (B2 : Int)), eqV (.bool false), eqV (.bool false)] : List (Value → World → Prop)).getD jj (fun _ _ => True)) rfl ⟨fun kk => [_, _, _, _, _, _, _, _, _, _, _, _, _, _, _, _, _, _, _, _, _].getD kk undef, rfl⟩ (by kernel_rfl) (by kernel_rfl) ?steps ?fin
  case steps =>
    refine StepsAt.val 0 (.pointer (some ⟨g6, 1, none⟩)) rfl (fun _ _ => rfl) rfl rfl (fun x w9 hb hd => ?_) ?_
    · first | (go_simp; done) | (go_simp; rfl)
    refine StepsAt.val 1 (.slice (some ⟨a.block, a.off + 4, none⟩) L (c - 4)) rfl (fun _ _ => rfl) rfl rfl (fun x w9 hb hd => ?_) ?_
    · have h0 : x 0 = .pointer (some ⟨g6, 1, none⟩) := hd 0 (by kernel_rfl)
      have cc := ((R6.out.below hb R6.out.lt).cell 1).trans rfl
      rw [h0]
      first | (go_simp; done) | (go_simp; rfl)
    refine StepsAt.cons 2 (fun _ _ _ h hb => h) (fun _ _ => rfl) rfl rfl (fun x w9 hb hd K hK => ?_) ?_
    · have h1 : Hid (x 1 = .slice (some ⟨a.block, a.off + 4, none⟩) L (c - 4)) := hd 1 (by kernel_rfl)
      go_simp
      refine calls_args (args2 := #[.slice (some ⟨a.block, a.off + 4, none⟩) L (c - 4)]) (by rw [h1.out]) ?_
      refine (numberL_any w.heap.size _ ((s.drop 4).take L) _ (HO.out.below (hb.mono RB.out.size)) (by rw [List.length_take, List.length_drop, HSL.out]; omega)).mono ?_
      rintro e w5 ⟨rfl, nd, rfl⟩
      rw [HE.out]
      exact hK.out _ _ (below_drewN (Below.refl _ _) _) rfl
    refine StepsAt.val 3 (.pointer (some ⟨g3, 1, none⟩)) rfl (fun _ _ => rfl) rfl rfl (fun x w9 hb hd => ?_) ?_
    · first | (go_simp; done) | (go_simp; rfl)
    refine StepsAt.val 4 (.int .u32 (Y : Int)) rfl (fun _ _ => rfl) rfl rfl (fun x w9 hb hd => ?_) ?_
    · have h3 : x 3 = .pointer (some ⟨g3, 1, none⟩) := hd 3 (by kernel_rfl)
      have cc := ((R3.out.below hb R3.out.lt).cell 1).trans HC1.out
      rw [h3]
      first | (go_simp; done) | (go_simp; rfl)
    refine StepsAt.val 5 (.bool false) rfl (fun _ _ => rfl) rfl rfl (fun x w9 hb hd => ?_) ?_
    · have h2 : x 2 = .int .u32 (Y : Int) := hd 2 (by kernel_rfl)
      have h4 : x 4 = .int .u32 (Y : Int) := hd 4 (by kernel_rfl)
      rw [h2, h4]
      first | (go_simp; done) | (go_simp; rfl)
    refine StepsAt.val 6 (.bool false) rfl (fun _ _ => rfl) rfl rfl (fun x w9 hb hd => ?_) ?_
    · have h5 : x 5 = .bool false := hd 5 (by kernel_rfl)
      rw [h5]
      first | (go_simp; done) | (go_simp; rfl)
    refine StepsAt.valG 7 (.slice (some (a.add M)) (N - M) (c - M)) rfl (fun _ _ => rfl) rfl (fun x w9 hd => ?_) (fun x w9 hb hd => ?_) ?_
    · have hG : x 6 = .bool false := hd 6 (by kernel_rfl)
      simp [Region.wanted, yielded, hG]
    · first | (go_simp; done) | (go_simp; rfl)
    refine StepsAt.consG 8 (fun _ _ _ h hb => h) (fun _ _ => rfl) rfl (fun x w9 hd => ?_) (fun x w9 hb hd K hK => ?_) ?_
    · have hG : x 6 = .bool false := hd 6 (by kernel_rfl)
      simp [Region.wanted, yielded, hG]
    · have h7 : Hid (x 7 = .slice (some (a.add M)) (N - M) (c - M)) := hd 7 (by kernel_rfl)
      go_simp
      refine calls_args (args2 := #[.slice (some (a.add M)) (N - M) (c - M)]) (by rw [h7.out]) ?_
      refine (numberL_any w.heap.size _ (s.drop M) _ (HB.out.below (hb.mono RB.out.size)) (by rw [List.length_drop, HSL.out]; omega)).mono ?_
      rintro e w5 ⟨rfl, nd, rfl⟩
      rw [HG.out]
      exact hK.out _ _ (below_drewN (Below.refl _ _) _) rfl
    refine StepsAt.valG 9 (.pointer (some ⟨g3, 0, none⟩)) rfl (fun _ _ => rfl) rfl (fun x w9 hd => ?_) (fun x w9 hb hd => ?_) ?_
    · have hG : x 6 = .bool false := hd 6 (by kernel_rfl)
      simp [Region.wanted, yielded, hG]
    · first | (go_simp; done) | (go_simp; rfl)
    refine StepsAt.valG 10 (.int .u32 (D : Int)) rfl (fun _ _ => rfl) rfl (fun x w9 hd => ?_) (fun x w9 hb hd => ?_) ?_
    · have hG : x 6 = .bool false := hd 6 (by kernel_rfl)
      simp [Region.wanted, yielded, hG]
    · have h9 : x 9 = .pointer (some ⟨g3, 0, none⟩) := hd 9 (by kernel_rfl)
      have cc := ((R3.out.below hb R3.out.lt).cell 0).trans HC0.out
      rw [h9]
      first | (go_simp; done) | (go_simp; rfl)
    refine StepsAt.valG 11 (.bool false) rfl (fun _ _ => rfl) rfl (fun x w9 hd => ?_) (fun x w9 hb hd => ?_) ?_
    · have hG : x 6 = .bool false := hd 6 (by kernel_rfl)
      simp [Region.wanted, yielded, hG]
    · have h8 : x 8 = .int .u32 (D : Int) := hd 8 (by kernel_rfl)
      have h10 : x 10 = .int .u32 (D : Int) := hd 10 (by kernel_rfl)
      rw [h8, h10]
      first | (go_simp; done) | (go_simp; rfl)
    refine StepsAt.val 12 (.bool false) rfl (fun _ _ => rfl) rfl rfl (fun x w9 hb hd => ?_) ?_
    · have h6 : x 6 = .bool false := hd 6 (by kernel_rfl)
      have h11 : x 11 = .bool false := hd 11 (by kernel_rfl)
      rw [h6, h11]
      first | (go_simp; done) | (go_simp; rfl)
    refine StepsAt.val 13 (.bool false) rfl (fun _ _ => rfl) rfl rfl (fun x w9 hb hd => ?_) ?_
    · have h12 : x 12 = .bool false := hd 12 (by kernel_rfl)
      rw [h12]
      first | (go_simp; done) | (go_simp; rfl)
    refine StepsAt.valG 14 (.pointer (some ⟨g6, 0, none⟩)) rfl (fun _ _ => rfl) rfl (fun x w9 hd => ?_) (fun x w9 hb hd => ?_) ?_
    · have hG : x 13 = .bool false := hd 13 (by kernel_rfl)
      simp [Region.wanted, yielded, hG]
    · first | (go_simp; done) | (go_simp; rfl)
    refine StepsAt.valG 15 (.int .u32 (q : Int)) rfl (fun _ _ => rfl) rfl (fun x w9 hd => ?_) (fun x w9 hb hd => ?_) ?_
    · have hG : x 13 = .bool false := hd 13 (by kernel_rfl)
      simp [Region.wanted, yielded, hG]
    · have h14 : x 14 = .pointer (some ⟨g6, 0, none⟩) := hd 14 (by kernel_rfl)
      have cc := ((R6.out.below hb R6.out.lt).cell 0).trans rfl
      rw [h14]
      first | (go_simp; done) | (go_simp; rfl)
    refine StepsAt.valG 16 (.agg (shl k h).toArray) rfl (fun _ _ => rfl) rfl (fun x w9 hd => ?_) (fun x w9 hb hd => ?_) ?_
    · have hG : x 13 = .bool false := hd 13 (by kernel_rfl)
      simp [Region.wanted, yielded, hG]
    · exact run_load_blkU 65 (.tmp 3) rfl g3 rfl (shl k h) 65 (R3.out.below hb R3.out.lt) d74 HU7.out HD7.out s74
    refine StepsAt.consG 17 (fun _ _ _ h hb => h) (fun _ _ => rfl) rfl (fun x w9 hd => ?_) (fun x w9 hb hd K hK => ?_) ?_
    · have hG : x 13 = .bool false := hd 13 (by kernel_rfl)
      simp [Region.wanted, yielded, hG]
    · have h16 : Hid (x 16 = .agg (shl k h).toArray) := hd 16 (by kernel_rfl)
      go_simp
      refine calls_args (args2 := #[.agg (shl k h).toArray]) (by rw [h16.out]) ?_
      refine (leavesL_any k h _ HH.out).mono ?_
      rintro e w5 ⟨rfl, hb2⟩
      rw [HB2.out]
      exact hK.out _ _ hb2 rfl
    refine StepsAt.valG 18 (.int .u32 (B2 : Int)) rfl (fun _ _ => rfl) rfl (fun x w9 hd => ?_) (fun x w9 hb hd => ?_) ?_
    · have hG : x 13 = .bool false := hd 13 (by kernel_rfl)
      simp [Region.wanted, yielded, hG]
    · have h17 : x 17 = .int .i64 (B2 : Int) := hd 17 (by kernel_rfl)
      rw [h17]
      go_simp
      have := HBL.out
      rw [IntKind.wrap_u32']
      omega
    refine StepsAt.valG 19 (.bool false) rfl (fun _ _ => rfl) rfl (fun x w9 hd => ?_) (fun x w9 hb hd => ?_) ?_
    · have hG : x 13 = .bool false := hd 13 (by kernel_rfl)
      simp [Region.wanted, yielded, hG]
    · have h15 : x 15 = .int .u32 (q : Int) := hd 15 (by kernel_rfl)
      have h18 : x 18 = .int .u32 (B2 : Int) := hd 18 (by kernel_rfl)
      rw [h15, h18]
      first | (go_simp; done) | (go_simp; rfl)
    refine StepsAt.val 20 (.bool false) rfl (fun _ _ => rfl) rfl rfl (fun x w9 hb hd => ?_) ?_
    · have h13 : x 13 = .bool false := hd 13 (by kernel_rfl)
      have h19 : x 19 = .bool false := hd 19 (by kernel_rfl)
      rw [h13, h19]
      first | (go_simp; done) | (go_simp; rfl)
    exact StepsAt.done
  case fin =>
    intro x w9 hb hd
    have h20 : x 20 = .bool false := hd 20 (by omega)
    refine AnyTill.any (S := fun _ => True) (m := 21) _ _ _ _ ?_
    refine AnyTill.done (by kernel_rfl) ?_
    refine NoPanic.normal ?_
    dsimp only
    rw [h20]
    have T6 : Hid (Blk w9 g6 (ptl q (.slice (some ⟨a.block, a.off + 4, none⟩) L (c - 4)) (.slice (some ⟨(a.add M).block, (a.add M).off + 4, none⟩) (N - M - 4) (c - M - 4))) 63) := R6.out.below hb R6.out.lt
    have T4 : Hid (Blk w9 g4 pts0 63) := R4.out.below hb R4.out.lt
    have TB : Hid (Below w.heap.size w w9) := RB.out.trans (hb.mono RB.out.size)
    generalize x 0 = y0
    generalize x 1 = y1
    generalize x 2 = y2
    generalize x 3 = y3
    generalize x 4 = y4
    generalize x 5 = y5
    generalize x 6 = y6
    generalize x 7 = y7
    generalize x 8 = y8
    generalize x 9 = y9
    generalize x 10 = y10
    generalize x 11 = y11
    generalize x 12 = y12
    generalize x 13 = y13
    generalize x 14 = y14
    generalize x 15 = y15
    generalize x 16 = y16
    generalize x 17 = y17
    generalize x 18 = y18
    generalize x 19 = y19
    clear hd h20 hb R3 R4 R6 RB x
    go_wp2_with (first | (refine wpList_load_blkU rfl 63 _ rfl g6 rfl (ptl q (.slice (some ⟨a.block, a.off + 4, none⟩) L (c - 4)) (.slice (some ⟨(a.add M).block, (a.add M).off + 4, none⟩) (N - M - 4) (c - M - 4))) 63 T6.out d86 HU.out HD.out s86 ?_) | (refine wpList_store_blk rfl 63 _ _ rfl g4 (ptl q (.slice (some ⟨a.block, a.off + 4, none⟩) L (c - 4)) (.slice (some ⟨(a.add M).block, (a.add M).off + 4, none⟩) (N - M - 4) (c - M - 4))) pts0 63 rfl rfl T4.out s86 rfl (ptl_one _ _ _ _ _ _ _) ?_))
    rw [jump_ret]
    refine bodyPost_ret (v := .tuple #[.agg (ptl q (.slice (some ⟨a.block, a.off + 4, none⟩) L (c - 4)) (.slice (some ⟨(a.add M).block, (a.add M).off + 4, none⟩) (N - M - 4) (c - M - 4))).toArray, .int .i64 0]) ?_ rfl ?_
    · exact ret_blk2U rfl _ _ g4 63 (ptl q (.slice (some ⟨a.block, a.off + 4, none⟩) L (c - 4)) (.slice (some ⟨(a.add M).block, (a.add M).off + 4, none⟩) (N - M - 4) (c - M - 4))) _ rfl rfl T4.out.setRow d86 HU.out HD.out s86
    · refine ⟨_, _, by rw [HQE.out], fun B w0 hB0 => ⟨?_, ?_⟩, below_setRow' TB.out hw4 _⟩
      · rw [HLE.out]
        have e1 := hB0.drop 4 (by omega)
        rw [if_neg hc4, show a.add 4 = ⟨a.block, a.off + 4, none⟩ by simp [Addr.add]] at e1
        exact e1.take L (by omega)
      · rw [HLE.out, HME.out]
        have e1 := hB0.drop M (by omega)
        rw [if_neg hcM] at e1
        have e2 := e1.drop 4 (by omega)
        rw [if_neg hcM4, show (a.add M).add 4 = ⟨(a.add M).block, (a.add M).off + 4, none⟩ by simp [Addr.add]] at e2
        exact e2

end Go.Proofs.YtllncnnigjgadaaGreat

namespace Go.Proofs.YtllncnnigjgadaaGreat
open Go.RowKit

theorem run_load_midU {P : Program} {o : Oper} {a : Act} {w : World} (t : TypeId) (x : Operand) (ho : o.op = .load t x) (g off : Nat) (hx : a.eval x = .pointer (some ⟨g, off, none⟩)) (cs : List Value) (d : TypeDesc) (hc : w.rangeAt g off cs)
    (hu : P.underlying t = some d) (hd : d.isRow = true) (hi : (P.info? t).map (·.size) = some cs.length) : (execOp a.eval o).run P w = .ok (.value (.agg cs.toArray)) w := by
  unfold execOp
  simp only [ho, hx, Instr.loadAt, Instr.sureAddr, Sem.run_bind, Sem.run_pure, Result.andThen_ok, run_loadVar_mid w g off t cs d hc hu hd hi]
theorem kyl_rangeS {w : World} {g : Nat} {S : List Value} {I R : List UInt8} {t : TypeId} (h : Blk w g (kyl S I R) t) : w.rangeAt g 0 S := fun j v hv => by
  have hj : j < S.length := (List.getElem?_eq_some_iff.1 hv).1
  rw [h.cell, Nat.zero_add]
  unfold kyl
  rw [List.getElem?_append_left hj]
  exact hv
theorem kyl_rangeI {w : World} {g : Nat} {S : List Value} {I R : List UInt8} {t : TypeId} (h : Blk w g (kyl S I R) t) (hS : S.length = 4) : w.rangeAt g 4 (bys I) := fun j v hv => by
  have hj : j < (bys I).length := (List.getElem?_eq_some_iff.1 hv).1
  rw [h.cell]
  unfold kyl
  rw [List.getElem?_append_right (by omega), hS, show 4 + j - 4 = j by omega, List.getElem?_append_left hj]
  exact hv
theorem kyl_rangeR {w : World} {g : Nat} {S : List Value} {I R : List UInt8} {t : TypeId} (h : Blk w g (kyl S I R) t) (hS : S.length = 4) (hI : I.length = 16) : w.rangeAt g 20 (bys R) := fun j v hv => by
  rw [h.cell]
  unfold kyl
  rw [List.getElem?_append_right (by omega), hS, List.getElem?_append_right (by rw [bys_length]; omega), bys_length, hI, show 20 + j - 4 - 16 = j by omega]
  exact hv

set_option maxRecDepth 100000 in
set_option maxHeartbeats 400000 in
theorem verT_badkey (pv tv sv : Value) (w : World) (hkey : ∀ w', Below w.heap.size w w' → Calls Tryz.prog 29 #[pv] w' (TwoD (.agg kyl0.toArray) (.int .i64 3) w')) :
    Calls Tryz.prog 9 #[pv, tv, sv] w (One (.int .i64 3) w) := by
  have HKEY := Lib.hid hkey
  clear hkey
  go_enter Tryz.func9, Tryz.ntmps9
  go_wp2
  refine wp_scope_goto 0 rfl ?_
  go_wp2_with (refine wpList_alloc_blk rfl 63 rfl _ zi86 ?_)
  intro w1 a1 a2 a3
  have A3 := Lib.hid a3
  clear a1 a2 a3
  go_wp2_with (refine wpList_alloc_blk rfl 30 rfl _ z24 ?_)
  intro w2 a1 a2 a3
  have GB : Hid (Below w.heap.size w w2) := A3.out.trans (a3.mono A3.out.size)
  clear a1 a2 a3 A3
  go_wp2_with fail
  refine (HKEY.out _ GB.out).mono ?_
  rintro e w3 ⟨rfl, hb⟩
  have EB : Hid (Below w.heap.size w w3) := GB.out.trans (hb.mono GB.out.size)
  clear hb GB
  go_wp2_with (refine wpList_alloc_blk rfl 67 rfl _ zi88 ?_)
  intro w4 a1 a2 a3
  have A1 := Lib.hid a1
  have hs := EB.out.size
  have LB : Hid (Below w.heap.size w (w4.setRow w3.heap.size kyl0.toArray)) := below_setRow' (EB.out.trans (a3.mono hs)) hs _
  clear a1 a2 a3 EB
  go_wp2_with (refine wpList_store_blk rfl 67 _ _ rfl w3.heap.size kyl0 kyl0 67 rfl rfl A1.out s88z rfl kyl0_one ?_)
  refine wp_goto ⟨rfl, ?_⟩
  go_wp2
  rw [Exit.noGoto_ret]
  go_ret
  exact ⟨rfl, LB.out⟩

set_option maxRecDepth 100000 in
set_option maxHeartbeats 2000000 in
theorem verT_badparts (k h : Nat) (I R : List UInt8) (pv tv sv : Value) (w : World) (hI : I.length = 16) (hR : R.length = 32) (hk : Wd k) (hh : Ht h) (hkey : ∀ w', Below w.heap.size w w' → Calls Tryz.prog 29 #[pv] w' (TwoD (.agg (kyl (shl k h) I R).toArray) (.int .i64 0) w'))
    (hparts : ∀ w', Below w.heap.size w w' → Calls Tryz.prog 30 #[sv, .agg (shl k h).toArray] w' (TwoD (.agg pts0.toArray) (.int .i64 3) w')) :
    Calls Tryz.prog 9 #[pv, tv, sv] w (One (.int .i64 3) w) := by
  have HKEY := Lib.hid hkey
  have HI := Lib.hid hI
  have HR := Lib.hid hR
  have HK := Lib.hid hk
  have HH := Lib.hid hh
  have HS9 := Lib.hid (s88' (shl k h) I R rfl hI hR)
  have HL9 : Hid (kyl0.length = (kyl (shl k h) I R).length) := by show _ = _; rw [kyl0_len, kyl_length _ _ _ rfl hI hR]
  have H22 : Hid ((Tryz.prog.info? 29).map (·.size) = some (bys I).length) := by show _ = _; rw [bys_length, hI]; exact s22
  have H24r : Hid ((Tryz.prog.info? 30).map (·.size) = some (bys R).length) := by show _ = _; rw [bys_length, hR]; exact s24
  obtain ⟨d74, hu74, hd74⟩ := row74
  have HU7 := Lib.hid hu74
  have HD7 := Lib.hid hd74
  have H74 : Hid ((Tryz.prog.info? 65).map (·.size) = some (shl k h).length) := s74
  have HPT := Lib.hid hparts
  clear hparts
  clear hkey hI hR hk hh hu74 hd74
  go_enter Tryz.func9, Tryz.ntmps9
  go_wp2
  refine wp_scope_goto 0 rfl ?_
  go_wp2_with (refine wpList_alloc_blk rfl 63 rfl _ zi86 ?_)
  intro w1 a1 a2 a3
  obtain ⟨g7, hg7⟩ : ∃ g, w.heap.size = g := ⟨_, rfl⟩
  have hw7 : w.heap.size ≤ g7 := by omega
  have A7 : Hid (Blk w1 g7 pts0 63) := by rw [← hg7]; exact a1
  have A3 := Lib.hid a3
  rw [hg7]
  clear a1 a2 a3 hg7
  go_wp2_with (refine wpList_alloc_blk rfl 30 rfl _ z24 ?_)
  intro w2 a1 a2 a3
  obtain ⟨g8, hg8⟩ : ∃ g, w1.heap.size = g := ⟨_, rfl⟩
  have hg78 : g7 < g8 := by rw [← hg8]; exact A7.out.lt
  have G7 : Hid (Blk w2 g7 pts0 63) := A7.out.below a3 A7.out.lt
  have G8 : Hid (Blk w2 g8 z32 30) := by rw [← hg8]; exact a1
  have GB : Hid (Below w.heap.size w w2) := A3.out.trans (a3.mono A3.out.size)
  rw [hg8]
  clear a1 a2 a3 A3 A7 hg8
  go_wp2_with fail
  refine (HKEY.out _ GB.out).mono ?_
  rintro e w3 ⟨rfl, hb⟩
  have E7 : Hid (Blk w3 g7 pts0 63) := G7.out.below hb G7.out.lt
  have E8 : Hid (Blk w3 g8 z32 30) := G8.out.below hb G8.out.lt
  have EB : Hid (Below w.heap.size w w3) := GB.out.trans (hb.mono GB.out.size)
  have hl8 : g8 < w3.heap.size := E8.out.lt
  clear hb GB G7 G8
  go_wp2_with (refine wpList_alloc_blk rfl 67 rfl _ zi88 ?_)
  intro w4 a1 a2 a3
  obtain ⟨g9, hg9⟩ : ∃ g, w3.heap.size = g := ⟨_, rfl⟩
  rw [hg9] at a1 a2 a3 hl8 ⊢
  have A1 := Lib.hid a1
  obtain ⟨t4, ht4⟩ : ∃ t, w4.setRow g9 (kyl (shl k h) I R).toArray = t := ⟨_, rfl⟩
  have F7 : Hid (Blk t4 g7 pts0 63) := by rw [← ht4]; exact (E7.out.below a3 (by omega)).setRowOther (by omega)
  have F8 : Hid (Blk t4 g8 z32 30) := by rw [← ht4]; exact (E8.out.below a3 (by omega)).setRowOther (by omega)
  have F9 : Hid (Blk t4 g9 (kyl (shl k h) I R) 67) := by rw [← ht4]; exact a1.setRow
  have FB : Hid (Below w.heap.size w t4) := by have := EB.out.size; rw [← ht4]; exact below_setRow' (EB.out.trans (a3.mono (by omega))) (by omega) _
  clear a1 a2 a3 E7 E8 EB hg9
  go_wp2_with (first | (refine wpList_store_blk rfl 67 _ _ rfl g9 (kyl (shl k h) I R) kyl0 67 rfl rfl A1.out HS9.out HL9.out (kyl_one _ _ _ (shl_one k h)) ?_; rw [ht4]; clear ht4) | (refine wpList_load_mid rfl 65 _ rfl g9 0 rfl (shl k h) d74 (kyl_rangeS F9.out) HU7.out HD7.out H74.out ?_))
  refine (HPT.out _ FB.out).mono ?_
  rintro e w5 ⟨rfl, hb⟩
  have I7 : Hid (Blk w5 g7 pts0 63) := F7.out.below hb F7.out.lt
  have IB : Hid (Below w.heap.size w w5) := FB.out.trans (hb.mono FB.out.size)
  have LB : Hid (Below w.heap.size w (w5.setRow g7 pts0.toArray)) := below_setRow' IB.out hw7 _
  clear hb F7 F8 F9 FB A1 IB
  go_wp2_with (refine wpList_store_blk rfl 63 _ _ rfl g7 pts0 pts0 63 rfl rfl I7.out s86 rfl pts0_one ?_)
  refine wp_goto ⟨rfl, ?_⟩
  go_wp2
  rw [Exit.noGoto_ret]
  go_ret
  exact ⟨rfl, LB.out⟩

set_option maxRecDepth 100000 in
set_option maxHeartbeats 2000000 in
theorem verT_good (k h : Nat) (I R : List UInt8) (pv tv sv : Value) (w : World) (hI : I.length = 16) (hR : R.length = 32) (hk : Wd k) (hh : Ht h) (hkey : ∀ w', Below w.heap.size w w' → Calls Tryz.prog 29 #[pv] w' (TwoD (.agg (kyl (shl k h) I R).toArray) (.int .i64 0) w'))
    (q : Nat) (once sibs text : List UInt8) (hq : q < 2 ^ h) (ht : Rd w.heap.size w tv text) (htl : text.length ≤ 100000) (hf : Fits once k) (hsl : sibs.length = 32 * h)
    (hparts : ∀ w', Below w.heap.size w w' → Calls Tryz.prog 30 #[sv, .agg (shl k h).toArray] w' (fun e w'' => ∃ o t, e = .returned (.tuple #[.agg (ptl q o t).toArray, .int .i64 0]) ∧ Rd w.heap.size w o once ∧ Rd w.heap.size w t sibs ∧ Below w'.heap.size w' w'')) :
    Calls Tryz.prog 9 #[pv, tv, sv] w (One (.int .i64 (if lroot I once text sibs k h q = R then 0 else 16)) w) := by
  have HKEY := Lib.hid hkey
  have HI := Lib.hid hI
  have HR := Lib.hid hR
  have HK := Lib.hid hk
  have HH := Lib.hid hh
  have HS9 := Lib.hid (s88' (shl k h) I R rfl hI hR)
  have HL9 : Hid (kyl0.length = (kyl (shl k h) I R).length) := by show _ = _; rw [kyl0_len, kyl_length _ _ _ rfl hI hR]
  have H22 : Hid ((Tryz.prog.info? 29).map (·.size) = some (bys I).length) := by show _ = _; rw [bys_length, hI]; exact s22
  have H24r : Hid ((Tryz.prog.info? 30).map (·.size) = some (bys R).length) := by show _ = _; rw [bys_length, hR]; exact s24
  obtain ⟨d74, hu74, hd74⟩ := row74
  have HU7 := Lib.hid hu74
  have HD7 := Lib.hid hd74
  have H74 : Hid ((Tryz.prog.info? 65).map (·.size) = some (shl k h).length) := s74
  have HPT := Lib.hid hparts
  have HTX := Lib.hid ht
  have HTL := Lib.hid htl
  have HFT := Lib.hid hf
  have HSB := Lib.hid hsl
  obtain ⟨At, ct, rfl, hct, hmt⟩ := ht.shape
  unfold maxLen at hmt
  obtain ⟨h1, h5⟩ := hh.le
  have HH1 : Hid (1 ≤ h) := h1
  have HH5 : Hid (h ≤ 5) := h5
  obtain ⟨L, hL⟩ : ∃ L, 2 ^ h = L := ⟨_, rfl⟩
  have hL32 : L ≤ 32 := by rw [← hL]; rcases hh with rfl | rfl | rfl | rfl | rfl <;> decide
  have HLE := Lib.hid hL
  rw [hL] at hq
  obtain ⟨T, hT⟩ : ∃ T, L + q = T := ⟨_, rfl⟩
  have zT : (L : Int) + (q : Int) = (T : Int) := by omega
  have hT64 : T ≤ 64 := by omega
  have HT1 : Hid (2 ^ h ≤ T) := by show _ ≤ _; rw [hL]; omega
  have HT2 : Hid (T < 2 * 2 ^ h) := by show _ < _; rw [hL]; omega
  have hq32 : q < 32 := by omega
  obtain ⟨C, hC⟩ : ∃ C, cndL (pre20 I q) once text k = C := ⟨_, rfl⟩
  have hCl : C.length = 32 := by rw [← hC]; exact hpub_length _ _
  have HCE := Lib.hid hC
  have HCL := Lib.hid hCl
  obtain ⟨F, hF⟩ : ∃ F, clm I h T (leafL I T C) sibs = F := ⟨_, rfl⟩
  have hFl : F.length = 32 := by rw [← hF]; exact clm_length _ _ _ _ _ (leafL_length _ _ _)
  have HFE := Lib.hid hF
  have HFL := Lib.hid hFl
  have hroot : lroot I once text sibs k h q = F := by unfold lroot; rw [hL, hT, hC, hF]
  rw [hroot]
  obtain ⟨Z, hZ⟩ : ∃ z : Int, (if F = R then 0 else 16) = z := ⟨_, rfl⟩
  rw [hZ]
  have HZE := Lib.hid hZ
  have H24c : Hid ((Tryz.prog.info? 30).map (·.size) = some (bys C).length) := by show _ = _; rw [bys_length, hCl]; exact s24
  have HLZc : Hid (z32.length = (bys C).length) := by show _ = _; rw [bys_length, hCl, z32_length]
  clear hparts ht hf hsl hL hT hC hCl hF hFl hroot h1 h5 htl hZ
  clear hkey hI hR hk hh hu74 hd74
  go_enter Tryz.func9, Tryz.ntmps9
  go_wp2
  refine wp_scope_goto 0 rfl ?_
  go_wp2_with (refine wpList_alloc_blk rfl 63 rfl _ zi86 ?_)
  intro w1 a1 a2 a3
  obtain ⟨g7, hg7⟩ : ∃ g, w.heap.size = g := ⟨_, rfl⟩
  have hw7 : w.heap.size ≤ g7 := by omega
  have A7 : Hid (Blk w1 g7 pts0 63) := by rw [← hg7]; exact a1
  have A3 := Lib.hid a3
  rw [hg7]
  clear a1 a2 a3 hg7
  go_wp2_with (refine wpList_alloc_blk rfl 30 rfl _ z24 ?_)
  intro w2 a1 a2 a3
  obtain ⟨g8, hg8⟩ : ∃ g, w1.heap.size = g := ⟨_, rfl⟩
  have hg78 : g7 < g8 := by rw [← hg8]; exact A7.out.lt
  have G7 : Hid (Blk w2 g7 pts0 63) := A7.out.below a3 A7.out.lt
  have G8 : Hid (Blk w2 g8 z32 30) := by rw [← hg8]; exact a1
  have GB : Hid (Below w.heap.size w w2) := A3.out.trans (a3.mono A3.out.size)
  rw [hg8]
  clear a1 a2 a3 A3 A7 hg8
  go_wp2_with fail
  refine (HKEY.out _ GB.out).mono ?_
  rintro e w3 ⟨rfl, hb⟩
  have E7 : Hid (Blk w3 g7 pts0 63) := G7.out.below hb G7.out.lt
  have E8 : Hid (Blk w3 g8 z32 30) := G8.out.below hb G8.out.lt
  have EB : Hid (Below w.heap.size w w3) := GB.out.trans (hb.mono GB.out.size)
  have hl8 : g8 < w3.heap.size := E8.out.lt
  clear hb GB G7 G8
  go_wp2_with (refine wpList_alloc_blk rfl 67 rfl _ zi88 ?_)
  intro w4 a1 a2 a3
  obtain ⟨g9, hg9⟩ : ∃ g, w3.heap.size = g := ⟨_, rfl⟩
  rw [hg9] at a1 a2 a3 hl8 ⊢
  have A1 := Lib.hid a1
  obtain ⟨t4, ht4⟩ : ∃ t, w4.setRow g9 (kyl (shl k h) I R).toArray = t := ⟨_, rfl⟩
  have F7 : Hid (Blk t4 g7 pts0 63) := by rw [← ht4]; exact (E7.out.below a3 (by omega)).setRowOther (by omega)
  have F8 : Hid (Blk t4 g8 z32 30) := by rw [← ht4]; exact (E8.out.below a3 (by omega)).setRowOther (by omega)
  have F9 : Hid (Blk t4 g9 (kyl (shl k h) I R) 67) := by rw [← ht4]; exact a1.setRow
  have FB : Hid (Below w.heap.size w t4) := by have := EB.out.size; rw [← ht4]; exact below_setRow' (EB.out.trans (a3.mono (by omega))) (by omega) _
  clear a1 a2 a3 E7 E8 EB hg9
  go_wp2_with (first | (refine wpList_store_blk rfl 67 _ _ rfl g9 (kyl (shl k h) I R) kyl0 67 rfl rfl A1.out HS9.out HL9.out (kyl_one _ _ _ (shl_one k h)) ?_; rw [ht4]; clear ht4) | (refine wpList_load_mid rfl 65 _ rfl g9 0 rfl (shl k h) d74 (kyl_rangeS F9.out) HU7.out HD7.out H74.out ?_))
  refine (HPT.out _ FB.out).mono ?_
  rintro e w5 ⟨ov, sv2, rfl, hro, hrs, hb⟩
  obtain ⟨Ao, co, hov, hco, hmo⟩ := hro.shape
  obtain ⟨As, cs, hsv2, hcs, hms⟩ := hrs.shape
  subst hov
  subst hsv2
  unfold maxLen at hmo hms
  obtain ⟨no, hno⟩ : ∃ n, once.length = n := ⟨_, rfl⟩
  rw [hno] at hro hco ⊢
  rw [HSB.out] at hrs hcs ⊢
  have I7 : Hid (Blk w5 g7 pts0 63) := F7.out.below hb F7.out.lt
  have I8 : Hid (Blk w5 g8 z32 30) := F8.out.below hb F8.out.lt
  have I9 : Hid (Blk w5 g9 (kyl (shl k h) I R) 67) := F9.out.below hb F9.out.lt
  have IB : Hid (Below w.heap.size w w5) := FB.out.trans (hb.mono FB.out.size)
  have RO := Lib.hid hro
  have RS := Lib.hid hrs
  obtain ⟨V, hV⟩ : ∃ V, w5.setRow g7 (ptl q (.slice Ao no co) (.slice As (32 * h) cs)).toArray = V := ⟨_, rfl⟩
  have J7 : Hid (Blk V g7 (ptl q (.slice Ao no co) (.slice As (32 * h) cs)) 63) := by rw [← hV]; exact I7.out.setRow
  have J8 : Hid (Blk V g8 z32 30) := by rw [← hV]; exact I8.out.setRowOther (by omega)
  have J9 : Hid (Blk V g9 (kyl (shl k h) I R) 67) := by rw [← hV]; exact I9.out.setRowOther (by omega)
  have JB : Hid (Below w.heap.size w V) := by rw [← hV]; exact below_setRow' IB.out hw7 _
  have c70 : V.cell? ⟨g7, 0, none⟩ = some (.int .u32 (q : Int)) := (J7.out.cell 0).trans rfl
  have c71 : V.cell? ⟨g7, 1, none⟩ = some (.slice Ao no co) := (J7.out.cell 1).trans rfl
  clear hb hro hrs hno I8 I9 IB F7 F8 F9 FB A1
  go_wp2_with (first | (refine wpList_store_blk rfl 63 _ _ rfl g7 (ptl q (.slice Ao no co) (.slice As (32 * h) cs)) pts0 63 rfl rfl I7.out s86 rfl (ptl_one _ _ _ _ _ _ _) ?_; rw [hV]; clear hV) | (refine wpList_load_mid rfl 29 _ rfl g9 4 rfl (bys I) _ (kyl_rangeI J9.out rfl) tu22 rfl H22.out ?_))
  clear c70 c71
  refine (candX_yes I text once q k _ _ _ HI.out (by omega) ((HTX.out.below JB.out).more JB.out.size) ((RO.out.below JB.out).more JB.out.size) HTL.out HFT.out).mono ?_
  rintro e w6 ⟨rfl, hb⟩
  rw [HCE.out]
  have K7 : Hid (Blk w6 g7 (ptl q (.slice Ao no co) (.slice As (32 * h) cs)) 63) := J7.out.below hb J7.out.lt
  have K8 : Hid (Blk w6 g8 z32 30) := J8.out.below hb J8.out.lt
  have K9 : Hid (Blk w6 g9 (kyl (shl k h) I R) 67) := J9.out.below hb J9.out.lt
  have KB : Hid (Below w.heap.size w w6) := JB.out.trans (hb.mono JB.out.size)
  obtain ⟨X, hX⟩ : ∃ X, w6.setRow g8 (bys C).toArray = X := ⟨_, rfl⟩
  have M7 : Hid (Blk X g7 (ptl q (.slice Ao no co) (.slice As (32 * h) cs)) 63) := by rw [← hX]; exact K7.out.setRowOther (by omega)
  have M8 : Hid (Blk X g8 (bys C) 30) := by rw [← hX]; exact K8.out.setRow
  have M9 : Hid (Blk X g9 (kyl (shl k h) I R) 67) := by rw [← hX]; exact K9.out.setRowOther (by omega)
  have MB : Hid (Below w.heap.size w X) := by rw [← hX]; exact below_setRow' KB.out (by omega) _
  clear hb J7 J8 J9 JB K7 K9 KB I7
  go_wp2_with (first | (refine wpList_store_blk rfl 30 _ _ rfl g8 (bys C) z32 30 rfl rfl K8.out H24c.out HLZc.out (bys_one' _) ?_; rw [hX]; clear hX))
  obtain ⟨b, hbq, hbz⟩ : ∃ b : Bool, (∀ w', (Op.equalIn 10000 30 (.agg (bys F).toArray) (.agg (bys R).toArray)).run Tryz.prog w' = .ok b w') ∧ Z = (if b then 0 else 16) := by
    by_cases hFR : F = R
    · refine ⟨true, fun w' => ?_, ?_⟩
      · rw [hFR]; exact eqHash_yes R HR.out w'
      · rw [← HZE.out, if_pos hFR]; rfl
    · refine ⟨false, fun w' => eqHash_no F R HFL.out HR.out hFR w', ?_⟩
      rw [← HZE.out, if_neg hFR]; rfl
  have HEQ := Lib.hid hbq
  have HBZ := Lib.hid hbz
  clear hbq hbz
  refine wp_region_rely2 16 0 (fun x => ⟨#[pv, Value.slice At text.length ct, sv, undef, undef, undef, Value.int IntKind.i64 0, Value.pointer (some { block := g7, off := 0 }), Value.pointer (some { block := g8, off := 0 }), Value.pointer (some { block := g9, off := 0 }), Value.int IntKind.i64 0, Value.tuple #[Value.agg (kyl (shl k h) I R).toArray, Value.int IntKind.i64 0], pv, Value.tuple #[Value.agg (kyl (shl k h) I R).toArray, Value.int IntKind.i64 0], Value.agg (kyl (shl k h) I R).toArray, Value.int IntKind.i64 0, Value.int IntKind.i64 0, Value.bool false, Value.tuple #[Value.agg (ptl q (Value.slice Ao no co) (Value.slice As (32 * h) cs)).toArray, Value.int IntKind.i64 0], sv, Value.pointer (some { block := g9, off := 0 }), Value.agg (shl k h).toArray, Value.tuple #[Value.agg (ptl q (Value.slice Ao no co) (Value.slice As (32 * h) cs)).toArray, Value.int IntKind.i64 0], Value.agg (ptl q (Value.slice Ao no co) (Value.slice As (32 * h) cs)).toArray, Value.int IntKind.i64 0, Value.int IntKind.i64 0, Value.bool false, Value.tuple #[Value.agg (bys C).toArray, Value.int IntKind.i64 0], Value.pointer (some { block := g9, off := 4 }), Value.agg (bys I).toArray, Value.pointer (some { block := g7, off := 0 }), Value.int IntKind.u32 ↑q, Value.slice At text.length ct, Value.pointer (some { block := g7, off := 1 }), Value.slice Ao no co, Value.tuple #[Value.agg (bys C).toArray, Value.int IntKind.i64 0], Value.agg (bys C).toArray, Value.int IntKind.i64 0, Value.int IntKind.i64 0, Value.bool false, x 0, x 1, x 2, x 3, x 4, x 5, x 6, x 7, x 8, x 9, x 10, x 11, x 12, x 13, x 14, x 15, undef], []⟩) (fun jj => ([eqV (.pointer (some ⟨g9, 4, none⟩)), eqV (.agg (bys I).toArray), eqV (.pointer (some ⟨g9, 0, none⟩)), eqV (.agg (shl k h).toArray), (eqV (.int .i64 (L : Int))), eqV (.pointer (some ⟨g7, 0, none⟩)), eqV (.int .u32 (q : Int)), eqV (.int .i64 (q : Int)), eqV (.int .i64 (T : Int)), eqV (.agg (bys C).toArray), eqV (.pointer (some ⟨g7, 2, none⟩)), eqV (.slice As (32 * h) cs), (eqV (.agg (bys F).toArray)), eqV (.pointer (some ⟨g9, 20, none⟩)), eqV (.agg (bys R).toArray), eqV (.bool (!b))] : List (Value → World → Prop)).getD jj (fun _ _ => True)) rfl ⟨fun kk => [_, _, _, _, _, _, _, _, _, _, _, _, _, _, _, _].getD kk undef, rfl⟩ (by kernel_rfl) (by kernel_rfl) ?steps ?fin
  case steps =>
    refine StepsAt.val 0 (.pointer (some ⟨g9, 4, none⟩)) rfl (fun _ _ => rfl) rfl rfl (fun x X9 hb hd => ?_) ?_
    · first | (go_simp; done) | (go_simp; rfl)
    refine StepsAt.val 1 (.agg (bys I).toArray) rfl (fun _ _ => rfl) rfl rfl (fun x X9 hb hd => ?_) ?_
    · have h0 : x 0 = .pointer (some ⟨g9, 4, none⟩) := hd 0 (by kernel_rfl)
      exact run_load_mid 29 (.tmp 40) rfl g9 4 (by exact h0) (bys I) (kyl_rangeI (M9.out.below hb M9.out.lt) rfl) 16 5 tu22 H22.out
    refine StepsAt.val 2 (.pointer (some ⟨g9, 0, none⟩)) rfl (fun _ _ => rfl) rfl rfl (fun x X9 hb hd => ?_) ?_
    · first | (go_simp; done) | (go_simp; rfl)
    refine StepsAt.val 3 (.agg (shl k h).toArray) rfl (fun _ _ => rfl) rfl rfl (fun x X9 hb hd => ?_) ?_
    · have h2 : x 2 = .pointer (some ⟨g9, 0, none⟩) := hd 2 (by kernel_rfl)
      exact run_load_midU 65 (.tmp 42) rfl g9 0 (by exact h2) (shl k h) d74 (kyl_rangeS (M9.out.below hb M9.out.lt)) HU7.out HD7.out H74.out
    refine StepsAt.cons 4 (fun _ _ _ h hb => h) (fun _ _ => rfl) rfl rfl (fun x X9 hb hd K hK => ?_) ?_
    · have h3 : Hid (x 3 = .agg (shl k h).toArray) := hd 3 (by kernel_rfl)
      go_simp
      refine calls_args (args2 := #[.agg (shl k h).toArray]) (by rw [h3.out]) ?_
      refine (leavesL_any k h _ HH.out).mono ?_
      rintro e w2 ⟨rfl, hb2⟩
      rw [HLE.out]
      exact hK.out _ _ hb2 rfl
    refine StepsAt.val 5 (.pointer (some ⟨g7, 0, none⟩)) rfl (fun _ _ => rfl) rfl rfl (fun x X9 hb hd => ?_) ?_
    · first | (go_simp; done) | (go_simp; rfl)
    refine StepsAt.val 6 (.int .u32 (q : Int)) rfl (fun _ _ => rfl) rfl rfl (fun x X9 hb hd => ?_) ?_
    · have h5 : x 5 = .pointer (some ⟨g7, 0, none⟩) := hd 5 (by kernel_rfl)
      have cc : X9.cell? ⟨g7, 0, none⟩ = some (.int .u32 (q : Int)) := ((M7.out.below hb M7.out.lt).cell 0).trans rfl
      rw [h5]
      first | (go_simp; done) | (go_simp; rfl)
    refine StepsAt.val 7 (.int .i64 (q : Int)) rfl (fun _ _ => rfl) rfl rfl (fun x X9 hb hd => ?_) ?_
    · have h6 : x 6 = .int .u32 (q : Int) := hd 6 (by kernel_rfl)
      rw [h6]
      clear zT
      go_simp
      first | done | exact wrap_i64 _ (by omega) (by omega)
    refine StepsAt.val 8 (.int .i64 (T : Int)) rfl (fun _ _ => rfl) rfl rfl (fun x X9 hb hd => ?_) ?_
    · have h4 : x 4 = .int .i64 (L : Int) := hd 4 (by kernel_rfl)
      have h7 : x 7 = .int .i64 (q : Int) := hd 7 (by kernel_rfl)
      rw [h4, h7]
      go_simp
      exact wrap_i64 _ (by omega) (by omega)
    refine StepsAt.val 9 (.agg (bys C).toArray) rfl (fun _ _ => rfl) rfl rfl (fun x X9 hb hd => ?_) ?_
    · exact run_load_blk 30 (.tmp 8) rfl g8 rfl (bys C) 30 (M8.out.below hb M8.out.lt) 32 5 tu24 H24c.out
    refine StepsAt.val 10 (.pointer (some ⟨g7, 2, none⟩)) rfl (fun _ _ => rfl) rfl rfl (fun x X9 hb hd => ?_) ?_
    · first | (go_simp; done) | (go_simp; rfl)
    refine StepsAt.val 11 (.slice As (32 * h) cs) rfl (fun _ _ => rfl) rfl rfl (fun x X9 hb hd => ?_) ?_
    · have h10 : x 10 = .pointer (some ⟨g7, 2, none⟩) := hd 10 (by kernel_rfl)
      have cc : X9.cell? ⟨g7, 2, none⟩ = some (.slice As (32 * h) cs) := ((M7.out.below hb M7.out.lt).cell 2).trans rfl
      rw [h10]
      first | (go_simp; done) | (go_simp; rfl)
    refine StepsAt.cons 12 (fun _ _ _ h hb => h) (fun _ _ => rfl) rfl rfl (fun x X9 hb hd K hK => ?_) ?_
    · have h1 : Hid (x 1 = .agg (bys I).toArray) := hd 1 (by kernel_rfl)
      have h8 : Hid (x 8 = .int .i64 (T : Int)) := hd 8 (by kernel_rfl)
      have h9 : Hid (x 9 = .agg (bys C).toArray) := hd 9 (by kernel_rfl)
      have h11 : Hid (x 11 = .slice As (32 * h) cs) := hd 11 (by kernel_rfl)
      go_simp
      refine calls_args (args2 := #[.agg (bys I).toArray, .int .i64 (T : Int), .agg (bys C).toArray, .slice As (32 * h) cs]) (by rw [h1.out, h8.out, h9.out, h11.out]) ?_
      refine (climb_any I C sibs h T _ _ HI.out HCL.out HH1.out HH5.out HT1.out HT2.out HSB.out (((RS.out.below MB.out).below (hb.mono MB.out.size)).more (Nat.le_trans MB.out.size hb.size))).mono ?_
      rintro e w2 ⟨rfl, hb2⟩
      rw [HFE.out]
      exact hK.out _ _ hb2 rfl
    refine StepsAt.val 13 (.pointer (some ⟨g9, 20, none⟩)) rfl (fun _ _ => rfl) rfl rfl (fun x X9 hb hd => ?_) ?_
    · first | (go_simp; done) | (go_simp; rfl)
    refine StepsAt.val 14 (.agg (bys R).toArray) rfl (fun _ _ => rfl) rfl rfl (fun x X9 hb hd => ?_) ?_
    · have h13 : x 13 = .pointer (some ⟨g9, 20, none⟩) := hd 13 (by kernel_rfl)
      exact run_load_mid 30 (.tmp 53) rfl g9 20 (by exact h13) (bys R) (kyl_rangeR (M9.out.below hb M9.out.lt) rfl HI.out) 32 5 tu24 H24r.out
    refine StepsAt.val 15 (.bool (!b)) rfl (fun _ _ => rfl) rfl rfl (fun x X9 hb hd => ?_) ?_
    · have h12 : x 12 = .agg (bys F).toArray := hd 12 (by kernel_rfl)
      have h14 : x 14 = .agg (bys R).toArray := hd 14 (by kernel_rfl)
      rw [h12, h14]
      have hq := HEQ.out X9
      first | (go_simp; done) | (go_simp; rfl)
    exact StepsAt.done
  case fin =>
    intro x X9 hb hd
    have h15 : x 15 = .bool (!b) := hd 15 (by omega)
    refine AnyTill.any (S := fun _ => True) (m := 16) _ _ _ _ ?_
    refine AnyTill.done (by kernel_rfl) ?_
    refine NoPanic.normal ?_
    dsimp only
    rw [h15]
    have TB : Hid (Below w.heap.size w X9) := MB.out.trans (hb.mono MB.out.size)
    generalize x 0 = y0
    generalize x 1 = y1
    generalize x 2 = y2
    generalize x 3 = y3
    generalize x 4 = y4
    generalize x 5 = y5
    generalize x 6 = y6
    generalize x 7 = y7
    generalize x 8 = y8
    generalize x 9 = y9
    generalize x 10 = y10
    generalize x 11 = y11
    generalize x 12 = y12
    generalize x 13 = y13
    generalize x 14 = y14
    clear hd h15 hb M7 M8 M9 MB HEQ x
    cases b with
    | true =>
      have hz : Z = 0 := by rw [HBZ.out]; rfl
      subst hz
      go_wp2
      rw [jump_ret]
      go_ret
      exact ⟨rfl, TB.out⟩
    | false =>
      have hz : Z = 16 := by rw [HBZ.out]; rfl
      subst hz
      go_wp2
      refine wp_goto ⟨rfl, ?_⟩
      go_wp2
      rw [Exit.noGoto_ret]
      go_ret
      exact ⟨rfl, TB.out⟩
end Go.Proofs.YtllncnnigjgadaaGreat
