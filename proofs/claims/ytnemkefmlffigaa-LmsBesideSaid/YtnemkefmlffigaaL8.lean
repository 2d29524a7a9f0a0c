/-
  Package lms: Sign, for every input.
-/
import Derived.Test.YtnemkefmlffigaaL7
namespace Go.Proofs.Ytnemkefmlffigaa
open Go.RowKit

set_option maxRecDepth 100000 in
set_option maxHeartbeats 400000 in
theorem signT_no (I seed : List UInt8) (z y q : Int) (tv : Value) (w : World) (hI : I.length = 16) (hs : seed.length = 32) (hn : NoT z y) : Calls Try.prog 13 #[.agg (tcs I seed z y).toArray, .int .i64 q, tv] w (TwoD (.slice none 0 0) (.int .i64 1) w) := by
  have HZ := Lib.hid (tcs_z I seed z y hI hs)
  have HY := Lib.hid (tcs_y I seed z y hI hs)
  have HN := Lib.hid hn
  clear hI hs hn
  go_enter Try.func13, Try.ntmps13
  go_wp2_with (refine wpList_box_blk rfl 34 _ rfl (tcs I seed z y) rfl ?_)
  intro w1 a1 a2 a3
  have cz := (a1.cell 48).trans HZ.out
  have cy := (a1.cell 49).trans HY.out
  have A3 := Lib.hid a3
  clear a1 a2 a3
  go_wp2
  refine wp_scope_goto 0 rfl ?_
  go_wp2_with fail
  refine (lshape_no z y _ HN.out).mono ?_
  rintro e w3 ⟨rfl, hb⟩
  have B1 : Hid (Below w.heap.size w w3) := A3.out.trans (hb.mono A3.out.size)
  clear hb A3 cz cy
  go_wp2_with (first | (refine wpList_alloc_blk rfl 74 rfl _ zi74 ?_))
  intro w4 a1 a2 a3
  have A1 := Lib.hid a1
  have hs := B1.out.size
  have LB : Hid (Below w.heap.size w (w4.setRow w3.heap.size shl0.toArray)) := below_setRow' (B1.out.trans (a3.mono hs)) hs _
  clear a1 a2 a3
  go_wp2_with (first | (refine wpList_store_blk rfl 74 _ _ rfl w3.heap.size shl0 shl0 74 rfl rfl A1.out s74 rfl shl0_one ?_))
  refine wp_goto ⟨rfl, ?_⟩
  go_wp2
  rw [Exit.noGoto_ret]
  go_ret2
  exact ⟨rfl, LB.out⟩

set_option maxRecDepth 100000 in
set_option maxHeartbeats 400000 in
theorem signT_spent (I seed : List UInt8) (k h : Nat) (q : Int) (tv : Value) (w : World) (hI : I.length = 16) (hs : seed.length = 32) (hk : Wd k) (hh : Ht h) (hq : q < 0 ∨ ((2 ^ h : Nat) : Int) ≤ q) : Calls Try.prog 13 #[.agg (tcs I seed (k : Int) (h : Int)).toArray, .int .i64 q, tv] w (TwoD (.slice none 0 0) (.int .i64 12) w) := by
  have HZ := Lib.hid (tcs_z I seed (k : Int) (h : Int) hI hs)
  have HY := Lib.hid (tcs_y I seed (k : Int) (h : Int) hI hs)
  have HK := Lib.hid hk
  have HH := Lib.hid hh
  obtain ⟨d74, hu74, hd74⟩ := row74
  have HU := Lib.hid hu74
  have HD := Lib.hid hd74
  obtain ⟨L, hL⟩ : ∃ L, 2 ^ h = L := ⟨_, rfl⟩
  have HLE := Lib.hid hL
  rw [hL] at hq
  clear hI hs hk hh hu74 hd74 hL
  go_enter Try.func13, Try.ntmps13
  go_wp2_with (refine wpList_box_blk rfl 34 _ rfl (tcs I seed (k : Int) (h : Int)) rfl ?_)
  intro w1 a1 a2 a3
  have cz := (a1.cell 48).trans HZ.out
  have cy := (a1.cell 49).trans HY.out
  have A3 := Lib.hid a3
  clear a1 a2 a3
  go_wp2
  refine wp_scope_goto 0 rfl ?_
  go_wp2_with fail
  refine (lshape_yes k h _ HK.out HH.out).mono ?_
  rintro e w3 ⟨rfl, hb⟩
  have B1 : Hid (Below w.heap.size w w3) := A3.out.trans (hb.mono A3.out.size)
  clear hb A3 cz cy
  go_wp2_with (first | (refine wpList_alloc_blk rfl 74 rfl _ zi74 ?_))
  intro w4 a1 a2 a3
  have A1 := Lib.hid a1
  have hs := B1.out.size
  obtain ⟨gs, hgs⟩ : ∃ g, w3.heap.size = g := ⟨_, rfl⟩
  rw [hgs] at a1 a2 a3 hs A1 ⊢
  obtain ⟨t4, ht4⟩ : ∃ t, w4.setRow gs (shl k h).toArray = t := ⟨_, rfl⟩
  have LS : Hid (Blk t4 gs (shl k h) 74) := by rw [← ht4]; exact a1.setRow
  have LB : Hid (Below w.heap.size w t4) := by rw [← ht4]; exact below_setRow' (B1.out.trans (a3.mono hs)) hs _
  clear a1 a2 a3 B1 hgs hs
  rcases hq with hq | hq
  · go_wp2_with (first | (refine wpList_store_blk rfl 74 _ _ rfl gs (shl k h) shl0 74 rfl rfl A1.out s74 rfl (shl_one k h) ?_; rw [ht4]; clear ht4))
    refine wp_goto ⟨rfl, ?_⟩
    go_wp2
    rw [Exit.noGoto_ret]
    go_ret2
    exact ⟨rfl, LB.out⟩
  · have hq0 : decide (q < 0) = false := by simp; omega
    go_wp2_with (first | (refine wpList_store_blk rfl 74 _ _ rfl gs (shl k h) shl0 74 rfl rfl A1.out s74 rfl (shl_one k h) ?_; rw [ht4]; clear ht4) | (refine wpList_load_blkUG 74 _ rfl gs rfl (shl k h) 74 LS.out d74 HU.out HD.out s74 (by rfl) ?_))
    refine (leavesL_any k h _ HH.out).mono ?_
    rintro e w5 ⟨rfl, hb⟩
    rw [HLE.out]
    have B5 : Hid (Below w.heap.size w w5) := LB.out.trans (hb.mono LB.out.size)
    clear hb LB LS A1
    go_wp2
    refine wp_goto ⟨rfl, ?_⟩
    go_wp2
    rw [Exit.noGoto_ret]
    go_ret2
    exact ⟨rfl, B5.out⟩

set_option maxRecDepth 100000 in
set_option maxHeartbeats 2000000 in
theorem signT_yes (I seed text : List UInt8) (k h q : Nat) (tv : Value) (w : World) (hI : I.length = 16) (hs : seed.length = 32) (hk : Wd k) (hh : Ht h) (hq : q < 2 ^ h) (ht : Rd w.heap.size w tv text) (hl : text.length ≤ 100000) : Calls Try.prog 13 #[.agg (tcs I seed (k : Int) (h : Int)).toArray, .int .i64 (q : Int), tv] w (fun e w' => ∃ v, e = .returned (.tuple #[v, .int .i64 0]) ∧ Own 5 w' w.heap.size v (lsig I seed text k h q) ∧ Below w.heap.size w w') := by
  obtain ⟨i0, hi, hz0, hz1, hz2⟩ := info_parts info5
  have HIN := Lib.hid hi
  have H0 := Lib.hid hz0
  have H1 := Lib.hid hz1
  have H2 := Lib.hid hz2
  have HI := Lib.hid hI
  have HS := Lib.hid hs
  have HK := Lib.hid hk
  have HH := Lib.hid hh
  have HTX := Lib.hid ht
  have HTL := Lib.hid hl
  obtain ⟨At, ct, rfl, hct, hmt⟩ := ht.shape
  unfold maxLen at hmt
  have HZ := Lib.hid (tcs_z I seed (k : Int) (h : Int) hI hs)
  have HY := Lib.hid (tcs_y I seed (k : Int) (h : Int) hI hs)
  have HT : Hid ((Try.prog.info? 34).map (·.size) = some (tcs I seed (k : Int) (h : Int)).length) := by show _ = _; rw [tcs_length I seed _ _ hI hs]; exact sTree
  obtain ⟨dT, huT, hdT⟩ := rowTree
  have HU := Lib.hid huT
  have HD := Lib.hid hdT
  obtain ⟨d74, hu74, hd74⟩ := row74
  have HU7 := Lib.hid hu74
  have HD7 := Lib.hid hd74
  have hp : 2 ^ h ≤ 32 := by rcases hh with rfl | rfl | rfl | rfl | rfl <;> decide
  have h5 := hh.le
  have hL9 : lng k ≤ 10000 := by have := mny_le k hk; unfold lng; omega
  obtain ⟨D, hDe⟩ : ∃ N, knd h = N := ⟨_, rfl⟩
  have hD4 : D < 4294967296 := by rw [← hDe]; exact knd_lt hh
  have HC0 : Hid (((shl k h)[0]? : Option Value) = some (.int .u32 (D : Int))) := by show _ = _; rw [← hDe]; rfl
  obtain ⟨N, hN⟩ : ∃ N, llng k h = N := ⟨_, rfl⟩
  have hN2 : N ≤ 20000 := by rw [← hN]; unfold llng; omega
  have HNE := Lib.hid hN
  obtain ⟨S, hS⟩ : ∃ S, sigL (pre20 I q) seed text k = S := ⟨_, rfl⟩
  have hSl : S.length ≤ 10000 := by rw [← hS, sigL_length]; exact hL9
  have HSE := Lib.hid hS
  have HSL := Lib.hid hSl
  obtain ⟨L, hL⟩ : ∃ L, 2 ^ h = L := ⟨_, rfl⟩
  have HLE := Lib.hid hL
  obtain ⟨R, hR⟩ : ∃ R, L + q = R := ⟨_, rfl⟩
  obtain ⟨B, hB⟩ : ∃ B, sbl I seed k (2 ^ h) 0 h R = B := ⟨_, rfl⟩
  have hBl : B.length ≤ 200 := by rw [← hB, sbl_length]; omega
  have HBE := Lib.hid hB
  have HBL := Lib.hid hBl
  have HPE : Hid (lsig I seed text k h q = be 4 q ++ S ++ be 4 D ++ B) := by show _ = _; unfold lsig; rw [hDe, hS, hL, hR, ← hL, hB]
  rw [hL] at hq hp
  have zq0 : decide ((q : Int) < 0) = false := by simp
  have zq1 : ¬ ((L : Int) ≤ (q : Int)) := by omega
  have zR : (L : Int) + (q : Int) = (R : Int) := by omega
  have hR64 : R ≤ 64 := by omega
  have HRB : Hid (2 ^ h ≤ R ∧ R < 2 * 2 ^ h) := ⟨by rw [hL]; omega, by rw [hL]; omega⟩
  have HQ4 : Hid (q < 4294967296) := by show _ < _; omega
  clear hI hs hk hh hi hz0 hz1 hz2 huT hdT hu74 hd74 hDe hN hS hSl hL hR hB hBl ht h5
  go_enter Try.func13, Try.ntmps13
  go_wp2_with (refine wpList_box_blk rfl 34 _ rfl (tcs I seed (k : Int) (h : Int)) rfl ?_)
  intro w1 a1 a2 a3
  obtain ⟨g0, hg0⟩ : ∃ g, w.heap.size = g := ⟨_, rfl⟩
  have G1 : Hid (Blk w1 g0 (tcs I seed (k : Int) (h : Int)) 34) := by rw [← hg0]; exact a1
  have GB := Lib.hid a3
  have cz := (G1.out.cell 48).trans HZ.out
  have cy := (G1.out.cell 49).trans HY.out
  have hw0 : w.heap.size ≤ g0 := by omega
  rw [hg0]
  clear a1 a2 a3 hg0
  go_wp2
  refine wp_scope_goto 0 rfl ?_
  go_wp2_with fail
  refine (lshape_yes k h _ HK.out HH.out).mono ?_
  rintro e w3 ⟨rfl, hb⟩
  have E1 : Hid (Blk w3 g0 (tcs I seed (k : Int) (h : Int)) 34) := G1.out.below hb G1.out.lt
  have EB : Hid (Below w.heap.size w w3) := GB.out.trans (hb.mono GB.out.size)
  have hs3 : g0 < w3.heap.size := E1.out.lt
  clear hb GB G1 cz cy
  go_wp2_with (first | (refine wpList_alloc_blk rfl 74 rfl _ zi74 ?_))
  intro w4 a1 a2 a3
  obtain ⟨gs, hgs⟩ : ∃ g, w3.heap.size = g := ⟨_, rfl⟩
  rw [hgs] at a1 a2 a3 hs3 ⊢
  have A1 := Lib.hid a1
  obtain ⟨t4, ht4⟩ : ∃ t, w4.setRow gs (shl k h).toArray = t := ⟨_, rfl⟩
  have F1 : Hid (Blk t4 g0 (tcs I seed (k : Int) (h : Int)) 34) := by rw [← ht4]; exact (E1.out.below a3 (by omega)).setRowOther (by omega)
  have FS : Hid (Blk t4 gs (shl k h) 74) := by rw [← ht4]; exact a1.setRow
  have FB : Hid (Below w.heap.size w t4) := by rw [← ht4]; exact below_setRow' (EB.out.trans (a3.mono (by omega))) (by omega) _
  clear a1 a2 a3 E1 EB hgs
  go_wp2_with (first | (refine wpList_store_blk rfl 74 _ _ rfl gs (shl k h) shl0 74 rfl rfl A1.out s74 rfl (shl_one k h) ?_; rw [ht4]; clear ht4) | (refine wpList_load_blkUG 74 _ rfl gs rfl (shl k h) 74 FS.out d74 HU7.out HD7.out s74 (by rfl) ?_))
  refine (leavesL_any k h _ HH.out).mono ?_
  rintro e w5 ⟨rfl, hb⟩
  rw [HLE.out]
  have I1 : Hid (Blk w5 g0 (tcs I seed (k : Int) (h : Int)) 34) := F1.out.below hb F1.out.lt
  have IS : Hid (Blk w5 gs (shl k h) 74) := FS.out.below hb FS.out.lt
  have IB : Hid (Below w.heap.size w w5) := FB.out.trans (hb.mono FB.out.size)
  clear hb F1 FS FB A1
  go_wp2_with (refine wpList_load_blkU rfl 34 _ rfl g0 rfl (tcs I seed (k : Int) (h : Int)) 34 I1.out dT HU.out HD.out HT.out ?_)
  refine (keyL_any I seed q _ _ _ HI.out HS.out HQ4.out).mono ?_
  rintro e w6 ⟨rfl, hb⟩
  have J1 : Hid (Blk w6 g0 (tcs I seed (k : Int) (h : Int)) 34) := I1.out.below hb I1.out.lt
  have JS : Hid (Blk w6 gs (shl k h) 74) := IS.out.below hb IS.out.lt
  have JB : Hid (Below w.heap.size w w6) := IB.out.trans (hb.mono IB.out.size)
  clear hb I1 IS IB
  go_wp2_with fail
  refine (signX_yes I seed text q k _ _ HI.out HS.out HQ4.out HK.out ((HTX.out.below JB.out).more JB.out.size) HTL.out).mono ?_
  rintro e w7 ⟨v7, rfl, hown7, hb⟩
  rw [HSE.out] at hown7
  have M1 : Hid (Blk w7 g0 (tcs I seed (k : Int) (h : Int)) 34) := J1.out.below hb J1.out.lt
  have MS : Hid (Blk w7 gs (shl k h) 74) := JS.out.below hb JS.out.lt
  have MV : Hid (Rd w7.heap.size w7 v7 S) := hown7.rd
  have MB : Hid (Below w.heap.size w w7) := JB.out.trans (hb.mono JB.out.size)
  clear hb hown7 J1 JS JB
  go_wp2
  refine wp_region_rely3 6 2 (fun x => ⟨#[Value.agg (tcs I seed ↑k ↑h).toArray, Value.int IntKind.i64 ↑q, Value.slice At text.length ct, Value.pointer (some { block := g0, off := 0 }), undef, undef, Value.slice none 0 0, Value.int IntKind.i64 0, v7, Value.slice none 0 0, Value.pointer (some { block := gs, off := 0 }), Value.int IntKind.i64 0, Value.tuple #[Value.agg (shl k h).toArray, Value.int IntKind.i64 0], Value.pointer (some { block := g0, off := 48 }), Value.int IntKind.i64 ↑k, Value.pointer (some { block := g0, off := 49 }), Value.int IntKind.i64 ↑h, Value.tuple #[Value.agg (shl k h).toArray, Value.int IntKind.i64 0], Value.agg (shl k h).toArray, Value.int IntKind.i64 0, Value.int IntKind.i64 0, Value.bool false, Value.int IntKind.i64 ↑q, Value.bool false, Value.bool false, Value.int IntKind.i64 ↑q, Value.agg (shl k h).toArray, Value.int IntKind.i64 ↑L, Value.bool false, Value.bool false, Value.tuple #[v7, Value.int IntKind.i64 0], Value.agg (tcs I seed ↑k ↑h).toArray, Value.int IntKind.i64 ↑q, Value.agg (kcs I q seed ↑k).toArray, Value.slice At text.length ct, Value.tuple #[v7, Value.int IntKind.i64 0], v7, Value.int IntKind.i64 0, Value.int IntKind.i64 0, Value.bool false, x 0, x 1, x 2, x 3, x 4, x 5, undef, undef, undef, undef, undef, undef, undef, undef, undef, undef, undef, undef, undef, undef, undef, undef, undef, undef], []⟩) (fun jj => ([eqV (.agg (shl k h).toArray), (eqV (.int .i64 (N : Int))), (OwnN w7.heap.size []), eqV (.int .i64 (q : Int)), eqV (.int .u32 (q : Int)), (RdN (be 4 q))] : List (Value → World → Prop)).getD jj (fun _ _ => True)) rfl ⟨fun kk => [_, _, _, _, _, _].getD kk undef, rfl⟩ (by kernel_rfl) (by kernel_rfl) ?steps ?fin
  case steps =>
    refine StepsAt.val 0 (.agg (shl k h).toArray) rfl (fun _ _ => rfl) rfl rfl (fun x w9 hb hd => ?_) ?_
    · exact run_load_blkU 74 (.tmp 10) rfl gs rfl (shl k h) 74 (MS.out.below hb MS.out.lt) d74 HU7.out HD7.out s74
    refine StepsAt.cons 1 (fun _ _ _ h hb => h) (fun _ _ => rfl) rfl rfl (fun x w9 hb hd K hK => ?_) ?_
    · have h0 : Hid (x 0 = .agg (shl k h).toArray) := hd 0 (by kernel_rfl)
      go_simp
      refine calls_args (args2 := #[.agg (shl k h).toArray]) (by rw [h0.out]) ?_
      refine (longL_any k h _ HK.out HH.out).mono ?_
      rintro e w2 ⟨rfl, hb2⟩
      rw [HNE.out]
      exact hK.out _ _ hb2 rfl
    refine StepsAt.cons 2 (fun _ _ _ h hb => OwnN.keep h hb) (fun _ _ => rfl) rfl rfl (fun x w9 hb hd K hK => ?_) ?_
    · have h1 : Hid (x 1 = .int .i64 (N : Int)) := hd 1 (by kernel_rfl)
      refine wp_of_list rfl (wpList_make_own _ rfl (.const (.int .i64 0)) (.tmp 41) 24 rfl w7.heap.size 5 i0 (.int .u8 0) 1 Try.underlying24 HIN.out H0.out H1.out .i64 .i64 (N : Int) N rfl h1.out rfl (by rw [H2.out]; omega) (by unfold maxLen; omega) hb.size ?_)
      intro w2 hown hgrow
      exact hK.out _ _ ((Below.refl _ _).grown hgrow (Nat.le_refl _) (fun k hk => by cases hk)) hown
    refine StepsAt.val 3 (.int .i64 (q : Int)) rfl (fun _ _ => rfl) rfl rfl (fun x w9 hb hd => ?_) ?_
    · first | (go_simp; done) | (go_simp; rfl)
    refine StepsAt.val 4 (.int .u32 (q : Int)) rfl (fun _ _ => rfl) rfl rfl (fun x w9 hb hd => ?_) ?_
    · have h3 : x 3 = .int .i64 (q : Int) := hd 3 (by kernel_rfl)
      rw [h3]
      clear zq0 zq1 zR hq hp
      go_simp
      have := HQ4.out
      rw [IntKind.wrap_u32']
      omega
    refine StepsAt.cons 5 (fun _ _ _ h hb => RdN.keep h hb) (fun _ _ => rfl) rfl rfl (fun x w9 hb hd K hK => ?_) ?_
    · have h4 : Hid (x 4 = .int .u32 (q : Int)) := hd 4 (by kernel_rfl)
      go_simp
      refine calls_args (args2 := #[.int .u32 (q : Int)]) (by rw [h4.out]) ?_
      refine (fourL_any q _ HQ4.out).mono ?_
      rintro e w2 ⟨v2, rfl, hown, hb2⟩
      exact hK.out _ _ hb2 hown.rd
    exact StepsAt.done
  case fin =>
    intro x w9 hb hd
    have h2 : Own 5 w9 w7.heap.size (x 2) [] := hd 2 (by omega)
    have h5 : Rd w9.heap.size w9 (x 5) (be 4 q) := hd 5 (by omega)
    refine AnyTill.any (S := fun _ => True) (m := 8) _ _ _ _ ?_
    refine AnyTill.one (i := 6) (by kernel_rfl) rfl (by rfl) (fun K hK => ?_)
    refine wp_of_list rfl (wpList_app rfl (.tmp 42) (.tmp 45) 24 rfl 5 i0 Try.underlying24 HIN.out H0.out H1.out H2.out w7.heap.size w9.heap.size (x 2) (x 5) [] (be 4 q) rfl h2 rfl h5 (by rw [be_length]; simp) hb.size ?_)
    intro v10 w10 hown10 hb10
    rw [List.nil_append] at hown10
    refine hK.out _ _ (.inr trivial) ?_
    clear hK K
    refine AnyTill.one (i := 7) (by kernel_rfl) rfl (by rfl) (fun K hK => ?_)
    refine hK.out _ _ (.inr trivial) ?_
    clear hK K
    refine AnyTill.done (by kernel_rfl) ?_
    refine NoPanic.normal ?_
    simp only [Act.put, Act.eval, List.setIfInBounds_toArray, List.set_cons_zero, List.set_cons_succ, Array.getD_eq_getD_getElem?, List.getElem?_toArray, List.getElem?_cons_zero, List.getElem?_cons_succ, Option.getD_some]
    have hbA : Below w7.heap.size w7 w10 := hb.trans hb10
    obtain ⟨b, hbE⟩ : ∃ b, w7.heap.size = b := ⟨_, rfl⟩
    have N1 : Hid (Blk w10 g0 (tcs I seed (k : Int) (h : Int)) 34) := M1.out.below hbA M1.out.lt
    have NS : Hid (Blk w10 gs (shl k h) 74) := MS.out.below hbA MS.out.lt
    have NV : Hid (Rd w10.heap.size w10 v7 S) := (MV.out.below hbA).more hbA.size
    have NO : Hid (Own 5 w10 b v10 (be 4 q)) := by rw [← hbE]; exact hown10
    have NB : Hid (Below w.heap.size w w10) := MB.out.trans (hbA.mono MB.out.size)
    have hb10s : b ≤ w10.heap.size := by rw [← hbE]; exact hbA.size
    have hg0b : g0 < b := by rw [← hbE]; exact M1.out.lt
    have hgsb : gs < b := by rw [← hbE]; exact MS.out.lt
    have hwb : w.heap.size ≤ b := by rw [← hbE]; exact MB.out.size
    obtain ⟨A7, c7, hv7, hc7, hm7⟩ := NV.out.shape
    subst hv7
    unfold maxLen at hm7
    generalize x 0 = z0
    generalize x 1 = z1
    generalize x 2 = z2
    generalize x 3 = z3
    generalize x 4 = z4
    generalize x 5 = z5
    clear hd h2 h5 hb hb10 hown10 hbA M1 MS MV MB hbE x
    go_wp2_with (at_builtin; refine wpList_app rfl _ _ 24 rfl 5 i0 Try.underlying24 HIN.out H0.out H1.out H2.out b w10.heap.size _ _ (be 4 q) S rfl NO.out rfl NV.out (by have := HSL.out; rw [be_length]; omega) hb10s ?_)
    intro v11 w11 hown11 hb11
    have P1 : Hid (Blk w11 g0 (tcs I seed (k : Int) (h : Int)) 34) := N1.out.below hb11 hg0b
    have PS : Hid (Blk w11 gs (shl k h) 74) := NS.out.below hb11 hgsb
    have PO := Lib.hid hown11
    have PB : Hid (Below w.heap.size w w11) := NB.out.trans (hb11.mono hwb)
    have hb11s : b ≤ w11.heap.size := Nat.le_trans hb10s hb11.size
    have c0 := (PS.out.cell 0).trans HC0.out
    clear hown11 hb11 N1 NS NV NO NB hb10s
    go_wp2_with fail
    clear c0
    refine (fourL_any D _ hD4).mono ?_
    rintro e w12 ⟨v12, rfl, hown, hb⟩
    have Q1 : Hid (Blk w12 g0 (tcs I seed (k : Int) (h : Int)) 34) := P1.out.below hb P1.out.lt
    have QS : Hid (Blk w12 gs (shl k h) 74) := PS.out.below hb PS.out.lt
    have QO : Hid (Own 5 w12 b v11 (be 4 q ++ S)) := PO.out.below hb (Nat.le_refl _)
    have QV := Lib.hid hown.rd
    have QB : Hid (Below w.heap.size w w12) := PB.out.trans (hb.mono PB.out.size)
    have hb12s : b ≤ w12.heap.size := Nat.le_trans hb11s hb.size
    clear hb hown P1 PS PO PB hb11s
    go_wp2_with (at_builtin; refine wpList_app rfl _ _ 24 rfl 5 i0 Try.underlying24 HIN.out H0.out H1.out H2.out b w12.heap.size _ _ (be 4 q ++ S) (be 4 D) rfl QO.out rfl QV.out (by have := HSL.out; rw [List.length_append, be_length, be_length]; omega) hb12s ?_)
    intro v13 w13 hown13 hb13
    have R1 : Hid (Blk w13 g0 (tcs I seed (k : Int) (h : Int)) 34) := Q1.out.below hb13 hg0b
    have RS : Hid (Blk w13 gs (shl k h) 74) := QS.out.below hb13 hgsb
    have RO := Lib.hid hown13
    have RB : Hid (Below w.heap.size w w13) := QB.out.trans (hb13.mono hwb)
    have hb13s : b ≤ w13.heap.size := Nat.le_trans hb12s hb13.size
    clear hown13 hb13 Q1 QS QO QV QB hb12s
    go_wp2
    refine wp_region_rely3 7 3 (fun x => ⟨#[Value.agg (tcs I seed ↑k ↑h).toArray, Value.int IntKind.i64 ↑q, Value.slice At text.length ct, Value.pointer (some { block := g0, off := 0 }), undef, undef, Value.slice none 0 0, Value.int IntKind.i64 0, Value.slice A7 S.length c7, v13, Value.pointer (some { block := gs, off := 0 }), Value.int IntKind.i64 0, Value.tuple #[Value.agg (shl k h).toArray, Value.int IntKind.i64 0], Value.pointer (some { block := g0, off := 48 }), Value.int IntKind.i64 ↑k, Value.pointer (some { block := g0, off := 49 }), Value.int IntKind.i64 ↑h, Value.tuple #[Value.agg (shl k h).toArray, Value.int IntKind.i64 0], Value.agg (shl k h).toArray, Value.int IntKind.i64 0, Value.int IntKind.i64 0, Value.bool false, Value.int IntKind.i64 ↑q, Value.bool false, Value.bool false, Value.int IntKind.i64 ↑q, Value.agg (shl k h).toArray, Value.int IntKind.i64 ↑L, Value.bool false, Value.bool false, Value.tuple #[Value.slice A7 S.length c7, Value.int IntKind.i64 0], Value.agg (tcs I seed ↑k ↑h).toArray, Value.int IntKind.i64 ↑q, Value.agg (kcs I q seed ↑k).toArray, Value.slice At text.length ct, Value.tuple #[Value.slice A7 S.length c7, Value.int IntKind.i64 0], Value.slice A7 S.length c7, Value.int IntKind.i64 0, Value.int IntKind.i64 0, Value.bool false, z0, z1, z2, z3, z4, z5, v10, v10, Value.slice A7 S.length c7, v11, v11, Value.pointer (some { block := gs, off := 0 }), Value.int IntKind.u32 ↑D, v12, v13, x 0, x 1, x 2, x 3, x 4, x 5, x 6, undef, undef], []⟩) (fun jj => ([(OwnN b (be 4 q ++ S ++ be 4 D)), eqV (.agg (tcs I seed (k : Int) (h : Int)).toArray), eqV (.agg (shl k h).toArray), (eqV (.int .i64 (L : Int))), eqV (.int .i64 (q : Int)), eqV (.int .i64 (R : Int)), (RdN B)] : List (Value → World → Prop)).getD jj (fun _ _ => True)) rfl ⟨fun kk => [_, _, _, _, _, _, _].getD kk undef, rfl⟩ (by kernel_rfl) (by kernel_rfl) ?steps ?fin
    case steps =>
      refine StepsAt.cons 0 (fun _ _ _ h hb => OwnN.keep h hb) (fun _ _ => rfl) rfl rfl (fun x w9 hb hd K hK => ?_) ?_
      · exact hK.out _ _ (Below.refl _ _) (RO.out.below hb (Nat.le_refl _))
      refine StepsAt.val 1 (.agg (tcs I seed (k : Int) (h : Int)).toArray) rfl (fun _ _ => rfl) rfl rfl (fun x w9 hb hd => ?_) ?_
      · exact run_load_blkU 34 (.tmp 3) rfl g0 rfl (tcs I seed (k : Int) (h : Int)) 34 (R1.out.below hb R1.out.lt) dT HU.out HD.out HT.out
      refine StepsAt.val 2 (.agg (shl k h).toArray) rfl (fun _ _ => rfl) rfl rfl (fun x w9 hb hd => ?_) ?_
      · exact run_load_blkU 74 (.tmp 10) rfl gs rfl (shl k h) 74 (RS.out.below hb RS.out.lt) d74 HU7.out HD7.out s74
      refine StepsAt.cons 3 (fun _ _ _ h hb => h) (fun _ _ => rfl) rfl rfl (fun x w9 hb hd K hK => ?_) ?_
      · have h2 : Hid (x 2 = .agg (shl k h).toArray) := hd 2 (by kernel_rfl)
        go_simp
        refine calls_args (args2 := #[.agg (shl k h).toArray]) (by rw [h2.out]) ?_
        refine (leavesL_any k h _ HH.out).mono ?_
        rintro e w2 ⟨rfl, hb2⟩
        rw [HLE.out]
        exact hK.out _ _ hb2 rfl
      refine StepsAt.val 4 (.int .i64 (q : Int)) rfl (fun _ _ => rfl) rfl rfl (fun x w9 hb hd => ?_) ?_
      · first | (go_simp; done) | (go_simp; rfl)
      refine StepsAt.val 5 (.int .i64 (R : Int)) rfl (fun _ _ => rfl) rfl rfl (fun x w9 hb hd => ?_) ?_
      · have h3 : x 3 = .int .i64 (L : Int) := hd 3 (by kernel_rfl)
        have h4 : x 4 = .int .i64 (q : Int) := hd 4 (by kernel_rfl)
        rw [h3, h4]
        clear zq0 zq1 hq hp
        go_simp
        exact wrap_i64 _ (by omega) (by omega)
      refine StepsAt.cons 6 (fun _ _ _ h hb => RdN.keep h hb) (fun _ _ => rfl) rfl rfl (fun x w9 hb hd K hK => ?_) ?_
      · have h1 : Hid (x 1 = .agg (tcs I seed (k : Int) (h : Int)).toArray) := hd 1 (by kernel_rfl)
        have h5 : Hid (x 5 = .int .i64 (R : Int)) := hd 5 (by kernel_rfl)
        go_simp
        refine calls_args (args2 := #[.agg (tcs I seed (k : Int) (h : Int)).toArray, .int .i64 (R : Int)]) (by rw [h1.out, h5.out]) ?_
        refine (siblings_any I seed k h R _ HI.out HS.out HK.out HH.out HRB.out.1 HRB.out.2).mono ?_
        rintro e w2 ⟨v2, rfl, hown, hb2⟩
        rw [HBE.out] at hown
        exact hK.out _ _ hb2 hown.rd
      exact StepsAt.done
    case fin =>
      intro x w9 hb hd
      have h0 : Own 5 w9 b (x 0) (be 4 q ++ S ++ be 4 D) := hd 0 (by omega)
      have h6 : Rd w9.heap.size w9 (x 6) B := hd 6 (by omega)
      refine AnyTill.any (S := fun _ => True) (m := 10) _ _ _ _ ?_
      refine AnyTill.one (i := 7) (by kernel_rfl) rfl (by rfl) (fun K hK => ?_)
      refine wp_of_list rfl (wpList_app rfl (.tmp 55) (.tmp 61) 24 rfl 5 i0 Try.underlying24 HIN.out H0.out H1.out H2.out b w9.heap.size (x 0) (x 6) (be 4 q ++ S ++ be 4 D) B rfl h0 rfl h6 (by have := HSL.out; have := HBL.out; rw [List.length_append, List.length_append, be_length, be_length]; omega) (Nat.le_trans hb13s hb.size) ?_)
      intro v14 w14 hown14 hb14
      refine hK.out _ _ (.inr trivial) ?_
      clear hK K
      refine AnyTill.one (i := 8) (by kernel_rfl) rfl (by rfl) (fun K hK => ?_)
      refine hK.out _ _ (.inr trivial) ?_
      clear hK K
      refine AnyTill.one (i := 9) (by kernel_rfl) rfl (by rfl) (fun K hK => ?_)
      refine hK.out _ _ (.inr trivial) ?_
      clear hK K
      refine AnyTill.done (by kernel_rfl) ?_
      refine NoPanic.normal ?_
      simp only [Act.put, Act.eval, List.setIfInBounds_toArray, List.set_cons_zero, List.set_cons_succ, Array.getD_eq_getD_getElem?, List.getElem?_toArray, List.getElem?_cons_zero, List.getElem?_cons_succ, Option.getD_some]
      have SO : Hid (Own 5 w14 w.heap.size v14 (be 4 q ++ S ++ be 4 D ++ B)) := hown14.base hwb
      have SB : Hid (Below w.heap.size w w14) := (RB.out.trans (hb.mono RB.out.size)).trans (hb14.mono hwb)
      clear hd h0 h6 hown14 hb14
      go_wp2
      rw [jump_ret]
      go_ret2
      refine ⟨_, rfl, ?_, SB.out⟩
      rw [HPE.out]
      exact SO.out
end Go.Proofs.Ytnemkefmlffigaa
