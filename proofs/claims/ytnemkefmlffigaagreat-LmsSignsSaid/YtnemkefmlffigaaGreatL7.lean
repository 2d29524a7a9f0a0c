/-
  Package lms: Public and Knot, for every input.
-/
import Derived.Test.YtnemkefmlffigaaGreatL6
namespace Go.Proofs.YtnemkefmlffigaaGreat
open Go.RowKit

set_option maxRecDepth 100000 in
set_option maxHeartbeats 400000 in
theorem pubT_no (I seed : List UInt8) (z y : Int) (w : World) (hI : I.length = 16) (hs : seed.length = 32) (hn : NoT z y) : Calls Tryz.prog 11 #[.agg (tcs I seed z y).toArray] w (TwoD (.slice none 0 0) (.int .i64 1) w) := by
  have HZ := Lib.hid (tcs_z I seed z y hI hs)
  have HY := Lib.hid (tcs_y I seed z y hI hs)
  have HN := Lib.hid hn
  clear hI hs hn
  go_enter Tryz.func11, Tryz.ntmps11
  go_wp2_with (refine wpList_box_blk rfl 25 _ rfl (tcs I seed z y) rfl ?_)
  intro w1 a1 a2 a3
  have A1 := Lib.hid a1
  have A3 := Lib.hid a3
  have A2 := Lib.hid a2
  clear a1 a2 a3
  go_wp2
  refine wp_scope_goto 0 rfl ?_
  go_wp2_with (refine wpList_alloc_blk rfl 23 rfl _ z24 ?_)
  intro w2 a1 a2 a3
  have hs1 := A2.out
  have G1 : Hid (Blk w2 w.heap.size (tcs I seed z y) 25) := A1.out.below a3 (by omega)
  have GB : Hid (Below w.heap.size w w2) := A3.out.trans (a3.mono (by omega))
  have cz := (G1.out.cell 48).trans HZ.out
  have cy := (G1.out.cell 49).trans HY.out
  clear a1 a2 a3 A1 A2 A3 hs1
  go_wp2_with fail
  refine (lshape_no z y _ HN.out).mono ?_
  rintro e w3 ⟨rfl, hb⟩
  have B1 : Hid (Below w.heap.size w w3) := GB.out.trans (hb.mono GB.out.size)
  clear hb GB G1 cz cy
  go_wp2_with (first | (refine wpList_alloc_blk rfl 50 rfl _ zi74 ?_))
  intro w4 a1 a2 a3
  have A1 := Lib.hid a1
  have hs := B1.out.size
  have LB : Hid (Below w.heap.size w (w4.setRow w3.heap.size shl0.toArray)) := below_setRow' (B1.out.trans (a3.mono hs)) hs _
  clear a1 a2 a3
  go_wp2_with (first | (refine wpList_store_blk rfl 50 _ _ rfl w3.heap.size shl0 shl0 50 rfl rfl A1.out s74 rfl shl0_one ?_))
  refine wp_goto ⟨rfl, ?_⟩
  go_wp2
  rw [Exit.noGoto_ret]
  go_ret2
  exact ⟨rfl, LB.out⟩

theorem shl_at0 (k h : Nat) : ((shl k h)[0]? : Option Value) = some (.int .u32 (knd h : Nat)) := rfl
theorem shl_at1 (k h : Nat) : ((shl k h)[1]? : Option Value) = some (.int .u32 (typ k : Nat)) := rfl
theorem knd_lt {h : Nat} (H : Ht h) : knd h < 4294967296 := by rcases H with rfl | rfl | rfl | rfl | rfl <;> decide
theorem typ_lt {k : Nat} (H : Wd k) : typ k < 4294967296 := by rcases H with rfl | rfl | rfl | rfl <;> decide

set_option maxRecDepth 100000 in
set_option maxHeartbeats 2000000 in
theorem pubT_yes (I seed : List UInt8) (k h : Nat) (w : World) (hI : I.length = 16) (hs : seed.length = 32) (hk : Wd k) (hh : Ht h) : Calls Tryz.prog 11 #[.agg (tcs I seed (k : Int) (h : Int)).toArray] w (fun e w' => ∃ v, e = .returned (.tuple #[v, .int .i64 0]) ∧ Own 5 w' w.heap.size v (lpub I seed k h) ∧ Below w.heap.size w w') := by
  obtain ⟨i0, hi, hz0, hz1, hz2⟩ := info_parts info5
  have HIN := Lib.hid hi
  have H0 := Lib.hid hz0
  have H1 := Lib.hid hz1
  have H2 := Lib.hid hz2
  have HI := Lib.hid hI
  have HS := Lib.hid hs
  have HK := Lib.hid hk
  have HH := Lib.hid hh
  have HZ := Lib.hid (tcs_z I seed (k : Int) (h : Int) hI hs)
  have HY := Lib.hid (tcs_y I seed (k : Int) (h : Int) hI hs)
  have HT : Hid ((Tryz.prog.info? 25).map (·.size) = some (tcs I seed (k : Int) (h : Int)).length) := by show _ = _; rw [tcs_length I seed _ _ hI hs]; exact sTree
  obtain ⟨dT, huT, hdT⟩ := rowTree
  have HU := Lib.hid huT
  have HD := Lib.hid hdT
  obtain ⟨X, hX⟩ : ∃ X, knt I seed k (2 ^ h) h 1 = X := ⟨_, rfl⟩
  have hXl : X.length = 32 := by rw [← hX]; exact knt_length _ _ _ _ _ _
  have HXE := Lib.hid hX
  have HXL := Lib.hid hXl
  have H24 : Hid ((Tryz.prog.info? 23).map (·.size) = some (bys X).length) := by show _ = _; rw [bys_length, hXl]; exact s24
  have HLZ : Hid (z32.length = (bys X).length) := by show _ = _; rw [bys_length, hXl, z32_length]
  obtain ⟨D, hDe⟩ : ∃ N, knd h = N := ⟨_, rfl⟩
  obtain ⟨Y, hYe⟩ : ∃ N, typ k = N := ⟨_, rfl⟩
  have hD4 : D < 4294967296 := by rw [← hDe]; exact knd_lt hh
  have hY4 : Y < 4294967296 := by rw [← hYe]; exact typ_lt hk
  have HC0 : Hid (((shl k h)[0]? : Option Value) = some (.int .u32 (D : Int))) := by show _ = _; rw [← hDe]; rfl
  have HC1 : Hid (((shl k h)[1]? : Option Value) = some (.int .u32 (Y : Int))) := by show _ = _; rw [← hYe]; rfl
  have HPE : Hid (lpub I seed k h = be 4 D ++ be 4 Y ++ I ++ X) := by show _ = _; unfold lpub; rw [hDe, hYe, hX]
  clear hI hs hk hh hi hz0 hz1 hz2 huT hdT hX hXl hDe hYe
  go_enter Tryz.func11, Tryz.ntmps11
  go_wp2_with (refine wpList_box_blk rfl 25 _ rfl (tcs I seed (k : Int) (h : Int)) rfl ?_)
  intro w1 a1 a2 a3
  have A1 := Lib.hid a1
  have A3 := Lib.hid a3
  have A2 := Lib.hid a2
  clear a1 a2 a3
  go_wp2
  refine wp_scope_goto 0 rfl ?_
  go_wp2_with (refine wpList_alloc_blk rfl 23 rfl _ z24 ?_)
  intro w2 a1 a2 a3
  obtain ⟨g0, hg0⟩ : ∃ g, w.heap.size = g := ⟨_, rfl⟩
  obtain ⟨g4, hg4⟩ : ∃ g, w1.heap.size = g := ⟨_, rfl⟩
  have hs1 := A2.out
  have G1 : Hid (Blk w2 g0 (tcs I seed (k : Int) (h : Int)) 25) := by rw [← hg0]; exact A1.out.below a3 (by omega)
  have G4 : Hid (Blk w2 g4 z32 23) := by rw [← hg4]; exact a1
  have GB : Hid (Below w.heap.size w w2) := A3.out.trans (a3.mono (by omega))
  have cz := (G1.out.cell 48).trans HZ.out
  have cy := (G1.out.cell 49).trans HY.out
  have hw0 : w.heap.size ≤ g0 := by omega
  have hg04 : g0 < g4 := by omega
  rw [hg0, hg4]
  clear a1 a2 a3 A1 A2 A3 hs1 hg0 hg4
  go_wp2_with fail
  refine (lshape_yes k h _ HK.out HH.out).mono ?_
  rintro e w3 ⟨rfl, hb⟩
  have E1 : Hid (Blk w3 g0 (tcs I seed (k : Int) (h : Int)) 25) := G1.out.below hb G1.out.lt
  have E4 : Hid (Blk w3 g4 z32 23) := G4.out.below hb G4.out.lt
  have EB : Hid (Below w.heap.size w w3) := GB.out.trans (hb.mono GB.out.size)
  have hs3 : g4 < w3.heap.size := E4.out.lt
  clear hb GB G1 G4 cz cy
  go_wp2_with (first | (refine wpList_alloc_blk rfl 50 rfl _ zi74 ?_))
  intro w4 a1 a2 a3
  obtain ⟨g6, hg6⟩ : ∃ g, w3.heap.size = g := ⟨_, rfl⟩
  rw [hg6] at a1 a2 a3 hs3 ⊢
  have A1 := Lib.hid a1
  obtain ⟨t4, ht4⟩ : ∃ t, w4.setRow g6 (shl k h).toArray = t := ⟨_, rfl⟩
  have F1 : Hid (Blk t4 g0 (tcs I seed (k : Int) (h : Int)) 25) := by rw [← ht4]; exact (E1.out.below a3 (by omega)).setRowOther (by omega)
  have F4 : Hid (Blk t4 g4 z32 23) := by rw [← ht4]; exact (E4.out.below a3 (by omega)).setRowOther (by omega)
  have F6 : Hid (Blk t4 g6 (shl k h) 50) := by rw [← ht4]; exact a1.setRow
  have FB : Hid (Below w.heap.size w t4) := by rw [← ht4]; exact below_setRow' (EB.out.trans (a3.mono (by omega))) (by omega) _
  clear a1 a2 a3 E1 E4 EB hg6
  go_wp2_with (first | (refine wpList_store_blk rfl 50 _ _ rfl g6 (shl k h) shl0 50 rfl rfl A1.out s74 rfl (shl_one k h) ?_; rw [ht4]; clear ht4) | (refine wpList_load_blkU rfl 25 _ rfl g0 rfl (tcs I seed (k : Int) (h : Int)) 25 F1.out dT HU.out HD.out HT.out ?_))
  refine (hashes_any I seed k h _ HI.out HS.out HH.out).mono ?_
  rintro e w5 ⟨fv, rfl, hsh, hb⟩
  obtain ⟨u0, u1, u2, hv, hG⟩ := hsh.split
  subst hv
  have GG := Lib.hid hG
  have I1 : Hid (Blk w5 g0 (tcs I seed (k : Int) (h : Int)) 25) := F1.out.below hb F1.out.lt
  have I4 : Hid (Blk w5 g4 z32 23) := F4.out.below hb F4.out.lt
  have I6 : Hid (Blk w5 g6 (shl k h) 50) := F6.out.below hb F6.out.lt
  have IB : Hid (Below w.heap.size w w5) := FB.out.trans (hb.mono FB.out.size)
  clear hb hsh hG A1 F1 F4 F6 FB
  go_wp2_with fail
  refine (GG.out.node HI.out HS.out HK.out HH.out h 1 (Nat.le_refl _) (by rw [Nat.sub_self]; decide) (by rw [Nat.sub_self]; decide)).mono ?_
  rintro e w6 ⟨rfl, hb⟩
  rw [HXE.out]
  have J1 : Hid (Blk w6 g0 (tcs I seed (k : Int) (h : Int)) 25) := I1.out.below hb I1.out.lt
  have J4 : Hid (Blk w6 g4 z32 23) := I4.out.below hb I4.out.lt
  have J6 : Hid (Blk w6 g6 (shl k h) 50) := I6.out.below hb I6.out.lt
  have JB : Hid (Below w.heap.size w w6) := IB.out.trans (hb.mono IB.out.size)
  clear hb GG I1 I4 I6 IB
  obtain ⟨w7, hw7⟩ : ∃ t, w6.setRow g4 (bys X).toArray = t := ⟨_, rfl⟩
  have M1 : Hid (Blk w7 g0 (tcs I seed (k : Int) (h : Int)) 25) := by rw [← hw7]; exact J1.out.setRowOther (by omega)
  have M4 : Hid (Blk w7 g4 (bys X) 23) := by rw [← hw7]; exact J4.out.setRow
  have M6 : Hid (Blk w7 g6 (shl k h) 50) := by rw [← hw7]; exact J6.out.setRowOther (by omega)
  have MB : Hid (Below w.heap.size w w7) := by rw [← hw7]; exact below_setRow' JB.out (by omega) _
  clear J1 J6 JB
  go_wp2_with (first | (refine wpList_store_blk rfl 23 _ _ rfl g4 (bys X) z32 23 rfl rfl J4.out H24.out HLZ.out (bys_one' _) ?_; rw [hw7]; clear hw7))
  refine wp_region_rely3 4 2 (fun x => ⟨#[Value.agg (tcs I seed ↑k ↑h).toArray, Value.pointer (some { block := g0, off := 0 }), Value.slice none 0 0, Value.int IntKind.i64 0, Value.pointer (some { block := g4, off := 0 }), Value.slice none 0 0, Value.pointer (some { block := g6, off := 0 }), Value.int IntKind.i64 0, Value.tuple #[Value.agg (shl k h).toArray, Value.int IntKind.i64 0], Value.pointer (some { block := g0, off := 48 }), Value.int IntKind.i64 ↑k, Value.pointer (some { block := g0, off := 49 }), Value.int IntKind.i64 ↑h, Value.tuple #[Value.agg (shl k h).toArray, Value.int IntKind.i64 0], Value.agg (shl k h).toArray, Value.int IntKind.i64 0, Value.int IntKind.i64 0, Value.bool false, Value.agg (tcs I seed ↑k ↑h).toArray, Value.func (Fn.func 50) #[] #[Value.pointer (some { block := u1, off := 0 }), Value.pointer (some { block := u0, off := 0 }), Value.pointer (some { block := u2, off := 0 })], Value.agg (bys X).toArray, x 0, x 1, x 2, x 3, undef, undef, undef, undef, undef, undef, undef, undef, undef, undef, undef, undef, undef, undef], []⟩) (fun jj => ([(OwnN w7.heap.size []), eqV (.pointer (some ⟨g6, 0, none⟩)), eqV (.int .u32 (D : Int)), (RdN (be 4 D))] : List (Value → World → Prop)).getD jj (fun _ _ => True)) rfl ⟨fun kk => [_, _, _, _].getD kk undef, rfl⟩ (by kernel_rfl) (by kernel_rfl) ?steps ?fin
  case steps =>
    refine StepsAt.cons 0 (fun _ _ _ h hb => OwnN.keep h hb) (fun _ _ => rfl) rfl rfl (fun x w9 hb hd K hK => ?_) ?_
    · refine wp_of_list rfl (wpList_make_own _ rfl (.const (.int .i64 0)) (.const (.int .i64 56)) 34 rfl w7.heap.size 5 i0 (.int .u8 0) 1 Tryz.underlying34 HIN.out H0.out H1.out .i64 .i64 (56 : Int) 56 rfl rfl rfl (by rw [H2.out]; omega) (by unfold maxLen; omega) hb.size ?_)
      intro w2 hown hgrow
      exact hK.out _ _ ((Below.refl _ _).grown hgrow (Nat.le_refl _) (fun k hk => by cases hk)) hown
    refine StepsAt.val 1 (.pointer (some ⟨g6, 0, none⟩)) rfl (fun _ _ => rfl) rfl rfl (fun x w9 hb hd => ?_) ?_
    · first | (go_simp; done) | (go_simp; rfl)
    refine StepsAt.val 2 (.int .u32 (D : Int)) rfl (fun _ _ => rfl) rfl rfl (fun x w9 hb hd => ?_) ?_
    · have h1 : x 1 = .pointer (some ⟨g6, 0, none⟩) := hd 1 (by kernel_rfl)
      have c := ((M6.out.below hb M6.out.lt).cell 0).trans HC0.out
      rw [h1]
      first | (go_simp; done) | (go_simp; rfl)
    refine StepsAt.cons 3 (fun _ _ _ h hb => RdN.keep h hb) (fun _ _ => rfl) rfl rfl (fun x w9 hb hd K hK => ?_) ?_
    · have h2 : Hid (x 2 = .int .u32 (D : Int)) := hd 2 (by kernel_rfl)
      go_simp
      refine calls_args (args2 := #[.int .u32 (D : Int)]) (by rw [h2.out]) ?_
      refine (fourL_any D _ hD4).mono ?_
      rintro e w2 ⟨v2, rfl, hown, hb2⟩
      exact hK.out _ _ hb2 hown.rd
    exact StepsAt.done
  case fin =>
    intro x w9 hb hd
    have h2 : Own 5 w9 w7.heap.size (x 0) [] := hd 0 (by omega)
    have h5 : Rd w9.heap.size w9 (x 3) (be 4 D) := hd 3 (by omega)
    refine AnyTill.any (S := fun _ => True) (m := 6) _ _ _ _ ?_
    refine AnyTill.one (i := 4) (by kernel_rfl) rfl (by rfl) (fun K hK => ?_)
    refine wp_of_list rfl (wpList_app rfl (.tmp 21) (.tmp 24) 34 rfl 5 i0 Tryz.underlying34 HIN.out H0.out H1.out H2.out w7.heap.size w9.heap.size (x 0) (x 3) [] (be 4 D) rfl h2 rfl h5 (by rw [be_length]; simp) hb.size ?_)
    intro v10 w10 hown10 hb10
    rw [List.nil_append] at hown10
    refine hK.out _ _ (.inr trivial) ?_
    clear hK K
    refine AnyTill.one (i := 5) (by kernel_rfl) rfl (by rfl) (fun K hK => ?_)
    refine hK.out _ _ (.inr trivial) ?_
    clear hK K
    refine AnyTill.done (by kernel_rfl) ?_
    refine NoPanic.normal ?_
    simp only [Act.put, Act.eval, List.setIfInBounds_toArray, List.set_cons_zero, List.set_cons_succ, Array.getD_eq_getD_getElem?, List.getElem?_toArray, List.getElem?_cons_zero, List.getElem?_cons_succ, Option.getD_some]
    have hbA : Below w7.heap.size w7 w10 := hb.trans hb10
    obtain ⟨b, hbE⟩ : ∃ b, w7.heap.size = b := ⟨_, rfl⟩
    have N1 : Hid (Blk w10 g0 (tcs I seed (k : Int) (h : Int)) 25) := M1.out.below hbA M1.out.lt
    have N4 : Hid (Blk w10 g4 (bys X) 23) := M4.out.below hbA M4.out.lt
    have N6 : Hid (Blk w10 g6 (shl k h) 50) := M6.out.below hbA M6.out.lt
    have NO : Hid (Own 5 w10 b v10 (be 4 D)) := by rw [← hbE]; exact hown10
    have NB : Hid (Below w.heap.size w w10) := MB.out.trans (hbA.mono MB.out.size)
    have hb10s : b ≤ w10.heap.size := by rw [← hbE]; exact hbA.size
    have hg0b : g0 < b := by rw [← hbE]; exact M1.out.lt
    have hg4b : g4 < b := by rw [← hbE]; exact M4.out.lt
    have hwb : w.heap.size ≤ b := by rw [← hbE]; exact MB.out.size
    have c1 := (N6.out.cell 1).trans HC1.out
    generalize x 0 = z0
    generalize x 1 = z1
    generalize x 2 = z2
    generalize x 3 = z3
    clear hd h2 h5 hb hb10 hown10 hbA M1 M4 M6 MB hbE x
    go_wp2_with fail
    clear c1
    refine (fourL_any Y _ hY4).mono ?_
    rintro e w11 ⟨v11, rfl, hown, hb⟩
    have P1 : Hid (Blk w11 g0 (tcs I seed (k : Int) (h : Int)) 25) := N1.out.below hb N1.out.lt
    have P4 : Hid (Blk w11 g4 (bys X) 23) := N4.out.below hb N4.out.lt
    have PO : Hid (Own 5 w11 b v10 (be 4 D)) := NO.out.below hb (Nat.le_refl _)
    have PB : Hid (Below w.heap.size w w11) := NB.out.trans (hb.mono NB.out.size)
    have PV := Lib.hid hown.rd
    have hb11s : b ≤ w11.heap.size := Nat.le_trans hb10s hb.size
    clear hb hown N1 N4 N6 NO NB hb10s
    go_wp2_with (at_builtin; refine wpList_app rfl _ _ 34 rfl 5 i0 Tryz.underlying34 HIN.out H0.out H1.out H2.out b w11.heap.size _ _ (be 4 D) (be 4 Y) rfl PO.out rfl PV.out (by rw [be_length, be_length]; omega) hb11s ?_)
    intro v12 w12 hown12 hb12
    have Q1 : Hid (Blk w12 g0 (tcs I seed (k : Int) (h : Int)) 25) := P1.out.below hb12 hg0b
    have Q4 : Hid (Blk w12 g4 (bys X) 23) := P4.out.below hb12 hg4b
    have QO := Lib.hid hown12
    have QB : Hid (Below w.heap.size w w12) := PB.out.trans (hb12.mono hwb)
    have hb12s : b ≤ w12.heap.size := Nat.le_trans hb11s hb12.size
    have hl12 : g0 < w12.heap.size := Q1.out.lt
    clear hown12 hb12 P1 P4 PO PV PB hb11s
    go_wp2_with (at_builtin; refine wpList_app rfl _ _ 34 rfl 5 i0 Tryz.underlying34 HIN.out H0.out H1.out H2.out b w12.heap.size _ _ (be 4 D ++ be 4 Y) I rfl QO.out rfl (tcs_I Q1.out HI.out hl12) (by rw [List.length_append, be_length, be_length, HI.out]; omega) hb12s ?_)
    intro v13 w13 hown13 hb13
    have R4 : Hid (Blk w13 g4 (bys X) 23) := Q4.out.below hb13 hg4b
    have RO := Lib.hid hown13
    have RB : Hid (Below w.heap.size w w13) := QB.out.trans (hb13.mono hwb)
    have hb13s : b ≤ w13.heap.size := Nat.le_trans hb12s hb13.size
    have hl13 : g4 < w13.heap.size := R4.out.lt
    clear hown13 hb13 Q1 Q4 QO QB hb12s hl12
    go_wp2_with (at_builtin; refine wpList_app rfl _ _ 34 rfl 5 i0 Tryz.underlying34 HIN.out H0.out H1.out H2.out b w13.heap.size _ _ (be 4 D ++ be 4 Y ++ I) X rfl RO.out rfl (Rd.blk 32 HXL.out R4.out hl13 (by omega)) (by rw [List.length_append, List.length_append, be_length, be_length, HI.out, HXL.out]; omega) hb13s ?_)
    intro v14 w14 hown14 hb14
    have SO := Lib.hid hown14
    have SB : Hid (Below w.heap.size w w14) := RB.out.trans (hb14.mono hwb)
    clear hown14 hb14 R4 RO RB hb13s hl13
    go_wp2
    rw [jump_ret]
    go_ret2
    refine ⟨_, rfl, ?_, SB.out⟩
    rw [HPE.out]
    exact SO.out.base hwb

set_option maxRecDepth 100000 in
set_option maxHeartbeats 400000 in
theorem knotT_no (I seed : List UInt8) (z y r : Int) (w : World) (hI : I.length = 16) (hs : seed.length = 32) (hn : NoT z y) : Calls Tryz.prog 8 #[.agg (tcs I seed z y).toArray, .int .i64 r] w (TwoD (.agg z32.toArray) (.int .i64 1) w) := by
  have HZ := Lib.hid (tcs_z I seed z y hI hs)
  have HY := Lib.hid (tcs_y I seed z y hI hs)
  have HN := Lib.hid hn
  clear hI hs hn
  go_enter Tryz.func8, Tryz.ntmps8
  go_wp2_with (refine wpList_box_blk rfl 25 _ rfl (tcs I seed z y) rfl ?_)
  intro w1 a1 a2 a3
  have A1 := Lib.hid a1
  have A3 := Lib.hid a3
  have A2 := Lib.hid a2
  clear a1 a2 a3
  go_wp2_with (refine wpList_alloc_blk rfl 23 rfl _ z24 ?_)
  intro w2 a1 a2 a3
  obtain ⟨g4, hg4⟩ : ∃ g, w1.heap.size = g := ⟨_, rfl⟩
  have hs1 := A2.out
  have G1 : Hid (Blk w2 w.heap.size (tcs I seed z y) 25) := A1.out.below a3 (by omega)
  have G4 : Hid (Blk w2 g4 z32 23) := by rw [← hg4]; exact a1
  have GB : Hid (Below w.heap.size w w2) := A3.out.trans (a3.mono (by omega))
  have cz := (G1.out.cell 48).trans HZ.out
  have cy := (G1.out.cell 49).trans HY.out
  have hw4 : w.heap.size ≤ g4 := by omega
  rw [hg4]
  clear a1 a2 a3 A1 A2 A3 hs1 hg4
  go_wp2
  refine wp_scope_goto 0 rfl ?_
  go_wp2_with fail
  refine (lshape_no z y _ HN.out).mono ?_
  rintro e w3 ⟨rfl, hb⟩
  have B1 : Hid (Below w.heap.size w w3) := GB.out.trans (hb.mono GB.out.size)
  have B4 : Hid (Blk w3 g4 z32 23) := G4.out.below hb G4.out.lt
  have hl4 : g4 < w3.heap.size := B4.out.lt
  clear hb GB G1 G4 cz cy
  go_wp2_with (first | (refine wpList_alloc_blk rfl 50 rfl _ zi74 ?_))
  intro w4 a1 a2 a3
  have A1 := Lib.hid a1
  have hs := B1.out.size
  obtain ⟨t4, ht4⟩ : ∃ t, w4.setRow w3.heap.size shl0.toArray = t := ⟨_, rfl⟩
  have LB : Hid (Below w.heap.size w t4) := by rw [← ht4]; exact below_setRow' (B1.out.trans (a3.mono hs)) hs _
  have L4 : Hid (Blk t4 g4 z32 23) := by rw [← ht4]; exact (B4.out.below a3 hl4).setRowOther (by omega)
  clear a1 a2 a3 B4 B1 hl4
  go_wp2_with (first | (refine wpList_store_blk rfl 50 _ _ rfl w3.heap.size shl0 shl0 50 rfl rfl A1.out s74 rfl shl0_one ?_; rw [ht4]; clear ht4))
  refine wp_goto ⟨rfl, ?_⟩
  go_wp2_with (first | (refine wpList_buildTo rfl 23 _ rfl (some 31) rfl z32.toArray (by kernel_rfl) ?_) | (refine wpList_store_blk rfl 23 _ _ rfl g4 z32 z32 23 rfl rfl L4.out s24 rfl (bys_one' _) ?_))
  rw [Exit.noGoto_ret]
  refine bodyPost_ret (v := .tuple #[.agg z32.toArray, .int .i64 1]) ?_ rfl ?_
  · exact ret_blk2 rfl _ _ g4 23 z32 _ rfl rfl L4.out.setRow 32 5 tu24 s24
  · exact ⟨rfl, below_setRow' LB.out hw4 _⟩
end Go.Proofs.YtnemkefmlffigaaGreat
