/-
  Package ots: Public, for every key whose W is a width.
-/
import Derived.Test.YtnemkefmlffigaaGreatPl
import Derived.Test.YtnemkefmlffigaaGreatOB
namespace Go.Proofs.YtnemkefmlffigaaGreat
open Go.RowKit

/-- A new array of 32 bytes. -/
def NewB (b : Nat) : Value → World → Prop := fun v w => ∃ g, v = .pointer (some ⟨g, 0, none⟩) ∧ Blk w g z32 23 ∧ b ≤ g
theorem NewB.keep {b : Nat} {v : Value} {w w' : World} (h : NewB b v w) (hb : Below w.heap.size w w') : NewB b v w' := by
  obtain ⟨g, hv, h1, h2⟩ := h
  exact ⟨g, hv, h1.below hb h1.lt, h2⟩

/-- What the loop of Public keeps. -/
def PubAt (w : World) (I seed : List UInt8) (q k g0 gr' gp gs b : Nat) (v : Value) (l : List UInt8) (wr : World) : Prop :=
  Blk wr g0 (kcs I q seed (k : Int)) 66 ∧ Blk wr gr' z32 23 ∧ Blk wr gp (bys (pre20 I q)) 92 ∧ Blk wr gs (shp k) 96 ∧ Own 5 wr b v l ∧ b ≤ wr.heap.size ∧ Below w.heap.size w wr
theorem PubAt.below {w : World} {I seed : List UInt8} {q k g0 gr' gp gs b : Nat} {v : Value} {l : List UInt8} {wr w' : World} (h : PubAt w I seed q k g0 gr' gp gs b v l wr) (hb : Below wr.heap.size wr w') : PubAt w I seed q k g0 gr' gp gs b v l w' := by
  obtain ⟨h1, h2, h3, h4, h5, h6, h7⟩ := h
  exact ⟨h1.below hb h1.lt, h2.below hb h2.lt, h3.below hb h3.lt, h4.below hb h4.lt, h5.below hb (Nat.le_refl _), Nat.le_trans h6 hb.size, h7.trans (hb.mono h7.size)⟩

set_option maxRecDepth 100000 in
set_option maxHeartbeats 2000000 in
theorem publicX_yes (I seed : List UInt8) (q k : Nat) (w : World) (hI : I.length = 16) (hs : seed.length = 32) (hq : q < 4294967296) (hk : Wd k) :
    Calls Tryz.prog 52 #[.agg (kcs I q seed (k : Int)).toArray] w (TwoD (.agg (bys (pubL (pre20 I q) seed k)).toArray) (.int .i64 0) w) := by
  obtain ⟨i0, hi, hz0, hz1, hz2⟩ := info_parts info5
  have HIN := Lib.hid hi
  have H0 := Lib.hid hz0
  have H1 := Lib.hid hz1
  have H2 := Lib.hid hz2
  have HI := Lib.hid hI
  have HS := Lib.hid hs
  have HK := Lib.hid hk
  have HP := Lib.hid (pre20_length I q hI)
  have hm := mny_le k hk
  obtain ⟨_, _, _, hG5⟩ := hk.le
  obtain ⟨M, hM⟩ : ∃ M, mny k = M := ⟨_, rfl⟩
  obtain ⟨G, hG⟩ : ∃ G, gr k = G := ⟨_, rfl⟩
  have HM := Lib.hid hM
  have HGE := Lib.hid hG
  have HC1 : Hid ((shp k)[1]? = some (.int .i64 (M : Int))) := by show _ = _; rw [← hM]; rfl
  have HC2 : Hid ((shp k)[2]? = some (.int .i64 (G : Int))) := by show _ = _; rw [← hG]; rfl
  rw [hM] at hm
  rw [hG] at hG5
  have H22 : Hid ((Tryz.prog.info? 22).map (·.size) = some (bys I).length) := by show _ = _; rw [bys_length, hI]; exact s22
  have H26 : Hid ((Tryz.prog.info? 66).map (·.size) = some (kcs I q seed (k : Int)).length) := by show _ = _; rw [kcs_length I seed q _ hI hs]; exact s26
  have H67 : Hid ((Tryz.prog.info? 92).map (·.size) = some (bys (pre20 I q)).length) := by show _ = _; rw [bys_length, pre20_length I q hI]; exact s67
  have HL67 : Hid (z20.length = (bys (pre20 I q)).length) := by show _ = _; rw [bys_length, pre20_length I q hI, z20_length]
  have H24 : Hid ((Tryz.prog.info? 23).map (·.size) = some (bys (pubL (pre20 I q) seed k)).length) := by show _ = _; rw [bys_length]; unfold pubL; rw [hpub_length]; exact s24
  have HLZ : Hid (z32.length = (bys (pubL (pre20 I q) seed k)).length) := by show _ = _; rw [bys_length, z32_length]; unfold pubL; rw [hpub_length]
  obtain ⟨d26, hu26, hd26⟩ := row26
  have HU2 := Lib.hid hu26
  have HD2 := Lib.hid hd26
  clear hI hs hk hi hz0 hz1 hz2 hM hG hu26 hd26
  go_enter Tryz.func52, Tryz.ntmps52
  go_wp2_with (refine wpList_box_blk rfl 66 _ rfl (kcs I q seed (k : Int)) rfl ?_)
  intro v1 a1 a2 a3
  have A1 := Lib.hid a1
  have A2 := Lib.hid a2
  have A3 := Lib.hid a3
  clear a1 a2 a3
  go_wp2_with (refine wpList_alloc_blk rfl 23 rfl _ z24 ?_)
  intro v2 a1 a2 a3
  rw [A2.out] at a1 a2 a3 ⊢
  obtain ⟨g0, hg0⟩ : ∃ g, w.heap.size = g := ⟨_, rfl⟩
  obtain ⟨g1, hg1⟩ : ∃ g, g0 + 1 = g := ⟨_, rfl⟩
  have G1 : Hid (Blk v2 g0 (kcs I q seed (k : Int)) 66) := by rw [← hg0]; exact A1.out.below a3 (by omega)
  have G2 : Hid (Blk v2 g1 z32 23) := by rw [← hg1, ← hg0]; exact a1
  have GB : Hid (Below w.heap.size w v2) := A3.out.trans (a3.mono (by omega))
  have hs2 : g1 < v2.heap.size := by omega
  have hw0 : w.heap.size ≤ g0 := by omega
  have hg01 : g0 < g1 := by omega
  rw [hg0, hg1]
  clear a1 a2 a3 A1 A2 A3 hg0 hg1
  go_wp2
  refine wp_scope_goto 0 rfl ?_
  have cq := (G1.out.cell 16).trans (kcs_q I seed q (k : Int) HI.out)
  go_wp2_with (refine wpList_load_mid rfl 22 _ rfl g0 0 rfl (bys I) _ (kcs_rangeI G1.out) tu22 rfl H22.out ?_)
  clear cq
  refine (prefixOf_any I q _ HI.out hq).mono ?_
  rintro e w1 ⟨rfl, hb⟩
  have E1 : Hid (Blk w1 g0 (kcs I q seed (k : Int)) 66) := G1.out.below hb (by omega)
  have E2 : Hid (Blk w1 g1 z32 23) := G2.out.below hb (by omega)
  have EB : Hid (Below w.heap.size w w1) := GB.out.trans (hb.mono (by omega))
  have hs1 : g1 < w1.heap.size := Nat.lt_of_lt_of_le hs2 hb.size
  clear hb G1 G2 GB hs2
  go_wp2_with (refine wpList_alloc_blk rfl 92 rfl _ zi67 ?_)
  intro w2 a1 a2 a3
  obtain ⟨gp, hgp⟩ : ∃ g, w1.heap.size = g := ⟨_, rfl⟩
  rw [hgp] at a1 a2 a3 hs1 ⊢
  have A1 := Lib.hid a1
  obtain ⟨t2, ht2⟩ : ∃ t, w2.setRow gp (bys (pre20 I q)).toArray = t := ⟨_, rfl⟩
  have L1 : Hid (Blk t2 g0 (kcs I q seed (k : Int)) 66) := by rw [← ht2]; exact (E1.out.below a3 (by omega)).setRowOther (by omega)
  have L2 : Hid (Blk t2 g1 z32 23) := by rw [← ht2]; exact (E2.out.below a3 (by omega)).setRowOther (by omega)
  have L3 : Hid (Blk t2 gp (bys (pre20 I q)) 92) := by rw [← ht2]; exact a1.setRow
  have LB : Hid (Below w.heap.size w t2) := by rw [← ht2]; exact below_setRow' (EB.out.trans (a3.mono (by omega))) (by omega) _
  have cw := (L1.out.cell 49).trans (kcs_z I seed q (k : Int) HI.out HS.out)
  clear a1 a2 a3 E1 E2 EB hgp
  go_wp2_with (first | (refine wpList_store_blk rfl 92 _ _ rfl gp (bys (pre20 I q)) z20 92 rfl rfl A1.out H67.out HL67.out (bys_one' _) ?_; rw [ht2]))
  clear cw ht2 A1
  refine (shapeOf_yes k _ HK.out).mono ?_
  rintro e w3 ⟨rfl, hb⟩
  have M1 : Hid (Blk w3 g0 (kcs I q seed (k : Int)) 66) := L1.out.below hb L1.out.lt
  have M2 : Hid (Blk w3 g1 z32 23) := L2.out.below hb L2.out.lt
  have M3 : Hid (Blk w3 gp (bys (pre20 I q)) 92) := L3.out.below hb L3.out.lt
  have MB : Hid (Below w.heap.size w w3) := LB.out.trans (hb.mono LB.out.size)
  have hs3 : gp < w3.heap.size := M3.out.lt
  clear hb L1 L2 L3 LB
  go_wp2_with (refine wpList_alloc_blk rfl 96 rfl _ zi57 ?_)
  intro w4 a1 a2 a3
  obtain ⟨gs, hgs⟩ : ∃ g, w3.heap.size = g := ⟨_, rfl⟩
  rw [hgs] at a1 a2 a3 hs3 ⊢
  have A1 := Lib.hid a1
  obtain ⟨t4, ht4⟩ : ∃ t, w4.setRow gs (shp k).toArray = t := ⟨_, rfl⟩
  obtain ⟨b, hbE⟩ : ∃ b, t4.heap.size = b := ⟨_, rfl⟩
  have K0 : Hid (PubAt w I seed q k g0 g1 gp gs b (.slice none 0 0) (rowsTo (endF (pre20 I q) seed k) 0) t4) := by
    refine ⟨?_, ?_, ?_, ?_, Own.nil 5 _ _, by omega, ?_⟩
    · rw [← ht4]; exact (M1.out.below a3 (by omega)).setRowOther (by omega)
    · rw [← ht4]; exact (M2.out.below a3 (by omega)).setRowOther (by omega)
    · rw [← ht4]; exact (M3.out.below a3 (by omega)).setRowOther (by omega)
    · rw [← ht4]; exact a1.setRow
    · rw [← ht4]; exact below_setRow' (MB.out.trans (a3.mono (by omega))) (by omega) _
  have hgs1 : gs < b := by rw [← hbE]; exact K0.out.2.2.2.1.lt
  have c1 : t4.cell? ⟨gs, 1, none⟩ = some (.int .i64 (M : Int)) := (K0.out.2.2.2.1.cell 1).trans HC1.out
  clear a1 a2 a3 M1 M2 M3 MB hgs hbE
  go_wp2_with (first | (refine wpList_store_blk rfl 96 _ _ rfl gs (shp k) shp0 96 rfl rfl A1.out s57 rfl (shp_one k) ?_; rw [ht4]))
  clear c1 ht4 A1
  go_loopw [4, 25] (fun v x wr => ∃ i : Nat, i ≤ M ∧ x = .int .i64 (i : Int) ∧ Hid (PubAt w I seed q k g0 g1 gp gs b v (rowsTo (endF (pre20 I q) seed k) i) wr)) (fun _ x _ => M - (intOf x).toNat)
  case atStart => exact ⟨0, by omega, rfl, K0⟩
  case round =>
    clear K0
    obtain ⟨i, hi, rfl, KK⟩ := hrel
    have hel : (rowsTo (endF (pre20 I q) seed k) i).length = 32 * i := rowsTo_length _ (endF_length _ _ _) _
    obtain ⟨A4, c4, hv4, hc4, hm4⟩ := KK.out.2.2.2.2.1.rd.shape
    rw [hel] at hv4 hc4
    subst hv4
    unfold maxLen at hm4
    have HEL := Lib.hid hel
    clear hel
    by_cases hi2 : i < M
    · have zi : (i : Int) < (M : Int) := by omega
      have hi3 : i < 65536 := by omega
      have hwg0 : g0 < wr.heap.size := KK.out.1.lt
      have hwgp : gp < wr.heap.size := KK.out.2.2.1.lt
      have hwgs : gs < wr.heap.size := KK.out.2.2.2.1.lt
      have H24e : Hid ((Tryz.prog.info? 23).map (·.size) = some (bys (endF (pre20 I q) seed k i)).length) := by show _ = _; rw [bys_length, endF_length]; exact s24
      have HLZe : Hid (z32.length = (bys (endF (pre20 I q) seed k i)).length) := by show _ = _; rw [bys_length, endF_length, z32_length]
      go_wp2
      refine wp_region_rely2 9 1 (fun x => ⟨#[Value.agg (kcs I q seed ↑k).toArray, Value.pointer (some { block := g0, off := 0 }), Value.pointer (some { block := g1, off := 0 }), Value.int IntKind.i64 0, Value.slice A4 (32 * i) c4, Value.pointer (some { block := gp, off := 0 }), Value.pointer (some { block := gs, off := 0 }), Value.int IntKind.i64 0, Value.int IntKind.i64 ↑i, x 8, Value.pointer (some { block := g0, off := 0 }), Value.agg (bys I).toArray, Value.pointer (some { block := g0, off := 16 }), Value.int IntKind.u32 ↑q, Value.agg (bys (pre20 I q)).toArray, Value.tuple #[Value.agg (shp k).toArray, Value.int IntKind.i64 0], Value.pointer (some { block := g0, off := 49 }), Value.int IntKind.i64 ↑k, Value.tuple #[Value.agg (shp k).toArray, Value.int IntKind.i64 0], Value.agg (shp k).toArray, Value.int IntKind.i64 0, Value.int IntKind.i64 0, Value.bool false, Value.pointer (some { block := gs, off := 1 }), Value.int IntKind.i64 ↑M, Value.int IntKind.i64 ↑i, Value.bool true, Value.int IntKind.i64 ↑i, x 0, x 1, x 2, x 3, x 4, x 5, x 6, x 7, u36, u37, u38, u39, undef, undef, undef, undef, undef], []⟩) (fun jj => ([eqV (.agg (bys (pre20 I q)).toArray), eqV (.int .i64 (i : Int)), eqV (.pointer (some ⟨gs, 2, none⟩)), eqV (.int .i64 (G : Int)), eqV (.agg (kcs I q seed (k : Int)).toArray), eqV (.int .i64 (i : Int)), (eqV (.agg (bys (hsec (pre20 I q) seed i)).toArray)), (eqV (.agg (bys (endF (pre20 I q) seed k i)).toArray)), (NewB wr.heap.size)] : List (Value → World → Prop)).getD jj (fun _ _ => True)) rfl ⟨fun kk => [_, _, _, _, _, _, _, _, _].getD kk undef, rfl⟩ (by kernel_rfl) (by kernel_rfl) ?steps ?fin
      case steps =>
        refine StepsAt.val 0 (.agg (bys (pre20 I q)).toArray) rfl (fun _ _ => rfl) rfl rfl (fun x w1 hb hd => ?_) ?_
        · exact run_load_blk 92 (.tmp 5) rfl gp rfl (bys (pre20 I q)) 92 (KK.out.2.2.1.below hb hwgp) 20 5 tu67 H67.out
        refine StepsAt.val 1 (.int .i64 (i : Int)) rfl (fun _ _ => rfl) rfl rfl (fun x w1 hb hd => ?_) ?_
        · first | (go_simp; done) | (go_simp; rfl)
        refine StepsAt.val 2 (.pointer (some ⟨gs, 2, none⟩)) rfl (fun _ _ => rfl) rfl rfl (fun x w1 hb hd => ?_) ?_
        · first | (go_simp; done) | (go_simp; rfl)
        refine StepsAt.val 3 (.int .i64 (G : Int)) rfl (fun _ _ => rfl) rfl rfl (fun x w1 hb hd => ?_) ?_
        · have h2 : x 2 = .pointer (some ⟨gs, 2, none⟩) := hd 2 (by kernel_rfl)
          have c := ((KK.out.2.2.2.1.below hb hwgs).cell 2).trans HC2.out
          rw [h2]
          first | (go_simp; done) | (go_simp; rfl)
        refine StepsAt.val 4 (.agg (kcs I q seed (k : Int)).toArray) rfl (fun _ _ => rfl) rfl rfl (fun x w1 hb hd => ?_) ?_
        · exact run_load_blkU 66 (.tmp 1) rfl g0 rfl (kcs I q seed (k : Int)) 66 (KK.out.1.below hb hwg0) d26 HU2.out HD2.out H26.out
        refine StepsAt.val 5 (.int .i64 (i : Int)) rfl (fun _ _ => rfl) rfl rfl (fun x w1 hb hd => ?_) ?_
        · first | (go_simp; done) | (go_simp; rfl)
        refine StepsAt.cons 6 (fun _ _ _ h hb => h) (fun _ _ => rfl) rfl rfl (fun x w1 hb hd K hK => ?_) ?_
        · have h4 : Hid (x 4 = .agg (kcs I q seed (k : Int)).toArray) := hd 4 (by kernel_rfl)
          have h5 : Hid (x 5 = .int .i64 (i : Int)) := hd 5 (by kernel_rfl)
          go_simp
          refine calls_args (args2 := #[.agg (kcs I q seed (k : Int)).toArray, .int .i64 (i : Int)]) (by rw [h4.out, h5.out]) ?_
          refine (secret_any I seed q i (k : Int) _ HI.out HS.out hq hi3).mono ?_
          rintro e w2 ⟨rfl, hb2⟩
          exact hK.out _ _ hb2 rfl
        refine StepsAt.cons 7 (fun _ _ _ h hb => h) (fun _ _ => rfl) rfl rfl (fun x w1 hb hd K hK => ?_) ?_
        · have h0 : Hid (x 0 = .agg (bys (pre20 I q)).toArray) := hd 0 (by kernel_rfl)
          have h1 : Hid (x 1 = .int .i64 (i : Int)) := hd 1 (by kernel_rfl)
          have h3 : Hid (x 3 = .int .i64 (G : Int)) := hd 3 (by kernel_rfl)
          have h6 : Hid (x 6 = .agg (bys (hsec (pre20 I q) seed i)).toArray) := hd 6 (by kernel_rfl)
          go_simp
          refine calls_args (args2 := #[.agg (bys (pre20 I q)).toArray, .int .i64 (i : Int), .int .i64 ((0 : Nat) : Int), .int .i64 ((0 + gr k : Nat) : Int), .agg (bys (hsec (pre20 I q) seed i)).toArray]) (by rw [h0.out, h1.out, h3.out, h6.out, Nat.zero_add, HGE.out]; rfl) ?_
          refine (chain_any (pre20 I q) (hsec (pre20 I q) seed i) i 0 (gr k) _ HP.out (hsec_length _ _ _) hi3 (by rw [HGE.out]; omega)).mono ?_
          rintro e w2 ⟨rfl, hb2⟩
          exact hK.out _ _ hb2 rfl
        refine StepsAt.cons 8 (fun _ _ _ h hb => NewB.keep h hb) (fun _ _ => rfl) rfl rfl (fun x w1 hb hd K hK => ?_) ?_
        · refine wp_of_list rfl (wpList_alloc_blk rfl 23 rfl _ z24 ?_)
          intro w2 b1 b2 b3
          exact hK.out _ _ b3 ⟨_, rfl, b1, hb.size⟩
        exact StepsAt.done
      case fin =>
        intro x w1 hb hd
        have hr : x 7 = .agg (bys (endF (pre20 I q) seed k i)).toArray := hd 7 (by omega)
        obtain ⟨g, e8, hg8, hgb⟩ : NewB wr.heap.size (x 8) w1 := hd 8 (by omega)
        refine AnyTill.any (S := fun _ => True) (m := 10) _ _ _ _ ?_
        refine AnyTill.one (i := 9) (by kernel_rfl) rfl (by rfl) (fun K hK => ?_)
        refine wp_store_blk 23 (.tmp 9) (.tmp 35) rfl g (bys (endF (pre20 I q) seed k i)) z32 23 e8 hr hg8 H24e.out HLZe.out (bys_one' _) ?_
        refine hK.out _ _ (.inr trivial) ?_
        clear hK K
        refine AnyTill.done (by kernel_rfl) ?_
        refine NoPanic.normal ?_
        simp only [Act.put]
        have hbF : Below wr.heap.size wr (w1.setRow g (bys (endF (pre20 I q) seed k i)).toArray) := below_setRow' hb hgb _
        have KF : Hid (PubAt w I seed q k g0 g1 gp gs b (.slice A4 (32 * i) c4) (rowsTo (endF (pre20 I q) seed k) i) (w1.setRow g (bys (endF (pre20 I q) seed k i)).toArray)) := KK.out.below hbF
        have LG : Hid (Blk (w1.setRow g (bys (endF (pre20 I q) seed k i)).toArray) g (bys (endF (pre20 I q) seed k i)) 23) := hg8.setRow
        have hgF : g < (w1.setRow g (bys (endF (pre20 I q) seed k i)).toArray).heap.size := LG.out.lt
        generalize w1.setRow g (bys (endF (pre20 I q) seed k i)).toArray = wf at KF LG hgF ⊢
        rw [e8]
        clear hd hr hbF KK hb hg8 e8
        go_wp2_with (at_builtin; refine wpList_app rfl _ _ 34 rfl 5 i0 Tryz.underlying34 HIN.out H0.out H1.out H2.out b wf.heap.size _ _ (rowsTo (endF (pre20 I q) seed k) i) (endF (pre20 I q) seed k i) rfl KF.out.2.2.2.2.1 rfl (Rd.blk 32 (endF_length _ _ _ _) LG.out hgF (by omega)) (by rw [HEL.out, endF_length]; omega) KF.out.2.2.2.2.2.1 ?_)
        intro v5 w5 hown5 hb5
        have K5 : Hid (PubAt w I seed q k g0 g1 gp gs b v5 (rowsTo (endF (pre20 I q) seed k) (i + 1)) w5) := by
          obtain ⟨f1, f2, f3, f4, f5, f6, f7⟩ := KF.out
          rw [rowsTo_succ]
          exact ⟨f1.below hb5 (by omega), f2.below hb5 (by omega), f3.below hb5 (by omega), f4.below hb5 hgs1, hown5, Nat.le_trans f6 hb5.size, f7.trans (hb5.mono (by omega))⟩
        clear hown5 hb5 KF LG hgF
        go_wp2
        go_roundw
        case rel => exact ⟨i + 1, by omega, by go_num, K5⟩
        case measure => simp [intOf]; omega
    · have hiM : i = M := by omega
      subst hiM
      have zi : ¬ ((i : Int) < (i : Int)) := by omega
      have N1 : Hid (Blk wr gp (bys (pre20 I q)) 92) := KK.out.2.2.1
      have N2 : Hid (Blk wr g1 z32 23) := KK.out.2.1
      have NO : Hid (Own 5 wr b (.slice A4 (32 * i) c4) (rowsTo (endF (pre20 I q) seed k) i)) := KK.out.2.2.2.2.1
      have NB : Hid (Below w.heap.size w wr) := KK.out.2.2.2.2.2.2
      clear KK
      go_wp2_with (refine wpList_load_blk rfl 92 _ rfl gp rfl (bys (pre20 I q)) 92 N1.out 20 5 tu67 H67.out ?_)
      refine (publicHash_any (pre20 I q) (rowsTo (endF (pre20 I q) seed k) i) _ _ HP.out NO.out.rd (by rw [HEL.out]; omega)).mono ?_
      rintro e w6 ⟨rfl, hb⟩
      have X2 : Hid (Blk w6 g1 z32 23) := N2.out.below hb N2.out.lt
      have XB : Hid (Below w.heap.size w w6) := NB.out.trans (hb.mono NB.out.size)
      rw [show hpub (pre20 I q) (rowsTo (endF (pre20 I q) seed k) i) = pubL (pre20 I q) seed k by unfold pubL; rw [HM.out]]
      clear hb N1 N2 NO NB
      go_wp2_with (refine wpList_store_blk rfl 23 _ _ rfl g1 (bys (pubL (pre20 I q) seed k)) z32 23 rfl rfl X2.out H24.out HLZ.out (bys_one' _) ?_)
      rw [jump_ret]
      refine bodyPost_ret (v := .tuple #[.agg (bys (pubL (pre20 I q) seed k)).toArray, .int .i64 0]) ?_ rfl ?_
      · exact ret_blk2 rfl _ _ g1 23 _ _ rfl rfl X2.out.setRow 32 5 tu24 H24.out
      · exact ⟨rfl, below_setRow' XB.out (by omega) _⟩
end Go.Proofs.YtnemkefmlffigaaGreat
