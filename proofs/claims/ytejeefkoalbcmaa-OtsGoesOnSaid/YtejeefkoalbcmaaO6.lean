/-
  Package ots: chain, for every digit's number and steps up to 255.
-/
import Derived.Test.YtejeefkoalbcmaaO5
namespace Go.Proofs.Ytejeefkoalbcmaa
open Go.RowKit

theorem wrap_u8 (j : Nat) (h : j < 256) : IntKind.u8.wrap (j : Int) = j := by
  simp [IntKind.wrap, IntKind.bits, IntKind.signed]
  omega
/-- What the loop of chain keeps. -/
def ChainAt (w : World) (p : List UInt8) (g0 g1 g2 : Nat) (y : List UInt8) (wr : World) : Prop := Blk wr g0 (bys p) 67 ∧ Blk wr g1 (bys y) 24 ∧ Blk wr g2 z32 24 ∧ Below w.heap.size w wr ∧ y.length = 32

set_option maxRecDepth 100000 in
set_option maxHeartbeats 1000000 in
theorem chain_any (p x0 : List UInt8) (i a n : Nat) (w : World) (hp : p.length = 20) (hx : x0.length = 32) (hi : i < 65536) (hn : a + n ≤ 255) : Calls Try.prog 31 #[.agg (bys p).toArray, .int .i64 (i : Int), .int .i64 (a : Int), .int .i64 ((a + n : Nat) : Int), .agg (bys x0).toArray] w (Arr (bys (chn p i a n x0)) w) := by
  have HP := Lib.hid hp
  have HX := Lib.hid hx
  have H67 : Hid ((Try.prog.info? 67).map (·.size) = some (bys p).length) := by show _ = _; rw [bys_length, hp]; exact s67
  obtain ⟨T, hT⟩ : ∃ T, a + n = T := ⟨_, rfl⟩
  rw [hT] at hn ⊢
  clear hp hx
  go_enter Try.func31, Try.ntmps31
  go_wp2_with (refine wpList_box_blk rfl 67 _ rfl (bys p) rfl ?_)
  intro w1 a1 a2 a3
  have A1 := Lib.hid a1
  have A2 := Lib.hid a2
  have A3 := Lib.hid a3
  clear a1 a2 a3
  go_wp2_with (refine wpList_box_blk rfl 24 _ rfl (bys x0) rfl ?_)
  intro w2 a1 a2 a3
  rw [A2.out] at a1 a2 a3 ⊢
  have E0 : Hid (Blk w2 w.heap.size (bys p) 67) := A1.out.below a3 (by omega)
  have E1 : Hid (Blk w2 (w.heap.size + 1) (bys x0) 24) := a1
  have EB : Hid (Below w.heap.size w w2) := A3.out.trans (a3.mono (by omega))
  have ES := Lib.hid a2
  clear a1 a2 a3 A1 A2 A3
  go_wp2_with (refine wpList_alloc_blk rfl 24 rfl _ z24 ?_)
  intro w3 a1 a2 a3
  rw [ES.out] at a1 a2 a3 ⊢
  obtain ⟨g0, hg0⟩ : ∃ g, w.heap.size = g := ⟨_, rfl⟩
  obtain ⟨g1, hg1⟩ : ∃ g, g0 + 1 = g := ⟨_, rfl⟩
  obtain ⟨g2, hg2⟩ : ∃ g, g1 + 1 = g := ⟨_, rfl⟩
  have K0 : Hid (ChainAt w p g0 g1 g2 (chn p i a 0 x0) w3) := by
    refine ⟨?_, ?_, ?_, EB.out.trans (a3.mono (by omega)), HX.out⟩
    · rw [← hg0]; exact E0.out.below a3 (by omega)
    · rw [← hg1, ← hg0]; exact E1.out.below a3 (by omega)
    · rw [← hg2, ← hg1, ← hg0]; exact a1
  have hwg : w.heap.size ≤ g0 := by omega
  have hg01 : g0 < g1 := by omega
  have hg12 : g1 < g2 := by omega
  rw [hg0, hg1, hg2]
  clear a1 a2 a3 E0 E1 EB ES hg0 hg1 hg2
  go_wp2
  go_loopw [11] (fun v wr => ∃ k : Nat, a + k ≤ T ∧ v = .int .i64 ((a + k : Nat) : Int) ∧ Hid (ChainAt w p g0 g1 g2 (chn p i a k x0) wr)) (fun v _ => T - (intOf v).toNat)
  case atStart => exact ⟨0, by omega, rfl, K0⟩
  case round =>
    clear K0
    obtain ⟨k, hk, rfl, KK⟩ := hrel
    by_cases hk2 : a + k < T
    · obtain ⟨j, hj⟩ : ∃ j, a + k = j := ⟨_, rfl⟩
      have hy : chn p i a (k + 1) x0 = hstep p i j (chn p i a k x0) := by rw [← hj]; rfl
      obtain ⟨y, hY⟩ : ∃ y, chn p i a k x0 = y := ⟨_, rfl⟩
      rw [hY] at KK hy
      rw [hj] at hk2 ⊢
      have HY := Lib.hid hy
      clear hY hy
      have zi : (j : Int) < (T : Int) := by omega
      have zj : (j : Int) < 256 := by omega
      have z0 : (0 : Int) ≤ (j : Int) := by omega
      have hw0 : g0 < wr.heap.size := KK.out.1.lt
      have hw1 : g1 < wr.heap.size := KK.out.2.1.lt
      have hw2 : g2 < wr.heap.size := KK.out.2.2.1.lt
      have H24 : Hid ((Try.prog.info? 24).map (·.size) = some (bys (hstep p i j y)).length) := by show _ = _; rw [bys_length]; unfold hstep; rw [hash_length]; exact s24
      have HLZ : Hid ((bys y).length = (bys (hstep p i j y)).length) := by show _ = _; rw [bys_length, bys_length, KK.out.2.2.2.2]; unfold hstep; rw [hash_length]
      go_wp2
      refine wp_region_rely2 9 1 (fun x => ⟨#[.agg (bys p).toArray, .int .i64 (i : Int), .int .i64 (a : Int), .int .i64 (T : Int), .agg (bys x0).toArray, .pointer (some ⟨g0, 0, none⟩), undef, undef, undef, .pointer (some ⟨g1, 0, none⟩), .pointer (some ⟨g2, 0, none⟩), .int .i64 (j : Int), .int .i64 (a : Int), .int .i64 (j : Int), .int .i64 (T : Int), .bool true, u16, u17, x 0, x 1, x 2, x 3, x 4, x 5, x 6, x 7, x 8, undef], []⟩) (fun jj => ([eqV (.agg (bys p).toArray), eqV (.int .i64 (i : Int)), (RdN (by2 i)), eqV (.int .i64 (j : Int)), eqV (.int .u8 (j : Int)), (RdN [UInt8.ofNat j]), eqV (.slice (some ⟨g1, 0, none⟩) 32 32), (RdLN 3 [by2 i, [UInt8.ofNat j], y]), (eqV (.agg (bys (hstep p i j y)).toArray))] : List (Value → World → Prop)).getD jj (fun _ _ => True)) rfl ⟨fun kk => [_, _, _, _, _, _, _, _, _].getD kk undef, rfl⟩ (by kernel_rfl) (by kernel_rfl) ?steps ?fin
      case steps =>
        refine StepsAt.val 0 (.agg (bys p).toArray) rfl (fun _ _ => rfl) rfl rfl (fun x w1 hb hd => ?_) ?_
        · exact run_load_blk 67 (.tmp 5) rfl g0 rfl (bys p) 67 (KK.out.1.below hb hw0) 20 5 tu67 H67.out
        refine StepsAt.val 1 (.int .i64 (i : Int)) rfl (fun _ _ => rfl) rfl rfl (fun x w1 hb hd => ?_) ?_
        · first | (go_simp; done) | (go_simp; rfl)
        refine StepsAt.cons 2 (fun _ _ _ h hb => RdN.keep h hb) (fun _ _ => rfl) rfl rfl (fun x w1 hb hd K hK => ?_) ?_
        · have h1 : Hid (x 1 = .int .i64 (i : Int)) := hd 1 (by kernel_rfl)
          go_simp
          refine calls_args (args2 := #[.int .i64 (i : Int)]) (by rw [h1.out]) ?_
          refine (twoBytes_any i _ hi).mono ?_
          rintro e w2 ⟨v2, rfl, hown, hb2⟩
          exact hK.out _ _ hb2 hown.rd
        refine StepsAt.val 3 (.int .i64 (j : Int)) rfl (fun _ _ => rfl) rfl rfl (fun x w1 hb hd => ?_) ?_
        · first | (go_simp; done) | (go_simp; rfl)
        refine StepsAt.val 4 (.int .u8 (j : Int)) rfl (fun _ _ => rfl) rfl rfl (fun x w1 hb hd => ?_) ?_
        · have h3 : x 3 = .int .i64 (j : Int) := hd 3 (by kernel_rfl)
          rw [h3]
          go_simp
          exact wrap_u8 j (by omega)
        refine StepsAt.cons 5 (fun _ _ _ h hb => RdN.keep h hb) (fun _ _ => rfl) rfl rfl (fun x w1 hb hd K hK => ?_) ?_
        · have h4 : Hid (x 4 = .int .u8 (j : Int)) := hd 4 (by kernel_rfl)
          have e4 := h4.out
          have key := hK.out (.slice (some ⟨w1.heap.size, 0, none⟩) 1 1) (w1.alloc (.cells #[x 4] 5)) ((Below.refl _ _).alloc (Nat.le_refl _) _) (Own.lit 5 w1 _ 1 [UInt8.ofNat j] rfl (by omega) (by rw [e4]; simp [bys]; omega)).rd
          simp only [Act.put, e4, List.setIfInBounds_toArray, List.set_cons_zero, List.set_cons_succ] at key
          go_simp
          exact key
        refine StepsAt.val 6 (.slice (some ⟨g1, 0, none⟩) 32 32) rfl (fun _ _ => rfl) rfl rfl (fun x w1 hb hd => ?_) ?_
        · first | (go_simp; done) | (go_simp; rfl)
        refine StepsAt.cons 7 (fun _ _ _ h hb => RdLN.keep h hb) (fun _ _ => rfl) rfl rfl (fun x w1 hb hd K hK => ?_) ?_
        · have h2 : RdN (by2 i) (x 2) w1 := hd 2 (by kernel_rfl)
          have h5 : RdN [UInt8.ofNat j] (x 5) w1 := hd 5 (by kernel_rfl)
          have h6 : Hid (x 6 = .slice (some ⟨g1, 0, none⟩) 32 32) := hd 6 (by kernel_rfl)
          obtain ⟨A2, c2, e2, _, _⟩ := Rd.shape h2
          obtain ⟨A5, c5, e5, _, _⟩ := Rd.shape h5
          have e6 := h6.out
          have key := hK.out (.slice (some ⟨w1.heap.size, 0, none⟩) 3 3) (w1.alloc (.cells #[x 2, x 5, x 6] 42)) ((Below.refl _ _).alloc (Nat.le_refl _) _) (RdLN.three 42 w1 _ _ _ _ _ _ h2 h5 (by rw [e6]; exact Rd.blk 32 KK.out.2.2.2.2 (KK.out.2.1.below hb hw1) (Nat.lt_of_lt_of_le hw1 hb.size) (by omega)))
          simp only [Act.put, e2, e5, e6, List.setIfInBounds_toArray, List.set_cons_zero, List.set_cons_succ] at key
          go_simp
          exact key
        refine StepsAt.cons 8 (fun _ _ _ h hb => h) (fun _ _ => rfl) rfl rfl (fun x w1 hb hd K hK => ?_) ?_
        · have h0 : Hid (x 0 = .agg (bys p).toArray) := hd 0 (by kernel_rfl)
          have h7 : RdLN 3 [by2 i, [UInt8.ofNat j], y] (x 7) w1 := hd 7 (by kernel_rfl)
          obtain ⟨A, e7, hl⟩ := h7
          have E7 := Lib.hid e7
          clear e7
          go_simp
          refine calls_args (args2 := #[.agg (bys p).toArray, .slice A 3 3]) (by rw [h0.out, E7.out]) ?_
          refine (hash_any p A 3 3 [by2 i, [UInt8.ofNat j], y] _ hl rfl HP.out ?_ ?_).mono ?_
          · have := KK.out.2.2.2.2; have := HP.out; simp [by2]; omega
          · have := KK.out.2.2.2.2; simp [by2]; omega
          rintro e w2 ⟨rfl, hb2⟩
          exact hK.out _ _ hb2 rfl
        exact StepsAt.done
      case fin =>
        intro x w1 hb hd
        have hr : x 8 = .agg (bys (hstep p i j y)).toArray := hd 8 (by omega)
        refine AnyTill.any (S := fun _ => True) (m := 10) _ _ _ _ ?_
        refine AnyTill.one (i := 9) (by kernel_rfl) rfl (by rfl) (fun K hK => ?_)
        refine wp_store_blk 24 (.tmp 9) (.tmp 26) rfl g1 (bys (hstep p i j y)) (bys y) 24 rfl hr (KK.out.2.1.below hb hw1) H24.out HLZ.out (bys_one' _) ?_
        refine hK.out _ _ (.inr trivial) ?_
        clear hK K
        refine AnyTill.done (by kernel_rfl) ?_
        refine NoPanic.normal ?_
        simp only [Act.put]
        have K1 : Hid (ChainAt w p g0 g1 g2 (chn p i a (k + 1) x0) (w1.setRow g1 (bys (hstep p i j y)).toArray)) := by
          rw [HY.out]
          exact ⟨(KK.out.1.below hb hw0).setRowOther (by omega), (KK.out.2.1.below hb hw1).setRow, (KK.out.2.2.1.below hb hw2).setRowOther (by omega), below_setRow' (KK.out.2.2.2.1.trans (hb.mono KK.out.2.2.2.1.size)) (by omega) _, by unfold hstep; rw [hash_length]⟩
        clear hd hr KK
        go_wp2
        go_roundw
        case rel => exact ⟨k + 1, by omega, by go_num, K1⟩
        case measure => simp [intOf]; omega
    · have hkT : a + k = T := by omega
      have hkn : k = n := by omega
      rw [hkT]
      rw [hkn] at KK
      clear hkn
      have H24 : Hid ((Try.prog.info? 24).map (·.size) = some (bys (chn p i a n x0)).length) := by show _ = _; rw [bys_length, KK.out.2.2.2.2]; exact s24
      have HLZ : Hid (z32.length = (bys (chn p i a n x0)).length) := by show _ = _; rw [bys_length, KK.out.2.2.2.2, z32_length]
      have HBL : Hid (Blk wr g1 (bys (chn p i a n x0)) 24) := KK.out.2.1
      have HBR : Hid (Blk wr g2 z32 24) := KK.out.2.2.1
      have HBB : Hid (Below w.heap.size w wr) := KK.out.2.2.2.1
      clear KK
      go_wp2_with (first | (refine wpList_load_blk rfl 24 _ rfl g1 rfl (bys (chn p i a n x0)) 24 HBL.out 32 5 tu24 H24.out ?_) | (refine wpList_store_blk rfl 24 _ _ rfl g2 (bys (chn p i a n x0)) z32 24 rfl rfl HBR.out H24.out HLZ.out (bys_one' _) ?_))
      refine bodyPost_ret (v := .agg (bys (chn p i a n x0)).toArray) ?_ rfl ?_
      · exact ret_blk rfl _ _ g2 24 _ rfl HBR.out.setRow 32 5 tu24 H24.out
      · exact ⟨rfl, below_setRow' HBB.out (by omega) _⟩
end Go.Proofs.Ytejeefkoalbcmaa
