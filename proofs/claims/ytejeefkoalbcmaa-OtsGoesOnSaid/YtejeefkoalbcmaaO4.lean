/-
  Package ots: secret, for every key and every digit's number.
-/
import Derived.Test.YtejeefkoalbcmaaO3
namespace Go.Proofs.Ytejeefkoalbcmaa
open Go.RowKit

set_option maxRecDepth 100000 in
set_option maxHeartbeats 1000000 in
theorem secret_any (I seed : List UInt8) (q i : Nat) (z : Int) (w : World) (hI : I.length = 16) (hs : seed.length = 32) (hq : q < 4294967296) (hi : i < 65536) : Calls Try.prog 27 #[.agg (kcs I q seed z).toArray, .int .i64 (i : Int)] w (Arr (bys (hsec (pre20 I q) seed i)) w) := by
  have HI := Lib.hid hI
  have HS := Lib.hid hs
  have H22 : Hid ((Try.prog.info? 22).map (·.size) = some (bys I).length) := by show _ = _; rw [bys_length, hI]; exact s22
  have H24 : Hid ((Try.prog.info? 24).map (·.size) = some (bys (hsec (pre20 I q) seed i)).length) := by show _ = _; rw [bys_length]; unfold hsec; rw [hash_length]; exact s24
  have HLZ : Hid (z32.length = (bys (hsec (pre20 I q) seed i)).length) := by show _ = _; rw [bys_length, z32_length]; unfold hsec; rw [hash_length]
  clear hI hs
  go_enter Try.func27, Try.ntmps27
  go_wp2_with (refine wpList_box_blk rfl 26 _ rfl (kcs I q seed z) rfl ?_)
  intro w1 a1 a2 a3
  have A1 := Lib.hid a1
  have A2 := Lib.hid a2
  have A3 := Lib.hid a3
  clear a1 a2 a3
  go_wp2_with (refine wpList_alloc_blk rfl 24 rfl _ z24 ?_)
  intro w2 a1 a2 a3
  rw [A2.out] at a1 a2 a3 ⊢
  obtain ⟨g0, hg0⟩ : ∃ g, w.heap.size = g := ⟨_, rfl⟩
  obtain ⟨g1, hg1⟩ : ∃ g, g0 + 1 = g := ⟨_, rfl⟩
  have G1 : Hid (Blk w2 g0 (kcs I q seed z) 26) := by rw [← hg0]; exact A1.out.below a3 (by omega)
  have G2 : Hid (Blk w2 g1 z32 24) := by rw [← hg1, ← hg0]; exact a1
  have GB : Hid (Below w.heap.size w w2) := A3.out.trans (a3.mono (by omega))
  have hgs : w.heap.size < g1 := by omega
  rw [hg0, hg1]
  have hg00 : g0 < w2.heap.size := by omega
  have hg2 : g1 < w2.heap.size := by omega
  have HG0 := Lib.hid hg0
  clear a1 a2 a3 A1 A2 A3 hg0 hg1
  have hg0 := hg00
  go_wp2
  refine wp_region_rely2 12 1 (fun x => ⟨#[.agg (kcs I q seed z).toArray, .int .i64 (i : Int), .pointer (some ⟨g0, 0, none⟩), undef, .pointer (some ⟨g1, 0, none⟩), x 0, x 1, x 2, x 3, x 4, x 5, x 6, x 7, x 8, x 9, x 10, x 11], []⟩) (fun j => ([eqV (.pointer (some ⟨g0, 0, none⟩)), eqV (.agg (bys I).toArray), eqV (.pointer (some ⟨g0, 16, none⟩)), eqV (.int .u32 (q : Int)), (eqV (.agg (bys (pre20 I q)).toArray)), eqV (.int .i64 (i : Int)), (RdN (by2 i)), (RdN [255]), eqV (.pointer (some ⟨g0, 17, none⟩)), eqV (.slice (some ⟨g0, 17, none⟩) 32 32), (RdLN 3 [by2 i, [255], seed]), (eqV (.agg (bys (hsec (pre20 I q) seed i)).toArray))] : List (Value → World → Prop)).getD j (fun _ _ => True)) rfl ⟨fun k => [_, _, _, _, _, _, _, _, _, _, _, _].getD k undef, rfl⟩ (by kernel_rfl) (by kernel_rfl) ?steps ?fin
  case steps =>
    refine StepsAt.val 0 (.pointer (some ⟨g0, 0, none⟩)) rfl (fun _ _ => rfl) rfl rfl (fun x w1 hb hd => ?_) ?_
    · first | (go_simp; done) | (go_simp; rfl)
    refine StepsAt.val 1 (.agg (bys I).toArray) rfl (fun _ _ => rfl) rfl rfl (fun x w1 hb hd => ?_) ?_
    · have h0 : x 0 = .pointer (some ⟨g0, 0, none⟩) := hd 0 (by kernel_rfl)
      exact run_load_mid 22 (.tmp 5) rfl g0 0 (by exact h0) (bys I) (kcs_rangeI (G1.out.below hb hg0)) 16 5 tu22 H22.out
    refine StepsAt.val 2 (.pointer (some ⟨g0, 16, none⟩)) rfl (fun _ _ => rfl) rfl rfl (fun x w1 hb hd => ?_) ?_
    · first | (go_simp; done) | (go_simp; rfl)
    refine StepsAt.val 3 (.int .u32 (q : Int)) rfl (fun _ _ => rfl) rfl rfl (fun x w1 hb hd => ?_) ?_
    · have h2 : x 2 = .pointer (some ⟨g0, 16, none⟩) := hd 2 (by kernel_rfl)
      have c := ((G1.out.below hb hg0).cell 16).trans (kcs_q I seed q z HI.out)
      rw [h2]
      first | (go_simp; done) | (go_simp; rfl)
    refine StepsAt.cons 4 (fun _ _ _ h hb => h) (fun _ _ => rfl) rfl rfl (fun x w1 hb hd K hK => ?_) ?_
    · have h1 : Hid (x 1 = .agg (bys I).toArray) := hd 1 (by kernel_rfl)
      have h3 : Hid (x 3 = .int .u32 (q : Int)) := hd 3 (by kernel_rfl)
      go_simp
      refine calls_args (args2 := #[.agg (bys I).toArray, .int .u32 (q : Int)]) (by rw [h1.out, h3.out]) ?_
      refine (prefixOf_any I q _ HI.out hq).mono ?_
      rintro e w2 ⟨rfl, hb2⟩
      exact hK.out _ _ hb2 rfl
    refine StepsAt.val 5 (.int .i64 (i : Int)) rfl (fun _ _ => rfl) rfl rfl (fun x w1 hb hd => ?_) ?_
    · first | (go_simp; done) | (go_simp; rfl)
    refine StepsAt.cons 6 (fun _ _ _ h hb => RdN.keep h hb) (fun _ _ => rfl) rfl rfl (fun x w1 hb hd K hK => ?_) ?_
    · have h5 : Hid (x 5 = .int .i64 (i : Int)) := hd 5 (by kernel_rfl)
      go_simp
      refine calls_args (args2 := #[.int .i64 (i : Int)]) (by rw [h5.out]) ?_
      refine (twoBytes_any i _ hi).mono ?_
      rintro e w2 ⟨v2, rfl, hown, hb2⟩
      exact hK.out _ _ hb2 hown.rd
    refine StepsAt.cons 7 (fun _ _ _ h hb => RdN.keep h hb) (fun _ _ => rfl) rfl rfl (fun x w1 hb hd K hK => ?_) ?_
    · go_simp
      exact hK.out _ _ ((Below.refl _ _).alloc (Nat.le_refl _) _) ((Rd.one 5 w1 255).more (by simp))
    refine StepsAt.val 8 (.pointer (some ⟨g0, 17, none⟩)) rfl (fun _ _ => rfl) rfl rfl (fun x w1 hb hd => ?_) ?_
    · first | (go_simp; done) | (go_simp; rfl)
    refine StepsAt.val 9 (.slice (some ⟨g0, 17, none⟩) 32 32) rfl (fun _ _ => rfl) rfl rfl (fun x w1 hb hd => ?_) ?_
    · have h8 : x 8 = .pointer (some ⟨g0, 17, none⟩) := hd 8 (by kernel_rfl)
      rw [h8]
      first | (go_simp; done) | (go_simp; rfl)
    refine StepsAt.cons 10 (fun _ _ _ h hb => RdLN.keep h hb) (fun _ _ => rfl) rfl rfl (fun x w1 hb hd K hK => ?_) ?_
    · have h6 : RdN (by2 i) (x 6) w1 := hd 6 (by kernel_rfl)
      have h7 : RdN [255] (x 7) w1 := hd 7 (by kernel_rfl)
      have h9 : Hid (x 9 = .slice (some ⟨g0, 17, none⟩) 32 32) := hd 9 (by kernel_rfl)
      obtain ⟨A6, c6, e6, _, _⟩ := Rd.shape h6
      obtain ⟨A7, c7, e7, _, _⟩ := Rd.shape h7
      have e9 := h9.out
      have key := hK.out (.slice (some ⟨w1.heap.size, 0, none⟩) 3 3) (w1.alloc (.cells #[x 6, x 7, x 9] 42)) ((Below.refl _ _).alloc (Nat.le_refl _) _) (RdLN.three 42 w1 _ _ _ _ _ _ h6 h7 (by rw [e9]; exact kcs_seed (G1.out.below hb hg0) HI.out HS.out (Nat.lt_of_lt_of_le hg0 hb.size)))
      simp only [Act.put, e6, e7, e9, List.setIfInBounds_toArray, List.set_cons_zero, List.set_cons_succ] at key
      go_simp
      exact key
    refine StepsAt.cons 11 (fun _ _ _ h hb => h) (fun _ _ => rfl) rfl rfl (fun x w1 hb hd K hK => ?_) ?_
    · have h4 : Hid (x 4 = .agg (bys (pre20 I q)).toArray) := hd 4 (by kernel_rfl)
      have h10 : RdLN 3 [by2 i, [255], seed] (x 10) w1 := hd 10 (by kernel_rfl)
      obtain ⟨A, e10, hl⟩ := h10
      have E10 := Lib.hid e10
      clear e10
      go_simp
      refine calls_args (args2 := #[.agg (bys (pre20 I q)).toArray, .slice A 3 3]) (by rw [h4.out, E10.out]) ?_
      refine (hash_any (pre20 I q) A 3 3 [by2 i, [255], seed] _ hl rfl (pre20_length I q HI.out) ?_ ?_).mono ?_
      · have := HS.out; simp [pre20_length I q HI.out, by2]; omega
      · have := HS.out; simp [by2]; omega
      rintro e w2 ⟨rfl, hb2⟩
      exact hK.out _ _ hb2 rfl
    exact StepsAt.done
  case fin =>
    intro x w1 hb hd
    have h11 : x 11 = .agg (bys (hsec (pre20 I q) seed i)).toArray := hd 11 (by omega)
    refine AnyTill.any (S := fun _ => True) (m := 13) _ _ _ _ ?_
    refine AnyTill.one (i := 12) (by kernel_rfl) rfl (by rfl) (fun K hK => ?_)
    refine wp_store_blk 24 (.tmp 4) (.tmp 16) rfl g1 (bys (hsec (pre20 I q) seed i)) z32 24 rfl h11 (G2.out.below hb hg2) H24.out HLZ.out (bys_one' _) ?_
    refine hK.out _ _ (.inr trivial) ?_
    clear hK K
    refine AnyTill.done (by kernel_rfl) ?_
    refine NoPanic.normal ?_
    simp only [Act.put]
    have L0 : Hid (Blk (w1.setRow g1 (bys (hsec (pre20 I q) seed i)).toArray) g1 (bys (hsec (pre20 I q) seed i)) 24) := (G2.out.below hb hg2).setRow
    have LB : Hid (Below w.heap.size w (w1.setRow g1 (bys (hsec (pre20 I q) seed i)).toArray)) := below_setRow' (GB.out.trans (hb.mono (by omega))) (by omega) _
    clear hd h11
    go_wp2
    refine bodyPost_ret (v := .agg (bys (hsec (pre20 I q) seed i)).toArray) ?_ rfl ?_
    · exact ret_blk rfl _ _ g1 24 _ rfl L0.out 32 5 tu24 H24.out
    · exact ⟨rfl, LB.out⟩
end Go.Proofs.Ytejeefkoalbcmaa
