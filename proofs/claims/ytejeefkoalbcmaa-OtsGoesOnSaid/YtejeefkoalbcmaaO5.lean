/-
  Package ots: randomizer, messageHash and publicHash, for every input.
-/
import Derived.Test.YtejeefkoalbcmaaO4
namespace Go.Proofs.Ytejeefkoalbcmaa
open Go.RowKit

set_option maxRecDepth 100000 in
set_option maxHeartbeats 1000000 in
theorem randomizer_any (I seed : List UInt8) (q : Nat) (z : Int) (w : World) (hI : I.length = 16) (hs : seed.length = 32) (hq : q < 4294967296) : Calls Try.prog 35 #[.agg (kcs I q seed z).toArray] w (Arr (bys (hrnd (pre20 I q) seed)) w) := by
  have HI := Lib.hid hI
  have HS := Lib.hid hs
  have H22 : Hid ((Try.prog.info? 22).map (·.size) = some (bys I).length) := by show _ = _; rw [bys_length, hI]; exact s22
  have H24 : Hid ((Try.prog.info? 24).map (·.size) = some (bys (hrnd (pre20 I q) seed)).length) := by show _ = _; rw [bys_length]; unfold hrnd; rw [hash_length]; exact s24
  have HLZ : Hid (z32.length = (bys (hrnd (pre20 I q) seed)).length) := by show _ = _; rw [bys_length, z32_length]; unfold hrnd; rw [hash_length]
  clear hI hs
  go_enter Try.func35, Try.ntmps35
  go_wp2_with (refine wpList_box_blk rfl 26 _ rfl (kcs I q seed z) rfl ?_)
  intro w1 a1 a2 a3
  have A1 := Lib.hid a1
  have A2 := Lib.hid a2
  have A3 := Lib.hid a3
  clear a1 a2 a3
  go_wp2_with (refine wpList_alloc_blk rfl 24 rfl _ z24 ?_)
  intro w2 a1 a2 a3
  rw [A2.out] at a1 a2 a3 ⊢
  obtain ⟨g0, hg0⟩ : ∃ g, w.heap.size = g := ⟨_, rfl⟩
  obtain ⟨gr, hg1⟩ : ∃ g, g0 + 1 = g := ⟨_, rfl⟩
  have G1 : Hid (Blk w2 g0 (kcs I q seed z) 26) := by rw [← hg0]; exact A1.out.below a3 (by omega)
  have GR : Hid (Blk w2 gr z32 24) := by rw [← hg1, ← hg0]; exact a1
  have GB : Hid (Below w.heap.size w w2) := A3.out.trans (a3.mono (by omega))
  have hgs : w.heap.size < gr := by omega
  rw [hg0, hg1]
  have hg00 : g0 < w2.heap.size := by omega
  have hgr : gr < w2.heap.size := by omega
  have HG0 := Lib.hid hg0
  clear a1 a2 a3 A1 A2 A3 hg0 hg1
  have hg0 := hg00
  go_wp2
  refine wp_region_rely2 10 1 (fun x => ⟨#[.agg (kcs I q seed z).toArray, .pointer (some ⟨g0, 0, none⟩), .pointer (some ⟨gr, 0, none⟩), x 0, x 1, x 2, x 3, x 4, x 5, x 6, x 7, x 8, x 9], []⟩) (fun jj => ([eqV (.pointer (some ⟨g0, 0, none⟩)), eqV (.agg (bys I).toArray), eqV (.pointer (some ⟨g0, 16, none⟩)), eqV (.int .u32 (q : Int)), (eqV (.agg (bys (pre20 I q)).toArray)), (RdN [255, 253, 255]), eqV (.pointer (some ⟨g0, 17, none⟩)), eqV (.slice (some ⟨g0, 17, none⟩) 32 32), (RdLN 2 [[255, 253, 255], seed]), (eqV (.agg (bys (hrnd (pre20 I q) seed)).toArray))] : List (Value → World → Prop)).getD jj (fun _ _ => True)) rfl ⟨fun kk => [_, _, _, _, _, _, _, _, _, _].getD kk undef, rfl⟩ (by kernel_rfl) (by kernel_rfl) ?steps ?fin
  case steps =>
    refine StepsAt.val 0 (.pointer (some ⟨g0, 0, none⟩)) rfl (fun _ _ => rfl) rfl rfl (fun x w1 hb hd => ?_) ?_
    · first | (go_simp; done) | (go_simp; rfl)
    refine StepsAt.val 1 (.agg (bys I).toArray) rfl (fun _ _ => rfl) rfl rfl (fun x w1 hb hd => ?_) ?_
    · have h0 : x 0 = .pointer (some ⟨g0, 0, none⟩) := hd 0 (by kernel_rfl)
      exact run_load_mid 22 (.tmp 3) rfl g0 0 (by exact h0) (bys I) (kcs_rangeI (G1.out.below hb hg0)) 16 5 tu22 H22.out
    refine StepsAt.val 2 (.pointer (some ⟨g0, 16, none⟩)) rfl (fun _ _ => rfl) rfl rfl (fun x w1 hb hd => ?_) ?_
    · first | (go_simp; done) | (go_simp; rfl)
    refine StepsAt.val 3 (.int .u32 (q : Int)) rfl (fun _ _ => rfl) rfl rfl (fun x w1 hb hd => ?_) ?_
    · have h2 : x 2 = .pointer (some ⟨g0, 16, none⟩) := hd 2 (by kernel_rfl)
      have c := ((G1.out.below hb hg0).cell 16).trans (kcs_q I seed q z HI.out)
      rw [h2]
      first | (go_simp; done) | (go_simp; rfl)
    refine StepsAt.cons 4 (fun _ _ _ h hb => h) (fun _ _ => rfl) rfl rfl (fun x w1 hb hd K hK => ?_) ?_
    · have h1 : Hid (x 1 = .agg (bys I).toArray) := hd 1 (by kernel_rfl)
      have h3 : Hid (x 3 = .int .u32 (q : Int)) := hd 3 (by kernel_rfl)
      go_simp
      refine calls_args (args2 := #[.agg (bys I).toArray, .int .u32 (q : Int)]) (by rw [h1.out, h3.out]) ?_
      refine (prefixOf_any I q _ HI.out hq).mono ?_
      rintro e w2 ⟨rfl, hb2⟩
      exact hK.out _ _ hb2 rfl
    refine StepsAt.cons 5 (fun _ _ _ h hb => RdN.keep h hb) (fun _ _ => rfl) rfl rfl (fun x w1 hb hd K hK => ?_) ?_
    · go_simp
      exact hK.out _ _ ((Below.refl _ _).alloc (Nat.le_refl _) _) (Own.lit 5 w1 _ 3 [255, 253, 255] rfl (by omega) (by simp [bys])).rd
    refine StepsAt.val 6 (.pointer (some ⟨g0, 17, none⟩)) rfl (fun _ _ => rfl) rfl rfl (fun x w1 hb hd => ?_) ?_
    · first | (go_simp; done) | (go_simp; rfl)
    refine StepsAt.val 7 (.slice (some ⟨g0, 17, none⟩) 32 32) rfl (fun _ _ => rfl) rfl rfl (fun x w1 hb hd => ?_) ?_
    · have h6 : x 6 = .pointer (some ⟨g0, 17, none⟩) := hd 6 (by kernel_rfl)
      rw [h6]
      first | (go_simp; done) | (go_simp; rfl)
    refine StepsAt.cons 8 (fun _ _ _ h hb => RdLN.keep h hb) (fun _ _ => rfl) rfl rfl (fun x w1 hb hd K hK => ?_) ?_
    · have h5 : RdN [255, 253, 255] (x 5) w1 := hd 5 (by kernel_rfl)
      have h7 : Hid (x 7 = .slice (some ⟨g0, 17, none⟩) 32 32) := hd 7 (by kernel_rfl)
      obtain ⟨A5, c5, e5, _, _⟩ := Rd.shape h5
      have e7 := h7.out
      have key := hK.out (.slice (some ⟨w1.heap.size, 0, none⟩) 2 2) (w1.alloc (.cells #[x 5, x 7] 42)) ((Below.refl _ _).alloc (Nat.le_refl _) _) (RdLN.two 42 w1 _ _ _ _ h5 (by rw [e7]; exact kcs_seed (G1.out.below hb hg0) HI.out HS.out (Nat.lt_of_lt_of_le hg0 hb.size)))
      simp only [Act.put, e5, e7, List.setIfInBounds_toArray, List.set_cons_zero, List.set_cons_succ] at key
      go_simp
      exact key
    refine StepsAt.cons 9 (fun _ _ _ h hb => h) (fun _ _ => rfl) rfl rfl (fun x w1 hb hd K hK => ?_) ?_
    · have h4 : Hid (x 4 = .agg (bys (pre20 I q)).toArray) := hd 4 (by kernel_rfl)
      have h8 : RdLN 2 [[255, 253, 255], seed] (x 8) w1 := hd 8 (by kernel_rfl)
      obtain ⟨A, e8, hl⟩ := h8
      have E8 := Lib.hid e8
      clear e8
      go_simp
      refine calls_args (args2 := #[.agg (bys (pre20 I q)).toArray, .slice A 2 2]) (by rw [h4.out, E8.out]) ?_
      refine (hash_any (pre20 I q) A 2 2 [[255, 253, 255], seed] _ hl rfl (pre20_length I q HI.out) ?_ ?_).mono ?_
      · have := HS.out; simp [pre20_length I q HI.out]; omega
      · have := HS.out; simp; omega
      rintro e w2 ⟨rfl, hb2⟩
      exact hK.out _ _ hb2 rfl
    exact StepsAt.done
  case fin =>
    intro x w1 hb hd
    have hr : x 9 = .agg (bys (hrnd (pre20 I q) seed)).toArray := hd 9 (by omega)
    refine AnyTill.any (S := fun _ => True) (m := 11) _ _ _ _ ?_
    refine AnyTill.one (i := 10) (by kernel_rfl) rfl (by rfl) (fun K hK => ?_)
    refine wp_store_blk 24 (.tmp 2) (.tmp 12) rfl gr (bys (hrnd (pre20 I q) seed)) z32 24 rfl hr (GR.out.below hb hgr) H24.out HLZ.out (bys_one' _) ?_
    refine hK.out _ _ (.inr trivial) ?_
    clear hK K
    refine AnyTill.done (by kernel_rfl) ?_
    refine NoPanic.normal ?_
    simp only [Act.put]
    have L0 : Hid (Blk (w1.setRow gr (bys (hrnd (pre20 I q) seed)).toArray) gr (bys (hrnd (pre20 I q) seed)) 24) := (GR.out.below hb hgr).setRow
    have LB : Hid (Below w.heap.size w (w1.setRow gr (bys (hrnd (pre20 I q) seed)).toArray)) := below_setRow' (GB.out.trans (hb.mono (by omega))) (by omega) _
    clear hd hr
    go_wp2
    refine bodyPost_ret (v := .agg (bys (hrnd (pre20 I q) seed)).toArray) ?_ rfl ?_
    · exact ret_blk rfl _ _ gr 24 _ rfl L0.out 32 5 tu24 H24.out
    · exact ⟨rfl, LB.out⟩

set_option maxRecDepth 100000 in
set_option maxHeartbeats 1000000 in
theorem messageHash_any (p r text : List UInt8) (tv : Value) (w : World) (hp : p.length = 20) (hr : r.length = 32) (ht : Rd w.heap.size w tv text) (hl : text.length ≤ 100000) : Calls Try.prog 37 #[.agg (bys p).toArray, .agg (bys r).toArray, tv] w (Arr (bys (hmsg p r text)) w) := by
  have HP := Lib.hid hp
  have HR := Lib.hid hr
  have HT := Lib.hid ht
  have H67 : Hid ((Try.prog.info? 67).map (·.size) = some (bys p).length) := by show _ = _; rw [bys_length, hp]; exact s67
  have H24 : Hid ((Try.prog.info? 24).map (·.size) = some (bys (hmsg p r text)).length) := by show _ = _; rw [bys_length]; unfold hmsg; rw [hash_length]; exact s24
  have HLZ : Hid (z32.length = (bys (hmsg p r text)).length) := by show _ = _; rw [bys_length, z32_length]; unfold hmsg; rw [hash_length]
  clear hp hr ht
  go_enter Try.func37, Try.ntmps37
  go_wp2_with (refine wpList_box_blk rfl 67 _ rfl (bys p) rfl ?_)
  intro w1 a1 a2 a3
  have A1 := Lib.hid a1
  have A2 := Lib.hid a2
  have A3 := Lib.hid a3
  clear a1 a2 a3
  go_wp2_with (refine wpList_box_blk rfl 24 _ rfl (bys r) rfl ?_)
  intro w2 a1 a2 a3
  rw [A2.out] at a1 a2 a3 ⊢
  have E0 : Hid (Blk w2 w.heap.size (bys p) 67) := A1.out.below a3 (by omega)
  have E1 : Hid (Blk w2 (w.heap.size + 1) (bys r) 24) := a1
  have EB : Hid (Below w.heap.size w w2) := A3.out.trans (a3.mono (by omega))
  have ES := Lib.hid a2
  clear a1 a2 a3 A1 A2 A3
  go_wp2_with (refine wpList_alloc_blk rfl 24 rfl _ z24 ?_)
  intro w3 a1 a2 a3
  rw [ES.out] at a1 a2 a3 ⊢
  obtain ⟨g0, hg0⟩ : ∃ g, w.heap.size = g := ⟨_, rfl⟩
  obtain ⟨g1, hg1⟩ : ∃ g, g0 + 1 = g := ⟨_, rfl⟩
  obtain ⟨gr, hg2⟩ : ∃ g, g1 + 1 = g := ⟨_, rfl⟩
  have G0 : Hid (Blk w3 g0 (bys p) 67) := by rw [← hg0]; exact E0.out.below a3 (by omega)
  have G1 : Hid (Blk w3 g1 (bys r) 24) := by rw [← hg1, ← hg0]; exact E1.out.below a3 (by omega)
  have GR : Hid (Blk w3 gr z32 24) := by rw [← hg2, ← hg1, ← hg0]; exact a1
  have GB : Hid (Below w.heap.size w w3) := EB.out.trans (a3.mono (by omega))
  have hwb : w.heap.size ≤ w3.heap.size := by omega
  have hgs : w.heap.size < gr := by omega
  rw [hg0, hg1, hg2]
  have hg00 : g0 < w3.heap.size := by omega
  have hg11 : g1 < w3.heap.size := by omega
  have hgr : gr < w3.heap.size := by omega
  clear a1 a2 a3 E0 E1 EB ES hg0 hg1 hg2
  have hg0 := hg00
  have hg1 := hg11
  go_wp2
  refine wp_region_rely2 6 1 (fun x => ⟨#[.agg (bys p).toArray, .agg (bys r).toArray, tv, .pointer (some ⟨g0, 0, none⟩), .pointer (some ⟨g1, 0, none⟩), undef, .pointer (some ⟨gr, 0, none⟩), x 0, x 1, x 2, x 3, x 4, x 5], []⟩) (fun jj => ([eqV (.agg (bys p).toArray), (RdN [129, 129]), eqV (.slice (some ⟨g1, 0, none⟩) 32 32), eqV (tv), (RdLN 3 [[129, 129], r, text]), (eqV (.agg (bys (hmsg p r text)).toArray))] : List (Value → World → Prop)).getD jj (fun _ _ => True)) rfl ⟨fun kk => [_, _, _, _, _, _].getD kk undef, rfl⟩ (by kernel_rfl) (by kernel_rfl) ?steps ?fin
  case steps =>
    refine StepsAt.val 0 (.agg (bys p).toArray) rfl (fun _ _ => rfl) rfl rfl (fun x w1 hb hd => ?_) ?_
    · exact run_load_blk 67 (.tmp 3) rfl g0 rfl (bys p) 67 (G0.out.below hb hg0) 20 5 tu67 H67.out
    refine StepsAt.cons 1 (fun _ _ _ h hb => RdN.keep h hb) (fun _ _ => rfl) rfl rfl (fun x w1 hb hd K hK => ?_) ?_
    · go_simp
      exact hK.out _ _ ((Below.refl _ _).alloc (Nat.le_refl _) _) (Own.lit 5 w1 _ 2 [129, 129] rfl (by omega) (by simp [bys])).rd
    refine StepsAt.val 2 (.slice (some ⟨g1, 0, none⟩) 32 32) rfl (fun _ _ => rfl) rfl rfl (fun x w1 hb hd => ?_) ?_
    · first | (go_simp; done) | (go_simp; rfl)
    refine StepsAt.val 3 (tv) rfl (fun _ _ => rfl) rfl rfl (fun x w1 hb hd => ?_) ?_
    · first | (go_simp; done) | (go_simp; rfl)
    refine StepsAt.cons 4 (fun _ _ _ h hb => RdLN.keep h hb) (fun _ _ => rfl) rfl rfl (fun x w1 hb hd K hK => ?_) ?_
    · have h1 : RdN [129, 129] (x 1) w1 := hd 1 (by kernel_rfl)
      have h2 : Hid (x 2 = .slice (some ⟨g1, 0, none⟩) 32 32) := hd 2 (by kernel_rfl)
      have h3 : Hid (x 3 = tv) := hd 3 (by kernel_rfl)
      obtain ⟨A1, c1, e1, _, _⟩ := Rd.shape h1
      have e2 := h2.out
      have e3 := h3.out
      have hrt : Rd w1.heap.size w1 tv text := (((HT.out.below GB.out).below (hb.mono hwb))).more (Nat.le_trans hwb hb.size)
      obtain ⟨A3, c3, e3', _, _⟩ := hrt.shape
      have key := hK.out (.slice (some ⟨w1.heap.size, 0, none⟩) 3 3) (w1.alloc (.cells #[x 1, x 2, x 3] 42)) ((Below.refl _ _).alloc (Nat.le_refl _) _) (RdLN.three 42 w1 _ _ _ _ _ _ h1 (by rw [e2]; exact Rd.blk 32 HR.out (G1.out.below hb hg1) (Nat.lt_of_lt_of_le hg1 hb.size) (by omega)) (by rw [e3]; exact hrt))
      simp only [Act.put, e1, e2, e3, e3', List.setIfInBounds_toArray, List.set_cons_zero, List.set_cons_succ] at key
      go_simp
      exact key
    refine StepsAt.cons 5 (fun _ _ _ h hb => h) (fun _ _ => rfl) rfl rfl (fun x w1 hb hd K hK => ?_) ?_
    · have h0 : Hid (x 0 = .agg (bys p).toArray) := hd 0 (by kernel_rfl)
      have h4 : RdLN 3 [[129, 129], r, text] (x 4) w1 := hd 4 (by kernel_rfl)
      obtain ⟨A, e4, hl⟩ := h4
      have E4 := Lib.hid e4
      clear e4
      go_simp
      refine calls_args (args2 := #[.agg (bys p).toArray, .slice A 3 3]) (by rw [h0.out, E4.out]) ?_
      refine (hash_any p A 3 3 [[129, 129], r, text] _ hl rfl HP.out ?_ ?_).mono ?_
      · have := HR.out; have := HP.out; simp; omega
      · have := HR.out; simp; omega
      rintro e w2 ⟨rfl, hb2⟩
      exact hK.out _ _ hb2 rfl
    exact StepsAt.done
  case fin =>
    intro x w1 hb hd
    have hr : x 5 = .agg (bys (hmsg p r text)).toArray := hd 5 (by omega)
    refine AnyTill.any (S := fun _ => True) (m := 7) _ _ _ _ ?_
    refine AnyTill.one (i := 6) (by kernel_rfl) rfl (by rfl) (fun K hK => ?_)
    refine wp_store_blk 24 (.tmp 6) (.tmp 12) rfl gr (bys (hmsg p r text)) z32 24 rfl hr (GR.out.below hb hgr) H24.out HLZ.out (bys_one' _) ?_
    refine hK.out _ _ (.inr trivial) ?_
    clear hK K
    refine AnyTill.done (by kernel_rfl) ?_
    refine NoPanic.normal ?_
    simp only [Act.put]
    have L0 : Hid (Blk (w1.setRow gr (bys (hmsg p r text)).toArray) gr (bys (hmsg p r text)) 24) := (GR.out.below hb hgr).setRow
    have LB : Hid (Below w.heap.size w (w1.setRow gr (bys (hmsg p r text)).toArray)) := below_setRow' (GB.out.trans (hb.mono (by omega))) (by omega) _
    clear hd hr
    go_wp2
    refine bodyPost_ret (v := .agg (bys (hmsg p r text)).toArray) ?_ rfl ?_
    · exact ret_blk rfl _ _ gr 24 _ rfl L0.out 32 5 tu24 H24.out
    · exact ⟨rfl, LB.out⟩

set_option maxRecDepth 100000 in
set_option maxHeartbeats 1000000 in
theorem publicHash_any (p ends : List UInt8) (tv : Value) (w : World) (hp : p.length = 20) (ht : Rd w.heap.size w tv ends) (hl : ends.length ≤ 100000) : Calls Try.prog 42 #[.agg (bys p).toArray, tv] w (Arr (bys (hpub p ends)) w) := by
  have HP := Lib.hid hp
  have HT := Lib.hid ht
  obtain ⟨A0, c0, rfl, hc0, hm0⟩ := ht.shape
  unfold maxLen at hm0
  have H67 : Hid ((Try.prog.info? 67).map (·.size) = some (bys p).length) := by show _ = _; rw [bys_length, hp]; exact s67
  have H24 : Hid ((Try.prog.info? 24).map (·.size) = some (bys (hpub p ends)).length) := by show _ = _; rw [bys_length]; unfold hpub; rw [hash_length]; exact s24
  have HLZ : Hid (z32.length = (bys (hpub p ends)).length) := by show _ = _; rw [bys_length, z32_length]; unfold hpub; rw [hash_length]
  clear hp ht
  go_enter Try.func42, Try.ntmps42
  go_wp2_with (refine wpList_box_blk rfl 67 _ rfl (bys p) rfl ?_)
  intro w1 a1 a2 a3
  have A1 := Lib.hid a1
  have A2 := Lib.hid a2
  have A3 := Lib.hid a3
  clear a1 a2 a3
  go_wp2_with (refine wpList_alloc_blk rfl 24 rfl _ z24 ?_)
  intro w2 a1 a2 a3
  rw [A2.out] at a1 a2 a3 ⊢
  have G0 : Hid (Blk w2 w.heap.size (bys p) 67) := A1.out.below a3 (by omega)
  have G1 : Hid (Blk w2 (w.heap.size + 1) z32 24) := a1
  have GB : Hid (Below w.heap.size w w2) := A3.out.trans (a3.mono (by omega))
  have HS2 := Lib.hid a2
  clear a1 a2 a3 A1 A2 A3
  go_wp2_with (refine wpList_load_blk rfl 67 _ rfl w.heap.size rfl (bys p) 67 G0.out 20 5 tu67 H67.out ?_)
  have ht2 : RdN ends (.slice A0 ends.length c0) w2 := (HT.out.below GB.out).more GB.out.size
  have hR : RdLN 2 [[128, 128], ends] (.slice (some ⟨w2.heap.size + 1, 0, none⟩) 2 2) ((w2.alloc (.cells #[.int .u8 128, .int .u8 128] 5)).alloc (.cells #[.slice (some ⟨w2.heap.size, 0, none⟩) 2 2, .slice A0 ends.length c0] 42)) := by
    have h := RdLN.two 42 (w2.alloc (.cells #[.int .u8 128, .int .u8 128] 5)) (.slice (some ⟨w2.heap.size, 0, none⟩) 2 2) (.slice A0 ends.length c0) [128, 128] ends (Own.lit 5 w2 _ 2 [128, 128] rfl (by omega) (by simp [bys])).rd (ht2.keep ((Below.refl _ _).alloc (Nat.le_refl _) _))
    simpa using h
  have hb3 : Below w2.heap.size w2 ((w2.alloc (.cells #[.int .u8 128, .int .u8 128] 5)).alloc (.cells #[.slice (some ⟨w2.heap.size, 0, none⟩) 2 2, .slice A0 ends.length c0] 42)) := ((Below.refl _ _).alloc (Nat.le_refl _) _).alloc (by simp) _
  generalize (w2.alloc (.cells #[.int .u8 128, .int .u8 128] 5)).alloc (.cells #[.slice (some ⟨w2.heap.size, 0, none⟩) 2 2, .slice A0 ends.length c0] 42) = w3 at hR hb3 ⊢
  obtain ⟨A, hv, hl2⟩ := hR
  injection hv with hA
  rw [← hA] at hl2
  refine (hash_any p _ 2 2 [[128, 128], ends] _ hl2 rfl HP.out ?_ ?_).mono ?_
  · have := HP.out; simp; omega
  · simp; omega
  rintro e w4 ⟨rfl, hb4⟩
  rw [show hash (p ++ [[128, 128], ends].flatten) = hpub p ends from rfl]
  have hs2 := HS2.out
  have hs3 := hb3.size
  have L1 : Hid (Blk w4 (w.heap.size + 1) z32 24) := (G1.out.below hb3 (by omega)).below hb4 (by omega)
  have LB : Hid (Below w.heap.size w w4) := (GB.out.trans (hb3.mono (by omega))).trans (hb4.mono (by omega))
  clear hb3 hb4 hl2 hA ht2 G0 G1 GB hs2 hs3
  go_wp2_with (refine wpList_store_blk rfl 24 _ _ rfl (w.heap.size + 1) (bys (hpub p ends)) z32 24 rfl rfl L1.out H24.out HLZ.out (bys_one' _) ?_)
  refine bodyPost_ret (v := .agg (bys (hpub p ends)).toArray) ?_ rfl ?_
  · exact ret_blk rfl _ _ (w.heap.size + 1) 24 _ rfl L1.out.setRow 32 5 tu24 H24.out
  · exact ⟨rfl, below_setRow' LB.out (by omega) _⟩
end Go.Proofs.Ytejeefkoalbcmaa
