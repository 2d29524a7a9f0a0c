/-
  The document's own layer 4: Candidate.
-/
import Derived.Test.YtnemkefmlffigaaRg
namespace Go.Proofs.Ytnemkefmlffigaa
open Go.RowKit

theorem wFrom_or (b : List UInt8) : (Wd (wFrom b 1) ∧ be 4 (typ (wFrom b 1)) = b) ∨ wFrom b 1 = 0 := by
  by_cases h1 : be 4 1 = b
  · left; subst h1; exact ⟨by unfold Wd; decide, by decide⟩
  · by_cases h2 : be 4 2 = b
    · left; subst h2; exact ⟨by unfold Wd; decide, by decide⟩
    · by_cases h3 : be 4 3 = b
      · left; subst h3; exact ⟨by unfold Wd; decide, by decide⟩
      · by_cases h4 : be 4 4 = b
        · left; subst h4; exact ⟨by unfold Wd; decide, by decide⟩
        · right; simp [wFrom, h1, h2, h3, h4]
theorem typ_of (k : Nat) (hk : Wd k) : typ k = wd (be 4 (typ k)) 0 := by
  rcases hk with rfl | rfl | rfl | rfl <;> decide
theorem noW0 : NoW 0 := by unfold NoW; decide
def k0 : List UInt8 := List.replicate 32 0
theorem k0_length : k0.length = 32 := by simp [k0]
theorem built_key3' (f : Nat → UInt8) (q z : Int) : Try.prog.built 67 [(0, .agg (bys ((List.range 16).map f)).toArray), (1, .int .u32 q), (3, .int .i64 z)] = some (bys ((List.range 16).map f) ++ (Value.int .u32 q :: (bys k0 ++ [Value.int .i64 z]))).toArray := by kernel_rfl
theorem built_key3 (I : List UInt8) (q : Nat) (z : Int) (hI : I.length = 16) : Try.prog.built 67 [(0, .agg (bys I).toArray), (1, .int .u32 (q : Int)), (3, .int .i64 z)] = some (kcs I q k0 z).toArray := by
  rw [list_as I 16 hI]
  exact built_key3' _ _ _
/-- A key that is new, as it was laid. -/
def NewK (z0 : List Value) (b : Nat) : Value → World → Prop := fun v w => ∃ g, v = .pointer (some ⟨g, 0, none⟩) ∧ Blk w g z0 67 ∧ b ≤ g
theorem NewK.keep {z0 : List Value} {b : Nat} {v : Value} {w w' : World} (h : NewK z0 b v w) (hb : Below w.heap.size w w') : NewK z0 b v w' := by
  obtain ⟨g, h1, h2, h3⟩ := h
  exact ⟨g, h1, h2.below hb h2.lt, h3⟩

set_option maxRecDepth 100000 in
set_option maxHeartbeats 1000000 in
theorem refCand_short (I s : List UInt8) (q : Nat) (tv sv : Value) (w : World) (hsv : Rd w.heap.size w sv s) (hs : s.length < 4) : Calls Try.prog 9 #[.agg (bys I).toArray, .int .u32 (q : Int), tv, sv] w (TwoD (.agg z32.toArray) (.int .i64 2) w) := by
  obtain ⟨As, cs, rfl, hcs, hms⟩ := hsv.shape
  unfold maxLen at hms
  obtain ⟨n, hn⟩ : ∃ n, s.length = n := ⟨_, rfl⟩
  rw [hn] at hs hcs ⊢
  have zn : (n : Int) < 4 := by omega
  clear hsv hn
  go_enter Try.func9, Try.ntmps9
  go_wp2_with (refine wpList_box_blk rfl 22 _ rfl (bys I) rfl ?_)
  intro v1 a1 a2 a3
  have A1 := Lib.hid a1
  have A2 := Lib.hid a2
  have A3 := Lib.hid a3
  clear a1 a2 a3
  go_wp2_with (refine wpList_alloc_blk rfl 28 rfl _ z24 ?_)
  intro v2 a1 a2 a3
  rw [A2.out] at a1 a2 a3 ⊢
  obtain ⟨g0, hg0⟩ : ∃ g, w.heap.size = g := ⟨_, rfl⟩
  obtain ⟨g1, hg1⟩ : ∃ g, g0 + 1 = g := ⟨_, rfl⟩
  have X1 : Hid (Blk v2 g0 (bys I) 22) := by rw [← hg0]; exact A1.out.below a3 (by omega)
  have X2 : Hid (Blk v2 g1 z32 28) := by rw [← hg1, ← hg0]; exact a1
  have XB : Hid (Below w.heap.size w v2) := A3.out.trans (a3.mono (by omega))
  have hw0 : w.heap.size ≤ g0 := by omega
  have hg01 : g0 < g1 := by omega
  rw [hg0, hg1]
  clear a1 a2 a3 A1 A2 A3 hg0 hg1
  go_wp2_with (first | (refine wpList_store_blk rfl 28 _ _ rfl g1 z32 z32 28 rfl rfl X2.out s24 rfl (bys_one' _) ?_) | (refine wpList_buildTo rfl 28 _ rfl _ rfl z32.toArray (by kernel_rfl) ?_))
  refine bodyPost_ret (v := .tuple #[.agg z32.toArray, .int .i64 2]) ?_ rfl ?_
  · exact ret_blk2 rfl _ _ g1 28 z32 _ rfl rfl X2.out.setRow 32 5 tu24 s24
  · exact ⟨rfl, below_setRow' XB.out (by omega) _⟩

set_option maxRecDepth 100000 in
set_option maxHeartbeats 2000000 in
theorem refCand_form (I s : List UInt8) (q : Nat) (tv sv : Value) (w : World) (hI : I.length = 16) (hsv : Rd w.heap.size w sv s) (hs4 : 4 ≤ s.length) (hl : s.length ≤ 1000000) (hf : ∀ k, ¬ Fits s k) : Calls Try.prog 9 #[.agg (bys I).toArray, .int .u32 (q : Int), tv, sv] w (TwoD (.agg z32.toArray) (.int .i64 3) w) := by
  obtain ⟨n, hn⟩ : ∃ n, s.length = n := ⟨_, rfl⟩
  have HN := Lib.hid hn
  obtain ⟨aS, cs, rfl, hcs, hms⟩ := hsv.some_ (by omega)
  unfold maxLen at hms
  have HSV := Lib.hid hsv
  have H4 : Hid (Rd w.heap.size w (.slice (some aS) 4 cs) (s.take 4)) := (hsv.take 4 (by omega))
  rw [hn] at hs4 hcs HSV hl ⊢
  have zn : ¬ ((n : Int) < 4) := by omega
  have HI := Lib.hid hI
  have H22 : Hid ((Try.prog.info? 22).map (·.size) = some (bys I).length) := by show _ = _; rw [bys_length, hI]; exact s22
  clear hsv hn hI
  go_enter Try.func9, Try.ntmps9
  go_wp2_with (refine wpList_box_blk rfl 22 _ rfl (bys I) rfl ?_)
  intro v1 a1 a2 a3
  have A1 := Lib.hid a1
  have A2 := Lib.hid a2
  have A3 := Lib.hid a3
  clear a1 a2 a3
  go_wp2_with (refine wpList_alloc_blk rfl 28 rfl _ z24 ?_)
  intro v2 a1 a2 a3
  rw [A2.out] at a1 a2 a3 ⊢
  obtain ⟨g0, hg0⟩ : ∃ g, w.heap.size = g := ⟨_, rfl⟩
  obtain ⟨g1, hg1⟩ : ∃ g, g0 + 1 = g := ⟨_, rfl⟩
  have X1 : Hid (Blk v2 g0 (bys I) 22) := by rw [← hg0]; exact A1.out.below a3 (by omega)
  have X2 : Hid (Blk v2 g1 z32 28) := by rw [← hg1, ← hg0]; exact a1
  have XB : Hid (Below w.heap.size w v2) := A3.out.trans (a3.mono (by omega))
  have hw0 : w.heap.size ≤ g0 := by omega
  have hg01 : g0 < g1 := by omega
  rw [hg0, hg1]
  clear a1 a2 a3 A1 A2 A3 hg0 hg1
  obtain ⟨z0, hz0, hz0l⟩ := zi32
  have HZ0 := Lib.hid hz0
  obtain ⟨W, hW⟩ : ∃ W, wFrom (s.take 4) 1 = W := ⟨_, rfl⟩
  have HW := Lib.hid hW
  have H32 : Hid ((Try.prog.info? 67).map (·.size) = some (kcs I q k0 (W : Int)).length) := by show _ = _; rw [kcs_length I k0 q _ HI.out k0_length]; exact s32
  have HLK : Hid (z0.length = (kcs I q k0 (W : Int)).length) := by show _ = _; rw [kcs_length I k0 q _ HI.out k0_length, hz0l]
  have HS4 : Hid ((s.take 4).length = 4) := by have := HN.out; show _ = _; rw [List.length_take]; omega
  clear hz0 hz0l hW
  go_wp2
  refine wp_region_rely2 7 1 (fun x => ⟨#[Value.agg (bys I).toArray, Value.int IntKind.u32 ↑q, tv, Value.slice (some aS) n cs, Value.pointer (some { block := g0, off := 0 }), undef, undef, undef, Value.pointer (some { block := g1, off := 0 }), Value.int IntKind.i64 0, x 6, undef, undef, undef, undef, undef, undef, undef, undef, undef, undef, Value.slice (some aS) n cs, Value.int IntKind.i64 ↑n, Value.bool (decide ((n : Int) < 4)), undef, x 0, x 1, x 2, x 3, x 4, x 5, undef, undef, undef, undef, undef, undef, undef, undef, undef, undef, undef, undef, undef, undef, undef, undef, undef, undef, undef, undef, undef, undef, undef, undef, undef, undef, undef, undef, undef, undef, undef, undef, undef, undef, undef, undef, undef, undef, undef, undef, undef, undef, undef, undef, undef, undef, undef, undef, undef, undef, undef, undef, undef, undef, undef, undef, undef, undef, undef, undef, undef, undef, undef, undef, undef, undef, undef, undef, undef], []⟩) (fun jj => ([eqV (.agg (bys I).toArray), eqV (.int .u32 (q : Int)), eqV (.slice (some aS) n cs), eqV (.slice (some aS) 4 cs), (eqV (.int .i64 (W : Int))), (eqV (.agg (kcs I q k0 (W : Int)).toArray)), (NewK z0 v2.heap.size)] : List (Value → World → Prop)).getD jj (fun _ _ => True)) rfl ⟨fun kk => [_, _, _, _, _, _, _].getD kk undef, rfl⟩ (by kernel_rfl) (by kernel_rfl) ?steps ?fin
  case steps =>
    refine StepsAt.val 0 (.agg (bys I).toArray) rfl (fun _ _ => rfl) rfl rfl (fun x w9 hb hd => ?_) ?_
    · exact run_load_blk 22 (.tmp 4) rfl g0 rfl (bys I) 22 (X1.out.below hb X1.out.lt) 16 5 tu22 H22.out
    refine StepsAt.val 1 (.int .u32 (q : Int)) rfl (fun _ _ => rfl) rfl rfl (fun x w9 hb hd => ?_) ?_
    · first | (go_simp; done) | (go_simp; rfl)
    refine StepsAt.val 2 (.slice (some aS) n cs) rfl (fun _ _ => rfl) rfl rfl (fun x w9 hb hd => ?_) ?_
    · first | (go_simp; done) | (go_simp; rfl)
    refine StepsAt.val 3 (.slice (some aS) 4 cs) rfl (fun _ _ => rfl) rfl rfl (fun x w9 hb hd => ?_) ?_
    · have h2 : x 2 = .slice (some aS) n cs := hd 2 (by kernel_rfl)
      have zc : ¬ ((cs : Int) < 4) := by omega
      rw [h2]
      first | (go_simp; done) | (go_simp; rfl)
    refine StepsAt.cons 4 (fun _ _ _ h hb => h) (fun _ _ => rfl) rfl rfl (fun x w9 hb hd K hK => ?_) ?_
    · have h3 : Hid (x 3 = .slice (some aS) 4 cs) := hd 3 (by kernel_rfl)
      go_simp
      refine calls_args (args2 := #[.slice (some aS) 4 cs]) (by rw [h3.out]) ?_
      refine (width_any (s.take 4) _ _ (((H4.out.below XB.out).below (hb.mono XB.out.size)).more (Nat.le_trans XB.out.size hb.size)) HS4.out).mono ?_
      rintro e w2 ⟨rfl, hb2⟩
      rw [HW.out]
      exact hK.out _ _ hb2 rfl
    refine StepsAt.cons 5 (fun _ _ _ h hb => h) (fun _ _ => rfl) rfl rfl (fun x w9 hb hd K hK => ?_) ?_
    · have h0 : Hid (x 0 = .agg (bys I).toArray) := hd 0 (by kernel_rfl)
      have h1 : Hid (x 1 = .int .u32 (q : Int)) := hd 1 (by kernel_rfl)
      have h4 : Hid (x 4 = .int .i64 (W : Int)) := hd 4 (by kernel_rfl)
      refine wp_of_list rfl (wpList_buildTo rfl 67 _ rfl (some 30) rfl (kcs I q k0 (W : Int)).toArray (by simp only [Act.eval, List.map_toArray, List.map_cons, List.map_nil, Array.getD_eq_getD_getElem?, List.getElem?_toArray, List.getElem?_cons_zero, List.getElem?_cons_succ, Option.getD_some, h0.out, h1.out, h4.out]; exact built_key3 I q (W : Int) HI.out) ?_)
      exact hK.out _ _ (Below.refl _ _) rfl
    refine StepsAt.cons 6 (fun _ _ _ h hb => NewK.keep h hb) (fun _ _ => rfl) rfl rfl (fun x w9 hb hd K hK => ?_) ?_
    · refine wp_of_list rfl (wpList_alloc_blk rfl 67 rfl _ HZ0.out ?_)
      intro w2 b1 b2 b3
      exact hK.out _ _ b3 ⟨_, rfl, b1, hb.size⟩
    exact StepsAt.done
  case fin =>
    intro x w9 hb hd
    have h5 : x 5 = .agg (kcs I q k0 (W : Int)).toArray := hd 5 (by omega)
    obtain ⟨gK, e6, hg6, hgb⟩ : NewK z0 v2.heap.size (x 6) w9 := hd 6 (by omega)
    refine AnyTill.any (S := fun _ => True) (m := 8) _ _ _ _ ?_
    refine AnyTill.one (i := 7) (by kernel_rfl) rfl (by rfl) (fun K hK => ?_)
    refine wp_store_blk 67 (.tmp 10) (.tmp 30) rfl gK (kcs I q k0 (W : Int)) z0 67 e6 h5 hg6 H32.out HLK.out (kcs_one _ _ _ _) ?_
    refine hK.out _ _ (.inr trivial) ?_
    clear hK K
    refine AnyTill.done (by kernel_rfl) ?_
    refine NoPanic.normal ?_
    simp only [Act.put]
    have hbF : Below v2.heap.size v2 (w9.setRow gK (kcs I q k0 (W : Int)).toArray) := below_setRow' hb hgb _
    have S2 : Hid (Blk (w9.setRow gK (kcs I q k0 (W : Int)).toArray) g1 z32 28) := X2.out.below hbF X2.out.lt
    have SB : Hid (Below w.heap.size w (w9.setRow gK (kcs I q k0 (W : Int)).toArray)) := XB.out.trans (hbF.mono XB.out.size)
    have SK : Hid (Blk (w9.setRow gK (kcs I q k0 (W : Int)).toArray) gK (kcs I q k0 (W : Int)) 67) := hg6.setRow
    generalize w9.setRow gK (kcs I q k0 (W : Int)).toArray = wK at S2 SB SK ⊢
    rw [e6]
    generalize x 0 = p0
    generalize x 1 = p1
    generalize x 2 = p2
    generalize x 3 = p3
    generalize x 4 = p4
    generalize x 5 = p5
    have cw := (SK.out.cell 49).trans (kcs_z I k0 q (W : Int) HI.out k0_length)
    clear hd h5 hbF hb hg6 hgb e6 X1 X2 XB x
    go_wp2_with fail
    clear cw
    rcases wFrom_or (s.take 4) with ⟨hkW, hbe⟩ | h0
    · rw [HW.out] at hkW hbe
      have hne : n ≠ lng W := fun h => hf W ⟨hkW, by rw [← hbe]; exact typ_of W hkW, by rw [HN.out]; exact h⟩
      obtain ⟨L, hL⟩ : ∃ L, lng W = L := ⟨_, rfl⟩
      have HKW := Lib.hid hkW
      have HL := Lib.hid hL
      rw [hL] at hne
      have zne : ¬ ((n : Int) = (L : Int)) := by omega
      have zne2 : ((n : Int) == (L : Int)) = false := by simpa using zne
      clear hkW hbe hL
      refine (refLong_yes W _ HKW.out).mono ?_
      rw [HL.out]
      rintro e w1 ⟨rfl, nd, rfl⟩
      have T2 : Hid (Blk (wK.drewN nd) g1 z32 28) := S2.out
      have TB : Hid (Below w.heap.size w (wK.drewN nd)) := Below.drewN' SB.out
      generalize wK.drewN nd = wL at T2 TB ⊢
      clear S2 SB SK
      go_wp2_with (first | (refine wpList_store_blk rfl 28 _ _ rfl g1 z32 z32 28 rfl rfl T2.out s24 rfl (bys_one' _) ?_) | (refine wpList_buildTo rfl 28 _ rfl _ rfl z32.toArray (by kernel_rfl) ?_))
      refine bodyPost_ret (v := .tuple #[.agg z32.toArray, .int .i64 3]) ?_ rfl ?_
      · exact ret_blk2 rfl _ _ g1 28 z32 _ rfl rfl T2.out.setRow 32 5 tu24 s24
      · exact ⟨rfl, below_setRow' TB.out (by omega) _⟩
    · have hW0 : W = 0 := HW.out.symm.trans h0
      subst hW0
      clear h0
      refine (refLong_no 0 _ noW0).mono ?_
      rintro e w1 ⟨rfl, nd, rfl⟩
      have T2 : Hid (Blk (wK.drewN nd) g1 z32 28) := S2.out
      have TB : Hid (Below w.heap.size w (wK.drewN nd)) := Below.drewN' SB.out
      generalize wK.drewN nd = wL at T2 TB ⊢
      clear S2 SB SK
      go_wp2_with (first | (refine wpList_store_blk rfl 28 _ _ rfl g1 z32 z32 28 rfl rfl T2.out s24 rfl (bys_one' _) ?_) | (refine wpList_buildTo rfl 28 _ rfl _ rfl z32.toArray (by kernel_rfl) ?_))
      refine bodyPost_ret (v := .tuple #[.agg z32.toArray, .int .i64 3]) ?_ rfl ?_
      · exact ret_blk2 rfl _ _ g1 28 z32 _ rfl rfl T2.out.setRow 32 5 tu24 s24
      · exact ⟨rfl, below_setRow' TB.out (by omega) _⟩

end Go.Proofs.Ytnemkefmlffigaa
