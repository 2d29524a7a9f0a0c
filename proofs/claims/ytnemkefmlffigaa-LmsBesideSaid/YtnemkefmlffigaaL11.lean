/-
  Package lms: keyIn, what a public key states, for every bytes.
-/
import Derived.Test.YtnemkefmlffigaaL10
namespace Go.Proofs.Ytnemkefmlffigaa
open Go.RowKit

theorem LFit.uniq {D Y k h k' h' : Nat} (a : LFit D Y k h) (b : LFit D Y k' h') : k = k' ∧ h = h' := by
  obtain ⟨a1, a2, a3, a4⟩ := a
  obtain ⟨b1, b2, b3, b4⟩ := b
  refine ⟨?_, ?_⟩
  · rw [← b4] at a4
    rcases a1 with rfl | rfl | rfl | rfl <;> rcases b1 with rfl | rfl | rfl | rfl <;> first | rfl | (simp [typ] at a4)
  · rw [← b3] at a3
    rcases a2 with rfl | rfl | rfl | rfl | rfl <;> rcases b2 with rfl | rfl | rfl | rfl | rfl <;> first | rfl | (simp [knd] at a3)
theorem shapeWith_yes (D Y k h : Nat) (w : World) (hf : LFit D Y k h) : Calls Try.prog 74 #[.int .u32 (D : Int), .int .u32 (Y : Int)] w (TwoD (.agg (shl k h).toArray) (.int .i64 0) w) := by
  refine (shapeWith_any D Y w).mono ?_
  rintro e w' (⟨k', h', hf', H⟩ | ⟨hn, _⟩)
  · obtain ⟨rfl, rfl⟩ := hf.uniq hf'
    exact H
  · exact absurd hf (hn k h)
theorem shapeWith_no (D Y : Nat) (w : World) (hf : ∀ k h, ¬ LFit D Y k h) : Calls Try.prog 74 #[.int .u32 (D : Int), .int .u32 (Y : Int)] w (TwoD (.agg shl0.toArray) (.int .i64 3) w) := by
  refine (shapeWith_any D Y w).mono ?_
  rintro e w' (⟨k', h', hf', H⟩ | ⟨hn, H⟩)
  · exact absurd hf' (hf k' h')
  · exact H

/-- The cells of a key. -/
def kyl (S : List Value) (I R : List UInt8) : List Value := S ++ (bys I ++ bys R)
theorem kyl_length (S : List Value) (I R : List UInt8) (hS : S.length = 4) (hI : I.length = 16) (hR : R.length = 32) : (kyl S I R).length = 52 := by simp [kyl, bys_length, hS, hI, hR]
def K16 : List UInt8 := List.replicate 16 0
def K32 : List UInt8 := List.replicate 32 0
def kyl0 : List Value := kyl shl0 K16 K32
theorem zi88 : (Try.prog.info? 88).map (·.zero) = some (some (.agg kyl0.toArray)) := by kernel_rfl
theorem s88 : (Try.prog.info? 88).map (·.size) = some 52 := by kernel_rfl
theorem s88' (S : List Value) (I R : List UInt8) (hS : S.length = 4) (hI : I.length = 16) (hR : R.length = 32) : (Try.prog.info? 88).map (·.size) = some (kyl S I R).length := by rw [kyl_length S I R hS hI hR]; exact s88
theorem row88 : ∃ d, Try.prog.underlying 88 = some d ∧ d.isRow = true := row_of (by kernel_rfl)
theorem kyl_one (S : List Value) (I R : List UInt8) (hS : S.toArray.all (·.oneCell') = true) : (kyl S I R).toArray.all (·.oneCell') = true := by
  rw [Array.all_eq_true_iff_forall_mem] at hS ⊢
  intro v hv
  simp only [kyl, List.mem_toArray, List.mem_append] at hv
  rcases hv with h | h | h
  · exact hS v (by simpa using h)
  · exact bys_one _ _ h
  · exact bys_one _ _ h
theorem kyl0_one : kyl0.toArray.all (·.oneCell') = true := kyl_one _ _ _ shl0_one
theorem kyl0_len : kyl0.length = 52 := kyl_length _ _ _ rfl rfl rfl
theorem s88z : (Try.prog.info? 88).map (·.size) = some kyl0.length := by rw [kyl0_len]; exact s88

set_option maxRecDepth 100000 in
set_option maxHeartbeats 400000 in
theorem keyIn_len (v : Value) (p : List UInt8) (w : World) (hr : Rd w.heap.size w v p) (hl : p.length ≠ 56) : Calls Try.prog 44 #[v] w (TwoD (.agg kyl0.toArray) (.int .i64 3) w) := by
  obtain ⟨A, c, rfl, hc, hm⟩ := hr.shape
  unfold maxLen at hm
  obtain ⟨n, hn⟩ : ∃ n, p.length = n := ⟨_, rfl⟩
  rw [hn] at hl hc ⊢
  have z : ((n : Int) != 56) = true := by simp; omega
  obtain ⟨d88, hu88, hd88⟩ := row88
  have HU := Lib.hid hu88
  have HD := Lib.hid hd88
  clear hr hn hu88 hd88
  go_enter Try.func44, Try.ntmps44
  go_wp2_with (refine wpList_alloc_blk rfl 88 rfl _ zi88 ?_)
  intro w1 a1 a2 a3
  obtain ⟨g2, hg2⟩ : ∃ g, w.heap.size = g := ⟨_, rfl⟩
  rw [hg2] at a1 a2 a3 ⊢
  have A1 := Lib.hid a1
  have A2 := Lib.hid a2
  have A3 : Hid (Below w.heap.size w w1) := by rw [hg2]; exact a3
  have hw2 : w.heap.size ≤ g2 := by omega
  clear a1 a2 a3 hg2
  go_wp2
  refine wp_scope_goto 0 rfl ?_
  go_wp2_with (refine wpList_alloc_blk rfl 88 rfl _ zi88 ?_)
  intro w2 a1 a2 a3
  have hs1 := A2.out
  have G2 : Hid (Blk w2 g2 kyl0 88) := A1.out.below a3 (by omega)
  have GB : Hid (Below w.heap.size w w2) := A3.out.trans (a3.mono (by omega))
  clear a1 a2 a3 A1 A2 A3 hs1
  go_wp2
  refine wp_goto ⟨rfl, ?_⟩
  go_wp2_with (first | (refine wpList_buildTo rfl 88 _ rfl (some 32) rfl kyl0.toArray (by kernel_rfl) ?_) | (refine wpList_store_blk rfl 88 _ _ rfl g2 kyl0 kyl0 88 rfl rfl G2.out s88z rfl kyl0_one ?_))
  rw [Exit.noGoto_ret]
  refine bodyPost_ret (v := .tuple #[.agg kyl0.toArray, .int .i64 3]) ?_ rfl ?_
  · exact ret_blk2U rfl _ _ g2 88 kyl0 _ rfl rfl G2.out.setRow d88 HU.out HD.out s88z
  · exact ⟨rfl, below_setRow' GB.out hw2 _⟩

theorem kyl_shape (S S' : List Value) (I R : List UInt8) (hS : S.length = 4) (hS' : S'.length = 4) : (kyl S I R).take 0 ++ (S' ++ (kyl S I R).drop (0 + S'.length)) = kyl S' I R := by
  unfold kyl
  rw [List.take_zero, List.nil_append, hS', Nat.zero_add, List.drop_append, List.drop_of_length_le (by omega), hS, List.nil_append]
  rfl
theorem kyl_name (S : List Value) (I I' R : List UInt8) (hS : S.length = 4) (hI : I.length = 16) (hI' : I'.length = 16) : (kyl S I R).take 4 ++ (bys I' ++ (kyl S I R).drop (4 + I'.length)) = kyl S I' R := by
  unfold kyl
  rw [List.take_append_of_le_length (by omega), List.take_of_length_le (by omega), hI', List.drop_append, List.drop_of_length_le (by omega), hS, List.nil_append, show 4 + 16 - 4 = 16 from rfl, List.drop_append, List.drop_of_length_le (by rw [bys_length]; omega), bys_length, hI, List.nil_append]
  rfl
theorem kyl_root (S : List Value) (I R R' : List UInt8) (hS : S.length = 4) (hI : I.length = 16) (hR : R.length = 32) (hR' : R'.length = 32) : (kyl S I R).take 20 ++ (bys R' ++ (kyl S I R).drop (20 + R'.length)) = kyl S I R' := by
  unfold kyl
  rw [List.take_append, List.take_of_length_le (by omega), hS, show 20 - 4 = 16 from rfl, List.take_append_of_le_length (by rw [bys_length]; omega), List.take_of_length_le (by rw [bys_length]; omega), List.drop_of_length_le (by simp [bys_length]; omega), List.append_nil, List.append_assoc]

set_option maxRecDepth 100000 in
set_option maxHeartbeats 2000000 in
theorem keyIn_no (v : Value) (p : List UInt8) (w : World) (hr : Rd w.heap.size w v p) (hl : p.length = 56) (hf : ∀ k h, ¬ LFit (wd p 0) (wd (p.drop 4) 0) k h) : Calls Try.prog 44 #[v] w (TwoD (.agg kyl0.toArray) (.int .i64 3) w) := by
  have HR := Lib.hid hr
  have HPL := Lib.hid hl
  obtain ⟨a, c, hv, hc, hm⟩ := hr.some_ (by omega)
  subst hv
  unfold maxLen at hm
  rw [hl] at hc HR ⊢
  obtain ⟨D, hD⟩ : ∃ D, wd p 0 = D := ⟨_, rfl⟩
  obtain ⟨Y, hY⟩ : ∃ Y, wd (p.drop 4) 0 = Y := ⟨_, rfl⟩
  rw [hD, hY] at hf
  have HDE := Lib.hid hD
  have HYE := Lib.hid hY
  have HF := Lib.hid hf
  obtain ⟨d88, hu88, hd88⟩ := row88
  have HU := Lib.hid hu88
  have HD := Lib.hid hd88
  have HDR : Hid (Rd w.heap.size w (.slice (some (a.add 4)) (56 - 4) (c - 4)) (p.drop 4)) := by
    have h := HR.out.drop 4 (by omega)
    rw [if_neg (by omega)] at h
    exact h
  clear hr hl hD hY hf hu88 hd88
  go_enter Try.func44, Try.ntmps44
  go_wp2_with (refine wpList_alloc_blk rfl 88 rfl _ zi88 ?_)
  intro w1 a1 a2 a3
  obtain ⟨g2, hg2⟩ : ∃ g, w.heap.size = g := ⟨_, rfl⟩
  rw [hg2] at a1 a2 a3 ⊢
  have A1 := Lib.hid a1
  have A2 := Lib.hid a2
  have A3 : Hid (Below w.heap.size w w1) := by rw [hg2]; exact a3
  have hw2 : w.heap.size ≤ g2 := by omega
  clear a1 a2 a3 hg2
  go_wp2
  refine wp_scope_goto 0 rfl ?_
  go_wp2_with (refine wpList_alloc_blk rfl 88 rfl _ zi88 ?_)
  intro w2 a1 a2 a3
  have hs1 := A2.out
  obtain ⟨g4, hg4⟩ : ∃ g, w1.heap.size = g := ⟨_, rfl⟩
  rw [hg4] at a1 a2 a3 hs1 ⊢
  have G2 : Hid (Blk w2 g2 kyl0 88) := A1.out.below a3 (by omega)
  have G4 : Hid (Blk w2 g4 kyl0 88) := a1
  have GB : Hid (Below w.heap.size w w2) := A3.out.trans (a3.mono (by have := A3.out.size; omega))
  have hg24 : g2 < g4 := by omega
  clear a1 a2 a3 A1 A2 A3 hs1 hg4
  go_wp2
  refine wp_region_rely3 7 5 (fun x => ⟨#[.slice (some a) 56 c, undef, .pointer (some ⟨g2, 0, none⟩), .int .i64 0, .pointer (some ⟨g4, 0, none⟩), .int .i64 3, .slice (some a) 56 c, .int .i64 56, .bool false, x 6, x 0, x 1, x 2, x 3, x 4, x 5, undef, undef, undef, undef, undef, undef, undef, undef, undef, undef, undef, undef, undef, undef, undef, undef, undef, undef], []⟩) (fun jj => ([eqV (.slice (some a) 56 c), (eqV (.int .u32 (D : Int))), eqV (.slice (some a) 56 c), eqV (.slice (some (a.add 4)) 52 (c - 4)), (eqV (.int .u32 (Y : Int))), (eqV (.tuple #[.agg (shl0).toArray, .int .i64 3])), eqV (.tuple #[.agg (shl0).toArray, .int .i64 3])] : List (Value → World → Prop)).getD jj (fun _ _ => True)) rfl ⟨fun kk => [_, _, _, _, _, _, _].getD kk undef, rfl⟩ (by kernel_rfl) (by kernel_rfl) ?steps ?fin
  case steps =>
    refine StepsAt.val 0 (.slice (some a) 56 c) rfl (fun _ _ => rfl) rfl rfl (fun x w9 hb hd => ?_) ?_
    · first | (go_simp; done) | (go_simp; rfl)
    refine StepsAt.cons 1 (fun _ _ _ h hb => h) (fun _ _ => rfl) rfl rfl (fun x w9 hb hd K hK => ?_) ?_
    · have h0 : Hid (x 0 = .slice (some a) 56 c) := hd 0 (by kernel_rfl)
      go_simp
      refine calls_args (args2 := #[.slice (some a) 56 c]) (by rw [h0.out]) ?_
      refine (numberL_any w.heap.size _ p _ ((HR.out.below GB.out).below (hb.mono GB.out.size)) (by rw [HPL.out]; omega)).mono ?_
      rintro e w5 ⟨rfl, nd, rfl⟩
      rw [HDE.out]
      exact hK.out _ _ (below_drewN (Below.refl _ _) _) rfl
    refine StepsAt.val 2 (.slice (some a) 56 c) rfl (fun _ _ => rfl) rfl rfl (fun x w9 hb hd => ?_) ?_
    · first | (go_simp; done) | (go_simp; rfl)
    refine StepsAt.val 3 (.slice (some (a.add 4)) 52 (c - 4)) rfl (fun _ _ => rfl) rfl rfl (fun x w9 hb hd => ?_) ?_
    · have h2 : x 2 = .slice (some a) 56 c := hd 2 (by kernel_rfl)
      rw [h2]
      have hs := run_sliceFromS a 56 c 4 w9 (by omega) hc
      first | (go_simp; done) | (go_simp; rfl) | (go_simp; intro h0; omega)
    refine StepsAt.cons 4 (fun _ _ _ h hb => h) (fun _ _ => rfl) rfl rfl (fun x w9 hb hd K hK => ?_) ?_
    · have h3 : Hid (x 3 = .slice (some (a.add 4)) 52 (c - 4)) := hd 3 (by kernel_rfl)
      go_simp
      refine calls_args (args2 := #[.slice (some (a.add 4)) 52 (c - 4)]) (by rw [h3.out]) ?_
      refine (numberL_any w.heap.size _ (p.drop 4) _ ((HDR.out.below GB.out).below (hb.mono GB.out.size)) (by rw [List.length_drop, HPL.out]; omega)).mono ?_
      rintro e w5 ⟨rfl, nd, rfl⟩
      rw [HYE.out]
      exact hK.out _ _ (below_drewN (Below.refl _ _) _) rfl
    refine StepsAt.cons 5 (fun _ _ _ h hb => h) (fun _ _ => rfl) rfl rfl (fun x w9 hb hd K hK => ?_) ?_
    · have h1 : Hid (x 1 = .int .u32 (D : Int)) := hd 1 (by kernel_rfl)
      have h4 : Hid (x 4 = .int .u32 (Y : Int)) := hd 4 (by kernel_rfl)
      go_simp
      refine calls_args (args2 := #[.int .u32 (D : Int), .int .u32 (Y : Int)]) (by rw [h1.out, h4.out]) ?_
      refine (shapeWith_no D Y _ HF.out).mono ?_
      rintro e w5 ⟨rfl, hb2⟩
      exact hK.out _ _ hb2 rfl
    refine StepsAt.val 6 (.tuple #[.agg (shl0).toArray, .int .i64 3]) rfl (fun _ _ => rfl) rfl rfl (fun x w9 hb hd => ?_) ?_
    · have h5 : x 5 = .tuple #[.agg (shl0).toArray, .int .i64 3] := hd 5 (by kernel_rfl)
      rw [h5]
      first | (go_simp; done) | (go_simp; rfl)
    exact StepsAt.done
  case fin =>
    intro x w9 hb hd
    have h6 : x 6 = .tuple #[.agg (shl0).toArray, .int .i64 3] := hd 6 (by omega)
    have hB4 := G4.out.below hb G4.out.lt
    refine AnyTill.any (S := fun _ => True) (m := 12) _ _ _ _ ?_
    dsimp only
    rw [h6]
    refine AnyTill.free (i := 7) (v := .agg (shl0).toArray) rfl (by kernel_rfl) (by kernel_rfl) (by kernel_rfl) (by kernel_rfl) (fun _ _ _ h => h) (by rfl) (fun w' => ?_) trivial ?_
    · first | (go_simp; done) | (go_simp; rfl)
    simp only [Act.put, List.setIfInBounds_toArray, List.set_cons_zero, List.set_cons_succ]
    refine AnyTill.free (i := 8) (v := .int .i64 3) rfl (by kernel_rfl) (by kernel_rfl) (by kernel_rfl) (by kernel_rfl) (fun _ _ _ h => h) (by rfl) (fun w' => ?_) trivial ?_
    · first | (go_simp; done) | (go_simp; rfl)
    simp only [Act.put, List.setIfInBounds_toArray, List.set_cons_zero, List.set_cons_succ]
    refine AnyTill.free (i := 9) (v := .pointer (some ⟨g4, 0, none⟩)) rfl (by kernel_rfl) (by kernel_rfl) (by kernel_rfl) (by kernel_rfl) (fun _ _ _ h => h) (by rfl) (fun w' => ?_) trivial ?_
    · first | (go_simp; done) | (go_simp; rfl)
    simp only [Act.put, List.setIfInBounds_toArray, List.set_cons_zero, List.set_cons_succ]
    refine AnyTill.one (i := 10) (by kernel_rfl) rfl (by rfl) (fun K hK => ?_)
    refine wp_store_mid 74 (.tmp 18) (.tmp 16) rfl g4 0 (shl0).toArray rfl rfl (hB4.there 4 (by rw [kyl0_len]; omega)) s74 (shl0_one) ?_
    refine hK.out _ _ (.inr trivial) ?_
    clear hK K
    refine AnyTill.one (i := 11) (by kernel_rfl) rfl (by rfl) (fun K hK => ?_)
    refine hK.out _ _ (.inr trivial) ?_
    clear hK K
    refine AnyTill.done (by kernel_rfl) ?_
    refine NoPanic.normal ?_
    simp only [Act.put, Act.eval, List.setIfInBounds_toArray, List.set_cons_zero, List.set_cons_succ, Array.getD_eq_getD_getElem?, List.getElem?_toArray, List.getElem?_cons_zero, List.getElem?_cons_succ, Option.getD_some]
    obtain ⟨w6, hw6⟩ : ∃ t, w9.setCells g4 0 (shl0).toArray.toList = t := ⟨_, rfl⟩
    have hBut : But g4 w9 w6 := by rw [← hw6]; exact (But.refl _ _).setCells _ _
    have M4 : Hid (Blk w6 g4 (kyl (shl0) K16 K32) 88) := by
      have hq := Blk.setCells (shl0).toArray.toList 0 hB4 (by rw [kyl0_len]; show 0 + 4 ≤ 52; omega)
      rw [hw6] at hq
      have e := kyl_shape shl0 (shl0) K16 K32 rfl rfl
      rw [← e]
      exact hq
    have M2 : Hid (Blk w6 g2 kyl0 88) := hBut.blk (G2.out.below hb G2.out.lt) (by omega)
    have hs9 : w.heap.size ≤ w9.heap.size := Nat.le_trans GB.out.size hb.size
    have MB : Hid (Below w.heap.size w w6) := (GB.out.trans (hb.mono GB.out.size)).trans (hBut.below (by omega) hs9)
    rw [hw6]
    generalize x 0 = y0
    generalize x 1 = y1
    generalize x 2 = y2
    generalize x 3 = y3
    generalize x 4 = y4
    generalize x 5 = y5
    clear hd h6 hb hB4 hBut hs9 hw6 G2 G4 GB x
    go_wp2
    refine wp_goto ⟨rfl, ?_⟩
    go_wp2_with (first | (refine wpList_buildTo rfl 88 _ rfl (some 32) rfl kyl0.toArray (by kernel_rfl) ?_) | (refine wpList_store_blk rfl 88 _ _ rfl g2 kyl0 kyl0 88 rfl rfl M2.out s88z rfl kyl0_one ?_))
    rw [Exit.noGoto_ret]
    refine bodyPost_ret (v := .tuple #[.agg kyl0.toArray, .int .i64 3]) ?_ rfl ?_
    · exact ret_blk2U rfl _ _ g2 88 kyl0 _ rfl rfl M2.out.setRow d88 HU.out HD.out s88z
    · exact ⟨rfl, below_setRow' MB.out hw2 _⟩

set_option maxRecDepth 100000 in
set_option maxHeartbeats 2000000 in
theorem keyIn_yes (v : Value) (p : List UInt8) (k h : Nat) (w : World) (hr : Rd w.heap.size w v p) (hl : p.length = 56) (hf : LFit (wd p 0) (wd (p.drop 4) 0) k h) : Calls Try.prog 44 #[v] w (TwoD (.agg (kyl (shl k h) ((p.drop 8).take 16) (p.drop 24)).toArray) (.int .i64 0) w) := by
  have HR := Lib.hid hr
  have HPL := Lib.hid hl
  obtain ⟨a, c, hv, hc, hm⟩ := hr.some_ (by omega)
  subst hv
  unfold maxLen at hm
  rw [hl] at hc HR ⊢
  obtain ⟨D, hD⟩ : ∃ D, wd p 0 = D := ⟨_, rfl⟩
  obtain ⟨Y, hY⟩ : ∃ Y, wd (p.drop 4) 0 = Y := ⟨_, rfl⟩
  rw [hD, hY] at hf
  have HDE := Lib.hid hD
  have HYE := Lib.hid hY
  have HF := Lib.hid hf
  obtain ⟨N, hN⟩ : ∃ N, (p.drop 8).take 16 = N := ⟨_, rfl⟩
  have hNl : N.length = 16 := by rw [← hN, List.length_take, List.length_drop, HPL.out]; omega
  obtain ⟨Z, hZ⟩ : ∃ Z, p.drop 24 = Z := ⟨_, rfl⟩
  have hZl : Z.length = 32 := by rw [← hZ, List.length_drop, HPL.out]
  have HNE := Lib.hid hN
  have HNL := Lib.hid hNl
  have HZE := Lib.hid hZ
  have HZL := Lib.hid hZl
  rw [hN, hZ]
  clear hN hNl hZ hZl
  obtain ⟨d88, hu88, hd88⟩ := row88
  have HU := Lib.hid hu88
  have HD := Lib.hid hd88
  have HDR : Hid (Rd w.heap.size w (.slice (some (a.add 4)) (56 - 4) (c - 4)) (p.drop 4)) := by
    have h := HR.out.drop 4 (by omega)
    rw [if_neg (by omega)] at h
    exact h
  clear hr hl hD hY hf hu88 hd88
  go_enter Try.func44, Try.ntmps44
  go_wp2_with (refine wpList_alloc_blk rfl 88 rfl _ zi88 ?_)
  intro w1 a1 a2 a3
  obtain ⟨g2, hg2⟩ : ∃ g, w.heap.size = g := ⟨_, rfl⟩
  rw [hg2] at a1 a2 a3 ⊢
  have A1 := Lib.hid a1
  have A2 := Lib.hid a2
  have A3 : Hid (Below w.heap.size w w1) := by rw [hg2]; exact a3
  have hw2 : w.heap.size ≤ g2 := by omega
  clear a1 a2 a3 hg2
  go_wp2
  refine wp_scope_goto 0 rfl ?_
  go_wp2_with (refine wpList_alloc_blk rfl 88 rfl _ zi88 ?_)
  intro w2 a1 a2 a3
  have hs1 := A2.out
  obtain ⟨g4, hg4⟩ : ∃ g, w1.heap.size = g := ⟨_, rfl⟩
  rw [hg4] at a1 a2 a3 hs1 ⊢
  have G2 : Hid (Blk w2 g2 kyl0 88) := A1.out.below a3 (by omega)
  have G4 : Hid (Blk w2 g4 kyl0 88) := a1
  have GB : Hid (Below w.heap.size w w2) := A3.out.trans (a3.mono (by have := A3.out.size; omega))
  have hg24 : g2 < g4 := by omega
  clear a1 a2 a3 A1 A2 A3 hs1 hg4
  go_wp2
  refine wp_region_rely3 7 5 (fun x => ⟨#[.slice (some a) 56 c, undef, .pointer (some ⟨g2, 0, none⟩), .int .i64 0, .pointer (some ⟨g4, 0, none⟩), .int .i64 3, .slice (some a) 56 c, .int .i64 56, .bool false, x 6, x 0, x 1, x 2, x 3, x 4, x 5, undef, undef, undef, undef, undef, undef, undef, undef, undef, undef, undef, undef, undef, undef, undef, undef, undef, undef], []⟩) (fun jj => ([eqV (.slice (some a) 56 c), (eqV (.int .u32 (D : Int))), eqV (.slice (some a) 56 c), eqV (.slice (some (a.add 4)) 52 (c - 4)), (eqV (.int .u32 (Y : Int))), (eqV (.tuple #[.agg (shl k h).toArray, .int .i64 0])), eqV (.tuple #[.agg (shl k h).toArray, .int .i64 0])] : List (Value → World → Prop)).getD jj (fun _ _ => True)) rfl ⟨fun kk => [_, _, _, _, _, _, _].getD kk undef, rfl⟩ (by kernel_rfl) (by kernel_rfl) ?steps ?fin
  case steps =>
    refine StepsAt.val 0 (.slice (some a) 56 c) rfl (fun _ _ => rfl) rfl rfl (fun x w9 hb hd => ?_) ?_
    · first | (go_simp; done) | (go_simp; rfl)
    refine StepsAt.cons 1 (fun _ _ _ h hb => h) (fun _ _ => rfl) rfl rfl (fun x w9 hb hd K hK => ?_) ?_
    · have h0 : Hid (x 0 = .slice (some a) 56 c) := hd 0 (by kernel_rfl)
      go_simp
      refine calls_args (args2 := #[.slice (some a) 56 c]) (by rw [h0.out]) ?_
      refine (numberL_any w.heap.size _ p _ ((HR.out.below GB.out).below (hb.mono GB.out.size)) (by rw [HPL.out]; omega)).mono ?_
      rintro e w5 ⟨rfl, nd, rfl⟩
      rw [HDE.out]
      exact hK.out _ _ (below_drewN (Below.refl _ _) _) rfl
    refine StepsAt.val 2 (.slice (some a) 56 c) rfl (fun _ _ => rfl) rfl rfl (fun x w9 hb hd => ?_) ?_
    · first | (go_simp; done) | (go_simp; rfl)
    refine StepsAt.val 3 (.slice (some (a.add 4)) 52 (c - 4)) rfl (fun _ _ => rfl) rfl rfl (fun x w9 hb hd => ?_) ?_
    · have h2 : x 2 = .slice (some a) 56 c := hd 2 (by kernel_rfl)
      rw [h2]
      have hs := run_sliceFromS a 56 c 4 w9 (by omega) hc
      first | (go_simp; done) | (go_simp; rfl) | (go_simp; intro h0; omega)
    refine StepsAt.cons 4 (fun _ _ _ h hb => h) (fun _ _ => rfl) rfl rfl (fun x w9 hb hd K hK => ?_) ?_
    · have h3 : Hid (x 3 = .slice (some (a.add 4)) 52 (c - 4)) := hd 3 (by kernel_rfl)
      go_simp
      refine calls_args (args2 := #[.slice (some (a.add 4)) 52 (c - 4)]) (by rw [h3.out]) ?_
      refine (numberL_any w.heap.size _ (p.drop 4) _ ((HDR.out.below GB.out).below (hb.mono GB.out.size)) (by rw [List.length_drop, HPL.out]; omega)).mono ?_
      rintro e w5 ⟨rfl, nd, rfl⟩
      rw [HYE.out]
      exact hK.out _ _ (below_drewN (Below.refl _ _) _) rfl
    refine StepsAt.cons 5 (fun _ _ _ h hb => h) (fun _ _ => rfl) rfl rfl (fun x w9 hb hd K hK => ?_) ?_
    · have h1 : Hid (x 1 = .int .u32 (D : Int)) := hd 1 (by kernel_rfl)
      have h4 : Hid (x 4 = .int .u32 (Y : Int)) := hd 4 (by kernel_rfl)
      go_simp
      refine calls_args (args2 := #[.int .u32 (D : Int), .int .u32 (Y : Int)]) (by rw [h1.out, h4.out]) ?_
      refine (shapeWith_yes D Y k h _ HF.out).mono ?_
      rintro e w5 ⟨rfl, hb2⟩
      exact hK.out _ _ hb2 rfl
    refine StepsAt.val 6 (.tuple #[.agg (shl k h).toArray, .int .i64 0]) rfl (fun _ _ => rfl) rfl rfl (fun x w9 hb hd => ?_) ?_
    · have h5 : x 5 = .tuple #[.agg (shl k h).toArray, .int .i64 0] := hd 5 (by kernel_rfl)
      rw [h5]
      first | (go_simp; done) | (go_simp; rfl)
    exact StepsAt.done
  case fin =>
    intro x w9 hb hd
    have h6 : x 6 = .tuple #[.agg (shl k h).toArray, .int .i64 0] := hd 6 (by omega)
    have hB4 := G4.out.below hb G4.out.lt
    refine AnyTill.any (S := fun _ => True) (m := 12) _ _ _ _ ?_
    dsimp only
    rw [h6]
    refine AnyTill.free (i := 7) (v := .agg (shl k h).toArray) rfl (by kernel_rfl) (by kernel_rfl) (by kernel_rfl) (by kernel_rfl) (fun _ _ _ h => h) (by rfl) (fun w' => ?_) trivial ?_
    · first | (go_simp; done) | (go_simp; rfl)
    simp only [Act.put, List.setIfInBounds_toArray, List.set_cons_zero, List.set_cons_succ]
    refine AnyTill.free (i := 8) (v := .int .i64 0) rfl (by kernel_rfl) (by kernel_rfl) (by kernel_rfl) (by kernel_rfl) (fun _ _ _ h => h) (by rfl) (fun w' => ?_) trivial ?_
    · first | (go_simp; done) | (go_simp; rfl)
    simp only [Act.put, List.setIfInBounds_toArray, List.set_cons_zero, List.set_cons_succ]
    refine AnyTill.free (i := 9) (v := .pointer (some ⟨g4, 0, none⟩)) rfl (by kernel_rfl) (by kernel_rfl) (by kernel_rfl) (by kernel_rfl) (fun _ _ _ h => h) (by rfl) (fun w' => ?_) trivial ?_
    · first | (go_simp; done) | (go_simp; rfl)
    simp only [Act.put, List.setIfInBounds_toArray, List.set_cons_zero, List.set_cons_succ]
    refine AnyTill.one (i := 10) (by kernel_rfl) rfl (by rfl) (fun K hK => ?_)
    refine wp_store_mid 74 (.tmp 18) (.tmp 16) rfl g4 0 (shl k h).toArray rfl rfl (hB4.there 4 (by rw [kyl0_len]; omega)) s74 (shl_one k h) ?_
    refine hK.out _ _ (.inr trivial) ?_
    clear hK K
    refine AnyTill.one (i := 11) (by kernel_rfl) rfl (by rfl) (fun K hK => ?_)
    refine hK.out _ _ (.inr trivial) ?_
    clear hK K
    refine AnyTill.done (by kernel_rfl) ?_
    refine NoPanic.normal ?_
    simp only [Act.put, Act.eval, List.setIfInBounds_toArray, List.set_cons_zero, List.set_cons_succ, Array.getD_eq_getD_getElem?, List.getElem?_toArray, List.getElem?_cons_zero, List.getElem?_cons_succ, Option.getD_some]
    obtain ⟨w6, hw6⟩ : ∃ t, w9.setCells g4 0 (shl k h).toArray.toList = t := ⟨_, rfl⟩
    have hBut : But g4 w9 w6 := by rw [← hw6]; exact (But.refl _ _).setCells _ _
    have M4 : Hid (Blk w6 g4 (kyl (shl k h) K16 K32) 88) := by
      have hq := Blk.setCells (shl k h).toArray.toList 0 hB4 (by rw [kyl0_len]; show 0 + 4 ≤ 52; omega)
      rw [hw6] at hq
      have e := kyl_shape shl0 (shl k h) K16 K32 rfl rfl
      rw [← e]
      exact hq
    have M2 : Hid (Blk w6 g2 kyl0 88) := hBut.blk (G2.out.below hb G2.out.lt) (by omega)
    have hs9 : w.heap.size ≤ w9.heap.size := Nat.le_trans GB.out.size hb.size
    have MB : Hid (Below w.heap.size w w6) := (GB.out.trans (hb.mono GB.out.size)).trans (hBut.below (by omega) hs9)
    rw [hw6]
    generalize x 0 = y0
    generalize x 1 = y1
    generalize x 2 = y2
    generalize x 3 = y3
    generalize x 4 = y4
    generalize x 5 = y5
    clear hd h6 hb hB4 hBut hs9 hw6 G2 G4 GB x
    go_wp2
    refine wp_region_till 5 4 (fun _ => True) (by kernel_rfl) rfl ?_
    refine AnyTill.free (i := 0) (v := .pointer (some ⟨g4, 4, none⟩)) rfl (by kernel_rfl) (by kernel_rfl) (by kernel_rfl) (by kernel_rfl) (fun _ _ _ h => h) (by rfl) (fun w' => ?_) trivial ?_
    · first | (go_simp; done) | (go_simp; rfl)
    simp only [Act.put, List.setIfInBounds_toArray, List.set_cons_zero, List.set_cons_succ]
    refine AnyTill.free (i := 1) (v := .slice (some ⟨g4, 4, none⟩) 16 16) rfl (by kernel_rfl) (by kernel_rfl) (by kernel_rfl) (by kernel_rfl) (fun _ _ _ h => h) (by rfl) (fun w' => ?_) trivial ?_
    · first | (go_simp; done) | (go_simp; rfl)
    simp only [Act.put, List.setIfInBounds_toArray, List.set_cons_zero, List.set_cons_succ]
    refine AnyTill.free (i := 2) (v := .slice (some a) 56 c) rfl (by kernel_rfl) (by kernel_rfl) (by kernel_rfl) (by kernel_rfl) (fun _ _ _ h => h) (by rfl) (fun w' => ?_) trivial ?_
    · first | (go_simp; done) | (go_simp; rfl)
    simp only [Act.put, List.setIfInBounds_toArray, List.set_cons_zero, List.set_cons_succ]
    refine AnyTill.free (i := 3) (v := .slice (some (a.add 8)) 48 (c - 8)) rfl (by kernel_rfl) (by kernel_rfl) (by kernel_rfl) (by kernel_rfl) (fun _ _ _ h => h) (by rfl) (fun w' => ?_) trivial ?_
    · have hs := run_sliceFromS a 56 c 8 w' (by omega) hc; first | (go_simp; done) | (go_simp; rfl) | (go_simp; intro h0; omega)
    simp only [Act.put, List.setIfInBounds_toArray, List.set_cons_zero, List.set_cons_succ]
    refine AnyTill.one (i := 4) (by kernel_rfl) rfl (by rfl) (fun K hK => ?_)
    have hrd : Rd w.heap.size w (.slice (some (a.add 8)) 48 (c - 8)) (p.drop 8) := by
      have h := HR.out.drop 8 (by omega)
      rw [if_neg (by omega)] at h
      exact h
    refine wp_of_list rfl (wpList_copy_to rfl _ _ 24 rfl 5 Try.underlying24 s5 g4 4 16 16 _ rfl rfl (kyl (shl k h) K16 K32) 88 M4.out.drew w.heap.size (p.drop 8) (hrd.below MB.out.drew) (by rw [kyl_length _ _ _ rfl rfl rfl]; omega) 16 (by rw [HNE.out]; exact HNL.out) (kyl (shl k h) N K32) ?_ ?_)
    · rw [HNE.out]
      exact kyl_name (shl k h) K16 N K32 rfl rfl HNL.out
    intro w7 h7 hb7
    refine hK.out _ _ (.inl (by kernel_rfl)) ?_
    clear hK K
    refine AnyTill.done (by kernel_rfl) ?_
    refine NoPanic.normal ?_
    simp only [Act.put, List.setIfInBounds_toArray, List.set_cons_zero, List.set_cons_succ]
    have N4 := Lib.hid h7
    have N2 : Hid (Blk w7 g2 kyl0 88) := hb7.blk M2.out.drew (by omega)
    have NB : Hid (Below w.heap.size w w7) := MB.out.trans (((Below.refl _ _).drew).trans (hb7.below (by omega) (by simpa using MB.out.size)))
    clear h7 hb7 hrd M2 M4 MB
    go_wp2
    refine wp_region_till 5 4 (fun _ => True) (by kernel_rfl) rfl ?_
    refine AnyTill.free (i := 0) (v := .pointer (some ⟨g4, 20, none⟩)) rfl (by kernel_rfl) (by kernel_rfl) (by kernel_rfl) (by kernel_rfl) (fun _ _ _ h => h) (by rfl) (fun w' => ?_) trivial ?_
    · first | (go_simp; done) | (go_simp; rfl)
    simp only [Act.put, List.setIfInBounds_toArray, List.set_cons_zero, List.set_cons_succ]
    refine AnyTill.free (i := 1) (v := .slice (some ⟨g4, 20, none⟩) 32 32) rfl (by kernel_rfl) (by kernel_rfl) (by kernel_rfl) (by kernel_rfl) (fun _ _ _ h => h) (by rfl) (fun w' => ?_) trivial ?_
    · first | (go_simp; done) | (go_simp; rfl)
    simp only [Act.put, List.setIfInBounds_toArray, List.set_cons_zero, List.set_cons_succ]
    refine AnyTill.free (i := 2) (v := .slice (some a) 56 c) rfl (by kernel_rfl) (by kernel_rfl) (by kernel_rfl) (by kernel_rfl) (fun _ _ _ h => h) (by rfl) (fun w' => ?_) trivial ?_
    · first | (go_simp; done) | (go_simp; rfl)
    simp only [Act.put, List.setIfInBounds_toArray, List.set_cons_zero, List.set_cons_succ]
    refine AnyTill.free (i := 3) (v := .slice (some (a.add 24)) 32 (c - 24)) rfl (by kernel_rfl) (by kernel_rfl) (by kernel_rfl) (by kernel_rfl) (fun _ _ _ h => h) (by rfl) (fun w' => ?_) trivial ?_
    · have hs := run_sliceFromS a 56 c 24 w' (by omega) hc; first | (go_simp; done) | (go_simp; rfl) | (go_simp; intro h0; omega)
    simp only [Act.put, List.setIfInBounds_toArray, List.set_cons_zero, List.set_cons_succ]
    refine AnyTill.one (i := 4) (by kernel_rfl) rfl (by rfl) (fun K hK => ?_)
    have hrd : Rd w.heap.size w (.slice (some (a.add 24)) 32 (c - 24)) Z := by
      have h := HR.out.drop 24 (by omega)
      rw [if_neg (by omega), HZE.out] at h
      exact h
    refine wp_of_list rfl (wpList_copy_to rfl _ _ 24 rfl 5 Try.underlying24 s5 g4 20 32 32 _ rfl rfl (kyl (shl k h) N K32) 88 N4.out.drew w.heap.size Z (hrd.below NB.out.drew) (by rw [kyl_length _ _ _ rfl HNL.out rfl]; omega) 32 (by rw [List.length_take, HZL.out]; omega) (kyl (shl k h) N Z) ?_ ?_)
    · rw [List.take_of_length_le (l := Z) (by rw [HZL.out]; omega)]
      exact kyl_root (shl k h) N K32 Z rfl HNL.out rfl HZL.out
    intro w8 h8 hb8
    refine hK.out _ _ (.inl (by kernel_rfl)) ?_
    clear hK K
    refine AnyTill.done (by kernel_rfl) ?_
    refine NoPanic.normal ?_
    simp only [Act.put, List.setIfInBounds_toArray, List.set_cons_zero, List.set_cons_succ]
    have O4 := Lib.hid h8
    have O2 : Hid (Blk w8 g2 kyl0 88) := hb8.blk N2.out.drew (by omega)
    have OB : Hid (Below w.heap.size w w8) := NB.out.trans (((Below.refl _ _).drew).trans (hb8.below (by omega) (by simpa using NB.out.size)))
    clear h8 hb8 hrd N2 N4 NB
    have HS9 := Lib.hid (s88' (shl k h) N Z rfl HNL.out HZL.out)
    have HL9 : Hid (kyl0.length = (kyl (shl k h) N Z).length) := by show _ = _; rw [kyl0_len, kyl_length _ _ _ rfl HNL.out HZL.out]
    go_wp2_with (first | (refine wpList_load_blkU rfl 88 _ rfl g4 rfl (kyl (shl k h) N Z) 88 O4.out d88 HU.out HD.out HS9.out ?_) | (refine wpList_store_blk rfl 88 _ _ rfl g2 (kyl (shl k h) N Z) kyl0 88 rfl rfl O2.out HS9.out HL9.out (kyl_one _ _ _ (shl_one k h)) ?_))
    rw [jump_ret]
    refine bodyPost_ret (v := .tuple #[.agg (kyl (shl k h) N Z).toArray, .int .i64 0]) ?_ rfl ?_
    · exact ret_blk2U rfl _ _ g2 88 (kyl (shl k h) N Z) _ rfl rfl O2.out.setRow d88 HU.out HD.out HS9.out
    · exact ⟨rfl, below_setRow' OB.out hw2 _⟩

end Go.Proofs.Ytnemkefmlffigaa
