/-
  Package lms: the hash of a node, for every node of a tree.
-/
import Derived.Test.YtnemkefmlffigaaGreatL4
namespace Go.Proofs.YtnemkefmlffigaaGreat
open Go.RowKit

set_option maxRecDepth 100000 in
set_option maxHeartbeats 1000000 in
theorem node_leaf (I seed : List UInt8) (k h r g0 g1 g2 : Nat) (w : World) (hI : I.length = 16) (hs : seed.length = 32) (hk : Wd k) (hh : Ht h) (hr : 2 ^ h ≤ r) (hr2 : r < 1000)
    (h0 : g0 < w.heap.size) (h1 : g1 < w.heap.size) (hB : Blk w g0 (tcs I seed (k : Int) (h : Int)) 25) (hL : w.cell? ⟨g1, 0, none⟩ = some (.int .i64 (2 ^ h : Nat))) :
    Calls Tryz.prog 50 #[.int .i64 (r : Int), .pointer (some ⟨g1, 0, none⟩), .pointer (some ⟨g0, 0, none⟩), .pointer (some ⟨g2, 0, none⟩)] w (Arr (bys (knt I seed k (2 ^ h) 0 r)) w) := by
  have HI := Lib.hid hI
  have HS := Lib.hid hs
  have HK := Lib.hid hk
  obtain ⟨L, hLe⟩ : ∃ L, 2 ^ h = L := ⟨_, rfl⟩
  have hL32 : L ≤ 32 := by rw [← hLe]; rcases hh with rfl | rfl | rfl | rfl | rfl <;> decide
  have HLE := Lib.hid hLe
  rw [hLe] at hr hL ⊢
  have H22 : Hid ((Tryz.prog.info? 22).map (·.size) = some (bys I).length) := by show _ = _; rw [bys_length, hI]; exact s22
  have HT : Hid ((Tryz.prog.info? 25).map (·.size) = some (tcs I seed (k : Int) (h : Int)).length) := by show _ = _; rw [tcs_length I seed _ _ hI hs]; exact sTree
  obtain ⟨dT, huT, hdT⟩ := rowTree
  have HU := Lib.hid huT
  have HD := Lib.hid hdT
  obtain ⟨q, hq⟩ : ∃ q, r - L = q := ⟨_, rfl⟩
  have hq3 : Hid (r = L + q) := by show _ = _; omega
  obtain ⟨U, hU⟩ : ∃ U, pubL (pre20 I q) seed k = U := ⟨_, rfl⟩
  have hUl : U.length = 32 := by rw [← hU]; exact hpub_length _ _
  have HUE := Lib.hid hU
  have HUL := Lib.hid hUl
  have hkn : knt I seed k L 0 r = leafL I r U := by show leafL I r (pubL (pre20 I (r - L)) seed k) = _; rw [hq, hU]
  obtain ⟨H, hH⟩ : ∃ H, leafL I r U = H := ⟨_, rfl⟩
  have hHl : H.length = 32 := by rw [← hH]; exact leafL_length _ _ _
  have HHE := Lib.hid hH
  rw [hkn, hH]
  have H24 : Hid ((Tryz.prog.info? 23).map (·.size) = some (bys U).length) := by show _ = _; rw [bys_length, hUl]; exact s24
  have H24b : Hid ((Tryz.prog.info? 23).map (·.size) = some (bys H).length) := by show _ = _; rw [bys_length, hHl]; exact s24
  have HLZ : Hid (z32.length = (bys U).length) := by show _ = _; rw [bys_length, hUl, z32_length]
  have HLZb : Hid (z32.length = (bys H).length) := by show _ = _; rw [bys_length, hHl, z32_length]
  have HB := Lib.hid hB
  have zr : ¬ ((r : Int) < (L : Int)) := by omega
  have zq : (r : Int) - (L : Int) = (q : Int) := by omega
  have z1 : (r : Int) < 1000 := by omega
  have z2 : (L : Int) ≤ 32 := by omega
  clear hI hs hk huT hdT hB hU hUl hkn hH hHl hLe hq
  go_enter Tryz.func50, Tryz.ntmps50
  go_wp2_with (refine wpList_alloc_blk rfl 23 rfl _ z24 ?_)
  intro w1 a1 a2 a3
  obtain ⟨gr, hgr⟩ : ∃ g, w.heap.size = g := ⟨_, rfl⟩
  rw [hgr] at a1 a2 a3 ⊢
  have A1 := Lib.hid a1
  have AB : Hid (Blk w1 g0 (tcs I seed (k : Int) (h : Int)) 25) := HB.out.below a3 (by omega)
  have cL : w1.cell? ⟨g1, 0, none⟩ = some (.int .i64 (L : Nat)) := by rw [a3.cell (p := ⟨g1, 0, none⟩) (by show g1 < gr; omega)]; exact hL
  have A3 : Hid (Below w.heap.size w w1) := by rw [hgr]; exact a3
  have hs1 : gr < w1.heap.size := by omega
  have hgw : w.heap.size ≤ gr := by omega
  have hg0 : g0 < gr := by omega
  clear a1 a2 a3 hgr HB hL
  go_wp2_with (refine wpList_load_blkU rfl 25 _ rfl g0 rfl (tcs I seed (k : Int) (h : Int)) 25 AB.out dT HU.out HD.out HT.out ?_)
  refine (keyL_any I seed q _ _ _ HI.out HS.out (by have := hq3.out; omega)).mono ?_
  rintro e w2 ⟨rfl, hb⟩
  have B1 : Hid (Blk w2 gr z32 23) := A1.out.below hb hs1
  have BB : Hid (Blk w2 g0 (tcs I seed (k : Int) (h : Int)) 25) := AB.out.below hb (by omega)
  have B3 : Hid (Below w.heap.size w w2) := A3.out.trans (hb.mono A3.out.size)
  have hs2 : gr < w2.heap.size := Nat.lt_of_lt_of_le hs1 hb.size
  clear hb A1 AB A3 cL hs1
  go_wp2_with fail
  refine (publicX_yes I seed q k _ HI.out HS.out (by have := hq3.out; omega) HK.out).mono ?_
  rintro e w3 ⟨rfl, hb⟩
  rw [HUE.out]
  have C1 : Hid (Blk w3 gr z32 23) := B1.out.below hb hs2
  have CB : Hid (Blk w3 g0 (tcs I seed (k : Int) (h : Int)) 25) := BB.out.below hb (by omega)
  have C3 : Hid (Below w.heap.size w w3) := B3.out.trans (hb.mono B3.out.size)
  have hs3 : gr < w3.heap.size := Nat.lt_of_lt_of_le hs2 hb.size
  clear hb B1 BB B3 hs2
  go_wp2_with (refine wpList_alloc_blk rfl 23 rfl _ z24 ?_)
  intro w4 a1 a2 a3
  obtain ⟨g6, hg6⟩ : ∃ g, w3.heap.size = g := ⟨_, rfl⟩
  rw [hg6] at a1 a2 a3 hs3 ⊢
  have D6 := Lib.hid a1
  obtain ⟨w5, hw5⟩ : ∃ t, w4.setRow g6 (bys U).toArray = t := ⟨_, rfl⟩
  have D1 : Hid (Blk w5 gr z32 23) := by rw [← hw5]; exact (C1.out.below a3 hs3).setRowOther (by omega)
  have DB : Hid (Blk w5 g0 (tcs I seed (k : Int) (h : Int)) 25) := by rw [← hw5]; exact (CB.out.below a3 (by omega)).setRowOther (by omega)
  have D6b : Hid (Blk w5 g6 (bys U) 23) := by rw [← hw5]; exact a1.setRow
  have D3 : Hid (Below w.heap.size w w5) := by rw [← hw5]; exact below_setRow' (C3.out.trans (a3.mono (by omega))) (by omega) _
  have hs5 : g6 < w5.heap.size := D6b.out.lt
  clear a1 a2 a3 hg6 C1 CB C3
  go_wp2_with (first | (refine wpList_store_blk rfl 23 _ _ rfl g6 (bys U) z32 23 rfl rfl D6.out H24.out HLZ.out (bys_one' _) ?_; rw [hw5]; clear hw5) | (refine wpList_load_mid rfl 22 _ rfl g0 0 rfl (bys I) _ (tcs_rangeI DB.out) tu22 rfl H22.out ?_) | (refine wpList_load_blk rfl 23 _ rfl g6 rfl (bys U) 23 D6b.out 32 5 tu24 H24.out ?_))
  refine (leafHash_any I U r _ HI.out HUL.out (by omega)).mono ?_
  rintro e w6 ⟨rfl, hb⟩
  rw [HHE.out]
  have E1 : Hid (Blk w6 gr z32 23) := D1.out.below hb (by omega)
  have E3 : Hid (Below w.heap.size w w6) := D3.out.trans (hb.mono D3.out.size)
  clear hb D1 DB D6 D6b D3
  go_wp2_with (refine wpList_store_blk rfl 23 _ _ rfl gr (bys H) z32 23 rfl rfl E1.out H24b.out HLZb.out (bys_one' _) ?_)
  refine bodyPost_ret (v := .agg (bys H).toArray) ?_ rfl ?_
  · exact ret_blk rfl _ _ gr 23 _ rfl E1.out.setRow 32 5 tu24 H24b.out
  · exact ⟨rfl, below_setRow' E3.out (by omega) _⟩

set_option maxRecDepth 100000 in
set_option maxHeartbeats 1000000 in
theorem node_up (I seed : List UInt8) (k h n r g0 g1 g2 : Nat) (w : World) (hI : I.length = 16) (hr : r < 2 ^ h) (hh : Ht h)
    (h0 : g0 < w.heap.size) (h1 : g1 < w.heap.size) (h2 : g2 < w.heap.size) (hB : Blk w g0 (tcs I seed (k : Int) (h : Int)) 25) (hL : w.cell? ⟨g1, 0, none⟩ = some (.int .i64 (2 ^ h : Nat)))
    (hF : w.cell? ⟨g2, 0, none⟩ = some (.func (.func 50) #[] #[.pointer (some ⟨g1, 0, none⟩), .pointer (some ⟨g0, 0, none⟩), .pointer (some ⟨g2, 0, none⟩)]))
    (ih : ∀ r', r' = 2 * r ∨ r' = 2 * r + 1 → ∀ w', Below w.heap.size w w' → Calls Tryz.prog 50 #[.int .i64 (r' : Int), .pointer (some ⟨g1, 0, none⟩), .pointer (some ⟨g0, 0, none⟩), .pointer (some ⟨g2, 0, none⟩)] w' (Arr (bys (knt I seed k (2 ^ h) n r')) w')) :
    Calls Tryz.prog 50 #[.int .i64 (r : Int), .pointer (some ⟨g1, 0, none⟩), .pointer (some ⟨g0, 0, none⟩), .pointer (some ⟨g2, 0, none⟩)] w (Arr (bys (knt I seed k (2 ^ h) (n + 1) r)) w) := by
  have HI := Lib.hid hI
  have HIH := Lib.hid ih
  have HFF := Lib.hid hF
  obtain ⟨L, hLe⟩ : ∃ L, 2 ^ h = L := ⟨_, rfl⟩
  have hL32 : L ≤ 32 := by rw [← hLe]; rcases hh with rfl | rfl | rfl | rfl | rfl <;> decide
  rw [hLe] at hr hL HIH ⊢
  have HB := Lib.hid hB
  have zr : (r : Int) < (L : Int) := by omega
  have z2 : (L : Int) ≤ 32 := by omega
  obtain ⟨R2, r2⟩ : ∃ R, 2 * r = R := ⟨_, rfl⟩
  obtain ⟨R3, r3⟩ : ∃ R, 2 * r + 1 = R := ⟨_, rfl⟩
  have zz2 : 2 * (r : Int) = (R2 : Int) := by omega
  have zz3 : (R2 : Int) + 1 = (R3 : Int) := by omega
  have hb2 : R2 ≤ 64 := by omega
  have hb3 : R3 ≤ 65 := by omega
  have hR2 : Hid (R2 = 2 * r) := r2.symm
  have hR3 : Hid (R3 = 2 * r + 1) := r3.symm
  obtain ⟨X2, x2⟩ : ∃ X, knt I seed k L n R2 = X := ⟨_, rfl⟩
  obtain ⟨X3, x3⟩ : ∃ X, knt I seed k L n R3 = X := ⟨_, rfl⟩
  have HE2 := Lib.hid x2
  have HE3 := Lib.hid x3
  have HL2 : Hid (X2.length = 32) := by show _ = _; rw [← x2]; exact knt_length _ _ _ _ _ _
  have HL3 : Hid (X3.length = 32) := by show _ = _; rw [← x3]; exact knt_length _ _ _ _ _ _
  obtain ⟨H, hH⟩ : ∃ H, upL I r X2 X3 = H := ⟨_, rfl⟩
  have HHE := Lib.hid hH
  have hkn : knt I seed k L (n + 1) r = H := by
    show upL I r (knt I seed k L n (2 * r)) (knt I seed k L n (2 * r + 1)) = H
    rw [r3, r2, x2, x3, hH]
  rw [hkn]
  have hHl : H.length = 32 := by rw [← hH]; exact upL_length _ _ _ _
  have H22 : Hid ((Tryz.prog.info? 22).map (·.size) = some (bys I).length) := by show _ = _; rw [bys_length, HI.out]; exact s22
  have H24 : Hid ((Tryz.prog.info? 23).map (·.size) = some (bys H).length) := by show _ = _; rw [bys_length, hHl]; exact s24
  have HLZ : Hid (z32.length = (bys H).length) := by show _ = _; rw [bys_length, hHl, z32_length]
  clear r2 r3 x2 x3 hkn hH hHl
  clear hI ih hF hB hLe
  go_enter Tryz.func50, Tryz.ntmps50
  go_wp2_with (refine wpList_alloc_blk rfl 23 rfl _ z24 ?_)
  intro w1 a1 a2 a3
  obtain ⟨gr, hgr⟩ : ∃ g, w.heap.size = g := ⟨_, rfl⟩
  rw [hgr] at a1 a2 a3 ⊢
  have A1 := Lib.hid a1
  have AB : Hid (Blk w1 g0 (tcs I seed (k : Int) (h : Int)) 25) := HB.out.below a3 (by omega)
  have cL : w1.cell? ⟨g1, 0, none⟩ = some (.int .i64 (L : Nat)) := by rw [a3.cell (p := ⟨g1, 0, none⟩) (by show g1 < gr; omega)]; exact hL
  have CF : Hid (w1.cell? ⟨g2, 0, none⟩ = some (.func (.func 50) #[] #[.pointer (some ⟨g1, 0, none⟩), .pointer (some ⟨g0, 0, none⟩), .pointer (some ⟨g2, 0, none⟩)])) := by show _ = _; rw [a3.cell (p := ⟨g2, 0, none⟩) (by show g2 < gr; omega)]; exact HFF.out
  have A3 : Hid (Below w.heap.size w w1) := by rw [hgr]; exact a3
  have hs1 : gr < w1.heap.size := by omega
  have hgw : w.heap.size ≤ gr := by omega
  have hg0 : g0 < gr := by omega
  clear a1 a2 a3 HB hL
  go_wp2
  clear cL
  refine wp_region_rely2 13 1 (fun x => ⟨#[.int .i64 (r : Int), .pointer (some ⟨g1, 0, none⟩), .pointer (some ⟨g0, 0, none⟩), .pointer (some ⟨g2, 0, none⟩), undef, .pointer (some ⟨gr, 0, none⟩), undef, undef, .int .i64 (r : Int), .int .i64 (L : Int), .bool true, x 0, x 1, x 2, x 3, x 4, x 5, x 6, x 7, x 8, x 9, x 10, x 11, x 12, undef, undef, undef, undef, undef, undef, undef, undef, undef, undef, undef, undef, undef, undef], []⟩) (fun jj => ([eqV (.pointer (some ⟨g0, 0, none⟩)), eqV (.agg (bys I).toArray), eqV (.int .i64 (r : Int)), eqV (.func (.func 50) #[] #[.pointer (some ⟨g1, 0, none⟩), .pointer (some ⟨g0, 0, none⟩), .pointer (some ⟨g2, 0, none⟩)]), eqV (.int .i64 (r : Int)), eqV (.int .i64 (R2 : Int)), (eqV (.agg (bys X2).toArray)), eqV (.func (.func 50) #[] #[.pointer (some ⟨g1, 0, none⟩), .pointer (some ⟨g0, 0, none⟩), .pointer (some ⟨g2, 0, none⟩)]), eqV (.int .i64 (r : Int)), eqV (.int .i64 (R2 : Int)), eqV (.int .i64 (R3 : Int)), (eqV (.agg (bys X3).toArray)), (eqV (.agg (bys H).toArray))] : List (Value → World → Prop)).getD jj (fun _ _ => True)) rfl ⟨fun kk => [_, _, _, _, _, _, _, _, _, _, _, _, _].getD kk undef, rfl⟩ (by kernel_rfl) (by kernel_rfl) ?steps ?fin
  case steps =>
    refine StepsAt.val 0 (.pointer (some ⟨g0, 0, none⟩)) rfl (fun _ _ => rfl) rfl rfl (fun x wx hb hd => ?_) ?_
    · first | (go_simp; done) | (go_simp; rfl)
    refine StepsAt.val 1 (.agg (bys I).toArray) rfl (fun _ _ => rfl) rfl rfl (fun x wx hb hd => ?_) ?_
    · have h0 : x 0 = .pointer (some ⟨g0, 0, none⟩) := hd 0 (by kernel_rfl)
      exact run_load_mid 22 (.tmp 11) rfl g0 0 (by exact h0) (bys I) (tcs_rangeI (AB.out.below hb (by omega))) 16 5 tu22 H22.out
    refine StepsAt.val 2 (.int .i64 (r : Int)) rfl (fun _ _ => rfl) rfl rfl (fun x wx hb hd => ?_) ?_
    · first | (go_simp; done) | (go_simp; rfl)
    refine StepsAt.val 3 (.func (.func 50) #[] #[.pointer (some ⟨g1, 0, none⟩), .pointer (some ⟨g0, 0, none⟩), .pointer (some ⟨g2, 0, none⟩)]) rfl (fun _ _ => rfl) rfl rfl (fun x wx hb hd => ?_) ?_
    · have cF := ((hb.cell (p := ⟨g2, 0, none⟩) (by show g2 < w1.heap.size; omega))).trans CF.out
      first | (go_simp; done) | (go_simp; rfl)
    refine StepsAt.val 4 (.int .i64 (r : Int)) rfl (fun _ _ => rfl) rfl rfl (fun x wx hb hd => ?_) ?_
    · first | (go_simp; done) | (go_simp; rfl)
    refine StepsAt.val 5 (.int .i64 (R2 : Int)) rfl (fun _ _ => rfl) rfl rfl (fun x wx hb hd => ?_) ?_
    · have h4 : x 4 = .int .i64 (r : Int) := hd 4 (by kernel_rfl)
      rw [h4]
      go_simp
      exact wrap_i64 _ (by omega) (by omega)
    refine StepsAt.cons 6 (fun _ _ _ h hb => h) (fun _ _ => rfl) rfl rfl (fun x wx hb hd K hK => ?_) ?_
    · have h3 : Hid (x 3 = .func (.func 50) #[] #[.pointer (some ⟨g1, 0, none⟩), .pointer (some ⟨g0, 0, none⟩), .pointer (some ⟨g2, 0, none⟩)]) := hd 3 (by kernel_rfl)
      have h5 : Hid (x 5 = .int .i64 (R2 : Int)) := hd 5 (by kernel_rfl)
      have e3 := h3.out
      have e5 := h5.out
      have key := fun wy hby => hK.out (.agg (bys X2).toArray) wy hby rfl
      simp only [Act.put, e3, e5, List.setIfInBounds_toArray, List.set_cons_zero, List.set_cons_succ] at key
      go_simp
      refine (HIH.out R2 (.inl hR2.out) _ (A3.out.trans (hb.mono A3.out.size))).mono ?_
      rintro e w9 ⟨rfl, hb9⟩
      rw [HE2.out]
      exact key _ hb9
    refine StepsAt.val 7 (.func (.func 50) #[] #[.pointer (some ⟨g1, 0, none⟩), .pointer (some ⟨g0, 0, none⟩), .pointer (some ⟨g2, 0, none⟩)]) rfl (fun _ _ => rfl) rfl rfl (fun x wx hb hd => ?_) ?_
    · have cF := ((hb.cell (p := ⟨g2, 0, none⟩) (by show g2 < w1.heap.size; omega))).trans CF.out
      first | (go_simp; done) | (go_simp; rfl)
    refine StepsAt.val 8 (.int .i64 (r : Int)) rfl (fun _ _ => rfl) rfl rfl (fun x wx hb hd => ?_) ?_
    · first | (go_simp; done) | (go_simp; rfl)
    refine StepsAt.val 9 (.int .i64 (R2 : Int)) rfl (fun _ _ => rfl) rfl rfl (fun x wx hb hd => ?_) ?_
    · have h8 : x 8 = .int .i64 (r : Int) := hd 8 (by kernel_rfl)
      rw [h8]
      go_simp
      exact wrap_i64 _ (by omega) (by omega)
    refine StepsAt.val 10 (.int .i64 (R3 : Int)) rfl (fun _ _ => rfl) rfl rfl (fun x wx hb hd => ?_) ?_
    · have h9 : x 9 = .int .i64 (R2 : Int) := hd 9 (by kernel_rfl)
      rw [h9]
      go_simp
      exact wrap_i64 _ (by omega) (by omega)
    refine StepsAt.cons 11 (fun _ _ _ h hb => h) (fun _ _ => rfl) rfl rfl (fun x wx hb hd K hK => ?_) ?_
    · have h7 : Hid (x 7 = .func (.func 50) #[] #[.pointer (some ⟨g1, 0, none⟩), .pointer (some ⟨g0, 0, none⟩), .pointer (some ⟨g2, 0, none⟩)]) := hd 7 (by kernel_rfl)
      have h10 : Hid (x 10 = .int .i64 (R3 : Int)) := hd 10 (by kernel_rfl)
      have e7 := h7.out
      have e10 := h10.out
      have key := fun wy hby => hK.out (.agg (bys X3).toArray) wy hby rfl
      simp only [Act.put, e7, e10, List.setIfInBounds_toArray, List.set_cons_zero, List.set_cons_succ] at key
      go_simp
      refine (HIH.out R3 (.inr hR3.out) _ (A3.out.trans (hb.mono A3.out.size))).mono ?_
      rintro e w9 ⟨rfl, hb9⟩
      rw [HE3.out]
      exact key _ hb9
    refine StepsAt.cons 12 (fun _ _ _ h hb => h) (fun _ _ => rfl) rfl rfl (fun x wx hb hd K hK => ?_) ?_
    · have h1 : Hid (x 1 = .agg (bys I).toArray) := hd 1 (by kernel_rfl)
      have h2 : Hid (x 2 = .int .i64 (r : Int)) := hd 2 (by kernel_rfl)
      have h6 : Hid (x 6 = .agg (bys X2).toArray) := hd 6 (by kernel_rfl)
      have h11 : Hid (x 11 = .agg (bys X3).toArray) := hd 11 (by kernel_rfl)
      go_simp
      refine calls_args (args2 := #[.agg (bys I).toArray, .int .i64 (r : Int), .agg (bys X2).toArray, .agg (bys X3).toArray]) (by rw [h1.out, h2.out, h6.out, h11.out]) ?_
      refine (upperHash_any I X2 X3 r _ HI.out HL2.out HL3.out (by omega)).mono ?_
      rintro e w9 ⟨rfl, hb9⟩
      rw [HHE.out]
      exact hK.out _ _ hb9 rfl
    exact StepsAt.done
  case fin =>
    intro x wx hb hd
    have hr : x 12 = .agg (bys H).toArray := hd 12 (by omega)
    refine AnyTill.any (S := fun _ => True) (m := 14) _ _ _ _ ?_
    refine AnyTill.one (i := 13) (by kernel_rfl) rfl (by rfl) (fun K hK => ?_)
    refine wp_store_blk 23 (.tmp 5) (.tmp 23) rfl gr (bys H) z32 23 rfl hr (A1.out.below hb hs1) H24.out HLZ.out (bys_one' _) ?_
    refine hK.out _ _ (.inr trivial) ?_
    clear hK K
    refine AnyTill.done (by kernel_rfl) ?_
    refine NoPanic.normal ?_
    simp only [Act.put]
    have L0 : Hid (Blk (wx.setRow gr (bys H).toArray) gr (bys H) 23) := (A1.out.below hb hs1).setRow
    have LB : Hid (Below w.heap.size w (wx.setRow gr (bys H).toArray)) := below_setRow' (A3.out.trans (hb.mono A3.out.size)) hgw _
    clear hd hr
    go_wp2
    refine bodyPost_ret (v := .agg (bys H).toArray) ?_ rfl ?_
    · exact ret_blk rfl _ _ gr 23 _ rfl L0.out 32 5 tu24 H24.out
    · exact ⟨rfl, LB.out⟩

/-- Every node, n levels above the leaves. -/
theorem node_any (I seed : List UInt8) (k h g0 g1 g2 : Nat) (hI : I.length = 16) (hs : seed.length = 32) (hk : Wd k) (hh : Ht h) : ∀ (n r : Nat) (w : World), n ≤ h → 2 ^ (h - n) ≤ r → r < 2 * 2 ^ (h - n) →
    g0 < w.heap.size → g1 < w.heap.size → g2 < w.heap.size → Blk w g0 (tcs I seed (k : Int) (h : Int)) 25 → w.cell? ⟨g1, 0, none⟩ = some (.int .i64 (2 ^ h : Nat)) →
    w.cell? ⟨g2, 0, none⟩ = some (.func (.func 50) #[] #[.pointer (some ⟨g1, 0, none⟩), .pointer (some ⟨g0, 0, none⟩), .pointer (some ⟨g2, 0, none⟩)]) →
    Calls Tryz.prog 50 #[.int .i64 (r : Int), .pointer (some ⟨g1, 0, none⟩), .pointer (some ⟨g0, 0, none⟩), .pointer (some ⟨g2, 0, none⟩)] w (Arr (bys (knt I seed k (2 ^ h) n r)) w) := by
  have h5 := hh.le
  have hp : 2 ^ h ≤ 32 := by rcases hh with rfl | rfl | rfl | rfl | rfl <;> decide
  intro n
  induction n with
  | zero =>
    intro r w _ h1 h2 b0 b1 b2 hB hL hF
    rw [Nat.sub_zero] at h1 h2
    exact node_leaf I seed k h r g0 g1 g2 w hI hs hk hh h1 (by omega) b0 b1 hB hL
  | succ n ih =>
    intro r w hn h1 h2 b0 b1 b2 hB hL hF
    have e : 2 ^ (h - n) = 2 * 2 ^ (h - (n + 1)) := by rw [show h - n = (h - (n + 1)) + 1 by omega, Nat.pow_succ]; omega
    have hle : 2 ^ (h - n) ≤ 2 ^ h := Nat.pow_le_pow_right (by omega) (by omega)
    refine node_up I seed k h n r g0 g1 g2 w hI (by omega) hh b0 b1 b2 hB hL hF (fun r' hr' w' hb => ?_)
    have hsz := hb.size
    exact ih r' w' (by omega) (by rcases hr' with rfl | rfl <;> omega) (by rcases hr' with rfl | rfl <;> omega) (by omega) (by omega) (by omega) (hB.below hb b0) (by rw [hb.cell (p := ⟨g1, 0, none⟩) b1]; exact hL) (by rw [hb.cell (p := ⟨g2, 0, none⟩) b2]; exact hF)

/-- What hashes gives, called at a node. -/
theorem Hsh.node {I seed : List UInt8} {k h : Nat} {v : Value} {w : World} (H : Hsh I seed k h v w) (hI : I.length = 16) (hs : seed.length = 32) (hk : Wd k) (hh : Ht h) (n r : Nat) (hn : n ≤ h) (h1 : 2 ^ (h - n) ≤ r) (h2 : r < 2 * 2 ^ (h - n)) :
    ∃ g0 g1 g2, v = .func (.func 50) #[] #[.pointer (some ⟨g1, 0, none⟩), .pointer (some ⟨g0, 0, none⟩), .pointer (some ⟨g2, 0, none⟩)] ∧ ∀ w', Below w.heap.size w w' → Calls Tryz.prog 50 #[.int .i64 (r : Int), .pointer (some ⟨g1, 0, none⟩), .pointer (some ⟨g0, 0, none⟩), .pointer (some ⟨g2, 0, none⟩)] w' (Arr (bys (knt I seed k (2 ^ h) n r)) w') := by
  obtain ⟨g0, g1, g2, hv, b0, b1, b2, hB, hL, hF⟩ := H
  refine ⟨g0, g1, g2, hv, fun w' hb => ?_⟩
  have hsz := hb.size
  exact node_any I seed k h g0 g1 g2 hI hs hk hh n r w' hn h1 h2 (by omega) (by omega) (by omega) (hB.below hb b0) (by rw [hb.cell (p := ⟨g1, 0, none⟩) b1]; exact hL) (by rw [hb.cell (p := ⟨g2, 0, none⟩) b2, hF, hv])
end Go.Proofs.YtnemkefmlffigaaGreat
