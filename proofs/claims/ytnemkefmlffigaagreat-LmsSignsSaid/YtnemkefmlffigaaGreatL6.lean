/-
  Package lms: Long and Leaf, for every input; the siblings of a leaf's way.
-/
import Derived.Test.YtnemkefmlffigaaGreatL5
namespace Go.Proofs.YtnemkefmlffigaaGreat
open Go.RowKit

/-- No tree. -/
def NoT (z y : Int) : Prop := NoW z ∨ NoH y
theorem lshape_no (z y : Int) (w : World) (h : NoT z y) : Calls Tryz.prog 21 #[.int .i64 z, .int .i64 y] w (TwoD (.agg shl0.toArray) (.int .i64 1) w) := by
  rcases width_or z with ⟨k, hk, rfl⟩ | hz
  · rcases h with h | h
    · exact lshape_noW _ _ _ h
    · exact lshape_noH _ _ _ hk h
  · exact lshape_noW _ _ _ hz
theorem tree_or (z y : Int) : (∃ k h : Nat, Wd k ∧ Ht h ∧ z = (k : Int) ∧ y = (h : Int)) ∨ NoT z y := by
  rcases width_or z with ⟨k, hk, rfl⟩ | hz
  · by_cases h1 : 1 ≤ y ∧ y ≤ 5
    · exact .inl ⟨k, y.toNat, hk, Ht.of (by omega) (by omega), rfl, by omega⟩
    · exact .inr (.inr (by unfold NoH; omega))
  · exact .inr (.inl hz)

set_option maxRecDepth 100000 in
set_option maxHeartbeats 400000 in
theorem longT_no (I seed : List UInt8) (z y : Int) (w : World) (hI : I.length = 16) (hs : seed.length = 32) (hn : NoT z y) : Calls Tryz.prog 13 #[.agg (tcs I seed z y).toArray] w (TwoD (.int .i64 0) (.int .i64 1) w) := by
  have HZ := Lib.hid (tcs_z I seed z y hI hs)
  have HY := Lib.hid (tcs_y I seed z y hI hs)
  have HN := Lib.hid hn
  clear hI hs hn
  go_enter Tryz.func13, Tryz.ntmps13
  go_wp2_with (refine wpList_box_blk rfl 25 _ rfl (tcs I seed z y) rfl ?_)
  intro w1 a1 a2 a3
  have cz := (a1.cell 48).trans HZ.out
  have cy := (a1.cell 49).trans HY.out
  have A3 := Lib.hid a3
  clear a1 a2 a3
  go_wp2
  refine wp_scope_goto 0 rfl ?_
  go_wp2_with fail
  refine (lshape_no z y _ HN.out).mono ?_
  rintro e w2 ⟨rfl, hb⟩
  have B1 : Hid (Below w.heap.size w w2) := A3.out.trans (hb.mono A3.out.size)
  clear hb A3 cz cy
  go_wp2_with (first | (refine wpList_alloc_blk rfl 50 rfl _ zi74 ?_))
  intro w3 a1 a2 a3
  have A1 := Lib.hid a1
  have hs := B1.out.size
  have LB : Hid (Below w.heap.size w (w3.setRow w2.heap.size shl0.toArray)) := below_setRow' (B1.out.trans (a3.mono hs)) hs _
  clear a1 a2 a3
  go_wp2_with (first | (refine wpList_store_blk rfl 50 _ _ rfl w2.heap.size shl0 shl0 50 rfl rfl A1.out s74 rfl shl0_one ?_))
  refine wp_goto ⟨rfl, ?_⟩
  go_wp2
  rw [Exit.noGoto_ret]
  go_ret2
  exact ⟨rfl, LB.out⟩

set_option maxRecDepth 100000 in
set_option maxHeartbeats 400000 in
theorem longT_yes (I seed : List UInt8) (k h : Nat) (w : World) (hI : I.length = 16) (hs : seed.length = 32) (hk : Wd k) (hh : Ht h) : Calls Tryz.prog 13 #[.agg (tcs I seed (k : Int) (h : Int)).toArray] w (TwoD (.int .i64 (llng k h : Nat)) (.int .i64 0) w) := by
  have HZ := Lib.hid (tcs_z I seed (k : Int) (h : Int) hI hs)
  have HY := Lib.hid (tcs_y I seed (k : Int) (h : Int) hI hs)
  have HK := Lib.hid hk
  have HH := Lib.hid hh
  obtain ⟨d74, hu74, hd74⟩ := row74
  have HU := Lib.hid hu74
  have HD := Lib.hid hd74
  clear hu74 hd74 hI hs hk hh
  go_enter Tryz.func13, Tryz.ntmps13
  go_wp2_with (refine wpList_box_blk rfl 25 _ rfl (tcs I seed (k : Int) (h : Int)) rfl ?_)
  intro w1 a1 a2 a3
  have cz := (a1.cell 48).trans HZ.out
  have cy := (a1.cell 49).trans HY.out
  have A3 := Lib.hid a3
  clear a1 a2 a3
  go_wp2
  refine wp_scope_goto 0 rfl ?_
  go_wp2_with fail
  refine (lshape_yes k h _ HK.out HH.out).mono ?_
  rintro e w2 ⟨rfl, hb⟩
  have B1 : Hid (Below w.heap.size w w2) := A3.out.trans (hb.mono A3.out.size)
  clear hb A3 cz cy
  go_wp2_with (first | (refine wpList_alloc_blk rfl 50 rfl _ zi74 ?_))
  intro w3 a1 a2 a3
  have A1 := Lib.hid a1
  have hs := B1.out.size
  have L0 : Hid (Blk (w3.setRow w2.heap.size (shl k h).toArray) w2.heap.size (shl k h) 50) := a1.setRow
  have LB : Hid (Below w.heap.size w (w3.setRow w2.heap.size (shl k h).toArray)) := below_setRow' (B1.out.trans (a3.mono hs)) hs _
  clear a1 a2 a3
  go_wp2_with (first | (refine wpList_store_blk rfl 50 _ _ rfl w2.heap.size (shl k h) shl0 50 rfl rfl A1.out s74 rfl (shl_one k h) ?_) | (refine wpList_load_blkU rfl 50 _ rfl w2.heap.size rfl (shl k h) 50 L0.out d74 HU.out HD.out s74 ?_))
  refine (longL_any k h _ HK.out HH.out).mono ?_
  rintro e w4 ⟨rfl, hb⟩
  have BB : Hid (Below w.heap.size w w4) := LB.out.trans (hb.mono LB.out.size)
  clear hb LB L0 A1 B1 hs
  go_wp2
  rw [jump_ret]
  go_ret2
  exact ⟨rfl, BB.out⟩

set_option maxRecDepth 100000 in
set_option maxHeartbeats 400000 in
theorem leafT_short (v : Value) (s : List UInt8) (w : World) (hr : Rd w.heap.size w v s) (hs : s.length < 4) : Calls Tryz.prog 17 #[v] w (TwoD (.int .i64 0) (.int .i64 2) w) := by
  obtain ⟨A, c, rfl, hc, hm⟩ := hr.shape
  unfold maxLen at hm
  obtain ⟨n, hn⟩ : ∃ n, s.length = n := ⟨_, rfl⟩
  rw [hn] at hs hc ⊢
  have z : (n : Int) < 4 := by omega
  clear hr hn
  go_enter Tryz.func17, Tryz.ntmps17
  go_wp2
  refine wp_scope_goto 0 rfl ?_
  go_wp2
  refine wp_goto ⟨rfl, ?_⟩
  go_wp2
  rw [Exit.noGoto_ret]
  go_ret2
  exact ⟨rfl, Below.refl _ _⟩

set_option maxRecDepth 100000 in
set_option maxHeartbeats 400000 in
theorem leafT_yes (v : Value) (s : List UInt8) (w : World) (hr : Rd w.heap.size w v s) (hs : 4 ≤ s.length) : Calls Tryz.prog 17 #[v] w (TwoD (.int .i64 (wd s 0 : Nat)) (.int .i64 0) w) := by
  have HR := Lib.hid hr
  have hwl := wd_lt s 0
  obtain ⟨A, c, rfl, hc, hm⟩ := hr.shape
  unfold maxLen at hm
  obtain ⟨n, hn⟩ : ∃ n, s.length = n := ⟨_, rfl⟩
  have HSL : Hid (4 ≤ s.length) := hs
  rw [hn] at hs hc HR ⊢
  have z : ¬ ((n : Int) < 4) := by omega
  clear hr hn
  go_enter Tryz.func17, Tryz.ntmps17
  go_wp2
  refine wp_scope_goto 0 rfl ?_
  go_wp2_with fail
  refine (numberL_any _ _ s _ HR.out HSL.out).mono ?_
  rintro e w2 ⟨rfl, nd, rfl⟩
  obtain ⟨x, hx⟩ : ∃ x, wd s 0 = x := ⟨_, rfl⟩
  rw [hx] at hwl ⊢
  have z2 : (x : Int) < 4294967296 := by omega
  have HX := Lib.hid hx
  clear hx
  go_wp2
  rw [jump_ret]
  go_ret2
  refine ⟨?_, below_drewN (Below.refl _ _) _⟩
  rw [HX.out]
  rfl

/-- What hashes lays, block by block. -/
def HshG (I seed : List UInt8) (k h g0 g1 g2 : Nat) (w : World) : Prop :=
  g0 < w.heap.size ∧ g1 < w.heap.size ∧ g2 < w.heap.size ∧ Blk w g0 (tcs I seed (k : Int) (h : Int)) 25 ∧ w.cell? ⟨g1, 0, none⟩ = some (.int .i64 (2 ^ h : Nat)) ∧
    w.cell? ⟨g2, 0, none⟩ = some (.func (.func 50) #[] #[.pointer (some ⟨g1, 0, none⟩), .pointer (some ⟨g0, 0, none⟩), .pointer (some ⟨g2, 0, none⟩)])
theorem Hsh.split {I seed : List UInt8} {k h : Nat} {v : Value} {w : World} (H : Hsh I seed k h v w) : ∃ g0 g1 g2, v = .func (.func 50) #[] #[.pointer (some ⟨g1, 0, none⟩), .pointer (some ⟨g0, 0, none⟩), .pointer (some ⟨g2, 0, none⟩)] ∧ HshG I seed k h g0 g1 g2 w := by
  obtain ⟨g0, g1, g2, hv, b0, b1, b2, hB, hL, hF⟩ := H
  exact ⟨g0, g1, g2, hv, b0, b1, b2, hB, hL, by rw [hF, hv]⟩
theorem HshG.below {I seed : List UInt8} {k h g0 g1 g2 B : Nat} {w w' : World} (H : HshG I seed k h g0 g1 g2 w) (hb : Below B w w') (h0 : g0 < B) (h1 : g1 < B) (h2 : g2 < B) : HshG I seed k h g0 g1 g2 w' := by
  obtain ⟨b0, b1, b2, hB, hL, hF⟩ := H
  have := hb.size
  exact ⟨by omega, by omega, by omega, hB.below hb h0, by rw [hb.cell (p := ⟨g1, 0, none⟩) h1]; exact hL, by rw [hb.cell (p := ⟨g2, 0, none⟩) h2]; exact hF⟩
theorem HshG.keep {I seed : List UInt8} {k h g0 g1 g2 : Nat} {w w' : World} (H : HshG I seed k h g0 g1 g2 w) (hb : Below w.heap.size w w') : HshG I seed k h g0 g1 g2 w' := H.below hb H.1 H.2.1 H.2.2.1
theorem HshG.node {I seed : List UInt8} {k h g0 g1 g2 : Nat} {w : World} (H : HshG I seed k h g0 g1 g2 w) (hI : I.length = 16) (hs : seed.length = 32) (hk : Wd k) (hh : Ht h) (n r : Nat) (hn : n ≤ h) (h1 : 2 ^ (h - n) ≤ r) (h2 : r < 2 * 2 ^ (h - n)) :
    Calls Tryz.prog 50 #[.int .i64 (r : Int), .pointer (some ⟨g1, 0, none⟩), .pointer (some ⟨g0, 0, none⟩), .pointer (some ⟨g2, 0, none⟩)] w (Arr (bys (knt I seed k (2 ^ h) n r)) w) := by
  obtain ⟨b0, b1, b2, hB, hL, hF⟩ := H
  exact node_any I seed k h g0 g1 g2 hI hs hk hh n r w hn h1 h2 b0 b1 b2 hB hL hF

theorem sbl_take (I seed : List UInt8) (k L n : Nat) : ∀ j r i, i < n → (sbl I seed k L j n r).take (32 * (i + 1)) = (sbl I seed k L j n r).take (32 * i) ++ knt I seed k L (j + i) (sbr (r / 2 ^ i)) := by
  induction n with
  | zero => intro j r i hi; omega
  | succ n ih =>
    intro j r i hi
    rw [sbl]
    have hl := knt_length I seed k L j (sbr r)
    cases i with
    | zero =>
      rw [List.take_append_of_le_length (by omega), List.take_of_length_le (by omega)]
      simp
    | succ i =>
      rw [List.take_append, List.take_append, List.take_of_length_le (by omega), hl, show 32 * (i + 1 + 1) - 32 = 32 * (i + 1) by omega, show 32 * (i + 1) - 32 = 32 * i by omega, List.take_of_length_le (l := knt I seed k L j (sbr r)) (by omega), ih (j + 1) (r / 2) i (by omega), List.append_assoc, show j + 1 + i = j + (i + 1) by omega, Nat.div_div_eq_div_mul, Nat.pow_succ, Nat.mul_comm 2]

/-- What the loop of siblings keeps. -/
def SibAt (w : World) (I seed : List UInt8) (k h g0 g1 g2 b : Nat) (v : Value) (l : List UInt8) (wr : World) : Prop :=
  HshG I seed k h g0 g1 g2 wr ∧ Own 5 wr b v l ∧ b ≤ wr.heap.size ∧ Below w.heap.size w wr
theorem SibAt.below {w : World} {I seed : List UInt8} {k h g0 g1 g2 b : Nat} {v : Value} {l : List UInt8} {wr w' : World} (H : SibAt w I seed k h g0 g1 g2 b v l wr) (hb : Below wr.heap.size wr w') : SibAt w I seed k h g0 g1 g2 b v l w' := by
  obtain ⟨h1, h2, h3, h4⟩ := H
  exact ⟨h1.keep hb, h2.below hb (Nat.le_refl _), Nat.le_trans h3 hb.size, h4.trans (hb.mono h4.size)⟩

set_option maxRecDepth 100000 in
set_option maxHeartbeats 2000000 in
theorem siblings_any (I seed : List UInt8) (k h r : Nat) (w : World) (hI : I.length = 16) (hs : seed.length = 32) (hk : Wd k) (hh : Ht h) (hr1 : 2 ^ h ≤ r) (hr2 : r < 2 * 2 ^ h) :
    Calls Tryz.prog 35 #[.agg (tcs I seed (k : Int) (h : Int)).toArray, .int .i64 (r : Int)] w (Gives w.heap.size (sbl I seed k (2 ^ h) 0 h r) w) := by
  obtain ⟨i0, hi, hz0, hz1, hz2⟩ := info_parts info5
  have HIN := Lib.hid hi
  have H0 := Lib.hid hz0
  have H1 := Lib.hid hz1
  have H2 := Lib.hid hz2
  have HI := Lib.hid hI
  have HS := Lib.hid hs
  have HK := Lib.hid hk
  have HH := Lib.hid hh
  have HR1 := Lib.hid hr1
  have HR2 := Lib.hid hr2
  have hp : 2 ^ h ≤ 32 := by rcases hh with rfl | rfl | rfl | rfl | rfl <;> decide
  have hr64 : r < 64 := by omega
  have HT : Hid ((Tryz.prog.info? 25).map (·.size) = some (tcs I seed (k : Int) (h : Int)).length) := by show _ = _; rw [tcs_length I seed _ _ hI hs]; exact sTree
  obtain ⟨dT, huT, hdT⟩ := rowTree
  have HU := Lib.hid huT
  have HD := Lib.hid hdT
  clear hI hs hk hh hi hz0 hz1 hz2 huT hdT hr1 hr2 hp
  go_enter Tryz.func35, Tryz.ntmps35
  go_wp2_with (refine wpList_box_blk rfl 25 _ rfl (tcs I seed (k : Int) (h : Int)) rfl ?_)
  intro w1 a1 a2 a3
  have A1 := Lib.hid a1
  have A3 := Lib.hid a3
  clear a1 a2 a3
  go_wp2_with (refine wpList_load_blkU rfl 25 _ rfl w.heap.size rfl (tcs I seed (k : Int) (h : Int)) 25 A1.out dT HU.out HD.out HT.out ?_)
  refine (hashes_any I seed k h _ HI.out HS.out HH.out).mono ?_
  rintro e w2 ⟨fv, rfl, hsh, hb⟩
  obtain ⟨g0, g1, g2, hv, hG⟩ := hsh.split
  subst hv
  obtain ⟨b, hbE⟩ : ∃ b, w2.heap.size = b := ⟨_, rfl⟩
  have K0 : Hid (SibAt w I seed k h g0 g1 g2 b (.slice none 0 0) ((sbl I seed k (2 ^ h) 0 h r).take (32 * 0)) w2) := ⟨hG, by simpa using Own.nil 5 w2 b, by omega, A3.out.trans (hb.mono A3.out.size)⟩
  have hwb : w.heap.size ≤ b := by have := K0.out.2.2.2.size; omega
  have hgb0 : g0 < b := by have := hG.1; omega
  have hgb1 : g1 < b := by have := hG.2.1; omega
  have hgb2 : g2 < b := by have := hG.2.2.1; omega
  clear hsh hb hG hbE A1 A3
  go_wp2
  go_loopw [1, 6] (fun x v wr => ∃ j : Nat, j ≤ h ∧ x = .int .i64 ((r / 2 ^ j : Nat) : Int) ∧ Hid (SibAt w I seed k h g0 g1 g2 b v ((sbl I seed k (2 ^ h) 0 h r).take (32 * j)) wr)) (fun x _ _ => (intOf x).toNat)
  case atStart => exact ⟨0, by omega, by simp, K0⟩
  case round =>
    clear K0
    obtain ⟨j, hj, rfl, KK⟩ := hrel
    have hel : ((sbl I seed k (2 ^ h) 0 h r).take (32 * j)).length = 32 * j := by rw [List.length_take, sbl_length]; omega
    obtain ⟨R, hR⟩ : ∃ R, r / 2 ^ j = R := ⟨_, rfl⟩
    have hRr : R ≤ r := by rw [← hR]; exact Nat.div_le_self _ _
    have hRlo : 2 ^ (h - j) ≤ R := by
      rw [← hR, Nat.le_div_iff_mul_le (Nat.pow_pos (by omega)), ← Nat.pow_add, show h - j + j = h by omega]; exact HR1.out
    have hRhi : R < 2 * 2 ^ (h - j) := by
      rw [← hR, Nat.div_lt_iff_lt_mul (Nat.pow_pos (by omega)), Nat.mul_assoc, ← Nat.pow_add, show h - j + j = h by omega]; exact HR2.out
    have hRn : r / 2 ^ (j + 1) = R / 2 := by rw [← hR, Nat.div_div_eq_div_mul, Nat.pow_succ]
    have HRE := Lib.hid hR
    have HRN := Lib.hid hRn
    rw [hR]
    obtain ⟨A4, c4, hv4, hc4, hm4⟩ := KK.out.2.1.rd.shape
    rw [hel] at hv4 hc4
    subst hv4
    unfold maxLen at hm4
    have HEL := Lib.hid hel
    clear hel hR hRn
    by_cases hj2 : j < h
    · have hp1 : 2 ≤ 2 ^ (h - j) := by
        rw [show h - j = (h - j - 1) + 1 by omega, Nat.pow_succ]
        have : 1 ≤ 2 ^ (h - j - 1) := Nat.pow_pos (by omega)
        omega
      have zi : (1 : Int) < (R : Int) := by omega
      have hev : 2 ^ (h - j) % 2 = 0 := by rw [show h - j = (h - j - 1) + 1 by omega, Nat.pow_succ]; omega
      have hsb1 : 2 ^ (h - j) ≤ sbr R := by unfold sbr; split <;> omega
      have hsb2 : sbr R < 2 * 2 ^ (h - j) := by unfold sbr; split <;> omega
      obtain ⟨S, hS⟩ : ∃ S, sbr R = S := ⟨_, rfl⟩
      rw [hS] at hsb1 hsb2
      have HSE := Lib.hid hS
      obtain ⟨X, hX⟩ : ∃ X, knt I seed k (2 ^ h) j S = X := ⟨_, rfl⟩
      have hXl : X.length = 32 := by rw [← hX]; exact knt_length _ _ _ _ _ _
      have HXE := Lib.hid hX
      have HXL := Lib.hid hXl
      have HTK : Hid ((sbl I seed k (2 ^ h) 0 h r).take (32 * (j + 1)) = (sbl I seed k (2 ^ h) 0 h r).take (32 * j) ++ X) := by show _ = _; rw [sbl_take I seed k (2 ^ h) h 0 r j hj2, HRE.out, Nat.zero_add, hS, hX]
      have H24 : Hid ((Tryz.prog.info? 23).map (·.size) = some (bys X).length) := by show _ = _; rw [bys_length, hXl]; exact s24
      have HLZ : Hid (z32.length = (bys X).length) := by show _ = _; rw [bys_length, hXl, z32_length]
      have HB1 := Lib.hid hsb1
      have HB2 := Lib.hid hsb2
      have hj32 : j ≤ 5 := by have := HH.out.le; omega
      clear hS hX hXl hp1 hev hsb1 hsb2 hRlo hRhi
      go_wp2_with fail
      refine (siblingL_any R _ (by omega) (by omega)).mono ?_
      rintro e w3 ⟨rfl, hb⟩
      rw [HSE.out]
      have K1 := Lib.hid (KK.out.below hb)
      clear hb KK
      go_wp2_with fail
      refine (K1.out.1.node HI.out HS.out HK.out HH.out j S hj HB1.out HB2.out).mono ?_
      rintro e w4 ⟨rfl, hb⟩
      rw [HXE.out]
      have K2 := Lib.hid (K1.out.below hb)
      clear hb K1
      go_wp2_with (refine wpList_alloc_blk rfl 23 rfl _ z24 ?_)
      intro w5 a1 a2 a3
      obtain ⟨g7, hg7⟩ : ∃ g, w4.heap.size = g := ⟨_, rfl⟩
      have hK3 := K2.out.below a3
      have hbg : b ≤ g7 := by have := K2.out.2.2.1; omega
      rw [hg7] at a1 a2 a3 ⊢
      have A1 := Lib.hid a1
      obtain ⟨t5, ht5⟩ : ∃ t, w5.setRow g7 (bys X).toArray = t := ⟨_, rfl⟩
      have hb4 : Below w4.heap.size w4 t5 := by rw [← ht5, hg7]; exact below_setRow' a3 (Nat.le_refl _) _
      have K3 := Lib.hid (K2.out.below hb4)
      have L7 : Hid (Blk t5 g7 (bys X) 23) := by rw [← ht5]; exact a1.setRow
      have hl7 : g7 < t5.heap.size := L7.out.lt
      clear a1 a2 a3 hK3 hb4 hg7 K2
      go_wp2_with (first | (refine wpList_store_blk rfl 23 _ _ rfl g7 (bys X) z32 23 rfl rfl A1.out H24.out HLZ.out (bys_one' _) ?_; rw [ht5]; clear ht5) | (at_builtin; refine wpList_app rfl _ _ 34 rfl 5 i0 Tryz.underlying34 HIN.out H0.out H1.out H2.out b t5.heap.size _ _ ((sbl I seed k (2 ^ h) 0 h r).take (32 * j)) X rfl K3.out.2.1 rfl (Rd.blk 32 HXL.out L7.out hl7 (by omega)) (by rw [HEL.out, HXL.out]; omega) K3.out.2.2.1 ?_))
      intro v6 w6 hown6 hb6
      have K4 : Hid (SibAt w I seed k h g0 g1 g2 b v6 ((sbl I seed k (2 ^ h) 0 h r).take (32 * (j + 1))) w6) := by
        obtain ⟨f1, f2, f3, f4⟩ := K3.out
        rw [HTK.out]
        exact ⟨f1.below hb6 hgb0 hgb1 hgb2, hown6, Nat.le_trans f3 hb6.size, f4.trans (hb6.mono hwb)⟩
      clear hown6 hb6 K3 L7 hl7 A1
      have zq : (R : Int) / 2 = ((R / 2 : Nat) : Int) := by omega
      have zt : Int.tdiv (R : Int) 2 = ((R / 2 : Nat) : Int) := by rw [Int.tdiv_eq_ediv_of_nonneg (by omega)]; exact zq
      obtain ⟨R2, hR2⟩ : ∃ x, R / 2 = x := ⟨_, rfl⟩
      rw [hR2] at zq zt
      have hR2n : r / 2 ^ (j + 1) = R2 := by rw [HRN.out, hR2]
      have HR2N := Lib.hid hR2n
      have hlt2 : R2 < R := by omega
      have hz2 : R2 ≤ 64 := by omega
      clear hR2 hR2n
      go_wp2
      go_roundw
      case rel => exact ⟨j + 1, by omega, by rw [HR2N.out], K4⟩
      case measure => simp [intOf]; omega
    · have hjh : j = h := by omega
      subst hjh
      have hR1 : R = 1 := by rw [Nat.sub_self, Nat.pow_zero] at hRlo hRhi; omega
      subst hR1
      rw [List.take_of_length_le (by rw [sbl_length]; omega)] at KK
      clear hRlo hRhi
      go_wp2
      go_ret
      exact ⟨_, rfl, KK.out.2.1.base hwb, KK.out.2.2.2⟩
end Go.Proofs.YtnemkefmlffigaaGreat
