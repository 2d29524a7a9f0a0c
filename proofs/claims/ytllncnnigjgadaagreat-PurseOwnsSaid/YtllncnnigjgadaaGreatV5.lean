/-
  The document's lms: Verify, for every bytes that have the form of a signature.
-/
import Derived.Test.YtllncnnigjgadaaGreatV3
namespace Go.Proofs.YtllncnnigjgadaaGreat
open Go.RowKit

theorem wrap_u32s (n : Int) (h0 : 0 ≤ n) (h1 : n ≤ 4294967295) : IntKind.u32.wrap n = n := by
  unfold IntKind.wrap
  simp [IntKind.signed, IntKind.bits]
  omega
set_option maxRecDepth 100000 in
set_option maxHeartbeats 4000000 in
theorem rfVer_good (p s text R : List UInt8) (k h : Nat) (pv tv sv : Value) (w : World) (hp : Rd w.heap.size w pv p) (hs : Rd w.heap.size w sv s) (ht : Rd w.heap.size w tv text) (htl : text.length ≤ 90000) (hl : p.length = 56) (hf : LFit (wd p 0) (wd (p.drop 4) 0) k h) (hR : (p.drop 8).take 16 = R) (hlen : s.length = llng k h) (hA : (s.drop 4).take 4 = (p.drop 4).take 4) (hB : (s.drop (4 + lng k)).take 4 = p.take 4) (hq : wd s 0 < 2 ^ h) : Calls Tryz.prog 10 #[pv, tv, sv] w (One (.int .i64 (if lroot R ((s.drop 4).take (lng k)) text ((s.drop (4 + lng k)).drop 4) k h (wd s 0) = p.drop 24 then 0 else 16)) w) := by
  have hform := rfForm_yes pv p k h w hp hl hf
  obtain ⟨hk, hh, hk1, hk2⟩ := hf
  obtain ⟨l36, l85⟩ := lng_le hk
  have hh5 : h ≤ 5 := by unfold Ht at hh; omega
  have hLL : llng k h = 4 + lng k + 4 + h * 32 := rfl
  have hRl : R.length = 16 := by rw [← hR, List.length_take, List.length_drop, hl]; omega
  rw [hR] at hform
  obtain ⟨aP, cP, rfl, hcP, hmP⟩ := hp.some_ (by omega)
  unfold maxLen at hmP
  rw [hl] at hp hcP hform ⊢
  have HP4 : Hid (Rd w.heap.size w (.slice (some aP) 4 cP) (p.take 4)) := hp.take 4 (by omega)
  have HP8 : Hid (Rd w.heap.size w (.slice (some (aP.add 4)) 4 (cP - 4)) ((p.drop 4).take 4)) := by
    have h := hp.dropE 4 (by omega)
    rw [if_neg (by omega)] at h
    exact h.take 4 (by omega)
  have HPR : Hid (Rd w.heap.size w (.slice (some (aP.add 24)) 32 (cP - 24)) (p.drop 24)) := by
    have h := hp.dropE 24 (by omega)
    rw [if_neg (by omega)] at h
    exact h
  have hPRl : (p.drop 24).length = 32 := by rw [List.length_drop, hl]
  obtain ⟨b1, hb1⟩ : ∃ x, p.take 4 = x := ⟨_, rfl⟩
  obtain ⟨b2, hb2⟩ : ∃ x, (p.drop 4).take 4 = x := ⟨_, rfl⟩
  rw [hb1] at HP4
  rw [hb2] at HP8
  obtain ⟨n, hn⟩ : ∃ n, lng k = n := ⟨_, rfl⟩
  rw [hn] at hLL l36 l85
  obtain ⟨m1, hm1⟩ : ∃ x, 4 + n = x := ⟨_, rfl⟩
  obtain ⟨m2, hm2⟩ : ∃ x, 8 + n = x := ⟨_, rfl⟩
  obtain ⟨LL, hLE⟩ : ∃ x, 4 + n + 4 + h * 32 = x := ⟨_, rfl⟩
  have HM1 : Hid (4 + (n : Int) = (m1 : Int)) := by show _ = _; omega
  have HM2 : Hid (8 + (n : Int) = (m2 : Int)) := by show _ = _; omega
  have HM3 : Hid ((m1 : Int) + 4 = (m2 : Int)) := by show _ = _; omega
  have HM4 : Hid ((m2 : Int) + 32 * (h : Int) = (LL : Int)) := by show _ = _; omega
  have hLLb : LL ≤ 9000 := by omega
  have hm1b : m1 ≤ 9000 := by omega
  have hm2b : m2 ≤ 9000 := by omega
  have HFORM := Lib.hid hform
  have HK := Lib.hid hk
  have HHT := Lib.hid hh
  have HRL := Lib.hid hRl
  have HN := Lib.hid hn
  obtain ⟨nS, hnS⟩ : ∃ x, s.length = x := ⟨_, rfl⟩
  obtain ⟨aS, cS, rfl, hcS, hmS⟩ := hs.some_ (by omega)
  unfold maxLen at hmS
  have HS8 : Hid (Rd w.heap.size w (.slice (some (aS.add 4)) 4 (cS - 4)) ((s.drop 4).take 4)) := by
    have h := hs.dropE 4 (by omega)
    rw [if_neg (by omega)] at h
    exact h.take 4 (by omega)
  have HSB4 : Hid (Rd w.heap.size w (.slice (some (aS.add m1)) 4 (cS - m1)) ((s.drop m1).take 4)) := by
    have h := hs.dropE m1 (by omega)
    rw [if_neg (by omega)] at h
    exact h.take 4 (by omega)
  have HS := Lib.hid hs
  obtain ⟨sA, hsA⟩ : ∃ x, (s.drop 4).take 4 = x := ⟨_, rfl⟩
  obtain ⟨sB, hsB⟩ : ∃ x, (s.drop m1).take 4 = x := ⟨_, rfl⟩
  rw [hsA] at HS8
  rw [hsB] at HSB4
  rw [hnS] at hcS HS ⊢
  have HLN : Hid (nS = LL) := by show _ = _; omega
  have hcS8 : m2 ≤ cS ∧ 44 ≤ m2 ∧ m1 + 4 = m2 ∧ 40 ≤ m1 := by omega
  have HSA : Hid (sA = b2) := by show _ = _; rw [← hsA, ← hb2]; exact hA
  have HSBE : Hid (sB = b1) := by show _ = _; rw [← hsB, ← hb1, ← hm1, ← hn]; exact hB
  have HLF : Hid (∀ w', Below w.heap.size w w' → Calls Tryz.prog 8 #[.slice (some aS) nS cS] w' (TwoD (.int .i64 (wd s 0 : Nat)) (.int .i64 0) w')) := fun w' hb => rfLeaf_yes _ s w' ((HS.out.below hb).more hb.size) (by omega)
  have HO : Hid (Rd w.heap.size w (.slice (some (aS.add 4)) n (cS - 4)) ((s.drop 4).take n)) := by
    have h := hs.dropE 4 (by omega)
    rw [if_neg (by omega)] at h
    have h2 := h.take n (by omega)
    exact h2
  have hOl : ((s.drop 4).take n).length = n := by rw [List.length_take, List.length_drop]; omega
  have hO4 : ((s.drop 4).take n).take 4 = be 4 (typ k) := by
    rw [List.take_take, Nat.min_eq_left (by omega), hA, take4_wd _ (by rw [List.length_drop]; omega), hk2]
  have hCAND : ∀ w', Below w.heap.size w w' → Calls Tryz.prog 37 #[.agg (bys R).toArray, .int .u32 ((wd s 0 : Nat) : Int), tv, .slice (some (aS.add 4)) n (cS - 4)] w' (TwoD (.agg (bys (cndL (pre20 R (wd s 0)) ((s.drop 4).take n) text k)).toArray) (.int .i64 0) w') := fun w' hb =>
    refCand_yes R text _ (wd s 0) k _ _ w' hRl (wd_lt _ _) ((ht.below hb).more hb.size) ((HO.out.below hb).more hb.size) htl (by omega) (by omega) hk (by rw [hOl, hn]) (by rw [hO4]; exact wSel_hit _ k hk rfl)
  obtain ⟨q, hqE⟩ : ∃ x, wd s 0 = x := ⟨_, rfl⟩
  rw [hn]
  rw [hqE] at HLF hq hCAND ⊢
  obtain ⟨CC, hCC⟩ : ∃ x, cndL (pre20 R q) ((s.drop 4).take n) text k = x := ⟨_, rfl⟩
  have hCl : CC.length = 32 := by rw [← hCC]; exact hpub_length _ _
  rw [hCC] at hCAND
  obtain ⟨P2, hP2⟩ : ∃ x, 2 ^ h = x := ⟨_, rfl⟩
  have hp32 : P2 ≤ 32 := by rw [← hP2]; rcases hh with rfl | rfl | rfl | rfl | rfl <;> decide
  have hdd : (s.drop (4 + n)).drop 4 = s.drop m2 := by rw [List.drop_drop]; congr 1; omega
  have hroot : lroot R ((s.drop 4).take n) text ((s.drop (4 + n)).drop 4) k h q = clm R h (P2 + q) (leafL R (P2 + q) CC) (s.drop m2) := by unfold lroot; rw [hCC, hP2, hdd]
  rw [hroot]
  rw [hP2] at hq
  have HP2 := Lib.hid hP2
  have HCAND := Lib.hid hCAND
  have HCL := Lib.hid hCl
  obtain ⟨PR, hPRE⟩ : ∃ x, p.drop 24 = x := ⟨_, rfl⟩
  rw [hPRE] at HPR hPRl ⊢
  have HPRL := Lib.hid hPRl
  obtain ⟨r0, hr0⟩ : ∃ x, P2 + q = x := ⟨_, rfl⟩
  rw [hr0]
  have HR0 : Hid ((P2 : Int) + (q : Int) = (r0 : Int)) := by show _ = _; omega
  have hr64 : r0 < 64 := by omega
  have HR1 : Hid (2 ^ h ≤ r0) := by show _ ≤ _; omega
  have HR2 : Hid (r0 < 2 * 2 ^ h) := by show _ < _; omega
  obtain ⟨X0, hX0⟩ : ∃ x, leafL R r0 CC = x := ⟨_, rfl⟩
  have hX0l : X0.length = 32 := by rw [← hX0]; exact leafL_length _ _ _
  rw [hX0]
  obtain ⟨F, hF⟩ : ∃ x, clm R h r0 X0 (s.drop m2) = x := ⟨_, rfl⟩
  have hFl : F.length = 32 := by rw [← hF]; exact clm_length R h r0 X0 _ hX0l
  rw [hF]
  obtain ⟨RES, hRES⟩ : ∃ x : Int, (if F = PR then (0 : Int) else 16) = x := ⟨_, rfl⟩
  rw [hRES]
  have HRES := Lib.hid hRES
  have HX0 := Lib.hid hX0
  have HX0L := Lib.hid hX0l
  have HF := Lib.hid hF
  have HFL := Lib.hid hFl
  have HSL : Hid (s.length = LL) := by show _ = _; omega
  have HLLE : Hid (LL = m2 + h * 32) := by show _ = _; omega
  obtain ⟨At, ct, rfl, hct, hmt⟩ := ht.shape
  have HCES : Hid (∀ j, j < nS → w.cell? (aS.add j) = some (.int .u8 (((s.getD j 0).toNat : Nat) : Int))) := fun j hj => hs.cellE j (by omega)
  have HSBK := Lib.hid (hs.blockE (by omega))
  obtain ⟨nT, hnT⟩ : ∃ x, text.length = x := ⟨_, rfl⟩
  rw [hnT] at HCAND hct ⊢
  clear hform hk hh hk1 hk2 hRl hn hb1 hb2 hp hl hs hnS hlen hLL hLE hm1 hsA hsB hA hB hm2 hqE hP2 hCAND hCC hCl hOl hO4 hPRE hPRl hr0 hX0 hX0l hF hFl hdd hroot hRES ht htl hnT hct hmt HO hR
  go_enter Tryz.func10, Tryz.ntmps10
  go_wp2_with fail
  refine (HFORM.out).mono ?_
  rintro e w1 ⟨rfl, hb⟩
  have A3 : Hid (Below w.heap.size w w1) := hb
  clear hb
  go_wp2_with (refine wpList_alloc_blk rfl 38 rfl _ ziTreeV ?_)
  intro w2 a1 a2 a3
  obtain ⟨g7, hg7⟩ : ∃ g, w1.heap.size = g := ⟨_, rfl⟩
  have hw7 : w.heap.size ≤ g7 := by have := A3.out.size; omega
  rw [hg7] at a1 a2 a3 ⊢
  have G7 := Lib.hid a1
  obtain ⟨w3, hw3⟩ : ∃ u, w2.setRow g7 (tcs R Z32 (k : Int) (h : Int)).toArray = u := ⟨_, rfl⟩
  have B7 : Hid (Blk w3 g7 (tcs R Z32 (k : Int) (h : Int)) 38) := by show Blk _ _ _ _; rw [← hw3]; exact a1.setRow
  have B3 : Hid (Below w.heap.size w w3) := by show Below _ _ _; rw [← hw3]; exact below_setRow' (A3.out.trans (a3.mono hw7)) hw7 _
  have HW3 := Lib.hid hw3
  clear a1 a2 a3 hg7 hw3 A3
  have cz := B7.out.cell 48
  rw [tcs_z _ _ _ _ HRL.out Z32l] at cz
  go_wp2_with (first | (refine wpList_store_blk rfl 38 _ _ rfl g7 (tcs R Z32 (k : Int) (h : Int)) (tcs Z16 Z32 0 0) 38 rfl rfl G7.out (sTreeV _ _ _ _ HRL.out Z32l) (by rw [tcs_length _ _ _ _ HRL.out Z32l]; rfl) (tcs_one _ _ _ _) ?_; rw [HW3.out]; clear HW3))
  refine (refLong_yes k _ HK.out).mono ?_
  rw [HN.out]
  rintro e w4 ⟨rfl, nd, rfl⟩
  have C7 : Hid (Blk (w3.drewN nd) g7 (tcs R Z32 (k : Int) (h : Int)) 38) := B7.out
  have C3 : Hid (Below w.heap.size w (w3.drewN nd)) := Below.drewN' B3.out
  generalize w3.drewN nd = w5 at C7 C3 ⊢
  clear B7 B3 cz G7
  go_wp2_with fail
  refine wp_region_rely2 32 0 (fun x => ⟨#[.slice (some aP) 56 cP, .slice At nT ct, .slice (some aS) nS cS, undef, undef, undef, .int IntKind.i64 0, .pointer (some { block := g7, off := 0 }), .bool true, .int IntKind.i64 ↑n, .int IntKind.i64 0, undef, undef, undef, undef, undef, undef, undef, undef, undef, .tuple #[Value.agg (tcs R Z32 ↑k ↑h).toArray, Value.bool true], .slice (some aP) 56 cP, .tuple #[Value.agg (tcs R Z32 ↑k ↑h).toArray, Value.bool true], .agg (tcs R Z32 ↑k ↑h).toArray, .bool true, .bool true, .bool false, .tuple #[Value.int IntKind.i64 ↑n, Value.int IntKind.i64 0], .pointer (some { block := g7, off := 48 }), .int IntKind.i64 ↑k, .tuple #[Value.int IntKind.i64 ↑n, Value.int IntKind.i64 0], .int IntKind.i64 ↑n, .int IntKind.i64 0, x 0, x 1, x 2, x 3, x 4, x 5, x 6, x 7, x 8, x 9, x 10, x 11, x 12, x 13, x 14, x 15, x 16, x 17, x 18, x 19, x 20, x 21, x 22, x 23, x 24, x 25, x 26, x 27, x 28, x 29, x 30, x 31, undef, undef, undef, undef, undef, undef, undef, undef, undef, undef, undef, undef, undef, undef, undef, undef, undef, undef, undef, undef, undef, undef, undef, undef, undef, undef, undef, undef, undef, undef, undef, undef, undef, undef, undef, undef, undef, undef, undef, undef, undef, undef, undef, undef, undef, undef, undef, undef, undef, undef, undef, undef, undef, undef, undef, undef, undef, undef, undef, undef, undef, undef, undef, undef, undef, undef, undef, undef, undef, undef, undef, undef, undef, undef, undef, undef, undef], []⟩) (fun jj => ([eqV (.slice (some aS) nS cS), eqV (.int .i64 (nS : Int)), eqV (.int IntKind.i64 ↑n), eqV (.int .i64 (m1 : Int)), eqV (.int .i64 (m2 : Int)), eqV (.pointer (some ⟨g7, 49, none⟩)), eqV (.int .i64 (h : Int)), eqV (.int .i64 (32 * (h : Int))), eqV (.int .i64 (LL : Int)), eqV (.bool false), eqV (.bool false), eqV (.slice (some aS) nS cS), eqV (.slice (some (aS.add 4)) 4 (cS - 4)), eqV (.string ⟨sA.toArray⟩), eqV (.slice (some aP) 56 cP), eqV (.slice (some (aP.add 4)) 4 (cP - 4)), eqV (.string ⟨b2.toArray⟩), eqV (.bool false), eqV (.bool false), eqV (.bool false), eqV (.slice (some aS) nS cS), eqV (.int IntKind.i64 ↑n), eqV (.int .i64 (m1 : Int)), eqV (.int IntKind.i64 ↑n), eqV (.int .i64 (m2 : Int)), eqV (.slice (some (aS.add m1)) 4 (cS - m1)), eqV (.string ⟨sB.toArray⟩), eqV (.slice (some aP) 56 cP), eqV (.slice (some aP) 4 cP), eqV (.string ⟨b1.toArray⟩), eqV (.bool false), eqV (.bool false)] : List (Value → World → Prop)).getD jj (fun _ _ => True)) rfl ⟨fun kk => [_, _, _, _, _, _, _, _, _, _, _, _, _, _, _, _, _, _, _, _, _, _, _, _, _, _, _, _, _, _, _, _].getD kk undef, rfl⟩ (by kernel_rfl) (by kernel_rfl) ?steps ?fin
  case steps =>
    refine StepsAt.val 0 (.slice (some aS) nS cS) rfl (fun _ _ => rfl) rfl rfl (fun x w6 hb hd => ?_) ?_
    · first | (go_simp; done) | (go_simp; rfl)
    refine StepsAt.val 1 (.int .i64 (nS : Int)) rfl (fun _ _ => rfl) rfl rfl (fun x w6 hb hd => ?_) ?_
    · have h0 : x 0 = .slice (some aS) nS cS := hd 0 (by kernel_rfl)
      rw [h0]
      first | (go_simp; done) | (go_simp; rfl)
    refine StepsAt.val 2 (.int IntKind.i64 ↑n) rfl (fun _ _ => rfl) rfl rfl (fun x w6 hb hd => ?_) ?_
    · first | (go_simp; done) | (go_simp; rfl)
    refine StepsAt.val 3 (.int .i64 (m1 : Int)) rfl (fun _ _ => rfl) rfl rfl (fun x w6 hb hd => ?_) ?_
    · have h2 : x 2 = .int IntKind.i64 ↑n := hd 2 (by kernel_rfl)
      rw [h2]
      go_simp
      rw [HM1.out]
      exact wrap_i64s _ (by omega) (by omega)
    refine StepsAt.val 4 (.int .i64 (m2 : Int)) rfl (fun _ _ => rfl) rfl rfl (fun x w6 hb hd => ?_) ?_
    · have h3 : x 3 = .int .i64 (m1 : Int) := hd 3 (by kernel_rfl)
      rw [h3]
      go_simp
      rw [HM3.out]
      exact wrap_i64s _ (by omega) (by omega)
    refine StepsAt.val 5 (.pointer (some ⟨g7, 49, none⟩)) rfl (fun _ _ => rfl) rfl rfl (fun x w6 hb hd => ?_) ?_
    · first | (go_simp; done) | (go_simp; rfl)
    refine StepsAt.val 6 (.int .i64 (h : Int)) rfl (fun _ _ => rfl) rfl rfl (fun x w6 hb hd => ?_) ?_
    · have h5 : x 5 = .pointer (some ⟨g7, 49, none⟩) := hd 5 (by kernel_rfl)
      have cc := ((C7.out.below hb C7.out.lt).cell 49).trans (show (tcs R Z32 (k : Int) (h : Int))[49]? = some (.int .i64 (h : Int)) from tcs_y _ _ _ _ HRL.out Z32l)
      rw [h5]
      first | (go_simp; done) | (go_simp; rfl)
    refine StepsAt.val 7 (.int .i64 (32 * (h : Int))) rfl (fun _ _ => rfl) rfl rfl (fun x w6 hb hd => ?_) ?_
    · have h6 : x 6 = .int .i64 (h : Int) := hd 6 (by kernel_rfl)
      rw [h6]
      first | (go_simp; done) | (go_simp; exact wrap_i64s _ (by omega) (by omega))
    refine StepsAt.val 8 (.int .i64 (LL : Int)) rfl (fun _ _ => rfl) rfl rfl (fun x w6 hb hd => ?_) ?_
    · have h4 : x 4 = .int .i64 (m2 : Int) := hd 4 (by kernel_rfl)
      have h7 : x 7 = .int .i64 (32 * (h : Int)) := hd 7 (by kernel_rfl)
      rw [h4, h7]
      go_simp
      rw [HM4.out]
      exact wrap_i64s _ (by omega) (by omega)
    refine StepsAt.val 9 (.bool false) rfl (fun _ _ => rfl) rfl rfl (fun x w6 hb hd => ?_) ?_
    · have h1 : x 1 = .int .i64 (nS : Int) := hd 1 (by kernel_rfl)
      have h8 : x 8 = .int .i64 (LL : Int) := hd 8 (by kernel_rfl)
      rw [h1, h8]
      have hx := HLN.out
      first | (go_simp; done) | (go_simp; omega) | (go_simp; exact hx)
    refine StepsAt.val 10 (.bool false) rfl (fun _ _ => rfl) rfl rfl (fun x w6 hb hd => ?_) ?_
    · have h9 : x 9 = .bool false := hd 9 (by kernel_rfl)
      rw [h9]
      first | (go_simp; done) | (go_simp; rfl)
    refine StepsAt.valG 11 (.slice (some aS) nS cS) rfl (fun _ _ => rfl) rfl (fun x w6 hd => ?_) (fun x w6 hb hd => ?_) ?_
    · have hG : x 10 = .bool false := hd 10 (by kernel_rfl)
      simp [Region.wanted, yielded, hG]
    · first | (go_simp; done) | (go_simp; rfl)
    refine StepsAt.valG 12 (.slice (some (aS.add 4)) 4 (cS - 4)) rfl (fun _ _ => rfl) rfl (fun x w6 hd => ?_) (fun x w6 hb hd => ?_) ?_
    · have hG : x 10 = .bool false := hd 10 (by kernel_rfl)
      simp [Region.wanted, yielded, hG]
    · have h11 : x 11 = .slice (some aS) nS cS := hd 11 (by kernel_rfl)
      have zc : ¬ ((cS : Int) < 8) := by omega
      have zc4 : ¬ (cS = 4) := by omega
      rw [h11]
      first | (go_simp; done) | (go_simp; rfl)
    refine StepsAt.valG 13 (.string ⟨sA.toArray⟩) rfl (fun _ _ => rfl) rfl (fun x w6 hd => ?_) (fun x w6 hb hd => ?_) ?_
    · have hG : x 10 = .bool false := hd 10 (by kernel_rfl)
      simp [Region.wanted, yielded, hG]
    · have h12 : x 12 = .slice (some (aS.add 4)) 4 (cS - 4) := hd 12 (by kernel_rfl)
      have r1 := ((HS8.out.below C3.out).below (hb.mono C3.out.size))
      have t1 := run_string_rd 22 9 5 Tryz.underlying22 Tryz.underlying5 Tryz.underlying9 r1
      simp [Addr.add] at t1
      rw [h12]
      clear r1
      first | (go_simp; done) | (go_simp; rfl)
    refine StepsAt.valG 14 (.slice (some aP) 56 cP) rfl (fun _ _ => rfl) rfl (fun x w6 hd => ?_) (fun x w6 hb hd => ?_) ?_
    · have hG : x 10 = .bool false := hd 10 (by kernel_rfl)
      simp [Region.wanted, yielded, hG]
    · first | (go_simp; done) | (go_simp; rfl)
    refine StepsAt.valG 15 (.slice (some (aP.add 4)) 4 (cP - 4)) rfl (fun _ _ => rfl) rfl (fun x w6 hd => ?_) (fun x w6 hb hd => ?_) ?_
    · have hG : x 10 = .bool false := hd 10 (by kernel_rfl)
      simp [Region.wanted, yielded, hG]
    · have h14 : x 14 = .slice (some aP) 56 cP := hd 14 (by kernel_rfl)
      have zc : ¬ ((cP : Int) < 8) := by omega
      have zc4 : ¬ (cP = 4) := by omega
      rw [h14]
      first | (go_simp; done) | (go_simp; rfl)
    refine StepsAt.valG 16 (.string ⟨b2.toArray⟩) rfl (fun _ _ => rfl) rfl (fun x w6 hd => ?_) (fun x w6 hb hd => ?_) ?_
    · have hG : x 10 = .bool false := hd 10 (by kernel_rfl)
      simp [Region.wanted, yielded, hG]
    · have h15 : x 15 = .slice (some (aP.add 4)) 4 (cP - 4) := hd 15 (by kernel_rfl)
      have r1 := ((HP8.out.below C3.out).below (hb.mono C3.out.size))
      have t1 := run_string_rd 22 9 5 Tryz.underlying22 Tryz.underlying5 Tryz.underlying9 r1
      simp [Addr.add] at t1
      rw [h15]
      clear r1
      first | (go_simp; done) | (go_simp; rfl)
    refine StepsAt.valG 17 (.bool false) rfl (fun _ _ => rfl) rfl (fun x w6 hd => ?_) (fun x w6 hb hd => ?_) ?_
    · have hG : x 10 = .bool false := hd 10 (by kernel_rfl)
      simp [Region.wanted, yielded, hG]
    · have h13 : x 13 = .string ⟨sA.toArray⟩ := hd 13 (by kernel_rfl)
      have h16 : x 16 = .string ⟨b2.toArray⟩ := hd 16 (by kernel_rfl)
      rw [h13, h16]
      rw [HSA.out]
      first | (go_simp; done) | (go_simp; rfl)
    refine StepsAt.val 18 (.bool false) rfl (fun _ _ => rfl) rfl rfl (fun x w6 hb hd => ?_) ?_
    · have h10 : x 10 = .bool false := hd 10 (by kernel_rfl)
      have h17 : x 17 = .bool false := hd 17 (by kernel_rfl)
      rw [h10, h17]
      first | (go_simp; done) | (go_simp; rfl)
    refine StepsAt.val 19 (.bool false) rfl (fun _ _ => rfl) rfl rfl (fun x w6 hb hd => ?_) ?_
    · have h18 : x 18 = .bool false := hd 18 (by kernel_rfl)
      rw [h18]
      first | (go_simp; done) | (go_simp; rfl)
    refine StepsAt.valG 20 (.slice (some aS) nS cS) rfl (fun _ _ => rfl) rfl (fun x w6 hd => ?_) (fun x w6 hb hd => ?_) ?_
    · have hG : x 19 = .bool false := hd 19 (by kernel_rfl)
      simp [Region.wanted, yielded, hG]
    · first | (go_simp; done) | (go_simp; rfl)
    refine StepsAt.valG 21 (.int IntKind.i64 ↑n) rfl (fun _ _ => rfl) rfl (fun x w6 hd => ?_) (fun x w6 hb hd => ?_) ?_
    · have hG : x 19 = .bool false := hd 19 (by kernel_rfl)
      simp [Region.wanted, yielded, hG]
    · first | (go_simp; done) | (go_simp; rfl)
    refine StepsAt.valG 22 (.int .i64 (m1 : Int)) rfl (fun _ _ => rfl) rfl (fun x w6 hd => ?_) (fun x w6 hb hd => ?_) ?_
    · have hG : x 19 = .bool false := hd 19 (by kernel_rfl)
      simp [Region.wanted, yielded, hG]
    · have h21 : x 21 = .int IntKind.i64 ↑n := hd 21 (by kernel_rfl)
      rw [h21]
      go_simp
      rw [HM1.out]
      exact wrap_i64s _ (by omega) (by omega)
    refine StepsAt.valG 23 (.int IntKind.i64 ↑n) rfl (fun _ _ => rfl) rfl (fun x w6 hd => ?_) (fun x w6 hb hd => ?_) ?_
    · have hG : x 19 = .bool false := hd 19 (by kernel_rfl)
      simp [Region.wanted, yielded, hG]
    · first | (go_simp; done) | (go_simp; rfl)
    refine StepsAt.valG 24 (.int .i64 (m2 : Int)) rfl (fun _ _ => rfl) rfl (fun x w6 hd => ?_) (fun x w6 hb hd => ?_) ?_
    · have hG : x 19 = .bool false := hd 19 (by kernel_rfl)
      simp [Region.wanted, yielded, hG]
    · have h23 : x 23 = .int IntKind.i64 ↑n := hd 23 (by kernel_rfl)
      rw [h23]
      go_simp
      rw [HM2.out]
      exact wrap_i64s _ (by omega) (by omega)
    refine StepsAt.valG 25 (.slice (some (aS.add m1)) 4 (cS - m1)) rfl (fun _ _ => rfl) rfl (fun x w6 hd => ?_) (fun x w6 hb hd => ?_) ?_
    · have hG : x 19 = .bool false := hd 19 (by kernel_rfl)
      simp [Region.wanted, yielded, hG]
    · have h20 : x 20 = .slice (some aS) nS cS := hd 20 (by kernel_rfl)
      have h22 : x 22 = .int .i64 (m1 : Int) := hd 22 (by kernel_rfl)
      have h24 : x 24 = .int .i64 (m2 : Int) := hd 24 (by kernel_rfl)
      have zc : ¬ ((cS : Int) < (m2 : Int)) := by omega
      have zc2 : ¬ ((m2 : Int) < (m1 : Int)) := by omega
      have zc4 : ¬ (cS = m1) := by omega
      have zn1 : ¬ (m2 < m1) := by omega
      have zn2 : ¬ (cS < m2) := by omega
      have zc5 : m2 - m1 = 4 := by omega
      have zc6 : (((m2 : Int) - (m1 : Int))).toNat = 4 := by omega
      rw [h20, h22, h24]
      first | (go_simp; done) | (go_simp; rfl)
    refine StepsAt.valG 26 (.string ⟨sB.toArray⟩) rfl (fun _ _ => rfl) rfl (fun x w6 hd => ?_) (fun x w6 hb hd => ?_) ?_
    · have hG : x 19 = .bool false := hd 19 (by kernel_rfl)
      simp [Region.wanted, yielded, hG]
    · have h25 : x 25 = .slice (some (aS.add m1)) 4 (cS - m1) := hd 25 (by kernel_rfl)
      have r1 := ((HSB4.out.below C3.out).below (hb.mono C3.out.size))
      have t1 := run_string_rd 22 9 5 Tryz.underlying22 Tryz.underlying5 Tryz.underlying9 r1
      rw [h25]
      clear r1
      first | (go_simp; done) | (go_simp; rfl)
    refine StepsAt.valG 27 (.slice (some aP) 56 cP) rfl (fun _ _ => rfl) rfl (fun x w6 hd => ?_) (fun x w6 hb hd => ?_) ?_
    · have hG : x 19 = .bool false := hd 19 (by kernel_rfl)
      simp [Region.wanted, yielded, hG]
    · first | (go_simp; done) | (go_simp; rfl)
    refine StepsAt.valG 28 (.slice (some aP) 4 cP) rfl (fun _ _ => rfl) rfl (fun x w6 hd => ?_) (fun x w6 hb hd => ?_) ?_
    · have hG : x 19 = .bool false := hd 19 (by kernel_rfl)
      simp [Region.wanted, yielded, hG]
    · have h27 : x 27 = .slice (some aP) 56 cP := hd 27 (by kernel_rfl)
      have zc : ¬ ((cP : Int) < 4) := by omega
      rw [h27]
      first | (go_simp; done) | (go_simp; rfl)
    refine StepsAt.valG 29 (.string ⟨b1.toArray⟩) rfl (fun _ _ => rfl) rfl (fun x w6 hd => ?_) (fun x w6 hb hd => ?_) ?_
    · have hG : x 19 = .bool false := hd 19 (by kernel_rfl)
      simp [Region.wanted, yielded, hG]
    · have h28 : x 28 = .slice (some aP) 4 cP := hd 28 (by kernel_rfl)
      have r1 := ((HP4.out.below C3.out).below (hb.mono C3.out.size))
      have t1 := run_string_rd 22 9 5 Tryz.underlying22 Tryz.underlying5 Tryz.underlying9 r1
      rw [h28]
      clear r1
      first | (go_simp; done) | (go_simp; rfl)
    refine StepsAt.valG 30 (.bool false) rfl (fun _ _ => rfl) rfl (fun x w6 hd => ?_) (fun x w6 hb hd => ?_) ?_
    · have hG : x 19 = .bool false := hd 19 (by kernel_rfl)
      simp [Region.wanted, yielded, hG]
    · have h26 : x 26 = .string ⟨sB.toArray⟩ := hd 26 (by kernel_rfl)
      have h29 : x 29 = .string ⟨b1.toArray⟩ := hd 29 (by kernel_rfl)
      rw [h26, h29]
      rw [HSBE.out]
      first | (go_simp; done) | (go_simp; rfl)
    refine StepsAt.val 31 (.bool false) rfl (fun _ _ => rfl) rfl rfl (fun x w6 hb hd => ?_) ?_
    · have h19 : x 19 = .bool false := hd 19 (by kernel_rfl)
      have h30 : x 30 = .bool false := hd 30 (by kernel_rfl)
      rw [h19, h30]
      first | (go_simp; done) | (go_simp; rfl)
    exact StepsAt.done
  case fin =>
    intro x w6 hb hd
    have hx0 : x 0 = .slice (some aS) nS cS := hd 0 (by omega)
    have hx1 : x 1 = .int .i64 (nS : Int) := hd 1 (by omega)
    have hx2 : x 2 = .int IntKind.i64 ↑n := hd 2 (by omega)
    have hx3 : x 3 = .int .i64 (m1 : Int) := hd 3 (by omega)
    have hx4 : x 4 = .int .i64 (m2 : Int) := hd 4 (by omega)
    have hx5 : x 5 = .pointer (some ⟨g7, 49, none⟩) := hd 5 (by omega)
    have hx6 : x 6 = .int .i64 (h : Int) := hd 6 (by omega)
    have hx7 : x 7 = .int .i64 (32 * (h : Int)) := hd 7 (by omega)
    have hx8 : x 8 = .int .i64 (LL : Int) := hd 8 (by omega)
    have hx9 : x 9 = .bool false := hd 9 (by omega)
    have hx10 : x 10 = .bool false := hd 10 (by omega)
    have hx11 : x 11 = .slice (some aS) nS cS := hd 11 (by omega)
    have hx12 : x 12 = .slice (some (aS.add 4)) 4 (cS - 4) := hd 12 (by omega)
    have hx13 : x 13 = .string ⟨sA.toArray⟩ := hd 13 (by omega)
    have hx14 : x 14 = .slice (some aP) 56 cP := hd 14 (by omega)
    have hx15 : x 15 = .slice (some (aP.add 4)) 4 (cP - 4) := hd 15 (by omega)
    have hx16 : x 16 = .string ⟨b2.toArray⟩ := hd 16 (by omega)
    have hx17 : x 17 = .bool false := hd 17 (by omega)
    have hx18 : x 18 = .bool false := hd 18 (by omega)
    have hx19 : x 19 = .bool false := hd 19 (by omega)
    have hx20 : x 20 = .slice (some aS) nS cS := hd 20 (by omega)
    have hx21 : x 21 = .int IntKind.i64 ↑n := hd 21 (by omega)
    have hx22 : x 22 = .int .i64 (m1 : Int) := hd 22 (by omega)
    have hx23 : x 23 = .int IntKind.i64 ↑n := hd 23 (by omega)
    have hx24 : x 24 = .int .i64 (m2 : Int) := hd 24 (by omega)
    have hx25 : x 25 = .slice (some (aS.add m1)) 4 (cS - m1) := hd 25 (by omega)
    have hx26 : x 26 = .string ⟨sB.toArray⟩ := hd 26 (by omega)
    have hx27 : x 27 = .slice (some aP) 56 cP := hd 27 (by omega)
    have hx28 : x 28 = .slice (some aP) 4 cP := hd 28 (by omega)
    have hx29 : x 29 = .string ⟨b1.toArray⟩ := hd 29 (by omega)
    have hx30 : x 30 = .bool false := hd 30 (by omega)
    have hx31 : x 31 = .bool false := hd 31 (by omega)
    refine AnyTill.any (S := fun _ => True) (m := 32) _ _ _ _ ?_
    refine AnyTill.done (by kernel_rfl) ?_
    refine NoPanic.normal ?_
    try dsimp only
    rw [hx0, hx1, hx2, hx3, hx4, hx5, hx6, hx7, hx8, hx9, hx10, hx11, hx12, hx13, hx14, hx15, hx16, hx17, hx18, hx19, hx20, hx21, hx22, hx23, hx24, hx25, hx26, hx27, hx28, hx29, hx30, hx31]
    have N7 : Hid (Blk w6 g7 (tcs R Z32 (k : Int) (h : Int)) 38) := C7.out.below hb C7.out.lt
    have N3 : Hid (Below w.heap.size w w6) := C3.out.trans (hb.mono C3.out.size)
    clear hx0 hx1 hx2 hx3 hx4 hx5 hx6 hx7 hx8 hx9 hx10 hx11 hx12 hx13 hx14 hx15 hx16 hx17 hx18 hx19 hx20 hx21 hx22 hx23 hx24 hx25 hx26 hx27 hx28 hx29 hx30 hx31 hd hb C7 C3 x
    go_wp2_with fail
    refine (HLF.out _ N3.out).mono ?_
    rintro e w7 ⟨rfl, hb⟩
    have O7 : Hid (Blk w7 g7 (tcs R Z32 (k : Int) (h : Int)) 38) := N7.out.below hb N7.out.lt
    have O3 : Hid (Below w.heap.size w w7) := N3.out.trans (hb.mono N3.out.size)
    clear hb N7 N3
    have cy := O7.out.cell 49
    rw [tcs_y _ _ _ _ HRL.out Z32l] at cy
    go_wp2_with fail
    refine (rfLeaves_any h _ HHT.out).mono ?_
    rintro e w8 ⟨rfl, rfl⟩
    rw [HP2.out]
    have dq : decide ((P2 : Int) ≤ (q : Int)) = false := decide_eq_false (by omega)
    have dq2 : decide (P2 ≤ q) = false := decide_eq_false (by omega)
    clear HLF
    go_wp2_with fail
    clear dq dq2 cy
    have H22 : Hid ((Tryz.prog.info? 29).map (·.size) = some (bys R).length) := by show _ = _; rw [bys_length, HRL.out]; exact s22
    have H24c : Hid ((Tryz.prog.info? 30).map (·.size) = some (bys CC).length) := by show _ = _; rw [bys_length, HCL.out]; exact s24
    have HLZc : Hid (z32.length = (bys CC).length) := by show _ = _; rw [bys_length, HCL.out, z32_length]
    have H24x : Hid ((Tryz.prog.info? 30).map (·.size) = some (bys X0).length) := by show _ = _; rw [bys_length, HX0L.out]; exact s24
    have HLZx : Hid (z32.length = (bys X0).length) := by show _ = _; rw [bys_length, HX0L.out, z32_length]
    refine wp_region_relyG 16 0 (LayG z32 30 w7.heap.size (bys CC)) (fun x => ⟨#[.slice (some aP) 56 cP, .slice At nT ct, .slice (some aS) nS cS, undef, undef, undef, .int IntKind.i64 0, .pointer (some { block := g7, off := 0 }), .bool true, .int IntKind.i64 ↑n, .int IntKind.i64 0, .int IntKind.i64 ↑q, .int IntKind.i64 0, x 13, x 15, undef, undef, undef, undef, undef, .tuple #[Value.agg (tcs R Z32 ↑k ↑h).toArray, Value.bool true], .slice (some aP) 56 cP, .tuple #[Value.agg (tcs R Z32 ↑k ↑h).toArray, Value.bool true], .agg (tcs R Z32 ↑k ↑h).toArray, .bool true, .bool true, .bool false, .tuple #[Value.int IntKind.i64 ↑n, Value.int IntKind.i64 0], .pointer (some { block := g7, off := 48 }), .int IntKind.i64 ↑k, .tuple #[Value.int IntKind.i64 ↑n, Value.int IntKind.i64 0], .int IntKind.i64 ↑n, .int IntKind.i64 0, .slice (some aS) nS cS, .int IntKind.i64 ↑nS, .int IntKind.i64 ↑n, .int IntKind.i64 ↑m1, .int IntKind.i64 ↑m2, .pointer (some { block := g7, off := 49 }), .int IntKind.i64 ↑h, .int IntKind.i64 (32 * ↑h), .int IntKind.i64 ↑LL, .bool false, .bool false, .slice (some aS) nS cS, .slice (some { block := aS.block, off := aS.off + 4 }) 4 (cS - 4), .string { data := sA.toArray }, .slice (some aP) 56 cP, .slice (some { block := aP.block, off := aP.off + 4 }) 4 (cP - 4), .string { data := b2.toArray }, .bool false, .bool false, .bool false, .slice (some aS) nS cS, .int IntKind.i64 ↑n, .int IntKind.i64 ↑m1, .int IntKind.i64 ↑n, .int IntKind.i64 ↑m2, .slice (some (aS.add m1)) 4 (cS - m1), .string { data := sB.toArray }, .slice (some aP) 56 cP, .slice (some aP) 4 cP, .string { data := b1.toArray }, .bool false, .bool false, .tuple #[Value.int IntKind.i64 ↑q, Value.int IntKind.i64 0], .slice (some aS) nS cS, .tuple #[Value.int IntKind.i64 ↑q, Value.int IntKind.i64 0], .int IntKind.i64 ↑q, .int IntKind.i64 0, .int IntKind.i64 ↑q, .pointer (some { block := g7, off := 49 }), .int IntKind.i64 ↑h, .int IntKind.i64 ↑P2, .bool false, x 10, x 0, x 1, x 2, x 3, x 4, x 5, x 6, x 7, x 8, x 9, x 11, x 12, undef, undef, undef, undef, undef, undef, undef, undef, undef, undef, undef, undef, undef, undef, undef, undef, undef, undef, undef, undef, undef, undef, undef, undef, undef, undef, undef, undef, undef, undef, undef, undef, undef, undef, undef, undef, undef, undef, undef, undef, undef, undef, undef, undef, undef, undef, undef, undef, undef, undef, undef, undef, undef, undef], []⟩) (fun jj => ([(fun x w => eqV (.pointer (some ⟨g7, 0, none⟩)) (x 0) w), (fun x w => eqV (.agg (bys R).toArray) (x 1) w), (fun x w => eqV (.int .i64 (q : Int)) (x 2) w), (fun x w => eqV (.int .u32 (q : Int)) (x 3) w), (fun x w => eqV (.slice At nT ct) (x 4) w), (fun x w => eqV (.slice (some aS) nS cS) (x 5) w), (fun x w => eqV (.int .i64 (n : Int)) (x 6) w), (fun x w => eqV (.int .i64 (m1 : Int)) (x 7) w), (fun x w => eqV (.slice (some (aS.add 4)) n (cS - 4)) (x 8) w), (fun x w => (eqV (.tuple #[.agg (bys CC).toArray, .int .i64 0])) (x 9) w), (fun x w => eqV (.tuple #[.agg (bys CC).toArray, .int .i64 0]) (x 10) w), (fun x w => eqV (.agg (bys CC).toArray) (x 11) w), (fun x w => eqV (.int .i64 0) (x 12) w), (fun x w => (NewG z32 30 w7.heap.size (bys CC)) (x 13) w), (fun x w => ∃ g, x 13 = .pointer (some ⟨g, 0, none⟩) ∧ w7.heap.size ≤ g ∧ Blk w g (bys CC) 30), (fun x w => eqV (.int .i64 0) (x 15) w)] : List ((Nat → Value) → World → Prop)).getD jj (fun _ _ => True)) rfl ⟨fun kk => [_, _, _, _, _, _, _, _, _, _, _, _, _, _, undef, _].getD kk undef, rfl⟩ (LayG.drew _ _ _ _ _) (fun _ _ _ h k => h.trans k) (by kernel_rfl) (by kernel_rfl) ?steps ?fin
    case steps =>
      refine StepsG.val 0 (.pointer (some ⟨g7, 0, none⟩)) (fun w => LayG.refl _ _ _ _ w) rfl (fun _ _ => rfl) rfl rfl (fun x w9 hb hd => ?_) ?_
      · first | (go_simp; done) | (go_simp; rfl)
      refine StepsG.val 1 (.agg (bys R).toArray) (fun w => LayG.refl _ _ _ _ w) rfl (fun _ _ => rfl) rfl rfl (fun x w9 hb hd => ?_) ?_
      · have h0 : x 0 = .pointer (some ⟨g7, 0, none⟩) := hd 0 (by kernel_rfl)
        exact run_load_mid 29 (.tmp 76) rfl g7 0 (by exact h0) (bys R) (tcs_rangeI (O7.out.below hb.below O7.out.lt)) 16 5 tu22 H22.out
      refine StepsG.val 2 (.int .i64 (q : Int)) (fun w => LayG.refl _ _ _ _ w) rfl (fun _ _ => rfl) rfl rfl (fun x w9 hb hd => ?_) ?_
      · first | (go_simp; done) | (go_simp; rfl)
      refine StepsG.val 3 (.int .u32 (q : Int)) (fun w => LayG.refl _ _ _ _ w) rfl (fun _ _ => rfl) rfl rfl (fun x w9 hb hd => ?_) ?_
      · have h2 : x 2 = .int .i64 (q : Int) := hd 2 (by kernel_rfl)
        rw [h2]
        first | (go_simp; done) | (go_simp; rfl) | (go_simp; exact wrap_u32s _ (by omega) (by omega))
      refine StepsG.val 4 (.slice At nT ct) (fun w => LayG.refl _ _ _ _ w) rfl (fun _ _ => rfl) rfl rfl (fun x w9 hb hd => ?_) ?_
      · first | (go_simp; done) | (go_simp; rfl)
      refine StepsG.val 5 (.slice (some aS) nS cS) (fun w => LayG.refl _ _ _ _ w) rfl (fun _ _ => rfl) rfl rfl (fun x w9 hb hd => ?_) ?_
      · first | (go_simp; done) | (go_simp; rfl)
      refine StepsG.val 6 (.int .i64 (n : Int)) (fun w => LayG.refl _ _ _ _ w) rfl (fun _ _ => rfl) rfl rfl (fun x w9 hb hd => ?_) ?_
      · first | (go_simp; done) | (go_simp; rfl)
      refine StepsG.val 7 (.int .i64 (m1 : Int)) (fun w => LayG.refl _ _ _ _ w) rfl (fun _ _ => rfl) rfl rfl (fun x w9 hb hd => ?_) ?_
      · have h6 : x 6 = .int .i64 (n : Int) := hd 6 (by kernel_rfl)
        rw [h6]
        go_simp
        rw [HM1.out]
        exact wrap_i64s _ (by omega) (by omega)
      refine StepsG.val 8 (.slice (some (aS.add 4)) n (cS - 4)) (fun w => LayG.refl _ _ _ _ w) rfl (fun _ _ => rfl) rfl rfl (fun x w9 hb hd => ?_) ?_
      · have h5 : x 5 = .slice (some aS) nS cS := hd 5 (by kernel_rfl)
        have h7 : x 7 = .int .i64 (m1 : Int) := hd 7 (by kernel_rfl)
        have zc : ¬ ((cS : Int) < (m1 : Int)) := by omega
        have zn1 : ¬ (cS < m1) := by omega
        have zn2 : ¬ (m1 < 4) := by omega
        have zc2 : ¬ ((m1 : Int) < 4) := by omega
        have zc4 : ¬ (cS = 4) := by omega
        have zc5 : m1 - 4 = n := by have := HM1.out; omega
        have zc6 : (((m1 : Int) - 4)).toNat = n := by have := HM1.out; omega
        have zp1 : m1 ≤ cS := by omega
        have zp2 : (4 : Int) ≤ (m1 : Int) := by omega
        rw [h5, h7]
        first | (go_simp; done) | (go_simp; rfl)
      refine StepsG.cons 9 (eqV (.tuple #[.agg (bys CC).toArray, .int .i64 0])) rfl (fun _ _ _ h hb => h) (fun _ _ => rfl) rfl rfl (fun x w9 hb hd K hK => ?_) ?_
      · have h1 : Hid (x 1 = .agg (bys R).toArray) := hd 1 (by kernel_rfl)
        have h3 : Hid (x 3 = .int .u32 (q : Int)) := hd 3 (by kernel_rfl)
        have h4 : Hid (x 4 = .slice At nT ct) := hd 4 (by kernel_rfl)
        have h8 : Hid (x 8 = .slice (some (aS.add 4)) n (cS - 4)) := hd 8 (by kernel_rfl)
        go_simp
        refine calls_args (args2 := #[.agg (bys R).toArray, .int .u32 (q : Int), .slice At nT ct, .slice (some (aS.add 4)) n (cS - 4)]) (by rw [h1.out, h3.out, h4.out, h8.out]) ?_
        refine (HCAND.out _ (O3.out.trans (hb.below.mono O3.out.size))).mono ?_
        rintro e w99 ⟨rfl, hb99⟩
        exact hK.out _ _ (LayG.grow hb99 hb.below.size) rfl
      refine StepsG.val 10 (.tuple #[.agg (bys CC).toArray, .int .i64 0]) (fun w => LayG.refl _ _ _ _ w) rfl (fun _ _ => rfl) rfl rfl (fun x w9 hb hd => ?_) ?_
      · have h9 : x 9 = .tuple #[.agg (bys CC).toArray, .int .i64 0] := hd 9 (by kernel_rfl)
        rw [h9]
        first | (go_simp; done) | (go_simp; rfl)
      refine StepsG.val 11 (.agg (bys CC).toArray) (fun w => LayG.refl _ _ _ _ w) rfl (fun _ _ => rfl) rfl rfl (fun x w9 hb hd => ?_) ?_
      · have h10 : x 10 = .tuple #[.agg (bys CC).toArray, .int .i64 0] := hd 10 (by kernel_rfl)
        rw [h10]
        first | (go_simp; done) | (go_simp; rfl)
      refine StepsG.val 12 (.int .i64 0) (fun w => LayG.refl _ _ _ _ w) rfl (fun _ _ => rfl) rfl rfl (fun x w9 hb hd => ?_) ?_
      · have h10 : x 10 = .tuple #[.agg (bys CC).toArray, .int .i64 0] := hd 10 (by kernel_rfl)
        rw [h10]
        first | (go_simp; done) | (go_simp; rfl)
      refine StepsG.cons 13 (NewG z32 30 w7.heap.size (bys CC)) rfl (fun _ _ _ h hb => NewG.keep h hb) (fun _ _ => rfl) rfl rfl (fun x w9 hb hd K hK => ?_) ?_
      · refine wp_of_list rfl (wpList_alloc_blk rfl 30 rfl _ z24 ?_)
        intro w2 c1 c2 c3
        exact hK.out _ _ (LayG.grow c3 hb.below.size) ⟨_, rfl, hb.below.size, .inl c1⟩
      refine StepsG.consX 14 (fun x i v w w' hi hdp h hb => by obtain ⟨g, h1, h2, h3⟩ := h; exact ⟨g, by rw [upd_ne _ _ _ _ (fun e => hdp (by rw [← e]; decide))]; exact h1, h2, hb.done g h3⟩) (fun _ _ => rfl) rfl rfl (fun x w9 hb hd K hK => ?_) ?_
      · have h11 : Hid (x 11 = .agg (bys CC).toArray) := hd 11 (by kernel_rfl)
        have h13 : NewG z32 30 w7.heap.size (bys CC) (x 13) w9 := hd 13 (by kernel_rfl)
        obtain ⟨g, e10, hgb, hor⟩ := h13
        rcases hor with hz | hz
        · refine wp_store_blk 30 (.tmp 13) (.tmp 86) rfl g (bys CC) z32 30 e10 h11.out hz H24c.out HLZc.out (bys_one' _) ?_
          exact hK.out undef _ (LayG.lay hgb (.inl hz)) ⟨g, by rw [upd_ne _ _ _ _ (by omega)]; exact e10, hgb, hz.setRow⟩
        · refine wp_store_blk 30 (.tmp 13) (.tmp 86) rfl g (bys CC) (bys CC) 30 e10 h11.out hz H24c.out rfl (bys_one' _) ?_
          exact hK.out undef _ (LayG.lay hgb (.inr hz)) ⟨g, by rw [upd_ne _ _ _ _ (by omega)]; exact e10, hgb, hz.setRow⟩
      refine StepsG.val 15 (.int .i64 0) (fun w => LayG.refl _ _ _ _ w) rfl (fun _ _ => rfl) rfl rfl (fun x w9 hb hd => ?_) ?_
      · have h12 : x 12 = .int .i64 0 := hd 12 (by kernel_rfl)
        rw [h12]
        first | (go_simp; done) | (go_simp; rfl)
      exact StepsG.done
    case fin =>
      intro x w9 hb hd
      have f15 : x 15 = .int .i64 0 := hd 15 (by omega)
      obtain ⟨g13, e13, hgb, hz⟩ : ∃ g, x 13 = .pointer (some ⟨g, 0, none⟩) ∧ w7.heap.size ≤ g ∧ Blk w9 g (bys CC) 30 := hd 14 (by omega)
      refine AnyTill.any (S := fun _ => True) (m := 16) _ _ _ _ ?_
      refine AnyTill.done (by kernel_rfl) ?_
      refine NoPanic.normal ?_
      try dsimp only
      rw [f15, e13]
      generalize x 0 = y0
      generalize x 1 = y1
      generalize x 2 = y2
      generalize x 3 = y3
      generalize x 4 = y4
      generalize x 5 = y5
      generalize x 6 = y6
      generalize x 7 = y7
      generalize x 8 = y8
      generalize x 9 = y9
      generalize x 10 = y10
      generalize x 11 = y11
      generalize x 12 = y12
      have P7 : Hid (Blk w9 g7 (tcs R Z32 (k : Int) (h : Int)) 38) := O7.out.below hb.below O7.out.lt
      have P3 : Hid (Below w.heap.size w w9) := O3.out.trans (hb.below.mono O3.out.size)
      have P13 : Hid (Blk w9 g13 (bys CC) 30) := hz
      have h713 : g7 < g13 := by have := O7.out.lt; omega
      clear hd f15 e13 hgb hz hb O7 O3 x HCAND
      have cy := P7.out.cell 49
      rw [tcs_y _ _ _ _ HRL.out Z32l] at cy
      go_wp2_with fail
      refine (rfLeaves_any h _ HHT.out).mono ?_
      rintro e wA ⟨rfl, rfl⟩
      rw [HP2.out]
      have zr : IntKind.i64.wrap ((P2 : Int) + (q : Int)) = (r0 : Int) := by rw [HR0.out]; exact wrap_i64s _ (by omega) (by omega)
      go_wp2_with (first | (refine wpList_load_mid rfl 29 _ rfl g7 0 rfl (bys R) _ (tcs_rangeI P7.out) tu22 rfl H22.out ?_) | (refine wpList_load_blk rfl 30 _ rfl g13 rfl (bys CC) 30 P13.out 32 5 tu24 H24c.out ?_))
      refine calls_args (args2 := #[.agg (bys R).toArray, .int .i64 (r0 : Int), .agg (bys CC).toArray]) (by first | rfl | (rw [HR0.out]) | simp [zr]) ?_
      refine (rfLow_any R CC r0 _ HRL.out HCL.out (by omega)).mono ?_
      rintro e wB ⟨rfl, hb⟩
      rw [HX0.out]
      have Q7 : Hid (Blk wB g7 (tcs R Z32 (k : Int) (h : Int)) 38) := P7.out.below hb P7.out.lt
      have Q3 : Hid (Below w.heap.size w wB) := P3.out.trans (hb.mono P3.out.size)
      clear hb P7 P3 P13 cy zr
      go_wp2_with (refine wpList_alloc_blk rfl 30 rfl _ z24 ?_)
      intro wC a1 a2 a3
      obtain ⟨g16, hg16⟩ : ∃ g, wB.heap.size = g := ⟨_, rfl⟩
      have h716 : g7 < g16 := by have := Q7.out.lt; omega
      have hw16 : w.heap.size ≤ g16 := by have := Q3.out.size; omega
      rw [hg16] at a1 a2 a3 ⊢
      have G16 := Lib.hid a1
      obtain ⟨wD, hwD⟩ : ∃ u, wC.setRow g16 (bys X0).toArray = u := ⟨_, rfl⟩
      have K0 : Hid (Blk wD g7 (tcs R Z32 (k : Int) (h : Int)) 38 ∧ Blk wD g16 (bys X0) 30 ∧ Below w.heap.size w wD) := by
        refine ⟨?_, ?_, ?_⟩
        · rw [← hwD]; exact (Q7.out.below a3 h716).setRowOther (by omega)
        · rw [← hwD]; exact a1.setRow
        · rw [← hwD]; exact below_setRow' (Q3.out.trans (a3.mono hw16)) hw16 _
      have HWD := Lib.hid hwD
      have zm2 : IntKind.i64.wrap (8 + (n : Int)) = (m2 : Int) := by rw [HM2.out]; exact wrap_i64s _ (by omega) (by omega)
      clear a1 a2 a3 hg16 hwD Q7 Q3
      go_wp2_with (refine wpList_store_blk rfl 30 _ _ rfl g16 (bys X0) z32 30 rfl rfl G16.out H24x.out HLZx.out (bys_one' _) ?_; rw [HWD.out]; clear HWD)
      clear G16
      try rw [HM2.out]
      go_loopw [15, 17] (fun x at_ wr => ∃ (m r A : Nat) (X : List UInt8), m ≤ h ∧ x = .int .i64 (r : Int) ∧ at_ = .int .i64 (A : Int) ∧ A + 32 * m = LL ∧ r < 64 ∧ Hid (2 ^ m ≤ r) ∧ Hid (r < 2 * 2 ^ m) ∧ Hid (X.length = 32) ∧ Hid (clm R m r X (s.drop A) = F) ∧ Hid (Blk wr g7 (tcs R Z32 (k : Int) (h : Int)) 38 ∧ Blk wr g16 (bys X) 30 ∧ Below w.heap.size w wr)) (fun x _ _ => (intOf x).toNat)
      case atStart => exact ⟨h, r0, m2, X0, Nat.le_refl _, rfl, by first | rfl | (rw [HM2.out]), by have := HLLE.out; omega, hr64, HR1, HR2, HX0L, HF, K0⟩
      case round =>
        clear K0
        obtain ⟨m, r, A, X, hmh, rfl, rfl, hA32, hr64', HE1, HE2, HXL, HCLM, KK⟩ := hrel
        cases m with
        | zero =>
          have hr1 : r = 1 := by have e1 := HE1.out; have e2 := HE2.out; rw [Nat.pow_zero] at e1 e2; omega
          subst hr1
          have hXF : X = F := HCLM.out
          subst hXF
          go_wp2_with fail
          by_cases hq0 : X = PR
          · have HQ := Lib.hid hq0
            clear hq0
            refine wp_region_rely2 6 0 (fun x => ⟨#[.slice (some aP) 56 cP, .slice At nT ct, .slice (some aS) nS cS, undef, undef, undef, .int IntKind.i64 0, .pointer (some { block := g7, off := 0 }), .bool true, .int IntKind.i64 ↑n, .int IntKind.i64 0, .int IntKind.i64 ↑q, .int IntKind.i64 0, .pointer (some { block := g13, off := 0 }), .int IntKind.i64 0, .int IntKind.i64 ↑1, .pointer (some { block := g16, off := 0 }), .int IntKind.i64 ↑A, u18, u19, .tuple #[Value.agg (tcs R Z32 ↑k ↑h).toArray, Value.bool true], .slice (some aP) 56 cP, .tuple #[Value.agg (tcs R Z32 ↑k ↑h).toArray, Value.bool true], .agg (tcs R Z32 ↑k ↑h).toArray, .bool true, .bool true, .bool false, .tuple #[Value.int IntKind.i64 ↑n, Value.int IntKind.i64 0], .pointer (some { block := g7, off := 48 }), .int IntKind.i64 ↑k, .tuple #[Value.int IntKind.i64 ↑n, Value.int IntKind.i64 0], .int IntKind.i64 ↑n, .int IntKind.i64 0, .slice (some aS) nS cS, .int IntKind.i64 ↑nS, .int IntKind.i64 ↑n, .int IntKind.i64 ↑m1, .int IntKind.i64 ↑m2, .pointer (some { block := g7, off := 49 }), .int IntKind.i64 ↑h, .int IntKind.i64 (32 * ↑h), .int IntKind.i64 ↑LL, .bool false, .bool false, .slice (some aS) nS cS, .slice (some { block := aS.block, off := aS.off + 4 }) 4 (cS - 4), .string { data := sA.toArray }, .slice (some aP) 56 cP, .slice (some { block := aP.block, off := aP.off + 4 }) 4 (cP - 4), .string { data := b2.toArray }, .bool false, .bool false, .bool false, .slice (some aS) nS cS, .int IntKind.i64 ↑n, .int IntKind.i64 ↑m1, .int IntKind.i64 ↑n, .int IntKind.i64 ↑m2, .slice (some (aS.add m1)) 4 (cS - m1), .string { data := sB.toArray }, .slice (some aP) 56 cP, .slice (some aP) 4 cP, .string { data := b1.toArray }, .bool false, .bool false, .tuple #[Value.int IntKind.i64 ↑q, Value.int IntKind.i64 0], .slice (some aS) nS cS, .tuple #[Value.int IntKind.i64 ↑q, Value.int IntKind.i64 0], .int IntKind.i64 ↑q, .int IntKind.i64 0, .int IntKind.i64 ↑q, .pointer (some { block := g7, off := 49 }), .int IntKind.i64 ↑h, .int IntKind.i64 ↑P2, .bool false, y10, y0, y1, y2, y3, y4, y5, y6, y7, y8, y9, y11, y12, .pointer (some { block := g7, off := 49 }), .int IntKind.i64 ↑h, .int IntKind.i64 ↑P2, .int IntKind.i64 ↑q, .int IntKind.i64 ↑r0, .pointer (some { block := g7, off := 0 }), .agg (bys R).toArray, .int IntKind.i64 ↑r0, .agg (bys CC).toArray, .agg (bys X0).toArray, .int IntKind.i64 ↑n, .int IntKind.i64 ↑m2, .int IntKind.i64 ↑1, .bool false, u102, u103, u104, u105, u106, u107, u108, u109, u110, u111, u112, u113, u114, u115, u116, u117, u118, u119, u120, u121, u122, u123, u124, u125, u126, u127, u128, u129, u130, u131, u132, u133, u134, u135, x 0, x 1, x 2, x 3, x 4, x 5], []⟩) (fun jj => ([eqV (.slice (some ⟨g16, 0, none⟩) 32 32), eqV (.string ⟨X.toArray⟩), eqV (.slice (some aP) 56 cP), eqV (.slice (some (aP.add 24)) 32 (cP - 24)), eqV (.string ⟨PR.toArray⟩), eqV (.bool false)] : List (Value → World → Prop)).getD jj (fun _ _ => True)) rfl ⟨fun kk => [_, _, _, _, _, _].getD kk undef, rfl⟩ (by kernel_rfl) (by kernel_rfl) ?steps ?fin
            case steps =>
              refine StepsAt.val 0 (.slice (some ⟨g16, 0, none⟩) 32 32) rfl (fun _ _ => rfl) rfl rfl (fun x wE hb hd => ?_) ?_
              · have hs16 := KK.out.2.1
                first | (go_simp; done) | (go_simp; rfl)
              refine StepsAt.val 1 (.string ⟨X.toArray⟩) rfl (fun _ _ => rfl) rfl rfl (fun x wE hb hd => ?_) ?_
              · have h0 : x 0 = .slice (some ⟨g16, 0, none⟩) 32 32 := hd 0 (by kernel_rfl)
                have r1 : Rd wE.heap.size wE (.slice (some ⟨g16, 0, none⟩) 32 32) X := by
                  have q := Blk.rd (KK.out.2.1.below hb KK.out.2.1.lt) (by rw [HXL.out]; unfold maxLen; omega)
                  rw [HXL.out] at q
                  exact q.more (KK.out.2.1.below hb KK.out.2.1.lt).lt
                have t1 := run_string_rd 22 9 5 Tryz.underlying22 Tryz.underlying5 Tryz.underlying9 r1
                rw [h0]
                clear r1
                first | (go_simp; done) | (go_simp; rfl)
              refine StepsAt.val 2 (.slice (some aP) 56 cP) rfl (fun _ _ => rfl) rfl rfl (fun x wE hb hd => ?_) ?_
              · first | (go_simp; done) | (go_simp; rfl)
              refine StepsAt.val 3 (.slice (some (aP.add 24)) 32 (cP - 24)) rfl (fun _ _ => rfl) rfl rfl (fun x wE hb hd => ?_) ?_
              · have h2 : x 2 = .slice (some aP) 56 cP := hd 2 (by kernel_rfl)
                have zc : ¬ ((cP : Int) < 56) := by omega
                have zc4 : ¬ (cP = 24) := by omega
                rw [h2]
                first | (go_simp; done) | (go_simp; rfl)
              refine StepsAt.val 4 (.string ⟨PR.toArray⟩) rfl (fun _ _ => rfl) rfl rfl (fun x wE hb hd => ?_) ?_
              · have h3 : x 3 = .slice (some (aP.add 24)) 32 (cP - 24) := hd 3 (by kernel_rfl)
                have r1 := ((HPR.out.below KK.out.2.2).below (hb.mono KK.out.2.2.size))
                have t1 := run_string_rd 22 9 5 Tryz.underlying22 Tryz.underlying5 Tryz.underlying9 r1
                simp [Addr.add] at t1
                rw [h3]
                clear r1
                first | (go_simp; done) | (go_simp; rfl)
              refine StepsAt.val 5 (.bool false) rfl (fun _ _ => rfl) rfl rfl (fun x wE hb hd => ?_) ?_
              · have h1 : x 1 = .string ⟨X.toArray⟩ := hd 1 (by kernel_rfl)
                have h4 : x 4 = .string ⟨PR.toArray⟩ := hd 4 (by kernel_rfl)
                rw [h1, h4]
                rw [HQ.out]
                first | (go_simp; done) | (go_simp; rfl)
              exact StepsAt.done
            case fin =>
              intro x wE hb hd
              have hx0 : x 0 = .slice (some ⟨g16, 0, none⟩) 32 32 := hd 0 (by omega)
              have hx1 : x 1 = .string ⟨X.toArray⟩ := hd 1 (by omega)
              have hx2 : x 2 = .slice (some aP) 56 cP := hd 2 (by omega)
              have hx3 : x 3 = .slice (some (aP.add 24)) 32 (cP - 24) := hd 3 (by omega)
              have hx4 : x 4 = .string ⟨PR.toArray⟩ := hd 4 (by omega)
              have hx5 : x 5 = .bool false := hd 5 (by omega)
              refine AnyTill.any (S := fun _ => True) (m := 6) _ _ _ _ ?_
              refine AnyTill.done (by kernel_rfl) ?_
              refine NoPanic.normal ?_
              try dsimp only
              rw [hx0, hx1, hx2, hx3, hx4, hx5]
              have N3 : Hid (Below w.heap.size w wE) := KK.out.2.2.trans (hb.mono KK.out.2.2.size)
              clear hx0 hx1 hx2 hx3 hx4 hx5 hd hb KK x
              go_wp2
              go_ret
              exact ⟨by rw [← HRES.out, if_pos HQ.out]; rfl, N3.out⟩
          · have HQ : Hid (¬ X = PR) := hq0
            clear hq0
            refine wp_region_rely2 6 0 (fun x => ⟨#[.slice (some aP) 56 cP, .slice At nT ct, .slice (some aS) nS cS, undef, undef, undef, .int IntKind.i64 0, .pointer (some { block := g7, off := 0 }), .bool true, .int IntKind.i64 ↑n, .int IntKind.i64 0, .int IntKind.i64 ↑q, .int IntKind.i64 0, .pointer (some { block := g13, off := 0 }), .int IntKind.i64 0, .int IntKind.i64 ↑1, .pointer (some { block := g16, off := 0 }), .int IntKind.i64 ↑A, u18, u19, .tuple #[Value.agg (tcs R Z32 ↑k ↑h).toArray, Value.bool true], .slice (some aP) 56 cP, .tuple #[Value.agg (tcs R Z32 ↑k ↑h).toArray, Value.bool true], .agg (tcs R Z32 ↑k ↑h).toArray, .bool true, .bool true, .bool false, .tuple #[Value.int IntKind.i64 ↑n, Value.int IntKind.i64 0], .pointer (some { block := g7, off := 48 }), .int IntKind.i64 ↑k, .tuple #[Value.int IntKind.i64 ↑n, Value.int IntKind.i64 0], .int IntKind.i64 ↑n, .int IntKind.i64 0, .slice (some aS) nS cS, .int IntKind.i64 ↑nS, .int IntKind.i64 ↑n, .int IntKind.i64 ↑m1, .int IntKind.i64 ↑m2, .pointer (some { block := g7, off := 49 }), .int IntKind.i64 ↑h, .int IntKind.i64 (32 * ↑h), .int IntKind.i64 ↑LL, .bool false, .bool false, .slice (some aS) nS cS, .slice (some { block := aS.block, off := aS.off + 4 }) 4 (cS - 4), .string { data := sA.toArray }, .slice (some aP) 56 cP, .slice (some { block := aP.block, off := aP.off + 4 }) 4 (cP - 4), .string { data := b2.toArray }, .bool false, .bool false, .bool false, .slice (some aS) nS cS, .int IntKind.i64 ↑n, .int IntKind.i64 ↑m1, .int IntKind.i64 ↑n, .int IntKind.i64 ↑m2, .slice (some (aS.add m1)) 4 (cS - m1), .string { data := sB.toArray }, .slice (some aP) 56 cP, .slice (some aP) 4 cP, .string { data := b1.toArray }, .bool false, .bool false, .tuple #[Value.int IntKind.i64 ↑q, Value.int IntKind.i64 0], .slice (some aS) nS cS, .tuple #[Value.int IntKind.i64 ↑q, Value.int IntKind.i64 0], .int IntKind.i64 ↑q, .int IntKind.i64 0, .int IntKind.i64 ↑q, .pointer (some { block := g7, off := 49 }), .int IntKind.i64 ↑h, .int IntKind.i64 ↑P2, .bool false, y10, y0, y1, y2, y3, y4, y5, y6, y7, y8, y9, y11, y12, .pointer (some { block := g7, off := 49 }), .int IntKind.i64 ↑h, .int IntKind.i64 ↑P2, .int IntKind.i64 ↑q, .int IntKind.i64 ↑r0, .pointer (some { block := g7, off := 0 }), .agg (bys R).toArray, .int IntKind.i64 ↑r0, .agg (bys CC).toArray, .agg (bys X0).toArray, .int IntKind.i64 ↑n, .int IntKind.i64 ↑m2, .int IntKind.i64 ↑1, .bool false, u102, u103, u104, u105, u106, u107, u108, u109, u110, u111, u112, u113, u114, u115, u116, u117, u118, u119, u120, u121, u122, u123, u124, u125, u126, u127, u128, u129, u130, u131, u132, u133, u134, u135, x 0, x 1, x 2, x 3, x 4, x 5], []⟩) (fun jj => ([eqV (.slice (some ⟨g16, 0, none⟩) 32 32), eqV (.string ⟨X.toArray⟩), eqV (.slice (some aP) 56 cP), eqV (.slice (some (aP.add 24)) 32 (cP - 24)), eqV (.string ⟨PR.toArray⟩), eqV (.bool true)] : List (Value → World → Prop)).getD jj (fun _ _ => True)) rfl ⟨fun kk => [_, _, _, _, _, _].getD kk undef, rfl⟩ (by kernel_rfl) (by kernel_rfl) ?steps ?fin
            case steps =>
              refine StepsAt.val 0 (.slice (some ⟨g16, 0, none⟩) 32 32) rfl (fun _ _ => rfl) rfl rfl (fun x wE hb hd => ?_) ?_
              · have hs16 := KK.out.2.1
                first | (go_simp; done) | (go_simp; rfl)
              refine StepsAt.val 1 (.string ⟨X.toArray⟩) rfl (fun _ _ => rfl) rfl rfl (fun x wE hb hd => ?_) ?_
              · have h0 : x 0 = .slice (some ⟨g16, 0, none⟩) 32 32 := hd 0 (by kernel_rfl)
                have r1 : Rd wE.heap.size wE (.slice (some ⟨g16, 0, none⟩) 32 32) X := by
                  have q := Blk.rd (KK.out.2.1.below hb KK.out.2.1.lt) (by rw [HXL.out]; unfold maxLen; omega)
                  rw [HXL.out] at q
                  exact q.more (KK.out.2.1.below hb KK.out.2.1.lt).lt
                have t1 := run_string_rd 22 9 5 Tryz.underlying22 Tryz.underlying5 Tryz.underlying9 r1
                rw [h0]
                clear r1
                first | (go_simp; done) | (go_simp; rfl)
              refine StepsAt.val 2 (.slice (some aP) 56 cP) rfl (fun _ _ => rfl) rfl rfl (fun x wE hb hd => ?_) ?_
              · first | (go_simp; done) | (go_simp; rfl)
              refine StepsAt.val 3 (.slice (some (aP.add 24)) 32 (cP - 24)) rfl (fun _ _ => rfl) rfl rfl (fun x wE hb hd => ?_) ?_
              · have h2 : x 2 = .slice (some aP) 56 cP := hd 2 (by kernel_rfl)
                have zc : ¬ ((cP : Int) < 56) := by omega
                have zc4 : ¬ (cP = 24) := by omega
                rw [h2]
                first | (go_simp; done) | (go_simp; rfl)
              refine StepsAt.val 4 (.string ⟨PR.toArray⟩) rfl (fun _ _ => rfl) rfl rfl (fun x wE hb hd => ?_) ?_
              · have h3 : x 3 = .slice (some (aP.add 24)) 32 (cP - 24) := hd 3 (by kernel_rfl)
                have r1 := ((HPR.out.below KK.out.2.2).below (hb.mono KK.out.2.2.size))
                have t1 := run_string_rd 22 9 5 Tryz.underlying22 Tryz.underlying5 Tryz.underlying9 r1
                simp [Addr.add] at t1
                rw [h3]
                clear r1
                first | (go_simp; done) | (go_simp; rfl)
              refine StepsAt.val 5 (.bool true) rfl (fun _ _ => rfl) rfl rfl (fun x wE hb hd => ?_) ?_
              · have h1 : x 1 = .string ⟨X.toArray⟩ := hd 1 (by kernel_rfl)
                have h4 : x 4 = .string ⟨PR.toArray⟩ := hd 4 (by kernel_rfl)
                rw [h1, h4]
                have hx := HQ.out
                first | (go_simp; done) | (go_simp; exact hx)
              exact StepsAt.done
            case fin =>
              intro x wE hb hd
              have hx0 : x 0 = .slice (some ⟨g16, 0, none⟩) 32 32 := hd 0 (by omega)
              have hx1 : x 1 = .string ⟨X.toArray⟩ := hd 1 (by omega)
              have hx2 : x 2 = .slice (some aP) 56 cP := hd 2 (by omega)
              have hx3 : x 3 = .slice (some (aP.add 24)) 32 (cP - 24) := hd 3 (by omega)
              have hx4 : x 4 = .string ⟨PR.toArray⟩ := hd 4 (by omega)
              have hx5 : x 5 = .bool true := hd 5 (by omega)
              refine AnyTill.any (S := fun _ => True) (m := 6) _ _ _ _ ?_
              refine AnyTill.done (by kernel_rfl) ?_
              refine NoPanic.normal ?_
              try dsimp only
              rw [hx0, hx1, hx2, hx3, hx4, hx5]
              have N3 : Hid (Below w.heap.size w wE) := KK.out.2.2.trans (hb.mono KK.out.2.2.size)
              clear hx0 hx1 hx2 hx3 hx4 hx5 hd hb KK x
              go_wp2
              go_ret
              exact ⟨by rw [← HRES.out, if_neg HQ.out]; rfl, N3.out⟩
        | succ m =>
          have hpm : 1 ≤ 2 ^ m := Nat.pow_pos (by omega)
          have hR2 : 2 ≤ r := by have e1 := HE1.out; rw [Nat.pow_succ] at e1; omega
          have zR : (1 : Int) < (r : Int) := by omega
          have hQ1 : Hid (2 ^ m ≤ r / 2) := by show _ ≤ _; have e1 := HE1.out; rw [Nat.pow_succ] at e1; omega
          have hQ2 : Hid (r / 2 < 2 * 2 ^ m) := by show _ < _; have e1 := HE2.out; rw [Nat.pow_succ] at e1; omega
          obtain ⟨Y, hY⟩ : ∃ x, (s.drop A).take 32 = x := ⟨_, rfl⟩
          have hAn : A + 32 ≤ LL := by omega
          have hYl : Y.length = 32 := by rw [← hY, List.length_take, List.length_drop, HSL.out]; omega
          have HYE := Lib.hid hY
          have HYL := Lib.hid hYl
          have H24y : Hid ((Tryz.prog.info? 30).map (·.size) = some (bys Y).length) := by show _ = _; rw [bys_length, hYl]; exact s24
          have H24X : Hid ((Tryz.prog.info? 30).map (·.size) = some (bys X).length) := by show _ = _; rw [bys_length, HXL.out]; exact s24
          have HDR : Hid ((s.drop A).drop 32 = s.drop (A + 32)) := by show _ = _; rw [List.drop_drop]
          clear hY hYl hpm
          go_wp2_with (first | (refine wpList_buildTo rfl 30 _ rfl _ rfl z32.toArray (by kernel_rfl) ?_) | (refine wpList_alloc_blk rfl 30 rfl _ z24 ?_))
          intro wE a1 a2 a3
          obtain ⟨g18, hg18⟩ : ∃ g, wr.heap.size = g := ⟨_, rfl⟩
          have h1618 : g16 < g18 := by have := KK.out.2.1.lt; omega
          rw [hg18] at a1 a2 a3 ⊢
          have G18 := Lib.hid a1
          obtain ⟨wF, hwF⟩ : ∃ u, wE.setRow g18 z32.toArray = u := ⟨_, rfl⟩
          have K1 : Hid (Blk wF g18 (halfV Y 0) 30 ∧ Below g18 wr wF) := by
            refine ⟨?_, ?_⟩
            · rw [halfV_0, ← hwF]; exact a1.setRow
            · rw [← hwF]; exact below_setRow' a3 (Nat.le_refl _) _
          have HWF := Lib.hid hwF
          have HG18 := Lib.hid hg18
          clear a1 a2 a3 hg18 hwF
          go_wp2_with (first | (refine wpList_store_blk rfl 30 _ _ rfl g18 z32 z32 30 rfl rfl G18.out s24 rfl (bys_one' _) ?_; rw [HWF.out]; clear HWF))
          clear G18
          go_loopw [19] (fun x wr2 => ∃ j : Nat, j ≤ 32 ∧ x = .int .i64 (j : Int) ∧ Hid (Blk wr2 g18 (halfV Y j) 30 ∧ Below g18 wr wr2)) (fun x _ => 32 - (intOf x).toNat)
          case atStart => exact ⟨0, by omega, rfl, K1⟩
          case round =>
            clear K1
            obtain ⟨j, hj, rfl, KJ⟩ := hrel
            by_cases hj2 : j < 32
            · have zj : (j : Int) < 32 := by omega
              obtain ⟨B, hB⟩ : ∃ x, A + j = x := ⟨_, rfl⟩
              have z1 : (A : Int) + (j : Int) = (B : Int) := by omega
              have zB : (B : Int) < (nS : Int) := by have := HLN.out; omega
              have hsB : Below w.heap.size w wr := KK.out.2.2.trans (KJ.out.2.mono (by rw [← HG18.out]; exact KK.out.2.2.size))
              have cS_ : wr.cell? (aS.add B) = some (.int .u8 (((Y.getD j 0).toNat : Nat) : Int)) := by
                rw [hsB.cell (by rw [addr_block]; exact HSBK.out), HCES.out B (by omega)]
                have hg : Y.getD j 0 = s.getD B 0 := by
                  rw [← HYE.out, List.getD_eq_getElem?_getD, List.getD_eq_getElem?_getD, List.getElem?_take, if_pos hj2, List.getElem?_drop, hB]
                rw [hg]
              have cx := KJ.out.1.cell j
              have hxj : (halfV Y j)[j]? = some (.int .u8 0) := by simp [halfV, hj2]
              rw [hxj] at cx
              have fx := KJ.out.1.frozen j
              obtain ⟨b, hb0⟩ : ∃ b, (Y.getD j 0).toNat = b := ⟨_, rfl⟩
              rw [hb0] at cS_
              have HBB := Lib.hid hb0
              have HM := Lib.hid hB
              clear hB hb0 hsB hxj
              go_wp2
              go_roundw
              case rel => exact ⟨j + 1, by omega, by go_num, ⟨by rw [← halfV_set, HBB.out]; exact KJ.out.1.set j _, KJ.out.2.setCell (by simp) _⟩⟩
              case measure => simp [intOf]; omega
            · obtain rfl : j = 32 := by omega
              rw [show ((32 : Nat) : Int) = 32 from rfl]
              have L18 : Hid (Blk wr g18 (bys Y) 30) := by have q := KJ.out.1; rw [halfV_32 Y HYL.out] at q; exact q
              have L7 : Hid (Blk wr g7 (tcs R Z32 (k : Int) (h : Int)) 38) := KK.out.1.below KJ.out.2 (by omega)
              have L16 : Hid (Blk wr g16 (bys X) 30) := KK.out.2.1.below KJ.out.2 h1618
              have L3 : Hid (Below w.heap.size w wr) := KK.out.2.2.trans (KJ.out.2.mono (by rw [← HG18.out]; exact KK.out.2.2.size))
              clear KJ KK hj
              obtain ⟨rh, hrh⟩ : ∃ x, r / 2 = x := ⟨_, rfl⟩
              have zrh : (r : Int) / 2 = (rh : Int) := by omega
              have zrt : Int.tdiv (r : Int) 2 = (rh : Int) := by rw [Int.tdiv_eq_ediv_of_nonneg (by omega)]; exact zrh
              have hrh2 : rh < r := by omega
              have HRH := Lib.hid hrh
              rw [hrh] at hQ1 hQ2
              by_cases hpar : r % 2 = 0
              · have zp : ((r : Int) % 2 == 0) = true := by simp; omega
                have zp2 : (r : Int) % 2 = 0 := by omega
                clear hrh
                go_wp2_with (first | (refine wpList_load_mid rfl 29 _ rfl g7 0 rfl (bys R) _ (tcs_rangeI L7.out) tu22 rfl H22.out ?_) | (refine wpList_load_blk rfl 30 _ rfl g16 rfl (bys X) 30 L16.out 32 5 tu24 H24X.out ?_) | (refine wpList_load_blk rfl 30 _ rfl g18 rfl (bys Y) 30 L18.out 32 5 tu24 H24y.out ?_))
                refine calls_args (args2 := #[.agg (bys R).toArray, .int .i64 (rh : Int), .agg (bys X).toArray, .agg (bys Y).toArray]) (by first | rfl | (rw [zrh]) | (rw [zrt]) | simp [zrh]) ?_
                refine (rfHigh_any R X Y rh _ HRL.out HXL.out HYL.out (by omega)).mono ?_
                rintro e wG ⟨rfl, hb⟩
                obtain ⟨Z, hZ⟩ : ∃ x, upL R rh X Y = x := ⟨_, rfl⟩
                have hZl : Z.length = 32 := by rw [← hZ]; exact upL_length _ _ _ _
                rw [hZ]
                have HZL := Lib.hid hZl
                have H24z : Hid ((Tryz.prog.info? 30).map (·.size) = some (bys Z).length) := by show _ = _; rw [bys_length, hZl]; exact s24
                have HLZz : Hid ((bys X).length = (bys Z).length) := by show _ = _; rw [bys_length, bys_length, hZl, HXL.out]
                have HNX : Hid (clm R m rh Z (s.drop (A + 32)) = F) := by
                  show _ = _
                  have q := HCLM.out
                  rw [clm, HYE.out, HRH.out, if_pos hpar, hZ, HDR.out] at q
                  exact q
                have M7 : Hid (Blk wG g7 (tcs R Z32 (k : Int) (h : Int)) 38) := L7.out.below hb L7.out.lt
                have M16 : Hid (Blk wG g16 (bys X) 30) := L16.out.below hb L16.out.lt
                have M3 : Hid (Below w.heap.size w wG) := L3.out.trans (hb.mono L3.out.size)
                clear hb L7 L16 L18 L3 hZ hZl zp zp2
                go_wp2_with (refine wpList_store_blk rfl 30 _ _ rfl g16 (bys Z) (bys X) 30 rfl rfl M16.out H24z.out HLZz.out (bys_one' _) ?_)
                go_roundw
                case rel => exact ⟨m, rh, A + 32, Z, by omega, by first | rfl | (rw [zrh]) | go_num, by go_num, by omega, by omega, hQ1, hQ2, HZL, HNX, ⟨M7.out.setRowOther (by omega), M16.out.setRow, below_setRow' M3.out hw16 _⟩⟩
                case measure => simp [intOf]; omega
              · have zp : ((r : Int) % 2 == 0) = false := by simp; omega
                have zp2 : (r : Int) % 2 = 1 := by omega
                clear hrh
                go_wp2_with (first | (refine wpList_load_mid rfl 29 _ rfl g7 0 rfl (bys R) _ (tcs_rangeI L7.out) tu22 rfl H22.out ?_) | (refine wpList_load_blk rfl 30 _ rfl g16 rfl (bys X) 30 L16.out 32 5 tu24 H24X.out ?_) | (refine wpList_load_blk rfl 30 _ rfl g18 rfl (bys Y) 30 L18.out 32 5 tu24 H24y.out ?_))
                refine calls_args (args2 := #[.agg (bys R).toArray, .int .i64 (rh : Int), .agg (bys Y).toArray, .agg (bys X).toArray]) (by first | rfl | (rw [zrh]) | (rw [zrt]) | simp [zrh]) ?_
                refine (rfHigh_any R Y X rh _ HRL.out HYL.out HXL.out (by omega)).mono ?_
                rintro e wG ⟨rfl, hb⟩
                obtain ⟨Z, hZ⟩ : ∃ x, upL R rh Y X = x := ⟨_, rfl⟩
                have hZl : Z.length = 32 := by rw [← hZ]; exact upL_length _ _ _ _
                rw [hZ]
                have HZL := Lib.hid hZl
                have H24z : Hid ((Tryz.prog.info? 30).map (·.size) = some (bys Z).length) := by show _ = _; rw [bys_length, hZl]; exact s24
                have HLZz : Hid ((bys X).length = (bys Z).length) := by show _ = _; rw [bys_length, bys_length, hZl, HXL.out]
                have HNX : Hid (clm R m rh Z (s.drop (A + 32)) = F) := by
                  show _ = _
                  have q := HCLM.out
                  rw [clm, HYE.out, HRH.out, if_neg hpar, hZ, HDR.out] at q
                  exact q
                have M7 : Hid (Blk wG g7 (tcs R Z32 (k : Int) (h : Int)) 38) := L7.out.below hb L7.out.lt
                have M16 : Hid (Blk wG g16 (bys X) 30) := L16.out.below hb L16.out.lt
                have M3 : Hid (Below w.heap.size w wG) := L3.out.trans (hb.mono L3.out.size)
                clear hb L7 L16 L18 L3 hZ hZl zp zp2
                go_wp2_with (refine wpList_store_blk rfl 30 _ _ rfl g16 (bys Z) (bys X) 30 rfl rfl M16.out H24z.out HLZz.out (bys_one' _) ?_)
                go_roundw
                case rel => exact ⟨m, rh, A + 32, Z, by omega, by first | rfl | (rw [zrh]) | go_num, by go_num, by omega, by omega, hQ1, hQ2, HZL, HNX, ⟨M7.out.setRowOther (by omega), M16.out.setRow, below_setRow' M3.out hw16 _⟩⟩
                case measure => simp [intOf]; omega

end Go.Proofs.YtllncnnigjgadaaGreat
