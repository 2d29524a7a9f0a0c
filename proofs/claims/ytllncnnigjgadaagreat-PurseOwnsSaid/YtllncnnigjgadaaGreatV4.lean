/-
  The document's lms: Verify, for every bytes that are no signature.
-/
import Derived.Test.YtllncnnigjgadaaGreatV3
namespace Go.Proofs.YtllncnnigjgadaaGreat
open Go.RowKit

set_option maxRecDepth 100000 in
set_option maxHeartbeats 4000000 in
theorem rfVer_len (p s R : List UInt8) (k h : Nat) (pv tv sv : Value) (w : World) (hp : Rd w.heap.size w pv p) (hs : Rd w.heap.size w sv s) (hl : p.length = 56) (hf : LFit (wd p 0) (wd (p.drop 4) 0) k h) (hR : (p.drop 8).take 16 = R) (hlen : s.length ≠ llng k h) : Calls Tryz.prog 10 #[pv, tv, sv] w (One (.int .i64 3) w) := by
  have hform := rfForm_yes pv p k h w hp hl hf
  obtain ⟨hk, hh, hk1, hk2⟩ := hf
  obtain ⟨l36, l85⟩ := lng_le hk
  have hh5 : h ≤ 5 := by unfold Ht at hh; omega
  have hLL : llng k h = 4 + lng k + 4 + h * 32 := rfl
  have hRl : R.length = 16 := by rw [← hR, List.length_take, List.length_drop, hl]; omega
  rw [hR] at hform
  obtain ⟨aP, cP, rfl, hcP, hmP⟩ := hp.some_ (by omega)
  unfold maxLen at hmP
  rw [hl] at hp hcP hform ⊢
  have HP4 : Hid (Rd w.heap.size w (.slice (some aP) 4 cP) (p.take 4)) := hp.take 4 (by omega)
  have HP8 : Hid (Rd w.heap.size w (.slice (some (aP.add 4)) 4 (cP - 4)) ((p.drop 4).take 4)) := by
    have h := hp.dropE 4 (by omega)
    rw [if_neg (by omega)] at h
    exact h.take 4 (by omega)
  obtain ⟨b1, hb1⟩ : ∃ x, p.take 4 = x := ⟨_, rfl⟩
  obtain ⟨b2, hb2⟩ : ∃ x, (p.drop 4).take 4 = x := ⟨_, rfl⟩
  rw [hb1] at HP4
  rw [hb2] at HP8
  obtain ⟨n, hn⟩ : ∃ n, lng k = n := ⟨_, rfl⟩
  rw [hn] at hLL l36 l85
  obtain ⟨m1, hm1⟩ : ∃ x, 4 + n = x := ⟨_, rfl⟩
  obtain ⟨m2, hm2⟩ : ∃ x, 8 + n = x := ⟨_, rfl⟩
  obtain ⟨LL, hLE⟩ : ∃ x, 4 + n + 4 + h * 32 = x := ⟨_, rfl⟩
  have HM1 : Hid (4 + (n : Int) = (m1 : Int)) := by show _ = _; omega
  have HM2 : Hid (8 + (n : Int) = (m2 : Int)) := by show _ = _; omega
  have HM3 : Hid ((m1 : Int) + 4 = (m2 : Int)) := by show _ = _; omega
  have HM4 : Hid ((m2 : Int) + 32 * (h : Int) = (LL : Int)) := by show _ = _; omega
  have hLLb : LL ≤ 9000 := by omega
  have hm1b : m1 ≤ 9000 := by omega
  have hm2b : m2 ≤ 9000 := by omega
  have HFORM := Lib.hid hform
  have HK := Lib.hid hk
  have HHT := Lib.hid hh
  have HRL := Lib.hid hRl
  have HN := Lib.hid hn
  obtain ⟨AS, cS, rfl, hcS, hmS⟩ := hs.shape
  obtain ⟨nS, hnS⟩ : ∃ x, s.length = x := ⟨_, rfl⟩
  have HLN : Hid (¬ nS = LL) := by show ¬ _; omega
  rw [hnS]
  rw [hnS] at hcS
  clear hform hk hh hk1 hk2 hRl hn hb1 hb2 hp hl hs hnS hlen hLL hLE hm1 hm2 hR
  go_enter Tryz.func10, Tryz.ntmps10
  go_wp2_with fail
  refine (HFORM.out).mono ?_
  rintro e w1 ⟨rfl, hb⟩
  have A3 : Hid (Below w.heap.size w w1) := hb
  clear hb
  go_wp2_with (refine wpList_alloc_blk rfl 38 rfl _ ziTreeV ?_)
  intro w2 a1 a2 a3
  obtain ⟨g7, hg7⟩ : ∃ g, w1.heap.size = g := ⟨_, rfl⟩
  have hw7 : w.heap.size ≤ g7 := by have := A3.out.size; omega
  rw [hg7] at a1 a2 a3 ⊢
  have G7 := Lib.hid a1
  obtain ⟨w3, hw3⟩ : ∃ u, w2.setRow g7 (tcs R Z32 (k : Int) (h : Int)).toArray = u := ⟨_, rfl⟩
  have B7 : Hid (Blk w3 g7 (tcs R Z32 (k : Int) (h : Int)) 38) := by show Blk _ _ _ _; rw [← hw3]; exact a1.setRow
  have B3 : Hid (Below w.heap.size w w3) := by show Below _ _ _; rw [← hw3]; exact below_setRow' (A3.out.trans (a3.mono hw7)) hw7 _
  have HW3 := Lib.hid hw3
  clear a1 a2 a3 hg7 hw3 A3
  have cz := B7.out.cell 48
  rw [tcs_z _ _ _ _ HRL.out Z32l] at cz
  go_wp2_with (first | (refine wpList_store_blk rfl 38 _ _ rfl g7 (tcs R Z32 (k : Int) (h : Int)) (tcs Z16 Z32 0 0) 38 rfl rfl G7.out (sTreeV _ _ _ _ HRL.out Z32l) (by rw [tcs_length _ _ _ _ HRL.out Z32l]; rfl) (tcs_one _ _ _ _) ?_; rw [HW3.out]; clear HW3))
  refine (refLong_yes k _ HK.out).mono ?_
  rw [HN.out]
  rintro e w4 ⟨rfl, nd, rfl⟩
  have C7 : Hid (Blk (w3.drewN nd) g7 (tcs R Z32 (k : Int) (h : Int)) 38) := B7.out
  have C3 : Hid (Below w.heap.size w (w3.drewN nd)) := Below.drewN' B3.out
  generalize w3.drewN nd = w5 at C7 C3 ⊢
  clear B7 B3 cz G7
  go_wp2_with fail
  refine wp_region_rely2 32 0 (fun x => ⟨#[.slice (some aP) 56 cP, tv, .slice AS nS cS, undef, undef, undef, .int IntKind.i64 0, .pointer (some { block := g7, off := 0 }), .bool true, .int IntKind.i64 ↑n, .int IntKind.i64 0, undef, undef, undef, undef, undef, undef, undef, undef, undef, .tuple #[Value.agg (tcs R Z32 ↑k ↑h).toArray, Value.bool true], .slice (some aP) 56 cP, .tuple #[Value.agg (tcs R Z32 ↑k ↑h).toArray, Value.bool true], .agg (tcs R Z32 ↑k ↑h).toArray, .bool true, .bool true, .bool false, .tuple #[Value.int IntKind.i64 ↑n, Value.int IntKind.i64 0], .pointer (some { block := g7, off := 48 }), .int IntKind.i64 ↑k, .tuple #[Value.int IntKind.i64 ↑n, Value.int IntKind.i64 0], .int IntKind.i64 ↑n, .int IntKind.i64 0, x 0, x 1, x 2, x 3, x 4, x 5, x 6, x 7, x 8, x 9, x 10, x 11, x 12, x 13, x 14, x 15, x 16, x 17, x 18, x 19, x 20, x 21, x 22, x 23, x 24, x 25, x 26, x 27, x 28, x 29, x 30, x 31, undef, undef, undef, undef, undef, undef, undef, undef, undef, undef, undef, undef, undef, undef, undef, undef, undef, undef, undef, undef, undef, undef, undef, undef, undef, undef, undef, undef, undef, undef, undef, undef, undef, undef, undef, undef, undef, undef, undef, undef, undef, undef, undef, undef, undef, undef, undef, undef, undef, undef, undef, undef, undef, undef, undef, undef, undef, undef, undef, undef, undef, undef, undef, undef, undef, undef, undef, undef, undef, undef, undef, undef, undef, undef, undef, undef, undef], []⟩) (fun jj => ([eqV (.slice AS nS cS), eqV (.int .i64 (nS : Int)), eqV (.int IntKind.i64 ↑n), eqV (.int .i64 (m1 : Int)), eqV (.int .i64 (m2 : Int)), eqV (.pointer (some ⟨g7, 49, none⟩)), eqV (.int .i64 (h : Int)), eqV (.int .i64 (32 * (h : Int))), eqV (.int .i64 (LL : Int)), eqV (.bool true), eqV (.bool true), (eqV undef), (eqV undef), (eqV undef), (eqV undef), (eqV undef), (eqV undef), (eqV undef), eqV (.bool true), eqV (.bool true), (eqV undef), (eqV undef), (eqV undef), (eqV undef), (eqV undef), (eqV undef), (eqV undef), (eqV undef), (eqV undef), (eqV undef), (eqV undef), eqV (.bool true)] : List (Value → World → Prop)).getD jj (fun _ _ => True)) rfl ⟨fun kk => [_, _, _, _, _, _, _, _, _, _, _, _, _, _, _, _, _, _, _, _, _, _, _, _, _, _, _, _, _, _, _, _].getD kk undef, rfl⟩ (by kernel_rfl) (by kernel_rfl) ?steps ?fin
  case steps =>
    refine StepsAt.val 0 (.slice AS nS cS) rfl (fun _ _ => rfl) rfl rfl (fun x w6 hb hd => ?_) ?_
    · first | (go_simp; done) | (go_simp; rfl)
    refine StepsAt.val 1 (.int .i64 (nS : Int)) rfl (fun _ _ => rfl) rfl rfl (fun x w6 hb hd => ?_) ?_
    · have h0 : x 0 = .slice AS nS cS := hd 0 (by kernel_rfl)
      rw [h0]
      first | (go_simp; done) | (go_simp; rfl)
    refine StepsAt.val 2 (.int IntKind.i64 ↑n) rfl (fun _ _ => rfl) rfl rfl (fun x w6 hb hd => ?_) ?_
    · first | (go_simp; done) | (go_simp; rfl)
    refine StepsAt.val 3 (.int .i64 (m1 : Int)) rfl (fun _ _ => rfl) rfl rfl (fun x w6 hb hd => ?_) ?_
    · have h2 : x 2 = .int IntKind.i64 ↑n := hd 2 (by kernel_rfl)
      rw [h2]
      go_simp
      rw [HM1.out]
      exact wrap_i64s _ (by omega) (by omega)
    refine StepsAt.val 4 (.int .i64 (m2 : Int)) rfl (fun _ _ => rfl) rfl rfl (fun x w6 hb hd => ?_) ?_
    · have h3 : x 3 = .int .i64 (m1 : Int) := hd 3 (by kernel_rfl)
      rw [h3]
      go_simp
      rw [HM3.out]
      exact wrap_i64s _ (by omega) (by omega)
    refine StepsAt.val 5 (.pointer (some ⟨g7, 49, none⟩)) rfl (fun _ _ => rfl) rfl rfl (fun x w6 hb hd => ?_) ?_
    · first | (go_simp; done) | (go_simp; rfl)
    refine StepsAt.val 6 (.int .i64 (h : Int)) rfl (fun _ _ => rfl) rfl rfl (fun x w6 hb hd => ?_) ?_
    · have h5 : x 5 = .pointer (some ⟨g7, 49, none⟩) := hd 5 (by kernel_rfl)
      have cc := ((C7.out.below hb C7.out.lt).cell 49).trans (show (tcs R Z32 (k : Int) (h : Int))[49]? = some (.int .i64 (h : Int)) from tcs_y _ _ _ _ HRL.out Z32l)
      rw [h5]
      first | (go_simp; done) | (go_simp; rfl)
    refine StepsAt.val 7 (.int .i64 (32 * (h : Int))) rfl (fun _ _ => rfl) rfl rfl (fun x w6 hb hd => ?_) ?_
    · have h6 : x 6 = .int .i64 (h : Int) := hd 6 (by kernel_rfl)
      rw [h6]
      first | (go_simp; done) | (go_simp; exact wrap_i64s _ (by omega) (by omega))
    refine StepsAt.val 8 (.int .i64 (LL : Int)) rfl (fun _ _ => rfl) rfl rfl (fun x w6 hb hd => ?_) ?_
    · have h4 : x 4 = .int .i64 (m2 : Int) := hd 4 (by kernel_rfl)
      have h7 : x 7 = .int .i64 (32 * (h : Int)) := hd 7 (by kernel_rfl)
      rw [h4, h7]
      go_simp
      rw [HM4.out]
      exact wrap_i64s _ (by omega) (by omega)
    refine StepsAt.val 9 (.bool true) rfl (fun _ _ => rfl) rfl rfl (fun x w6 hb hd => ?_) ?_
    · have h1 : x 1 = .int .i64 (nS : Int) := hd 1 (by kernel_rfl)
      have h8 : x 8 = .int .i64 (LL : Int) := hd 8 (by kernel_rfl)
      rw [h1, h8]
      have hx := HLN.out
      first | (go_simp; done) | (go_simp; omega) | (go_simp; exact hx)
    refine StepsAt.val 10 (.bool true) rfl (fun _ _ => rfl) rfl rfl (fun x w6 hb hd => ?_) ?_
    · have h9 : x 9 = .bool true := hd 9 (by kernel_rfl)
      rw [h9]
      first | (go_simp; done) | (go_simp; rfl)
    refine StepsAt.skip 11 rfl (fun _ _ => rfl) rfl (fun x w6 hd => ?_) ?_
    · have hG : x 10 = .bool true := hd 10 (by kernel_rfl)
      simp [Region.wanted, yielded, hG]
    refine StepsAt.skip 12 rfl (fun _ _ => rfl) rfl (fun x w6 hd => ?_) ?_
    · have hG : x 10 = .bool true := hd 10 (by kernel_rfl)
      simp [Region.wanted, yielded, hG]
    refine StepsAt.skip 13 rfl (fun _ _ => rfl) rfl (fun x w6 hd => ?_) ?_
    · have hG : x 10 = .bool true := hd 10 (by kernel_rfl)
      simp [Region.wanted, yielded, hG]
    refine StepsAt.skip 14 rfl (fun _ _ => rfl) rfl (fun x w6 hd => ?_) ?_
    · have hG : x 10 = .bool true := hd 10 (by kernel_rfl)
      simp [Region.wanted, yielded, hG]
    refine StepsAt.skip 15 rfl (fun _ _ => rfl) rfl (fun x w6 hd => ?_) ?_
    · have hG : x 10 = .bool true := hd 10 (by kernel_rfl)
      simp [Region.wanted, yielded, hG]
    refine StepsAt.skip 16 rfl (fun _ _ => rfl) rfl (fun x w6 hd => ?_) ?_
    · have hG : x 10 = .bool true := hd 10 (by kernel_rfl)
      simp [Region.wanted, yielded, hG]
    refine StepsAt.skip 17 rfl (fun _ _ => rfl) rfl (fun x w6 hd => ?_) ?_
    · have hG : x 10 = .bool true := hd 10 (by kernel_rfl)
      simp [Region.wanted, yielded, hG]
    refine StepsAt.val 18 (.bool true) rfl (fun _ _ => rfl) rfl rfl (fun x w6 hb hd => ?_) ?_
    · have h10 : x 10 = .bool true := hd 10 (by kernel_rfl)
      have h17 : x 17 = undef := hd 17 (by kernel_rfl)
      rw [h10, h17]
      first | (go_simp; done) | (go_simp; rfl)
    refine StepsAt.val 19 (.bool true) rfl (fun _ _ => rfl) rfl rfl (fun x w6 hb hd => ?_) ?_
    · have h18 : x 18 = .bool true := hd 18 (by kernel_rfl)
      rw [h18]
      first | (go_simp; done) | (go_simp; rfl)
    refine StepsAt.skip 20 rfl (fun _ _ => rfl) rfl (fun x w6 hd => ?_) ?_
    · have hG : x 19 = .bool true := hd 19 (by kernel_rfl)
      simp [Region.wanted, yielded, hG]
    refine StepsAt.skip 21 rfl (fun _ _ => rfl) rfl (fun x w6 hd => ?_) ?_
    · have hG : x 19 = .bool true := hd 19 (by kernel_rfl)
      simp [Region.wanted, yielded, hG]
    refine StepsAt.skip 22 rfl (fun _ _ => rfl) rfl (fun x w6 hd => ?_) ?_
    · have hG : x 19 = .bool true := hd 19 (by kernel_rfl)
      simp [Region.wanted, yielded, hG]
    refine StepsAt.skip 23 rfl (fun _ _ => rfl) rfl (fun x w6 hd => ?_) ?_
    · have hG : x 19 = .bool true := hd 19 (by kernel_rfl)
      simp [Region.wanted, yielded, hG]
    refine StepsAt.skip 24 rfl (fun _ _ => rfl) rfl (fun x w6 hd => ?_) ?_
    · have hG : x 19 = .bool true := hd 19 (by kernel_rfl)
      simp [Region.wanted, yielded, hG]
    refine StepsAt.skip 25 rfl (fun _ _ => rfl) rfl (fun x w6 hd => ?_) ?_
    · have hG : x 19 = .bool true := hd 19 (by kernel_rfl)
      simp [Region.wanted, yielded, hG]
    refine StepsAt.skip 26 rfl (fun _ _ => rfl) rfl (fun x w6 hd => ?_) ?_
    · have hG : x 19 = .bool true := hd 19 (by kernel_rfl)
      simp [Region.wanted, yielded, hG]
    refine StepsAt.skip 27 rfl (fun _ _ => rfl) rfl (fun x w6 hd => ?_) ?_
    · have hG : x 19 = .bool true := hd 19 (by kernel_rfl)
      simp [Region.wanted, yielded, hG]
    refine StepsAt.skip 28 rfl (fun _ _ => rfl) rfl (fun x w6 hd => ?_) ?_
    · have hG : x 19 = .bool true := hd 19 (by kernel_rfl)
      simp [Region.wanted, yielded, hG]
    refine StepsAt.skip 29 rfl (fun _ _ => rfl) rfl (fun x w6 hd => ?_) ?_
    · have hG : x 19 = .bool true := hd 19 (by kernel_rfl)
      simp [Region.wanted, yielded, hG]
    refine StepsAt.skip 30 rfl (fun _ _ => rfl) rfl (fun x w6 hd => ?_) ?_
    · have hG : x 19 = .bool true := hd 19 (by kernel_rfl)
      simp [Region.wanted, yielded, hG]
    refine StepsAt.val 31 (.bool true) rfl (fun _ _ => rfl) rfl rfl (fun x w6 hb hd => ?_) ?_
    · have h19 : x 19 = .bool true := hd 19 (by kernel_rfl)
      have h30 : x 30 = undef := hd 30 (by kernel_rfl)
      rw [h19, h30]
      first | (go_simp; done) | (go_simp; rfl)
    exact StepsAt.done
  case fin =>
    intro x w6 hb hd
    have hx0 : x 0 = .slice AS nS cS := hd 0 (by omega)
    have hx1 : x 1 = .int .i64 (nS : Int) := hd 1 (by omega)
    have hx2 : x 2 = .int IntKind.i64 ↑n := hd 2 (by omega)
    have hx3 : x 3 = .int .i64 (m1 : Int) := hd 3 (by omega)
    have hx4 : x 4 = .int .i64 (m2 : Int) := hd 4 (by omega)
    have hx5 : x 5 = .pointer (some ⟨g7, 49, none⟩) := hd 5 (by omega)
    have hx6 : x 6 = .int .i64 (h : Int) := hd 6 (by omega)
    have hx7 : x 7 = .int .i64 (32 * (h : Int)) := hd 7 (by omega)
    have hx8 : x 8 = .int .i64 (LL : Int) := hd 8 (by omega)
    have hx9 : x 9 = .bool true := hd 9 (by omega)
    have hx10 : x 10 = .bool true := hd 10 (by omega)
    have hx11 : x 11 = undef := hd 11 (by omega)
    have hx12 : x 12 = undef := hd 12 (by omega)
    have hx13 : x 13 = undef := hd 13 (by omega)
    have hx14 : x 14 = undef := hd 14 (by omega)
    have hx15 : x 15 = undef := hd 15 (by omega)
    have hx16 : x 16 = undef := hd 16 (by omega)
    have hx17 : x 17 = undef := hd 17 (by omega)
    have hx18 : x 18 = .bool true := hd 18 (by omega)
    have hx19 : x 19 = .bool true := hd 19 (by omega)
    have hx20 : x 20 = undef := hd 20 (by omega)
    have hx21 : x 21 = undef := hd 21 (by omega)
    have hx22 : x 22 = undef := hd 22 (by omega)
    have hx23 : x 23 = undef := hd 23 (by omega)
    have hx24 : x 24 = undef := hd 24 (by omega)
    have hx25 : x 25 = undef := hd 25 (by omega)
    have hx26 : x 26 = undef := hd 26 (by omega)
    have hx27 : x 27 = undef := hd 27 (by omega)
    have hx28 : x 28 = undef := hd 28 (by omega)
    have hx29 : x 29 = undef := hd 29 (by omega)
    have hx30 : x 30 = undef := hd 30 (by omega)
    have hx31 : x 31 = .bool true := hd 31 (by omega)
    refine AnyTill.any (S := fun _ => True) (m := 32) _ _ _ _ ?_
    refine AnyTill.done (by kernel_rfl) ?_
    refine NoPanic.normal ?_
    try dsimp only
    rw [hx0, hx1, hx2, hx3, hx4, hx5, hx6, hx7, hx8, hx9, hx10, hx11, hx12, hx13, hx14, hx15, hx16, hx17, hx18, hx19, hx20, hx21, hx22, hx23, hx24, hx25, hx26, hx27, hx28, hx29, hx30, hx31]
    have N3 : Hid (Below w.heap.size w w6) := C3.out.trans (hb.mono C3.out.size)
    clear hx0 hx1 hx2 hx3 hx4 hx5 hx6 hx7 hx8 hx9 hx10 hx11 hx12 hx13 hx14 hx15 hx16 hx17 hx18 hx19 hx20 hx21 hx22 hx23 hx24 hx25 hx26 hx27 hx28 hx29 hx30 hx31 hd hb C7 C3 x
    go_wp2
    go_ret
    exact ⟨rfl, N3.out⟩

set_option maxRecDepth 100000 in
set_option maxHeartbeats 4000000 in
theorem rfVer_A (p s R : List UInt8) (k h : Nat) (pv tv sv : Value) (w : World) (hp : Rd w.heap.size w pv p) (hs : Rd w.heap.size w sv s) (hl : p.length = 56) (hf : LFit (wd p 0) (wd (p.drop 4) 0) k h) (hR : (p.drop 8).take 16 = R) (hlen : s.length = llng k h) (hA : (s.drop 4).take 4 ≠ (p.drop 4).take 4) : Calls Tryz.prog 10 #[pv, tv, sv] w (One (.int .i64 3) w) := by
  have hform := rfForm_yes pv p k h w hp hl hf
  obtain ⟨hk, hh, hk1, hk2⟩ := hf
  obtain ⟨l36, l85⟩ := lng_le hk
  have hh5 : h ≤ 5 := by unfold Ht at hh; omega
  have hLL : llng k h = 4 + lng k + 4 + h * 32 := rfl
  have hRl : R.length = 16 := by rw [← hR, List.length_take, List.length_drop, hl]; omega
  rw [hR] at hform
  obtain ⟨aP, cP, rfl, hcP, hmP⟩ := hp.some_ (by omega)
  unfold maxLen at hmP
  rw [hl] at hp hcP hform ⊢
  have HP4 : Hid (Rd w.heap.size w (.slice (some aP) 4 cP) (p.take 4)) := hp.take 4 (by omega)
  have HP8 : Hid (Rd w.heap.size w (.slice (some (aP.add 4)) 4 (cP - 4)) ((p.drop 4).take 4)) := by
    have h := hp.dropE 4 (by omega)
    rw [if_neg (by omega)] at h
    exact h.take 4 (by omega)
  obtain ⟨b1, hb1⟩ : ∃ x, p.take 4 = x := ⟨_, rfl⟩
  obtain ⟨b2, hb2⟩ : ∃ x, (p.drop 4).take 4 = x := ⟨_, rfl⟩
  rw [hb1] at HP4
  rw [hb2] at HP8
  obtain ⟨n, hn⟩ : ∃ n, lng k = n := ⟨_, rfl⟩
  rw [hn] at hLL l36 l85
  obtain ⟨m1, hm1⟩ : ∃ x, 4 + n = x := ⟨_, rfl⟩
  obtain ⟨m2, hm2⟩ : ∃ x, 8 + n = x := ⟨_, rfl⟩
  obtain ⟨LL, hLE⟩ : ∃ x, 4 + n + 4 + h * 32 = x := ⟨_, rfl⟩
  have HM1 : Hid (4 + (n : Int) = (m1 : Int)) := by show _ = _; omega
  have HM2 : Hid (8 + (n : Int) = (m2 : Int)) := by show _ = _; omega
  have HM3 : Hid ((m1 : Int) + 4 = (m2 : Int)) := by show _ = _; omega
  have HM4 : Hid ((m2 : Int) + 32 * (h : Int) = (LL : Int)) := by show _ = _; omega
  have hLLb : LL ≤ 9000 := by omega
  have hm1b : m1 ≤ 9000 := by omega
  have hm2b : m2 ≤ 9000 := by omega
  have HFORM := Lib.hid hform
  have HK := Lib.hid hk
  have HHT := Lib.hid hh
  have HRL := Lib.hid hRl
  have HN := Lib.hid hn
  obtain ⟨nS, hnS⟩ : ∃ x, s.length = x := ⟨_, rfl⟩
  obtain ⟨aS, cS, rfl, hcS, hmS⟩ := hs.some_ (by omega)
  unfold maxLen at hmS
  have HS8 : Hid (Rd w.heap.size w (.slice (some (aS.add 4)) 4 (cS - 4)) ((s.drop 4).take 4)) := by
    have h := hs.dropE 4 (by omega)
    rw [if_neg (by omega)] at h
    exact h.take 4 (by omega)
  have HSB4 : Hid (Rd w.heap.size w (.slice (some (aS.add m1)) 4 (cS - m1)) ((s.drop m1).take 4)) := by
    have h := hs.dropE m1 (by omega)
    rw [if_neg (by omega)] at h
    exact h.take 4 (by omega)
  have HS := Lib.hid hs
  obtain ⟨sA, hsA⟩ : ∃ x, (s.drop 4).take 4 = x := ⟨_, rfl⟩
  obtain ⟨sB, hsB⟩ : ∃ x, (s.drop m1).take 4 = x := ⟨_, rfl⟩
  rw [hsA] at HS8
  rw [hsB] at HSB4
  rw [hnS] at hcS HS ⊢
  have HLN : Hid (nS = LL) := by show _ = _; omega
  have hcS8 : m2 ≤ cS ∧ 44 ≤ m2 ∧ m1 + 4 = m2 ∧ 40 ≤ m1 := by omega
  have HSA : Hid (¬ sA = b2) := by show ¬ _; rw [← hsA, ← hb2]; exact hA
  clear hform hk hh hk1 hk2 hRl hn hb1 hb2 hp hl hs hnS hlen hLL hLE hm1 hsA hsB hA hm2 hR
  go_enter Tryz.func10, Tryz.ntmps10
  go_wp2_with fail
  refine (HFORM.out).mono ?_
  rintro e w1 ⟨rfl, hb⟩
  have A3 : Hid (Below w.heap.size w w1) := hb
  clear hb
  go_wp2_with (refine wpList_alloc_blk rfl 38 rfl _ ziTreeV ?_)
  intro w2 a1 a2 a3
  obtain ⟨g7, hg7⟩ : ∃ g, w1.heap.size = g := ⟨_, rfl⟩
  have hw7 : w.heap.size ≤ g7 := by have := A3.out.size; omega
  rw [hg7] at a1 a2 a3 ⊢
  have G7 := Lib.hid a1
  obtain ⟨w3, hw3⟩ : ∃ u, w2.setRow g7 (tcs R Z32 (k : Int) (h : Int)).toArray = u := ⟨_, rfl⟩
  have B7 : Hid (Blk w3 g7 (tcs R Z32 (k : Int) (h : Int)) 38) := by show Blk _ _ _ _; rw [← hw3]; exact a1.setRow
  have B3 : Hid (Below w.heap.size w w3) := by show Below _ _ _; rw [← hw3]; exact below_setRow' (A3.out.trans (a3.mono hw7)) hw7 _
  have HW3 := Lib.hid hw3
  clear a1 a2 a3 hg7 hw3 A3
  have cz := B7.out.cell 48
  rw [tcs_z _ _ _ _ HRL.out Z32l] at cz
  go_wp2_with (first | (refine wpList_store_blk rfl 38 _ _ rfl g7 (tcs R Z32 (k : Int) (h : Int)) (tcs Z16 Z32 0 0) 38 rfl rfl G7.out (sTreeV _ _ _ _ HRL.out Z32l) (by rw [tcs_length _ _ _ _ HRL.out Z32l]; rfl) (tcs_one _ _ _ _) ?_; rw [HW3.out]; clear HW3))
  refine (refLong_yes k _ HK.out).mono ?_
  rw [HN.out]
  rintro e w4 ⟨rfl, nd, rfl⟩
  have C7 : Hid (Blk (w3.drewN nd) g7 (tcs R Z32 (k : Int) (h : Int)) 38) := B7.out
  have C3 : Hid (Below w.heap.size w (w3.drewN nd)) := Below.drewN' B3.out
  generalize w3.drewN nd = w5 at C7 C3 ⊢
  clear B7 B3 cz G7
  go_wp2_with fail
  refine wp_region_rely2 32 0 (fun x => ⟨#[.slice (some aP) 56 cP, tv, .slice (some aS) nS cS, undef, undef, undef, .int IntKind.i64 0, .pointer (some { block := g7, off := 0 }), .bool true, .int IntKind.i64 ↑n, .int IntKind.i64 0, undef, undef, undef, undef, undef, undef, undef, undef, undef, .tuple #[Value.agg (tcs R Z32 ↑k ↑h).toArray, Value.bool true], .slice (some aP) 56 cP, .tuple #[Value.agg (tcs R Z32 ↑k ↑h).toArray, Value.bool true], .agg (tcs R Z32 ↑k ↑h).toArray, .bool true, .bool true, .bool false, .tuple #[Value.int IntKind.i64 ↑n, Value.int IntKind.i64 0], .pointer (some { block := g7, off := 48 }), .int IntKind.i64 ↑k, .tuple #[Value.int IntKind.i64 ↑n, Value.int IntKind.i64 0], .int IntKind.i64 ↑n, .int IntKind.i64 0, x 0, x 1, x 2, x 3, x 4, x 5, x 6, x 7, x 8, x 9, x 10, x 11, x 12, x 13, x 14, x 15, x 16, x 17, x 18, x 19, x 20, x 21, x 22, x 23, x 24, x 25, x 26, x 27, x 28, x 29, x 30, x 31, undef, undef, undef, undef, undef, undef, undef, undef, undef, undef, undef, undef, undef, undef, undef, undef, undef, undef, undef, undef, undef, undef, undef, undef, undef, undef, undef, undef, undef, undef, undef, undef, undef, undef, undef, undef, undef, undef, undef, undef, undef, undef, undef, undef, undef, undef, undef, undef, undef, undef, undef, undef, undef, undef, undef, undef, undef, undef, undef, undef, undef, undef, undef, undef, undef, undef, undef, undef, undef, undef, undef, undef, undef, undef, undef, undef, undef], []⟩) (fun jj => ([eqV (.slice (some aS) nS cS), eqV (.int .i64 (nS : Int)), eqV (.int IntKind.i64 ↑n), eqV (.int .i64 (m1 : Int)), eqV (.int .i64 (m2 : Int)), eqV (.pointer (some ⟨g7, 49, none⟩)), eqV (.int .i64 (h : Int)), eqV (.int .i64 (32 * (h : Int))), eqV (.int .i64 (LL : Int)), eqV (.bool false), eqV (.bool false), eqV (.slice (some aS) nS cS), eqV (.slice (some (aS.add 4)) 4 (cS - 4)), eqV (.string ⟨sA.toArray⟩), eqV (.slice (some aP) 56 cP), eqV (.slice (some (aP.add 4)) 4 (cP - 4)), eqV (.string ⟨b2.toArray⟩), eqV (.bool true), eqV (.bool true), eqV (.bool true), (eqV undef), (eqV undef), (eqV undef), (eqV undef), (eqV undef), (eqV undef), (eqV undef), (eqV undef), (eqV undef), (eqV undef), (eqV undef), eqV (.bool true)] : List (Value → World → Prop)).getD jj (fun _ _ => True)) rfl ⟨fun kk => [_, _, _, _, _, _, _, _, _, _, _, _, _, _, _, _, _, _, _, _, _, _, _, _, _, _, _, _, _, _, _, _].getD kk undef, rfl⟩ (by kernel_rfl) (by kernel_rfl) ?steps ?fin
  case steps =>
    refine StepsAt.val 0 (.slice (some aS) nS cS) rfl (fun _ _ => rfl) rfl rfl (fun x w6 hb hd => ?_) ?_
    · first | (go_simp; done) | (go_simp; rfl)
    refine StepsAt.val 1 (.int .i64 (nS : Int)) rfl (fun _ _ => rfl) rfl rfl (fun x w6 hb hd => ?_) ?_
    · have h0 : x 0 = .slice (some aS) nS cS := hd 0 (by kernel_rfl)
      rw [h0]
      first | (go_simp; done) | (go_simp; rfl)
    refine StepsAt.val 2 (.int IntKind.i64 ↑n) rfl (fun _ _ => rfl) rfl rfl (fun x w6 hb hd => ?_) ?_
    · first | (go_simp; done) | (go_simp; rfl)
    refine StepsAt.val 3 (.int .i64 (m1 : Int)) rfl (fun _ _ => rfl) rfl rfl (fun x w6 hb hd => ?_) ?_
    · have h2 : x 2 = .int IntKind.i64 ↑n := hd 2 (by kernel_rfl)
      rw [h2]
      go_simp
      rw [HM1.out]
      exact wrap_i64s _ (by omega) (by omega)
    refine StepsAt.val 4 (.int .i64 (m2 : Int)) rfl (fun _ _ => rfl) rfl rfl (fun x w6 hb hd => ?_) ?_
    · have h3 : x 3 = .int .i64 (m1 : Int) := hd 3 (by kernel_rfl)
      rw [h3]
      go_simp
      rw [HM3.out]
      exact wrap_i64s _ (by omega) (by omega)
    refine StepsAt.val 5 (.pointer (some ⟨g7, 49, none⟩)) rfl (fun _ _ => rfl) rfl rfl (fun x w6 hb hd => ?_) ?_
    · first | (go_simp; done) | (go_simp; rfl)
    refine StepsAt.val 6 (.int .i64 (h : Int)) rfl (fun _ _ => rfl) rfl rfl (fun x w6 hb hd => ?_) ?_
    · have h5 : x 5 = .pointer (some ⟨g7, 49, none⟩) := hd 5 (by kernel_rfl)
      have cc := ((C7.out.below hb C7.out.lt).cell 49).trans (show (tcs R Z32 (k : Int) (h : Int))[49]? = some (.int .i64 (h : Int)) from tcs_y _ _ _ _ HRL.out Z32l)
      rw [h5]
      first | (go_simp; done) | (go_simp; rfl)
    refine StepsAt.val 7 (.int .i64 (32 * (h : Int))) rfl (fun _ _ => rfl) rfl rfl (fun x w6 hb hd => ?_) ?_
    · have h6 : x 6 = .int .i64 (h : Int) := hd 6 (by kernel_rfl)
      rw [h6]
      first | (go_simp; done) | (go_simp; exact wrap_i64s _ (by omega) (by omega))
    refine StepsAt.val 8 (.int .i64 (LL : Int)) rfl (fun _ _ => rfl) rfl rfl (fun x w6 hb hd => ?_) ?_
    · have h4 : x 4 = .int .i64 (m2 : Int) := hd 4 (by kernel_rfl)
      have h7 : x 7 = .int .i64 (32 * (h : Int)) := hd 7 (by kernel_rfl)
      rw [h4, h7]
      go_simp
      rw [HM4.out]
      exact wrap_i64s _ (by omega) (by omega)
    refine StepsAt.val 9 (.bool false) rfl (fun _ _ => rfl) rfl rfl (fun x w6 hb hd => ?_) ?_
    · have h1 : x 1 = .int .i64 (nS : Int) := hd 1 (by kernel_rfl)
      have h8 : x 8 = .int .i64 (LL : Int) := hd 8 (by kernel_rfl)
      rw [h1, h8]
      have hx := HLN.out
      first | (go_simp; done) | (go_simp; omega) | (go_simp; exact hx)
    refine StepsAt.val 10 (.bool false) rfl (fun _ _ => rfl) rfl rfl (fun x w6 hb hd => ?_) ?_
    · have h9 : x 9 = .bool false := hd 9 (by kernel_rfl)
      rw [h9]
      first | (go_simp; done) | (go_simp; rfl)
    refine StepsAt.valG 11 (.slice (some aS) nS cS) rfl (fun _ _ => rfl) rfl (fun x w6 hd => ?_) (fun x w6 hb hd => ?_) ?_
    · have hG : x 10 = .bool false := hd 10 (by kernel_rfl)
      simp [Region.wanted, yielded, hG]
    · first | (go_simp; done) | (go_simp; rfl)
    refine StepsAt.valG 12 (.slice (some (aS.add 4)) 4 (cS - 4)) rfl (fun _ _ => rfl) rfl (fun x w6 hd => ?_) (fun x w6 hb hd => ?_) ?_
    · have hG : x 10 = .bool false := hd 10 (by kernel_rfl)
      simp [Region.wanted, yielded, hG]
    · have h11 : x 11 = .slice (some aS) nS cS := hd 11 (by kernel_rfl)
      have zc : ¬ ((cS : Int) < 8) := by omega
      have zc4 : ¬ (cS = 4) := by omega
      rw [h11]
      first | (go_simp; done) | (go_simp; rfl)
    refine StepsAt.valG 13 (.string ⟨sA.toArray⟩) rfl (fun _ _ => rfl) rfl (fun x w6 hd => ?_) (fun x w6 hb hd => ?_) ?_
    · have hG : x 10 = .bool false := hd 10 (by kernel_rfl)
      simp [Region.wanted, yielded, hG]
    · have h12 : x 12 = .slice (some (aS.add 4)) 4 (cS - 4) := hd 12 (by kernel_rfl)
      have r1 := ((HS8.out.below C3.out).below (hb.mono C3.out.size))
      have t1 := run_string_rd 22 9 5 Tryz.underlying22 Tryz.underlying5 Tryz.underlying9 r1
      simp [Addr.add] at t1
      rw [h12]
      clear r1
      first | (go_simp; done) | (go_simp; rfl)
    refine StepsAt.valG 14 (.slice (some aP) 56 cP) rfl (fun _ _ => rfl) rfl (fun x w6 hd => ?_) (fun x w6 hb hd => ?_) ?_
    · have hG : x 10 = .bool false := hd 10 (by kernel_rfl)
      simp [Region.wanted, yielded, hG]
    · first | (go_simp; done) | (go_simp; rfl)
    refine StepsAt.valG 15 (.slice (some (aP.add 4)) 4 (cP - 4)) rfl (fun _ _ => rfl) rfl (fun x w6 hd => ?_) (fun x w6 hb hd => ?_) ?_
    · have hG : x 10 = .bool false := hd 10 (by kernel_rfl)
      simp [Region.wanted, yielded, hG]
    · have h14 : x 14 = .slice (some aP) 56 cP := hd 14 (by kernel_rfl)
      have zc : ¬ ((cP : Int) < 8) := by omega
      have zc4 : ¬ (cP = 4) := by omega
      rw [h14]
      first | (go_simp; done) | (go_simp; rfl)
    refine StepsAt.valG 16 (.string ⟨b2.toArray⟩) rfl (fun _ _ => rfl) rfl (fun x w6 hd => ?_) (fun x w6 hb hd => ?_) ?_
    · have hG : x 10 = .bool false := hd 10 (by kernel_rfl)
      simp [Region.wanted, yielded, hG]
    · have h15 : x 15 = .slice (some (aP.add 4)) 4 (cP - 4) := hd 15 (by kernel_rfl)
      have r1 := ((HP8.out.below C3.out).below (hb.mono C3.out.size))
      have t1 := run_string_rd 22 9 5 Tryz.underlying22 Tryz.underlying5 Tryz.underlying9 r1
      simp [Addr.add] at t1
      rw [h15]
      clear r1
      first | (go_simp; done) | (go_simp; rfl)
    refine StepsAt.valG 17 (.bool true) rfl (fun _ _ => rfl) rfl (fun x w6 hd => ?_) (fun x w6 hb hd => ?_) ?_
    · have hG : x 10 = .bool false := hd 10 (by kernel_rfl)
      simp [Region.wanted, yielded, hG]
    · have h13 : x 13 = .string ⟨sA.toArray⟩ := hd 13 (by kernel_rfl)
      have h16 : x 16 = .string ⟨b2.toArray⟩ := hd 16 (by kernel_rfl)
      rw [h13, h16]
      have hx := HSA.out
      first | (go_simp; done) | (go_simp; exact hx)
    refine StepsAt.val 18 (.bool true) rfl (fun _ _ => rfl) rfl rfl (fun x w6 hb hd => ?_) ?_
    · have h10 : x 10 = .bool false := hd 10 (by kernel_rfl)
      have h17 : x 17 = .bool true := hd 17 (by kernel_rfl)
      rw [h10, h17]
      first | (go_simp; done) | (go_simp; rfl)
    refine StepsAt.val 19 (.bool true) rfl (fun _ _ => rfl) rfl rfl (fun x w6 hb hd => ?_) ?_
    · have h18 : x 18 = .bool true := hd 18 (by kernel_rfl)
      rw [h18]
      first | (go_simp; done) | (go_simp; rfl)
    refine StepsAt.skip 20 rfl (fun _ _ => rfl) rfl (fun x w6 hd => ?_) ?_
    · have hG : x 19 = .bool true := hd 19 (by kernel_rfl)
      simp [Region.wanted, yielded, hG]
    refine StepsAt.skip 21 rfl (fun _ _ => rfl) rfl (fun x w6 hd => ?_) ?_
    · have hG : x 19 = .bool true := hd 19 (by kernel_rfl)
      simp [Region.wanted, yielded, hG]
    refine StepsAt.skip 22 rfl (fun _ _ => rfl) rfl (fun x w6 hd => ?_) ?_
    · have hG : x 19 = .bool true := hd 19 (by kernel_rfl)
      simp [Region.wanted, yielded, hG]
    refine StepsAt.skip 23 rfl (fun _ _ => rfl) rfl (fun x w6 hd => ?_) ?_
    · have hG : x 19 = .bool true := hd 19 (by kernel_rfl)
      simp [Region.wanted, yielded, hG]
    refine StepsAt.skip 24 rfl (fun _ _ => rfl) rfl (fun x w6 hd => ?_) ?_
    · have hG : x 19 = .bool true := hd 19 (by kernel_rfl)
      simp [Region.wanted, yielded, hG]
    refine StepsAt.skip 25 rfl (fun _ _ => rfl) rfl (fun x w6 hd => ?_) ?_
    · have hG : x 19 = .bool true := hd 19 (by kernel_rfl)
      simp [Region.wanted, yielded, hG]
    refine StepsAt.skip 26 rfl (fun _ _ => rfl) rfl (fun x w6 hd => ?_) ?_
    · have hG : x 19 = .bool true := hd 19 (by kernel_rfl)
      simp [Region.wanted, yielded, hG]
    refine StepsAt.skip 27 rfl (fun _ _ => rfl) rfl (fun x w6 hd => ?_) ?_
    · have hG : x 19 = .bool true := hd 19 (by kernel_rfl)
      simp [Region.wanted, yielded, hG]
    refine StepsAt.skip 28 rfl (fun _ _ => rfl) rfl (fun x w6 hd => ?_) ?_
    · have hG : x 19 = .bool true := hd 19 (by kernel_rfl)
      simp [Region.wanted, yielded, hG]
    refine StepsAt.skip 29 rfl (fun _ _ => rfl) rfl (fun x w6 hd => ?_) ?_
    · have hG : x 19 = .bool true := hd 19 (by kernel_rfl)
      simp [Region.wanted, yielded, hG]
    refine StepsAt.skip 30 rfl (fun _ _ => rfl) rfl (fun x w6 hd => ?_) ?_
    · have hG : x 19 = .bool true := hd 19 (by kernel_rfl)
      simp [Region.wanted, yielded, hG]
    refine StepsAt.val 31 (.bool true) rfl (fun _ _ => rfl) rfl rfl (fun x w6 hb hd => ?_) ?_
    · have h19 : x 19 = .bool true := hd 19 (by kernel_rfl)
      have h30 : x 30 = undef := hd 30 (by kernel_rfl)
      rw [h19, h30]
      first | (go_simp; done) | (go_simp; rfl)
    exact StepsAt.done
  case fin =>
    intro x w6 hb hd
    have hx0 : x 0 = .slice (some aS) nS cS := hd 0 (by omega)
    have hx1 : x 1 = .int .i64 (nS : Int) := hd 1 (by omega)
    have hx2 : x 2 = .int IntKind.i64 ↑n := hd 2 (by omega)
    have hx3 : x 3 = .int .i64 (m1 : Int) := hd 3 (by omega)
    have hx4 : x 4 = .int .i64 (m2 : Int) := hd 4 (by omega)
    have hx5 : x 5 = .pointer (some ⟨g7, 49, none⟩) := hd 5 (by omega)
    have hx6 : x 6 = .int .i64 (h : Int) := hd 6 (by omega)
    have hx7 : x 7 = .int .i64 (32 * (h : Int)) := hd 7 (by omega)
    have hx8 : x 8 = .int .i64 (LL : Int) := hd 8 (by omega)
    have hx9 : x 9 = .bool false := hd 9 (by omega)
    have hx10 : x 10 = .bool false := hd 10 (by omega)
    have hx11 : x 11 = .slice (some aS) nS cS := hd 11 (by omega)
    have hx12 : x 12 = .slice (some (aS.add 4)) 4 (cS - 4) := hd 12 (by omega)
    have hx13 : x 13 = .string ⟨sA.toArray⟩ := hd 13 (by omega)
    have hx14 : x 14 = .slice (some aP) 56 cP := hd 14 (by omega)
    have hx15 : x 15 = .slice (some (aP.add 4)) 4 (cP - 4) := hd 15 (by omega)
    have hx16 : x 16 = .string ⟨b2.toArray⟩ := hd 16 (by omega)
    have hx17 : x 17 = .bool true := hd 17 (by omega)
    have hx18 : x 18 = .bool true := hd 18 (by omega)
    have hx19 : x 19 = .bool true := hd 19 (by omega)
    have hx20 : x 20 = undef := hd 20 (by omega)
    have hx21 : x 21 = undef := hd 21 (by omega)
    have hx22 : x 22 = undef := hd 22 (by omega)
    have hx23 : x 23 = undef := hd 23 (by omega)
    have hx24 : x 24 = undef := hd 24 (by omega)
    have hx25 : x 25 = undef := hd 25 (by omega)
    have hx26 : x 26 = undef := hd 26 (by omega)
    have hx27 : x 27 = undef := hd 27 (by omega)
    have hx28 : x 28 = undef := hd 28 (by omega)
    have hx29 : x 29 = undef := hd 29 (by omega)
    have hx30 : x 30 = undef := hd 30 (by omega)
    have hx31 : x 31 = .bool true := hd 31 (by omega)
    refine AnyTill.any (S := fun _ => True) (m := 32) _ _ _ _ ?_
    refine AnyTill.done (by kernel_rfl) ?_
    refine NoPanic.normal ?_
    try dsimp only
    rw [hx0, hx1, hx2, hx3, hx4, hx5, hx6, hx7, hx8, hx9, hx10, hx11, hx12, hx13, hx14, hx15, hx16, hx17, hx18, hx19, hx20, hx21, hx22, hx23, hx24, hx25, hx26, hx27, hx28, hx29, hx30, hx31]
    have N3 : Hid (Below w.heap.size w w6) := C3.out.trans (hb.mono C3.out.size)
    clear hx0 hx1 hx2 hx3 hx4 hx5 hx6 hx7 hx8 hx9 hx10 hx11 hx12 hx13 hx14 hx15 hx16 hx17 hx18 hx19 hx20 hx21 hx22 hx23 hx24 hx25 hx26 hx27 hx28 hx29 hx30 hx31 hd hb C7 C3 x
    go_wp2
    go_ret
    exact ⟨rfl, N3.out⟩

set_option maxRecDepth 100000 in
set_option maxHeartbeats 4000000 in
theorem rfVer_B (p s R : List UInt8) (k h : Nat) (pv tv sv : Value) (w : World) (hp : Rd w.heap.size w pv p) (hs : Rd w.heap.size w sv s) (hl : p.length = 56) (hf : LFit (wd p 0) (wd (p.drop 4) 0) k h) (hR : (p.drop 8).take 16 = R) (hlen : s.length = llng k h) (hA : (s.drop 4).take 4 = (p.drop 4).take 4) (hB : (s.drop (4 + lng k)).take 4 ≠ p.take 4) : Calls Tryz.prog 10 #[pv, tv, sv] w (One (.int .i64 3) w) := by
  have hform := rfForm_yes pv p k h w hp hl hf
  obtain ⟨hk, hh, hk1, hk2⟩ := hf
  obtain ⟨l36, l85⟩ := lng_le hk
  have hh5 : h ≤ 5 := by unfold Ht at hh; omega
  have hLL : llng k h = 4 + lng k + 4 + h * 32 := rfl
  have hRl : R.length = 16 := by rw [← hR, List.length_take, List.length_drop, hl]; omega
  rw [hR] at hform
  obtain ⟨aP, cP, rfl, hcP, hmP⟩ := hp.some_ (by omega)
  unfold maxLen at hmP
  rw [hl] at hp hcP hform ⊢
  have HP4 : Hid (Rd w.heap.size w (.slice (some aP) 4 cP) (p.take 4)) := hp.take 4 (by omega)
  have HP8 : Hid (Rd w.heap.size w (.slice (some (aP.add 4)) 4 (cP - 4)) ((p.drop 4).take 4)) := by
    have h := hp.dropE 4 (by omega)
    rw [if_neg (by omega)] at h
    exact h.take 4 (by omega)
  obtain ⟨b1, hb1⟩ : ∃ x, p.take 4 = x := ⟨_, rfl⟩
  obtain ⟨b2, hb2⟩ : ∃ x, (p.drop 4).take 4 = x := ⟨_, rfl⟩
  rw [hb1] at HP4
  rw [hb2] at HP8
  obtain ⟨n, hn⟩ : ∃ n, lng k = n := ⟨_, rfl⟩
  rw [hn] at hLL l36 l85
  obtain ⟨m1, hm1⟩ : ∃ x, 4 + n = x := ⟨_, rfl⟩
  obtain ⟨m2, hm2⟩ : ∃ x, 8 + n = x := ⟨_, rfl⟩
  obtain ⟨LL, hLE⟩ : ∃ x, 4 + n + 4 + h * 32 = x := ⟨_, rfl⟩
  have HM1 : Hid (4 + (n : Int) = (m1 : Int)) := by show _ = _; omega
  have HM2 : Hid (8 + (n : Int) = (m2 : Int)) := by show _ = _; omega
  have HM3 : Hid ((m1 : Int) + 4 = (m2 : Int)) := by show _ = _; omega
  have HM4 : Hid ((m2 : Int) + 32 * (h : Int) = (LL : Int)) := by show _ = _; omega
  have hLLb : LL ≤ 9000 := by omega
  have hm1b : m1 ≤ 9000 := by omega
  have hm2b : m2 ≤ 9000 := by omega
  have HFORM := Lib.hid hform
  have HK := Lib.hid hk
  have HHT := Lib.hid hh
  have HRL := Lib.hid hRl
  have HN := Lib.hid hn
  obtain ⟨nS, hnS⟩ : ∃ x, s.length = x := ⟨_, rfl⟩
  obtain ⟨aS, cS, rfl, hcS, hmS⟩ := hs.some_ (by omega)
  unfold maxLen at hmS
  have HS8 : Hid (Rd w.heap.size w (.slice (some (aS.add 4)) 4 (cS - 4)) ((s.drop 4).take 4)) := by
    have h := hs.dropE 4 (by omega)
    rw [if_neg (by omega)] at h
    exact h.take 4 (by omega)
  have HSB4 : Hid (Rd w.heap.size w (.slice (some (aS.add m1)) 4 (cS - m1)) ((s.drop m1).take 4)) := by
    have h := hs.dropE m1 (by omega)
    rw [if_neg (by omega)] at h
    exact h.take 4 (by omega)
  have HS := Lib.hid hs
  obtain ⟨sA, hsA⟩ : ∃ x, (s.drop 4).take 4 = x := ⟨_, rfl⟩
  obtain ⟨sB, hsB⟩ : ∃ x, (s.drop m1).take 4 = x := ⟨_, rfl⟩
  rw [hsA] at HS8
  rw [hsB] at HSB4
  rw [hnS] at hcS HS ⊢
  have HLN : Hid (nS = LL) := by show _ = _; omega
  have hcS8 : m2 ≤ cS ∧ 44 ≤ m2 ∧ m1 + 4 = m2 ∧ 40 ≤ m1 := by omega
  have HSA : Hid (sA = b2) := by show _ = _; rw [← hsA, ← hb2]; exact hA
  have HSBE : Hid (¬ sB = b1) := by show ¬ _; rw [← hsB, ← hb1, ← hm1, ← hn]; exact hB
  clear hform hk hh hk1 hk2 hRl hn hb1 hb2 hp hl hs hnS hlen hLL hLE hm1 hsA hsB hA hB hm2 hR
  go_enter Tryz.func10, Tryz.ntmps10
  go_wp2_with fail
  refine (HFORM.out).mono ?_
  rintro e w1 ⟨rfl, hb⟩
  have A3 : Hid (Below w.heap.size w w1) := hb
  clear hb
  go_wp2_with (refine wpList_alloc_blk rfl 38 rfl _ ziTreeV ?_)
  intro w2 a1 a2 a3
  obtain ⟨g7, hg7⟩ : ∃ g, w1.heap.size = g := ⟨_, rfl⟩
  have hw7 : w.heap.size ≤ g7 := by have := A3.out.size; omega
  rw [hg7] at a1 a2 a3 ⊢
  have G7 := Lib.hid a1
  obtain ⟨w3, hw3⟩ : ∃ u, w2.setRow g7 (tcs R Z32 (k : Int) (h : Int)).toArray = u := ⟨_, rfl⟩
  have B7 : Hid (Blk w3 g7 (tcs R Z32 (k : Int) (h : Int)) 38) := by show Blk _ _ _ _; rw [← hw3]; exact a1.setRow
  have B3 : Hid (Below w.heap.size w w3) := by show Below _ _ _; rw [← hw3]; exact below_setRow' (A3.out.trans (a3.mono hw7)) hw7 _
  have HW3 := Lib.hid hw3
  clear a1 a2 a3 hg7 hw3 A3
  have cz := B7.out.cell 48
  rw [tcs_z _ _ _ _ HRL.out Z32l] at cz
  go_wp2_with (first | (refine wpList_store_blk rfl 38 _ _ rfl g7 (tcs R Z32 (k : Int) (h : Int)) (tcs Z16 Z32 0 0) 38 rfl rfl G7.out (sTreeV _ _ _ _ HRL.out Z32l) (by rw [tcs_length _ _ _ _ HRL.out Z32l]; rfl) (tcs_one _ _ _ _) ?_; rw [HW3.out]; clear HW3))
  refine (refLong_yes k _ HK.out).mono ?_
  rw [HN.out]
  rintro e w4 ⟨rfl, nd, rfl⟩
  have C7 : Hid (Blk (w3.drewN nd) g7 (tcs R Z32 (k : Int) (h : Int)) 38) := B7.out
  have C3 : Hid (Below w.heap.size w (w3.drewN nd)) := Below.drewN' B3.out
  generalize w3.drewN nd = w5 at C7 C3 ⊢
  clear B7 B3 cz G7
  go_wp2_with fail
  refine wp_region_rely2 32 0 (fun x => ⟨#[.slice (some aP) 56 cP, tv, .slice (some aS) nS cS, undef, undef, undef, .int IntKind.i64 0, .pointer (some { block := g7, off := 0 }), .bool true, .int IntKind.i64 ↑n, .int IntKind.i64 0, undef, undef, undef, undef, undef, undef, undef, undef, undef, .tuple #[Value.agg (tcs R Z32 ↑k ↑h).toArray, Value.bool true], .slice (some aP) 56 cP, .tuple #[Value.agg (tcs R Z32 ↑k ↑h).toArray, Value.bool true], .agg (tcs R Z32 ↑k ↑h).toArray, .bool true, .bool true, .bool false, .tuple #[Value.int IntKind.i64 ↑n, Value.int IntKind.i64 0], .pointer (some { block := g7, off := 48 }), .int IntKind.i64 ↑k, .tuple #[Value.int IntKind.i64 ↑n, Value.int IntKind.i64 0], .int IntKind.i64 ↑n, .int IntKind.i64 0, x 0, x 1, x 2, x 3, x 4, x 5, x 6, x 7, x 8, x 9, x 10, x 11, x 12, x 13, x 14, x 15, x 16, x 17, x 18, x 19, x 20, x 21, x 22, x 23, x 24, x 25, x 26, x 27, x 28, x 29, x 30, x 31, undef, undef, undef, undef, undef, undef, undef, undef, undef, undef, undef, undef, undef, undef, undef, undef, undef, undef, undef, undef, undef, undef, undef, undef, undef, undef, undef, undef, undef, undef, undef, undef, undef, undef, undef, undef, undef, undef, undef, undef, undef, undef, undef, undef, undef, undef, undef, undef, undef, undef, undef, undef, undef, undef, undef, undef, undef, undef, undef, undef, undef, undef, undef, undef, undef, undef, undef, undef, undef, undef, undef, undef, undef, undef, undef, undef, undef], []⟩) (fun jj => ([eqV (.slice (some aS) nS cS), eqV (.int .i64 (nS : Int)), eqV (.int IntKind.i64 ↑n), eqV (.int .i64 (m1 : Int)), eqV (.int .i64 (m2 : Int)), eqV (.pointer (some ⟨g7, 49, none⟩)), eqV (.int .i64 (h : Int)), eqV (.int .i64 (32 * (h : Int))), eqV (.int .i64 (LL : Int)), eqV (.bool false), eqV (.bool false), eqV (.slice (some aS) nS cS), eqV (.slice (some (aS.add 4)) 4 (cS - 4)), eqV (.string ⟨sA.toArray⟩), eqV (.slice (some aP) 56 cP), eqV (.slice (some (aP.add 4)) 4 (cP - 4)), eqV (.string ⟨b2.toArray⟩), eqV (.bool false), eqV (.bool false), eqV (.bool false), eqV (.slice (some aS) nS cS), eqV (.int IntKind.i64 ↑n), eqV (.int .i64 (m1 : Int)), eqV (.int IntKind.i64 ↑n), eqV (.int .i64 (m2 : Int)), eqV (.slice (some (aS.add m1)) 4 (cS - m1)), eqV (.string ⟨sB.toArray⟩), eqV (.slice (some aP) 56 cP), eqV (.slice (some aP) 4 cP), eqV (.string ⟨b1.toArray⟩), eqV (.bool true), eqV (.bool true)] : List (Value → World → Prop)).getD jj (fun _ _ => True)) rfl ⟨fun kk => [_, _, _, _, _, _, _, _, _, _, _, _, _, _, _, _, _, _, _, _, _, _, _, _, _, _, _, _, _, _, _, _].getD kk undef, rfl⟩ (by kernel_rfl) (by kernel_rfl) ?steps ?fin
  case steps =>
    refine StepsAt.val 0 (.slice (some aS) nS cS) rfl (fun _ _ => rfl) rfl rfl (fun x w6 hb hd => ?_) ?_
    · first | (go_simp; done) | (go_simp; rfl)
    refine StepsAt.val 1 (.int .i64 (nS : Int)) rfl (fun _ _ => rfl) rfl rfl (fun x w6 hb hd => ?_) ?_
    · have h0 : x 0 = .slice (some aS) nS cS := hd 0 (by kernel_rfl)
      rw [h0]
      first | (go_simp; done) | (go_simp; rfl)
    refine StepsAt.val 2 (.int IntKind.i64 ↑n) rfl (fun _ _ => rfl) rfl rfl (fun x w6 hb hd => ?_) ?_
    · first | (go_simp; done) | (go_simp; rfl)
    refine StepsAt.val 3 (.int .i64 (m1 : Int)) rfl (fun _ _ => rfl) rfl rfl (fun x w6 hb hd => ?_) ?_
    · have h2 : x 2 = .int IntKind.i64 ↑n := hd 2 (by kernel_rfl)
      rw [h2]
      go_simp
      rw [HM1.out]
      exact wrap_i64s _ (by omega) (by omega)
    refine StepsAt.val 4 (.int .i64 (m2 : Int)) rfl (fun _ _ => rfl) rfl rfl (fun x w6 hb hd => ?_) ?_
    · have h3 : x 3 = .int .i64 (m1 : Int) := hd 3 (by kernel_rfl)
      rw [h3]
      go_simp
      rw [HM3.out]
      exact wrap_i64s _ (by omega) (by omega)
    refine StepsAt.val 5 (.pointer (some ⟨g7, 49, none⟩)) rfl (fun _ _ => rfl) rfl rfl (fun x w6 hb hd => ?_) ?_
    · first | (go_simp; done) | (go_simp; rfl)
    refine StepsAt.val 6 (.int .i64 (h : Int)) rfl (fun _ _ => rfl) rfl rfl (fun x w6 hb hd => ?_) ?_
    · have h5 : x 5 = .pointer (some ⟨g7, 49, none⟩) := hd 5 (by kernel_rfl)
      have cc := ((C7.out.below hb C7.out.lt).cell 49).trans (show (tcs R Z32 (k : Int) (h : Int))[49]? = some (.int .i64 (h : Int)) from tcs_y _ _ _ _ HRL.out Z32l)
      rw [h5]
      first | (go_simp; done) | (go_simp; rfl)
    refine StepsAt.val 7 (.int .i64 (32 * (h : Int))) rfl (fun _ _ => rfl) rfl rfl (fun x w6 hb hd => ?_) ?_
    · have h6 : x 6 = .int .i64 (h : Int) := hd 6 (by kernel_rfl)
      rw [h6]
      first | (go_simp; done) | (go_simp; exact wrap_i64s _ (by omega) (by omega))
    refine StepsAt.val 8 (.int .i64 (LL : Int)) rfl (fun _ _ => rfl) rfl rfl (fun x w6 hb hd => ?_) ?_
    · have h4 : x 4 = .int .i64 (m2 : Int) := hd 4 (by kernel_rfl)
      have h7 : x 7 = .int .i64 (32 * (h : Int)) := hd 7 (by kernel_rfl)
      rw [h4, h7]
      go_simp
      rw [HM4.out]
      exact wrap_i64s _ (by omega) (by omega)
    refine StepsAt.val 9 (.bool false) rfl (fun _ _ => rfl) rfl rfl (fun x w6 hb hd => ?_) ?_
    · have h1 : x 1 = .int .i64 (nS : Int) := hd 1 (by kernel_rfl)
      have h8 : x 8 = .int .i64 (LL : Int) := hd 8 (by kernel_rfl)
      rw [h1, h8]
      have hx := HLN.out
      first | (go_simp; done) | (go_simp; omega) | (go_simp; exact hx)
    refine StepsAt.val 10 (.bool false) rfl (fun _ _ => rfl) rfl rfl (fun x w6 hb hd => ?_) ?_
    · have h9 : x 9 = .bool false := hd 9 (by kernel_rfl)
      rw [h9]
      first | (go_simp; done) | (go_simp; rfl)
    refine StepsAt.valG 11 (.slice (some aS) nS cS) rfl (fun _ _ => rfl) rfl (fun x w6 hd => ?_) (fun x w6 hb hd => ?_) ?_
    · have hG : x 10 = .bool false := hd 10 (by kernel_rfl)
      simp [Region.wanted, yielded, hG]
    · first | (go_simp; done) | (go_simp; rfl)
    refine StepsAt.valG 12 (.slice (some (aS.add 4)) 4 (cS - 4)) rfl (fun _ _ => rfl) rfl (fun x w6 hd => ?_) (fun x w6 hb hd => ?_) ?_
    · have hG : x 10 = .bool false := hd 10 (by kernel_rfl)
      simp [Region.wanted, yielded, hG]
    · have h11 : x 11 = .slice (some aS) nS cS := hd 11 (by kernel_rfl)
      have zc : ¬ ((cS : Int) < 8) := by omega
      have zc4 : ¬ (cS = 4) := by omega
      rw [h11]
      first | (go_simp; done) | (go_simp; rfl)
    refine StepsAt.valG 13 (.string ⟨sA.toArray⟩) rfl (fun _ _ => rfl) rfl (fun x w6 hd => ?_) (fun x w6 hb hd => ?_) ?_
    · have hG : x 10 = .bool false := hd 10 (by kernel_rfl)
      simp [Region.wanted, yielded, hG]
    · have h12 : x 12 = .slice (some (aS.add 4)) 4 (cS - 4) := hd 12 (by kernel_rfl)
      have r1 := ((HS8.out.below C3.out).below (hb.mono C3.out.size))
      have t1 := run_string_rd 22 9 5 Tryz.underlying22 Tryz.underlying5 Tryz.underlying9 r1
      simp [Addr.add] at t1
      rw [h12]
      clear r1
      first | (go_simp; done) | (go_simp; rfl)
    refine StepsAt.valG 14 (.slice (some aP) 56 cP) rfl (fun _ _ => rfl) rfl (fun x w6 hd => ?_) (fun x w6 hb hd => ?_) ?_
    · have hG : x 10 = .bool false := hd 10 (by kernel_rfl)
      simp [Region.wanted, yielded, hG]
    · first | (go_simp; done) | (go_simp; rfl)
    refine StepsAt.valG 15 (.slice (some (aP.add 4)) 4 (cP - 4)) rfl (fun _ _ => rfl) rfl (fun x w6 hd => ?_) (fun x w6 hb hd => ?_) ?_
    · have hG : x 10 = .bool false := hd 10 (by kernel_rfl)
      simp [Region.wanted, yielded, hG]
    · have h14 : x 14 = .slice (some aP) 56 cP := hd 14 (by kernel_rfl)
      have zc : ¬ ((cP : Int) < 8) := by omega
      have zc4 : ¬ (cP = 4) := by omega
      rw [h14]
      first | (go_simp; done) | (go_simp; rfl)
    refine StepsAt.valG 16 (.string ⟨b2.toArray⟩) rfl (fun _ _ => rfl) rfl (fun x w6 hd => ?_) (fun x w6 hb hd => ?_) ?_
    · have hG : x 10 = .bool false := hd 10 (by kernel_rfl)
      simp [Region.wanted, yielded, hG]
    · have h15 : x 15 = .slice (some (aP.add 4)) 4 (cP - 4) := hd 15 (by kernel_rfl)
      have r1 := ((HP8.out.below C3.out).below (hb.mono C3.out.size))
      have t1 := run_string_rd 22 9 5 Tryz.underlying22 Tryz.underlying5 Tryz.underlying9 r1
      simp [Addr.add] at t1
      rw [h15]
      clear r1
      first | (go_simp; done) | (go_simp; rfl)
    refine StepsAt.valG 17 (.bool false) rfl (fun _ _ => rfl) rfl (fun x w6 hd => ?_) (fun x w6 hb hd => ?_) ?_
    · have hG : x 10 = .bool false := hd 10 (by kernel_rfl)
      simp [Region.wanted, yielded, hG]
    · have h13 : x 13 = .string ⟨sA.toArray⟩ := hd 13 (by kernel_rfl)
      have h16 : x 16 = .string ⟨b2.toArray⟩ := hd 16 (by kernel_rfl)
      rw [h13, h16]
      rw [HSA.out]
      first | (go_simp; done) | (go_simp; rfl)
    refine StepsAt.val 18 (.bool false) rfl (fun _ _ => rfl) rfl rfl (fun x w6 hb hd => ?_) ?_
    · have h10 : x 10 = .bool false := hd 10 (by kernel_rfl)
      have h17 : x 17 = .bool false := hd 17 (by kernel_rfl)
      rw [h10, h17]
      first | (go_simp; done) | (go_simp; rfl)
    refine StepsAt.val 19 (.bool false) rfl (fun _ _ => rfl) rfl rfl (fun x w6 hb hd => ?_) ?_
    · have h18 : x 18 = .bool false := hd 18 (by kernel_rfl)
      rw [h18]
      first | (go_simp; done) | (go_simp; rfl)
    refine StepsAt.valG 20 (.slice (some aS) nS cS) rfl (fun _ _ => rfl) rfl (fun x w6 hd => ?_) (fun x w6 hb hd => ?_) ?_
    · have hG : x 19 = .bool false := hd 19 (by kernel_rfl)
      simp [Region.wanted, yielded, hG]
    · first | (go_simp; done) | (go_simp; rfl)
    refine StepsAt.valG 21 (.int IntKind.i64 ↑n) rfl (fun _ _ => rfl) rfl (fun x w6 hd => ?_) (fun x w6 hb hd => ?_) ?_
    · have hG : x 19 = .bool false := hd 19 (by kernel_rfl)
      simp [Region.wanted, yielded, hG]
    · first | (go_simp; done) | (go_simp; rfl)
    refine StepsAt.valG 22 (.int .i64 (m1 : Int)) rfl (fun _ _ => rfl) rfl (fun x w6 hd => ?_) (fun x w6 hb hd => ?_) ?_
    · have hG : x 19 = .bool false := hd 19 (by kernel_rfl)
      simp [Region.wanted, yielded, hG]
    · have h21 : x 21 = .int IntKind.i64 ↑n := hd 21 (by kernel_rfl)
      rw [h21]
      go_simp
      rw [HM1.out]
      exact wrap_i64s _ (by omega) (by omega)
    refine StepsAt.valG 23 (.int IntKind.i64 ↑n) rfl (fun _ _ => rfl) rfl (fun x w6 hd => ?_) (fun x w6 hb hd => ?_) ?_
    · have hG : x 19 = .bool false := hd 19 (by kernel_rfl)
      simp [Region.wanted, yielded, hG]
    · first | (go_simp; done) | (go_simp; rfl)
    refine StepsAt.valG 24 (.int .i64 (m2 : Int)) rfl (fun _ _ => rfl) rfl (fun x w6 hd => ?_) (fun x w6 hb hd => ?_) ?_
    · have hG : x 19 = .bool false := hd 19 (by kernel_rfl)
      simp [Region.wanted, yielded, hG]
    · have h23 : x 23 = .int IntKind.i64 ↑n := hd 23 (by kernel_rfl)
      rw [h23]
      go_simp
      rw [HM2.out]
      exact wrap_i64s _ (by omega) (by omega)
    refine StepsAt.valG 25 (.slice (some (aS.add m1)) 4 (cS - m1)) rfl (fun _ _ => rfl) rfl (fun x w6 hd => ?_) (fun x w6 hb hd => ?_) ?_
    · have hG : x 19 = .bool false := hd 19 (by kernel_rfl)
      simp [Region.wanted, yielded, hG]
    · have h20 : x 20 = .slice (some aS) nS cS := hd 20 (by kernel_rfl)
      have h22 : x 22 = .int .i64 (m1 : Int) := hd 22 (by kernel_rfl)
      have h24 : x 24 = .int .i64 (m2 : Int) := hd 24 (by kernel_rfl)
      have zc : ¬ ((cS : Int) < (m2 : Int)) := by omega
      have zc2 : ¬ ((m2 : Int) < (m1 : Int)) := by omega
      have zc4 : ¬ (cS = m1) := by omega
      have zn1 : ¬ (m2 < m1) := by omega
      have zn2 : ¬ (cS < m2) := by omega
      have zc5 : m2 - m1 = 4 := by omega
      have zc6 : (((m2 : Int) - (m1 : Int))).toNat = 4 := by omega
      rw [h20, h22, h24]
      first | (go_simp; done) | (go_simp; rfl)
    refine StepsAt.valG 26 (.string ⟨sB.toArray⟩) rfl (fun _ _ => rfl) rfl (fun x w6 hd => ?_) (fun x w6 hb hd => ?_) ?_
    · have hG : x 19 = .bool false := hd 19 (by kernel_rfl)
      simp [Region.wanted, yielded, hG]
    · have h25 : x 25 = .slice (some (aS.add m1)) 4 (cS - m1) := hd 25 (by kernel_rfl)
      have r1 := ((HSB4.out.below C3.out).below (hb.mono C3.out.size))
      have t1 := run_string_rd 22 9 5 Tryz.underlying22 Tryz.underlying5 Tryz.underlying9 r1
      rw [h25]
      clear r1
      first | (go_simp; done) | (go_simp; rfl)
    refine StepsAt.valG 27 (.slice (some aP) 56 cP) rfl (fun _ _ => rfl) rfl (fun x w6 hd => ?_) (fun x w6 hb hd => ?_) ?_
    · have hG : x 19 = .bool false := hd 19 (by kernel_rfl)
      simp [Region.wanted, yielded, hG]
    · first | (go_simp; done) | (go_simp; rfl)
    refine StepsAt.valG 28 (.slice (some aP) 4 cP) rfl (fun _ _ => rfl) rfl (fun x w6 hd => ?_) (fun x w6 hb hd => ?_) ?_
    · have hG : x 19 = .bool false := hd 19 (by kernel_rfl)
      simp [Region.wanted, yielded, hG]
    · have h27 : x 27 = .slice (some aP) 56 cP := hd 27 (by kernel_rfl)
      have zc : ¬ ((cP : Int) < 4) := by omega
      rw [h27]
      first | (go_simp; done) | (go_simp; rfl)
    refine StepsAt.valG 29 (.string ⟨b1.toArray⟩) rfl (fun _ _ => rfl) rfl (fun x w6 hd => ?_) (fun x w6 hb hd => ?_) ?_
    · have hG : x 19 = .bool false := hd 19 (by kernel_rfl)
      simp [Region.wanted, yielded, hG]
    · have h28 : x 28 = .slice (some aP) 4 cP := hd 28 (by kernel_rfl)
      have r1 := ((HP4.out.below C3.out).below (hb.mono C3.out.size))
      have t1 := run_string_rd 22 9 5 Tryz.underlying22 Tryz.underlying5 Tryz.underlying9 r1
      rw [h28]
      clear r1
      first | (go_simp; done) | (go_simp; rfl)
    refine StepsAt.valG 30 (.bool true) rfl (fun _ _ => rfl) rfl (fun x w6 hd => ?_) (fun x w6 hb hd => ?_) ?_
    · have hG : x 19 = .bool false := hd 19 (by kernel_rfl)
      simp [Region.wanted, yielded, hG]
    · have h26 : x 26 = .string ⟨sB.toArray⟩ := hd 26 (by kernel_rfl)
      have h29 : x 29 = .string ⟨b1.toArray⟩ := hd 29 (by kernel_rfl)
      rw [h26, h29]
      have hx := HSBE.out
      first | (go_simp; done) | (go_simp; exact hx)
    refine StepsAt.val 31 (.bool true) rfl (fun _ _ => rfl) rfl rfl (fun x w6 hb hd => ?_) ?_
    · have h19 : x 19 = .bool false := hd 19 (by kernel_rfl)
      have h30 : x 30 = .bool true := hd 30 (by kernel_rfl)
      rw [h19, h30]
      first | (go_simp; done) | (go_simp; rfl)
    exact StepsAt.done
  case fin =>
    intro x w6 hb hd
    have hx0 : x 0 = .slice (some aS) nS cS := hd 0 (by omega)
    have hx1 : x 1 = .int .i64 (nS : Int) := hd 1 (by omega)
    have hx2 : x 2 = .int IntKind.i64 ↑n := hd 2 (by omega)
    have hx3 : x 3 = .int .i64 (m1 : Int) := hd 3 (by omega)
    have hx4 : x 4 = .int .i64 (m2 : Int) := hd 4 (by omega)
    have hx5 : x 5 = .pointer (some ⟨g7, 49, none⟩) := hd 5 (by omega)
    have hx6 : x 6 = .int .i64 (h : Int) := hd 6 (by omega)
    have hx7 : x 7 = .int .i64 (32 * (h : Int)) := hd 7 (by omega)
    have hx8 : x 8 = .int .i64 (LL : Int) := hd 8 (by omega)
    have hx9 : x 9 = .bool false := hd 9 (by omega)
    have hx10 : x 10 = .bool false := hd 10 (by omega)
    have hx11 : x 11 = .slice (some aS) nS cS := hd 11 (by omega)
    have hx12 : x 12 = .slice (some (aS.add 4)) 4 (cS - 4) := hd 12 (by omega)
    have hx13 : x 13 = .string ⟨sA.toArray⟩ := hd 13 (by omega)
    have hx14 : x 14 = .slice (some aP) 56 cP := hd 14 (by omega)
    have hx15 : x 15 = .slice (some (aP.add 4)) 4 (cP - 4) := hd 15 (by omega)
    have hx16 : x 16 = .string ⟨b2.toArray⟩ := hd 16 (by omega)
    have hx17 : x 17 = .bool false := hd 17 (by omega)
    have hx18 : x 18 = .bool false := hd 18 (by omega)
    have hx19 : x 19 = .bool false := hd 19 (by omega)
    have hx20 : x 20 = .slice (some aS) nS cS := hd 20 (by omega)
    have hx21 : x 21 = .int IntKind.i64 ↑n := hd 21 (by omega)
    have hx22 : x 22 = .int .i64 (m1 : Int) := hd 22 (by omega)
    have hx23 : x 23 = .int IntKind.i64 ↑n := hd 23 (by omega)
    have hx24 : x 24 = .int .i64 (m2 : Int) := hd 24 (by omega)
    have hx25 : x 25 = .slice (some (aS.add m1)) 4 (cS - m1) := hd 25 (by omega)
    have hx26 : x 26 = .string ⟨sB.toArray⟩ := hd 26 (by omega)
    have hx27 : x 27 = .slice (some aP) 56 cP := hd 27 (by omega)
    have hx28 : x 28 = .slice (some aP) 4 cP := hd 28 (by omega)
    have hx29 : x 29 = .string ⟨b1.toArray⟩ := hd 29 (by omega)
    have hx30 : x 30 = .bool true := hd 30 (by omega)
    have hx31 : x 31 = .bool true := hd 31 (by omega)
    refine AnyTill.any (S := fun _ => True) (m := 32) _ _ _ _ ?_
    refine AnyTill.done (by kernel_rfl) ?_
    refine NoPanic.normal ?_
    try dsimp only
    rw [hx0, hx1, hx2, hx3, hx4, hx5, hx6, hx7, hx8, hx9, hx10, hx11, hx12, hx13, hx14, hx15, hx16, hx17, hx18, hx19, hx20, hx21, hx22, hx23, hx24, hx25, hx26, hx27, hx28, hx29, hx30, hx31]
    have N3 : Hid (Below w.heap.size w w6) := C3.out.trans (hb.mono C3.out.size)
    clear hx0 hx1 hx2 hx3 hx4 hx5 hx6 hx7 hx8 hx9 hx10 hx11 hx12 hx13 hx14 hx15 hx16 hx17 hx18 hx19 hx20 hx21 hx22 hx23 hx24 hx25 hx26 hx27 hx28 hx29 hx30 hx31 hd hb C7 C3 x
    go_wp2
    go_ret
    exact ⟨rfl, N3.out⟩

set_option maxRecDepth 100000 in
set_option maxHeartbeats 4000000 in
theorem rfVer_C (p s R : List UInt8) (k h : Nat) (pv tv sv : Value) (w : World) (hp : Rd w.heap.size w pv p) (hs : Rd w.heap.size w sv s) (hl : p.length = 56) (hf : LFit (wd p 0) (wd (p.drop 4) 0) k h) (hR : (p.drop 8).take 16 = R) (hlen : s.length = llng k h) (hA : (s.drop 4).take 4 = (p.drop 4).take 4) (hB : (s.drop (4 + lng k)).take 4 = p.take 4) (hq : 2 ^ h ≤ wd s 0) : Calls Tryz.prog 10 #[pv, tv, sv] w (One (.int .i64 3) w) := by
  have hform := rfForm_yes pv p k h w hp hl hf
  obtain ⟨hk, hh, hk1, hk2⟩ := hf
  obtain ⟨l36, l85⟩ := lng_le hk
  have hh5 : h ≤ 5 := by unfold Ht at hh; omega
  have hLL : llng k h = 4 + lng k + 4 + h * 32 := rfl
  have hRl : R.length = 16 := by rw [← hR, List.length_take, List.length_drop, hl]; omega
  rw [hR] at hform
  obtain ⟨aP, cP, rfl, hcP, hmP⟩ := hp.some_ (by omega)
  unfold maxLen at hmP
  rw [hl] at hp hcP hform ⊢
  have HP4 : Hid (Rd w.heap.size w (.slice (some aP) 4 cP) (p.take 4)) := hp.take 4 (by omega)
  have HP8 : Hid (Rd w.heap.size w (.slice (some (aP.add 4)) 4 (cP - 4)) ((p.drop 4).take 4)) := by
    have h := hp.dropE 4 (by omega)
    rw [if_neg (by omega)] at h
    exact h.take 4 (by omega)
  obtain ⟨b1, hb1⟩ : ∃ x, p.take 4 = x := ⟨_, rfl⟩
  obtain ⟨b2, hb2⟩ : ∃ x, (p.drop 4).take 4 = x := ⟨_, rfl⟩
  rw [hb1] at HP4
  rw [hb2] at HP8
  obtain ⟨n, hn⟩ : ∃ n, lng k = n := ⟨_, rfl⟩
  rw [hn] at hLL l36 l85
  obtain ⟨m1, hm1⟩ : ∃ x, 4 + n = x := ⟨_, rfl⟩
  obtain ⟨m2, hm2⟩ : ∃ x, 8 + n = x := ⟨_, rfl⟩
  obtain ⟨LL, hLE⟩ : ∃ x, 4 + n + 4 + h * 32 = x := ⟨_, rfl⟩
  have HM1 : Hid (4 + (n : Int) = (m1 : Int)) := by show _ = _; omega
  have HM2 : Hid (8 + (n : Int) = (m2 : Int)) := by show _ = _; omega
  have HM3 : Hid ((m1 : Int) + 4 = (m2 : Int)) := by show _ = _; omega
  have HM4 : Hid ((m2 : Int) + 32 * (h : Int) = (LL : Int)) := by show _ = _; omega
  have hLLb : LL ≤ 9000 := by omega
  have hm1b : m1 ≤ 9000 := by omega
  have hm2b : m2 ≤ 9000 := by omega
  have HFORM := Lib.hid hform
  have HK := Lib.hid hk
  have HHT := Lib.hid hh
  have HRL := Lib.hid hRl
  have HN := Lib.hid hn
  obtain ⟨nS, hnS⟩ : ∃ x, s.length = x := ⟨_, rfl⟩
  obtain ⟨aS, cS, rfl, hcS, hmS⟩ := hs.some_ (by omega)
  unfold maxLen at hmS
  have HS8 : Hid (Rd w.heap.size w (.slice (some (aS.add 4)) 4 (cS - 4)) ((s.drop 4).take 4)) := by
    have h := hs.dropE 4 (by omega)
    rw [if_neg (by omega)] at h
    exact h.take 4 (by omega)
  have HSB4 : Hid (Rd w.heap.size w (.slice (some (aS.add m1)) 4 (cS - m1)) ((s.drop m1).take 4)) := by
    have h := hs.dropE m1 (by omega)
    rw [if_neg (by omega)] at h
    exact h.take 4 (by omega)
  have HS := Lib.hid hs
  obtain ⟨sA, hsA⟩ : ∃ x, (s.drop 4).take 4 = x := ⟨_, rfl⟩
  obtain ⟨sB, hsB⟩ : ∃ x, (s.drop m1).take 4 = x := ⟨_, rfl⟩
  rw [hsA] at HS8
  rw [hsB] at HSB4
  rw [hnS] at hcS HS ⊢
  have HLN : Hid (nS = LL) := by show _ = _; omega
  have hcS8 : m2 ≤ cS ∧ 44 ≤ m2 ∧ m1 + 4 = m2 ∧ 40 ≤ m1 := by omega
  have HSA : Hid (sA = b2) := by show _ = _; rw [← hsA, ← hb2]; exact hA
  have HSBE : Hid (sB = b1) := by show _ = _; rw [← hsB, ← hb1, ← hm1, ← hn]; exact hB
  have HLF : Hid (∀ w', Below w.heap.size w w' → Calls Tryz.prog 8 #[.slice (some aS) nS cS] w' (TwoD (.int .i64 (wd s 0 : Nat)) (.int .i64 0) w')) := fun w' hb => rfLeaf_yes _ s w' ((HS.out.below hb).more hb.size) (by omega)
  obtain ⟨q, hqE⟩ : ∃ x, wd s 0 = x := ⟨_, rfl⟩
  rw [hqE] at HLF hq
  obtain ⟨P2, hP2⟩ : ∃ x, 2 ^ h = x := ⟨_, rfl⟩
  rw [hP2] at hq
  have HP2 := Lib.hid hP2
  clear hform hk hh hk1 hk2 hRl hn hb1 hb2 hp hl hs hnS hlen hLL hLE hm1 hsA hsB hA hB hm2 hqE hP2 hR
  go_enter Tryz.func10, Tryz.ntmps10
  go_wp2_with fail
  refine (HFORM.out).mono ?_
  rintro e w1 ⟨rfl, hb⟩
  have A3 : Hid (Below w.heap.size w w1) := hb
  clear hb
  go_wp2_with (refine wpList_alloc_blk rfl 38 rfl _ ziTreeV ?_)
  intro w2 a1 a2 a3
  obtain ⟨g7, hg7⟩ : ∃ g, w1.heap.size = g := ⟨_, rfl⟩
  have hw7 : w.heap.size ≤ g7 := by have := A3.out.size; omega
  rw [hg7] at a1 a2 a3 ⊢
  have G7 := Lib.hid a1
  obtain ⟨w3, hw3⟩ : ∃ u, w2.setRow g7 (tcs R Z32 (k : Int) (h : Int)).toArray = u := ⟨_, rfl⟩
  have B7 : Hid (Blk w3 g7 (tcs R Z32 (k : Int) (h : Int)) 38) := by show Blk _ _ _ _; rw [← hw3]; exact a1.setRow
  have B3 : Hid (Below w.heap.size w w3) := by show Below _ _ _; rw [← hw3]; exact below_setRow' (A3.out.trans (a3.mono hw7)) hw7 _
  have HW3 := Lib.hid hw3
  clear a1 a2 a3 hg7 hw3 A3
  have cz := B7.out.cell 48
  rw [tcs_z _ _ _ _ HRL.out Z32l] at cz
  go_wp2_with (first | (refine wpList_store_blk rfl 38 _ _ rfl g7 (tcs R Z32 (k : Int) (h : Int)) (tcs Z16 Z32 0 0) 38 rfl rfl G7.out (sTreeV _ _ _ _ HRL.out Z32l) (by rw [tcs_length _ _ _ _ HRL.out Z32l]; rfl) (tcs_one _ _ _ _) ?_; rw [HW3.out]; clear HW3))
  refine (refLong_yes k _ HK.out).mono ?_
  rw [HN.out]
  rintro e w4 ⟨rfl, nd, rfl⟩
  have C7 : Hid (Blk (w3.drewN nd) g7 (tcs R Z32 (k : Int) (h : Int)) 38) := B7.out
  have C3 : Hid (Below w.heap.size w (w3.drewN nd)) := Below.drewN' B3.out
  generalize w3.drewN nd = w5 at C7 C3 ⊢
  clear B7 B3 cz G7
  go_wp2_with fail
  refine wp_region_rely2 32 0 (fun x => ⟨#[.slice (some aP) 56 cP, tv, .slice (some aS) nS cS, undef, undef, undef, .int IntKind.i64 0, .pointer (some { block := g7, off := 0 }), .bool true, .int IntKind.i64 ↑n, .int IntKind.i64 0, undef, undef, undef, undef, undef, undef, undef, undef, undef, .tuple #[Value.agg (tcs R Z32 ↑k ↑h).toArray, Value.bool true], .slice (some aP) 56 cP, .tuple #[Value.agg (tcs R Z32 ↑k ↑h).toArray, Value.bool true], .agg (tcs R Z32 ↑k ↑h).toArray, .bool true, .bool true, .bool false, .tuple #[Value.int IntKind.i64 ↑n, Value.int IntKind.i64 0], .pointer (some { block := g7, off := 48 }), .int IntKind.i64 ↑k, .tuple #[Value.int IntKind.i64 ↑n, Value.int IntKind.i64 0], .int IntKind.i64 ↑n, .int IntKind.i64 0, x 0, x 1, x 2, x 3, x 4, x 5, x 6, x 7, x 8, x 9, x 10, x 11, x 12, x 13, x 14, x 15, x 16, x 17, x 18, x 19, x 20, x 21, x 22, x 23, x 24, x 25, x 26, x 27, x 28, x 29, x 30, x 31, undef, undef, undef, undef, undef, undef, undef, undef, undef, undef, undef, undef, undef, undef, undef, undef, undef, undef, undef, undef, undef, undef, undef, undef, undef, undef, undef, undef, undef, undef, undef, undef, undef, undef, undef, undef, undef, undef, undef, undef, undef, undef, undef, undef, undef, undef, undef, undef, undef, undef, undef, undef, undef, undef, undef, undef, undef, undef, undef, undef, undef, undef, undef, undef, undef, undef, undef, undef, undef, undef, undef, undef, undef, undef, undef, undef, undef], []⟩) (fun jj => ([eqV (.slice (some aS) nS cS), eqV (.int .i64 (nS : Int)), eqV (.int IntKind.i64 ↑n), eqV (.int .i64 (m1 : Int)), eqV (.int .i64 (m2 : Int)), eqV (.pointer (some ⟨g7, 49, none⟩)), eqV (.int .i64 (h : Int)), eqV (.int .i64 (32 * (h : Int))), eqV (.int .i64 (LL : Int)), eqV (.bool false), eqV (.bool false), eqV (.slice (some aS) nS cS), eqV (.slice (some (aS.add 4)) 4 (cS - 4)), eqV (.string ⟨sA.toArray⟩), eqV (.slice (some aP) 56 cP), eqV (.slice (some (aP.add 4)) 4 (cP - 4)), eqV (.string ⟨b2.toArray⟩), eqV (.bool false), eqV (.bool false), eqV (.bool false), eqV (.slice (some aS) nS cS), eqV (.int IntKind.i64 ↑n), eqV (.int .i64 (m1 : Int)), eqV (.int IntKind.i64 ↑n), eqV (.int .i64 (m2 : Int)), eqV (.slice (some (aS.add m1)) 4 (cS - m1)), eqV (.string ⟨sB.toArray⟩), eqV (.slice (some aP) 56 cP), eqV (.slice (some aP) 4 cP), eqV (.string ⟨b1.toArray⟩), eqV (.bool false), eqV (.bool false)] : List (Value → World → Prop)).getD jj (fun _ _ => True)) rfl ⟨fun kk => [_, _, _, _, _, _, _, _, _, _, _, _, _, _, _, _, _, _, _, _, _, _, _, _, _, _, _, _, _, _, _, _].getD kk undef, rfl⟩ (by kernel_rfl) (by kernel_rfl) ?steps ?fin
  case steps =>
    refine StepsAt.val 0 (.slice (some aS) nS cS) rfl (fun _ _ => rfl) rfl rfl (fun x w6 hb hd => ?_) ?_
    · first | (go_simp; done) | (go_simp; rfl)
    refine StepsAt.val 1 (.int .i64 (nS : Int)) rfl (fun _ _ => rfl) rfl rfl (fun x w6 hb hd => ?_) ?_
    · have h0 : x 0 = .slice (some aS) nS cS := hd 0 (by kernel_rfl)
      rw [h0]
      first | (go_simp; done) | (go_simp; rfl)
    refine StepsAt.val 2 (.int IntKind.i64 ↑n) rfl (fun _ _ => rfl) rfl rfl (fun x w6 hb hd => ?_) ?_
    · first | (go_simp; done) | (go_simp; rfl)
    refine StepsAt.val 3 (.int .i64 (m1 : Int)) rfl (fun _ _ => rfl) rfl rfl (fun x w6 hb hd => ?_) ?_
    · have h2 : x 2 = .int IntKind.i64 ↑n := hd 2 (by kernel_rfl)
      rw [h2]
      go_simp
      rw [HM1.out]
      exact wrap_i64s _ (by omega) (by omega)
    refine StepsAt.val 4 (.int .i64 (m2 : Int)) rfl (fun _ _ => rfl) rfl rfl (fun x w6 hb hd => ?_) ?_
    · have h3 : x 3 = .int .i64 (m1 : Int) := hd 3 (by kernel_rfl)
      rw [h3]
      go_simp
      rw [HM3.out]
      exact wrap_i64s _ (by omega) (by omega)
    refine StepsAt.val 5 (.pointer (some ⟨g7, 49, none⟩)) rfl (fun _ _ => rfl) rfl rfl (fun x w6 hb hd => ?_) ?_
    · first | (go_simp; done) | (go_simp; rfl)
    refine StepsAt.val 6 (.int .i64 (h : Int)) rfl (fun _ _ => rfl) rfl rfl (fun x w6 hb hd => ?_) ?_
    · have h5 : x 5 = .pointer (some ⟨g7, 49, none⟩) := hd 5 (by kernel_rfl)
      have cc := ((C7.out.below hb C7.out.lt).cell 49).trans (show (tcs R Z32 (k : Int) (h : Int))[49]? = some (.int .i64 (h : Int)) from tcs_y _ _ _ _ HRL.out Z32l)
      rw [h5]
      first | (go_simp; done) | (go_simp; rfl)
    refine StepsAt.val 7 (.int .i64 (32 * (h : Int))) rfl (fun _ _ => rfl) rfl rfl (fun x w6 hb hd => ?_) ?_
    · have h6 : x 6 = .int .i64 (h : Int) := hd 6 (by kernel_rfl)
      rw [h6]
      first | (go_simp; done) | (go_simp; exact wrap_i64s _ (by omega) (by omega))
    refine StepsAt.val 8 (.int .i64 (LL : Int)) rfl (fun _ _ => rfl) rfl rfl (fun x w6 hb hd => ?_) ?_
    · have h4 : x 4 = .int .i64 (m2 : Int) := hd 4 (by kernel_rfl)
      have h7 : x 7 = .int .i64 (32 * (h : Int)) := hd 7 (by kernel_rfl)
      rw [h4, h7]
      go_simp
      rw [HM4.out]
      exact wrap_i64s _ (by omega) (by omega)
    refine StepsAt.val 9 (.bool false) rfl (fun _ _ => rfl) rfl rfl (fun x w6 hb hd => ?_) ?_
    · have h1 : x 1 = .int .i64 (nS : Int) := hd 1 (by kernel_rfl)
      have h8 : x 8 = .int .i64 (LL : Int) := hd 8 (by kernel_rfl)
      rw [h1, h8]
      have hx := HLN.out
      first | (go_simp; done) | (go_simp; omega) | (go_simp; exact hx)
    refine StepsAt.val 10 (.bool false) rfl (fun _ _ => rfl) rfl rfl (fun x w6 hb hd => ?_) ?_
    · have h9 : x 9 = .bool false := hd 9 (by kernel_rfl)
      rw [h9]
      first | (go_simp; done) | (go_simp; rfl)
    refine StepsAt.valG 11 (.slice (some aS) nS cS) rfl (fun _ _ => rfl) rfl (fun x w6 hd => ?_) (fun x w6 hb hd => ?_) ?_
    · have hG : x 10 = .bool false := hd 10 (by kernel_rfl)
      simp [Region.wanted, yielded, hG]
    · first | (go_simp; done) | (go_simp; rfl)
    refine StepsAt.valG 12 (.slice (some (aS.add 4)) 4 (cS - 4)) rfl (fun _ _ => rfl) rfl (fun x w6 hd => ?_) (fun x w6 hb hd => ?_) ?_
    · have hG : x 10 = .bool false := hd 10 (by kernel_rfl)
      simp [Region.wanted, yielded, hG]
    · have h11 : x 11 = .slice (some aS) nS cS := hd 11 (by kernel_rfl)
      have zc : ¬ ((cS : Int) < 8) := by omega
      have zc4 : ¬ (cS = 4) := by omega
      rw [h11]
      first | (go_simp; done) | (go_simp; rfl)
    refine StepsAt.valG 13 (.string ⟨sA.toArray⟩) rfl (fun _ _ => rfl) rfl (fun x w6 hd => ?_) (fun x w6 hb hd => ?_) ?_
    · have hG : x 10 = .bool false := hd 10 (by kernel_rfl)
      simp [Region.wanted, yielded, hG]
    · have h12 : x 12 = .slice (some (aS.add 4)) 4 (cS - 4) := hd 12 (by kernel_rfl)
      have r1 := ((HS8.out.below C3.out).below (hb.mono C3.out.size))
      have t1 := run_string_rd 22 9 5 Tryz.underlying22 Tryz.underlying5 Tryz.underlying9 r1
      simp [Addr.add] at t1
      rw [h12]
      clear r1
      first | (go_simp; done) | (go_simp; rfl)
    refine StepsAt.valG 14 (.slice (some aP) 56 cP) rfl (fun _ _ => rfl) rfl (fun x w6 hd => ?_) (fun x w6 hb hd => ?_) ?_
    · have hG : x 10 = .bool false := hd 10 (by kernel_rfl)
      simp [Region.wanted, yielded, hG]
    · first | (go_simp; done) | (go_simp; rfl)
    refine StepsAt.valG 15 (.slice (some (aP.add 4)) 4 (cP - 4)) rfl (fun _ _ => rfl) rfl (fun x w6 hd => ?_) (fun x w6 hb hd => ?_) ?_
    · have hG : x 10 = .bool false := hd 10 (by kernel_rfl)
      simp [Region.wanted, yielded, hG]
    · have h14 : x 14 = .slice (some aP) 56 cP := hd 14 (by kernel_rfl)
      have zc : ¬ ((cP : Int) < 8) := by omega
      have zc4 : ¬ (cP = 4) := by omega
      rw [h14]
      first | (go_simp; done) | (go_simp; rfl)
    refine StepsAt.valG 16 (.string ⟨b2.toArray⟩) rfl (fun _ _ => rfl) rfl (fun x w6 hd => ?_) (fun x w6 hb hd => ?_) ?_
    · have hG : x 10 = .bool false := hd 10 (by kernel_rfl)
      simp [Region.wanted, yielded, hG]
    · have h15 : x 15 = .slice (some (aP.add 4)) 4 (cP - 4) := hd 15 (by kernel_rfl)
      have r1 := ((HP8.out.below C3.out).below (hb.mono C3.out.size))
      have t1 := run_string_rd 22 9 5 Tryz.underlying22 Tryz.underlying5 Tryz.underlying9 r1
      simp [Addr.add] at t1
      rw [h15]
      clear r1
      first | (go_simp; done) | (go_simp; rfl)
    refine StepsAt.valG 17 (.bool false) rfl (fun _ _ => rfl) rfl (fun x w6 hd => ?_) (fun x w6 hb hd => ?_) ?_
    · have hG : x 10 = .bool false := hd 10 (by kernel_rfl)
      simp [Region.wanted, yielded, hG]
    · have h13 : x 13 = .string ⟨sA.toArray⟩ := hd 13 (by kernel_rfl)
      have h16 : x 16 = .string ⟨b2.toArray⟩ := hd 16 (by kernel_rfl)
      rw [h13, h16]
      rw [HSA.out]
      first | (go_simp; done) | (go_simp; rfl)
    refine StepsAt.val 18 (.bool false) rfl (fun _ _ => rfl) rfl rfl (fun x w6 hb hd => ?_) ?_
    · have h10 : x 10 = .bool false := hd 10 (by kernel_rfl)
      have h17 : x 17 = .bool false := hd 17 (by kernel_rfl)
      rw [h10, h17]
      first | (go_simp; done) | (go_simp; rfl)
    refine StepsAt.val 19 (.bool false) rfl (fun _ _ => rfl) rfl rfl (fun x w6 hb hd => ?_) ?_
    · have h18 : x 18 = .bool false := hd 18 (by kernel_rfl)
      rw [h18]
      first | (go_simp; done) | (go_simp; rfl)
    refine StepsAt.valG 20 (.slice (some aS) nS cS) rfl (fun _ _ => rfl) rfl (fun x w6 hd => ?_) (fun x w6 hb hd => ?_) ?_
    · have hG : x 19 = .bool false := hd 19 (by kernel_rfl)
      simp [Region.wanted, yielded, hG]
    · first | (go_simp; done) | (go_simp; rfl)
    refine StepsAt.valG 21 (.int IntKind.i64 ↑n) rfl (fun _ _ => rfl) rfl (fun x w6 hd => ?_) (fun x w6 hb hd => ?_) ?_
    · have hG : x 19 = .bool false := hd 19 (by kernel_rfl)
      simp [Region.wanted, yielded, hG]
    · first | (go_simp; done) | (go_simp; rfl)
    refine StepsAt.valG 22 (.int .i64 (m1 : Int)) rfl (fun _ _ => rfl) rfl (fun x w6 hd => ?_) (fun x w6 hb hd => ?_) ?_
    · have hG : x 19 = .bool false := hd 19 (by kernel_rfl)
      simp [Region.wanted, yielded, hG]
    · have h21 : x 21 = .int IntKind.i64 ↑n := hd 21 (by kernel_rfl)
      rw [h21]
      go_simp
      rw [HM1.out]
      exact wrap_i64s _ (by omega) (by omega)
    refine StepsAt.valG 23 (.int IntKind.i64 ↑n) rfl (fun _ _ => rfl) rfl (fun x w6 hd => ?_) (fun x w6 hb hd => ?_) ?_
    · have hG : x 19 = .bool false := hd 19 (by kernel_rfl)
      simp [Region.wanted, yielded, hG]
    · first | (go_simp; done) | (go_simp; rfl)
    refine StepsAt.valG 24 (.int .i64 (m2 : Int)) rfl (fun _ _ => rfl) rfl (fun x w6 hd => ?_) (fun x w6 hb hd => ?_) ?_
    · have hG : x 19 = .bool false := hd 19 (by kernel_rfl)
      simp [Region.wanted, yielded, hG]
    · have h23 : x 23 = .int IntKind.i64 ↑n := hd 23 (by kernel_rfl)
      rw [h23]
      go_simp
      rw [HM2.out]
      exact wrap_i64s _ (by omega) (by omega)
    refine StepsAt.valG 25 (.slice (some (aS.add m1)) 4 (cS - m1)) rfl (fun _ _ => rfl) rfl (fun x w6 hd => ?_) (fun x w6 hb hd => ?_) ?_
    · have hG : x 19 = .bool false := hd 19 (by kernel_rfl)
      simp [Region.wanted, yielded, hG]
    · have h20 : x 20 = .slice (some aS) nS cS := hd 20 (by kernel_rfl)
      have h22 : x 22 = .int .i64 (m1 : Int) := hd 22 (by kernel_rfl)
      have h24 : x 24 = .int .i64 (m2 : Int) := hd 24 (by kernel_rfl)
      have zc : ¬ ((cS : Int) < (m2 : Int)) := by omega
      have zc2 : ¬ ((m2 : Int) < (m1 : Int)) := by omega
      have zc4 : ¬ (cS = m1) := by omega
      have zn1 : ¬ (m2 < m1) := by omega
      have zn2 : ¬ (cS < m2) := by omega
      have zc5 : m2 - m1 = 4 := by omega
      have zc6 : (((m2 : Int) - (m1 : Int))).toNat = 4 := by omega
      rw [h20, h22, h24]
      first | (go_simp; done) | (go_simp; rfl)
    refine StepsAt.valG 26 (.string ⟨sB.toArray⟩) rfl (fun _ _ => rfl) rfl (fun x w6 hd => ?_) (fun x w6 hb hd => ?_) ?_
    · have hG : x 19 = .bool false := hd 19 (by kernel_rfl)
      simp [Region.wanted, yielded, hG]
    · have h25 : x 25 = .slice (some (aS.add m1)) 4 (cS - m1) := hd 25 (by kernel_rfl)
      have r1 := ((HSB4.out.below C3.out).below (hb.mono C3.out.size))
      have t1 := run_string_rd 22 9 5 Tryz.underlying22 Tryz.underlying5 Tryz.underlying9 r1
      rw [h25]
      clear r1
      first | (go_simp; done) | (go_simp; rfl)
    refine StepsAt.valG 27 (.slice (some aP) 56 cP) rfl (fun _ _ => rfl) rfl (fun x w6 hd => ?_) (fun x w6 hb hd => ?_) ?_
    · have hG : x 19 = .bool false := hd 19 (by kernel_rfl)
      simp [Region.wanted, yielded, hG]
    · first | (go_simp; done) | (go_simp; rfl)
    refine StepsAt.valG 28 (.slice (some aP) 4 cP) rfl (fun _ _ => rfl) rfl (fun x w6 hd => ?_) (fun x w6 hb hd => ?_) ?_
    · have hG : x 19 = .bool false := hd 19 (by kernel_rfl)
      simp [Region.wanted, yielded, hG]
    · have h27 : x 27 = .slice (some aP) 56 cP := hd 27 (by kernel_rfl)
      have zc : ¬ ((cP : Int) < 4) := by omega
      rw [h27]
      first | (go_simp; done) | (go_simp; rfl)
    refine StepsAt.valG 29 (.string ⟨b1.toArray⟩) rfl (fun _ _ => rfl) rfl (fun x w6 hd => ?_) (fun x w6 hb hd => ?_) ?_
    · have hG : x 19 = .bool false := hd 19 (by kernel_rfl)
      simp [Region.wanted, yielded, hG]
    · have h28 : x 28 = .slice (some aP) 4 cP := hd 28 (by kernel_rfl)
      have r1 := ((HP4.out.below C3.out).below (hb.mono C3.out.size))
      have t1 := run_string_rd 22 9 5 Tryz.underlying22 Tryz.underlying5 Tryz.underlying9 r1
      rw [h28]
      clear r1
      first | (go_simp; done) | (go_simp; rfl)
    refine StepsAt.valG 30 (.bool false) rfl (fun _ _ => rfl) rfl (fun x w6 hd => ?_) (fun x w6 hb hd => ?_) ?_
    · have hG : x 19 = .bool false := hd 19 (by kernel_rfl)
      simp [Region.wanted, yielded, hG]
    · have h26 : x 26 = .string ⟨sB.toArray⟩ := hd 26 (by kernel_rfl)
      have h29 : x 29 = .string ⟨b1.toArray⟩ := hd 29 (by kernel_rfl)
      rw [h26, h29]
      rw [HSBE.out]
      first | (go_simp; done) | (go_simp; rfl)
    refine StepsAt.val 31 (.bool false) rfl (fun _ _ => rfl) rfl rfl (fun x w6 hb hd => ?_) ?_
    · have h19 : x 19 = .bool false := hd 19 (by kernel_rfl)
      have h30 : x 30 = .bool false := hd 30 (by kernel_rfl)
      rw [h19, h30]
      first | (go_simp; done) | (go_simp; rfl)
    exact StepsAt.done
  case fin =>
    intro x w6 hb hd
    have hx0 : x 0 = .slice (some aS) nS cS := hd 0 (by omega)
    have hx1 : x 1 = .int .i64 (nS : Int) := hd 1 (by omega)
    have hx2 : x 2 = .int IntKind.i64 ↑n := hd 2 (by omega)
    have hx3 : x 3 = .int .i64 (m1 : Int) := hd 3 (by omega)
    have hx4 : x 4 = .int .i64 (m2 : Int) := hd 4 (by omega)
    have hx5 : x 5 = .pointer (some ⟨g7, 49, none⟩) := hd 5 (by omega)
    have hx6 : x 6 = .int .i64 (h : Int) := hd 6 (by omega)
    have hx7 : x 7 = .int .i64 (32 * (h : Int)) := hd 7 (by omega)
    have hx8 : x 8 = .int .i64 (LL : Int) := hd 8 (by omega)
    have hx9 : x 9 = .bool false := hd 9 (by omega)
    have hx10 : x 10 = .bool false := hd 10 (by omega)
    have hx11 : x 11 = .slice (some aS) nS cS := hd 11 (by omega)
    have hx12 : x 12 = .slice (some (aS.add 4)) 4 (cS - 4) := hd 12 (by omega)
    have hx13 : x 13 = .string ⟨sA.toArray⟩ := hd 13 (by omega)
    have hx14 : x 14 = .slice (some aP) 56 cP := hd 14 (by omega)
    have hx15 : x 15 = .slice (some (aP.add 4)) 4 (cP - 4) := hd 15 (by omega)
    have hx16 : x 16 = .string ⟨b2.toArray⟩ := hd 16 (by omega)
    have hx17 : x 17 = .bool false := hd 17 (by omega)
    have hx18 : x 18 = .bool false := hd 18 (by omega)
    have hx19 : x 19 = .bool false := hd 19 (by omega)
    have hx20 : x 20 = .slice (some aS) nS cS := hd 20 (by omega)
    have hx21 : x 21 = .int IntKind.i64 ↑n := hd 21 (by omega)
    have hx22 : x 22 = .int .i64 (m1 : Int) := hd 22 (by omega)
    have hx23 : x 23 = .int IntKind.i64 ↑n := hd 23 (by omega)
    have hx24 : x 24 = .int .i64 (m2 : Int) := hd 24 (by omega)
    have hx25 : x 25 = .slice (some (aS.add m1)) 4 (cS - m1) := hd 25 (by omega)
    have hx26 : x 26 = .string ⟨sB.toArray⟩ := hd 26 (by omega)
    have hx27 : x 27 = .slice (some aP) 56 cP := hd 27 (by omega)
    have hx28 : x 28 = .slice (some aP) 4 cP := hd 28 (by omega)
    have hx29 : x 29 = .string ⟨b1.toArray⟩ := hd 29 (by omega)
    have hx30 : x 30 = .bool false := hd 30 (by omega)
    have hx31 : x 31 = .bool false := hd 31 (by omega)
    refine AnyTill.any (S := fun _ => True) (m := 32) _ _ _ _ ?_
    refine AnyTill.done (by kernel_rfl) ?_
    refine NoPanic.normal ?_
    try dsimp only
    rw [hx0, hx1, hx2, hx3, hx4, hx5, hx6, hx7, hx8, hx9, hx10, hx11, hx12, hx13, hx14, hx15, hx16, hx17, hx18, hx19, hx20, hx21, hx22, hx23, hx24, hx25, hx26, hx27, hx28, hx29, hx30, hx31]
    have N7 : Hid (Blk w6 g7 (tcs R Z32 (k : Int) (h : Int)) 38) := C7.out.below hb C7.out.lt
    have N3 : Hid (Below w.heap.size w w6) := C3.out.trans (hb.mono C3.out.size)
    clear hx0 hx1 hx2 hx3 hx4 hx5 hx6 hx7 hx8 hx9 hx10 hx11 hx12 hx13 hx14 hx15 hx16 hx17 hx18 hx19 hx20 hx21 hx22 hx23 hx24 hx25 hx26 hx27 hx28 hx29 hx30 hx31 hd hb C7 C3 x
    go_wp2_with fail
    refine (HLF.out _ N3.out).mono ?_
    rintro e w7 ⟨rfl, hb⟩
    have O7 : Hid (Blk w7 g7 (tcs R Z32 (k : Int) (h : Int)) 38) := N7.out.below hb N7.out.lt
    have O3 : Hid (Below w.heap.size w w7) := N3.out.trans (hb.mono N3.out.size)
    clear hb N7 N3
    have cy := O7.out.cell 49
    rw [tcs_y _ _ _ _ HRL.out Z32l] at cy
    go_wp2_with fail
    refine (rfLeaves_any h _ HHT.out).mono ?_
    rintro e w8 ⟨rfl, rfl⟩
    rw [HP2.out]
    have dq : decide ((P2 : Int) ≤ (q : Int)) = true := decide_eq_true (by omega)
    have dq2 : decide (P2 ≤ q) = true := decide_eq_true (by omega)
    go_wp2
    go_ret
    exact ⟨rfl, O3.out⟩

end Go.Proofs.YtllncnnigjgadaaGreat
