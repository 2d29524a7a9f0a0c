/-
  The document's own layer 4: Four, head, many, last, Long, Type and a key as the document's, for every input.
-/
import Derived.Test.YtnemkefmlffigaaR4
import Derived.Test.YtnemkefmlffigaaDgR3
import Derived.Test.YtnemkefmlffigaaCc
namespace Go.Proofs.Ytnemkefmlffigaa
open Go.RowKit

set_option maxHeartbeats 400000 in
theorem four_any (q : Nat) (w : World) (hq : q < 4294967296) : Calls Try.prog 61 #[.int .u32 (q : Int)] w (Gives w.heap.size (be 4 q) w) := by
  have zq : (q : Int) < 4294967296 := by omega
  go_enter Try.func61, Try.ntmps61
  go_wp2
  go_ret
  refine ⟨_, rfl, Own.lit 5 w _ 4 (be 4 q) (be_length _ _) (by omega) ?_, (Below.refl _ _).alloc (Nat.le_refl _) _⟩
  simp [be, bys]
  omega

theorem row32 : ∃ d, Try.prog.underlying 67 = some d ∧ d.isRow = true := row_of (by kernel_rfl)
theorem s32 : (Try.prog.info? 67).map (·.size) = some 50 := by kernel_rfl

set_option maxRecDepth 100000 in
set_option maxHeartbeats 1000000 in
theorem head_any (I seed : List UInt8) (q : Nat) (z : Int) (w : World) (hI : I.length = 16) (hq : q < 4294967296) : Calls Try.prog 66 #[.agg (kcs I q seed z).toArray] w (Gives w.heap.size (pre20 I q) w) := by
  obtain ⟨i0, hi, hz0, hz1, hz2⟩ := info_parts info5
  have HIN := Lib.hid hi
  have H0 := Lib.hid hz0
  have H1 := Lib.hid hz1
  have H2 := Lib.hid hz2
  have HI := Lib.hid hI
  clear hi hz0 hz1 hz2 hI
  go_enter Try.func66, Try.ntmps66
  go_wp2_with (refine wpList_box_blk rfl 67 _ rfl (kcs I q seed z) rfl ?_)
  intro w1 a1 a2 a3
  obtain ⟨g, hg⟩ : ∃ g, w.heap.size = g := ⟨_, rfl⟩
  rw [hg] at a1 a2 a3 ⊢
  have A1 := Lib.hid a1
  have AB : Hid (Below w.heap.size w w1) := by rw [hg]; exact a3
  have hs1 : g < w1.heap.size := by omega
  have hwg : w.heap.size ≤ w1.heap.size := by omega
  have R1 : Hid (Rd w1.heap.size w1 (.slice (some ⟨g, 0, none⟩) 16 16) I) := by
    have hIl := HI.out
    refine ⟨some ⟨g, 0, none⟩, 16, by rw [hIl], by omega, by unfold maxLen; omega, fun h => (by cases h), fun x hx => ?_⟩
    cases hx
    refine ⟨fun _ => hs1, fun j hj => ?_⟩
    rw [Addr.add_mid]
    exact (kcs_rangeI a1) j _ (bys_get I j hj)
  clear a1 a2 a3 hg
  go_wp2_with (at_builtin; refine wpList_app rfl _ _ 24 rfl 5 i0 Try.underlying24 HIN.out H0.out H1.out H2.out w1.heap.size w1.heap.size _ _ [] I rfl (Own.madeS 5 w1) rfl (R1.out.below ((Below.refl _ _).alloc (Nat.le_refl _) _)) (by rw [HI.out]; simp) (by simp) ?_)
  intro v2 w2 hown hb2
  have hb : Below w1.heap.size w1 w2 := ((Below.refl _ _).alloc (Nat.le_refl _) _).trans hb2
  have O2 : Hid (Own 5 w2 w1.heap.size v2 I) := Lib.hid (by simpa using hown)
  have B1 : Hid (Blk w2 g (kcs I q seed z) 67) := A1.out.below hb hs1
  have BB : Hid (Below w.heap.size w w2) := AB.out.trans (hb.mono hwg)
  have hs2 := hb.size
  have cq := (B1.out.cell 16).trans (kcs_q I seed q z HI.out)
  clear hown hb2 hb A1 AB R1
  go_wp2_with fail
  refine (four_any q _ hq).mono ?_
  rintro e w3 ⟨v3, rfl, hown3, hb3⟩
  have O3 : Hid (Own 5 w3 w1.heap.size v2 I) := O2.out.below hb3 (Nat.le_refl _)
  have R3 : Hid (Rd w3.heap.size w3 v3 (be 4 q)) := hown3.rd
  have CB : Hid (Below w.heap.size w w3) := BB.out.trans (hb3.mono BB.out.size)
  have hs3 := hb3.size
  clear cq hown3 hb3 O2 B1 BB
  go_wp2_with (at_builtin; refine wpList_app rfl _ _ 24 rfl 5 i0 Try.underlying24 HIN.out H0.out H1.out H2.out w1.heap.size w3.heap.size _ _ I (be 4 q) rfl O3.out rfl R3.out (by rw [HI.out, be_length]; omega) (by omega) ?_)
  intro v4 w4 hown4 hb4
  have O4 := Lib.hid hown4
  have DB : Hid (Below w.heap.size w w4) := CB.out.trans (hb4.mono hwg)
  clear hown4 hb4 O3 R3 CB
  go_wp2
  go_ret
  exact ⟨_, rfl, O4.out.base hwg, DB.out⟩

set_option maxHeartbeats 400000 in
theorem many_yes (k : Nat) (w : World) (hk : Wd k) : Calls Try.prog 62 #[.int .i64 (k : Int)] w (Drew (.int .i64 (mny k : Nat)) w) := by
  have HK := Lib.hid hk
  obtain ⟨_, _, hP, _⟩ := hk.le
  have hC := chk_le k
  obtain ⟨N, hN⟩ : ∃ N, onn k = N := ⟨_, rfl⟩
  obtain ⟨M, hM⟩ : ∃ M, chk k = M := ⟨_, rfl⟩
  obtain ⟨S, hS⟩ : ∃ S, mny k = S := ⟨_, rfl⟩
  have hNS : N + M = S := by rw [← hN, ← hM, ← hS]; rfl
  have HN := Lib.hid hN
  have HM := Lib.hid hM
  rw [hS]
  rw [hN] at hP
  rw [hM] at hC
  clear hk hN hM hS
  go_enter Try.func62, Try.ntmps62
  go_wp2_with fail
  refine (refOwn_yes k _ HK.out).mono ?_
  rintro e w1 ⟨rfl, rfl⟩
  rw [HN.out]
  go_wp2_with fail
  refine (refCheck_yes k _ HK.out).mono ?_
  rintro e w1 ⟨rfl, nd, rfl⟩
  rw [HM.out]
  go_wp2
  go_ret
  have e1 : (N : Int) + (M : Int) = (S : Int) := by omega
  exact ⟨by rw [← e1]; rfl, nd, rfl⟩
set_option maxHeartbeats 400000 in
theorem many_no (z : Int) (w : World) (hz : NoW z) : Calls Try.prog 62 #[.int .i64 z] w (Drew (.int .i64 0) w) := by
  have HZ := Lib.hid hz
  clear hz
  go_enter Try.func62, Try.ntmps62
  go_wp2_with fail
  refine (refOwn_no z _ HZ.out).mono ?_
  rintro e w1 ⟨rfl, rfl⟩
  go_wp2_with fail
  refine (refCheck_no z _ HZ.out).mono ?_
  rintro e w1 ⟨rfl, rfl⟩
  go_wp2
  go_ret
  exact ⟨rfl, 0, rfl⟩

set_option maxHeartbeats 400000 in
theorem last_any (k : Nat) (w : World) (hk : Wd k) : Calls Try.prog 33 #[.int .i64 (k : Int)] w (Just (.int .i64 (gr k : Nat)) w) := by
  obtain ⟨k1, k8, _, hG⟩ := hk.le
  obtain ⟨G, hGe⟩ : ∃ G, gr k = G := ⟨_, rfl⟩
  have HG : Hid (pw k = G + 1) := by
    show _ = _
    rw [← hGe]; unfold pw gr
    have : 0 < 2 ^ k := Nat.pow_pos (by omega)
    omega
  have HB : Hid (∀ i, i ≤ 8 → pw i ≤ 256) := fun i hi => by unfold pw; exact Nat.pow_le_pow_right (by omega) hi
  rw [hGe]
  clear hk hGe hG
  go_enter Try.func33, Try.ntmps33
  go_wp2
  go_loop [3, 4] (fun x y => ∃ i : Nat, i ≤ k ∧ y = .int .i64 (i : Int) ∧ x = .int .i64 ((pw i : Nat) : Int)) (fun _ y => k - (intOf y).toNat)
  case atStart => exact ⟨0, by omega, rfl, rfl⟩
  case round =>
    obtain ⟨i, hi, rfl, rfl⟩ := hrel
    obtain ⟨X, hX⟩ : ∃ X, pw i = X := ⟨_, rfl⟩
    have hX8 : X ≤ 256 := by rw [← hX]; exact HB.out i (by omega)
    have HX : Hid (pw (i + 1) = 2 * X) := by show _ = _; rw [← hX]; unfold pw; rw [Nat.pow_succ]; omega
    rw [hX]
    by_cases hlt : i < k
    · have zi : (i : Int) < (k : Int) := by omega
      clear hX
      go_wp2
      go_round
      case rel => exact ⟨i + 1, by omega, by go_num, by rw [HX.out]; go_num⟩
      case measure => simp [intOf]; omega
    · obtain rfl : i = k := by omega
      have hGX : X = G + 1 := by rw [← hX]; exact HG.out
      clear hX
      subst hGX
      go_wp2
      go_ret
      exact ⟨by congr 2, rfl⟩
end Go.Proofs.Ytnemkefmlffigaa
