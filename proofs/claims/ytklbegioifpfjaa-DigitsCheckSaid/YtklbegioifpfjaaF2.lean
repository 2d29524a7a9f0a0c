/-
  The law DigitsCheck for two hashes that are not the same, and for every input.
-/
import Derived.Test.YtklbegioifpfjaaF1
namespace Go.Proofs.Ytklbegioifpfjaa
open Go.RowKit

set_option maxRecDepth 100000 in
set_option maxHeartbeats 2000000 in
theorem checkLaw_diff (l m : List UInt8) (k : Nat) (w : World) (hl : l.length = 32) (hm : m.length = 32) (hne : l ≠ m) (hk : Wd k) : Calls Try.prog 5 #[.agg (bys l).toArray, .agg (bys m).toArray, .int .i64 (k : Int)] w (One (.bool true) w) := by
  have HK := Lib.hid hk
  have HL : Hid ((Try.prog.info? 28).map (·.size) = some (bys l).length) := by show _ = _; rw [bys_length, hl]; exact s28
  have HM : Hid ((Try.prog.info? 28).map (·.size) = some (bys m).length) := by show _ = _; rw [bys_length, hm]; exact s28
  have HL0 := Lib.hid hl
  have HM0 := Lib.hid hm
  have HNE := Lib.hid hne
  obtain ⟨k1, k8, hP, hG⟩ := hk.le
  have hC := chk_le k
  obtain ⟨N, hN⟩ : ∃ N, 256 / k + chk k = N := ⟨_, rfl⟩
  have HX : Hid (anyGt (allD l k) (allD m k) N = true) := by rw [← hN]; exact anyGt_all l m k hk hl hm hne
  have HY : Hid (anyGt (allD m k) (allD l k) N = true) := by rw [← hN]; exact anyGt_all m l k hk hm hl (Ne.symm hne)
  have HA : Hid ((allD l k).length = N) := by rw [← hN]; exact allD_length l k
  have HB : Hid ((allD m k).length = N) := by rw [← hN]; exact allD_length m k
  have hN3 : N ≤ 300 := by unfold onn at hP; omega
  clear hl hm hk hne hN
  go_enter Try.func5, Try.ntmps5
  go_wp2_with (refine wpList_box_blk rfl 28 _ rfl (bys l) rfl ?_)
  intro w1 a1 a2 a3
  have A1 := Lib.hid a1
  have A2 := Lib.hid a2
  have A3 := Lib.hid a3
  clear a1 a2 a3
  go_wp2_with (refine wpList_box_blk rfl 28 _ rfl (bys m) rfl ?_)
  intro w2 a1 a2 a3
  rw [A2.out] at a1 a2 a3 ⊢
  have G1 : Hid (Blk w2 w.heap.size (bys l) 28) := A1.out.below a3 (by omega)
  have G2 : Hid (Blk w2 (w.heap.size + 1) (bys m) 28) := a1
  have GB : Hid (Below w.heap.size w w2) := A3.out.trans (a3.mono (by omega))
  have hs2 : w.heap.size + 1 < w2.heap.size := by omega
  clear a1 a2 a3 A1 A2 A3
  go_wp2_with (refine wpList_load_blk rfl 28 _ rfl w.heap.size rfl (bys l) 28 G1.out 32 5 tu28 HL.out ?_)
  refine (all_yes l k _ HK.out HL0.out).mono ?_
  rintro e w3 ⟨x, rfl, hown, hb⟩
  have F1 : Hid (Blk w3 w.heap.size (bys l) 28) := G1.out.below hb (by omega)
  have F2 : Hid (Blk w3 (w.heap.size + 1) (bys m) 28) := G2.out.below hb (by omega)
  have FB : Hid (Below w.heap.size w w3) := GB.out.trans (hb.mono (by omega))
  have FX : Hid (RdI w3.heap.size w3 x (allD l k)) := hown.rd
  have hs3 : w.heap.size + 1 < w3.heap.size := by have := hb.size; omega
  clear hb hown G1 G2 GB
  go_wp2_with (refine wpList_load_blk rfl 28 _ rfl (w.heap.size + 1) rfl (bys m) 28 F2.out 32 5 tu28 HM.out ?_)
  refine (all_yes m k _ HK.out HM0.out).mono ?_
  rintro e w4 ⟨y, rfl, hown, hb⟩
  have G1 : Hid (Blk w4 w.heap.size (bys l) 28) := F1.out.below hb (by omega)
  have G2 : Hid (Blk w4 (w.heap.size + 1) (bys m) 28) := F2.out.below hb (by omega)
  have GB : Hid (Below w.heap.size w w4) := FB.out.trans (hb.mono (by omega))
  have GX : Hid (RdI w4.heap.size w4 x (allD l k)) := (FX.out.below hb).more hb.size
  have GY : Hid (RdI w4.heap.size w4 y (allD m k)) := hown.rd
  clear hb hown F1 F2 FB FX hs3
  generalize allD l k = X at HX HY HA GX
  generalize allD m k = Y at HX HY HB GY
  obtain ⟨A, c, rfl, hc, hm⟩ := GX.out.shape
  obtain ⟨A', c', rfl, hc', hm'⟩ := GY.out.shape
  rw [HA.out] at hc GX ⊢
  rw [HB.out] at hc' GY ⊢
  unfold maxLen at hm hm'
  have heq := eqHash_no l m HL0.out HM0.out HNE.out w4
  go_wp2_with (first | (refine wpList_load_blkG 28 _ rfl w.heap.size rfl (bys l) 28 G1.out 32 5 tu28 HL.out (by rfl) ?_) | (refine wpList_load_blkG 28 _ rfl (w.heap.size + 1) rfl (bys m) 28 G2.out 32 5 tu28 HM.out (by rfl) ?_))
  clear heq
  go_loopw [11, 12, 13] (fun p q z wr => ∃ i : Nat, i ≤ N ∧ z = .int .i64 i ∧ p = .bool (anyGt X Y i) ∧ q = .bool (anyGt Y X i) ∧ Hid (∃ n, wr = w4.drewN n)) (fun _ _ z _ => N - (intOf z).toNat)
  case atStart => exact ⟨0, by omega, rfl, rfl, rfl, 0, rfl⟩
  case round =>
    obtain ⟨i, hi, rfl, rfl, rfl, HW⟩ := hrel
    obtain ⟨n, rfl⟩ := HW.out
    by_cases hlt : i < N
    · obtain ⟨a, rfl, c1⟩ := GX.out.at_ i (by rw [HA.out]; exact hlt)
      obtain ⟨a', rfl, c2⟩ := GY.out.at_ i (by rw [HB.out]; exact hlt)
      have zi : (i : Int) < N := by omega
      have N1 : Hid (anyGt X Y (i + 1) = (anyGt X Y i || decide (Y.getD i 0 < X.getD i 0))) := rfl
      have N2 : Hid (anyGt Y X (i + 1) = (anyGt Y X i || decide (X.getD i 0 < Y.getD i 0))) := rfl
      generalize X.getD i 0 = d1 at c1 N1 N2
      generalize Y.getD i 0 = d2 at c2 N1 N2
      obtain ⟨b1, hb1⟩ : ∃ b, anyGt X Y i = b := ⟨_, rfl⟩
      obtain ⟨b2, hb2⟩ : ∃ b, anyGt Y X i = b := ⟨_, rfl⟩
      rw [hb1] at N1 ⊢
      rw [hb2] at N2 ⊢
      clear hb1 hb2
      cases b1 <;> cases b2
      all_goals
        go_wp2
        go_quiet (fail)
        go_wp2
        go_quiet (fail)
        go_wp2
        go_roundw
        case rel => exact ⟨i + 1, by omega, by go_num, by rw [N1.out]; simp, by rw [N2.out]; simp, _, rfl⟩
        case measure => simp [intOf]; omega
    · obtain rfl : i = N := by omega
      rw [HX.out, HY.out]
      go_wp2_with fail
      refine (alive_any _).mono ?_
      rintro e w5 ⟨rfl, hb⟩
      have B5 : Hid (Below w.heap.size w w5) := (Below.drewN' GB.out).trans (hb.mono GB.out.size)
      clear hb
      go_wp2
      go_ret
      exact ⟨rfl, B5.out⟩

theorem check_law (l m : List UInt8) (z : Int) (w : World) (hl : l.length = 32) (hm : m.length = 32) (_ : -9223372036854775808 ≤ z) (_ : z ≤ 9223372036854775807) : Calls Try.prog 5 #[.agg (bys l).toArray, .agg (bys m).toArray, .int .i64 z] w (One (.bool true) w) := by
  rcases width_or z with ⟨k, hk, rfl⟩ | hz
  · by_cases h : l = m
    · subst h
      exact checkLaw_same l k w hl hk
    · exact checkLaw_diff l m k w hl hm h hk
  · exact checkLaw_no l m z w hl hm hz
end Go.Proofs.Ytklbegioifpfjaa
