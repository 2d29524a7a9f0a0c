/-
  number of package digits: for every width and every hash.
-/
import Derived.Test.YtnemkefmlffigaaGreatD3
namespace Go.Proofs.YtnemkefmlffigaaGreat
open Go.RowKit

theorem ssum_small (l : List UInt8) (k i : Nat) (hk : Wd k) (hi : i ≤ onn k) : ssum l k i ≤ 65280 := by
  obtain ⟨_, _, h1, h2⟩ := hk.le
  exact Nat.le_trans (ssum_le l k i) (Nat.mul_le_mul (Nat.le_trans hi h1) h2)
theorem onn_eq (k : Nat) (hk : Wd k) : onn k = 32 * (8 / k) := by rcases hk with rfl | rfl | rfl | rfl <;> rfl
theorem shf_le (k : Nat) (hk : Wd k) : shf k ≤ 7 := by rcases hk with rfl | rfl | rfl | rfl <;> decide

set_option maxHeartbeats 400000 in
theorem number_any (l : List UInt8) (k : Nat) (w : World) (hk : Wd k) (hl : l.length = 32) : Calls Tryz.prog 87 #[.agg (bys l).toArray, .int .i64 (k : Int)] w (One (.int .i64 (num l k : Nat)) w) := by
  have HK := Lib.hid hk
  have HL := Lib.hid hl
  obtain ⟨k1, k8, hP, hG⟩ := hk.le
  obtain ⟨N, hN⟩ : ∃ N, num l k = N := ⟨_, rfl⟩
  have HN := Lib.hid hN
  rw [hN]
  clear hk hl hN
  go_enter Tryz.func87, Tryz.ntmps87
  go_wp2_with (refine wpList_box_blk rfl 23 _ rfl (bys l) rfl ?_)
  intro w1 a1 a2 a3
  have A1 := Lib.hid a1
  have A2 := Lib.hid a2
  have A3 := Lib.hid a3
  clear a1 a2 a3
  go_wp2_with fail
  refine (own_any k _ HK.out).mono ?_
  rintro e w2 ⟨rfl, hb⟩
  have hsz := A2.out
  have G2 : Hid (Blk w2 w.heap.size (bys l) 23) := A1.out.below hb (by omega)
  have B2 : Hid (Below w.heap.size w w2) := A3.out.trans (hb.mono (by omega))
  clear hb hsz A1 A2 A3
  obtain ⟨P, hP0⟩ : ∃ P, onn k = P := ⟨_, rfl⟩
  rw [hP0] at hP ⊢
  have HP0 := Lib.hid hP0
  clear hP0
  go_wp2
  go_loopw [5, 9] (fun s x wr => ∃ i S : Nat, i ≤ P ∧ S ≤ 65280 ∧ Hid (S = ssum l k i) ∧ s = .int .i64 S ∧ x = .int .i64 i ∧ Hid (Blk wr w.heap.size (bys l) 23) ∧ Hid (Below w.heap.size w wr)) (fun _ x _ => P - (intOf x).toNat)
  case atStart => exact ⟨0, 0, by omega, by omega, rfl, rfl, rfl, G2, B2⟩
  case round =>
    clear G2 B2
    obtain ⟨i, S, hi, hS, HS, rfl, rfl, G, B⟩ := hrel
    by_cases hlt : i < P
    · obtain ⟨D, hD⟩ : ∃ D, dig l i k = D := ⟨_, rfl⟩
      have hDG : D ≤ gr k := by rw [← hD]; exact dig_le l i k
      have HD := Lib.hid hD
      clear hD
      obtain ⟨Gk, hGk⟩ : ∃ Gk, gr k = Gk := ⟨_, rfl⟩
      have HGk := Lib.hid hGk
      rw [hGk] at hDG hG
      clear hGk
      have hI : i < l.length * (8 / k) := by have := onn_eq k HK.out; rw [HP0.out] at this; rw [HL.out]; omega
      have HI := Lib.hid hI
      clear hI
      have R : Hid (∀ n, Rd (w.heap.size + 1) (wr.drewN n) (.slice (some ⟨w.heap.size, 0, none⟩) 32 32) l) := fun n => by
        have h := G.out.drewN (n := n) |>.rd (by rw [HL.out]; unfold maxLen; omega)
        rw [HL.out] at h
        exact h
      have CG : Hid (∀ w', Calls Tryz.prog 102 #[.int .i64 (k : Int)] w' (Just (.int .i64 (Gk : Nat)) w')) := fun w' => by rw [← HGk.out]; exact greatest_any k w' HK.out
      have CD : Hid (∀ n, Calls Tryz.prog 103 #[.slice (some ⟨w.heap.size, 0, none⟩) 32 32, .int .i64 (i : Int), .int .i64 (k : Int)] (wr.drewN n) (Drew (.int .i64 (D : Nat)) (wr.drewN n))) := fun n => by
        rw [← HD.out]; exact digit_any _ _ l i k _ HK.out (R.out n) (by rw [HL.out]; omega) HI.out
      have HS1 : Hid (S + (Gk - D) = ssum l k (i + 1)) := by show _ = ssum l k i + (gr k - dig l i k); rw [HS.out, HGk.out, HD.out]
      have hS1 : S + (Gk - D) ≤ 65280 := by rw [HS1.out]; exact ssum_small l k (i + 1) HK.out (by rw [HP0.out]; omega)
      clear HS HI R HD HGk
      go_wp2
      refine wp_region_quiet_lit (by kernel_rfl) (by kernel_rfl) ?_
      repeat (first | go_big_quiet_step ((first | (go_at_call 102; exact Just.quiet (CG.out _)) | (go_at_call 103; exact Drew.quiet (CD.out _)))) | quiet_step ((first | (go_at_call 102; exact Just.quiet (CG.out _)) | (go_at_call 103; exact Drew.quiet (CD.out _)))))
      refine wpQuiet_nil ?_
      intro _ hw'
      obtain ⟨nq, hw''⟩ := hw'
      subst hw''
      go_wp2
      go_roundw
      case rel => exact ⟨i + 1, S + (Gk - D), by omega, hS1, HS1, by go_num, by go_num, G.out.drewN, Below.drewN' B.out⟩
      case measure => simp [intOf]; omega
    · obtain rfl : i = P := by omega
      have hs := shf_le k HK.out
      go_wp2_with fail
      refine (shift_any k _ HK.out).mono ?_
      rintro e w3 ⟨rfl, hb⟩
      have B3 : Hid (Below w.heap.size w w3) := B.out.trans (hb.mono B.out.size)
      clear hb B G
      go_wp2
      go_ret
      have hlt2 := num_lt l k HK.out
      have e : (S : Int) * 2 ^ shf k = (N : Int) := by
        rw [← HN.out]
        unfold num
        rw [show 256 / k = i from HP0.out, ← HS.out]
        simp
      exact ⟨ret_intD (by rw [e, IntWalk.wrap64_in _ (by rw [HN.out] at hlt2; omega)]), B3.out⟩
end Go.Proofs.YtnemkefmlffigaaGreat
