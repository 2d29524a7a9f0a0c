/-
  The document's own comparison of a cube with a prime times 2^96, and its own round word of every place.
-/
import Derived.Test.YtochamncdplaiaaP2
import Derived.Test.YtochamncdplaiaaRts
namespace Go.Proofs.Ytochamncdplaiaa
open Go.RowKit

theorem tms_length (a b : List Nat) : (tms a b).length = a.length + b.length := tm_length a b _
theorem us_pcs (x : Nat) : us (pcs x) = [.int .u64 ((x : Int) % 65536), .int .u64 ((x : Int) / 65536 % 65536), .int .u64 ((x : Int) / 4294967296)] := by simp [us, pcs]

set_option maxHeartbeats 1000000 in
theorem fits_any (x p : Nat) (w : World) (hx : (x : Int) ≤ 18446744073709551615) (hp : p ≤ 1000) : Calls Try.prog 29 #[.int .u64 (x : Int), .int .i64 (p : Int)] w fun e w' => e = .returned (.bool (fitsl x p)) ∧ Below w.heap.size w w' := by
  go_enter Try.func29, Try.ntmps29
  go_wp2_with fail
  have hb0 : Blk (w.alloc (.cells #[.int .u64 ((x : Int) % 65536), .int .u64 ((x : Int) / 65536 % 65536), .int .u64 ((x : Int) / 4294967296)] 53)) w.heap.size (us (pcs x)) 53 := by
    rw [us_pcs]; exact heap_alloc_new w _
  have B0 : Below w.heap.size w (w.alloc (.cells #[.int .u64 ((x : Int) % 65536), .int .u64 ((x : Int) / 65536 % 65536), .int .u64 ((x : Int) / 4294967296)] 53)) := (Below.refl _ _).alloc (Nat.le_refl _) _
  generalize w.alloc (.cells #[.int .u64 ((x : Int) % 65536), .int .u64 ((x : Int) / 65536 % 65536), .int .u64 ((x : Int) / 4294967296)] 53) = w1 at hb0 B0 ⊢
  refine (times_any (pcs x) (pcs x) w.heap.size w.heap.size w1 hb0 hb0 (by simp [pcs]) (by simp [pcs])).mono ?_
  rintro e w2 ⟨g2, rfl, hg2, hbk2, hb2⟩
  have hl2 : (tms (pcs x) (pcs x)).length = 6 := by rw [tms_length]; rfl
  have G0 : Hid (Blk w2 w.heap.size (us (pcs x)) 53) := hb0.below hb2 hb0.lt
  have G2 : Hid (Blk w2 g2 (us (tms (pcs x) (pcs x))) 53) := hbk2
  have B2 : Hid (Below w.heap.size w w2) := B0.trans (hb2.mono B0.size)
  rw [hl2]
  obtain ⟨T, hT⟩ : ∃ T, tms (pcs x) (pcs x) = T := ⟨_, rfl⟩
  rw [hT] at G2 hl2
  have HT := Lib.hid hT
  have HL2 := Lib.hid hl2
  clear hb0 B0 hbk2 hb2 hl2 hT
  go_wp2_with fail
  have ht := times_any T (pcs x) g2 w.heap.size w2 G2.out G0.out (by rw [HL2.out]; omega) (by simp [pcs])
  rw [HL2.out] at ht
  refine ht.mono ?_
  rintro e w3 ⟨g3, rfl, hg3, hbk3, hb3⟩
  have hl3 : (tms T (pcs x)).length = 9 := by rw [tms_length, HL2.out]; rfl
  have HF : Hid (fitsl x p = cmpl (tms T (pcs x)) p 9) := by show fitsl x p = _; unfold fitsl; rw [HT.out]
  obtain ⟨C, hC⟩ : ∃ C, tms T (pcs x) = C := ⟨_, rfl⟩
  rw [hC] at hbk3 hl3 HF ⊢
  rw [hl3]
  have G3 := Lib.hid hbk3
  have B3 : Hid (Below w.heap.size w w3) := B2.out.trans (hb3.mono B2.out.size)
  have HL3 := Lib.hid hl3
  clear hbk3 hl3 hC hb3 ht G0 G2 B2 HT
  go_wp2
  go_loop [7] (fun i => ∃ k : Nat, k ≤ 9 ∧ i = .int .i64 ((k : Int) - 1) ∧ Hid (fitsl x p = cmpl C p k)) (fun i => (intOf i + 1).toNat)
  case atStart => exact ⟨9, by omega, rfl, HF⟩
  case round =>
    clear HF
    obtain ⟨k, hk, rfl, HF⟩ := hrel
    by_cases hk0 : 0 < k
    · obtain ⟨j, rfl⟩ : ∃ j, k = j + 1 := ⟨k - 1, by omega⟩
      rw [show ((j + 1 : Nat) : Int) - 1 = (j : Int) from by omega]
      have cj := (G3.out.cell j).trans (us_cell C j (by rw [HL3.out]; omega))
      obtain ⟨z, hz⟩ : ∃ z, C.getD j 0 = z := ⟨_, rfl⟩
      rw [hz] at cj
      have hstep : cmpl C p (j + 1) = if z = want p j then cmpl C p j else decide (z < want p j) := by rw [cmpl, hz]
      have zj : (j : Int) < 9 := by omega
      by_cases h6 : j = 6
      · subst h6
        have hwant : want p 6 = p := by simp [want]
        rw [hwant] at hstep
        rw [show ((6 : Nat) : Int) = 6 from rfl]
        by_cases hzp : z = p
        · subst hzp
          have HF2 : Hid (fitsl x z = cmpl C z 6) := by show _ = _; rw [HF.out, hstep, if_pos rfl]
          clear hstep HF hwant hz
          go_wp2
          go_round
          case rel => exact ⟨6, by omega, rfl, HF2⟩
          case measure => simp [intOf]
        · have HF2 : Hid (fitsl x p = decide (z < p)) := by show _ = _; rw [HF.out, hstep, if_neg hzp]
          have hne : ((z : Int) != (p : Int)) = true := by simp; omega
          clear hstep HF hwant hz hzp
          by_cases hlt : z < p
          · have hd : decide ((z : Int) < (p : Int)) = true := by simp; omega
            go_wp2
            go_ret
            refine ⟨?_, B3.out⟩
            rw [HF2.out]
            simp [hlt]
          · have hd : decide ((z : Int) < (p : Int)) = false := by simp; omega
            go_wp2
            go_ret
            refine ⟨?_, B3.out⟩
            rw [HF2.out]
            simp [hlt]
      · have hwant : want p j = 0 := by simp [want, h6]
        rw [hwant] at hstep
        have h6' : ((j : Int) == 6) = false := by simp; omega
        by_cases hz0 : z = 0
        · subst hz0
          have HF2 : Hid (fitsl x p = cmpl C p j) := by show _ = _; rw [HF.out, hstep, if_pos rfl]
          rw [show ((0 : Nat) : Int) = 0 from rfl] at cj
          clear hstep HF hwant hz h6
          go_wp2
          go_round
          case rel => exact ⟨j, by omega, rfl, HF2⟩
          case measure => simp [intOf]
        · have HF2 : Hid (fitsl x p = false) := by show _ = _; rw [HF.out, hstep, if_neg hz0]; simp
          have hne : ((z : Int) != 0) = true := by simp; omega
          have hd : decide ((z : Int) < 0) = false := by simp
          clear hstep HF hwant hz h6
          go_wp2
          go_ret
          refine ⟨?_, B3.out⟩
          rw [HF2.out]
          rfl
    · obtain rfl : k = 0 := by omega
      go_wp2
      go_ret
      exact ⟨by rw [HF.out]; rfl, B3.out⟩
end Go.Proofs.Ytochamncdplaiaa
