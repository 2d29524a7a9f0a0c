/-
  The law DigitsCounts for the width 8: for every hash and every byte that tells this width.
-/
import Derived.Test.YtklbegioifpfjaaF60
namespace Go.Proofs.Ytklbegioifpfjaa
open Go.RowKit

set_option maxRecDepth 1000000 in
set_option maxHeartbeats 2000000 in
theorem countsLaw_8 (l : List UInt8) (u : Nat) (w : World) (hl : l.length = 32) (hu : u ≤ 255) (h4 : u % 4 = 3) : Calls Try.prog 7 #[.agg (bys l).toArray, .int .u8 (u : Int)] w (One (.bool true) w) := by
  have hk : Wd 8 := by simp [Wd]
  have HK := Lib.hid hk
  have HL : Hid ((Try.prog.info? 28).map (·.size) = some (bys l).length) := by show _ = _; rw [bys_length, hl]; exact s28
  have HL0 := Lib.hid hl
  have e1 : (u : Int) % 4 = 3 := by omega
  have hN := num_lt l 8 hk
  have hM := num_mod l 8
  rw [show 2 ^ shf 8 = 1 from rfl] at hM
  have CN : Hid (∀ w', Calls Try.prog 13 #[.agg (bys l).toArray, .int .i64 8] w' (Two (.int .i64 (num l 8 : Nat)) (.int .i64 0) w')) := fun w' => numberX_yes l 8 w' hk hl
  have CA : Hid (∀ w', Calls Try.prog 11 #[.agg (bys l).toArray, .int .i64 8] w' (GivesI2 (allD l 8) w')) := fun w' => all_yes l 8 w' hk hl
  have CO : Hid (∀ w', Calls Try.prog 15 #[.int .i64 8] w' (Two (.int .i64 32) (.int .i64 0) w')) := fun w' => ownX_yes 8 w' hk
  have CC : Hid (∀ w', Calls Try.prog 18 #[.int .i64 8] w' (Two (.int .i64 2) (.int .i64 0) w')) := fun w' => checkX_yes 8 w' hk
  have CS : Hid (∀ w', Calls Try.prog 20 #[.int .i64 8] w' (Two (.int .i64 0) (.int .i64 0) w')) := fun w' => shiftX_yes 8 w' hk
  generalize num l 8 = N at hN hM CN
  obtain ⟨T, hT⟩ : ∃ T, 34 = T := ⟨_, rfl⟩
  have HT := Lib.hid hT
  have HA : Hid ((allD l 8).length = T) := by rw [← hT]; exact allD_length l 8
  have zT : T ≤ 300 := by omega
  have HD : Hid (∀ i, (allD l 8).getD i 0 < 256) := fun i => allD_lt l 8 i
  generalize allD l 8 = X at CA HA HD
  have zN : (N : Int) < 65536 := by omega
  have zM : ((N : Int) % 1 == 0) = true := by simp
  have HZM := Lib.hid zM
  have HZN := Lib.hid zN
  clear hl hk h4 hN hM zM zN hT
  go_enter Try.func7, Try.ntmps7
  go_wp2_with (refine wpList_box_blk rfl 28 _ rfl (bys l) rfl ?_)
  intro w1 a1 a2 a3
  have hsz := a2
  have G1 := Lib.hid a1
  have B1 := Lib.hid a3
  clear a1 a2 a3
  have h1 : w.heap.size < w1.heap.size := by omega
  clear hsz
  go_wp2_with fail
  refine (CO.out _).mono ?_
  rintro e w2 ⟨rfl, hb⟩
  have G2 : Hid (Blk w2 w.heap.size (bys l) 28) := G1.out.below hb (by omega)
  have B2 : Hid (Below w.heap.size w w2) := B1.out.trans (hb.mono (by omega))
  have h2 : w.heap.size < w2.heap.size := by have := hb.size; omega
  clear hb G1 B1 h1 e1
  go_wp2_with fail
  refine (CC.out _).mono ?_
  rintro e w3 ⟨rfl, hb⟩
  have G3 : Hid (Blk w3 w.heap.size (bys l) 28) := G2.out.below hb (by omega)
  have B3 : Hid (Below w.heap.size w w3) := B2.out.trans (hb.mono (by omega))
  have h3 : w.heap.size < w3.heap.size := by have := hb.size; omega
  clear hb G2 B2 h2
  go_wp2_with fail
  refine (CS.out _).mono ?_
  rintro e w4 ⟨rfl, hb⟩
  have G4 : Hid (Blk w4 w.heap.size (bys l) 28) := G3.out.below hb (by omega)
  have B4 : Hid (Below w.heap.size w w4) := B3.out.trans (hb.mono (by omega))
  have h4 : w.heap.size < w4.heap.size := by have := hb.size; omega
  clear hb G3 B3 h3
  go_wp2_with (refine wpList_load_blk rfl 28 _ rfl w.heap.size rfl (bys l) 28 G4.out 32 5 tu28 HL.out ?_)
  refine (CN.out _).mono ?_
  rintro e w5 ⟨rfl, hb⟩
  have G5 : Hid (Blk w5 w.heap.size (bys l) 28) := G4.out.below hb (by omega)
  have B5 : Hid (Below w.heap.size w w5) := B4.out.trans (hb.mono (by omega))
  clear hb G4 B4 h4
  go_wp2_with (refine wpList_load_blk rfl 28 _ rfl w.heap.size rfl (bys l) 28 G5.out 32 5 tu28 HL.out ?_)
  refine (CA.out _).mono ?_
  rintro e w6 ⟨x, rfl, hown, hb⟩
  have B6 : Hid (Below w.heap.size w w6) := B5.out.trans (hb.mono B5.out.size)
  have GX : Hid (RdI w6.heap.size w6 x X) := hown.rd
  clear hb hown G5 B5 CO CC CS CN CA
  obtain ⟨A, c, rfl, hc, hm⟩ := GX.out.shape
  rw [HA.out] at hc GX ⊢
  unfold maxLen at hm
  go_wp2
  go_loopw [16] (fun z wr => ∃ i : Nat, i ≤ T ∧ z = .int .i64 i ∧ Hid (∃ n, wr = w6.drewN n)) (fun z _ => T - (intOf z).toNat)
  case atStart => exact ⟨0, by omega, rfl, 0, rfl⟩
  case round =>
    obtain ⟨i, hi, rfl, HW⟩ := hrel
    obtain ⟨n, rfl⟩ := HW.out
    by_cases hlt : i < T
    · obtain ⟨a, rfl, c1⟩ := GX.out.at_ i (by rw [HA.out]; exact hlt)
      have hd := HD.out i
      generalize X.getD i 0 = d at c1 hd
      have zi : (i : Int) < T := by omega
      have zd0 : decide ((d : Int) < 0) = false := by simp
      have zd : (d : Int) < 256 := by omega
      go_wp2
      go_quiet (fail)
      go_wp2
      go_roundw
      case rel => exact ⟨i + 1, by omega, by go_num, _, rfl⟩
      case measure => simp [intOf]; omega
    · obtain rfl : i = T := by omega
      go_wp2_with fail
      refine (alive_any _).mono ?_
      rintro e w7 ⟨rfl, hb⟩
      have B7 : Hid (Below w.heap.size w w7) := (Below.drewN' B6.out).trans (hb.mono B6.out.size)
      have zM := HZM.out
      have zN := HZN.out
      have zT2 : ((i : Int) == 34) = true := by have := HT.out; simp; omega
      clear hb
      go_wp2
      go_ret
      exact ⟨rfl, B7.out⟩
end Go.Proofs.Ytklbegioifpfjaa
