/-
  The statements on shelves: alive.
-/
import Derived.Test.YtlpakfaoaodaiaaDoorGF
import Derived.Test.YtlpakfaoaodaiaaDoorHG
namespace Go.Proofs.YtlpakfaoaodaiaaDoor
open Go.RowKit

def liveL : List Nd := [rootN, ([47, 97], [120], 0, 0)]
theorem live9a : createE [rootN] [47, 97] [120] 0 = 0 ∧ createS [rootN] [47, 97] [120] 0 = liveL := by decide +kernel
theorem live9r : rightN [rootN] = true := by decide +kernel
theorem live9b : createE [rootN] [47, 97, 47, 98] [120] 0 = 6 ∧ createS [rootN] [47, 97, 47, 98] [120] 0 = [rootN] := by decide +kernel
theorem live9c : getE liveL [47, 97] = 0 ∧ getS liveL [47, 97] = ([47, 97], [120], 0, 0) := by decide +kernel

set_option maxRecDepth 100000 in
set_option maxHeartbeats 4000000 in
theorem alive9 (w : World) : Calls Tryd.prog 10 #[] w (One (.bool true) w) := by
  go_enter Tryd.func10, Tryd.ntmps10
  go_wp2_with fail
  refine (shNew_any w).mono ?_
  rintro e w0 ⟨v1, rfl, hrd, hb⟩
  have hs0 := hb.size
  have HB := Lib.hid hb
  clear hb
  obtain ⟨A, c, rfl, -, -⟩ : ∃ A c, v1 = .slice A 1 c ∧ 1 ≤ c ∧ c ≤ maxLen := hrd.shape
  go_wp2_with (refine wpList_alloc_blk rfl 24 rfl [.slice none 0 0] zPS ?_)
  intro wa1 a1 a2 a3
  obtain ⟨g1, hg1⟩ : ∃ g, w0.heap.size = g := ⟨_, rfl⟩
  have A1 := Lib.hid a1
  have sa1 : g1 < wa1.heap.size := by omega
  have gw1 : w.heap.size ≤ g1 := by omega
  have R1 := Lib.hid hrd
  clear hrd
  rw [hg1] at A1 a3 R1 ⊢
  clear a1 a2 hg1
  have Y := Lib.hid (R1.out.below (a3.mono (show g1 ≤ _ by omega)))
  clear R1
  have R1 := Y
  clear Y
  have Y := Lib.hid (HB.out.trans (a3.mono (show w.heap.size ≤ _ by omega)))
  clear HB
  have HB := Y
  clear Y
  clear a3
  go_wp2_with (refine wpList_store_to rfl 24 _ _ rfl g1 [.slice A 1 c] [.slice none 0 0] 24 rfl rfl A1.out sPS rfl (slice_one _ _ _) ?_)
  intro wb1 e1 e2 e3 e4
  have sb1 : g1 < wb1.heap.size := by omega
  have Y := Lib.hid (R1.out.below (e3.mono (show g1 ≤ _ by omega)))
  clear R1
  have R1 := Y
  clear Y
  have Y := Lib.hid (HB.out.trans (e3.mono (show w.heap.size ≤ _ by omega)))
  clear HB
  have HB := Y
  clear Y
  have X1 := Lib.hid e1
  clear e1 e2 e3 e4 A1
  have caX1 := X1.out.cell 0
  go_wp2_with fail
  refine (shCreate_any [rootN] [47, 97] [120] 0 _ wb1 (R1.out.more (by omega)) (by decide) live9r).mono ?_
  rintro e w2 ⟨v3, rfl, hrd, hb⟩
  have hs2 := hb.size
  rw [live9a.1]
  rw [live9a.2] at hrd
  clear caX1
  have Y := Lib.hid (X1.out.below hb (by omega))
  clear X1
  have X1 := Y
  clear Y
  have Y := Lib.hid (R1.out.below (hb.mono (show g1 ≤ _ by omega)))
  clear R1
  have R1 := Y
  clear Y
  have Y := Lib.hid (HB.out.trans (hb.mono (show w.heap.size ≤ _ by omega)))
  clear HB
  have HB := Y
  clear Y
  clear hb
  obtain ⟨A3, c3, rfl, -, -⟩ : ∃ A c, v3 = .slice A 2 c ∧ 2 ≤ c ∧ c ≤ maxLen := hrd.shape
  have caX1 := X1.out.cell 0
  go_wp2_with (refine wpList_alloc_blk rfl 24 rfl [.slice none 0 0] zPS ?_)
  intro wa2 a1 a2 a3
  obtain ⟨g2, hg2⟩ : ∃ g, w2.heap.size = g := ⟨_, rfl⟩
  have A1 := Lib.hid a1
  have sa2 : g2 < wa2.heap.size := by omega
  have gw2 : w.heap.size ≤ g2 := by omega
  have lX12 : g1 < g2 := by omega
  have lR12 : g1 ≤ g2 := by omega
  clear caX1
  have R2 := Lib.hid hrd
  clear hrd
  rw [hg2] at A1 a3 R2 ⊢
  clear a1 a2 hg2
  have Y := Lib.hid (X1.out.below a3 (by omega))
  clear X1
  have X1 := Y
  clear Y
  have Y := Lib.hid (R1.out.below (a3.mono (show g1 ≤ _ by omega)))
  clear R1
  have R1 := Y
  clear Y
  have Y := Lib.hid (R2.out.below (a3.mono (show g2 ≤ _ by omega)))
  clear R2
  have R2 := Y
  clear Y
  have Y := Lib.hid (HB.out.trans (a3.mono (show w.heap.size ≤ _ by omega)))
  clear HB
  have HB := Y
  clear Y
  clear a3
  go_wp2_with (refine wpList_store_to rfl 24 _ _ rfl g2 [.slice A3 2 c3] [.slice none 0 0] 24 rfl rfl A1.out sPS rfl (slice_one _ _ _) ?_)
  intro wb2 e1 e2 e3 e4
  have sb2 : g2 < wb2.heap.size := by omega
  have Y := Lib.hid (X1.out.same (e4 g1 (by omega)))
  clear X1
  have X1 := Y
  clear Y
  have Y := Lib.hid (R1.out.below (e3.mono (show g1 ≤ _ by omega)))
  clear R1
  have R1 := Y
  clear Y
  have Y := Lib.hid (R2.out.below (e3.mono (show g2 ≤ _ by omega)))
  clear R2
  have R2 := Y
  clear Y
  have Y := Lib.hid (HB.out.trans (e3.mono (show w.heap.size ≤ _ by omega)))
  clear HB
  have HB := Y
  clear Y
  have X2 := Lib.hid e1
  clear e1 e2 e3 e4 A1
  have caX1 := X1.out.cell 0
  have caX2 := X2.out.cell 0
  go_wp2_with fail
  refine (shCreate_any [rootN] [47, 97, 47, 98] [120] 0 _ wb2 (R1.out.more (by omega)) (by decide) live9r).mono ?_
  rintro e w3 ⟨v5, rfl, hrd, hb⟩
  have hs3 := hb.size
  rw [live9b.1]
  rw [live9b.2] at hrd
  clear caX1 caX2
  have Y := Lib.hid (X1.out.below hb (by omega))
  clear X1
  have X1 := Y
  clear Y
  have Y := Lib.hid (X2.out.below hb (by omega))
  clear X2
  have X2 := Y
  clear Y
  have Y := Lib.hid (R1.out.below (hb.mono (show g1 ≤ _ by omega)))
  clear R1
  have R1 := Y
  clear Y
  have Y := Lib.hid (R2.out.below (hb.mono (show g2 ≤ _ by omega)))
  clear R2
  have R2 := Y
  clear Y
  have Y := Lib.hid (HB.out.trans (hb.mono (show w.heap.size ≤ _ by omega)))
  clear HB
  have HB := Y
  clear Y
  clear hb
  obtain ⟨A5, c5, rfl, -, -⟩ : ∃ A c, v5 = .slice A 1 c ∧ 1 ≤ c ∧ c ≤ maxLen := hrd.shape
  have caX1 := X1.out.cell 0
  have caX2 := X2.out.cell 0
  go_wp2_with (refine wpList_alloc_blk rfl 24 rfl [.slice none 0 0] zPS ?_)
  intro wa3 a1 a2 a3
  obtain ⟨g3, hg3⟩ : ∃ g, w3.heap.size = g := ⟨_, rfl⟩
  have A1 := Lib.hid a1
  have sa3 : g3 < wa3.heap.size := by omega
  have gw3 : w.heap.size ≤ g3 := by omega
  have lX13 : g1 < g3 := by omega
  have lX23 : g2 < g3 := by omega
  have lR13 : g1 ≤ g3 := by omega
  have lR23 : g2 ≤ g3 := by omega
  clear caX1 caX2
  have R3 := Lib.hid hrd
  clear hrd
  rw [hg3] at A1 a3 R3 ⊢
  clear a1 a2 hg3
  have Y := Lib.hid (X1.out.below a3 (by omega))
  clear X1
  have X1 := Y
  clear Y
  have Y := Lib.hid (X2.out.below a3 (by omega))
  clear X2
  have X2 := Y
  clear Y
  have Y := Lib.hid (R1.out.below (a3.mono (show g1 ≤ _ by omega)))
  clear R1
  have R1 := Y
  clear Y
  have Y := Lib.hid (R2.out.below (a3.mono (show g2 ≤ _ by omega)))
  clear R2
  have R2 := Y
  clear Y
  have Y := Lib.hid (R3.out.below (a3.mono (show g3 ≤ _ by omega)))
  clear R3
  have R3 := Y
  clear Y
  have Y := Lib.hid (HB.out.trans (a3.mono (show w.heap.size ≤ _ by omega)))
  clear HB
  have HB := Y
  clear Y
  clear a3
  go_wp2_with (refine wpList_store_to rfl 24 _ _ rfl g3 [.slice A5 1 c5] [.slice none 0 0] 24 rfl rfl A1.out sPS rfl (slice_one _ _ _) ?_)
  intro wb3 e1 e2 e3 e4
  have sb3 : g3 < wb3.heap.size := by omega
  have Y := Lib.hid (X1.out.same (e4 g1 (by omega)))
  clear X1
  have X1 := Y
  clear Y
  have Y := Lib.hid (X2.out.same (e4 g2 (by omega)))
  clear X2
  have X2 := Y
  clear Y
  have Y := Lib.hid (R1.out.below (e3.mono (show g1 ≤ _ by omega)))
  clear R1
  have R1 := Y
  clear Y
  have Y := Lib.hid (R2.out.below (e3.mono (show g2 ≤ _ by omega)))
  clear R2
  have R2 := Y
  clear Y
  have Y := Lib.hid (R3.out.below (e3.mono (show g3 ≤ _ by omega)))
  clear R3
  have R3 := Y
  clear Y
  have Y := Lib.hid (HB.out.trans (e3.mono (show w.heap.size ≤ _ by omega)))
  clear HB
  have HB := Y
  clear Y
  have X3 := Lib.hid e1
  clear e1 e2 e3 e4 A1
  have caX1 := X1.out.cell 0
  have caX2 := X2.out.cell 0
  have caX3 := X3.out.cell 0
  go_wp2_with fail
  refine (shGet_any liveL [47, 97] _ wb3 (R2.out.more (by omega))).mono ?_
  rintro e w4 ⟨rfl, hb⟩
  have hs4 := hb.size
  rw [live9c.1, live9c.2]
  clear caX1 caX2 caX3
  have Y := Lib.hid (X1.out.below hb (by omega))
  clear X1
  have X1 := Y
  clear Y
  have Y := Lib.hid (X2.out.below hb (by omega))
  clear X2
  have X2 := Y
  clear Y
  have Y := Lib.hid (X3.out.below hb (by omega))
  clear X3
  have X3 := Y
  clear Y
  have Y := Lib.hid (R1.out.below (hb.mono (show g1 ≤ _ by omega)))
  clear R1
  have R1 := Y
  clear Y
  have Y := Lib.hid (R2.out.below (hb.mono (show g2 ≤ _ by omega)))
  clear R2
  have R2 := Y
  clear Y
  have Y := Lib.hid (R3.out.below (hb.mono (show g3 ≤ _ by omega)))
  clear R3
  have R3 := Y
  clear Y
  have Y := Lib.hid (HB.out.trans (hb.mono (show w.heap.size ≤ _ by omega)))
  clear HB
  have HB := Y
  clear Y
  clear hb
  have caX1 := X1.out.cell 0
  have caX2 := X2.out.cell 0
  have caX3 := X3.out.cell 0
  go_wp2_with (refine wpList_alloc_blk rfl 53 rfl (ndc nd0) zPN ?_)
  intro wa4 a1 a2 a3
  obtain ⟨g4, hg4⟩ : ∃ g, w4.heap.size = g := ⟨_, rfl⟩
  have A1 := Lib.hid a1
  have sa4 : g4 < wa4.heap.size := by omega
  have gw4 : w.heap.size ≤ g4 := by omega
  have lX14 : g1 < g4 := by omega
  have lX24 : g2 < g4 := by omega
  have lX34 : g3 < g4 := by omega
  have lR14 : g1 ≤ g4 := by omega
  have lR24 : g2 ≤ g4 := by omega
  have lR34 : g3 ≤ g4 := by omega
  clear caX1 caX2 caX3
  rw [hg4] at A1 a3 ⊢
  clear a1 a2 hg4
  have Y := Lib.hid (X1.out.below a3 (by omega))
  clear X1
  have X1 := Y
  clear Y
  have Y := Lib.hid (X2.out.below a3 (by omega))
  clear X2
  have X2 := Y
  clear Y
  have Y := Lib.hid (X3.out.below a3 (by omega))
  clear X3
  have X3 := Y
  clear Y
  have Y := Lib.hid (R1.out.below (a3.mono (show g1 ≤ _ by omega)))
  clear R1
  have R1 := Y
  clear Y
  have Y := Lib.hid (R2.out.below (a3.mono (show g2 ≤ _ by omega)))
  clear R2
  have R2 := Y
  clear Y
  have Y := Lib.hid (R3.out.below (a3.mono (show g3 ≤ _ by omega)))
  clear R3
  have R3 := Y
  clear Y
  have Y := Lib.hid (HB.out.trans (a3.mono (show w.heap.size ≤ _ by omega)))
  clear HB
  have HB := Y
  clear Y
  clear a3
  go_wp2_with (refine wpList_store_to rfl 53 _ _ rfl g4 (ndc ([47, 97], [120], 0, 0)) (ndc nd0) 53 rfl rfl A1.out sPN rfl (ndc_one _) ?_)
  intro wb4 e1 e2 e3 e4
  have sb4 : g4 < wb4.heap.size := by omega
  have Y := Lib.hid (X1.out.same (e4 g1 (by omega)))
  clear X1
  have X1 := Y
  clear Y
  have Y := Lib.hid (X2.out.same (e4 g2 (by omega)))
  clear X2
  have X2 := Y
  clear Y
  have Y := Lib.hid (X3.out.same (e4 g3 (by omega)))
  clear X3
  have X3 := Y
  clear Y
  have Y := Lib.hid (R1.out.below (e3.mono (show g1 ≤ _ by omega)))
  clear R1
  have R1 := Y
  clear Y
  have Y := Lib.hid (R2.out.below (e3.mono (show g2 ≤ _ by omega)))
  clear R2
  have R2 := Y
  clear Y
  have Y := Lib.hid (R3.out.below (e3.mono (show g3 ≤ _ by omega)))
  clear R3
  have R3 := Y
  clear Y
  have Y := Lib.hid (HB.out.trans (e3.mono (show w.heap.size ≤ _ by omega)))
  clear HB
  have HB := Y
  clear Y
  have X4 := Lib.hid e1
  clear e1 e2 e3 e4 A1
  have caX1 := X1.out.cell 0
  have caX2 := X2.out.cell 0
  have caX3 := X3.out.cell 0
  have caX4 := X4.out.cell 0
  have cx := X4.out.at_ 1 _ rfl
  go_wp2
  go_ret
  exact ⟨rfl, HB.out⟩
end Go.Proofs.YtlpakfaoaodaiaaDoor
