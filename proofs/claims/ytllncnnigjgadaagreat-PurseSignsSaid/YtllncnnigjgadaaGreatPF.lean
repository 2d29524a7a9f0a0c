/-
  The laws' fixed question of layer 6: it is answered yes, whatever the world.
-/
import Derived.Test.YtllncnnigjgadaaGreatPE
import Derived.Lib.SlBytesConst
namespace Go.Proofs.YtllncnnigjgadaaGreat
open Go.RowKit

theorem fit0 : PFit 1 1 0 0 1 := ⟨.inl rfl, .inl rfl, by decide, by decide, by decide, by decide⟩
theorem fit1 : PFit 1 1 1 1 1 := ⟨.inl rfl, .inl rfl, by decide, by decide, by decide, by decide⟩

set_option maxRecDepth 100000 in
set_option maxHeartbeats 2000000 in
theorem alive6_any (w : World) : Calls Tryz.prog 12 #[] w (One (.bool true) w) := by
  obtain ⟨dP, huP, hdP⟩ := rowPurse
  have HUP := Lib.hid huP
  have HDP := Lib.hid hdP
  obtain ⟨T, hT⟩ : ∃ T, tcs K16 K32 1 1 = T := ⟨_, rfl⟩
  have HTE := Lib.hid hT
  have HBT : Hid (Tryz.prog.built 32 [(2, .int .i64 1), (3, .int .i64 1)] = some T.toArray) := by show _ = _; rw [← hT]; kernel_rfl
  have s0 := sPurse' K16 K32 1 1 0 0 1 rfl rfl
  have s1 := sPurse' K16 K32 1 1 1 1 1 rfl rfl
  have c50 := pcs_n K16 K32 1 1 1 1 1 rfl rfl
  have c51 := pcs_m K16 K32 1 1 1 1 1 rfl rfl
  obtain ⟨P0, hP0⟩ : ∃ P, pcs K16 K32 1 1 0 0 1 = P := ⟨_, rfl⟩
  obtain ⟨P1, hP1⟩ : ∃ P, pcs K16 K32 1 1 1 1 1 = P := ⟨_, rfl⟩
  have HO0 : Hid (P0.toArray.all (·.oneCell') = true) := by show _ = _; rw [← hP0]; exact pcs_one _ _ _ _ _ _ _
  have HO1 : Hid (P1.toArray.all (·.oneCell') = true) := by show _ = _; rw [← hP1]; exact pcs_one _ _ _ _ _ _ _
  have HL0 : Hid (pcs0.length = P0.length) := by show _ = _; rw [← hP0]; rfl
  have HL1 : Hid (P0.length = P1.length) := by show _ = _; rw [← hP0, ← hP1]; rfl
  rw [hP0] at s0
  rw [hP1] at s1 c50 c51
  have HS0 := Lib.hid s0
  have HS1 := Lib.hid s1
  have H50 := Lib.hid c50
  have H51 := Lib.hid c51
  have HE0 := Lib.hid hP0
  have HE1 := Lib.hid hP1
  obtain ⟨S, hS⟩ : ∃ S, lsig K16 K32 [97] 1 1 0 = S := ⟨_, rfl⟩
  have HSE := Lib.hid hS
  clear huP hdP hT s0 s1 c50 c51 hP0 hP1 hS
  go_enter Tryz.func12, Tryz.ntmps12
  go_wp2_with (refine wpList_buildTo rfl 32 _ rfl (some 7) rfl T.toArray (by simp only [List.map_toArray, List.map_cons, List.map_nil]; exact HBT.out) ?_)
  refine calls_args (args2 := #[.agg (tcs K16 K32 ((1 : Nat) : Int) ((1 : Nat) : Int)).toArray, .int .i64 ((1 : Nat) : Int)]) (by rw [← HTE.out]; rfl) ?_
  refine (newP_yes K16 K32 1 1 1 _ rfl rfl fit0).mono ?_
  rintro e w1 ⟨rfl, hb⟩
  rw [show pcs K16 K32 ((1 : Nat) : Int) ((1 : Nat) : Int) 0 0 ((1 : Nat) : Int) = P0 from HE0.out]
  have AB := Lib.hid hb
  clear hb
  go_wp2_with (refine wpList_alloc_blk rfl 34 rfl _ ziPurse ?_)
  intro w2 a1 a2 a3
  obtain ⟨g1, hg1⟩ : ∃ g, w1.heap.size = g := ⟨_, rfl⟩
  rw [hg1] at a1 a2 a3 ⊢
  have A1 := Lib.hid a1
  obtain ⟨t2, ht2⟩ : ∃ t, w2.setRow g1 P0.toArray = t := ⟨_, rfl⟩
  have B1 : Hid (Blk t2 g1 P0 34) := by show Blk _ _ _ _; rw [← ht2]; exact a1.setRow
  have BB : Hid (Below w.heap.size w t2) := by show Below _ _ _; rw [← ht2]; exact below_setRow' (AB.out.trans (a3.mono (by rw [← hg1]; exact AB.out.size))) (by rw [← hg1]; exact AB.out.size) _
  have HGW : Hid (w.heap.size ≤ g1) := by show _ ≤ _; rw [← hg1]; exact AB.out.size
  have HT2 := Lib.hid ht2
  clear a1 a2 a3 hg1 ht2 AB
  have hcv := Lib.run_convert_bytes_const (P := Tryz.prog) t2 22 5 #[.int .u8 97] 1 1 Tryz.underlying22 Tryz.underlying5
  go_wp2_with (first | (refine wpList_store_blk rfl 34 _ _ rfl g1 P0 pcs0 34 rfl rfl A1.out HS0.out HL0.out HO0.out ?_; rw [HT2.out]; clear HT2) | (refine wpList_load_blkU rfl 34 _ rfl g1 rfl P0 34 B1.out dP HUP.out HDP.out HS0.out ?_))
  have ht3 := Rd.oneF 5 t2 97 (1, 2)
  have hb3 : Below t2.heap.size t2 (t2.alloc (.cells #[.int .u8 97] 5 (1, 2))) := (Below.refl _ _).alloc (Nat.le_refl _) _
  have hs3 : (t2.alloc (.cells #[.int .u8 97] 5 (1, 2))).heap.size = t2.heap.size + 1 := by simp
  refine calls_args (args2 := #[.agg (pcs K16 K32 ((1 : Nat) : Int) ((1 : Nat) : Int) ((0 : Nat) : Int) ((0 : Nat) : Int) ((1 : Nat) : Int)).toArray, .slice (some ⟨t2.heap.size, 0, none⟩) 1 1]) (by rw [← HE0.out]; rfl) ?_
  refine (signP_leaf K16 K32 [97] 1 1 0 0 1 1 true _ _ rfl rfl fit0 (by decide) (by rw [hs3]; exact ht3) (by decide) (fun w => reserveP_new K16 K32 1 1 0 0 1 w rfl rfl fit0 (Nat.le_refl _))).mono ?_
  rintro e w4 ⟨v4, rfl, hown, hb⟩
  rw [HSE.out] at hown
  rw [show pcs K16 K32 ((1 : Nat) : Int) ((1 : Nat) : Int) ((0 + 1 : Nat) : Int) ((1 : Nat) : Int) ((1 : Nat) : Int) = P1 from HE1.out]
  have hb4 := hb3.trans (hb.mono (by rw [hs3]; omega))
  have D1 : Hid (Blk w4 g1 P0 34) := B1.out.below hb4 B1.out.lt
  have DB : Hid (Below w.heap.size w w4) := BB.out.trans (hb4.mono BB.out.size)
  have DO : Hid (Own 5 w4 (g1 + 1) v4 S) := hown.base (by have := B1.out.lt; rw [hs3]; omega)
  obtain ⟨t5, ht5⟩ : ∃ t, w4.setRow g1 P1.toArray = t := ⟨_, rfl⟩
  have E1 : Hid (Blk t5 g1 P1 34) := by show Blk _ _ _ _; rw [← ht5]; exact D1.out.setRow
  have EB : Hid (Below w.heap.size w t5) := by show Below _ _ _; rw [← ht5]; exact below_setRow' DB.out HGW.out _
  have ES : Hid (Rd t5.heap.size t5 v4 S) := by show Rd _ _ _ _; rw [← ht5]; exact (DO.out.but ((But.refl g1 w4).setRow _) (Nat.lt_succ_self _)).rd
  have HT5 := Lib.hid ht5
  have cn := (E1.out.cell 50).trans H50.out
  have cm := (E1.out.cell 51).trans H51.out
  clear hb hb3 hb4 ht3 hs3 hown B1 BB hcv DB DO ht5 A1
  go_wp2_with (first | (refine wpList_store_blk rfl 34 _ _ rfl g1 P1 P0 34 rfl rfl D1.out HS1.out HL1.out HO1.out ?_; rw [HT5.out]; clear HT5) | (refine wpList_load_blkUG 34 _ rfl g1 rfl P1 34 E1.out dP HUP.out HDP.out HS1.out (by rfl) ?_))
  refine calls_args (args2 := #[.agg (pcs K16 K32 ((1 : Nat) : Int) ((1 : Nat) : Int) ((1 : Nat) : Int) ((1 : Nat) : Int) ((1 : Nat) : Int)).toArray]) (by rw [← HE1.out]; rfl) ?_
  refine (leftP_yes K16 K32 1 1 1 1 1 _ rfl rfl fit1).mono ?_
  rintro e w6 ⟨rfl, hb⟩
  rw [show ((2 ^ 1 - 1 : Nat) : Int) = 1 from rfl]
  have F1 : Hid (Blk w6 g1 P1 34) := E1.out.below hb E1.out.lt
  have FB : Hid (Below w.heap.size w w6) := EB.out.trans (hb.mono EB.out.size)
  have FS : Hid (Rd w6.heap.size w6 v4 S) := (ES.out.below hb).more hb.size
  clear hb D1 E1 EB ES cn cm
  have hcv := Lib.run_convert_bytes_const (P := Tryz.prog) w6 22 5 #[.int .u8 97] 1 1 Tryz.underlying22 Tryz.underlying5
  go_wp2_with (refine wpList_load_blkUG 34 _ rfl g1 rfl P1 34 F1.out dP HUP.out HDP.out HS1.out (by rfl) ?_)
  have ht7 := Rd.oneF 5 w6 97 (1, 2)
  have hb7 : Below w6.heap.size w6 (w6.alloc (.cells #[.int .u8 97] 5 (1, 2))) := (Below.refl _ _).alloc (Nat.le_refl _) _
  have hs7 : (w6.alloc (.cells #[.int .u8 97] 5 (1, 2))).heap.size = w6.heap.size + 1 := by simp
  refine calls_args (args2 := #[.agg (pcs K16 K32 ((1 : Nat) : Int) ((1 : Nat) : Int) 1 1 1).toArray, .slice (some ⟨w6.heap.size, 0, none⟩) 1 1, v4]) (by rw [← HE1.out]; rfl) ?_
  refine (ownsP_yes K16 K32 [97] S 1 1 1 1 1 0 _ _ _ rfl rfl (.inl rfl) (.inl rfl) (by rw [hs7]; exact ht7) ((FS.out.below hb7).more hb7.size) (fun pv w hp ht hsg => verT_right K16 K32 [97] 1 1 0 pv _ _ w rfl (.inl rfl) (.inl rfl) (by decide) hp ht (by decide) (by rw [HSE.out]; exact hsg))).mono ?_
  rintro e w8 ⟨rfl, hb⟩
  have GB : Hid (Below w.heap.size w w8) := FB.out.trans ((hb7.trans (hb.mono hb7.size)).mono FB.out.size)
  clear hb hb7 ht7 hs7 F1 FB FS hcv
  go_wp2
  go_ret
  exact ⟨rfl, GB.out⟩
end Go.Proofs.YtllncnnigjgadaaGreat
