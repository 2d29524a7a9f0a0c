/-
  All of package digits: for every width and every hash; and what is no width.
-/
import Derived.Test.YtnemkefmlffigaaGreatD5
import Derived.Test.YtnemkefmlffigaaGreatMs
namespace Go.Proofs.YtnemkefmlffigaaGreat
open Go.RowKit

/-- The call answers two values, and no old memory has changed. -/
def TwoD (x y : Value) (w : World) (e : Ending) (w' : World) : Prop := e = .returned (.tuple #[x, y]) ∧ Below w.heap.size w w'
/-- The call answers a slice of ints of its own, and OK. -/
def GivesI2 (l : List Nat) (w : World) (e : Ending) (w' : World) : Prop := ∃ v, e = .returned (.tuple #[v, .int .i64 0]) ∧ OwnI 3 w' w.heap.size v l ∧ Below w.heap.size w w'

/-- It is no width. -/
def NoW (z : Int) : Prop := (z == 1) = false ∧ (z == 2) = false ∧ (z == 4) = false ∧ (z == 8) = false
theorem width_or (z : Int) : (∃ k : Nat, Wd k ∧ z = (k : Int)) ∨ NoW z := by
  by_cases h1 : z = 1
  · exact .inl ⟨1, by simp [Wd], h1⟩
  by_cases h2 : z = 2
  · exact .inl ⟨2, by simp [Wd], h2⟩
  by_cases h4 : z = 4
  · exact .inl ⟨4, by simp [Wd], h4⟩
  by_cases h8 : z = 8
  · exact .inl ⟨8, by simp [Wd], h8⟩
  exact .inr (by simp [NoW, h1, h2, h4, h8])

theorem Rd.two (e : TypeId) (fr : Nat × Nat) (w : World) (x y : Int) (b c : UInt8) (hx : x = (b.toNat : Int)) (hy : y = (c.toNat : Int)) : Rd (w.heap.size + 1) (w.alloc (.cells #[.int .u8 x, .int .u8 y] e fr)) (.slice (some ⟨w.heap.size, 0, none⟩) 2 2) [b, c] := by
  subst hx hy
  refine ⟨some ⟨w.heap.size, 0, none⟩, 2, rfl, Nat.le_refl _, by unfold maxLen; decide, fun h => (by cases h), fun a ha => ?_⟩
  cases ha
  refine ⟨fun _ => Nat.lt_succ_self _, fun j hj => ?_⟩
  rw [Addr.add_mid, cell_of_row _ _ _ _ e fr (heap_alloc_new w _)]
  have : j = 0 ∨ j = 1 := by simp at hj; omega
  rcases this with rfl | rfl <;> simp

set_option maxHeartbeats 400000 in
theorem all_no (v : Value) (cs : List Value) (z : Int) (w : World) (hv : v = .agg cs.toArray) (hz : NoW z) : Calls Tryz.prog 59 #[v, .int .i64 z] w (TwoD (.slice none 0 0) (.int .i64 1) w) := by
  subst hv
  obtain ⟨h1, h2, h4, h8⟩ := hz
  go_enter Tryz.func59, Tryz.ntmps59
  go_wp2_with (refine wpList_box_blk rfl 23 _ rfl cs rfl ?_)
  intro w1 a1 a2 a3
  have A3 := Lib.hid a3
  clear a1 a2 a3
  go_wp2_with fail
  refine (isWidth_no z _ h1 h2 h4 h8).mono ?_
  rintro e w2 ⟨rfl, rfl⟩
  go_wp2
  go_ret2
  exact ⟨rfl, A3.out⟩

set_option maxHeartbeats 1000000 in
theorem all_yes (l : List UInt8) (k : Nat) (w : World) (hk : Wd k) (hl : l.length = 32) : Calls Tryz.prog 59 #[.agg (bys l).toArray, .int .i64 (k : Int)] w (GivesI2 (allD l k) w) := by
  obtain ⟨i0, hi, hz0, hz1, hz2⟩ := info_parts3
  have HI := Lib.hid hi
  have H0 := Lib.hid hz0
  have H1 := Lib.hid hz1
  have H2 := Lib.hid hz2
  have HK := Lib.hid hk
  have HL := Lib.hid hl
  obtain ⟨k1, k8, hP, hG⟩ := hk.le
  have hC := chk_le k
  have hN := num_lt l k hk
  have h28 : (Tryz.prog.info? 23).map (·.size) = some (bys l).length := by rw [bys_length, hl]; exact s28
  have H28 := Lib.hid h28
  obtain ⟨N, hN0⟩ : ∃ N, num l k = N := ⟨_, rfl⟩
  have HA : Hid (allD l k = ([] ++ digs l k (onn k)) ++ digs (by2 N) k (chk k)) := by
    show _ = _
    rw [← hN0]; rfl
  have HN0 := Lib.hid hN0
  rw [hN0] at hN
  have HP32 : Hid (onn k ≤ l.length * (8 / k)) := by show _ ≤ _; rw [onn_eq k hk, hl]; omega
  have HC2 : Hid (chk k ≤ (by2 N).length * (8 / k)) := by
    show chk k ≤ 2 * (8 / k)
    rcases hk with rfl | rfl | rfl | rfl <;> decide
  clear hi hz0 hz1 hz2 hk hl h28 hN0
  go_enter Tryz.func59, Tryz.ntmps59
  go_wp2_with (refine wpList_box_blk rfl 23 _ rfl (bys l) rfl ?_)
  intro w1 a1 a2 a3
  have A1 := Lib.hid a1
  have A2 := Lib.hid a2
  have A3 := Lib.hid a3
  clear a1 a2 a3
  go_wp2_with fail
  refine (isWidth_yes k _ HK.out).mono ?_
  rintro e w2 ⟨rfl, rfl⟩
  go_wp2_with (refine wpList_load_blk rfl 23 _ rfl w.heap.size rfl (bys l) 23 A1.out 32 5 tu28 H28.out ?_)
  refine (number_any l k _ HK.out HL.out).mono ?_
  rintro e w2 ⟨rfl, hb⟩
  rw [HN0.out]
  have hsz := A2.out
  have G2 : Hid (Blk w2 w.heap.size (bys l) 23) := A1.out.below hb (by omega)
  have B2 : Hid (Below w.heap.size w w2) := A3.out.trans (hb.mono (by omega))
  have hs2 : w.heap.size < w2.heap.size := by have := hb.size; omega
  clear hb hsz A1 A2 A3
  have zN : (N : Int) < 65536 := by omega
  go_wp2_with fail
  have RS : Hid (Rd (w2.heap.size + 1) (w2.alloc (.cells #[.int .u8 ((N : Int) / 256), .int .u8 ((N : Int) % 256)] 5)) (.slice (some ⟨w2.heap.size, 0, none⟩) 2 2) (by2 N)) :=
    Rd.two 5 _ w2 _ _ _ _ (by simp; omega) (by simp)
  have G3 : Hid (Blk (w2.alloc (.cells #[.int .u8 ((N : Int) / 256), .int .u8 ((N : Int) % 256)] 5)) w.heap.size (bys l) 23) := G2.out.alloc _
  have B3 : Hid (Below w.heap.size w (w2.alloc (.cells #[.int .u8 ((N : Int) / 256), .int .u8 ((N : Int) % 256)] 5))) := B2.out.alloc (by omega) _
  have hs3 : w2.heap.size < (w2.alloc (.cells #[.int .u8 ((N : Int) / 256), .int .u8 ((N : Int) % 256)] 5)).heap.size := by simp
  generalize w2.alloc (.cells #[.int .u8 ((N : Int) / 256), .int .u8 ((N : Int) % 256)] 5) = w3 at RS G3 B3 hs3 ⊢
  obtain ⟨gs, hgs⟩ : ∃ g, w2.heap.size = g := ⟨_, rfl⟩
  rw [hgs] at RS hs3 hs2 ⊢
  clear hgs G2 B2
  refine (own_any k _ HK.out).mono ?_
  rintro e w4 ⟨rfl, hb⟩
  have G4 : Hid (Blk w4 w.heap.size (bys l) 23) := G3.out.below hb (by omega)
  have B4 : Hid (Below w.heap.size w w4) := B3.out.trans (hb.mono (by omega))
  have R4 : Hid (Rd (gs + 1) w4 (.slice (some ⟨gs, 0, none⟩) 2 2) (by2 N)) := RS.out.below (hb.mono (by omega))
  have hs4 : gs < w4.heap.size := by have := hb.size; omega
  clear hb G3 B3 RS hs3
  go_wp2_with fail
  refine (check_any k _ HK.out).mono ?_
  rintro e w5 ⟨rfl, hb⟩
  have G5 : Hid (Blk w5 w.heap.size (bys l) 23) := G4.out.below hb (by omega)
  have B5 : Hid (Below w.heap.size w w5) := B4.out.trans (hb.mono (by omega))
  have R5 : Hid (Rd (gs + 1) w5 (.slice (some ⟨gs, 0, none⟩) 2 2) (by2 N)) := R4.out.below (hb.mono (by omega))
  have hs5 : gs < w5.heap.size := by have := hb.size; omega
  clear hb G4 B4 R4 hs4
  go_wp2_with (at_make; refine wpList_make_own _ rfl _ _ 90 rfl w5.heap.size 3 i0 (.int .i64 0) 1 Tryz.underlying90 HI.out H0.out H1.out _ _ _ (onn k + chk k) rfl rfl (by omega) (by rw [H2.out]; omega) (by unfold maxLen; omega) (Nat.le_refl _) ?_)
  intro w6 hown hgrow
  have hb : Below w5.heap.size w5 w6 := (Below.refl _ _).grown hgrow (Nat.le_refl _) (fun k hk => by cases hk)
  have O6 : Hid (OwnI 3 w6 w5.heap.size (.slice (some ⟨w5.heap.size, 0, none⟩) 0 (onn k + chk k)) []) := hown
  have G6 : Hid (Blk w6 w.heap.size (bys l) 23) := G5.out.below hb (by omega)
  have B6 : Hid (Below w.heap.size w w6) := B5.out.trans (hb.mono (by omega))
  have R6 : Hid (Rd (gs + 1) w6 (.slice (some ⟨gs, 0, none⟩) 2 2) (by2 N)) := R5.out.below (hb.mono (by omega))
  have hs6 : w5.heap.size ≤ w6.heap.size := hb.size
  clear hb hown hgrow G5 B5 R5
  obtain ⟨g5, hg5⟩ : ∃ g, w5.heap.size = g := ⟨_, rfl⟩
  rw [hg5] at O6 hs6 hs5 ⊢
  clear hg5
  go_wp2
  refine wp_region_till 7 5 (fun w' => Below w6.heap.size w6 w') (by kernel_rfl) rfl ?_
  have hS : Below w6.heap.size w6 w6.drew := (Below.refl _ _).drew
  refine AnyTill.free (i := 0) (v := .slice (some ⟨g5, 0, none⟩) 0 (onn k + chk k)) rfl (by kernel_rfl) (by kernel_rfl) (by kernel_rfl) (by kernel_rfl) (fun _ _ _ h => h) (by rfl) (fun w' => ?_) hS ?_
  · first | (go_simp; done) | (go_simp; rfl)
  simp only [Act.put, List.setIfInBounds_toArray, List.set_cons_zero, List.set_cons_succ]
  refine AnyTill.free (i := 1) (v := .slice (some ⟨w.heap.size, 0, none⟩) 32 32) rfl (by kernel_rfl) (by kernel_rfl) (by kernel_rfl) (by kernel_rfl) (fun _ _ _ h => h) (by rfl) (fun w' => ?_) hS ?_
  · first | (go_simp; done) | (go_simp; rfl)
  simp only [Act.put, List.setIfInBounds_toArray, List.set_cons_zero, List.set_cons_succ]
  refine AnyTill.free (i := 2) (v := .int .i64 (k : Int)) rfl (by kernel_rfl) (by kernel_rfl) (by kernel_rfl) (by kernel_rfl) (fun _ _ _ h => h) (by rfl) (fun w' => ?_) hS ?_
  · first | (go_simp; done) | (go_simp; rfl)
  simp only [Act.put, List.setIfInBounds_toArray, List.set_cons_zero, List.set_cons_succ]
  refine AnyTill.free (i := 4) (v := .int .i64 (k : Int)) rfl (by kernel_rfl) (by kernel_rfl) (by kernel_rfl) (by kernel_rfl) (fun _ _ _ h => h) (by rfl) (fun w' => ?_) hS ?_
  · first | (go_simp; done) | (go_simp; rfl)
  simp only [Act.put, List.setIfInBounds_toArray, List.set_cons_zero, List.set_cons_succ]
  refine AnyTill.one (i := 3) (by kernel_rfl) rfl (by rfl) (fun K hK => ?_)
  go_simp
  refine (own_any k _ HK.out).mono ?_
  rintro e w7 ⟨rfl, hb⟩
  have hS7 : Below w6.heap.size w6 w7 := hS.trans (hb.mono hS.size)
  refine hK.out _ _ (.inr hS7) ?_
  clear hK K hb hS
  refine AnyTill.one (i := 5) (by kernel_rfl) rfl (by rfl) (fun K hK => ?_)
  go_simp
  have RL : Rd g5 w7 (.slice (some ⟨w.heap.size, 0, none⟩) 32 32) l := by
    have h := (G6.out.below hS7 (by omega)).rd (by rw [HL.out]; unfold maxLen; omega)
    rw [HL.out] at h
    exact h.more (by omega)
  refine (appendDigits_any _ _ [] l (onn k) k g5 _ HK.out (O6.out.below hS7 (Nat.le_refl _)) (Nat.le_trans hs6 hS7.size) RL (by simp) (by rw [HL.out]; omega) HP32.out).mono ?_
  rintro e w8 ⟨v8, rfl, hown, hb⟩
  have hS8 : Below g5 w6 w8 := (hS7.mono hs6).trans hb
  refine hK.out _ _ (.inl (by kernel_rfl)) ?_
  clear hK K RL
  refine AnyTill.one (i := 6) (by kernel_rfl) rfl (by rfl) (fun K hK => ?_)
  go_simp
  refine hK.out _ _ (.inl (by kernel_rfl)) ?_
  clear hK K
  refine AnyTill.done (by kernel_rfl) ?_
  refine NoPanic.normal ?_
  have O8 : Hid (OwnI 3 w8 g5 v8 ([] ++ digs l k (onn k))) := hown
  have B8 : Hid (Below w.heap.size w w8) := B6.out.trans (hS8.mono (by omega))
  have R8 : Hid (Rd (gs + 1) w8 (.slice (some ⟨gs, 0, none⟩) 2 2) (by2 N)) := R6.out.below (hS8.mono (by omega))
  have hs8 : g5 ≤ w8.heap.size := by have := hS8.size; omega
  have HL8 : Hid (([] ++ digs l k (onn k)).length = onn k) := by show _ = _; rw [List.nil_append, digs_length]
  obtain ⟨L, hL⟩ : ∃ L, [] ++ digs l k (onn k) = L := ⟨_, rfl⟩
  rw [hL] at O8 HL8 HA
  clear hL hS7 hS8 hown hb O6 G6 B6 R6 hs6
  go_wp2_with fail
  refine (check_any k _ HK.out).mono ?_
  rintro e w9 ⟨rfl, hb⟩
  have O9 : Hid (OwnI 3 w9 g5 v8 L) := O8.out.below hb (Nat.le_refl _)
  have B9 : Hid (Below w.heap.size w w9) := B8.out.trans (hb.mono (by omega))
  have R9 : Hid (Rd (gs + 1) w9 (.slice (some ⟨gs, 0, none⟩) 2 2) (by2 N)) := R8.out.below (hb.mono (by omega))
  have hs9 : g5 ≤ w9.heap.size := by have := hb.size; omega
  clear hb O8 B8 R8 hs8
  go_wp2_with fail
  refine (appendDigits_any _ _ L (by2 N) (chk k) k g5 _ HK.out O9.out hs9 (R9.out.more (by omega)) (by rw [HL8.out]; omega) (by simp [by2]) HC2.out).mono ?_
  rintro e w10 ⟨v10, rfl, hown, hb⟩
  rw [← HA.out] at hown
  have O10 := Lib.hid hown
  have B10 : Hid (Below w.heap.size w w10) := B9.out.trans (hb.mono (by omega))
  clear hown hb O9 B9 R9
  go_wp2
  go_ret2
  exact ⟨v10, rfl, O10.out.base (by omega), B10.out⟩
end Go.Proofs.YtnemkefmlffigaaGreat
