/-
  The statements on books: alive; comparison of slices of ints.
-/
import Derived.Test.YtjcombbmngpkpaaJP
namespace Go.Proofs.Ytjcombbmngpkpaa
open Go.RowKit

theorem sBL : (Try.prog.info? 24).map (·.size) = some 2 := by kernel_rfl
theorem zBL : (Try.prog.info? 24).map (·.zero) = some (some (.agg [Value.int .i64 0, .slice none 0 0].toArray)) := by kernel_rfl
theorem book_rd {B : Nat} {w : World} {v : Value} {l : List Se} (t : Int) (h : RdE SeK B w v l) : [Value.int .i64 t, v].toArray.all (·.oneCell') = true := by
  obtain ⟨A, c, rfl, -, -⟩ := h.shape
  exact book_one _ _ _ _
def liveS : List Se := [(7, 3, 3)]
theorem liv_r0 : RightB 0 [] := (rightS_iff 0 []).1 (by decide)
theorem liv_r1 : RightB 0 liveS := (rightS_iff 0 liveS).1 (by decide)
theorem liv_r2 : RightB 2 liveS := (rightS_iff 2 liveS).1 (by decide)
theorem liv_r3 : RightB 3 [] := (rightS_iff 3 []).1 (by decide)
theorem liv_o : openE [] 7 3 = 0 ∧ openS 0 [] 7 3 = liveS := by decide
theorem liv_t : tickE 0 2 = 0 ∧ tickT 0 2 = 2 ∧ tickS 0 liveS 2 = liveS ∧ goneS 0 liveS 2 = [] := by decide
theorem liv_u : tickE 2 3 = 0 ∧ tickT 2 3 = 3 ∧ tickS 2 liveS 3 = [] ∧ goneS 2 liveS 3 = [7] := by decide
theorem liv_h : hasS liveS 7 = true ∧ hasS [] 7 = false := by decide

set_option maxHeartbeats 400000 in
theorem intsE_same (B : Nat) (x y : Value) (l : List Int) (w : World) (hx : RdE InK B w x l) (hy : RdE InK B w y l) (hl : l.length ≤ 100000) : Calls Try.prog 25 #[x, y] w (One (.bool true) w) := by
  have HX := Lib.hid hx
  have HY := Lib.hid hy
  obtain ⟨A, c, rfl, hc, hm⟩ := hx.shape
  obtain ⟨A2, c2, rfl, hc2, hm2⟩ := hy.shape
  unfold maxLen at hm hm2
  clear hx hy
  go_enter Try.func25, Try.ntmps25
  go_wp2
  go_loopw [5] (fun x wr => ∃ i : Nat, i ≤ l.length ∧ x = .int .i64 i ∧ Hid (∃ n, wr = w.drewN n)) (fun x _ => l.length - (intOf x).toNat)
  case atStart => exact ⟨0, by omega, rfl, 0, rfl⟩
  case round =>
    obtain ⟨i, hi, rfl, HW⟩ := hrel
    obtain ⟨m, rfl⟩ := HW.out
    by_cases hlt : i < l.length
    · obtain ⟨a, rfl, c1⟩ := HX.out.at1 i hlt
      obtain ⟨a2, rfl, c2⟩ := HY.out.at1 i hlt
      generalize l.getD i 0 = d at c1 c2
      have zi : (i : Int) < l.length := by omega
      go_wp2
      go_quiet (fail)
      go_wp2
      go_roundw
      case rel => exact ⟨i + 1, by omega, by go_num, _, rfl⟩
      case measure => simp [intOf]; omega
    · obtain rfl : i = l.length := by omega
      go_wp2
      go_ret
      exact ⟨rfl, Below.drewN' (Below.refl _ _)⟩

set_option maxRecDepth 100000 in
set_option maxHeartbeats 4000000 in
theorem alive10 (w : World) : Calls Try.prog 8 #[] w (One (.bool true) w) := by
  go_enter Try.func8, Try.ntmps8
  go_wp2_with fail
  refine (bkNew_any w).mono ?_
  rintro e W1 ⟨v0, rfl, hrd, hb⟩
  have E1 := Lib.hid hb
  clear hb
  have R0 := Lib.hid hrd
  clear hrd
  go_wp2_with fail
  refine (bkOpen_any 0 [] 7 3 v0 W1 R0.out liv_r0 ⟨by decide, by decide⟩).mono ?_
  rintro e va2 ⟨v1, rfl, hrd, hb⟩
  have ONE1 := Lib.hid (book_rd 0 hrd)
  rw [liv_o.2] at hrd
  rw [liv_o.1]
  go_wp2_with (refine wpList_alloc_blk rfl 24 rfl [.int .i64 0, .slice none 0 0] zBL ?_)
  intro vb2 a1 a2 a3
  obtain ⟨vg2, hg⟩ : ∃ g, va2.heap.size = g := ⟨_, rfl⟩
  have AA := Lib.hid a1
  have EB := Lib.hid (hb.trans (a3.mono hb.size))
  have A3 := Lib.hid a3
  have hbg : W1.heap.size ≤ vg2 := by have := hb.size; omega
  have hgs : vg2 ≤ vb2.heap.size := by omega
  have HG := Lib.hid hg
  have RR0 := Lib.hid hrd
  rw [hg] at AA A3 RR0 ⊢
  clear a1 a2 a3 hb hg hrd
  go_wp2_with (refine wpList_store_to rfl 24 _ _ rfl vg2 [.int .i64 0, v1] [.int .i64 0, .slice none 0 0] 24 rfl rfl AA.out sBL rfl ONE1.out ?_)
  intro W2 e1 e2 e3 e4
  have X1 := Lib.hid e1
  have E2 := Lib.hid (EB.out.trans (e3.mono hbg))
  have R1 := Lib.hid (((RR0.out.below A3.out).below e3).more (show vg2 ≤ W2.heap.size by omega))
  clear e1 e2 e3 e4 AA EB A3 hbg hgs HG RR0
  have P2_w := Lib.hid (E1.out.trans (E2.out.mono E1.out.size))
  have c_X1 := X1.out.cell 0
  have c_X1_1 := X1.out.at_ 1 _ rfl
  go_wp2_with fail
  refine (bkTick_any 0 liveS 2 v1 W2 R1.out liv_r1).mono ?_
  rintro e va3 ⟨v2, u2, rfl, hrd, hru, hb⟩
  clear c_X1 c_X1_1
  have ONE2 := Lib.hid (book_rd 2 hrd)
  rw [liv_t.2.2.1] at hrd
  rw [liv_t.2.2.2] at hru
  rw [liv_t.1, liv_t.2.1]
  obtain ⟨Au2, cu2, hu, -, -⟩ := hru.shape
  change u2 = .slice Au2 0 cu2 at hu
  subst hu
  clear hru
  go_wp2_with (refine wpList_alloc_blk rfl 24 rfl [.int .i64 0, .slice none 0 0] zBL ?_)
  intro vb3 a1 a2 a3
  obtain ⟨vg3, hg⟩ : ∃ g, va3.heap.size = g := ⟨_, rfl⟩
  have AA := Lib.hid a1
  have EB := Lib.hid (hb.trans (a3.mono hb.size))
  have A3 := Lib.hid a3
  have hbg : W2.heap.size ≤ vg3 := by have := hb.size; omega
  have hgs : vg3 ≤ vb3.heap.size := by omega
  have HG := Lib.hid hg
  have RR0 := Lib.hid hrd
  rw [hg] at AA A3 RR0 ⊢
  clear a1 a2 a3 hb hg hrd
  go_wp2_with (refine wpList_store_to rfl 24 _ _ rfl vg3 [.int .i64 2, v2] [.int .i64 0, .slice none 0 0] 24 rfl rfl AA.out sBL rfl ONE2.out ?_)
  intro W3 e1 e2 e3 e4
  have X2 := Lib.hid e1
  have E3 := Lib.hid (EB.out.trans (e3.mono hbg))
  have R2 := Lib.hid (((RR0.out.below A3.out).below e3).more (show vg3 ≤ W3.heap.size by omega))
  clear e1 e2 e3 e4 AA EB A3 hbg hgs HG RR0
  have P3_w := Lib.hid (P2_w.out.trans (E3.out.mono P2_w.out.size))
  clear P2_w
  have P3_W1 := Lib.hid (E2.out.trans (E3.out.mono E2.out.size))
  have c_X2 := X2.out.cell 0
  have c_X2_1 := X2.out.at_ 1 _ rfl
  go_wp2_with fail
  refine (bkTick_any 2 liveS 3 v2 W3 R2.out liv_r2).mono ?_
  rintro e va4 ⟨v3, u3, rfl, hrd, hru, hb⟩
  clear c_X2 c_X2_1
  have ONE3 := Lib.hid (book_rd 3 hrd)
  rw [liv_u.2.2.1] at hrd
  rw [liv_u.2.2.2] at hru
  rw [liv_u.1, liv_u.2.1]
  obtain ⟨Au3, cu3, hu, -, -⟩ := hru.shape
  change u3 = .slice Au3 1 cu3 at hu
  subst hu
  clear hru
  go_wp2_with (refine wpList_alloc_blk rfl 24 rfl [.int .i64 0, .slice none 0 0] zBL ?_)
  intro vb4 a1 a2 a3
  obtain ⟨vg4, hg⟩ : ∃ g, va4.heap.size = g := ⟨_, rfl⟩
  have AA := Lib.hid a1
  have EB := Lib.hid (hb.trans (a3.mono hb.size))
  have A3 := Lib.hid a3
  have hbg : W3.heap.size ≤ vg4 := by have := hb.size; omega
  have hgs : vg4 ≤ vb4.heap.size := by omega
  have HG := Lib.hid hg
  have RR0 := Lib.hid hrd
  rw [hg] at AA A3 RR0 ⊢
  clear a1 a2 a3 hb hg hrd
  go_wp2_with (refine wpList_store_to rfl 24 _ _ rfl vg4 [.int .i64 3, v3] [.int .i64 0, .slice none 0 0] 24 rfl rfl AA.out sBL rfl ONE3.out ?_)
  intro W4 e1 e2 e3 e4
  have X3 := Lib.hid e1
  have E4 := Lib.hid (EB.out.trans (e3.mono hbg))
  have R3 := Lib.hid (((RR0.out.below A3.out).below e3).more (show vg4 ≤ W4.heap.size by omega))
  clear e1 e2 e3 e4 AA EB A3 hbg hgs HG RR0
  have P4_w := Lib.hid (P3_w.out.trans (E4.out.mono P3_w.out.size))
  clear P3_w
  have P4_W1 := Lib.hid (P3_W1.out.trans (E4.out.mono P3_W1.out.size))
  clear P3_W1
  have P4_W2 := Lib.hid (E3.out.trans (E4.out.mono E3.out.size))
  have c_X2 := (X2.out.below E4.out X2.out.lt).cell 0
  have c_X2_1 := (X2.out.below E4.out X2.out.lt).at_ 1 _ rfl
  have c_X3 := X3.out.cell 0
  have c_X3_1 := X3.out.at_ 1 _ rfl
  go_wp2_with fail
  refine (bkHas_any 2 liveS 7 v2 W4 ((R2.out.below E4.out).more E4.out.size) liv_r2).mono ?_
  rintro e W5 ⟨rfl, hb⟩
  have E5 := Lib.hid hb
  clear hb c_X2 c_X2_1 c_X3 c_X3_1
  have P5_w := Lib.hid (P4_w.out.trans (E5.out.mono P4_w.out.size))
  clear P4_w
  have P5_W1 := Lib.hid (P4_W1.out.trans (E5.out.mono P4_W1.out.size))
  clear P4_W1
  have P5_W2 := Lib.hid (P4_W2.out.trans (E5.out.mono P4_W2.out.size))
  clear P4_W2
  have P5_W3 := Lib.hid (E4.out.trans (E5.out.mono E4.out.size))
  rw [liv_h.1]
  have c_X3 := (X3.out.below E5.out X3.out.lt).cell 0
  have c_X3_1 := (X3.out.below E5.out X3.out.lt).at_ 1 _ rfl
  go_wp2_with fail
  refine (bkHas_any 3 [] 7 v3 W5 ((R3.out.below E5.out).more E5.out.size) liv_r3).mono ?_
  rintro e W6 ⟨rfl, hb⟩
  have E6 := Lib.hid hb
  clear hb c_X3 c_X3_1
  have P6_w := Lib.hid (P5_w.out.trans (E6.out.mono P5_w.out.size))
  clear P5_w
  have P6_W1 := Lib.hid (P5_W1.out.trans (E6.out.mono P5_W1.out.size))
  clear P5_W1
  have P6_W2 := Lib.hid (P5_W2.out.trans (E6.out.mono P5_W2.out.size))
  clear P5_W2
  have P6_W3 := Lib.hid (P5_W3.out.trans (E6.out.mono P5_W3.out.size))
  clear P5_W3
  have P6_W4 := Lib.hid (E5.out.trans (E6.out.mono E5.out.size))
  rw [liv_h.2]
  go_wp2
  go_ret
  exact ⟨rfl, P6_w.out⟩
end Go.Proofs.Ytjcombbmngpkpaa
