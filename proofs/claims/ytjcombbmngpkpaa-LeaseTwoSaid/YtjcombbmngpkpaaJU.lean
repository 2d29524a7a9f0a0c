/-
  The statements on books: LeaseRight.
-/
import Derived.Test.YtjcombbmngpkpaaJT
namespace Go.Proofs.Ytjcombbmngpkpaa
open Go.RowKit

theorem rightS_of {t : Int} {l : List Se} (h : RightB t l) : rightS t l = true := (rightS_iff t l).2 h
theorem tickT_of {t z : Int} (h : tickE t z = 0) : tickT t z = z := by unfold tickT; rw [if_pos h]

set_option maxRecDepth 1000000 in
set_option maxHeartbeats 16000000 in
theorem rightB_all (t : Int) (v : Value) (l : List Se) (p0 p1 p2 id : Int) (w : World) (hr : RdE SeK w.heap.size w v l) (hl : l.length ≤ 5864062014805) (hi : fitI id) : Calls Try.prog 6 #[.agg #[.int .i64 t, v], .agg #[.int .i64 p0, .int .i64 p1, .int .i64 p2], .int .i64 id] w (One (.bool true) w) := by
  have HR := Lib.hid hr
  have HLL := Lib.hid hl
  have HI := Lib.hid hi
  clear hr hl hi
  go_enter Try.func6, Try.ntmps6
  go_wp2_with (refine wpList_box_blk rfl 24 _ rfl [.int .i64 t, v] rfl ?_)
  intro y0 b1 b2 b3
  obtain ⟨gb0, hg⟩ : ∃ g, w.heap.size = g := ⟨_, rfl⟩
  have X0 := Lib.hid b1
  have EB0 := Lib.hid b3
  rw [hg] at X0 ⊢
  have X0_w := Lib.hid (show w.heap.size ≤ gb0 from Nat.le_of_eq hg)
  clear b1 b2 b3 hg
  go_wp2_with (refine wpList_box_blk rfl 53 _ rfl [.int .i64 p0, .int .i64 p1, .int .i64 p2] rfl ?_)
  intro y1 b1 b2 b3
  obtain ⟨gb1, hg⟩ : ∃ g, y0.heap.size = g := ⟨_, rfl⟩
  have X1 := Lib.hid b1
  have EB1 := Lib.hid b3
  rw [hg] at X1 ⊢
  have X1_w := Lib.hid (show w.heap.size ≤ gb1 from Nat.le_trans EB0.out.size (Nat.le_of_eq hg))
  have X1_y0 := Lib.hid (show y0.heap.size ≤ gb1 from Nat.le_of_eq hg)
  clear b1 b2 b3 hg
  have P0_w := Lib.hid (EB0.out.trans (EB1.out.mono EB0.out.size))
  have c_X0 := (X0.out.below EB1.out X0.out.lt).cell 0
  have c_X0_1 := (X0.out.below EB1.out X0.out.lt).at_ 1 _ rfl
  go_wp2_with fail
  refine (plainB_any t l v y1 ((HR.out.below P0_w.out).more P0_w.out.size) HLL.out).mono ?_
  rintro e W1 ⟨vp, rfl, hrd, hb⟩
  have E1 := Lib.hid hb
  clear hb c_X0 c_X0_1
  have P1_w := Lib.hid (P0_w.out.trans (E1.out.mono P0_w.out.size))
  clear P0_w
  have P1_y0 := Lib.hid (EB1.out.trans (E1.out.mono EB1.out.size))
  have RP := Lib.hid hrd
  clear hrd
  go_wp2_with fail
  refine (rfRightB_any t l vp W1 RP.out).mono ?_
  rintro e W2 ⟨rfl, hb⟩
  have E2 := Lib.hid hb
  clear hb
  have P2_w := Lib.hid (P1_w.out.trans (E2.out.mono P1_w.out.size))
  clear P1_w
  have P2_y0 := Lib.hid (P1_y0.out.trans (E2.out.mono P1_y0.out.size))
  clear P1_y0
  have P2_y1 := Lib.hid (E1.out.trans (E2.out.mono E1.out.size))
  cases hG : rightS t l
  · clear hG
    go_wp2_with fail
    refine (alive10 W2).mono ?_
    rintro e W3 ⟨rfl, hb⟩
    have E3 := Lib.hid hb
    clear hb
    have P3_w := Lib.hid (P2_w.out.trans (E3.out.mono P2_w.out.size))
    clear P2_w
    have P3_y0 := Lib.hid (P2_y0.out.trans (E3.out.mono P2_y0.out.size))
    clear P2_y0
    have P3_y1 := Lib.hid (P2_y1.out.trans (E3.out.mono P2_y1.out.size))
    clear P2_y1
    have P3_W1 := Lib.hid (E2.out.trans (E3.out.mono E2.out.size))
    go_wp2
    go_ret
    exact ⟨rfl, P3_w.out⟩
  have HRT := Lib.hid ((rightS_iff t l).1 hG)
  clear hG
  have c_X0 := (X0.out.below P2_y0.out X0.out.lt).cell 0
  have c_X0_1 := (X0.out.below P2_y0.out X0.out.lt).at_ 1 _ rfl
  have c_X1 := (X1.out.below P2_y1.out X1.out.lt).cell 0
  have c_X1_1 := (X1.out.below P2_y1.out X1.out.lt).at_ 1 _ rfl
  have c_X1_2 := (X1.out.below P2_y1.out X1.out.lt).at_ 2 _ rfl
  go_wp2_with fail
  refine (bkOpen_any t l id p0 v W2 ((HR.out.below P2_w.out).more P2_w.out.size) HRT.out HI.out).mono ?_
  rintro e va3 ⟨v1, rfl, hrd, hb⟩
  clear c_X0 c_X0_1 c_X1 c_X1_1 c_X1_2
  have ONE1 := Lib.hid (book_rd t hrd)
  obtain ⟨L1, hl⟩ : ∃ q, openS t l id p0 = q := ⟨_, rfl⟩
  have HL1 := Lib.hid hl
  have RL1 := Lib.hid (right_open t l id p0 HRT.out)
  rw [hl] at hrd RL1
  have LL1 : Hid (L1.length ≤ 50) := RL1.out.few
  clear hl
  go_wp2_with (refine wpList_alloc_blk rfl 24 rfl [.int .i64 0, .slice none 0 0] zBL ?_)
  intro vb3 a1 a2 a3
  obtain ⟨vg3, hg⟩ : ∃ g, va3.heap.size = g := ⟨_, rfl⟩
  have AA := Lib.hid a1
  have EB := Lib.hid (hb.trans (a3.mono hb.size))
  have A3 := Lib.hid a3
  have hbg : W2.heap.size ≤ vg3 := by have := hb.size; omega
  have hgs : vg3 ≤ vb3.heap.size := by omega
  have HG := Lib.hid hg
  have XA_w := Lib.hid (show w.heap.size ≤ vg3 from Nat.le_trans P2_w.out.size hbg)
  have XA_y0 := Lib.hid (show y0.heap.size ≤ vg3 from Nat.le_trans P2_y0.out.size hbg)
  have XA_y1 := Lib.hid (show y1.heap.size ≤ vg3 from Nat.le_trans P2_y1.out.size hbg)
  have XA_W1 := Lib.hid (show W1.heap.size ≤ vg3 from Nat.le_trans E2.out.size hbg)
  have XA_W2 := Lib.hid (show W2.heap.size ≤ vg3 from hbg)
  have RR0 := Lib.hid hrd
  rw [hg] at AA A3 RR0 ⊢
  clear a1 a2 a3 hb hg hrd
  go_wp2_with (refine wpList_store_to rfl 24 _ _ rfl vg3 [.int .i64 t, v1] [.int .i64 0, .slice none 0 0] 24 rfl rfl AA.out sBL rfl ONE1.out ?_)
  intro W3 e1 e2 e3 e4
  have XA := Lib.hid e1
  have E3 := Lib.hid (EB.out.trans (e3.mono hbg))
  have R1 := Lib.hid (((RR0.out.below A3.out).below e3).more (show vg3 ≤ W3.heap.size by omega))
  clear e1 e2 e3 e4 AA EB A3 hbg hgs HG RR0
  have P3_w := Lib.hid (P2_w.out.trans (E3.out.mono P2_w.out.size))
  clear P2_w
  have P3_y0 := Lib.hid (P2_y0.out.trans (E3.out.mono P2_y0.out.size))
  clear P2_y0
  have P3_y1 := Lib.hid (P2_y1.out.trans (E3.out.mono P2_y1.out.size))
  clear P2_y1
  have P3_W1 := Lib.hid (E2.out.trans (E3.out.mono E2.out.size))
  have c_XA := XA.out.cell 0
  have c_XA_1 := XA.out.at_ 1 _ rfl
  have XO4 := Lib.hid XA.out
  go_wp2_with fail
  refine (bkTouch_any t L1 id v1 W3 R1.out RL1.out).mono ?_
  rintro e va4 ⟨v2, rfl, hrd, hb⟩
  clear c_XA c_XA_1
  have ONE2 := Lib.hid (book_rd t hrd)
  obtain ⟨L2, hl⟩ : ∃ q, touchS t L1 id = q := ⟨_, rfl⟩
  have HL2 := Lib.hid hl
  have RL2 := Lib.hid (right_touch t L1 id RL1.out)
  rw [hl] at hrd RL2
  have LL2 : Hid (L2.length ≤ 50) := RL2.out.few
  clear hl
  have AA := Lib.hid (XO4.out.below hb XO4.out.lt)
  have EB := Lib.hid hb
  have RR := Lib.hid hrd
  clear hb hrd XO4
  go_wp2_with (refine wpList_store_to rfl 24 _ _ rfl vg3 [.int .i64 t, v2] [.int .i64 t, v1] 24 rfl rfl AA.out sBL rfl ONE2.out ?_)
  intro W4 e1 e2 e3 e4
  have XAr4 := Lib.hid e1
  have Q4_w := Lib.hid ((P3_w.out.trans (EB.out.mono P3_w.out.size)).trans (e3.mono XA_w.out))
  have Q4_y0 := Lib.hid ((P3_y0.out.trans (EB.out.mono P3_y0.out.size)).trans (e3.mono XA_y0.out))
  have Q4_y1 := Lib.hid ((P3_y1.out.trans (EB.out.mono P3_y1.out.size)).trans (e3.mono XA_y1.out))
  have Q4_W1 := Lib.hid ((P3_W1.out.trans (EB.out.mono P3_W1.out.size)).trans (e3.mono XA_W1.out))
  have Q4_W2 := Lib.hid ((E3.out.trans (EB.out.mono E3.out.size)).trans (e3.mono XA_W2.out))
  have R2 := Lib.hid ((RR.out.but AA.out (fun off h => absurd h (by show ¬ off + 3 ≤ 2; omega)) e4).more (show va4.heap.size ≤ W4.heap.size by omega))
  clear e1 e2 e3 e4 AA EB RR
  have c_XAr4 := XAr4.out.cell 0
  have c_XAr4_1 := XAr4.out.at_ 1 _ rfl
  have c_X1 := (X1.out.below Q4_y1.out X1.out.lt).cell 0
  have c_X1_1 := (X1.out.below Q4_y1.out X1.out.lt).at_ 1 _ rfl
  have c_X1_2 := (X1.out.below Q4_y1.out X1.out.lt).at_ 2 _ rfl
  go_wp2_with fail
  refine (bkTick_any t L2 p1 v2 W4 R2.out RL2.out).mono ?_
  rintro e va5 ⟨v3, u3, rfl, hrd, hru, hb⟩
  clear c_XAr4 c_XAr4_1 c_X1 c_X1_1 c_X1_2
  obtain ⟨T3, hT⟩ : ∃ q, tickT t p1 = q := ⟨_, rfl⟩
  have HT3 := Lib.hid hT
  obtain ⟨f3, hf⟩ : ∃ q, tickE t p1 = q := ⟨_, rfl⟩
  have HF3 := Lib.hid hf
  rw [hT, hf]
  have ONE3 := Lib.hid (book_rd T3 hrd)
  obtain ⟨L3, hl⟩ : ∃ q, tickS t L2 p1 = q := ⟨_, rfl⟩
  have HL3 := Lib.hid hl
  have RL3 := Lib.hid (right_tick t L2 p1 RL2.out)
  rw [hl, hT] at RL3
  rw [hl] at hrd
  have LL3 : Hid (L3.length ≤ 50) := RL3.out.few
  obtain ⟨n3, hn⟩ : ∃ q, (goneS t L2 p1).length = q := ⟨_, rfl⟩
  have HN3 := Lib.hid hn
  have LN3 : Hid (n3 ≤ 50) := by
    have h1 := gone_len t L2 p1
    have h2 := (RL2.out).few
    show _ ≤ _
    omega
  obtain ⟨A3, c3, hu, -, -⟩ := hru.shape
  rw [hn] at hu
  subst hu
  clear hT hf hl hn hru
  go_wp2_with (refine wpList_alloc_blk rfl 24 rfl [.int .i64 0, .slice none 0 0] zBL ?_)
  intro vb5 a1 a2 a3
  obtain ⟨vg5, hg⟩ : ∃ g, va5.heap.size = g := ⟨_, rfl⟩
  have AA := Lib.hid a1
  have EB := Lib.hid (hb.trans (a3.mono hb.size))
  have A3 := Lib.hid a3
  have hbg : W4.heap.size ≤ vg5 := by have := hb.size; omega
  have hgs : vg5 ≤ vb5.heap.size := by omega
  have HG := Lib.hid hg
  have RR0 := Lib.hid hrd
  rw [hg] at AA A3 RR0 ⊢
  clear a1 a2 a3 hb hg hrd
  go_wp2_with (refine wpList_store_to rfl 24 _ _ rfl vg5 [.int .i64 T3, v3] [.int .i64 0, .slice none 0 0] 24 rfl rfl AA.out sBL rfl ONE3.out ?_)
  intro W5 e1 e2 e3 e4
  have XY := Lib.hid e1
  have E5 := Lib.hid (EB.out.trans (e3.mono hbg))
  have R3 := Lib.hid (((RR0.out.below A3.out).below e3).more (show vg5 ≤ W5.heap.size by omega))
  clear e1 e2 e3 e4 AA EB A3 hbg hgs HG RR0
  have P5_w := Lib.hid (Q4_w.out.trans (E5.out.mono Q4_w.out.size))
  have P5_y0 := Lib.hid (Q4_y0.out.trans (E5.out.mono Q4_y0.out.size))
  have P5_y1 := Lib.hid (Q4_y1.out.trans (E5.out.mono Q4_y1.out.size))
  have P5_W1 := Lib.hid (Q4_W1.out.trans (E5.out.mono Q4_W1.out.size))
  have P5_W2 := Lib.hid (Q4_W2.out.trans (E5.out.mono Q4_W2.out.size))
  have c_XAr4 := (XAr4.out.below E5.out XAr4.out.lt).cell 0
  have c_XAr4_1 := (XAr4.out.below E5.out XAr4.out.lt).at_ 1 _ rfl
  go_wp2_with fail
  refine (plainB_any t L2 v2 W5 ((R2.out.below E5.out).more E5.out.size) (by have := LL2.out; omega)).mono ?_
  rintro e W6 ⟨vp6, rfl, hrd, hb⟩
  have E6 := Lib.hid hb
  clear hb c_XAr4 c_XAr4_1
  have P6_w := Lib.hid (P5_w.out.trans (E6.out.mono P5_w.out.size))
  clear P5_w
  have P6_y0 := Lib.hid (P5_y0.out.trans (E6.out.mono P5_y0.out.size))
  clear P5_y0
  have P6_y1 := Lib.hid (P5_y1.out.trans (E6.out.mono P5_y1.out.size))
  clear P5_y1
  have P6_W1 := Lib.hid (P5_W1.out.trans (E6.out.mono P5_W1.out.size))
  clear P5_W1
  have P6_W2 := Lib.hid (P5_W2.out.trans (E6.out.mono P5_W2.out.size))
  clear P5_W2
  have P6_W4 := Lib.hid (E5.out.trans (E6.out.mono E5.out.size))
  have RP6 := Lib.hid hrd
  clear hrd
  go_wp2_with fail
  refine (rfRightB_any t L2 vp6 W6 RP6.out).mono ?_
  rintro e W7 ⟨rfl, hb⟩
  have E7 := Lib.hid hb
  clear hb
  have P7_w := Lib.hid (P6_w.out.trans (E7.out.mono P6_w.out.size))
  clear P6_w
  have P7_y0 := Lib.hid (P6_y0.out.trans (E7.out.mono P6_y0.out.size))
  clear P6_y0
  have P7_y1 := Lib.hid (P6_y1.out.trans (E7.out.mono P6_y1.out.size))
  clear P6_y1
  have P7_W1 := Lib.hid (P6_W1.out.trans (E7.out.mono P6_W1.out.size))
  clear P6_W1
  have P7_W2 := Lib.hid (P6_W2.out.trans (E7.out.mono P6_W2.out.size))
  clear P6_W2
  have P7_W4 := Lib.hid (P6_W4.out.trans (E7.out.mono P6_W4.out.size))
  clear P6_W4
  have P7_W5 := Lib.hid (E6.out.trans (E7.out.mono E6.out.size))
  rw [rightS_of RL2.out]
  have c_XY := (XY.out.below P7_W5.out XY.out.lt).cell 0
  have c_XY_1 := (XY.out.below P7_W5.out XY.out.lt).at_ 1 _ rfl
  go_wp2_with fail
  refine (plainB_any T3 L3 v3 W7 ((R3.out.below P7_W5.out).more P7_W5.out.size) (by have := LL3.out; omega)).mono ?_
  rintro e W8 ⟨vp8, rfl, hrd, hb⟩
  have E8 := Lib.hid hb
  clear hb c_XY c_XY_1
  have P8_w := Lib.hid (P7_w.out.trans (E8.out.mono P7_w.out.size))
  clear P7_w
  have P8_y0 := Lib.hid (P7_y0.out.trans (E8.out.mono P7_y0.out.size))
  clear P7_y0
  have P8_y1 := Lib.hid (P7_y1.out.trans (E8.out.mono P7_y1.out.size))
  clear P7_y1
  have P8_W1 := Lib.hid (P7_W1.out.trans (E8.out.mono P7_W1.out.size))
  clear P7_W1
  have P8_W2 := Lib.hid (P7_W2.out.trans (E8.out.mono P7_W2.out.size))
  clear P7_W2
  have P8_W4 := Lib.hid (P7_W4.out.trans (E8.out.mono P7_W4.out.size))
  clear P7_W4
  have P8_W5 := Lib.hid (P7_W5.out.trans (E8.out.mono P7_W5.out.size))
  clear P7_W5
  have P8_W6 := Lib.hid (E7.out.trans (E8.out.mono E7.out.size))
  have RP8 := Lib.hid hrd
  clear hrd
  go_wp2_with fail
  refine (rfRightB_any T3 L3 vp8 W8 RP8.out).mono ?_
  rintro e W9 ⟨rfl, hb⟩
  have E9 := Lib.hid hb
  clear hb
  have P9_w := Lib.hid (P8_w.out.trans (E9.out.mono P8_w.out.size))
  clear P8_w
  have P9_y0 := Lib.hid (P8_y0.out.trans (E9.out.mono P8_y0.out.size))
  clear P8_y0
  have P9_y1 := Lib.hid (P8_y1.out.trans (E9.out.mono P8_y1.out.size))
  clear P8_y1
  have P9_W1 := Lib.hid (P8_W1.out.trans (E9.out.mono P8_W1.out.size))
  clear P8_W1
  have P9_W2 := Lib.hid (P8_W2.out.trans (E9.out.mono P8_W2.out.size))
  clear P8_W2
  have P9_W4 := Lib.hid (P8_W4.out.trans (E9.out.mono P8_W4.out.size))
  clear P8_W4
  have P9_W5 := Lib.hid (P8_W5.out.trans (E9.out.mono P8_W5.out.size))
  clear P8_W5
  have P9_W6 := Lib.hid (P8_W6.out.trans (E9.out.mono P8_W6.out.size))
  clear P8_W6
  have P9_W7 := Lib.hid (E8.out.trans (E9.out.mono E8.out.size))
  rw [rightS_of RL3.out]
  have c_XY := (XY.out.below P9_W5.out XY.out.lt).cell 0
  have c_XY_1 := (XY.out.below P9_W5.out XY.out.lt).at_ 1 _ rfl
  have c_X1 := (X1.out.below P9_y1.out X1.out.lt).cell 0
  have c_X1_1 := (X1.out.below P9_y1.out X1.out.lt).at_ 1 _ rfl
  have c_X1_2 := (X1.out.below P9_y1.out X1.out.lt).at_ 2 _ rfl
  go_wp2_with fail
  refine (bkTick_any T3 L3 p2 v3 W9 ((R3.out.below P9_W5.out).more P9_W5.out.size) RL3.out).mono ?_
  rintro e va10 ⟨v4, u4, rfl, hrd, hru, hb⟩
  clear c_XY c_XY_1 c_X1 c_X1_1 c_X1_2
  obtain ⟨T4, hT⟩ : ∃ q, tickT T3 p2 = q := ⟨_, rfl⟩
  have HT4 := Lib.hid hT
  obtain ⟨f4, hf⟩ : ∃ q, tickE T3 p2 = q := ⟨_, rfl⟩
  have HF4 := Lib.hid hf
  rw [hT, hf]
  have ONE4 := Lib.hid (book_rd T4 hrd)
  obtain ⟨L4, hl⟩ : ∃ q, tickS T3 L3 p2 = q := ⟨_, rfl⟩
  have HL4 := Lib.hid hl
  have RL4 := Lib.hid (right_tick T3 L3 p2 RL3.out)
  rw [hl, hT] at RL4
  rw [hl] at hrd
  have LL4 : Hid (L4.length ≤ 50) := RL4.out.few
  obtain ⟨n4, hn⟩ : ∃ q, (goneS T3 L3 p2).length = q := ⟨_, rfl⟩
  have HN4 := Lib.hid hn
  have LN4 : Hid (n4 ≤ 50) := by
    have h1 := gone_len T3 L3 p2
    have h2 := (RL3.out).few
    show _ ≤ _
    omega
  obtain ⟨A4, c4, hu, -, -⟩ := hru.shape
  rw [hn] at hu
  subst hu
  clear hT hf hl hn hru
  go_wp2_with (refine wpList_alloc_blk rfl 24 rfl [.int .i64 0, .slice none 0 0] zBL ?_)
  intro vb10 a1 a2 a3
  obtain ⟨vg10, hg⟩ : ∃ g, va10.heap.size = g := ⟨_, rfl⟩
  have AA := Lib.hid a1
  have EB := Lib.hid (hb.trans (a3.mono hb.size))
  have A3 := Lib.hid a3
  have hbg : W9.heap.size ≤ vg10 := by have := hb.size; omega
  have hgs : vg10 ≤ vb10.heap.size := by omega
  have HG := Lib.hid hg
  have RR0 := Lib.hid hrd
  rw [hg] at AA A3 RR0 ⊢
  clear a1 a2 a3 hb hg hrd
  go_wp2_with (refine wpList_store_to rfl 24 _ _ rfl vg10 [.int .i64 T4, v4] [.int .i64 0, .slice none 0 0] 24 rfl rfl AA.out sBL rfl ONE4.out ?_)
  intro W10 e1 e2 e3 e4
  have XZ := Lib.hid e1
  have E10 := Lib.hid (EB.out.trans (e3.mono hbg))
  have R4 := Lib.hid (((RR0.out.below A3.out).below e3).more (show vg10 ≤ W10.heap.size by omega))
  clear e1 e2 e3 e4 AA EB A3 hbg hgs HG RR0
  have P10_w := Lib.hid (P9_w.out.trans (E10.out.mono P9_w.out.size))
  clear P9_w
  have P10_y0 := Lib.hid (P9_y0.out.trans (E10.out.mono P9_y0.out.size))
  clear P9_y0
  have P10_y1 := Lib.hid (P9_y1.out.trans (E10.out.mono P9_y1.out.size))
  clear P9_y1
  have P10_W1 := Lib.hid (P9_W1.out.trans (E10.out.mono P9_W1.out.size))
  clear P9_W1
  have P10_W2 := Lib.hid (P9_W2.out.trans (E10.out.mono P9_W2.out.size))
  clear P9_W2
  have P10_W4 := Lib.hid (P9_W4.out.trans (E10.out.mono P9_W4.out.size))
  clear P9_W4
  have P10_W5 := Lib.hid (P9_W5.out.trans (E10.out.mono P9_W5.out.size))
  clear P9_W5
  have P10_W6 := Lib.hid (P9_W6.out.trans (E10.out.mono P9_W6.out.size))
  clear P9_W6
  have P10_W7 := Lib.hid (P9_W7.out.trans (E10.out.mono P9_W7.out.size))
  clear P9_W7
  have P10_W8 := Lib.hid (E9.out.trans (E10.out.mono E9.out.size))
  have c_XAr4 := (XAr4.out.below P10_W4.out XAr4.out.lt).cell 0
  have c_XAr4_1 := (XAr4.out.below P10_W4.out XAr4.out.lt).at_ 1 _ rfl
  have c_X1 := (X1.out.below P10_y1.out X1.out.lt).cell 0
  have c_X1_1 := (X1.out.below P10_y1.out X1.out.lt).at_ 1 _ rfl
  have c_X1_2 := (X1.out.below P10_y1.out X1.out.lt).at_ 2 _ rfl
  go_wp2_with fail
  refine (bkTick_any t L2 p2 v2 W10 ((R2.out.below P10_W4.out).more P10_W4.out.size) RL2.out).mono ?_
  rintro e va11 ⟨v5, u5, rfl, hrd, hru, hb⟩
  clear c_XAr4 c_XAr4_1 c_X1 c_X1_1 c_X1_2
  obtain ⟨T5, hT⟩ : ∃ q, tickT t p2 = q := ⟨_, rfl⟩
  have HT5 := Lib.hid hT
  obtain ⟨f5, hf⟩ : ∃ q, tickE t p2 = q := ⟨_, rfl⟩
  have HF5 := Lib.hid hf
  rw [hT, hf]
  have ONE5 := Lib.hid (book_rd T5 hrd)
  obtain ⟨L5, hl⟩ : ∃ q, tickS t L2 p2 = q := ⟨_, rfl⟩
  have HL5 := Lib.hid hl
  have RL5 := Lib.hid (right_tick t L2 p2 RL2.out)
  rw [hl, hT] at RL5
  rw [hl] at hrd
  have LL5 : Hid (L5.length ≤ 50) := RL5.out.few
  obtain ⟨n5, hn⟩ : ∃ q, (goneS t L2 p2).length = q := ⟨_, rfl⟩
  have HN5 := Lib.hid hn
  have LN5 : Hid (n5 ≤ 50) := by
    have h1 := gone_len t L2 p2
    have h2 := (RL2.out).few
    show _ ≤ _
    omega
  obtain ⟨A5, c5, hu, -, -⟩ := hru.shape
  rw [hn] at hu
  subst hu
  clear hT hf hl hn hru
  go_wp2_with (refine wpList_alloc_blk rfl 24 rfl [.int .i64 0, .slice none 0 0] zBL ?_)
  intro vb11 a1 a2 a3
  obtain ⟨vg11, hg⟩ : ∃ g, va11.heap.size = g := ⟨_, rfl⟩
  have AA := Lib.hid a1
  have EB := Lib.hid (hb.trans (a3.mono hb.size))
  have A3 := Lib.hid a3
  have hbg : W10.heap.size ≤ vg11 := by have := hb.size; omega
  have hgs : vg11 ≤ vb11.heap.size := by omega
  have HG := Lib.hid hg
  have RR0 := Lib.hid hrd
  rw [hg] at AA A3 RR0 ⊢
  clear a1 a2 a3 hb hg hrd
  go_wp2_with (refine wpList_store_to rfl 24 _ _ rfl vg11 [.int .i64 T5, v5] [.int .i64 0, .slice none 0 0] 24 rfl rfl AA.out sBL rfl ONE5.out ?_)
  intro W11 e1 e2 e3 e4
  have XW := Lib.hid e1
  have E11 := Lib.hid (EB.out.trans (e3.mono hbg))
  have R5 := Lib.hid (((RR0.out.below A3.out).below e3).more (show vg11 ≤ W11.heap.size by omega))
  clear e1 e2 e3 e4 AA EB A3 hbg hgs HG RR0
  have P11_w := Lib.hid (P10_w.out.trans (E11.out.mono P10_w.out.size))
  clear P10_w
  have P11_y0 := Lib.hid (P10_y0.out.trans (E11.out.mono P10_y0.out.size))
  clear P10_y0
  have P11_y1 := Lib.hid (P10_y1.out.trans (E11.out.mono P10_y1.out.size))
  clear P10_y1
  have P11_W1 := Lib.hid (P10_W1.out.trans (E11.out.mono P10_W1.out.size))
  clear P10_W1
  have P11_W2 := Lib.hid (P10_W2.out.trans (E11.out.mono P10_W2.out.size))
  clear P10_W2
  have P11_W4 := Lib.hid (P10_W4.out.trans (E11.out.mono P10_W4.out.size))
  clear P10_W4
  have P11_W5 := Lib.hid (P10_W5.out.trans (E11.out.mono P10_W5.out.size))
  clear P10_W5
  have P11_W6 := Lib.hid (P10_W6.out.trans (E11.out.mono P10_W6.out.size))
  clear P10_W6
  have P11_W7 := Lib.hid (P10_W7.out.trans (E11.out.mono P10_W7.out.size))
  clear P10_W7
  have P11_W8 := Lib.hid (P10_W8.out.trans (E11.out.mono P10_W8.out.size))
  clear P10_W8
  have P11_W9 := Lib.hid (E10.out.trans (E11.out.mono E10.out.size))
  have c_XZ := (XZ.out.below E11.out XZ.out.lt).cell 0
  have c_XZ_1 := (XZ.out.below E11.out XZ.out.lt).at_ 1 _ rfl
  go_wp2_with fail
  refine (bkClose_any T4 L4 id v4 W11 ((R4.out.below E11.out).more E11.out.size) RL4.out).mono ?_
  rintro e va12 ⟨v6, rfl, hrd, hb⟩
  clear c_XZ c_XZ_1
  have ONE6 := Lib.hid (book_rd T4 hrd)
  obtain ⟨L6, hl⟩ : ∃ q, closeS L4 id = q := ⟨_, rfl⟩
  have HL6 := Lib.hid hl
  have RL6 := Lib.hid (right_close T4 L4 id RL4.out)
  rw [hl] at hrd RL6
  have LL6 : Hid (L6.length ≤ 50) := RL6.out.few
  clear hl
  obtain ⟨f6, hf⟩ : ∃ q, leaseE L4 id = q := ⟨_, rfl⟩
  rw [hf]
  clear hf
  go_wp2_with (refine wpList_alloc_blk rfl 24 rfl [.int .i64 0, .slice none 0 0] zBL ?_)
  intro vb12 a1 a2 a3
  obtain ⟨vg12, hg⟩ : ∃ g, va12.heap.size = g := ⟨_, rfl⟩
  have AA := Lib.hid a1
  have EB := Lib.hid (hb.trans (a3.mono hb.size))
  have A3 := Lib.hid a3
  have hbg : W11.heap.size ≤ vg12 := by have := hb.size; omega
  have hgs : vg12 ≤ vb12.heap.size := by omega
  have HG := Lib.hid hg
  have RR0 := Lib.hid hrd
  rw [hg] at AA A3 RR0 ⊢
  clear a1 a2 a3 hb hg hrd
  go_wp2_with (refine wpList_store_to rfl 24 _ _ rfl vg12 [.int .i64 T4, v6] [.int .i64 0, .slice none 0 0] 24 rfl rfl AA.out sBL rfl ONE6.out ?_)
  intro W12 e1 e2 e3 e4
  have XV := Lib.hid e1
  have E12 := Lib.hid (EB.out.trans (e3.mono hbg))
  have R6 := Lib.hid (((RR0.out.below A3.out).below e3).more (show vg12 ≤ W12.heap.size by omega))
  clear e1 e2 e3 e4 AA EB A3 hbg hgs HG RR0
  have P12_w := Lib.hid (P11_w.out.trans (E12.out.mono P11_w.out.size))
  clear P11_w
  have P12_y0 := Lib.hid (P11_y0.out.trans (E12.out.mono P11_y0.out.size))
  clear P11_y0
  have P12_y1 := Lib.hid (P11_y1.out.trans (E12.out.mono P11_y1.out.size))
  clear P11_y1
  have P12_W1 := Lib.hid (P11_W1.out.trans (E12.out.mono P11_W1.out.size))
  clear P11_W1
  have P12_W2 := Lib.hid (P11_W2.out.trans (E12.out.mono P11_W2.out.size))
  clear P11_W2
  have P12_W4 := Lib.hid (P11_W4.out.trans (E12.out.mono P11_W4.out.size))
  clear P11_W4
  have P12_W5 := Lib.hid (P11_W5.out.trans (E12.out.mono P11_W5.out.size))
  clear P11_W5
  have P12_W6 := Lib.hid (P11_W6.out.trans (E12.out.mono P11_W6.out.size))
  clear P11_W6
  have P12_W7 := Lib.hid (P11_W7.out.trans (E12.out.mono P11_W7.out.size))
  clear P11_W7
  have P12_W8 := Lib.hid (P11_W8.out.trans (E12.out.mono P11_W8.out.size))
  clear P11_W8
  have P12_W9 := Lib.hid (P11_W9.out.trans (E12.out.mono P11_W9.out.size))
  clear P11_W9
  have P12_W10 := Lib.hid (E11.out.trans (E12.out.mono E11.out.size))
  have c_XZ := (XZ.out.below P12_W10.out XZ.out.lt).cell 0
  have c_XZ_1 := (XZ.out.below P12_W10.out XZ.out.lt).at_ 1 _ rfl
  go_wp2_with fail
  refine (plainB_any T4 L4 v4 W12 ((R4.out.below P12_W10.out).more P12_W10.out.size) (by have := LL4.out; omega)).mono ?_
  rintro e W13 ⟨vp13, rfl, hrd, hb⟩
  have E13 := Lib.hid hb
  clear hb c_XZ c_XZ_1
  have P13_w := Lib.hid (P12_w.out.trans (E13.out.mono P12_w.out.size))
  clear P12_w
  have P13_y0 := Lib.hid (P12_y0.out.trans (E13.out.mono P12_y0.out.size))
  clear P12_y0
  have P13_y1 := Lib.hid (P12_y1.out.trans (E13.out.mono P12_y1.out.size))
  clear P12_y1
  have P13_W1 := Lib.hid (P12_W1.out.trans (E13.out.mono P12_W1.out.size))
  clear P12_W1
  have P13_W2 := Lib.hid (P12_W2.out.trans (E13.out.mono P12_W2.out.size))
  clear P12_W2
  have P13_W4 := Lib.hid (P12_W4.out.trans (E13.out.mono P12_W4.out.size))
  clear P12_W4
  have P13_W5 := Lib.hid (P12_W5.out.trans (E13.out.mono P12_W5.out.size))
  clear P12_W5
  have P13_W6 := Lib.hid (P12_W6.out.trans (E13.out.mono P12_W6.out.size))
  clear P12_W6
  have P13_W7 := Lib.hid (P12_W7.out.trans (E13.out.mono P12_W7.out.size))
  clear P12_W7
  have P13_W8 := Lib.hid (P12_W8.out.trans (E13.out.mono P12_W8.out.size))
  clear P12_W8
  have P13_W9 := Lib.hid (P12_W9.out.trans (E13.out.mono P12_W9.out.size))
  clear P12_W9
  have P13_W10 := Lib.hid (P12_W10.out.trans (E13.out.mono P12_W10.out.size))
  clear P12_W10
  have P13_W11 := Lib.hid (E12.out.trans (E13.out.mono E12.out.size))
  have RP13 := Lib.hid hrd
  clear hrd
  go_wp2_with fail
  refine (rfRightB_any T4 L4 vp13 W13 RP13.out).mono ?_
  rintro e W14 ⟨rfl, hb⟩
  have E14 := Lib.hid hb
  clear hb
  have P14_w := Lib.hid (P13_w.out.trans (E14.out.mono P13_w.out.size))
  clear P13_w
  have P14_y0 := Lib.hid (P13_y0.out.trans (E14.out.mono P13_y0.out.size))
  clear P13_y0
  have P14_y1 := Lib.hid (P13_y1.out.trans (E14.out.mono P13_y1.out.size))
  clear P13_y1
  have P14_W1 := Lib.hid (P13_W1.out.trans (E14.out.mono P13_W1.out.size))
  clear P13_W1
  have P14_W2 := Lib.hid (P13_W2.out.trans (E14.out.mono P13_W2.out.size))
  clear P13_W2
  have P14_W4 := Lib.hid (P13_W4.out.trans (E14.out.mono P13_W4.out.size))
  clear P13_W4
  have P14_W5 := Lib.hid (P13_W5.out.trans (E14.out.mono P13_W5.out.size))
  clear P13_W5
  have P14_W6 := Lib.hid (P13_W6.out.trans (E14.out.mono P13_W6.out.size))
  clear P13_W6
  have P14_W7 := Lib.hid (P13_W7.out.trans (E14.out.mono P13_W7.out.size))
  clear P13_W7
  have P14_W8 := Lib.hid (P13_W8.out.trans (E14.out.mono P13_W8.out.size))
  clear P13_W8
  have P14_W9 := Lib.hid (P13_W9.out.trans (E14.out.mono P13_W9.out.size))
  clear P13_W9
  have P14_W10 := Lib.hid (P13_W10.out.trans (E14.out.mono P13_W10.out.size))
  clear P13_W10
  have P14_W11 := Lib.hid (P13_W11.out.trans (E14.out.mono P13_W11.out.size))
  clear P13_W11
  have P14_W12 := Lib.hid (E13.out.trans (E14.out.mono E13.out.size))
  rw [rightS_of RL4.out]
  have c_XV := (XV.out.below P14_W12.out XV.out.lt).cell 0
  have c_XV_1 := (XV.out.below P14_W12.out XV.out.lt).at_ 1 _ rfl
  go_wp2_with fail
  refine (plainB_any T4 L6 v6 W14 ((R6.out.below P14_W12.out).more P14_W12.out.size) (by have := LL6.out; omega)).mono ?_
  rintro e W15 ⟨vp15, rfl, hrd, hb⟩
  have E15 := Lib.hid hb
  clear hb c_XV c_XV_1
  have P15_w := Lib.hid (P14_w.out.trans (E15.out.mono P14_w.out.size))
  clear P14_w
  have P15_y0 := Lib.hid (P14_y0.out.trans (E15.out.mono P14_y0.out.size))
  clear P14_y0
  have P15_y1 := Lib.hid (P14_y1.out.trans (E15.out.mono P14_y1.out.size))
  clear P14_y1
  have P15_W1 := Lib.hid (P14_W1.out.trans (E15.out.mono P14_W1.out.size))
  clear P14_W1
  have P15_W2 := Lib.hid (P14_W2.out.trans (E15.out.mono P14_W2.out.size))
  clear P14_W2
  have P15_W4 := Lib.hid (P14_W4.out.trans (E15.out.mono P14_W4.out.size))
  clear P14_W4
  have P15_W5 := Lib.hid (P14_W5.out.trans (E15.out.mono P14_W5.out.size))
  clear P14_W5
  have P15_W6 := Lib.hid (P14_W6.out.trans (E15.out.mono P14_W6.out.size))
  clear P14_W6
  have P15_W7 := Lib.hid (P14_W7.out.trans (E15.out.mono P14_W7.out.size))
  clear P14_W7
  have P15_W8 := Lib.hid (P14_W8.out.trans (E15.out.mono P14_W8.out.size))
  clear P14_W8
  have P15_W9 := Lib.hid (P14_W9.out.trans (E15.out.mono P14_W9.out.size))
  clear P14_W9
  have P15_W10 := Lib.hid (P14_W10.out.trans (E15.out.mono P14_W10.out.size))
  clear P14_W10
  have P15_W11 := Lib.hid (P14_W11.out.trans (E15.out.mono P14_W11.out.size))
  clear P14_W11
  have P15_W12 := Lib.hid (P14_W12.out.trans (E15.out.mono P14_W12.out.size))
  clear P14_W12
  have P15_W13 := Lib.hid (E14.out.trans (E15.out.mono E14.out.size))
  have RP15 := Lib.hid hrd
  clear hrd
  go_wp2_with fail
  refine (rfRightB_any T4 L6 vp15 W15 RP15.out).mono ?_
  rintro e W16 ⟨rfl, hb⟩
  have E16 := Lib.hid hb
  clear hb
  have P16_w := Lib.hid (P15_w.out.trans (E16.out.mono P15_w.out.size))
  clear P15_w
  have P16_y0 := Lib.hid (P15_y0.out.trans (E16.out.mono P15_y0.out.size))
  clear P15_y0
  have P16_y1 := Lib.hid (P15_y1.out.trans (E16.out.mono P15_y1.out.size))
  clear P15_y1
  have P16_W1 := Lib.hid (P15_W1.out.trans (E16.out.mono P15_W1.out.size))
  clear P15_W1
  have P16_W2 := Lib.hid (P15_W2.out.trans (E16.out.mono P15_W2.out.size))
  clear P15_W2
  have P16_W4 := Lib.hid (P15_W4.out.trans (E16.out.mono P15_W4.out.size))
  clear P15_W4
  have P16_W5 := Lib.hid (P15_W5.out.trans (E16.out.mono P15_W5.out.size))
  clear P15_W5
  have P16_W6 := Lib.hid (P15_W6.out.trans (E16.out.mono P15_W6.out.size))
  clear P15_W6
  have P16_W7 := Lib.hid (P15_W7.out.trans (E16.out.mono P15_W7.out.size))
  clear P15_W7
  have P16_W8 := Lib.hid (P15_W8.out.trans (E16.out.mono P15_W8.out.size))
  clear P15_W8
  have P16_W9 := Lib.hid (P15_W9.out.trans (E16.out.mono P15_W9.out.size))
  clear P15_W9
  have P16_W10 := Lib.hid (P15_W10.out.trans (E16.out.mono P15_W10.out.size))
  clear P15_W10
  have P16_W11 := Lib.hid (P15_W11.out.trans (E16.out.mono P15_W11.out.size))
  clear P15_W11
  have P16_W12 := Lib.hid (P15_W12.out.trans (E16.out.mono P15_W12.out.size))
  clear P15_W12
  have P16_W13 := Lib.hid (P15_W13.out.trans (E16.out.mono P15_W13.out.size))
  clear P15_W13
  have P16_W14 := Lib.hid (E15.out.trans (E16.out.mono E15.out.size))
  rw [rightS_of RL6.out]
  have c_XV := (XV.out.below P16_W12.out XV.out.lt).cell 0
  have c_XV_1 := (XV.out.below P16_W12.out XV.out.lt).at_ 1 _ rfl
  go_wp2_with fail
  refine (bkHas_any T4 L6 id v6 W16 ((R6.out.below P16_W12.out).more P16_W12.out.size) RL6.out).mono ?_
  rintro e W17 ⟨rfl, hb⟩
  have E17 := Lib.hid hb
  clear hb c_XV c_XV_1
  have P17_w := Lib.hid (P16_w.out.trans (E17.out.mono P16_w.out.size))
  clear P16_w
  have P17_y0 := Lib.hid (P16_y0.out.trans (E17.out.mono P16_y0.out.size))
  clear P16_y0
  have P17_y1 := Lib.hid (P16_y1.out.trans (E17.out.mono P16_y1.out.size))
  clear P16_y1
  have P17_W1 := Lib.hid (P16_W1.out.trans (E17.out.mono P16_W1.out.size))
  clear P16_W1
  have P17_W2 := Lib.hid (P16_W2.out.trans (E17.out.mono P16_W2.out.size))
  clear P16_W2
  have P17_W4 := Lib.hid (P16_W4.out.trans (E17.out.mono P16_W4.out.size))
  clear P16_W4
  have P17_W5 := Lib.hid (P16_W5.out.trans (E17.out.mono P16_W5.out.size))
  clear P16_W5
  have P17_W6 := Lib.hid (P16_W6.out.trans (E17.out.mono P16_W6.out.size))
  clear P16_W6
  have P17_W7 := Lib.hid (P16_W7.out.trans (E17.out.mono P16_W7.out.size))
  clear P16_W7
  have P17_W8 := Lib.hid (P16_W8.out.trans (E17.out.mono P16_W8.out.size))
  clear P16_W8
  have P17_W9 := Lib.hid (P16_W9.out.trans (E17.out.mono P16_W9.out.size))
  clear P16_W9
  have P17_W10 := Lib.hid (P16_W10.out.trans (E17.out.mono P16_W10.out.size))
  clear P16_W10
  have P17_W11 := Lib.hid (P16_W11.out.trans (E17.out.mono P16_W11.out.size))
  clear P16_W11
  have P17_W12 := Lib.hid (P16_W12.out.trans (E17.out.mono P16_W12.out.size))
  clear P16_W12
  have P17_W13 := Lib.hid (P16_W13.out.trans (E17.out.mono P16_W13.out.size))
  clear P16_W13
  have P17_W14 := Lib.hid (P16_W14.out.trans (E17.out.mono P16_W14.out.size))
  clear P16_W14
  have P17_W15 := Lib.hid (E16.out.trans (E17.out.mono E16.out.size))
  have HC := Lib.hid (close_has L4 id)
  rw [HL6.out] at HC
  rw [HC.out]
  by_cases hf3 : f3 = 0
  rotate_left
  · have hz : ((f3 : Int) != 0) = true := by
      rw [bne_iff_ne]
      omega
    clear hf3
    go_wp2_with fail
    refine (alive10 W17).mono ?_
    rintro e W18 ⟨rfl, hb⟩
    have E18 := Lib.hid hb
    clear hb
    have P18_w := Lib.hid (P17_w.out.trans (E18.out.mono P17_w.out.size))
    clear P17_w
    have P18_y0 := Lib.hid (P17_y0.out.trans (E18.out.mono P17_y0.out.size))
    clear P17_y0
    have P18_y1 := Lib.hid (P17_y1.out.trans (E18.out.mono P17_y1.out.size))
    clear P17_y1
    have P18_W1 := Lib.hid (P17_W1.out.trans (E18.out.mono P17_W1.out.size))
    clear P17_W1
    have P18_W2 := Lib.hid (P17_W2.out.trans (E18.out.mono P17_W2.out.size))
    clear P17_W2
    have P18_W4 := Lib.hid (P17_W4.out.trans (E18.out.mono P17_W4.out.size))
    clear P17_W4
    have P18_W5 := Lib.hid (P17_W5.out.trans (E18.out.mono P17_W5.out.size))
    clear P17_W5
    have P18_W6 := Lib.hid (P17_W6.out.trans (E18.out.mono P17_W6.out.size))
    clear P17_W6
    have P18_W7 := Lib.hid (P17_W7.out.trans (E18.out.mono P17_W7.out.size))
    clear P17_W7
    have P18_W8 := Lib.hid (P17_W8.out.trans (E18.out.mono P17_W8.out.size))
    clear P17_W8
    have P18_W9 := Lib.hid (P17_W9.out.trans (E18.out.mono P17_W9.out.size))
    clear P17_W9
    have P18_W10 := Lib.hid (P17_W10.out.trans (E18.out.mono P17_W10.out.size))
    clear P17_W10
    have P18_W11 := Lib.hid (P17_W11.out.trans (E18.out.mono P17_W11.out.size))
    clear P17_W11
    have P18_W12 := Lib.hid (P17_W12.out.trans (E18.out.mono P17_W12.out.size))
    clear P17_W12
    have P18_W13 := Lib.hid (P17_W13.out.trans (E18.out.mono P17_W13.out.size))
    clear P17_W13
    have P18_W14 := Lib.hid (P17_W14.out.trans (E18.out.mono P17_W14.out.size))
    clear P17_W14
    have P18_W15 := Lib.hid (P17_W15.out.trans (E18.out.mono P17_W15.out.size))
    clear P17_W15
    have P18_W16 := Lib.hid (E17.out.trans (E18.out.mono E17.out.size))
    go_wp2
    go_ret
    exact ⟨rfl, P18_w.out⟩
  subst hf3
  by_cases hf4 : f4 = 0
  rotate_left
  · have hz : ((f4 : Int) != 0) = true := by
      rw [bne_iff_ne]
      omega
    clear hf4
    go_wp2_with fail
    refine (alive10 W17).mono ?_
    rintro e W18 ⟨rfl, hb⟩
    have E18 := Lib.hid hb
    clear hb
    have P18_w := Lib.hid (P17_w.out.trans (E18.out.mono P17_w.out.size))
    clear P17_w
    have P18_y0 := Lib.hid (P17_y0.out.trans (E18.out.mono P17_y0.out.size))
    clear P17_y0
    have P18_y1 := Lib.hid (P17_y1.out.trans (E18.out.mono P17_y1.out.size))
    clear P17_y1
    have P18_W1 := Lib.hid (P17_W1.out.trans (E18.out.mono P17_W1.out.size))
    clear P17_W1
    have P18_W2 := Lib.hid (P17_W2.out.trans (E18.out.mono P17_W2.out.size))
    clear P17_W2
    have P18_W4 := Lib.hid (P17_W4.out.trans (E18.out.mono P17_W4.out.size))
    clear P17_W4
    have P18_W5 := Lib.hid (P17_W5.out.trans (E18.out.mono P17_W5.out.size))
    clear P17_W5
    have P18_W6 := Lib.hid (P17_W6.out.trans (E18.out.mono P17_W6.out.size))
    clear P17_W6
    have P18_W7 := Lib.hid (P17_W7.out.trans (E18.out.mono P17_W7.out.size))
    clear P17_W7
    have P18_W8 := Lib.hid (P17_W8.out.trans (E18.out.mono P17_W8.out.size))
    clear P17_W8
    have P18_W9 := Lib.hid (P17_W9.out.trans (E18.out.mono P17_W9.out.size))
    clear P17_W9
    have P18_W10 := Lib.hid (P17_W10.out.trans (E18.out.mono P17_W10.out.size))
    clear P17_W10
    have P18_W11 := Lib.hid (P17_W11.out.trans (E18.out.mono P17_W11.out.size))
    clear P17_W11
    have P18_W12 := Lib.hid (P17_W12.out.trans (E18.out.mono P17_W12.out.size))
    clear P17_W12
    have P18_W13 := Lib.hid (P17_W13.out.trans (E18.out.mono P17_W13.out.size))
    clear P17_W13
    have P18_W14 := Lib.hid (P17_W14.out.trans (E18.out.mono P17_W14.out.size))
    clear P17_W14
    have P18_W15 := Lib.hid (P17_W15.out.trans (E18.out.mono P17_W15.out.size))
    clear P17_W15
    have P18_W16 := Lib.hid (E17.out.trans (E18.out.mono E17.out.size))
    go_wp2
    go_ret
    exact ⟨rfl, P18_w.out⟩
  subst hf4
  by_cases hf5 : f5 = 0
  rotate_left
  · have hz : ((f5 : Int) != 0) = true := by
      rw [bne_iff_ne]
      omega
    clear hf5
    go_wp2_with fail
    refine (alive10 W17).mono ?_
    rintro e W18 ⟨rfl, hb⟩
    have E18 := Lib.hid hb
    clear hb
    have P18_w := Lib.hid (P17_w.out.trans (E18.out.mono P17_w.out.size))
    clear P17_w
    have P18_y0 := Lib.hid (P17_y0.out.trans (E18.out.mono P17_y0.out.size))
    clear P17_y0
    have P18_y1 := Lib.hid (P17_y1.out.trans (E18.out.mono P17_y1.out.size))
    clear P17_y1
    have P18_W1 := Lib.hid (P17_W1.out.trans (E18.out.mono P17_W1.out.size))
    clear P17_W1
    have P18_W2 := Lib.hid (P17_W2.out.trans (E18.out.mono P17_W2.out.size))
    clear P17_W2
    have P18_W4 := Lib.hid (P17_W4.out.trans (E18.out.mono P17_W4.out.size))
    clear P17_W4
    have P18_W5 := Lib.hid (P17_W5.out.trans (E18.out.mono P17_W5.out.size))
    clear P17_W5
    have P18_W6 := Lib.hid (P17_W6.out.trans (E18.out.mono P17_W6.out.size))
    clear P17_W6
    have P18_W7 := Lib.hid (P17_W7.out.trans (E18.out.mono P17_W7.out.size))
    clear P17_W7
    have P18_W8 := Lib.hid (P17_W8.out.trans (E18.out.mono P17_W8.out.size))
    clear P17_W8
    have P18_W9 := Lib.hid (P17_W9.out.trans (E18.out.mono P17_W9.out.size))
    clear P17_W9
    have P18_W10 := Lib.hid (P17_W10.out.trans (E18.out.mono P17_W10.out.size))
    clear P17_W10
    have P18_W11 := Lib.hid (P17_W11.out.trans (E18.out.mono P17_W11.out.size))
    clear P17_W11
    have P18_W12 := Lib.hid (P17_W12.out.trans (E18.out.mono P17_W12.out.size))
    clear P17_W12
    have P18_W13 := Lib.hid (P17_W13.out.trans (E18.out.mono P17_W13.out.size))
    clear P17_W13
    have P18_W14 := Lib.hid (P17_W14.out.trans (E18.out.mono P17_W14.out.size))
    clear P17_W14
    have P18_W15 := Lib.hid (P17_W15.out.trans (E18.out.mono P17_W15.out.size))
    clear P17_W15
    have P18_W16 := Lib.hid (E17.out.trans (E18.out.mono E17.out.size))
    go_wp2
    go_ret
    exact ⟨rfl, P18_w.out⟩
  subst hf5
  have HT3b := Lib.hid (tickT_of HF3.out)
  rw [HT3.out] at HT3b
  have e3 := HT3b.out
  subst e3
  have HT4b := Lib.hid (tickT_of HF4.out)
  rw [HT4.out] at HT4b
  have HT5b := Lib.hid (tickT_of HF5.out)
  rw [HT5.out] at HT5b
  have HTW := Lib.hid (tick_twice t L2 T3 p2 HF3.out HF4.out HF5.out)
  have HSAME : Hid (sameB T4 T5 L4 L5 = true) := by
    show _ = _
    rw [HT4b.out, HT5b.out, ← HL4.out, ← HL5.out, ← HL3.out, HTW.out.1]
    exact sameB_self _ _
  have HLEN : Hid (n3 + n4 = n5) := by
    show _ = _
    rw [← HN3.out, ← HN4.out, ← HN5.out, ← HL3.out]
    exact HTW.out.2
  go_wp2_with fail
  refine (alive10 W17).mono ?_
  rintro e W18 ⟨rfl, hb⟩
  have E18 := Lib.hid hb
  clear hb
  have P18_w := Lib.hid (P17_w.out.trans (E18.out.mono P17_w.out.size))
  clear P17_w
  have P18_y0 := Lib.hid (P17_y0.out.trans (E18.out.mono P17_y0.out.size))
  clear P17_y0
  have P18_y1 := Lib.hid (P17_y1.out.trans (E18.out.mono P17_y1.out.size))
  clear P17_y1
  have P18_W1 := Lib.hid (P17_W1.out.trans (E18.out.mono P17_W1.out.size))
  clear P17_W1
  have P18_W2 := Lib.hid (P17_W2.out.trans (E18.out.mono P17_W2.out.size))
  clear P17_W2
  have P18_W4 := Lib.hid (P17_W4.out.trans (E18.out.mono P17_W4.out.size))
  clear P17_W4
  have P18_W5 := Lib.hid (P17_W5.out.trans (E18.out.mono P17_W5.out.size))
  clear P17_W5
  have P18_W6 := Lib.hid (P17_W6.out.trans (E18.out.mono P17_W6.out.size))
  clear P17_W6
  have P18_W7 := Lib.hid (P17_W7.out.trans (E18.out.mono P17_W7.out.size))
  clear P17_W7
  have P18_W8 := Lib.hid (P17_W8.out.trans (E18.out.mono P17_W8.out.size))
  clear P17_W8
  have P18_W9 := Lib.hid (P17_W9.out.trans (E18.out.mono P17_W9.out.size))
  clear P17_W9
  have P18_W10 := Lib.hid (P17_W10.out.trans (E18.out.mono P17_W10.out.size))
  clear P17_W10
  have P18_W11 := Lib.hid (P17_W11.out.trans (E18.out.mono P17_W11.out.size))
  clear P17_W11
  have P18_W12 := Lib.hid (P17_W12.out.trans (E18.out.mono P17_W12.out.size))
  clear P17_W12
  have P18_W13 := Lib.hid (P17_W13.out.trans (E18.out.mono P17_W13.out.size))
  clear P17_W13
  have P18_W14 := Lib.hid (P17_W14.out.trans (E18.out.mono P17_W14.out.size))
  clear P17_W14
  have P18_W15 := Lib.hid (P17_W15.out.trans (E18.out.mono P17_W15.out.size))
  clear P17_W15
  have P18_W16 := Lib.hid (E17.out.trans (E18.out.mono E17.out.size))
  have c_XZ := (XZ.out.below P18_W10.out XZ.out.lt).cell 0
  have c_XZ_1 := (XZ.out.below P18_W10.out XZ.out.lt).at_ 1 _ rfl
  have c_XW := (XW.out.below P18_W11.out XW.out.lt).cell 0
  have c_XW_1 := (XW.out.below P18_W11.out XW.out.lt).at_ 1 _ rfl
  go_wp2_with fail
  refine (bkSame_any T4 T5 L4 L5 v4 v5 W18 ((R4.out.below P18_W10.out).more P18_W10.out.size) ((R5.out.below P18_W11.out).more P18_W11.out.size) (by have := LL4.out; omega) (by have := LL5.out; omega)).mono ?_
  rintro e W19 ⟨rfl, hb⟩
  have E19 := Lib.hid hb
  clear hb c_XZ c_XZ_1 c_XW c_XW_1
  have P19_w := Lib.hid (P18_w.out.trans (E19.out.mono P18_w.out.size))
  clear P18_w
  have P19_y0 := Lib.hid (P18_y0.out.trans (E19.out.mono P18_y0.out.size))
  clear P18_y0
  have P19_y1 := Lib.hid (P18_y1.out.trans (E19.out.mono P18_y1.out.size))
  clear P18_y1
  have P19_W1 := Lib.hid (P18_W1.out.trans (E19.out.mono P18_W1.out.size))
  clear P18_W1
  have P19_W2 := Lib.hid (P18_W2.out.trans (E19.out.mono P18_W2.out.size))
  clear P18_W2
  have P19_W4 := Lib.hid (P18_W4.out.trans (E19.out.mono P18_W4.out.size))
  clear P18_W4
  have P19_W5 := Lib.hid (P18_W5.out.trans (E19.out.mono P18_W5.out.size))
  clear P18_W5
  have P19_W6 := Lib.hid (P18_W6.out.trans (E19.out.mono P18_W6.out.size))
  clear P18_W6
  have P19_W7 := Lib.hid (P18_W7.out.trans (E19.out.mono P18_W7.out.size))
  clear P18_W7
  have P19_W8 := Lib.hid (P18_W8.out.trans (E19.out.mono P18_W8.out.size))
  clear P18_W8
  have P19_W9 := Lib.hid (P18_W9.out.trans (E19.out.mono P18_W9.out.size))
  clear P18_W9
  have P19_W10 := Lib.hid (P18_W10.out.trans (E19.out.mono P18_W10.out.size))
  clear P18_W10
  have P19_W11 := Lib.hid (P18_W11.out.trans (E19.out.mono P18_W11.out.size))
  clear P18_W11
  have P19_W12 := Lib.hid (P18_W12.out.trans (E19.out.mono P18_W12.out.size))
  clear P18_W12
  have P19_W13 := Lib.hid (P18_W13.out.trans (E19.out.mono P18_W13.out.size))
  clear P18_W13
  have P19_W14 := Lib.hid (P18_W14.out.trans (E19.out.mono P18_W14.out.size))
  clear P18_W14
  have P19_W15 := Lib.hid (P18_W15.out.trans (E19.out.mono P18_W15.out.size))
  clear P18_W15
  have P19_W16 := Lib.hid (P18_W16.out.trans (E19.out.mono P18_W16.out.size))
  clear P18_W16
  have P19_W17 := Lib.hid (E18.out.trans (E19.out.mono E18.out.size))
  rw [HSAME.out]
  have wn : IntKind.i64.wrap ((n3 : Int) + (n4 : Int)) = (n5 : Int) := by
    have h1 := LN3.out
    have h2 := LN4.out
    have h3 := HLEN.out
    rw [IntKind.wrap_i64]
    omega
  have wm : wrap64 ((n3 : Int) + (n4 : Int)) = (n5 : Int) := by
    have h1 := LN3.out
    have h2 := LN4.out
    have h3 := HLEN.out
    unfold wrap64
    omega
  have hnn : ((n5 : Int) == (n5 : Int)) = true := by simp
  go_wp2
  go_ret
  exact ⟨rfl, P19_w.out⟩
end Go.Proofs.Ytjcombbmngpkpaa
