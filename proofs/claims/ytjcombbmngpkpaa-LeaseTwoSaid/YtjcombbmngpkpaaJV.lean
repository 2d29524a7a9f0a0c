/-
  The statements on books: LeaseTwo.
-/
import Derived.Test.YtjcombbmngpkpaaJU
namespace Go.Proofs.Ytjcombbmngpkpaa
open Go.RowKit

set_option maxRecDepth 1000000 in
set_option maxHeartbeats 16000000 in
theorem twoB_all (t : Int) (v : Value) (l : List Se) (i k x y : Int) (w : World) (hr : RdE SeK w.heap.size w v l) (hl : l.length ≤ 5864062014805) (hi : fitI i) (hk : fitI k) : Calls Try.prog 7 #[.agg #[.int .i64 t, v], .agg #[.int .i64 i, .int .i64 k, .int .i64 x, .int .i64 y]] w (One (.bool true) w) := by
  obtain ⟨A, cp, rfl, hc, hm⟩ := hr.shape
  unfold maxLen at hm
  have HR := Lib.hid hr
  have HLL := Lib.hid hl
  have HI := Lib.hid hi
  have HK := Lib.hid hk
  obtain ⟨n, hn⟩ : ∃ n, l.length = n := ⟨_, rfl⟩
  have HN := Lib.hid hn
  rw [hn] at HR hc ⊢
  clear hr hl hi hk hn
  go_enter Try.func7, Try.ntmps7
  go_wp2_with (refine wpList_box_blk rfl 24 _ rfl [.int .i64 t, .slice A n cp] rfl ?_)
  intro y0 b1 b2 b3
  obtain ⟨gb0, hg⟩ : ∃ g, w.heap.size = g := ⟨_, rfl⟩
  have X0 := Lib.hid b1
  have EB0 := Lib.hid b3
  rw [hg] at X0 ⊢
  have X0_w := Lib.hid (show w.heap.size ≤ gb0 from Nat.le_of_eq hg)
  clear b1 b2 b3 hg
  go_wp2_with (refine wpList_box_blk rfl 51 _ rfl [.int .i64 i, .int .i64 k, .int .i64 x, .int .i64 y] rfl ?_)
  intro y1 b1 b2 b3
  obtain ⟨gb1, hg⟩ : ∃ g, y0.heap.size = g := ⟨_, rfl⟩
  have X1 := Lib.hid b1
  have EB1 := Lib.hid b3
  rw [hg] at X1 ⊢
  have X1_w := Lib.hid (show w.heap.size ≤ gb1 from Nat.le_trans EB0.out.size (Nat.le_of_eq hg))
  have X1_y0 := Lib.hid (show y0.heap.size ≤ gb1 from Nat.le_of_eq hg)
  clear b1 b2 b3 hg
  have P0_w := Lib.hid (EB0.out.trans (EB1.out.mono EB0.out.size))
  have c_X1 := X1.out.cell 0
  have c_X1_1 := X1.out.at_ 1 _ rfl
  have c_X1_2 := X1.out.at_ 2 _ rfl
  have c_X1_3 := X1.out.at_ 3 _ rfl
  go_wp2
  refine wp_region_quiet_lit (by kernel_rfl) (by kernel_rfl) ?_
  repeat (first | go_big_quiet_step (fail) | quiet_step (fail))
  refine wpQuiet_nil ?_
  intro _ hw'
  obtain ⟨nq, hw''⟩ := hw'
  subst hw''
  obtain ⟨W1, hW⟩ : ∃ W, y1.drewN nq = W := ⟨_, rfl⟩
  have E1 : Hid (Below y1.heap.size y1 W1) := by
    show Below _ _ _
    rw [← hW]
    exact Below.drewN' (Below.refl _ _)
  rw [hW]
  clear hW c_X1 c_X1_1 c_X1_2 c_X1_3
  have P1_w := Lib.hid (P0_w.out.trans (E1.out.mono P0_w.out.size))
  clear P0_w
  have P1_y0 := Lib.hid (EB1.out.trans (E1.out.mono EB1.out.size))
  have c_X0 := (X0.out.below P1_y0.out X0.out.lt).cell 0
  have c_X0_1 := (X0.out.below P1_y0.out X0.out.lt).at_ 1 _ rfl
  go_wp2_with fail
  refine (plainB_any t l (.slice A n cp) W1 ((HR.out.below P1_w.out).more P1_w.out.size) HLL.out).mono ?_
  rintro e W2 ⟨vp, rfl, hrd, hb⟩
  have E2 := Lib.hid hb
  clear hb c_X0 c_X0_1
  have P2_w := Lib.hid (P1_w.out.trans (E2.out.mono P1_w.out.size))
  clear P1_w
  have P2_y0 := Lib.hid (P1_y0.out.trans (E2.out.mono P1_y0.out.size))
  clear P1_y0
  have P2_y1 := Lib.hid (E1.out.trans (E2.out.mono E1.out.size))
  have RP := Lib.hid hrd
  clear hrd
  go_wp2_with fail
  refine (rfRightB_any t l vp W2 RP.out).mono ?_
  rintro e W3 ⟨rfl, hb⟩
  have E3 := Lib.hid hb
  clear hb
  have P3_w := Lib.hid (P2_w.out.trans (E3.out.mono P2_w.out.size))
  clear P2_w
  have P3_y0 := Lib.hid (P2_y0.out.trans (E3.out.mono P2_y0.out.size))
  clear P2_y0
  have P3_y1 := Lib.hid (P2_y1.out.trans (E3.out.mono P2_y1.out.size))
  clear P2_y1
  have P3_W1 := Lib.hid (E2.out.trans (E3.out.mono E2.out.size))
  cases hG : rightS t l
  · clear hG
    go_wp2_with fail
    refine (alive10 W3).mono ?_
    rintro e W4 ⟨rfl, hb⟩
    have E4 := Lib.hid hb
    clear hb
    have P4_w := Lib.hid (P3_w.out.trans (E4.out.mono P3_w.out.size))
    clear P3_w
    have P4_y0 := Lib.hid (P3_y0.out.trans (E4.out.mono P3_y0.out.size))
    clear P3_y0
    have P4_y1 := Lib.hid (P3_y1.out.trans (E4.out.mono P3_y1.out.size))
    clear P3_y1
    have P4_W1 := Lib.hid (P3_W1.out.trans (E4.out.mono P3_W1.out.size))
    clear P3_W1
    have P4_W2 := Lib.hid (E3.out.trans (E4.out.mono E3.out.size))
    go_wp2
    go_ret
    exact ⟨rfl, P4_w.out⟩
  have HRT := Lib.hid ((rightS_iff t l).1 hG)
  clear hG
  have c_X0 := (X0.out.below P3_y0.out X0.out.lt).cell 0
  have c_X0_1 := (X0.out.below P3_y0.out X0.out.lt).at_ 1 _ rfl
  by_cases h1 : i = k
  · have hz : (i == k) = true := int_eq i k h1
    clear h1
    go_wp2_with fail
    refine (alive10 W3).mono ?_
    rintro e W4 ⟨rfl, hb⟩
    have E4 := Lib.hid hb
    clear hb c_X0 c_X0_1
    have P4_w := Lib.hid (P3_w.out.trans (E4.out.mono P3_w.out.size))
    clear P3_w
    have P4_y0 := Lib.hid (P3_y0.out.trans (E4.out.mono P3_y0.out.size))
    clear P3_y0
    have P4_y1 := Lib.hid (P3_y1.out.trans (E4.out.mono P3_y1.out.size))
    clear P3_y1
    have P4_W1 := Lib.hid (P3_W1.out.trans (E4.out.mono P3_W1.out.size))
    clear P3_W1
    have P4_W2 := Lib.hid (E3.out.trans (E4.out.mono E3.out.size))
    go_wp2
    go_ret
    exact ⟨rfl, P4_w.out⟩
  have hz : (i == k) = false := int_ne i k h1
  have HIK := Lib.hid h1
  clear h1
  by_cases h2 : 48 < (n : Int)
  · go_wp2_with fail
    refine (alive10 W3).mono ?_
    rintro e W4 ⟨rfl, hb⟩
    have E4 := Lib.hid hb
    clear hb c_X0 c_X0_1
    have P4_w := Lib.hid (P3_w.out.trans (E4.out.mono P3_w.out.size))
    clear P3_w
    have P4_y0 := Lib.hid (P3_y0.out.trans (E4.out.mono P3_y0.out.size))
    clear P3_y0
    have P4_y1 := Lib.hid (P3_y1.out.trans (E4.out.mono P3_y1.out.size))
    clear P3_y1
    have P4_W1 := Lib.hid (P3_W1.out.trans (E4.out.mono P3_W1.out.size))
    clear P3_W1
    have P4_W2 := Lib.hid (E3.out.trans (E4.out.mono E3.out.size))
    go_wp2
    go_ret
    exact ⟨rfl, P4_w.out⟩
  have HL : Hid (l.length ≤ 48) := by
    show _ ≤ _
    rw [HN.out]
    omega
  clear c_X0 c_X0_1
  have c_X0 := (X0.out.below P3_y0.out X0.out.lt).cell 0
  have c_X0_1 := (X0.out.below P3_y0.out X0.out.lt).at_ 1 _ rfl
  go_wp2_with fail
  refine (bkOpen_any t l i x (.slice A n cp) W3 ((HR.out.below P3_w.out).more P3_w.out.size) HRT.out HI.out).mono ?_
  rintro e va4 ⟨v1, rfl, hrd, hb⟩
  clear c_X0 c_X0_1
  have ONE1 := Lib.hid (book_rd t hrd)
  obtain ⟨L1, hl⟩ : ∃ q, openS t l i x = q := ⟨_, rfl⟩
  have HL1 := Lib.hid hl
  have RL1 := Lib.hid (right_open t l i x HRT.out)
  rw [hl] at hrd RL1
  have LL1 : Hid (L1.length ≤ 50) := RL1.out.few
  obtain ⟨f1, hf⟩ : ∃ q, openE l i x = q := ⟨_, rfl⟩
  have HFf1 := Lib.hid hf
  rw [hf]
  clear hl hf
  go_wp2_with (refine wpList_alloc_blk rfl 24 rfl [.int .i64 0, .slice none 0 0] zBL ?_)
  intro vb4 a1 a2 a3
  obtain ⟨vg4, hg⟩ : ∃ g, va4.heap.size = g := ⟨_, rfl⟩
  have AA := Lib.hid a1
  have EB := Lib.hid (hb.trans (a3.mono hb.size))
  have A3 := Lib.hid a3
  have hbg : W3.heap.size ≤ vg4 := by have := hb.size; omega
  have hgs : vg4 ≤ vb4.heap.size := by omega
  have HG := Lib.hid hg
  have XA_w := Lib.hid (show w.heap.size ≤ vg4 from Nat.le_trans P3_w.out.size hbg)
  have XA_y0 := Lib.hid (show y0.heap.size ≤ vg4 from Nat.le_trans P3_y0.out.size hbg)
  have XA_y1 := Lib.hid (show y1.heap.size ≤ vg4 from Nat.le_trans P3_y1.out.size hbg)
  have XA_W1 := Lib.hid (show W1.heap.size ≤ vg4 from Nat.le_trans P3_W1.out.size hbg)
  have XA_W2 := Lib.hid (show W2.heap.size ≤ vg4 from Nat.le_trans E3.out.size hbg)
  have XA_W3 := Lib.hid (show W3.heap.size ≤ vg4 from hbg)
  have RR0 := Lib.hid hrd
  rw [hg] at AA A3 RR0 ⊢
  clear a1 a2 a3 hb hg hrd
  go_wp2_with (refine wpList_store_to rfl 24 _ _ rfl vg4 [.int .i64 t, v1] [.int .i64 0, .slice none 0 0] 24 rfl rfl AA.out sBL rfl ONE1.out ?_)
  intro W4 e1 e2 e3 e4
  have XA := Lib.hid e1
  have E4 := Lib.hid (EB.out.trans (e3.mono hbg))
  have R1 := Lib.hid (((RR0.out.below A3.out).below e3).more (show vg4 ≤ W4.heap.size by omega))
  clear e1 e2 e3 e4 AA EB A3 hbg hgs HG RR0
  have P4_w := Lib.hid (P3_w.out.trans (E4.out.mono P3_w.out.size))
  clear P3_w
  have P4_y0 := Lib.hid (P3_y0.out.trans (E4.out.mono P3_y0.out.size))
  clear P3_y0
  have P4_y1 := Lib.hid (P3_y1.out.trans (E4.out.mono P3_y1.out.size))
  clear P3_y1
  have P4_W1 := Lib.hid (P3_W1.out.trans (E4.out.mono P3_W1.out.size))
  clear P3_W1
  have P4_W2 := Lib.hid (E3.out.trans (E4.out.mono E3.out.size))
  have c_XA := XA.out.cell 0
  have c_XA_1 := XA.out.at_ 1 _ rfl
  have XO5 := Lib.hid XA.out
  go_wp2_with fail
  refine (bkOpen_any t L1 k y v1 W4 R1.out RL1.out HK.out).mono ?_
  rintro e va5 ⟨v2, rfl, hrd, hb⟩
  clear c_XA c_XA_1
  have ONE2 := Lib.hid (book_rd t hrd)
  obtain ⟨L2, hl⟩ : ∃ q, openS t L1 k y = q := ⟨_, rfl⟩
  have HL2 := Lib.hid hl
  have RL2 := Lib.hid (right_open t L1 k y RL1.out)
  rw [hl] at hrd RL2
  have LL2 : Hid (L2.length ≤ 50) := RL2.out.few
  obtain ⟨f2, hf⟩ : ∃ q, openE L1 k y = q := ⟨_, rfl⟩
  have HFf2 := Lib.hid hf
  rw [hf]
  clear hl hf
  have AA := Lib.hid (XO5.out.below hb XO5.out.lt)
  have EB := Lib.hid hb
  have RR := Lib.hid hrd
  clear hb hrd XO5
  go_wp2_with (refine wpList_store_to rfl 24 _ _ rfl vg4 [.int .i64 t, v2] [.int .i64 t, v1] 24 rfl rfl AA.out sBL rfl ONE2.out ?_)
  intro W5 e1 e2 e3 e4
  have XAr5 := Lib.hid e1
  have Q5_w := Lib.hid ((P4_w.out.trans (EB.out.mono P4_w.out.size)).trans (e3.mono XA_w.out))
  have Q5_y0 := Lib.hid ((P4_y0.out.trans (EB.out.mono P4_y0.out.size)).trans (e3.mono XA_y0.out))
  have Q5_y1 := Lib.hid ((P4_y1.out.trans (EB.out.mono P4_y1.out.size)).trans (e3.mono XA_y1.out))
  have Q5_W1 := Lib.hid ((P4_W1.out.trans (EB.out.mono P4_W1.out.size)).trans (e3.mono XA_W1.out))
  have Q5_W2 := Lib.hid ((P4_W2.out.trans (EB.out.mono P4_W2.out.size)).trans (e3.mono XA_W2.out))
  have Q5_W3 := Lib.hid ((E4.out.trans (EB.out.mono E4.out.size)).trans (e3.mono XA_W3.out))
  have R2 := Lib.hid ((RR.out.but AA.out (fun off h => absurd h (by show ¬ off + 3 ≤ 2; omega)) e4).more (show va5.heap.size ≤ W5.heap.size by omega))
  clear e1 e2 e3 e4 AA EB RR
  have c_X0 := (X0.out.below Q5_y0.out X0.out.lt).cell 0
  have c_X0_1 := (X0.out.below Q5_y0.out X0.out.lt).at_ 1 _ rfl
  go_wp2_with fail
  refine (bkOpen_any t l k y (.slice A n cp) W5 ((HR.out.below Q5_w.out).more Q5_w.out.size) HRT.out HK.out).mono ?_
  rintro e va6 ⟨v3, rfl, hrd, hb⟩
  clear c_X0 c_X0_1
  have ONE3 := Lib.hid (book_rd t hrd)
  obtain ⟨L3, hl⟩ : ∃ q, openS t l k y = q := ⟨_, rfl⟩
  have HL3 := Lib.hid hl
  have RL3 := Lib.hid (right_open t l k y HRT.out)
  rw [hl] at hrd RL3
  have LL3 : Hid (L3.length ≤ 50) := RL3.out.few
  obtain ⟨f3, hf⟩ : ∃ q, openE l k y = q := ⟨_, rfl⟩
  have HFf3 := Lib.hid hf
  rw [hf]
  clear hl hf
  go_wp2_with (refine wpList_alloc_blk rfl 24 rfl [.int .i64 0, .slice none 0 0] zBL ?_)
  intro vb6 a1 a2 a3
  obtain ⟨vg6, hg⟩ : ∃ g, va6.heap.size = g := ⟨_, rfl⟩
  have AA := Lib.hid a1
  have EB := Lib.hid (hb.trans (a3.mono hb.size))
  have A3 := Lib.hid a3
  have hbg : W5.heap.size ≤ vg6 := by have := hb.size; omega
  have hgs : vg6 ≤ vb6.heap.size := by omega
  have HG := Lib.hid hg
  have XC_w := Lib.hid (show w.heap.size ≤ vg6 from Nat.le_trans Q5_w.out.size hbg)
  have XC_y0 := Lib.hid (show y0.heap.size ≤ vg6 from Nat.le_trans Q5_y0.out.size hbg)
  have XC_y1 := Lib.hid (show y1.heap.size ≤ vg6 from Nat.le_trans Q5_y1.out.size hbg)
  have XC_W1 := Lib.hid (show W1.heap.size ≤ vg6 from Nat.le_trans Q5_W1.out.size hbg)
  have XC_W2 := Lib.hid (show W2.heap.size ≤ vg6 from Nat.le_trans Q5_W2.out.size hbg)
  have XC_W3 := Lib.hid (show W3.heap.size ≤ vg6 from Nat.le_trans Q5_W3.out.size hbg)
  have XC_W5 := Lib.hid (show W5.heap.size ≤ vg6 from hbg)
  have RR0 := Lib.hid hrd
  rw [hg] at AA A3 RR0 ⊢
  clear a1 a2 a3 hb hg hrd
  go_wp2_with (refine wpList_store_to rfl 24 _ _ rfl vg6 [.int .i64 t, v3] [.int .i64 0, .slice none 0 0] 24 rfl rfl AA.out sBL rfl ONE3.out ?_)
  intro W6 e1 e2 e3 e4
  have XC := Lib.hid e1
  have E6 := Lib.hid (EB.out.trans (e3.mono hbg))
  have R3 := Lib.hid (((RR0.out.below A3.out).below e3).more (show vg6 ≤ W6.heap.size by omega))
  clear e1 e2 e3 e4 AA EB A3 hbg hgs HG RR0
  have P6_w := Lib.hid (Q5_w.out.trans (E6.out.mono Q5_w.out.size))
  have P6_y0 := Lib.hid (Q5_y0.out.trans (E6.out.mono Q5_y0.out.size))
  have P6_y1 := Lib.hid (Q5_y1.out.trans (E6.out.mono Q5_y1.out.size))
  have P6_W1 := Lib.hid (Q5_W1.out.trans (E6.out.mono Q5_W1.out.size))
  have P6_W2 := Lib.hid (Q5_W2.out.trans (E6.out.mono Q5_W2.out.size))
  have P6_W3 := Lib.hid (Q5_W3.out.trans (E6.out.mono Q5_W3.out.size))
  have c_XC := XC.out.cell 0
  have c_XC_1 := XC.out.at_ 1 _ rfl
  have XO7 := Lib.hid XC.out
  go_wp2_with fail
  refine (bkOpen_any t L3 i x v3 W6 R3.out RL3.out HI.out).mono ?_
  rintro e va7 ⟨v4, rfl, hrd, hb⟩
  clear c_XC c_XC_1
  have ONE4 := Lib.hid (book_rd t hrd)
  obtain ⟨L4, hl⟩ : ∃ q, openS t L3 i x = q := ⟨_, rfl⟩
  have HL4 := Lib.hid hl
  have RL4 := Lib.hid (right_open t L3 i x RL3.out)
  rw [hl] at hrd RL4
  have LL4 : Hid (L4.length ≤ 50) := RL4.out.few
  obtain ⟨f4, hf⟩ : ∃ q, openE L3 i x = q := ⟨_, rfl⟩
  have HFf4 := Lib.hid hf
  rw [hf]
  clear hl hf
  have AA := Lib.hid (XO7.out.below hb XO7.out.lt)
  have EB := Lib.hid hb
  have RR := Lib.hid hrd
  clear hb hrd XO7
  go_wp2_with (refine wpList_store_to rfl 24 _ _ rfl vg6 [.int .i64 t, v4] [.int .i64 t, v3] 24 rfl rfl AA.out sBL rfl ONE4.out ?_)
  intro W7 e1 e2 e3 e4
  have XCr7 := Lib.hid e1
  have Q7_w := Lib.hid ((P6_w.out.trans (EB.out.mono P6_w.out.size)).trans (e3.mono XC_w.out))
  have Q7_y0 := Lib.hid ((P6_y0.out.trans (EB.out.mono P6_y0.out.size)).trans (e3.mono XC_y0.out))
  have Q7_y1 := Lib.hid ((P6_y1.out.trans (EB.out.mono P6_y1.out.size)).trans (e3.mono XC_y1.out))
  have Q7_W1 := Lib.hid ((P6_W1.out.trans (EB.out.mono P6_W1.out.size)).trans (e3.mono XC_W1.out))
  have Q7_W2 := Lib.hid ((P6_W2.out.trans (EB.out.mono P6_W2.out.size)).trans (e3.mono XC_W2.out))
  have Q7_W3 := Lib.hid ((P6_W3.out.trans (EB.out.mono P6_W3.out.size)).trans (e3.mono XC_W3.out))
  have Q7_W5 := Lib.hid ((E6.out.trans (EB.out.mono E6.out.size)).trans (e3.mono XC_W5.out))
  have R4 := Lib.hid ((RR.out.but AA.out (fun off h => absurd h (by show ¬ off + 3 ≤ 2; omega)) e4).more (show va7.heap.size ≤ W7.heap.size by omega))
  clear e1 e2 e3 e4 AA EB RR
  have QF14 : Hid (f4 = f1) := by
    show _ = _
    rw [← HFf4.out, ← HFf1.out, ← HL3.out]
    exact open_other t l i k x y HIK.out HL.out
  have QF23 : Hid (f2 = f3) := by
    show _ = _
    rw [← HFf2.out, ← HFf3.out, ← HL1.out]
    exact open_other t l k i y x (fun e => HIK.out e.symm) HL.out
  have QFL : Hid (L2 = L4) := by
    show _ = _
    rw [← HL2.out, ← HL4.out, ← HL1.out, ← HL3.out]
    exact open_two t l i k x y HRT.out HIK.out HL.out
  rw [QF14.out, QF23.out]
  have hn1 : ((f1 : Int) != (f1 : Int)) = false := by simp
  have hn3 : ((f3 : Int) != (f3 : Int)) = false := by simp
  have c_XAr5 := (XAr5.out.below Q7_W5.out XAr5.out.lt).cell 0
  have c_XAr5_1 := (XAr5.out.below Q7_W5.out XAr5.out.lt).at_ 1 _ rfl
  have c_XCr7 := XCr7.out.cell 0
  have c_XCr7_1 := XCr7.out.at_ 1 _ rfl
  go_wp2_with fail
  refine (bkSame_any t t L2 L4 v2 v4 W7 ((R2.out.below Q7_W5.out).more Q7_W5.out.size) R4.out (by have := LL2.out; omega) (by have := LL4.out; omega)).mono ?_
  rintro e W8 ⟨rfl, hb⟩
  have E8 := Lib.hid hb
  clear hb c_XAr5 c_XAr5_1 c_XCr7 c_XCr7_1
  have P8_w := Lib.hid (Q7_w.out.trans (E8.out.mono Q7_w.out.size))
  have P8_y0 := Lib.hid (Q7_y0.out.trans (E8.out.mono Q7_y0.out.size))
  have P8_y1 := Lib.hid (Q7_y1.out.trans (E8.out.mono Q7_y1.out.size))
  have P8_W1 := Lib.hid (Q7_W1.out.trans (E8.out.mono Q7_W1.out.size))
  have P8_W2 := Lib.hid (Q7_W2.out.trans (E8.out.mono Q7_W2.out.size))
  have P8_W3 := Lib.hid (Q7_W3.out.trans (E8.out.mono Q7_W3.out.size))
  have P8_W5 := Lib.hid (Q7_W5.out.trans (E8.out.mono Q7_W5.out.size))
  rw [QFL.out, sameB_self]
  clear hn1 hn3
  have c_XAr5 := (XAr5.out.below P8_W5.out XAr5.out.lt).cell 0
  have c_XAr5_1 := (XAr5.out.below P8_W5.out XAr5.out.lt).at_ 1 _ rfl
  go_wp2_with fail
  refine (bkTouch_any t L2 i v2 W8 ((R2.out.below P8_W5.out).more P8_W5.out.size) RL2.out).mono ?_
  rintro e va9 ⟨v5, rfl, hrd, hb⟩
  clear c_XAr5 c_XAr5_1
  have ONE5 := Lib.hid (book_rd t hrd)
  obtain ⟨L5, hl⟩ : ∃ q, touchS t L2 i = q := ⟨_, rfl⟩
  have HL5 := Lib.hid hl
  have RL5 := Lib.hid (right_touch t L2 i RL2.out)
  rw [hl] at hrd RL5
  have LL5 : Hid (L5.length ≤ 50) := RL5.out.few
  obtain ⟨f5, hf⟩ : ∃ q, leaseE L2 i = q := ⟨_, rfl⟩
  have HFf5 := Lib.hid hf
  rw [hf]
  clear hl hf
  go_wp2_with (refine wpList_alloc_blk rfl 24 rfl [.int .i64 0, .slice none 0 0] zBL ?_)
  intro vb9 a1 a2 a3
  obtain ⟨vg9, hg⟩ : ∃ g, va9.heap.size = g := ⟨_, rfl⟩
  have AA := Lib.hid a1
  have EB := Lib.hid (hb.trans (a3.mono hb.size))
  have A3 := Lib.hid a3
  have hbg : W8.heap.size ≤ vg9 := by have := hb.size; omega
  have hgs : vg9 ≤ vb9.heap.size := by omega
  have HG := Lib.hid hg
  have XD_w := Lib.hid (show w.heap.size ≤ vg9 from Nat.le_trans P8_w.out.size hbg)
  have XD_y0 := Lib.hid (show y0.heap.size ≤ vg9 from Nat.le_trans P8_y0.out.size hbg)
  have XD_y1 := Lib.hid (show y1.heap.size ≤ vg9 from Nat.le_trans P8_y1.out.size hbg)
  have XD_W1 := Lib.hid (show W1.heap.size ≤ vg9 from Nat.le_trans P8_W1.out.size hbg)
  have XD_W2 := Lib.hid (show W2.heap.size ≤ vg9 from Nat.le_trans P8_W2.out.size hbg)
  have XD_W3 := Lib.hid (show W3.heap.size ≤ vg9 from Nat.le_trans P8_W3.out.size hbg)
  have XD_W5 := Lib.hid (show W5.heap.size ≤ vg9 from Nat.le_trans P8_W5.out.size hbg)
  have XD_W7 := Lib.hid (show W7.heap.size ≤ vg9 from Nat.le_trans E8.out.size hbg)
  have XD_W8 := Lib.hid (show W8.heap.size ≤ vg9 from hbg)
  have RR0 := Lib.hid hrd
  rw [hg] at AA A3 RR0 ⊢
  clear a1 a2 a3 hb hg hrd
  go_wp2_with (refine wpList_store_to rfl 24 _ _ rfl vg9 [.int .i64 t, v5] [.int .i64 0, .slice none 0 0] 24 rfl rfl AA.out sBL rfl ONE5.out ?_)
  intro W9 e1 e2 e3 e4
  have XD := Lib.hid e1
  have E9 := Lib.hid (EB.out.trans (e3.mono hbg))
  have R5 := Lib.hid (((RR0.out.below A3.out).below e3).more (show vg9 ≤ W9.heap.size by omega))
  clear e1 e2 e3 e4 AA EB A3 hbg hgs HG RR0
  have P9_w := Lib.hid (P8_w.out.trans (E9.out.mono P8_w.out.size))
  clear P8_w
  have P9_y0 := Lib.hid (P8_y0.out.trans (E9.out.mono P8_y0.out.size))
  clear P8_y0
  have P9_y1 := Lib.hid (P8_y1.out.trans (E9.out.mono P8_y1.out.size))
  clear P8_y1
  have P9_W1 := Lib.hid (P8_W1.out.trans (E9.out.mono P8_W1.out.size))
  clear P8_W1
  have P9_W2 := Lib.hid (P8_W2.out.trans (E9.out.mono P8_W2.out.size))
  clear P8_W2
  have P9_W3 := Lib.hid (P8_W3.out.trans (E9.out.mono P8_W3.out.size))
  clear P8_W3
  have P9_W5 := Lib.hid (P8_W5.out.trans (E9.out.mono P8_W5.out.size))
  clear P8_W5
  have P9_W7 := Lib.hid (E8.out.trans (E9.out.mono E8.out.size))
  have c_XD := XD.out.cell 0
  have c_XD_1 := XD.out.at_ 1 _ rfl
  have XO10 := Lib.hid XD.out
  go_wp2_with fail
  refine (bkClose_any t L5 k v5 W9 R5.out RL5.out).mono ?_
  rintro e va10 ⟨v6, rfl, hrd, hb⟩
  clear c_XD c_XD_1
  have ONE6 := Lib.hid (book_rd t hrd)
  obtain ⟨L6, hl⟩ : ∃ q, closeS L5 k = q := ⟨_, rfl⟩
  have HL6 := Lib.hid hl
  have RL6 := Lib.hid (right_close t L5 k RL5.out)
  rw [hl] at hrd RL6
  have LL6 : Hid (L6.length ≤ 50) := RL6.out.few
  obtain ⟨f6, hf⟩ : ∃ q, leaseE L5 k = q := ⟨_, rfl⟩
  have HFf6 := Lib.hid hf
  rw [hf]
  clear hl hf
  have AA := Lib.hid (XO10.out.below hb XO10.out.lt)
  have EB := Lib.hid hb
  have RR := Lib.hid hrd
  clear hb hrd XO10
  go_wp2_with (refine wpList_store_to rfl 24 _ _ rfl vg9 [.int .i64 t, v6] [.int .i64 t, v5] 24 rfl rfl AA.out sBL rfl ONE6.out ?_)
  intro W10 e1 e2 e3 e4
  have XDr10 := Lib.hid e1
  have Q10_w := Lib.hid ((P9_w.out.trans (EB.out.mono P9_w.out.size)).trans (e3.mono XD_w.out))
  have Q10_y0 := Lib.hid ((P9_y0.out.trans (EB.out.mono P9_y0.out.size)).trans (e3.mono XD_y0.out))
  have Q10_y1 := Lib.hid ((P9_y1.out.trans (EB.out.mono P9_y1.out.size)).trans (e3.mono XD_y1.out))
  have Q10_W1 := Lib.hid ((P9_W1.out.trans (EB.out.mono P9_W1.out.size)).trans (e3.mono XD_W1.out))
  have Q10_W2 := Lib.hid ((P9_W2.out.trans (EB.out.mono P9_W2.out.size)).trans (e3.mono XD_W2.out))
  have Q10_W3 := Lib.hid ((P9_W3.out.trans (EB.out.mono P9_W3.out.size)).trans (e3.mono XD_W3.out))
  have Q10_W5 := Lib.hid ((P9_W5.out.trans (EB.out.mono P9_W5.out.size)).trans (e3.mono XD_W5.out))
  have Q10_W7 := Lib.hid ((P9_W7.out.trans (EB.out.mono P9_W7.out.size)).trans (e3.mono XD_W7.out))
  have Q10_W8 := Lib.hid ((E9.out.trans (EB.out.mono E9.out.size)).trans (e3.mono XD_W8.out))
  have R6 := Lib.hid ((RR.out.but AA.out (fun off h => absurd h (by show ¬ off + 3 ≤ 2; omega)) e4).more (show va10.heap.size ≤ W10.heap.size by omega))
  clear e1 e2 e3 e4 AA EB RR
  have c_XAr5 := (XAr5.out.below Q10_W5.out XAr5.out.lt).cell 0
  have c_XAr5_1 := (XAr5.out.below Q10_W5.out XAr5.out.lt).at_ 1 _ rfl
  go_wp2_with fail
  refine (bkClose_any t L2 k v2 W10 ((R2.out.below Q10_W5.out).more Q10_W5.out.size) RL2.out).mono ?_
  rintro e va11 ⟨v7, rfl, hrd, hb⟩
  clear c_XAr5 c_XAr5_1
  have ONE7 := Lib.hid (book_rd t hrd)
  obtain ⟨L7, hl⟩ : ∃ q, closeS L2 k = q := ⟨_, rfl⟩
  have HL7 := Lib.hid hl
  have RL7 := Lib.hid (right_close t L2 k RL2.out)
  rw [hl] at hrd RL7
  have LL7 : Hid (L7.length ≤ 50) := RL7.out.few
  obtain ⟨f7, hf⟩ : ∃ q, leaseE L2 k = q := ⟨_, rfl⟩
  have HFf7 := Lib.hid hf
  rw [hf]
  clear hl hf
  go_wp2_with (refine wpList_alloc_blk rfl 24 rfl [.int .i64 0, .slice none 0 0] zBL ?_)
  intro vb11 a1 a2 a3
  obtain ⟨vg11, hg⟩ : ∃ g, va11.heap.size = g := ⟨_, rfl⟩
  have AA := Lib.hid a1
  have EB := Lib.hid (hb.trans (a3.mono hb.size))
  have A3 := Lib.hid a3
  have hbg : W10.heap.size ≤ vg11 := by have := hb.size; omega
  have hgs : vg11 ≤ vb11.heap.size := by omega
  have HG := Lib.hid hg
  have XU_w := Lib.hid (show w.heap.size ≤ vg11 from Nat.le_trans Q10_w.out.size hbg)
  have XU_y0 := Lib.hid (show y0.heap.size ≤ vg11 from Nat.le_trans Q10_y0.out.size hbg)
  have XU_y1 := Lib.hid (show y1.heap.size ≤ vg11 from Nat.le_trans Q10_y1.out.size hbg)
  have XU_W1 := Lib.hid (show W1.heap.size ≤ vg11 from Nat.le_trans Q10_W1.out.size hbg)
  have XU_W2 := Lib.hid (show W2.heap.size ≤ vg11 from Nat.le_trans Q10_W2.out.size hbg)
  have XU_W3 := Lib.hid (show W3.heap.size ≤ vg11 from Nat.le_trans Q10_W3.out.size hbg)
  have XU_W5 := Lib.hid (show W5.heap.size ≤ vg11 from Nat.le_trans Q10_W5.out.size hbg)
  have XU_W7 := Lib.hid (show W7.heap.size ≤ vg11 from Nat.le_trans Q10_W7.out.size hbg)
  have XU_W8 := Lib.hid (show W8.heap.size ≤ vg11 from Nat.le_trans Q10_W8.out.size hbg)
  have XU_W10 := Lib.hid (show W10.heap.size ≤ vg11 from hbg)
  have RR0 := Lib.hid hrd
  rw [hg] at AA A3 RR0 ⊢
  clear a1 a2 a3 hb hg hrd
  go_wp2_with (refine wpList_store_to rfl 24 _ _ rfl vg11 [.int .i64 t, v7] [.int .i64 0, .slice none 0 0] 24 rfl rfl AA.out sBL rfl ONE7.out ?_)
  intro W11 e1 e2 e3 e4
  have XU := Lib.hid e1
  have E11 := Lib.hid (EB.out.trans (e3.mono hbg))
  have R7 := Lib.hid (((RR0.out.below A3.out).below e3).more (show vg11 ≤ W11.heap.size by omega))
  clear e1 e2 e3 e4 AA EB A3 hbg hgs HG RR0
  have P11_w := Lib.hid (Q10_w.out.trans (E11.out.mono Q10_w.out.size))
  have P11_y0 := Lib.hid (Q10_y0.out.trans (E11.out.mono Q10_y0.out.size))
  have P11_y1 := Lib.hid (Q10_y1.out.trans (E11.out.mono Q10_y1.out.size))
  have P11_W1 := Lib.hid (Q10_W1.out.trans (E11.out.mono Q10_W1.out.size))
  have P11_W2 := Lib.hid (Q10_W2.out.trans (E11.out.mono Q10_W2.out.size))
  have P11_W3 := Lib.hid (Q10_W3.out.trans (E11.out.mono Q10_W3.out.size))
  have P11_W5 := Lib.hid (Q10_W5.out.trans (E11.out.mono Q10_W5.out.size))
  have P11_W7 := Lib.hid (Q10_W7.out.trans (E11.out.mono Q10_W7.out.size))
  have P11_W8 := Lib.hid (Q10_W8.out.trans (E11.out.mono Q10_W8.out.size))
  have c_XU := XU.out.cell 0
  have c_XU_1 := XU.out.at_ 1 _ rfl
  have XO12 := Lib.hid XU.out
  go_wp2_with fail
  refine (bkTouch_any t L7 i v7 W11 R7.out RL7.out).mono ?_
  rintro e va12 ⟨v8, rfl, hrd, hb⟩
  clear c_XU c_XU_1
  have ONE8 := Lib.hid (book_rd t hrd)
  obtain ⟨L8, hl⟩ : ∃ q, touchS t L7 i = q := ⟨_, rfl⟩
  have HL8 := Lib.hid hl
  have RL8 := Lib.hid (right_touch t L7 i RL7.out)
  rw [hl] at hrd RL8
  have LL8 : Hid (L8.length ≤ 50) := RL8.out.few
  obtain ⟨f8, hf⟩ : ∃ q, leaseE L7 i = q := ⟨_, rfl⟩
  have HFf8 := Lib.hid hf
  rw [hf]
  clear hl hf
  have AA := Lib.hid (XO12.out.below hb XO12.out.lt)
  have EB := Lib.hid hb
  have RR := Lib.hid hrd
  clear hb hrd XO12
  go_wp2_with (refine wpList_store_to rfl 24 _ _ rfl vg11 [.int .i64 t, v8] [.int .i64 t, v7] 24 rfl rfl AA.out sBL rfl ONE8.out ?_)
  intro W12 e1 e2 e3 e4
  have XUr12 := Lib.hid e1
  have Q12_w := Lib.hid ((P11_w.out.trans (EB.out.mono P11_w.out.size)).trans (e3.mono XU_w.out))
  have Q12_y0 := Lib.hid ((P11_y0.out.trans (EB.out.mono P11_y0.out.size)).trans (e3.mono XU_y0.out))
  have Q12_y1 := Lib.hid ((P11_y1.out.trans (EB.out.mono P11_y1.out.size)).trans (e3.mono XU_y1.out))
  have Q12_W1 := Lib.hid ((P11_W1.out.trans (EB.out.mono P11_W1.out.size)).trans (e3.mono XU_W1.out))
  have Q12_W2 := Lib.hid ((P11_W2.out.trans (EB.out.mono P11_W2.out.size)).trans (e3.mono XU_W2.out))
  have Q12_W3 := Lib.hid ((P11_W3.out.trans (EB.out.mono P11_W3.out.size)).trans (e3.mono XU_W3.out))
  have Q12_W5 := Lib.hid ((P11_W5.out.trans (EB.out.mono P11_W5.out.size)).trans (e3.mono XU_W5.out))
  have Q12_W7 := Lib.hid ((P11_W7.out.trans (EB.out.mono P11_W7.out.size)).trans (e3.mono XU_W7.out))
  have Q12_W8 := Lib.hid ((P11_W8.out.trans (EB.out.mono P11_W8.out.size)).trans (e3.mono XU_W8.out))
  have Q12_W10 := Lib.hid ((E11.out.trans (EB.out.mono E11.out.size)).trans (e3.mono XU_W10.out))
  have R8 := Lib.hid ((RR.out.but AA.out (fun off h => absurd h (by show ¬ off + 3 ≤ 2; omega)) e4).more (show va12.heap.size ≤ W12.heap.size by omega))
  clear e1 e2 e3 e4 AA EB RR
  have QFD : Hid (L6 = L8) := by
    show _ = _
    rw [← HL6.out, ← HL8.out, ← HL5.out, ← HL7.out]
    exact touch_close t L2 i k
  go_wp2_with fail
  refine (alive10 W12).mono ?_
  rintro e W13 ⟨rfl, hb⟩
  have E13 := Lib.hid hb
  clear hb
  have P13_w := Lib.hid (Q12_w.out.trans (E13.out.mono Q12_w.out.size))
  have P13_y0 := Lib.hid (Q12_y0.out.trans (E13.out.mono Q12_y0.out.size))
  have P13_y1 := Lib.hid (Q12_y1.out.trans (E13.out.mono Q12_y1.out.size))
  have P13_W1 := Lib.hid (Q12_W1.out.trans (E13.out.mono Q12_W1.out.size))
  have P13_W2 := Lib.hid (Q12_W2.out.trans (E13.out.mono Q12_W2.out.size))
  have P13_W3 := Lib.hid (Q12_W3.out.trans (E13.out.mono Q12_W3.out.size))
  have P13_W5 := Lib.hid (Q12_W5.out.trans (E13.out.mono Q12_W5.out.size))
  have P13_W7 := Lib.hid (Q12_W7.out.trans (E13.out.mono Q12_W7.out.size))
  have P13_W8 := Lib.hid (Q12_W8.out.trans (E13.out.mono Q12_W8.out.size))
  have P13_W10 := Lib.hid (Q12_W10.out.trans (E13.out.mono Q12_W10.out.size))
  have c_XDr10 := (XDr10.out.below P13_W10.out XDr10.out.lt).cell 0
  have c_XDr10_1 := (XDr10.out.below P13_W10.out XDr10.out.lt).at_ 1 _ rfl
  have c_XUr12 := (XUr12.out.below E13.out XUr12.out.lt).cell 0
  have c_XUr12_1 := (XUr12.out.below E13.out XUr12.out.lt).at_ 1 _ rfl
  go_wp2_with fail
  refine (bkSame_any t t L6 L8 v6 v8 W13 ((R6.out.below P13_W10.out).more P13_W10.out.size) ((R8.out.below E13.out).more E13.out.size) (by have := LL6.out; omega) (by have := LL8.out; omega)).mono ?_
  rintro e W14 ⟨rfl, hb⟩
  have E14 := Lib.hid hb
  clear hb c_XDr10 c_XDr10_1 c_XUr12 c_XUr12_1
  have P14_w := Lib.hid (P13_w.out.trans (E14.out.mono P13_w.out.size))
  clear P13_w
  have P14_y0 := Lib.hid (P13_y0.out.trans (E14.out.mono P13_y0.out.size))
  clear P13_y0
  have P14_y1 := Lib.hid (P13_y1.out.trans (E14.out.mono P13_y1.out.size))
  clear P13_y1
  have P14_W1 := Lib.hid (P13_W1.out.trans (E14.out.mono P13_W1.out.size))
  clear P13_W1
  have P14_W2 := Lib.hid (P13_W2.out.trans (E14.out.mono P13_W2.out.size))
  clear P13_W2
  have P14_W3 := Lib.hid (P13_W3.out.trans (E14.out.mono P13_W3.out.size))
  clear P13_W3
  have P14_W5 := Lib.hid (P13_W5.out.trans (E14.out.mono P13_W5.out.size))
  clear P13_W5
  have P14_W7 := Lib.hid (P13_W7.out.trans (E14.out.mono P13_W7.out.size))
  clear P13_W7
  have P14_W8 := Lib.hid (P13_W8.out.trans (E14.out.mono P13_W8.out.size))
  clear P13_W8
  have P14_W10 := Lib.hid (P13_W10.out.trans (E14.out.mono P13_W10.out.size))
  clear P13_W10
  have P14_W12 := Lib.hid (E13.out.trans (E14.out.mono E13.out.size))
  rw [QFD.out, sameB_self]
  by_cases hf0 : f1 = 0
  rotate_left
  · have hz1 : ((f1 : Int) != 0) = true := by
      rw [bne_iff_ne]
      omega
    clear hf0
    go_wp2
    go_ret
    exact ⟨rfl, P14_w.out⟩
  subst hf0
  have HHA := Lib.hid (open_has t l i k x y HFf1.out)
  rw [HL1.out, HL2.out] at HHA
  have c_XAr5 := (XAr5.out.below P14_W5.out XAr5.out.lt).cell 0
  have c_XAr5_1 := (XAr5.out.below P14_W5.out XAr5.out.lt).at_ 1 _ rfl
  go_wp2_with fail
  refine (bkHas_any t L2 i v2 W14 ((R2.out.below P14_W5.out).more P14_W5.out.size) RL2.out).mono ?_
  rintro e W15 ⟨rfl, hb⟩
  have E15 := Lib.hid hb
  clear hb c_XAr5 c_XAr5_1
  have P15_w := Lib.hid (P14_w.out.trans (E15.out.mono P14_w.out.size))
  clear P14_w
  have P15_y0 := Lib.hid (P14_y0.out.trans (E15.out.mono P14_y0.out.size))
  clear P14_y0
  have P15_y1 := Lib.hid (P14_y1.out.trans (E15.out.mono P14_y1.out.size))
  clear P14_y1
  have P15_W1 := Lib.hid (P14_W1.out.trans (E15.out.mono P14_W1.out.size))
  clear P14_W1
  have P15_W2 := Lib.hid (P14_W2.out.trans (E15.out.mono P14_W2.out.size))
  clear P14_W2
  have P15_W3 := Lib.hid (P14_W3.out.trans (E15.out.mono P14_W3.out.size))
  clear P14_W3
  have P15_W5 := Lib.hid (P14_W5.out.trans (E15.out.mono P14_W5.out.size))
  clear P14_W5
  have P15_W7 := Lib.hid (P14_W7.out.trans (E15.out.mono P14_W7.out.size))
  clear P14_W7
  have P15_W8 := Lib.hid (P14_W8.out.trans (E15.out.mono P14_W8.out.size))
  clear P14_W8
  have P15_W10 := Lib.hid (P14_W10.out.trans (E15.out.mono P14_W10.out.size))
  clear P14_W10
  have P15_W12 := Lib.hid (P14_W12.out.trans (E15.out.mono P14_W12.out.size))
  clear P14_W12
  have P15_W13 := Lib.hid (E14.out.trans (E15.out.mono E14.out.size))
  rw [HHA.out]
  go_wp2
  go_ret
  exact ⟨rfl, P15_w.out⟩
end Go.Proofs.Ytjcombbmngpkpaa
