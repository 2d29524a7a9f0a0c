/-
  The statements on books: LeaseEnds.
-/
import Derived.Test.YtjcombbmngpkpaaJS
import Derived.Test.YtjcombbmngpkpaaR3
import Derived.Lib.MinMax
namespace Go.Proofs.Ytjcombbmngpkpaa
open Go.RowKit
theorem any_snoc (g : List Int) (id : Int) (i : Nat) (hi : i < g.length) : (g.take (i + 1)).any (fun x => x == id) = ((g.take i).any (fun x => x == id) || g.getD i 0 == id) := by
  rw [List.take_add_one, List.getD_eq_getElem?_getD, List.getElem?_eq_getElem hi, List.any_append]
  simp
theorem fit_sum (t z : Int) (h : 0 ≤ t) (h2 : t ≤ 1000000000) (h3 : 0 ≤ z) (h4 : z ≤ 1000000000) : wrap64 (t + z) = t + z ∧ IntKind.i64.wrap (t + z) = t + z := by
  refine ⟨?_, ?_⟩
  · unfold wrap64
    omega
  · rw [IntKind.wrap_i64]
    omega

set_option maxRecDepth 1000000 in
set_option maxHeartbeats 16000000 in
theorem endsB_all (t : Int) (v : Value) (l : List Se) (id sp wt mo : Int) (w : World) (hr : RdE SeK w.heap.size w v l) (hl : l.length ≤ 5864062014805) (hi : fitI id) : Calls Try.prog 5 #[.agg #[.int .i64 t, v], .agg #[.int .i64 id, .int .i64 sp, .int .i64 wt, .int .i64 mo]] w (One (.bool true) w) := by
  have HR := Lib.hid hr
  have HLL := Lib.hid hl
  have HI := Lib.hid hi
  clear hr hl hi
  go_enter Try.func5, Try.ntmps5
  go_wp2_with (refine wpList_box_blk rfl 24 _ rfl [.int .i64 t, v] rfl ?_)
  intro y0 b1 b2 b3
  obtain ⟨gb0, hg⟩ : ∃ g, w.heap.size = g := ⟨_, rfl⟩
  have X0 := Lib.hid b1
  have EB0 := Lib.hid b3
  rw [hg] at X0 ⊢
  have X0_w := Lib.hid (show w.heap.size ≤ gb0 from Nat.le_of_eq hg)
  clear b1 b2 b3 hg
  go_wp2_with (refine wpList_box_blk rfl 51 _ rfl [.int .i64 id, .int .i64 sp, .int .i64 wt, .int .i64 mo] rfl ?_)
  intro y1 b1 b2 b3
  obtain ⟨gb1, hg⟩ : ∃ g, y0.heap.size = g := ⟨_, rfl⟩
  have X1 := Lib.hid b1
  have EB1 := Lib.hid b3
  rw [hg] at X1 ⊢
  have X1_w := Lib.hid (show w.heap.size ≤ gb1 from Nat.le_trans EB0.out.size (Nat.le_of_eq hg))
  have X1_y0 := Lib.hid (show y0.heap.size ≤ gb1 from Nat.le_of_eq hg)
  clear b1 b2 b3 hg
  have P0_w := Lib.hid (EB0.out.trans (EB1.out.mono EB0.out.size))
  have c_X1 := X1.out.cell 0
  have c_X1_1 := X1.out.at_ 1 _ rfl
  have c_X1_2 := X1.out.at_ 2 _ rfl
  have c_X1_3 := X1.out.at_ 3 _ rfl
  go_wp2
  refine wp_region_quiet_lit (by kernel_rfl) (by kernel_rfl) ?_
  repeat (first | go_big_quiet_step (fail) | quiet_step (fail))
  refine wpQuiet_nil ?_
  intro _ hw'
  obtain ⟨nq, hw''⟩ := hw'
  subst hw''
  obtain ⟨W1, hW⟩ : ∃ W, y1.drewN nq = W := ⟨_, rfl⟩
  have E1 : Hid (Below y1.heap.size y1 W1) := by
    show Below _ _ _
    rw [← hW]
    exact Below.drewN' (Below.refl _ _)
  rw [hW]
  clear hW c_X1 c_X1_1 c_X1_2 c_X1_3
  have P1_w := Lib.hid (P0_w.out.trans (E1.out.mono P0_w.out.size))
  clear P0_w
  have P1_y0 := Lib.hid (EB1.out.trans (E1.out.mono EB1.out.size))
  have c_X0 := (X0.out.below P1_y0.out X0.out.lt).cell 0
  have c_X0_1 := (X0.out.below P1_y0.out X0.out.lt).at_ 1 _ rfl
  go_wp2_with fail
  refine (plainB_any t l v W1 ((HR.out.below P1_w.out).more P1_w.out.size) HLL.out).mono ?_
  rintro e W2 ⟨vp, rfl, hrd, hb⟩
  have E2 := Lib.hid hb
  clear hb c_X0 c_X0_1
  have P2_w := Lib.hid (P1_w.out.trans (E2.out.mono P1_w.out.size))
  clear P1_w
  have P2_y0 := Lib.hid (P1_y0.out.trans (E2.out.mono P1_y0.out.size))
  clear P1_y0
  have P2_y1 := Lib.hid (E1.out.trans (E2.out.mono E1.out.size))
  have RP := Lib.hid hrd
  clear hrd
  go_wp2_with fail
  refine (rfRightB_any t l vp W2 RP.out).mono ?_
  rintro e W3 ⟨rfl, hb⟩
  have E3 := Lib.hid hb
  clear hb
  have P3_w := Lib.hid (P2_w.out.trans (E3.out.mono P2_w.out.size))
  clear P2_w
  have P3_y0 := Lib.hid (P2_y0.out.trans (E3.out.mono P2_y0.out.size))
  clear P2_y0
  have P3_y1 := Lib.hid (P2_y1.out.trans (E3.out.mono P2_y1.out.size))
  clear P2_y1
  have P3_W1 := Lib.hid (E2.out.trans (E3.out.mono E2.out.size))
  cases hG : rightS t l
  · clear hG
    go_wp2_with fail
    refine (alive10 W3).mono ?_
    rintro e W4 ⟨rfl, hb⟩
    have E4 := Lib.hid hb
    clear hb
    have P4_w := Lib.hid (P3_w.out.trans (E4.out.mono P3_w.out.size))
    clear P3_w
    have P4_y0 := Lib.hid (P3_y0.out.trans (E4.out.mono P3_y0.out.size))
    clear P3_y0
    have P4_y1 := Lib.hid (P3_y1.out.trans (E4.out.mono P3_y1.out.size))
    clear P3_y1
    have P4_W1 := Lib.hid (P3_W1.out.trans (E4.out.mono P3_W1.out.size))
    clear P3_W1
    have P4_W2 := Lib.hid (E3.out.trans (E4.out.mono E3.out.size))
    go_wp2
    go_ret
    exact ⟨rfl, P4_w.out⟩
  have HRT := Lib.hid ((rightS_iff t l).1 hG)
  have HL : Hid (l.length ≤ 50) := HRT.out.few
  clear hG
  have c_X0 := (X0.out.below P3_y0.out X0.out.lt).cell 0
  have c_X0_1 := (X0.out.below P3_y0.out X0.out.lt).at_ 1 _ rfl
  by_cases h1 : 100000000 < t
  · go_wp2_with fail
    refine (alive10 W3).mono ?_
    rintro e W4 ⟨rfl, hb⟩
    have E4 := Lib.hid hb
    clear hb c_X0 c_X0_1
    have P4_w := Lib.hid (P3_w.out.trans (E4.out.mono P3_w.out.size))
    clear P3_w
    have P4_y0 := Lib.hid (P3_y0.out.trans (E4.out.mono P3_y0.out.size))
    clear P3_y0
    have P4_y1 := Lib.hid (P3_y1.out.trans (E4.out.mono P3_y1.out.size))
    clear P3_y1
    have P4_W1 := Lib.hid (P3_W1.out.trans (E4.out.mono P3_W1.out.size))
    clear P3_W1
    have P4_W2 := Lib.hid (E3.out.trans (E4.out.mono E3.out.size))
    go_wp2
    go_ret
    exact ⟨rfl, P4_w.out⟩
  by_cases h2 : wt < 0
  · go_wp2_with fail
    refine (alive10 W3).mono ?_
    rintro e W4 ⟨rfl, hb⟩
    have E4 := Lib.hid hb
    clear hb c_X0 c_X0_1
    have P4_w := Lib.hid (P3_w.out.trans (E4.out.mono P3_w.out.size))
    clear P3_w
    have P4_y0 := Lib.hid (P3_y0.out.trans (E4.out.mono P3_y0.out.size))
    clear P3_y0
    have P4_y1 := Lib.hid (P3_y1.out.trans (E4.out.mono P3_y1.out.size))
    clear P3_y1
    have P4_W1 := Lib.hid (P3_W1.out.trans (E4.out.mono P3_W1.out.size))
    clear P3_W1
    have P4_W2 := Lib.hid (E3.out.trans (E4.out.mono E3.out.size))
    go_wp2
    go_ret
    exact ⟨rfl, P4_w.out⟩
  by_cases h3 : mo < 0
  · go_wp2_with fail
    refine (alive10 W3).mono ?_
    rintro e W4 ⟨rfl, hb⟩
    have E4 := Lib.hid hb
    clear hb c_X0 c_X0_1
    have P4_w := Lib.hid (P3_w.out.trans (E4.out.mono P3_w.out.size))
    clear P3_w
    have P4_y0 := Lib.hid (P3_y0.out.trans (E4.out.mono P3_y0.out.size))
    clear P3_y0
    have P4_y1 := Lib.hid (P3_y1.out.trans (E4.out.mono P3_y1.out.size))
    clear P3_y1
    have P4_W1 := Lib.hid (P3_W1.out.trans (E4.out.mono P3_W1.out.size))
    clear P3_W1
    have P4_W2 := Lib.hid (E3.out.trans (E4.out.mono E3.out.size))
    go_wp2
    go_ret
    exact ⟨rfl, P4_w.out⟩
  by_cases h4 : 10000 < mo
  · go_wp2_with fail
    refine (alive10 W3).mono ?_
    rintro e W4 ⟨rfl, hb⟩
    have E4 := Lib.hid hb
    clear hb c_X0 c_X0_1
    have P4_w := Lib.hid (P3_w.out.trans (E4.out.mono P3_w.out.size))
    clear P3_w
    have P4_y0 := Lib.hid (P3_y0.out.trans (E4.out.mono P3_y0.out.size))
    clear P3_y0
    have P4_y1 := Lib.hid (P3_y1.out.trans (E4.out.mono P3_y1.out.size))
    clear P3_y1
    have P4_W1 := Lib.hid (P3_W1.out.trans (E4.out.mono P3_W1.out.size))
    clear P3_W1
    have P4_W2 := Lib.hid (E3.out.trans (E4.out.mono E3.out.size))
    go_wp2
    go_ret
    exact ⟨rfl, P4_w.out⟩
  clear c_X0 c_X0_1
  have c_X0 := (X0.out.below P3_y0.out X0.out.lt).cell 0
  have c_X0_1 := (X0.out.below P3_y0.out X0.out.lt).at_ 1 _ rfl
  have XO4 := Lib.hid (X0.out.below P3_y0.out X0.out.lt)
  go_wp2_with fail
  refine (bkOpen_any t l id sp v W3 ((HR.out.below P3_w.out).more P3_w.out.size) HRT.out HI.out).mono ?_
  rintro e va4 ⟨v4, rfl, hrd, hb⟩
  clear c_X0 c_X0_1
  have ONE4 := Lib.hid (book_rd t hrd)
  obtain ⟨f1, hf⟩ : ∃ q, openE l id sp = q := ⟨_, rfl⟩
  have HF1 := Lib.hid hf
  rw [hf]
  obtain ⟨L1, hL1⟩ : ∃ q, openS t l id sp = q := ⟨_, rfl⟩
  have HL1 := Lib.hid hL1
  have RL1 := Lib.hid (right_open t l id sp HRT.out)
  rw [hL1] at hrd RL1
  clear hf hL1
  have AA := Lib.hid (XO4.out.below hb XO4.out.lt)
  have EB := Lib.hid hb
  have RR := Lib.hid hrd
  clear hb hrd XO4
  go_wp2_with (refine wpList_store_to rfl 24 _ _ rfl gb0 [.int .i64 t, v4] [.int .i64 t, v] 24 rfl rfl AA.out sBL rfl ONE4.out ?_)
  intro W4 e1 e2 e3 e4
  have X0r4 := Lib.hid e1
  have Q4_w := Lib.hid ((P3_w.out.trans (EB.out.mono P3_w.out.size)).trans (e3.mono X0_w.out))
  have R4 := Lib.hid ((RR.out.but AA.out (fun off h => absurd h (by show ¬ off + 3 ≤ 2; omega)) e4).more (show va4.heap.size ≤ W4.heap.size by omega))
  clear e1 e2 e3 e4 AA EB RR
  by_cases hf0 : f1 = 0
  rotate_left
  · have hz : ((f1 : Int) != 0) = true := by
      rw [bne_iff_ne]
      omega
    clear hf0
    go_wp2_with fail
    refine (alive10 W4).mono ?_
    rintro e W5 ⟨rfl, hb⟩
    have E5 := Lib.hid hb
    clear hb
    have P5_w := Lib.hid (Q4_w.out.trans (E5.out.mono Q4_w.out.size))
    go_wp2
    go_ret
    exact ⟨rfl, P5_w.out⟩
  subst hf0
  have HOP := Lib.hid HF1.out
  obtain ⟨hid1, hsp1, hsp2, -, -⟩ := open_yes l id sp HOP.out
  have ht0 : 0 ≤ t := RL1.out.lo
  by_cases hw : sp ≤ wt
  · obtain ⟨mn, hmn⟩ : ∃ q, min wt 10000 = q := ⟨_, rfl⟩
    have HMN := Lib.hid hmn
    have hmn1 : sp ≤ mn ∧ 0 ≤ mn ∧ mn ≤ 10000 := by
      rw [← hmn, Int.min_def]
      split <;> omega
    obtain ⟨hm1, hm2, hm3⟩ := hmn1
    obtain ⟨wr1, wr2⟩ := fit_sum t mn ht0 (by omega) hm2 (by omega)
    have HTK := Lib.hid (tick_of t (t + mn) (by omega) (by omega))
    have HEL := Lib.hid (ends_late t l id sp (t + mn) HOP.out HTK.out (by omega))
    rw [HL1.out] at HEL
    have c_X0r4 := X0r4.out.cell 0
    have c_X0r4_1 := X0r4.out.at_ 1 _ rfl
    go_wp2_with fail
    refine (bkTick_any t L1 (t + mn) v4 W4 R4.out RL1.out).mono ?_
    rintro e va5 ⟨v5, u5, rfl, hrd, hru, hb⟩
    clear c_X0r4 c_X0r4_1
    have HTT : tickT t (t + mn) = t + mn := by
      unfold tickT
      rw [if_pos HTK.out]
    rw [HTT, HTK.out]
    have ONE5 := Lib.hid (book_rd (t + mn) hrd)
    obtain ⟨L5, hL5⟩ : ∃ q, tickS t L1 (t + mn) = q := ⟨_, rfl⟩
    have HL5 := Lib.hid hL5
    have RL5 := Lib.hid (right_tick t L1 (t + mn) RL1.out)
    rw [hL5, HTT] at RL5
    rw [hL5] at hrd HEL
    obtain ⟨G5, hG5⟩ : ∃ q, goneS t L1 (t + mn) = q := ⟨_, rfl⟩
    have LG5 : Hid (G5.length ≤ 50) := by
      have h1 := gone_len t L1 (t + mn)
      have h2 := RL1.out.few
      show _ ≤ _
      rw [← hG5]
      omega
    rw [hG5] at hru HEL
    clear hL5 hG5 HTT
    go_wp2_with (refine wpList_alloc_blk rfl 24 rfl [.int .i64 0, .slice none 0 0] zBL ?_)
    intro vb5 a1 a2 a3
    obtain ⟨vg5, hg⟩ : ∃ g, va5.heap.size = g := ⟨_, rfl⟩
    have AA := Lib.hid a1
    have EB := Lib.hid (hb.trans (a3.mono hb.size))
    have A3 := Lib.hid a3
    have hbg : W4.heap.size ≤ vg5 := by have := hb.size; omega
    have hgs : vg5 ≤ vb5.heap.size := by omega
    have HG := Lib.hid hg
    have RR0 := Lib.hid hrd
    have RR1 := Lib.hid hru
    rw [hg] at AA A3 RR0 RR1 ⊢
    clear a1 a2 a3 hb hg hrd hru
    go_wp2_with (refine wpList_store_to rfl 24 _ _ rfl vg5 [.int .i64 (t + mn), v5] [.int .i64 0, .slice none 0 0] 24 rfl rfl AA.out sBL rfl ONE5.out ?_)
    intro W5 e1 e2 e3 e4
    have X5 := Lib.hid e1
    have E5 := Lib.hid (EB.out.trans (e3.mono hbg))
    have R5 := Lib.hid (((RR0.out.below A3.out).below e3).more (show vg5 ≤ W5.heap.size by omega))
    have S5 := Lib.hid (((RR1.out.below A3.out).below e3).more (show vg5 ≤ W5.heap.size by omega))
    clear e1 e2 e3 e4 AA EB A3 hbg hgs HG RR0 RR1
    have P5_w := Lib.hid (Q4_w.out.trans (E5.out.mono Q4_w.out.size))
    obtain ⟨A5, c5, h5, hc5, hm5⟩ := S5.out.shape
    unfold maxLen at hm5
    obtain ⟨n5, hn5⟩ : ∃ q, G5.length = q := ⟨_, rfl⟩
    have HN5 := Lib.hid hn5
    rw [hn5] at h5 hc5
    subst h5
    clear hn5
    go_wp2
    clear wr1 wr2
    go_loop [13, 14] (fun b x => ∃ i : Nat, i ≤ n5 ∧ x = .int .i64 (i : Int) ∧ b = .bool ((G5.take i).any (fun x => x == id))) (fun _ x => n5 - (intOf x).toNat)
    case atStart => exact ⟨0, by omega, rfl, rfl⟩
    case round =>
      obtain ⟨i, hi, rfl, rfl⟩ := hrel
      by_cases hi2 : i < n5
      · have zi : (i : Int) < (n5 : Int) := by omega
        obtain ⟨a5, hA5, c0⟩ := S5.out.at1 i (by rw [HN5.out]; exact hi2)
        subst hA5
        have HS := Lib.hid (any_snoc G5 id i (by rw [HN5.out]; exact hi2))
        obtain ⟨y, hy⟩ : ∃ y, G5.getD i 0 = y := ⟨_, rfl⟩
        rw [hy] at c0 HS
        obtain ⟨B, hB⟩ : ∃ b, (G5.take i).any (fun x => x == id) = b := ⟨_, rfl⟩
        rw [hB] at HS ⊢
        clear hy hB
        cases B
        · obtain ⟨C, hC⟩ : ∃ b, (y == id) = b := ⟨_, rfl⟩
          rw [hC] at HS
          go_wp2
          go_round
          case rel => exact ⟨i + 1, by omega, by go_num, by rw [HS.out]; rfl⟩
          case measure => simp [intOf]; omega
        · go_wp2
          go_round
          case rel => exact ⟨i + 1, by omega, by go_num, by rw [HS.out]; rfl⟩
          case measure => simp [intOf]; omega
      · have hE : i = n5 := by omega
        subst hE
        have HAN : Hid ((G5.take i).any (fun x => x == id) = true) := by
          show _ = _
          rw [List.take_of_length_le (by rw [HN5.out]; exact Nat.le_refl _), List.any_eq_true]
          exact ⟨id, HEL.out.1, by simp⟩
        rw [HAN.out]
        go_wp2_with fail
        refine (alive10 W5).mono ?_
        rintro e W6 ⟨rfl, hb⟩
        have E6 := Lib.hid hb
        clear hb
        have P6_w := Lib.hid (P5_w.out.trans (E6.out.mono P5_w.out.size))
        clear P5_w
        have P6_W4 := Lib.hid (E5.out.trans (E6.out.mono E5.out.size))
        have c_X5 := (X5.out.below E6.out X5.out.lt).cell 0
        have c_X5_1 := (X5.out.below E6.out X5.out.lt).at_ 1 _ rfl
        go_wp2_with fail
        refine (bkHas_any (t + mn) L5 id v5 W6 ((R5.out.below E6.out).more E6.out.size) RL5.out).mono ?_
        rintro e W7 ⟨rfl, hb⟩
        have E7 := Lib.hid hb
        clear hb c_X5 c_X5_1
        have P7_w := Lib.hid (P6_w.out.trans (E7.out.mono P6_w.out.size))
        clear P6_w
        have P7_W4 := Lib.hid (P6_W4.out.trans (E7.out.mono P6_W4.out.size))
        clear P6_W4
        have P7_W5 := Lib.hid (E6.out.trans (E7.out.mono E6.out.size))
        rw [HEL.out.2]
        have hmn := HMN.out
        go_wp2
        go_ret
        exact ⟨rfl, P7_w.out⟩
  have hwn : ¬ sp ≤ wt := hw
  obtain ⟨wr1, wr2⟩ := fit_sum t wt ht0 (by omega) (by omega) (by omega)
  have HTK := Lib.hid (tick_of t (t + wt) (by omega) (by omega))
  have HES := Lib.hid (ends_soon t l id sp (t + wt) HOP.out HTK.out (by omega))
  have HET := Lib.hid (ends_touch t l id sp (t + wt) (t + wt + mo) HOP.out HTK.out (by omega) (tick_of _ _ (by omega) (by omega)))
  have HTK2 := Lib.hid (tick_of (t + wt) (t + wt + mo) (by omega) (by omega))
  rw [HL1.out] at HES HET
  have c_X0r4 := X0r4.out.cell 0
  have c_X0r4_1 := X0r4.out.at_ 1 _ rfl
  go_wp2_with fail
  refine (bkTick_any t L1 (t + wt) v4 W4 R4.out RL1.out).mono ?_
  rintro e va5 ⟨v5, u5, rfl, hrd, hru, hb⟩
  clear c_X0r4 c_X0r4_1
  have HTT : tickT t (t + wt) = t + wt := by
    unfold tickT
    rw [if_pos HTK.out]
  rw [HTT, HTK.out]
  have ONE5 := Lib.hid (book_rd (t + wt) hrd)
  obtain ⟨L5, hL5⟩ : ∃ q, tickS t L1 (t + wt) = q := ⟨_, rfl⟩
  have HL5 := Lib.hid hL5
  have RL5 := Lib.hid (right_tick t L1 (t + wt) RL1.out)
  rw [hL5, HTT] at RL5
  rw [hL5] at hrd HES HET
  clear hL5 HTT hru
  go_wp2_with (refine wpList_alloc_blk rfl 24 rfl [.int .i64 0, .slice none 0 0] zBL ?_)
  intro vb5 a1 a2 a3
  obtain ⟨vg5, hg⟩ : ∃ g, va5.heap.size = g := ⟨_, rfl⟩
  have AA := Lib.hid a1
  have EB := Lib.hid (hb.trans (a3.mono hb.size))
  have A3 := Lib.hid a3
  have hbg : W4.heap.size ≤ vg5 := by have := hb.size; omega
  have hgs : vg5 ≤ vb5.heap.size := by omega
  have HG := Lib.hid hg
  have X5_w := Lib.hid (show w.heap.size ≤ vg5 from Nat.le_trans Q4_w.out.size hbg)
  have X5_W4 := Lib.hid (show W4.heap.size ≤ vg5 from hbg)
  have RR0 := Lib.hid hrd
  rw [hg] at AA A3 RR0 ⊢
  clear a1 a2 a3 hb hg hrd
  go_wp2_with (refine wpList_store_to rfl 24 _ _ rfl vg5 [.int .i64 (t + wt), v5] [.int .i64 0, .slice none 0 0] 24 rfl rfl AA.out sBL rfl ONE5.out ?_)
  intro W5 e1 e2 e3 e4
  have X5 := Lib.hid e1
  have E5 := Lib.hid (EB.out.trans (e3.mono hbg))
  have R5 := Lib.hid (((RR0.out.below A3.out).below e3).more (show vg5 ≤ W5.heap.size by omega))
  clear e1 e2 e3 e4 AA EB A3 hbg hgs HG RR0
  have P5_w := Lib.hid (Q4_w.out.trans (E5.out.mono Q4_w.out.size))
  have c_X5 := X5.out.cell 0
  have c_X5_1 := X5.out.at_ 1 _ rfl
  go_wp2_with fail
  refine (bkHas_any (t + wt) L5 id v5 W5 R5.out RL5.out).mono ?_
  rintro e W6 ⟨rfl, hb⟩
  have E6 := Lib.hid hb
  clear hb c_X5 c_X5_1
  have P6_w := Lib.hid (P5_w.out.trans (E6.out.mono P5_w.out.size))
  clear P5_w
  have P6_W4 := Lib.hid (E5.out.trans (E6.out.mono E5.out.size))
  rw [HES.out]
  have c_X5 := (X5.out.below E6.out X5.out.lt).cell 0
  have c_X5_1 := (X5.out.below E6.out X5.out.lt).at_ 1 _ rfl
  have XO7 := Lib.hid (X5.out.below E6.out X5.out.lt)
  go_wp2_with fail
  refine (bkTouch_any (t + wt) L5 id v5 W6 ((R5.out.below E6.out).more E6.out.size) RL5.out).mono ?_
  rintro e va7 ⟨v6, rfl, hrd, hb⟩
  clear c_X5 c_X5_1
  rw [lease_yes L5 id HES.out]
  have ONE6 := Lib.hid (book_rd (t + wt) hrd)
  obtain ⟨L6, hL6⟩ : ∃ q, touchS (t + wt) L5 id = q := ⟨_, rfl⟩
  have HL6 := Lib.hid hL6
  have RL6 := Lib.hid (right_touch (t + wt) L5 id RL5.out)
  rw [hL6] at hrd RL6 HET
  clear hL6
  have AA := Lib.hid (XO7.out.below hb XO7.out.lt)
  have EB := Lib.hid hb
  have RR := Lib.hid hrd
  clear hb hrd XO7
  go_wp2_with (refine wpList_store_to rfl 24 _ _ rfl vg5 [.int .i64 (t + wt), v6] [.int .i64 (t + wt), v5] 24 rfl rfl AA.out sBL rfl ONE6.out ?_)
  intro W7 e1 e2 e3 e4
  have X5r7 := Lib.hid e1
  have Q7_w := Lib.hid ((P6_w.out.trans (EB.out.mono P6_w.out.size)).trans (e3.mono X5_w.out))
  have Q7_W4 := Lib.hid ((P6_W4.out.trans (EB.out.mono P6_W4.out.size)).trans (e3.mono X5_W4.out))
  have R6 := Lib.hid ((RR.out.but AA.out (fun off h => absurd h (by show ¬ off + 3 ≤ 2; omega)) e4).more (show va7.heap.size ≤ W7.heap.size by omega))
  clear e1 e2 e3 e4 AA EB RR
  obtain ⟨ws1, ws2⟩ := fit_sum (t + wt) mo (by omega) (by omega) (by omega) (by omega)
  have c_X5r7 := X5r7.out.cell 0
  have c_X5r7_1 := X5r7.out.at_ 1 _ rfl
  go_wp2_with fail
  refine (bkTick_any (t + wt) L6 (t + wt + mo) v6 W7 R6.out RL6.out).mono ?_
  rintro e va8 ⟨v7, u7, rfl, hrd, hru, hb⟩
  clear c_X5r7 c_X5r7_1
  have HTT : tickT (t + wt) (t + wt + mo) = t + wt + mo := by
    unfold tickT
    rw [if_pos HTK2.out]
  rw [HTT, HTK2.out]
  have ONE7 := Lib.hid (book_rd (t + wt + mo) hrd)
  obtain ⟨L7, hL7⟩ : ∃ q, tickS (t + wt) L6 (t + wt + mo) = q := ⟨_, rfl⟩
  have RL7 := Lib.hid (right_tick (t + wt) L6 (t + wt + mo) RL6.out)
  rw [hL7, HTT] at RL7
  rw [hL7] at hrd HET
  clear hL7 HTT hru
  go_wp2_with (refine wpList_alloc_blk rfl 24 rfl [.int .i64 0, .slice none 0 0] zBL ?_)
  intro vb8 a1 a2 a3
  obtain ⟨vg8, hg⟩ : ∃ g, va8.heap.size = g := ⟨_, rfl⟩
  have AA := Lib.hid a1
  have EB := Lib.hid (hb.trans (a3.mono hb.size))
  have A3 := Lib.hid a3
  have hbg : W7.heap.size ≤ vg8 := by have := hb.size; omega
  have hgs : vg8 ≤ vb8.heap.size := by omega
  have HG := Lib.hid hg
  have RR0 := Lib.hid hrd
  rw [hg] at AA A3 RR0 ⊢
  clear a1 a2 a3 hb hg hrd
  go_wp2_with (refine wpList_store_to rfl 24 _ _ rfl vg8 [.int .i64 (t + wt + mo), v7] [.int .i64 0, .slice none 0 0] 24 rfl rfl AA.out sBL rfl ONE7.out ?_)
  intro W8 e1 e2 e3 e4
  have X7 := Lib.hid e1
  have E8 := Lib.hid (EB.out.trans (e3.mono hbg))
  have R7 := Lib.hid (((RR0.out.below A3.out).below e3).more (show vg8 ≤ W8.heap.size by omega))
  clear e1 e2 e3 e4 AA EB A3 hbg hgs HG RR0
  have P8_w := Lib.hid (Q7_w.out.trans (E8.out.mono Q7_w.out.size))
  have P8_W4 := Lib.hid (Q7_W4.out.trans (E8.out.mono Q7_W4.out.size))
  go_wp2_with fail
  refine (alive10 W8).mono ?_
  rintro e W9 ⟨rfl, hb⟩
  have E9 := Lib.hid hb
  clear hb
  have P9_w := Lib.hid (P8_w.out.trans (E9.out.mono P8_w.out.size))
  clear P8_w
  have P9_W4 := Lib.hid (P8_W4.out.trans (E9.out.mono P8_W4.out.size))
  clear P8_W4
  have P9_W7 := Lib.hid (E8.out.trans (E9.out.mono E8.out.size))
  have HEQ : Hid (hasS L7 id = decide (mo < sp)) := by
    show _ = _
    rw [HET.out]
    by_cases h : mo < sp
    · rw [decide_eq_true h, decide_eq_true (show t + wt + mo < t + wt + sp by omega)]
    · rw [decide_eq_false h, decide_eq_false (show ¬ t + wt + mo < t + wt + sp by omega)]
  have c_X7 := (X7.out.below E9.out X7.out.lt).cell 0
  have c_X7_1 := (X7.out.below E9.out X7.out.lt).at_ 1 _ rfl
  go_wp2_with fail
  refine (bkHas_any (t + wt + mo) L7 id v7 W9 ((R7.out.below E9.out).more E9.out.size) RL7.out).mono ?_
  rintro e W10 ⟨rfl, hb⟩
  have E10 := Lib.hid hb
  clear hb c_X7 c_X7_1
  have P10_w := Lib.hid (P9_w.out.trans (E10.out.mono P9_w.out.size))
  clear P9_w
  have P10_W4 := Lib.hid (P9_W4.out.trans (E10.out.mono P9_W4.out.size))
  clear P9_W4
  have P10_W7 := Lib.hid (P9_W7.out.trans (E10.out.mono P9_W7.out.size))
  clear P9_W7
  have P10_W8 := Lib.hid (E9.out.trans (E10.out.mono E9.out.size))
  rw [HEQ.out]
  obtain ⟨Q, hQ⟩ : ∃ b, decide (mo < sp) = b := ⟨_, rfl⟩
  rw [hQ]
  have hqq : (Q == Q) = true := by simp
  go_wp2
  go_ret
  exact ⟨rfl, P10_w.out⟩
end Go.Proofs.Ytjcombbmngpkpaa
