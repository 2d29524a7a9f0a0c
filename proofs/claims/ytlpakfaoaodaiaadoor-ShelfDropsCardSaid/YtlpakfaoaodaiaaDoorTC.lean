/-
  The statements on shelves: ShelfJust.
-/
import Derived.Test.YtlpakfaoaodaiaaDoorTA
import Derived.Test.YtlpakfaoaodaiaaDoorHI
namespace Go.Proofs.YtlpakfaoaodaiaaDoor
open Go.RowKit

theorem rfRight_yes (l : List Nd) (v : Value) (w : World) (hr : RdNd w.heap.size w v l) (h : RightP l) : Calls Tryd.prog 12 #[.agg #[v]] w (One (.bool true) w) := by
  have := rfRightN_any l v w hr
  rw [(rightN_iff l).2 h] at this
  exact this
theorem eql_same (y : Nd) (a b : List UInt8) (c d : Int) (_hy : y = (a, b, c, d)) (w : World) : (binOp .eql 53 (.agg #[txt a, txt b, .int .i64 c, .int .i64 d]) (.agg #[txt a, txt b, .int .i64 c, .int .i64 d])).run Tryd.prog w = .ok (.bool true) w := by
  clear _hy
  have h := run_eql_ndP (a, b, c, d) (a, b, c, d) w
  rw [decide_eq_true rfl] at h
  exact h

set_option maxRecDepth 1000000 in
set_option maxHeartbeats 16000000 in
theorem just_all (v : Value) (l : List Nd) (c : Nd) (x : List UInt8) (w : World) (hr : RdNd w.heap.size w v l) (_hb : ∀ n ∈ l, fitI (nR n) ∧ fitI (nO n)) (_hc : fitI (nR c) ∧ fitI (nO c)) : Calls Tryd.prog 6 #[.agg #[v], .agg (ndc c).toArray, txt x] w (One (.bool true) w) := by
  clear _hb _hc
  have HR := Lib.hid hr
  obtain ⟨p, vl, o, z⟩ := c
  obtain ⟨m1, hm1⟩ : ∃ m, p.length = m := ⟨_, rfl⟩
  obtain ⟨m2, hm2⟩ : ∃ m, vl.length = m := ⟨_, rfl⟩
  obtain ⟨m3, hm3⟩ : ∃ m, x.length = m := ⟨_, rfl⟩
  have hs1 : (⟨p.toArray⟩ : ByteArray).size = m1 := hm1
  have hs2 : (⟨vl.toArray⟩ : ByteArray).size = m2 := hm2
  have hs3 : (⟨x.toArray⟩ : ByteArray).size = m3 := hm3
  clear hr hm1 hm2 hm3
  show Calls Tryd.prog _ #[.agg #[v], .agg #[txt p, txt vl, .int .i64 o, .int .i64 z], txt x] w _
  go_enter Tryd.func6, Tryd.ntmps6
  go_wp2_with (refine wpList_box_blk rfl 24 _ rfl [v] rfl ?_)
  intro y0 b1 b2 b3
  obtain ⟨gb0, hg⟩ : ∃ g, w.heap.size = g := ⟨_, rfl⟩
  have X0 := Lib.hid b1
  have EB0 := Lib.hid b3
  rw [hg] at X0 ⊢
  clear b1 b2 b3 hg
  go_wp2_with (refine wpList_box_blk rfl 37 _ rfl [txt p, txt vl, .int .i64 o, .int .i64 z] rfl ?_)
  intro y1 b1 b2 b3
  obtain ⟨gb1, hg⟩ : ∃ g, y0.heap.size = g := ⟨_, rfl⟩
  have X1 := Lib.hid b1
  have EB1 := Lib.hid b3
  rw [hg] at X1 ⊢
  clear b1 b2 b3 hg
  have P0_w := Lib.hid (EB0.out.trans (EB1.out.mono EB0.out.size))
  have c_X0 := (X0.out.below EB1.out X0.out.lt).cell 0
  go_wp2_with fail
  refine (few_any l v y1 ((HR.out.below P0_w.out).more P0_w.out.size)).mono ?_
  rintro e W1 ⟨rfl, hb⟩
  have E1 := Lib.hid hb
  clear hb c_X0
  have P1_w := Lib.hid (P0_w.out.trans (E1.out.mono P0_w.out.size))
  clear P0_w
  have P1_y0 := Lib.hid (EB1.out.trans (E1.out.mono EB1.out.size))
  cases hF : fewN l
  · clear hF
    go_wp2_with fail
    refine (alive9 W1).mono ?_
    rintro e W2 ⟨rfl, hb⟩
    have E2 := Lib.hid hb
    clear hb
    have P2_w := Lib.hid (P1_w.out.trans (E2.out.mono P1_w.out.size))
    clear P1_w
    have P2_y0 := Lib.hid (P1_y0.out.trans (E2.out.mono P1_y0.out.size))
    clear P1_y0
    have P2_y1 := Lib.hid (E1.out.trans (E2.out.mono E1.out.size))
    go_wp2
    go_ret
    exact ⟨rfl, P2_w.out⟩
  have HL := Lib.hid (few_len l hF)
  clear hF
  have c_X0 := (X0.out.below P1_y0.out X0.out.lt).cell 0
  go_wp2_with fail
  refine (plain_any l v W1 ((HR.out.below P1_w.out).more P1_w.out.size) (by have := HL.out; omega)).mono ?_
  rintro e W2 ⟨vp, rfl, hrd, hb⟩
  have E2 := Lib.hid hb
  clear hb c_X0
  have P2_w := Lib.hid (P1_w.out.trans (E2.out.mono P1_w.out.size))
  clear P1_w
  have P2_y0 := Lib.hid (P1_y0.out.trans (E2.out.mono P1_y0.out.size))
  clear P1_y0
  have P2_y1 := Lib.hid (E1.out.trans (E2.out.mono E1.out.size))
  have RP := Lib.hid hrd
  clear hrd
  go_wp2_with fail
  refine (rfRightN_any l vp W2 RP.out).mono ?_
  rintro e W3 ⟨rfl, hb⟩
  have E3 := Lib.hid hb
  clear hb
  have P3_w := Lib.hid (P2_w.out.trans (E3.out.mono P2_w.out.size))
  clear P2_w
  have P3_y0 := Lib.hid (P2_y0.out.trans (E3.out.mono P2_y0.out.size))
  clear P2_y0
  have P3_y1 := Lib.hid (P2_y1.out.trans (E3.out.mono P2_y1.out.size))
  clear P2_y1
  have P3_W1 := Lib.hid (E2.out.trans (E3.out.mono E2.out.size))
  cases hG : rightN l
  · clear hG
    go_wp2_with fail
    refine (alive9 W3).mono ?_
    rintro e W4 ⟨rfl, hb⟩
    have E4 := Lib.hid hb
    clear hb
    have P4_w := Lib.hid (P3_w.out.trans (E4.out.mono P3_w.out.size))
    clear P3_w
    have P4_y0 := Lib.hid (P3_y0.out.trans (E4.out.mono P3_y0.out.size))
    clear P3_y0
    have P4_y1 := Lib.hid (P3_y1.out.trans (E4.out.mono P3_y1.out.size))
    clear P3_y1
    have P4_W1 := Lib.hid (P3_W1.out.trans (E4.out.mono P3_W1.out.size))
    clear P3_W1
    have P4_W2 := Lib.hid (E3.out.trans (E4.out.mono E3.out.size))
    go_wp2
    go_ret
    exact ⟨rfl, P4_w.out⟩
  have HRT := Lib.hid hG
  have HRP := Lib.hid ((rightN_iff l).1 hG)
  clear hG
  have c_X1_0 := (X1.out.below P3_y1.out X1.out.lt).at_ 0 _ rfl
  have c_X1_1 := (X1.out.below P3_y1.out X1.out.lt).at_ 1 _ rfl
  have c_X1_2 := (X1.out.below P3_y1.out X1.out.lt).at_ 2 _ rfl
  have c_X1_3 := (X1.out.below P3_y1.out X1.out.lt).at_ 3 _ rfl
  by_cases h11 : 1100 < (m1 : Int)
  · go_wp2_with fail
    refine (alive9 W3).mono ?_
    rintro e W4 ⟨rfl, hb⟩
    have E4 := Lib.hid hb
    clear hb c_X1_0 c_X1_1 c_X1_2 c_X1_3
    have P4_w := Lib.hid (P3_w.out.trans (E4.out.mono P3_w.out.size))
    clear P3_w
    have P4_y0 := Lib.hid (P3_y0.out.trans (E4.out.mono P3_y0.out.size))
    clear P3_y0
    have P4_y1 := Lib.hid (P3_y1.out.trans (E4.out.mono P3_y1.out.size))
    clear P3_y1
    have P4_W1 := Lib.hid (P3_W1.out.trans (E4.out.mono P3_W1.out.size))
    clear P3_W1
    have P4_W2 := Lib.hid (E3.out.trans (E4.out.mono E3.out.size))
    go_wp2
    go_ret
    exact ⟨rfl, P4_w.out⟩
  by_cases h12 : 1100 < (m2 : Int)
  · go_wp2_with fail
    refine (alive9 W3).mono ?_
    rintro e W4 ⟨rfl, hb⟩
    have E4 := Lib.hid hb
    clear hb c_X1_0 c_X1_1 c_X1_2 c_X1_3
    have P4_w := Lib.hid (P3_w.out.trans (E4.out.mono P3_w.out.size))
    clear P3_w
    have P4_y0 := Lib.hid (P3_y0.out.trans (E4.out.mono P3_y0.out.size))
    clear P3_y0
    have P4_y1 := Lib.hid (P3_y1.out.trans (E4.out.mono P3_y1.out.size))
    clear P3_y1
    have P4_W1 := Lib.hid (P3_W1.out.trans (E4.out.mono P3_W1.out.size))
    clear P3_W1
    have P4_W2 := Lib.hid (E3.out.trans (E4.out.mono E3.out.size))
    go_wp2
    go_ret
    exact ⟨rfl, P4_w.out⟩
  by_cases h13 : 1100 < (m3 : Int)
  · go_wp2_with fail
    refine (alive9 W3).mono ?_
    rintro e W4 ⟨rfl, hb⟩
    have E4 := Lib.hid hb
    clear hb c_X1_0 c_X1_1 c_X1_2 c_X1_3
    have P4_w := Lib.hid (P3_w.out.trans (E4.out.mono P3_w.out.size))
    clear P3_w
    have P4_y0 := Lib.hid (P3_y0.out.trans (E4.out.mono P3_y0.out.size))
    clear P3_y0
    have P4_y1 := Lib.hid (P3_y1.out.trans (E4.out.mono P3_y1.out.size))
    clear P3_y1
    have P4_W1 := Lib.hid (P3_W1.out.trans (E4.out.mono P3_W1.out.size))
    clear P3_W1
    have P4_W2 := Lib.hid (E3.out.trans (E4.out.mono E3.out.size))
    go_wp2
    go_ret
    exact ⟨rfl, P4_w.out⟩
  clear c_X1_0 c_X1_1 c_X1_2 c_X1_3
  have c_X0 := (X0.out.below P3_y0.out X0.out.lt).cell 0
  have c_X1_0 := (X1.out.below P3_y1.out X1.out.lt).at_ 0 _ rfl
  have c_X1_1 := (X1.out.below P3_y1.out X1.out.lt).at_ 1 _ rfl
  have c_X1_2 := (X1.out.below P3_y1.out X1.out.lt).at_ 2 _ rfl
  have c_X1_3 := (X1.out.below P3_y1.out X1.out.lt).at_ 3 _ rfl
  go_wp2_with fail
  refine (shGet_any l x v W3 ((HR.out.below P3_w.out).more P3_w.out.size)).mono ?_
  rintro e a4 ⟨rfl, hb⟩
  clear c_X0 c_X1_0 c_X1_1 c_X1_2 c_X1_3
  obtain ⟨nd, hx⟩ : ∃ q, getS l x = q := ⟨_, rfl⟩
  obtain ⟨e0, hf⟩ : ∃ q, getE l x = q := ⟨_, rfl⟩
  have HNX := Lib.hid hx
  have HFX := Lib.hid hf
  rw [hx, hf]
  clear hx hf
  go_wp2_with (refine wpList_alloc_blk rfl 53 rfl (ndc nd0) zPN ?_)
  intro b4 a1 a2 a3
  obtain ⟨g4, hg⟩ : ∃ g, a4.heap.size = g := ⟨_, rfl⟩
  have AA := Lib.hid a1
  have EB := Lib.hid (hb.trans (a3.mono hb.size))
  have A3 := Lib.hid a3
  have hbg : W3.heap.size ≤ g4 := by have := hb.size; omega
  have hgs : g4 ≤ b4.heap.size := by omega
  have HG := Lib.hid hg
  rw [hg] at AA A3 ⊢
  clear a1 a2 a3 hb hg
  go_wp2_with (refine wpList_store_to rfl 53 _ _ rfl g4 (ndc nd) (ndc nd0) 53 rfl rfl AA.out sPN rfl (ndc_one _) ?_)
  intro W4 e1 e2 e3 e4
  have XN := Lib.hid e1
  have E4 := Lib.hid (EB.out.trans (e3.mono hbg))
  clear e1 e2 e3 e4 AA EB A3 hbg hgs HG
  have P4_w := Lib.hid (P3_w.out.trans (E4.out.mono P3_w.out.size))
  clear P3_w
  have P4_y0 := Lib.hid (P3_y0.out.trans (E4.out.mono P3_y0.out.size))
  clear P3_y0
  have P4_y1 := Lib.hid (P3_y1.out.trans (E4.out.mono P3_y1.out.size))
  clear P3_y1
  have P4_W1 := Lib.hid (P3_W1.out.trans (E4.out.mono P3_W1.out.size))
  clear P3_W1
  have P4_W2 := Lib.hid (E3.out.trans (E4.out.mono E3.out.size))
  have c_X0 := (X0.out.below P4_y0.out X0.out.lt).cell 0
  have c_X1_0 := (X1.out.below P4_y1.out X1.out.lt).at_ 0 _ rfl
  have c_X1_1 := (X1.out.below P4_y1.out X1.out.lt).at_ 1 _ rfl
  have c_X1_2 := (X1.out.below P4_y1.out X1.out.lt).at_ 2 _ rfl
  have c_X1_3 := (X1.out.below P4_y1.out X1.out.lt).at_ 3 _ rfl
  go_wp2_with fail
  refine (shCreate_any l p vl o v W4 ((HR.out.below P4_w.out).more P4_w.out.size) (by have := HL.out; omega) HRT.out).mono ?_
  rintro e a5 ⟨v6, rfl, hrd, hb⟩
  clear c_X0 c_X1_0 c_X1_1 c_X1_2 c_X1_3
  have ONE6 := Lib.hid (one_rd hrd)
  obtain ⟨f1, hf⟩ : ∃ q, createE l p vl o = q := ⟨_, rfl⟩
  have HF1 := Lib.hid hf
  obtain ⟨L1, hl⟩ : ∃ q, createS l p vl o = q := ⟨_, rfl⟩
  have HL1 := Lib.hid hl
  have LL1 : Hid (L1.length ≤ 200) := by
    have h1 := (right_create l p vl o HRP.out).1.few
    show _ ≤ _
    rw [← hl]
    exact h1
  have RR1 : Hid (RightP L1) := by
    show RightP _
    rw [← hl]
    exact (right_create l p vl o HRP.out).1
  rw [hl] at hrd
  rw [hf]
  clear hf hl
  go_wp2_with (refine wpList_alloc_blk rfl 24 rfl [.slice none 0 0] zPS ?_)
  intro b5 a1 a2 a3
  obtain ⟨g5, hg⟩ : ∃ g, a5.heap.size = g := ⟨_, rfl⟩
  have AA := Lib.hid a1
  have EB := Lib.hid (hb.trans (a3.mono hb.size))
  have A3 := Lib.hid a3
  have hbg : W4.heap.size ≤ g5 := by have := hb.size; omega
  have hgs : g5 ≤ b5.heap.size := by omega
  have HG := Lib.hid hg
  have RR := Lib.hid hrd
  rw [hg] at AA A3 RR ⊢
  clear a1 a2 a3 hb hg hrd
  go_wp2_with (refine wpList_store_to rfl 24 _ _ rfl g5 [v6] [.slice none 0 0] 24 rfl rfl AA.out sPS rfl ONE6.out ?_)
  intro W5 e1 e2 e3 e4
  have X6 := Lib.hid e1
  have E5 := Lib.hid (EB.out.trans (e3.mono hbg))
  have R6 := Lib.hid (((RR.out.below A3.out).below e3).more (show g5 ≤ W5.heap.size by omega))
  clear e1 e2 e3 e4 AA EB A3 hbg hgs HG RR
  have P5_w := Lib.hid (P4_w.out.trans (E5.out.mono P4_w.out.size))
  clear P4_w
  have P5_y0 := Lib.hid (P4_y0.out.trans (E5.out.mono P4_y0.out.size))
  clear P4_y0
  have P5_y1 := Lib.hid (P4_y1.out.trans (E5.out.mono P4_y1.out.size))
  clear P4_y1
  have P5_W1 := Lib.hid (P4_W1.out.trans (E5.out.mono P4_W1.out.size))
  clear P4_W1
  have P5_W2 := Lib.hid (P4_W2.out.trans (E5.out.mono P4_W2.out.size))
  clear P4_W2
  have P5_W3 := Lib.hid (E4.out.trans (E5.out.mono E4.out.size))
  have c_X0 := (X0.out.below P5_y0.out X0.out.lt).cell 0
  have c_X1_0 := (X1.out.below P5_y1.out X1.out.lt).at_ 0 _ rfl
  have c_X1_1 := (X1.out.below P5_y1.out X1.out.lt).at_ 1 _ rfl
  have c_X1_2 := (X1.out.below P5_y1.out X1.out.lt).at_ 2 _ rfl
  have c_X1_3 := (X1.out.below P5_y1.out X1.out.lt).at_ 3 _ rfl
  go_wp2_with fail
  refine (shSet_any l p vl z v W5 ((HR.out.below P5_w.out).more P5_w.out.size) (by have := HL.out; omega) HRT.out).mono ?_
  rintro e a6 ⟨vA, rfl, hrd, hb⟩
  clear c_X0 c_X1_0 c_X1_1 c_X1_2 c_X1_3
  have ONEA := Lib.hid (one_rd hrd)
  obtain ⟨f2, hf⟩ : ∃ q, setE l p vl z = q := ⟨_, rfl⟩
  have HF2 := Lib.hid hf
  obtain ⟨L2, hl⟩ : ∃ q, setS l p vl z = q := ⟨_, rfl⟩
  have HL2 := Lib.hid hl
  have LL2 : Hid (L2.length ≤ 200) := by
    have h1 := (right_set l p vl z HRP.out).1.few
    show _ ≤ _
    rw [← hl]
    exact h1
  have RR2 : Hid (RightP L2) := by
    show RightP _
    rw [← hl]
    exact (right_set l p vl z HRP.out).1
  rw [hl] at hrd
  rw [hf]
  clear hf hl
  go_wp2_with (refine wpList_alloc_blk rfl 24 rfl [.slice none 0 0] zPS ?_)
  intro b6 a1 a2 a3
  obtain ⟨g6, hg⟩ : ∃ g, a6.heap.size = g := ⟨_, rfl⟩
  have AA := Lib.hid a1
  have EB := Lib.hid (hb.trans (a3.mono hb.size))
  have A3 := Lib.hid a3
  have hbg : W5.heap.size ≤ g6 := by have := hb.size; omega
  have hgs : g6 ≤ b6.heap.size := by omega
  have HG := Lib.hid hg
  have RR := Lib.hid hrd
  rw [hg] at AA A3 RR ⊢
  clear a1 a2 a3 hb hg hrd
  go_wp2_with (refine wpList_store_to rfl 24 _ _ rfl g6 [vA] [.slice none 0 0] 24 rfl rfl AA.out sPS rfl ONEA.out ?_)
  intro W6 e1 e2 e3 e4
  have XA := Lib.hid e1
  have E6 := Lib.hid (EB.out.trans (e3.mono hbg))
  have RA := Lib.hid (((RR.out.below A3.out).below e3).more (show g6 ≤ W6.heap.size by omega))
  clear e1 e2 e3 e4 AA EB A3 hbg hgs HG RR
  have P6_w := Lib.hid (P5_w.out.trans (E6.out.mono P5_w.out.size))
  clear P5_w
  have P6_y0 := Lib.hid (P5_y0.out.trans (E6.out.mono P5_y0.out.size))
  clear P5_y0
  have P6_y1 := Lib.hid (P5_y1.out.trans (E6.out.mono P5_y1.out.size))
  clear P5_y1
  have P6_W1 := Lib.hid (P5_W1.out.trans (E6.out.mono P5_W1.out.size))
  clear P5_W1
  have P6_W2 := Lib.hid (P5_W2.out.trans (E6.out.mono P5_W2.out.size))
  clear P5_W2
  have P6_W3 := Lib.hid (P5_W3.out.trans (E6.out.mono P5_W3.out.size))
  clear P5_W3
  have P6_W4 := Lib.hid (E5.out.trans (E6.out.mono E5.out.size))
  have c_X0 := (X0.out.below P6_y0.out X0.out.lt).cell 0
  have c_X1_0 := (X1.out.below P6_y1.out X1.out.lt).at_ 0 _ rfl
  have c_X1_1 := (X1.out.below P6_y1.out X1.out.lt).at_ 1 _ rfl
  have c_X1_2 := (X1.out.below P6_y1.out X1.out.lt).at_ 2 _ rfl
  have c_X1_3 := (X1.out.below P6_y1.out X1.out.lt).at_ 3 _ rfl
  go_wp2_with fail
  refine (shDel_any l p z v W6 ((HR.out.below P6_w.out).more P6_w.out.size) (by have := HL.out; omega)).mono ?_
  rintro e a7 ⟨vE, rfl, hrd, hb⟩
  clear c_X0 c_X1_0 c_X1_1 c_X1_2 c_X1_3
  have ONEE := Lib.hid (one_rd hrd)
  obtain ⟨f3, hf⟩ : ∃ q, delE l p z = q := ⟨_, rfl⟩
  have HF3 := Lib.hid hf
  obtain ⟨L3, hl⟩ : ∃ q, delS l p z = q := ⟨_, rfl⟩
  have HL3 := Lib.hid hl
  have LL3 : Hid (L3.length ≤ 200) := by
    have h1 := (right_del l p z HRP.out).1.few
    show _ ≤ _
    rw [← hl]
    exact h1
  have RR3 : Hid (RightP L3) := by
    show RightP _
    rw [← hl]
    exact (right_del l p z HRP.out).1
  rw [hl] at hrd
  rw [hf]
  clear hf hl
  go_wp2_with (refine wpList_alloc_blk rfl 24 rfl [.slice none 0 0] zPS ?_)
  intro b7 a1 a2 a3
  obtain ⟨g7, hg⟩ : ∃ g, a7.heap.size = g := ⟨_, rfl⟩
  have AA := Lib.hid a1
  have EB := Lib.hid (hb.trans (a3.mono hb.size))
  have A3 := Lib.hid a3
  have hbg : W6.heap.size ≤ g7 := by have := hb.size; omega
  have hgs : g7 ≤ b7.heap.size := by omega
  have HG := Lib.hid hg
  have RR := Lib.hid hrd
  rw [hg] at AA A3 RR ⊢
  clear a1 a2 a3 hb hg hrd
  go_wp2_with (refine wpList_store_to rfl 24 _ _ rfl g7 [vE] [.slice none 0 0] 24 rfl rfl AA.out sPS rfl ONEE.out ?_)
  intro W7 e1 e2 e3 e4
  have XE := Lib.hid e1
  have E7 := Lib.hid (EB.out.trans (e3.mono hbg))
  have RE := Lib.hid (((RR.out.below A3.out).below e3).more (show g7 ≤ W7.heap.size by omega))
  clear e1 e2 e3 e4 AA EB A3 hbg hgs HG RR
  have P7_w := Lib.hid (P6_w.out.trans (E7.out.mono P6_w.out.size))
  clear P6_w
  have P7_y0 := Lib.hid (P6_y0.out.trans (E7.out.mono P6_y0.out.size))
  clear P6_y0
  have P7_y1 := Lib.hid (P6_y1.out.trans (E7.out.mono P6_y1.out.size))
  clear P6_y1
  have P7_W1 := Lib.hid (P6_W1.out.trans (E7.out.mono P6_W1.out.size))
  clear P6_W1
  have P7_W2 := Lib.hid (P6_W2.out.trans (E7.out.mono P6_W2.out.size))
  clear P6_W2
  have P7_W3 := Lib.hid (P6_W3.out.trans (E7.out.mono P6_W3.out.size))
  clear P6_W3
  have P7_W4 := Lib.hid (P6_W4.out.trans (E7.out.mono P6_W4.out.size))
  clear P6_W4
  have P7_W5 := Lib.hid (E6.out.trans (E7.out.mono E6.out.size))
  have c_X6 := (X6.out.below P7_W5.out X6.out.lt).cell 0
  go_wp2_with fail
  refine (plain_any L1 v6 W7 ((R6.out.below P7_W5.out).more P7_W5.out.size) (by have := LL1.out; omega)).mono ?_
  rintro e W8 ⟨vq1, rfl, hrd, hb⟩
  have E8 := Lib.hid hb
  clear hb c_X6
  have P8_w := Lib.hid (P7_w.out.trans (E8.out.mono P7_w.out.size))
  clear P7_w
  have P8_y0 := Lib.hid (P7_y0.out.trans (E8.out.mono P7_y0.out.size))
  clear P7_y0
  have P8_y1 := Lib.hid (P7_y1.out.trans (E8.out.mono P7_y1.out.size))
  clear P7_y1
  have P8_W1 := Lib.hid (P7_W1.out.trans (E8.out.mono P7_W1.out.size))
  clear P7_W1
  have P8_W2 := Lib.hid (P7_W2.out.trans (E8.out.mono P7_W2.out.size))
  clear P7_W2
  have P8_W3 := Lib.hid (P7_W3.out.trans (E8.out.mono P7_W3.out.size))
  clear P7_W3
  have P8_W4 := Lib.hid (P7_W4.out.trans (E8.out.mono P7_W4.out.size))
  clear P7_W4
  have P8_W5 := Lib.hid (P7_W5.out.trans (E8.out.mono P7_W5.out.size))
  clear P7_W5
  have P8_W6 := Lib.hid (E7.out.trans (E8.out.mono E7.out.size))
  have RQ1 := Lib.hid hrd
  clear hrd
  go_wp2_with fail
  refine (rfRight_yes L1 vq1 W8 RQ1.out RR1.out).mono ?_
  rintro e W9 ⟨rfl, hb⟩
  have E9 := Lib.hid hb
  clear hb
  have P9_w := Lib.hid (P8_w.out.trans (E9.out.mono P8_w.out.size))
  clear P8_w
  have P9_y0 := Lib.hid (P8_y0.out.trans (E9.out.mono P8_y0.out.size))
  clear P8_y0
  have P9_y1 := Lib.hid (P8_y1.out.trans (E9.out.mono P8_y1.out.size))
  clear P8_y1
  have P9_W1 := Lib.hid (P8_W1.out.trans (E9.out.mono P8_W1.out.size))
  clear P8_W1
  have P9_W2 := Lib.hid (P8_W2.out.trans (E9.out.mono P8_W2.out.size))
  clear P8_W2
  have P9_W3 := Lib.hid (P8_W3.out.trans (E9.out.mono P8_W3.out.size))
  clear P8_W3
  have P9_W4 := Lib.hid (P8_W4.out.trans (E9.out.mono P8_W4.out.size))
  clear P8_W4
  have P9_W5 := Lib.hid (P8_W5.out.trans (E9.out.mono P8_W5.out.size))
  clear P8_W5
  have P9_W6 := Lib.hid (P8_W6.out.trans (E9.out.mono P8_W6.out.size))
  clear P8_W6
  have P9_W7 := Lib.hid (E8.out.trans (E9.out.mono E8.out.size))
  have c_XA := (XA.out.below P9_W6.out XA.out.lt).cell 0
  go_wp2_with fail
  refine (plain_any L2 vA W9 ((RA.out.below P9_W6.out).more P9_W6.out.size) (by have := LL2.out; omega)).mono ?_
  rintro e W10 ⟨vq2, rfl, hrd, hb⟩
  have E10 := Lib.hid hb
  clear hb c_XA
  have P10_w := Lib.hid (P9_w.out.trans (E10.out.mono P9_w.out.size))
  clear P9_w
  have P10_y0 := Lib.hid (P9_y0.out.trans (E10.out.mono P9_y0.out.size))
  clear P9_y0
  have P10_y1 := Lib.hid (P9_y1.out.trans (E10.out.mono P9_y1.out.size))
  clear P9_y1
  have P10_W1 := Lib.hid (P9_W1.out.trans (E10.out.mono P9_W1.out.size))
  clear P9_W1
  have P10_W2 := Lib.hid (P9_W2.out.trans (E10.out.mono P9_W2.out.size))
  clear P9_W2
  have P10_W3 := Lib.hid (P9_W3.out.trans (E10.out.mono P9_W3.out.size))
  clear P9_W3
  have P10_W4 := Lib.hid (P9_W4.out.trans (E10.out.mono P9_W4.out.size))
  clear P9_W4
  have P10_W5 := Lib.hid (P9_W5.out.trans (E10.out.mono P9_W5.out.size))
  clear P9_W5
  have P10_W6 := Lib.hid (P9_W6.out.trans (E10.out.mono P9_W6.out.size))
  clear P9_W6
  have P10_W7 := Lib.hid (P9_W7.out.trans (E10.out.mono P9_W7.out.size))
  clear P9_W7
  have P10_W8 := Lib.hid (E9.out.trans (E10.out.mono E9.out.size))
  have RQ2 := Lib.hid hrd
  clear hrd
  go_wp2_with fail
  refine (rfRight_yes L2 vq2 W10 RQ2.out RR2.out).mono ?_
  rintro e W11 ⟨rfl, hb⟩
  have E11 := Lib.hid hb
  clear hb
  have P11_w := Lib.hid (P10_w.out.trans (E11.out.mono P10_w.out.size))
  clear P10_w
  have P11_y0 := Lib.hid (P10_y0.out.trans (E11.out.mono P10_y0.out.size))
  clear P10_y0
  have P11_y1 := Lib.hid (P10_y1.out.trans (E11.out.mono P10_y1.out.size))
  clear P10_y1
  have P11_W1 := Lib.hid (P10_W1.out.trans (E11.out.mono P10_W1.out.size))
  clear P10_W1
  have P11_W2 := Lib.hid (P10_W2.out.trans (E11.out.mono P10_W2.out.size))
  clear P10_W2
  have P11_W3 := Lib.hid (P10_W3.out.trans (E11.out.mono P10_W3.out.size))
  clear P10_W3
  have P11_W4 := Lib.hid (P10_W4.out.trans (E11.out.mono P10_W4.out.size))
  clear P10_W4
  have P11_W5 := Lib.hid (P10_W5.out.trans (E11.out.mono P10_W5.out.size))
  clear P10_W5
  have P11_W6 := Lib.hid (P10_W6.out.trans (E11.out.mono P10_W6.out.size))
  clear P10_W6
  have P11_W7 := Lib.hid (P10_W7.out.trans (E11.out.mono P10_W7.out.size))
  clear P10_W7
  have P11_W8 := Lib.hid (P10_W8.out.trans (E11.out.mono P10_W8.out.size))
  clear P10_W8
  have P11_W9 := Lib.hid (E10.out.trans (E11.out.mono E10.out.size))
  have c_XE := (XE.out.below P11_W7.out XE.out.lt).cell 0
  go_wp2_with fail
  refine (plain_any L3 vE W11 ((RE.out.below P11_W7.out).more P11_W7.out.size) (by have := LL3.out; omega)).mono ?_
  rintro e W12 ⟨vq3, rfl, hrd, hb⟩
  have E12 := Lib.hid hb
  clear hb c_XE
  have P12_w := Lib.hid (P11_w.out.trans (E12.out.mono P11_w.out.size))
  clear P11_w
  have P12_y0 := Lib.hid (P11_y0.out.trans (E12.out.mono P11_y0.out.size))
  clear P11_y0
  have P12_y1 := Lib.hid (P11_y1.out.trans (E12.out.mono P11_y1.out.size))
  clear P11_y1
  have P12_W1 := Lib.hid (P11_W1.out.trans (E12.out.mono P11_W1.out.size))
  clear P11_W1
  have P12_W2 := Lib.hid (P11_W2.out.trans (E12.out.mono P11_W2.out.size))
  clear P11_W2
  have P12_W3 := Lib.hid (P11_W3.out.trans (E12.out.mono P11_W3.out.size))
  clear P11_W3
  have P12_W4 := Lib.hid (P11_W4.out.trans (E12.out.mono P11_W4.out.size))
  clear P11_W4
  have P12_W5 := Lib.hid (P11_W5.out.trans (E12.out.mono P11_W5.out.size))
  clear P11_W5
  have P12_W6 := Lib.hid (P11_W6.out.trans (E12.out.mono P11_W6.out.size))
  clear P11_W6
  have P12_W7 := Lib.hid (P11_W7.out.trans (E12.out.mono P11_W7.out.size))
  clear P11_W7
  have P12_W8 := Lib.hid (P11_W8.out.trans (E12.out.mono P11_W8.out.size))
  clear P11_W8
  have P12_W9 := Lib.hid (P11_W9.out.trans (E12.out.mono P11_W9.out.size))
  clear P11_W9
  have P12_W10 := Lib.hid (E11.out.trans (E12.out.mono E11.out.size))
  have RQ3 := Lib.hid hrd
  clear hrd
  go_wp2_with fail
  refine (rfRight_yes L3 vq3 W12 RQ3.out RR3.out).mono ?_
  rintro e W13 ⟨rfl, hb⟩
  have E13 := Lib.hid hb
  clear hb
  have P13_w := Lib.hid (P12_w.out.trans (E13.out.mono P12_w.out.size))
  clear P12_w
  have P13_y0 := Lib.hid (P12_y0.out.trans (E13.out.mono P12_y0.out.size))
  clear P12_y0
  have P13_y1 := Lib.hid (P12_y1.out.trans (E13.out.mono P12_y1.out.size))
  clear P12_y1
  have P13_W1 := Lib.hid (P12_W1.out.trans (E13.out.mono P12_W1.out.size))
  clear P12_W1
  have P13_W2 := Lib.hid (P12_W2.out.trans (E13.out.mono P12_W2.out.size))
  clear P12_W2
  have P13_W3 := Lib.hid (P12_W3.out.trans (E13.out.mono P12_W3.out.size))
  clear P12_W3
  have P13_W4 := Lib.hid (P12_W4.out.trans (E13.out.mono P12_W4.out.size))
  clear P12_W4
  have P13_W5 := Lib.hid (P12_W5.out.trans (E13.out.mono P12_W5.out.size))
  clear P12_W5
  have P13_W6 := Lib.hid (P12_W6.out.trans (E13.out.mono P12_W6.out.size))
  clear P12_W6
  have P13_W7 := Lib.hid (P12_W7.out.trans (E13.out.mono P12_W7.out.size))
  clear P12_W7
  have P13_W8 := Lib.hid (P12_W8.out.trans (E13.out.mono P12_W8.out.size))
  clear P12_W8
  have P13_W9 := Lib.hid (P12_W9.out.trans (E13.out.mono P12_W9.out.size))
  clear P12_W9
  have P13_W10 := Lib.hid (P12_W10.out.trans (E13.out.mono P12_W10.out.size))
  clear P12_W10
  have P13_W11 := Lib.hid (E12.out.trans (E13.out.mono E12.out.size))
  by_cases hxp : x = p
  rotate_left
  · have hne := txt_ne x p hxp
    have K1 : Hid (getE L1 x = e0 ∧ getS L1 x = nd) := by
      have h := (right_create l p vl o HRP.out).2.1 x hxp
      rw [HL1.out, HNX.out, HFX.out] at h
      exact h
    have K2 : Hid (getE L2 x = e0 ∧ getS L2 x = nd) := by
      have h := (right_set l p vl z HRP.out).2.1 x hxp
      rw [HL2.out, HNX.out, HFX.out] at h
      exact h
    have K3 : Hid (getE L3 x = e0 ∧ getS L3 x = nd) := by
      have h := (right_del l p z HRP.out).2.1 x hxp
      rw [HL3.out, HNX.out, HFX.out] at h
      exact h
    clear hxp
    have c_X6 := (X6.out.below P13_W5.out X6.out.lt).cell 0
    have c_X1_0 := (X1.out.below P13_y1.out X1.out.lt).at_ 0 _ rfl
    have c_X1_1 := (X1.out.below P13_y1.out X1.out.lt).at_ 1 _ rfl
    have c_X1_2 := (X1.out.below P13_y1.out X1.out.lt).at_ 2 _ rfl
    have c_X1_3 := (X1.out.below P13_y1.out X1.out.lt).at_ 3 _ rfl
    go_wp2_with fail
    refine (shGet_any L1 x v6 W13 ((R6.out.below P13_W5.out).more P13_W5.out.size)).mono ?_
    rintro e a14 ⟨rfl, hb⟩
    clear c_X6 c_X1_0 c_X1_1 c_X1_2 c_X1_3
    rw [K1.out.1, K1.out.2]
    go_wp2_with (refine wpList_alloc_blk rfl 53 rfl (ndc nd0) zPN ?_)
    intro b14 a1 a2 a3
    obtain ⟨g14, hg⟩ : ∃ g, a14.heap.size = g := ⟨_, rfl⟩
    have AA := Lib.hid a1
    have EB := Lib.hid (hb.trans (a3.mono hb.size))
    have A3 := Lib.hid a3
    have hbg : W13.heap.size ≤ g14 := by have := hb.size; omega
    have hgs : g14 ≤ b14.heap.size := by omega
    have HG := Lib.hid hg
    rw [hg] at AA A3 ⊢
    clear a1 a2 a3 hb hg
    go_wp2_with (refine wpList_store_to rfl 53 _ _ rfl g14 (ndc nd) (ndc nd0) 53 rfl rfl AA.out sPN rfl (ndc_one _) ?_)
    intro W14 e1 e2 e3 e4
    have XM1 := Lib.hid e1
    have E14 := Lib.hid (EB.out.trans (e3.mono hbg))
    clear e1 e2 e3 e4 AA EB A3 hbg hgs HG
    have P14_w := Lib.hid (P13_w.out.trans (E14.out.mono P13_w.out.size))
    clear P13_w
    have P14_y0 := Lib.hid (P13_y0.out.trans (E14.out.mono P13_y0.out.size))
    clear P13_y0
    have P14_y1 := Lib.hid (P13_y1.out.trans (E14.out.mono P13_y1.out.size))
    clear P13_y1
    have P14_W1 := Lib.hid (P13_W1.out.trans (E14.out.mono P13_W1.out.size))
    clear P13_W1
    have P14_W2 := Lib.hid (P13_W2.out.trans (E14.out.mono P13_W2.out.size))
    clear P13_W2
    have P14_W3 := Lib.hid (P13_W3.out.trans (E14.out.mono P13_W3.out.size))
    clear P13_W3
    have P14_W4 := Lib.hid (P13_W4.out.trans (E14.out.mono P13_W4.out.size))
    clear P13_W4
    have P14_W5 := Lib.hid (P13_W5.out.trans (E14.out.mono P13_W5.out.size))
    clear P13_W5
    have P14_W6 := Lib.hid (P13_W6.out.trans (E14.out.mono P13_W6.out.size))
    clear P13_W6
    have P14_W7 := Lib.hid (P13_W7.out.trans (E14.out.mono P13_W7.out.size))
    clear P13_W7
    have P14_W8 := Lib.hid (P13_W8.out.trans (E14.out.mono P13_W8.out.size))
    clear P13_W8
    have P14_W9 := Lib.hid (P13_W9.out.trans (E14.out.mono P13_W9.out.size))
    clear P13_W9
    have P14_W10 := Lib.hid (P13_W10.out.trans (E14.out.mono P13_W10.out.size))
    clear P13_W10
    have P14_W11 := Lib.hid (P13_W11.out.trans (E14.out.mono P13_W11.out.size))
    clear P13_W11
    have P14_W12 := Lib.hid (E13.out.trans (E14.out.mono E13.out.size))
    have c_XA := (XA.out.below P14_W6.out XA.out.lt).cell 0
    go_wp2_with fail
    refine (shGet_any L2 x vA W14 ((RA.out.below P14_W6.out).more P14_W6.out.size)).mono ?_
    rintro e a15 ⟨rfl, hb⟩
    clear c_XA
    rw [K2.out.1, K2.out.2]
    go_wp2_with (refine wpList_alloc_blk rfl 53 rfl (ndc nd0) zPN ?_)
    intro b15 a1 a2 a3
    obtain ⟨g15, hg⟩ : ∃ g, a15.heap.size = g := ⟨_, rfl⟩
    have AA := Lib.hid a1
    have EB := Lib.hid (hb.trans (a3.mono hb.size))
    have A3 := Lib.hid a3
    have hbg : W14.heap.size ≤ g15 := by have := hb.size; omega
    have hgs : g15 ≤ b15.heap.size := by omega
    have HG := Lib.hid hg
    rw [hg] at AA A3 ⊢
    clear a1 a2 a3 hb hg
    go_wp2_with (refine wpList_store_to rfl 53 _ _ rfl g15 (ndc nd) (ndc nd0) 53 rfl rfl AA.out sPN rfl (ndc_one _) ?_)
    intro W15 e1 e2 e3 e4
    have XM2 := Lib.hid e1
    have E15 := Lib.hid (EB.out.trans (e3.mono hbg))
    clear e1 e2 e3 e4 AA EB A3 hbg hgs HG
    have P15_w := Lib.hid (P14_w.out.trans (E15.out.mono P14_w.out.size))
    clear P14_w
    have P15_y0 := Lib.hid (P14_y0.out.trans (E15.out.mono P14_y0.out.size))
    clear P14_y0
    have P15_y1 := Lib.hid (P14_y1.out.trans (E15.out.mono P14_y1.out.size))
    clear P14_y1
    have P15_W1 := Lib.hid (P14_W1.out.trans (E15.out.mono P14_W1.out.size))
    clear P14_W1
    have P15_W2 := Lib.hid (P14_W2.out.trans (E15.out.mono P14_W2.out.size))
    clear P14_W2
    have P15_W3 := Lib.hid (P14_W3.out.trans (E15.out.mono P14_W3.out.size))
    clear P14_W3
    have P15_W4 := Lib.hid (P14_W4.out.trans (E15.out.mono P14_W4.out.size))
    clear P14_W4
    have P15_W5 := Lib.hid (P14_W5.out.trans (E15.out.mono P14_W5.out.size))
    clear P14_W5
    have P15_W6 := Lib.hid (P14_W6.out.trans (E15.out.mono P14_W6.out.size))
    clear P14_W6
    have P15_W7 := Lib.hid (P14_W7.out.trans (E15.out.mono P14_W7.out.size))
    clear P14_W7
    have P15_W8 := Lib.hid (P14_W8.out.trans (E15.out.mono P14_W8.out.size))
    clear P14_W8
    have P15_W9 := Lib.hid (P14_W9.out.trans (E15.out.mono P14_W9.out.size))
    clear P14_W9
    have P15_W10 := Lib.hid (P14_W10.out.trans (E15.out.mono P14_W10.out.size))
    clear P14_W10
    have P15_W11 := Lib.hid (P14_W11.out.trans (E15.out.mono P14_W11.out.size))
    clear P14_W11
    have P15_W12 := Lib.hid (P14_W12.out.trans (E15.out.mono P14_W12.out.size))
    clear P14_W12
    have P15_W13 := Lib.hid (E14.out.trans (E15.out.mono E14.out.size))
    have c_XE := (XE.out.below P15_W7.out XE.out.lt).cell 0
    go_wp2_with fail
    refine (shGet_any L3 x vE W15 ((RE.out.below P15_W7.out).more P15_W7.out.size)).mono ?_
    rintro e a16 ⟨rfl, hb⟩
    clear c_XE
    rw [K3.out.1, K3.out.2]
    go_wp2_with (refine wpList_alloc_blk rfl 53 rfl (ndc nd0) zPN ?_)
    intro b16 a1 a2 a3
    obtain ⟨g16, hg⟩ : ∃ g, a16.heap.size = g := ⟨_, rfl⟩
    have AA := Lib.hid a1
    have EB := Lib.hid (hb.trans (a3.mono hb.size))
    have A3 := Lib.hid a3
    have hbg : W15.heap.size ≤ g16 := by have := hb.size; omega
    have hgs : g16 ≤ b16.heap.size := by omega
    have HG := Lib.hid hg
    rw [hg] at AA A3 ⊢
    clear a1 a2 a3 hb hg
    go_wp2_with (refine wpList_store_to rfl 53 _ _ rfl g16 (ndc nd) (ndc nd0) 53 rfl rfl AA.out sPN rfl (ndc_one _) ?_)
    intro W16 e1 e2 e3 e4
    have XM3 := Lib.hid e1
    have E16 := Lib.hid (EB.out.trans (e3.mono hbg))
    clear e1 e2 e3 e4 AA EB A3 hbg hgs HG
    have P16_w := Lib.hid (P15_w.out.trans (E16.out.mono P15_w.out.size))
    clear P15_w
    have P16_y0 := Lib.hid (P15_y0.out.trans (E16.out.mono P15_y0.out.size))
    clear P15_y0
    have P16_y1 := Lib.hid (P15_y1.out.trans (E16.out.mono P15_y1.out.size))
    clear P15_y1
    have P16_W1 := Lib.hid (P15_W1.out.trans (E16.out.mono P15_W1.out.size))
    clear P15_W1
    have P16_W2 := Lib.hid (P15_W2.out.trans (E16.out.mono P15_W2.out.size))
    clear P15_W2
    have P16_W3 := Lib.hid (P15_W3.out.trans (E16.out.mono P15_W3.out.size))
    clear P15_W3
    have P16_W4 := Lib.hid (P15_W4.out.trans (E16.out.mono P15_W4.out.size))
    clear P15_W4
    have P16_W5 := Lib.hid (P15_W5.out.trans (E16.out.mono P15_W5.out.size))
    clear P15_W5
    have P16_W6 := Lib.hid (P15_W6.out.trans (E16.out.mono P15_W6.out.size))
    clear P15_W6
    have P16_W7 := Lib.hid (P15_W7.out.trans (E16.out.mono P15_W7.out.size))
    clear P15_W7
    have P16_W8 := Lib.hid (P15_W8.out.trans (E16.out.mono P15_W8.out.size))
    clear P15_W8
    have P16_W9 := Lib.hid (P15_W9.out.trans (E16.out.mono P15_W9.out.size))
    clear P15_W9
    have P16_W10 := Lib.hid (P15_W10.out.trans (E16.out.mono P15_W10.out.size))
    clear P15_W10
    have P16_W11 := Lib.hid (P15_W11.out.trans (E16.out.mono P15_W11.out.size))
    clear P15_W11
    have P16_W12 := Lib.hid (P15_W12.out.trans (E16.out.mono P15_W12.out.size))
    clear P15_W12
    have P16_W13 := Lib.hid (P15_W13.out.trans (E16.out.mono P15_W13.out.size))
    clear P15_W13
    have P16_W14 := Lib.hid (E15.out.trans (E16.out.mono E15.out.size))
    go_wp2_with fail
    refine (alive9 W16).mono ?_
    rintro e W17 ⟨rfl, hb⟩
    have E17 := Lib.hid hb
    clear hb
    have P17_w := Lib.hid (P16_w.out.trans (E17.out.mono P16_w.out.size))
    clear P16_w
    have P17_y0 := Lib.hid (P16_y0.out.trans (E17.out.mono P16_y0.out.size))
    clear P16_y0
    have P17_y1 := Lib.hid (P16_y1.out.trans (E17.out.mono P16_y1.out.size))
    clear P16_y1
    have P17_W1 := Lib.hid (P16_W1.out.trans (E17.out.mono P16_W1.out.size))
    clear P16_W1
    have P17_W2 := Lib.hid (P16_W2.out.trans (E17.out.mono P16_W2.out.size))
    clear P16_W2
    have P17_W3 := Lib.hid (P16_W3.out.trans (E17.out.mono P16_W3.out.size))
    clear P16_W3
    have P17_W4 := Lib.hid (P16_W4.out.trans (E17.out.mono P16_W4.out.size))
    clear P16_W4
    have P17_W5 := Lib.hid (P16_W5.out.trans (E17.out.mono P16_W5.out.size))
    clear P16_W5
    have P17_W6 := Lib.hid (P16_W6.out.trans (E17.out.mono P16_W6.out.size))
    clear P16_W6
    have P17_W7 := Lib.hid (P16_W7.out.trans (E17.out.mono P16_W7.out.size))
    clear P16_W7
    have P17_W8 := Lib.hid (P16_W8.out.trans (E17.out.mono P16_W8.out.size))
    clear P16_W8
    have P17_W9 := Lib.hid (P16_W9.out.trans (E17.out.mono P16_W9.out.size))
    clear P16_W9
    have P17_W10 := Lib.hid (P16_W10.out.trans (E17.out.mono P16_W10.out.size))
    clear P16_W10
    have P17_W11 := Lib.hid (P16_W11.out.trans (E17.out.mono P16_W11.out.size))
    clear P16_W11
    have P17_W12 := Lib.hid (P16_W12.out.trans (E17.out.mono P16_W12.out.size))
    clear P16_W12
    have P17_W13 := Lib.hid (P16_W13.out.trans (E17.out.mono P16_W13.out.size))
    clear P16_W13
    have P17_W14 := Lib.hid (P16_W14.out.trans (E17.out.mono P16_W14.out.size))
    clear P16_W14
    have P17_W15 := Lib.hid (E16.out.trans (E17.out.mono E16.out.size))
    have c_XN_0 := (XN.out.below P17_W4.out XN.out.lt).at_ 0 _ rfl
    have c_XN_1 := (XN.out.below P17_W4.out XN.out.lt).at_ 1 _ rfl
    have c_XN_2 := (XN.out.below P17_W4.out XN.out.lt).at_ 2 _ rfl
    have c_XN_3 := (XN.out.below P17_W4.out XN.out.lt).at_ 3 _ rfl
    have c_XM1_0 := (XM1.out.below P17_W14.out XM1.out.lt).at_ 0 _ rfl
    have c_XM1_1 := (XM1.out.below P17_W14.out XM1.out.lt).at_ 1 _ rfl
    have c_XM1_2 := (XM1.out.below P17_W14.out XM1.out.lt).at_ 2 _ rfl
    have c_XM1_3 := (XM1.out.below P17_W14.out XM1.out.lt).at_ 3 _ rfl
    have c_XM2_0 := (XM2.out.below P17_W15.out XM2.out.lt).at_ 0 _ rfl
    have c_XM2_1 := (XM2.out.below P17_W15.out XM2.out.lt).at_ 1 _ rfl
    have c_XM2_2 := (XM2.out.below P17_W15.out XM2.out.lt).at_ 2 _ rfl
    have c_XM2_3 := (XM2.out.below P17_W15.out XM2.out.lt).at_ 3 _ rfl
    have c_XM3_0 := (XM3.out.below E17.out XM3.out.lt).at_ 0 _ rfl
    have c_XM3_1 := (XM3.out.below E17.out XM3.out.lt).at_ 1 _ rfl
    have c_XM3_2 := (XM3.out.below E17.out XM3.out.lt).at_ 2 _ rfl
    have c_XM3_3 := (XM3.out.below E17.out XM3.out.lt).at_ 3 _ rfl
    have heq := fun w => run_eql_ndP nd nd w
    rw [decide_eq_true (rfl : nd = nd)] at heq
    have hff : ((e0 : Int) == (e0 : Int)) = true := by simp
    go_wp2
    go_ret
    exact ⟨rfl, P17_w.out⟩
  subst hxp
  have hee : (x == x) = true := by simp
  have c_X6 := (X6.out.below P13_W5.out X6.out.lt).cell 0
  have c_X1_0 := (X1.out.below P13_y1.out X1.out.lt).at_ 0 _ rfl
  have c_X1_1 := (X1.out.below P13_y1.out X1.out.lt).at_ 1 _ rfl
  have c_X1_2 := (X1.out.below P13_y1.out X1.out.lt).at_ 2 _ rfl
  have c_X1_3 := (X1.out.below P13_y1.out X1.out.lt).at_ 3 _ rfl
  go_wp2_with fail
  refine (shGet_any L1 x v6 W13 ((R6.out.below P13_W5.out).more P13_W5.out.size)).mono ?_
  rintro e a14 ⟨rfl, hb⟩
  clear c_X6 c_X1_0 c_X1_1 c_X1_2 c_X1_3
  obtain ⟨y19, hx⟩ : ∃ q, getS L1 x = q := ⟨_, rfl⟩
  obtain ⟨e1, hf⟩ : ∃ q, getE L1 x = q := ⟨_, rfl⟩
  have HY1 := Lib.hid hx
  have HE1 := Lib.hid hf
  rw [hx, hf]
  clear hx hf
  go_wp2_with (refine wpList_alloc_blk rfl 53 rfl (ndc nd0) zPN ?_)
  intro b14 a1 a2 a3
  obtain ⟨g14, hg⟩ : ∃ g, a14.heap.size = g := ⟨_, rfl⟩
  have AA := Lib.hid a1
  have EB := Lib.hid (hb.trans (a3.mono hb.size))
  have A3 := Lib.hid a3
  have hbg : W13.heap.size ≤ g14 := by have := hb.size; omega
  have hgs : g14 ≤ b14.heap.size := by omega
  have HG := Lib.hid hg
  rw [hg] at AA A3 ⊢
  clear a1 a2 a3 hb hg
  go_wp2_with (refine wpList_store_to rfl 53 _ _ rfl g14 (ndc y19) (ndc nd0) 53 rfl rfl AA.out sPN rfl (ndc_one _) ?_)
  intro W14 e1 e2 e3 e4
  have XM1 := Lib.hid e1
  have E14 := Lib.hid (EB.out.trans (e3.mono hbg))
  clear e1 e2 e3 e4 AA EB A3 hbg hgs HG
  have P14_w := Lib.hid (P13_w.out.trans (E14.out.mono P13_w.out.size))
  clear P13_w
  have P14_y0 := Lib.hid (P13_y0.out.trans (E14.out.mono P13_y0.out.size))
  clear P13_y0
  have P14_y1 := Lib.hid (P13_y1.out.trans (E14.out.mono P13_y1.out.size))
  clear P13_y1
  have P14_W1 := Lib.hid (P13_W1.out.trans (E14.out.mono P13_W1.out.size))
  clear P13_W1
  have P14_W2 := Lib.hid (P13_W2.out.trans (E14.out.mono P13_W2.out.size))
  clear P13_W2
  have P14_W3 := Lib.hid (P13_W3.out.trans (E14.out.mono P13_W3.out.size))
  clear P13_W3
  have P14_W4 := Lib.hid (P13_W4.out.trans (E14.out.mono P13_W4.out.size))
  clear P13_W4
  have P14_W5 := Lib.hid (P13_W5.out.trans (E14.out.mono P13_W5.out.size))
  clear P13_W5
  have P14_W6 := Lib.hid (P13_W6.out.trans (E14.out.mono P13_W6.out.size))
  clear P13_W6
  have P14_W7 := Lib.hid (P13_W7.out.trans (E14.out.mono P13_W7.out.size))
  clear P13_W7
  have P14_W8 := Lib.hid (P13_W8.out.trans (E14.out.mono P13_W8.out.size))
  clear P13_W8
  have P14_W9 := Lib.hid (P13_W9.out.trans (E14.out.mono P13_W9.out.size))
  clear P13_W9
  have P14_W10 := Lib.hid (P13_W10.out.trans (E14.out.mono P13_W10.out.size))
  clear P13_W10
  have P14_W11 := Lib.hid (P13_W11.out.trans (E14.out.mono P13_W11.out.size))
  clear P13_W11
  have P14_W12 := Lib.hid (E13.out.trans (E14.out.mono E13.out.size))
  have c_XA := (XA.out.below P14_W6.out XA.out.lt).cell 0
  go_wp2_with fail
  refine (shGet_any L2 x vA W14 ((RA.out.below P14_W6.out).more P14_W6.out.size)).mono ?_
  rintro e a15 ⟨rfl, hb⟩
  clear c_XA
  obtain ⟨y29, hx⟩ : ∃ q, getS L2 x = q := ⟨_, rfl⟩
  obtain ⟨e2, hf⟩ : ∃ q, getE L2 x = q := ⟨_, rfl⟩
  have HY2 := Lib.hid hx
  have HE2 := Lib.hid hf
  rw [hx, hf]
  clear hx hf
  go_wp2_with (refine wpList_alloc_blk rfl 53 rfl (ndc nd0) zPN ?_)
  intro b15 a1 a2 a3
  obtain ⟨g15, hg⟩ : ∃ g, a15.heap.size = g := ⟨_, rfl⟩
  have AA := Lib.hid a1
  have EB := Lib.hid (hb.trans (a3.mono hb.size))
  have A3 := Lib.hid a3
  have hbg : W14.heap.size ≤ g15 := by have := hb.size; omega
  have hgs : g15 ≤ b15.heap.size := by omega
  have HG := Lib.hid hg
  rw [hg] at AA A3 ⊢
  clear a1 a2 a3 hb hg
  go_wp2_with (refine wpList_store_to rfl 53 _ _ rfl g15 (ndc y29) (ndc nd0) 53 rfl rfl AA.out sPN rfl (ndc_one _) ?_)
  intro W15 e1 e2 e3 e4
  have XM2 := Lib.hid e1
  have E15 := Lib.hid (EB.out.trans (e3.mono hbg))
  clear e1 e2 e3 e4 AA EB A3 hbg hgs HG
  have P15_w := Lib.hid (P14_w.out.trans (E15.out.mono P14_w.out.size))
  clear P14_w
  have P15_y0 := Lib.hid (P14_y0.out.trans (E15.out.mono P14_y0.out.size))
  clear P14_y0
  have P15_y1 := Lib.hid (P14_y1.out.trans (E15.out.mono P14_y1.out.size))
  clear P14_y1
  have P15_W1 := Lib.hid (P14_W1.out.trans (E15.out.mono P14_W1.out.size))
  clear P14_W1
  have P15_W2 := Lib.hid (P14_W2.out.trans (E15.out.mono P14_W2.out.size))
  clear P14_W2
  have P15_W3 := Lib.hid (P14_W3.out.trans (E15.out.mono P14_W3.out.size))
  clear P14_W3
  have P15_W4 := Lib.hid (P14_W4.out.trans (E15.out.mono P14_W4.out.size))
  clear P14_W4
  have P15_W5 := Lib.hid (P14_W5.out.trans (E15.out.mono P14_W5.out.size))
  clear P14_W5
  have P15_W6 := Lib.hid (P14_W6.out.trans (E15.out.mono P14_W6.out.size))
  clear P14_W6
  have P15_W7 := Lib.hid (P14_W7.out.trans (E15.out.mono P14_W7.out.size))
  clear P14_W7
  have P15_W8 := Lib.hid (P14_W8.out.trans (E15.out.mono P14_W8.out.size))
  clear P14_W8
  have P15_W9 := Lib.hid (P14_W9.out.trans (E15.out.mono P14_W9.out.size))
  clear P14_W9
  have P15_W10 := Lib.hid (P14_W10.out.trans (E15.out.mono P14_W10.out.size))
  clear P14_W10
  have P15_W11 := Lib.hid (P14_W11.out.trans (E15.out.mono P14_W11.out.size))
  clear P14_W11
  have P15_W12 := Lib.hid (P14_W12.out.trans (E15.out.mono P14_W12.out.size))
  clear P14_W12
  have P15_W13 := Lib.hid (E14.out.trans (E15.out.mono E14.out.size))
  have c_XE := (XE.out.below P15_W7.out XE.out.lt).cell 0
  go_wp2_with fail
  refine (shGet_any L3 x vE W15 ((RE.out.below P15_W7.out).more P15_W7.out.size)).mono ?_
  rintro e a16 ⟨rfl, hb⟩
  clear c_XE
  obtain ⟨y39, hx⟩ : ∃ q, getS L3 x = q := ⟨_, rfl⟩
  obtain ⟨e3, hf⟩ : ∃ q, getE L3 x = q := ⟨_, rfl⟩
  have HY3 := Lib.hid hx
  have HE3 := Lib.hid hf
  rw [hx, hf]
  clear hx hf
  go_wp2_with (refine wpList_alloc_blk rfl 53 rfl (ndc nd0) zPN ?_)
  intro b16 a1 a2 a3
  obtain ⟨g16, hg⟩ : ∃ g, a16.heap.size = g := ⟨_, rfl⟩
  have AA := Lib.hid a1
  have EB := Lib.hid (hb.trans (a3.mono hb.size))
  have A3 := Lib.hid a3
  have hbg : W15.heap.size ≤ g16 := by have := hb.size; omega
  have hgs : g16 ≤ b16.heap.size := by omega
  have HG := Lib.hid hg
  rw [hg] at AA A3 ⊢
  clear a1 a2 a3 hb hg
  go_wp2_with (refine wpList_store_to rfl 53 _ _ rfl g16 (ndc y39) (ndc nd0) 53 rfl rfl AA.out sPN rfl (ndc_one _) ?_)
  intro W16 e1 e2 e3 e4
  have XM3 := Lib.hid e1
  have E16 := Lib.hid (EB.out.trans (e3.mono hbg))
  clear e1 e2 e3 e4 AA EB A3 hbg hgs HG
  have P16_w := Lib.hid (P15_w.out.trans (E16.out.mono P15_w.out.size))
  clear P15_w
  have P16_y0 := Lib.hid (P15_y0.out.trans (E16.out.mono P15_y0.out.size))
  clear P15_y0
  have P16_y1 := Lib.hid (P15_y1.out.trans (E16.out.mono P15_y1.out.size))
  clear P15_y1
  have P16_W1 := Lib.hid (P15_W1.out.trans (E16.out.mono P15_W1.out.size))
  clear P15_W1
  have P16_W2 := Lib.hid (P15_W2.out.trans (E16.out.mono P15_W2.out.size))
  clear P15_W2
  have P16_W3 := Lib.hid (P15_W3.out.trans (E16.out.mono P15_W3.out.size))
  clear P15_W3
  have P16_W4 := Lib.hid (P15_W4.out.trans (E16.out.mono P15_W4.out.size))
  clear P15_W4
  have P16_W5 := Lib.hid (P15_W5.out.trans (E16.out.mono P15_W5.out.size))
  clear P15_W5
  have P16_W6 := Lib.hid (P15_W6.out.trans (E16.out.mono P15_W6.out.size))
  clear P15_W6
  have P16_W7 := Lib.hid (P15_W7.out.trans (E16.out.mono P15_W7.out.size))
  clear P15_W7
  have P16_W8 := Lib.hid (P15_W8.out.trans (E16.out.mono P15_W8.out.size))
  clear P15_W8
  have P16_W9 := Lib.hid (P15_W9.out.trans (E16.out.mono P15_W9.out.size))
  clear P15_W9
  have P16_W10 := Lib.hid (P15_W10.out.trans (E16.out.mono P15_W10.out.size))
  clear P15_W10
  have P16_W11 := Lib.hid (P15_W11.out.trans (E16.out.mono P15_W11.out.size))
  clear P15_W11
  have P16_W12 := Lib.hid (P15_W12.out.trans (E16.out.mono P15_W12.out.size))
  clear P15_W12
  have P16_W13 := Lib.hid (P15_W13.out.trans (E16.out.mono P15_W13.out.size))
  clear P15_W13
  have P16_W14 := Lib.hid (E15.out.trans (E16.out.mono E15.out.size))
  have A1 : Hid (f1 = 0 → e1 = 0 ∧ y19 = (x, vl, 0, o) ∧ e0 = 6) := by
    intro h
    have h2 := (right_create l x vl o HRP.out).2.2 (by rw [HF1.out, h])
    rw [HL1.out, HY1.out, HE1.out, HFX.out] at h2
    exact h2
  have A2 : Hid (f2 = 0 → e2 = 0 ∧ y29 = (x, vl, nR nd + 1, nO nd) ∧ IntKind.i64.wrap (nR nd + 1) = nR nd + 1) := by
    intro h
    have h0 : setE l x vl z = 0 := by rw [HF2.out, h]
    have h2 := (right_set l x vl z HRP.out).2.2 h0
    rw [HL2.out, HY2.out, HE2.out, HNX.out] at h2
    refine ⟨h2.1, h2.2, ?_⟩
    have hg := (setE_zero l x vl z h0).1
    have hn : getS l x = nodeN l x := by unfold getS; rw [if_pos hg]
    have hH := (getE_zero l x hg).2
    have hfi := HRP.out.fine _ (hasN_node l x hH).2
    rw [← hn, HNX.out] at hfi
    unfold fineN at hfi
    simp only [Bool.and_eq_true, decide_eq_true_eq] at hfi
    exact wrap_up (nR nd) (by omega) (by omega)
  have A3 : Hid (f3 = 0 → e3 = 6) := by
    intro h
    have h2 := (right_del l x z HRP.out).2.2 (by rw [HF3.out, h])
    rw [HL3.out, HE3.out] at h2
    exact h2
  obtain ⟨r, hr⟩ : ∃ r, nR nd = r := ⟨_, rfl⟩
  obtain ⟨oo, ho⟩ : ∃ r, nO nd = r := ⟨_, rfl⟩
  rw [hr, ho] at A2
  have HRR := Lib.hid hr
  have HOO := Lib.hid ho
  clear hr ho
  by_cases hz1 : f1 = 0
  · obtain ⟨q1, q2, q3⟩ := A1.out hz1
    subst q1 q2 q3 hz1
    by_cases hz2 : f2 = 0
    · obtain ⟨q1, q2, hw2⟩ := A2.out hz2
      subst q1 q2 hz2
      by_cases hz3 : f3 = 0
      · obtain q1 := A3.out hz3
        subst q1 hz3
        have n2 := (XN.out.below P16_W4.out XN.out.lt).at_ 2 _ rfl
        have n3 := (XN.out.below P16_W4.out XN.out.lt).at_ 3 _ rfl
        rw [HRR.out] at n2
        rw [HOO.out] at n3
        have c_X1_0 := (X1.out.below P16_y1.out X1.out.lt).at_ 0 _ rfl
        have c_X1_1 := (X1.out.below P16_y1.out X1.out.lt).at_ 1 _ rfl
        have c_X1_2 := (X1.out.below P16_y1.out X1.out.lt).at_ 2 _ rfl
        have c_X1_3 := (X1.out.below P16_y1.out X1.out.lt).at_ 3 _ rfl
        have d_XM1_0 := (XM1.out.below P16_W14.out XM1.out.lt).at_ 0 (txt x) rfl
        have d_XM1_1 := (XM1.out.below P16_W14.out XM1.out.lt).at_ 1 (txt vl) rfl
        have d_XM1_2 := (XM1.out.below P16_W14.out XM1.out.lt).at_ 2 (.int .i64 0) rfl
        have d_XM1_3 := (XM1.out.below P16_W14.out XM1.out.lt).at_ 3 (.int .i64 o) rfl
        have hq1 := fun w => eql_same _ x vl 0 o rfl w
        have d_XM2_0 := (XM2.out.below E16.out XM2.out.lt).at_ 0 (txt x) rfl
        have d_XM2_1 := (XM2.out.below E16.out XM2.out.lt).at_ 1 (txt vl) rfl
        have d_XM2_2 := (XM2.out.below E16.out XM2.out.lt).at_ 2 (.int .i64 (r + 1)) rfl
        have d_XM2_3 := (XM2.out.below E16.out XM2.out.lt).at_ 3 (.int .i64 oo) rfl
        have hq2 := fun w => eql_same _ x vl (r + 1) oo rfl w
        go_wp2_with fail
        refine (alive9 W16).mono ?_
        rintro e W17 ⟨rfl, hb⟩
        have E17 := Lib.hid hb
        clear hb n2 n3 c_X1_0 c_X1_1 c_X1_2 c_X1_3 d_XM1_0 d_XM1_1 d_XM1_2 d_XM1_3 hq1 d_XM2_0 d_XM2_1 d_XM2_2 d_XM2_3 hq2
        have P17_w := Lib.hid (P16_w.out.trans (E17.out.mono P16_w.out.size))
        clear P16_w
        have P17_y0 := Lib.hid (P16_y0.out.trans (E17.out.mono P16_y0.out.size))
        clear P16_y0
        have P17_y1 := Lib.hid (P16_y1.out.trans (E17.out.mono P16_y1.out.size))
        clear P16_y1
        have P17_W1 := Lib.hid (P16_W1.out.trans (E17.out.mono P16_W1.out.size))
        clear P16_W1
        have P17_W2 := Lib.hid (P16_W2.out.trans (E17.out.mono P16_W2.out.size))
        clear P16_W2
        have P17_W3 := Lib.hid (P16_W3.out.trans (E17.out.mono P16_W3.out.size))
        clear P16_W3
        have P17_W4 := Lib.hid (P16_W4.out.trans (E17.out.mono P16_W4.out.size))
        clear P16_W4
        have P17_W5 := Lib.hid (P16_W5.out.trans (E17.out.mono P16_W5.out.size))
        clear P16_W5
        have P17_W6 := Lib.hid (P16_W6.out.trans (E17.out.mono P16_W6.out.size))
        clear P16_W6
        have P17_W7 := Lib.hid (P16_W7.out.trans (E17.out.mono P16_W7.out.size))
        clear P16_W7
        have P17_W8 := Lib.hid (P16_W8.out.trans (E17.out.mono P16_W8.out.size))
        clear P16_W8
        have P17_W9 := Lib.hid (P16_W9.out.trans (E17.out.mono P16_W9.out.size))
        clear P16_W9
        have P17_W10 := Lib.hid (P16_W10.out.trans (E17.out.mono P16_W10.out.size))
        clear P16_W10
        have P17_W11 := Lib.hid (P16_W11.out.trans (E17.out.mono P16_W11.out.size))
        clear P16_W11
        have P17_W12 := Lib.hid (P16_W12.out.trans (E17.out.mono P16_W12.out.size))
        clear P16_W12
        have P17_W13 := Lib.hid (P16_W13.out.trans (E17.out.mono P16_W13.out.size))
        clear P16_W13
        have P17_W14 := Lib.hid (P16_W14.out.trans (E17.out.mono P16_W14.out.size))
        clear P16_W14
        have P17_W15 := Lib.hid (E16.out.trans (E17.out.mono E16.out.size))
        go_wp2
        go_ret
        exact ⟨rfl, P17_w.out⟩
      · have hn3 : ((f3 : Int) != 0) = true := by rw [bne_iff_ne]; omega
        clear hz3
        have n2 := (XN.out.below P16_W4.out XN.out.lt).at_ 2 _ rfl
        have n3 := (XN.out.below P16_W4.out XN.out.lt).at_ 3 _ rfl
        rw [HRR.out] at n2
        rw [HOO.out] at n3
        have c_X1_0 := (X1.out.below P16_y1.out X1.out.lt).at_ 0 _ rfl
        have c_X1_1 := (X1.out.below P16_y1.out X1.out.lt).at_ 1 _ rfl
        have c_X1_2 := (X1.out.below P16_y1.out X1.out.lt).at_ 2 _ rfl
        have c_X1_3 := (X1.out.below P16_y1.out X1.out.lt).at_ 3 _ rfl
        have d_XM1_0 := (XM1.out.below P16_W14.out XM1.out.lt).at_ 0 (txt x) rfl
        have d_XM1_1 := (XM1.out.below P16_W14.out XM1.out.lt).at_ 1 (txt vl) rfl
        have d_XM1_2 := (XM1.out.below P16_W14.out XM1.out.lt).at_ 2 (.int .i64 0) rfl
        have d_XM1_3 := (XM1.out.below P16_W14.out XM1.out.lt).at_ 3 (.int .i64 o) rfl
        have hq1 := fun w => eql_same _ x vl 0 o rfl w
        have d_XM2_0 := (XM2.out.below E16.out XM2.out.lt).at_ 0 (txt x) rfl
        have d_XM2_1 := (XM2.out.below E16.out XM2.out.lt).at_ 1 (txt vl) rfl
        have d_XM2_2 := (XM2.out.below E16.out XM2.out.lt).at_ 2 (.int .i64 (r + 1)) rfl
        have d_XM2_3 := (XM2.out.below E16.out XM2.out.lt).at_ 3 (.int .i64 oo) rfl
        have hq2 := fun w => eql_same _ x vl (r + 1) oo rfl w
        go_wp2_with fail
        refine (alive9 W16).mono ?_
        rintro e W17 ⟨rfl, hb⟩
        have E17 := Lib.hid hb
        clear hb n2 n3 c_X1_0 c_X1_1 c_X1_2 c_X1_3 d_XM1_0 d_XM1_1 d_XM1_2 d_XM1_3 hq1 d_XM2_0 d_XM2_1 d_XM2_2 d_XM2_3 hq2
        have P17_w := Lib.hid (P16_w.out.trans (E17.out.mono P16_w.out.size))
        clear P16_w
        have P17_y0 := Lib.hid (P16_y0.out.trans (E17.out.mono P16_y0.out.size))
        clear P16_y0
        have P17_y1 := Lib.hid (P16_y1.out.trans (E17.out.mono P16_y1.out.size))
        clear P16_y1
        have P17_W1 := Lib.hid (P16_W1.out.trans (E17.out.mono P16_W1.out.size))
        clear P16_W1
        have P17_W2 := Lib.hid (P16_W2.out.trans (E17.out.mono P16_W2.out.size))
        clear P16_W2
        have P17_W3 := Lib.hid (P16_W3.out.trans (E17.out.mono P16_W3.out.size))
        clear P16_W3
        have P17_W4 := Lib.hid (P16_W4.out.trans (E17.out.mono P16_W4.out.size))
        clear P16_W4
        have P17_W5 := Lib.hid (P16_W5.out.trans (E17.out.mono P16_W5.out.size))
        clear P16_W5
        have P17_W6 := Lib.hid (P16_W6.out.trans (E17.out.mono P16_W6.out.size))
        clear P16_W6
        have P17_W7 := Lib.hid (P16_W7.out.trans (E17.out.mono P16_W7.out.size))
        clear P16_W7
        have P17_W8 := Lib.hid (P16_W8.out.trans (E17.out.mono P16_W8.out.size))
        clear P16_W8
        have P17_W9 := Lib.hid (P16_W9.out.trans (E17.out.mono P16_W9.out.size))
        clear P16_W9
        have P17_W10 := Lib.hid (P16_W10.out.trans (E17.out.mono P16_W10.out.size))
        clear P16_W10
        have P17_W11 := Lib.hid (P16_W11.out.trans (E17.out.mono P16_W11.out.size))
        clear P16_W11
        have P17_W12 := Lib.hid (P16_W12.out.trans (E17.out.mono P16_W12.out.size))
        clear P16_W12
        have P17_W13 := Lib.hid (P16_W13.out.trans (E17.out.mono P16_W13.out.size))
        clear P16_W13
        have P17_W14 := Lib.hid (P16_W14.out.trans (E17.out.mono P16_W14.out.size))
        clear P16_W14
        have P17_W15 := Lib.hid (E16.out.trans (E17.out.mono E16.out.size))
        go_wp2
        go_ret
        exact ⟨rfl, P17_w.out⟩
    · have hn2 : ((f2 : Int) != 0) = true := by rw [bne_iff_ne]; omega
      clear hz2
      by_cases hz3 : f3 = 0
      · obtain q1 := A3.out hz3
        subst q1 hz3
        have n2 := (XN.out.below P16_W4.out XN.out.lt).at_ 2 _ rfl
        have n3 := (XN.out.below P16_W4.out XN.out.lt).at_ 3 _ rfl
        rw [HRR.out] at n2
        rw [HOO.out] at n3
        have c_X1_0 := (X1.out.below P16_y1.out X1.out.lt).at_ 0 _ rfl
        have c_X1_1 := (X1.out.below P16_y1.out X1.out.lt).at_ 1 _ rfl
        have c_X1_2 := (X1.out.below P16_y1.out X1.out.lt).at_ 2 _ rfl
        have c_X1_3 := (X1.out.below P16_y1.out X1.out.lt).at_ 3 _ rfl
        have d_XM1_0 := (XM1.out.below P16_W14.out XM1.out.lt).at_ 0 (txt x) rfl
        have d_XM1_1 := (XM1.out.below P16_W14.out XM1.out.lt).at_ 1 (txt vl) rfl
        have d_XM1_2 := (XM1.out.below P16_W14.out XM1.out.lt).at_ 2 (.int .i64 0) rfl
        have d_XM1_3 := (XM1.out.below P16_W14.out XM1.out.lt).at_ 3 (.int .i64 o) rfl
        have hq1 := fun w => eql_same _ x vl 0 o rfl w
        go_wp2_with fail
        refine (alive9 W16).mono ?_
        rintro e W17 ⟨rfl, hb⟩
        have E17 := Lib.hid hb
        clear hb n2 n3 c_X1_0 c_X1_1 c_X1_2 c_X1_3 d_XM1_0 d_XM1_1 d_XM1_2 d_XM1_3 hq1
        have P17_w := Lib.hid (P16_w.out.trans (E17.out.mono P16_w.out.size))
        clear P16_w
        have P17_y0 := Lib.hid (P16_y0.out.trans (E17.out.mono P16_y0.out.size))
        clear P16_y0
        have P17_y1 := Lib.hid (P16_y1.out.trans (E17.out.mono P16_y1.out.size))
        clear P16_y1
        have P17_W1 := Lib.hid (P16_W1.out.trans (E17.out.mono P16_W1.out.size))
        clear P16_W1
        have P17_W2 := Lib.hid (P16_W2.out.trans (E17.out.mono P16_W2.out.size))
        clear P16_W2
        have P17_W3 := Lib.hid (P16_W3.out.trans (E17.out.mono P16_W3.out.size))
        clear P16_W3
        have P17_W4 := Lib.hid (P16_W4.out.trans (E17.out.mono P16_W4.out.size))
        clear P16_W4
        have P17_W5 := Lib.hid (P16_W5.out.trans (E17.out.mono P16_W5.out.size))
        clear P16_W5
        have P17_W6 := Lib.hid (P16_W6.out.trans (E17.out.mono P16_W6.out.size))
        clear P16_W6
        have P17_W7 := Lib.hid (P16_W7.out.trans (E17.out.mono P16_W7.out.size))
        clear P16_W7
        have P17_W8 := Lib.hid (P16_W8.out.trans (E17.out.mono P16_W8.out.size))
        clear P16_W8
        have P17_W9 := Lib.hid (P16_W9.out.trans (E17.out.mono P16_W9.out.size))
        clear P16_W9
        have P17_W10 := Lib.hid (P16_W10.out.trans (E17.out.mono P16_W10.out.size))
        clear P16_W10
        have P17_W11 := Lib.hid (P16_W11.out.trans (E17.out.mono P16_W11.out.size))
        clear P16_W11
        have P17_W12 := Lib.hid (P16_W12.out.trans (E17.out.mono P16_W12.out.size))
        clear P16_W12
        have P17_W13 := Lib.hid (P16_W13.out.trans (E17.out.mono P16_W13.out.size))
        clear P16_W13
        have P17_W14 := Lib.hid (P16_W14.out.trans (E17.out.mono P16_W14.out.size))
        clear P16_W14
        have P17_W15 := Lib.hid (E16.out.trans (E17.out.mono E16.out.size))
        go_wp2
        go_ret
        exact ⟨rfl, P17_w.out⟩
      · have hn3 : ((f3 : Int) != 0) = true := by rw [bne_iff_ne]; omega
        clear hz3
        have n2 := (XN.out.below P16_W4.out XN.out.lt).at_ 2 _ rfl
        have n3 := (XN.out.below P16_W4.out XN.out.lt).at_ 3 _ rfl
        rw [HRR.out] at n2
        rw [HOO.out] at n3
        have c_X1_0 := (X1.out.below P16_y1.out X1.out.lt).at_ 0 _ rfl
        have c_X1_1 := (X1.out.below P16_y1.out X1.out.lt).at_ 1 _ rfl
        have c_X1_2 := (X1.out.below P16_y1.out X1.out.lt).at_ 2 _ rfl
        have c_X1_3 := (X1.out.below P16_y1.out X1.out.lt).at_ 3 _ rfl
        have d_XM1_0 := (XM1.out.below P16_W14.out XM1.out.lt).at_ 0 (txt x) rfl
        have d_XM1_1 := (XM1.out.below P16_W14.out XM1.out.lt).at_ 1 (txt vl) rfl
        have d_XM1_2 := (XM1.out.below P16_W14.out XM1.out.lt).at_ 2 (.int .i64 0) rfl
        have d_XM1_3 := (XM1.out.below P16_W14.out XM1.out.lt).at_ 3 (.int .i64 o) rfl
        have hq1 := fun w => eql_same _ x vl 0 o rfl w
        go_wp2_with fail
        refine (alive9 W16).mono ?_
        rintro e W17 ⟨rfl, hb⟩
        have E17 := Lib.hid hb
        clear hb n2 n3 c_X1_0 c_X1_1 c_X1_2 c_X1_3 d_XM1_0 d_XM1_1 d_XM1_2 d_XM1_3 hq1
        have P17_w := Lib.hid (P16_w.out.trans (E17.out.mono P16_w.out.size))
        clear P16_w
        have P17_y0 := Lib.hid (P16_y0.out.trans (E17.out.mono P16_y0.out.size))
        clear P16_y0
        have P17_y1 := Lib.hid (P16_y1.out.trans (E17.out.mono P16_y1.out.size))
        clear P16_y1
        have P17_W1 := Lib.hid (P16_W1.out.trans (E17.out.mono P16_W1.out.size))
        clear P16_W1
        have P17_W2 := Lib.hid (P16_W2.out.trans (E17.out.mono P16_W2.out.size))
        clear P16_W2
        have P17_W3 := Lib.hid (P16_W3.out.trans (E17.out.mono P16_W3.out.size))
        clear P16_W3
        have P17_W4 := Lib.hid (P16_W4.out.trans (E17.out.mono P16_W4.out.size))
        clear P16_W4
        have P17_W5 := Lib.hid (P16_W5.out.trans (E17.out.mono P16_W5.out.size))
        clear P16_W5
        have P17_W6 := Lib.hid (P16_W6.out.trans (E17.out.mono P16_W6.out.size))
        clear P16_W6
        have P17_W7 := Lib.hid (P16_W7.out.trans (E17.out.mono P16_W7.out.size))
        clear P16_W7
        have P17_W8 := Lib.hid (P16_W8.out.trans (E17.out.mono P16_W8.out.size))
        clear P16_W8
        have P17_W9 := Lib.hid (P16_W9.out.trans (E17.out.mono P16_W9.out.size))
        clear P16_W9
        have P17_W10 := Lib.hid (P16_W10.out.trans (E17.out.mono P16_W10.out.size))
        clear P16_W10
        have P17_W11 := Lib.hid (P16_W11.out.trans (E17.out.mono P16_W11.out.size))
        clear P16_W11
        have P17_W12 := Lib.hid (P16_W12.out.trans (E17.out.mono P16_W12.out.size))
        clear P16_W12
        have P17_W13 := Lib.hid (P16_W13.out.trans (E17.out.mono P16_W13.out.size))
        clear P16_W13
        have P17_W14 := Lib.hid (P16_W14.out.trans (E17.out.mono P16_W14.out.size))
        clear P16_W14
        have P17_W15 := Lib.hid (E16.out.trans (E17.out.mono E16.out.size))
        go_wp2
        go_ret
        exact ⟨rfl, P17_w.out⟩
  · have hn1 : ((f1 : Int) != 0) = true := by rw [bne_iff_ne]; omega
    clear hz1
    by_cases hz2 : f2 = 0
    · obtain ⟨q1, q2, hw2⟩ := A2.out hz2
      subst q1 q2 hz2
      by_cases hz3 : f3 = 0
      · obtain q1 := A3.out hz3
        subst q1 hz3
        have n2 := (XN.out.below P16_W4.out XN.out.lt).at_ 2 _ rfl
        have n3 := (XN.out.below P16_W4.out XN.out.lt).at_ 3 _ rfl
        rw [HRR.out] at n2
        rw [HOO.out] at n3
        have c_X1_0 := (X1.out.below P16_y1.out X1.out.lt).at_ 0 _ rfl
        have c_X1_1 := (X1.out.below P16_y1.out X1.out.lt).at_ 1 _ rfl
        have c_X1_2 := (X1.out.below P16_y1.out X1.out.lt).at_ 2 _ rfl
        have c_X1_3 := (X1.out.below P16_y1.out X1.out.lt).at_ 3 _ rfl
        have d_XM2_0 := (XM2.out.below E16.out XM2.out.lt).at_ 0 (txt x) rfl
        have d_XM2_1 := (XM2.out.below E16.out XM2.out.lt).at_ 1 (txt vl) rfl
        have d_XM2_2 := (XM2.out.below E16.out XM2.out.lt).at_ 2 (.int .i64 (r + 1)) rfl
        have d_XM2_3 := (XM2.out.below E16.out XM2.out.lt).at_ 3 (.int .i64 oo) rfl
        have hq2 := fun w => eql_same _ x vl (r + 1) oo rfl w
        go_wp2_with fail
        refine (alive9 W16).mono ?_
        rintro e W17 ⟨rfl, hb⟩
        have E17 := Lib.hid hb
        clear hb n2 n3 c_X1_0 c_X1_1 c_X1_2 c_X1_3 d_XM2_0 d_XM2_1 d_XM2_2 d_XM2_3 hq2
        have P17_w := Lib.hid (P16_w.out.trans (E17.out.mono P16_w.out.size))
        clear P16_w
        have P17_y0 := Lib.hid (P16_y0.out.trans (E17.out.mono P16_y0.out.size))
        clear P16_y0
        have P17_y1 := Lib.hid (P16_y1.out.trans (E17.out.mono P16_y1.out.size))
        clear P16_y1
        have P17_W1 := Lib.hid (P16_W1.out.trans (E17.out.mono P16_W1.out.size))
        clear P16_W1
        have P17_W2 := Lib.hid (P16_W2.out.trans (E17.out.mono P16_W2.out.size))
        clear P16_W2
        have P17_W3 := Lib.hid (P16_W3.out.trans (E17.out.mono P16_W3.out.size))
        clear P16_W3
        have P17_W4 := Lib.hid (P16_W4.out.trans (E17.out.mono P16_W4.out.size))
        clear P16_W4
        have P17_W5 := Lib.hid (P16_W5.out.trans (E17.out.mono P16_W5.out.size))
        clear P16_W5
        have P17_W6 := Lib.hid (P16_W6.out.trans (E17.out.mono P16_W6.out.size))
        clear P16_W6
        have P17_W7 := Lib.hid (P16_W7.out.trans (E17.out.mono P16_W7.out.size))
        clear P16_W7
        have P17_W8 := Lib.hid (P16_W8.out.trans (E17.out.mono P16_W8.out.size))
        clear P16_W8
        have P17_W9 := Lib.hid (P16_W9.out.trans (E17.out.mono P16_W9.out.size))
        clear P16_W9
        have P17_W10 := Lib.hid (P16_W10.out.trans (E17.out.mono P16_W10.out.size))
        clear P16_W10
        have P17_W11 := Lib.hid (P16_W11.out.trans (E17.out.mono P16_W11.out.size))
        clear P16_W11
        have P17_W12 := Lib.hid (P16_W12.out.trans (E17.out.mono P16_W12.out.size))
        clear P16_W12
        have P17_W13 := Lib.hid (P16_W13.out.trans (E17.out.mono P16_W13.out.size))
        clear P16_W13
        have P17_W14 := Lib.hid (P16_W14.out.trans (E17.out.mono P16_W14.out.size))
        clear P16_W14
        have P17_W15 := Lib.hid (E16.out.trans (E17.out.mono E16.out.size))
        go_wp2
        go_ret
        exact ⟨rfl, P17_w.out⟩
      · have hn3 : ((f3 : Int) != 0) = true := by rw [bne_iff_ne]; omega
        clear hz3
        have n2 := (XN.out.below P16_W4.out XN.out.lt).at_ 2 _ rfl
        have n3 := (XN.out.below P16_W4.out XN.out.lt).at_ 3 _ rfl
        rw [HRR.out] at n2
        rw [HOO.out] at n3
        have c_X1_0 := (X1.out.below P16_y1.out X1.out.lt).at_ 0 _ rfl
        have c_X1_1 := (X1.out.below P16_y1.out X1.out.lt).at_ 1 _ rfl
        have c_X1_2 := (X1.out.below P16_y1.out X1.out.lt).at_ 2 _ rfl
        have c_X1_3 := (X1.out.below P16_y1.out X1.out.lt).at_ 3 _ rfl
        have d_XM2_0 := (XM2.out.below E16.out XM2.out.lt).at_ 0 (txt x) rfl
        have d_XM2_1 := (XM2.out.below E16.out XM2.out.lt).at_ 1 (txt vl) rfl
        have d_XM2_2 := (XM2.out.below E16.out XM2.out.lt).at_ 2 (.int .i64 (r + 1)) rfl
        have d_XM2_3 := (XM2.out.below E16.out XM2.out.lt).at_ 3 (.int .i64 oo) rfl
        have hq2 := fun w => eql_same _ x vl (r + 1) oo rfl w
        go_wp2_with fail
        refine (alive9 W16).mono ?_
        rintro e W17 ⟨rfl, hb⟩
        have E17 := Lib.hid hb
        clear hb n2 n3 c_X1_0 c_X1_1 c_X1_2 c_X1_3 d_XM2_0 d_XM2_1 d_XM2_2 d_XM2_3 hq2
        have P17_w := Lib.hid (P16_w.out.trans (E17.out.mono P16_w.out.size))
        clear P16_w
        have P17_y0 := Lib.hid (P16_y0.out.trans (E17.out.mono P16_y0.out.size))
        clear P16_y0
        have P17_y1 := Lib.hid (P16_y1.out.trans (E17.out.mono P16_y1.out.size))
        clear P16_y1
        have P17_W1 := Lib.hid (P16_W1.out.trans (E17.out.mono P16_W1.out.size))
        clear P16_W1
        have P17_W2 := Lib.hid (P16_W2.out.trans (E17.out.mono P16_W2.out.size))
        clear P16_W2
        have P17_W3 := Lib.hid (P16_W3.out.trans (E17.out.mono P16_W3.out.size))
        clear P16_W3
        have P17_W4 := Lib.hid (P16_W4.out.trans (E17.out.mono P16_W4.out.size))
        clear P16_W4
        have P17_W5 := Lib.hid (P16_W5.out.trans (E17.out.mono P16_W5.out.size))
        clear P16_W5
        have P17_W6 := Lib.hid (P16_W6.out.trans (E17.out.mono P16_W6.out.size))
        clear P16_W6
        have P17_W7 := Lib.hid (P16_W7.out.trans (E17.out.mono P16_W7.out.size))
        clear P16_W7
        have P17_W8 := Lib.hid (P16_W8.out.trans (E17.out.mono P16_W8.out.size))
        clear P16_W8
        have P17_W9 := Lib.hid (P16_W9.out.trans (E17.out.mono P16_W9.out.size))
        clear P16_W9
        have P17_W10 := Lib.hid (P16_W10.out.trans (E17.out.mono P16_W10.out.size))
        clear P16_W10
        have P17_W11 := Lib.hid (P16_W11.out.trans (E17.out.mono P16_W11.out.size))
        clear P16_W11
        have P17_W12 := Lib.hid (P16_W12.out.trans (E17.out.mono P16_W12.out.size))
        clear P16_W12
        have P17_W13 := Lib.hid (P16_W13.out.trans (E17.out.mono P16_W13.out.size))
        clear P16_W13
        have P17_W14 := Lib.hid (P16_W14.out.trans (E17.out.mono P16_W14.out.size))
        clear P16_W14
        have P17_W15 := Lib.hid (E16.out.trans (E17.out.mono E16.out.size))
        go_wp2
        go_ret
        exact ⟨rfl, P17_w.out⟩
    · have hn2 : ((f2 : Int) != 0) = true := by rw [bne_iff_ne]; omega
      clear hz2
      by_cases hz3 : f3 = 0
      · obtain q1 := A3.out hz3
        subst q1 hz3
        have n2 := (XN.out.below P16_W4.out XN.out.lt).at_ 2 _ rfl
        have n3 := (XN.out.below P16_W4.out XN.out.lt).at_ 3 _ rfl
        rw [HRR.out] at n2
        rw [HOO.out] at n3
        have c_X1_0 := (X1.out.below P16_y1.out X1.out.lt).at_ 0 _ rfl
        have c_X1_1 := (X1.out.below P16_y1.out X1.out.lt).at_ 1 _ rfl
        have c_X1_2 := (X1.out.below P16_y1.out X1.out.lt).at_ 2 _ rfl
        have c_X1_3 := (X1.out.below P16_y1.out X1.out.lt).at_ 3 _ rfl
        go_wp2_with fail
        refine (alive9 W16).mono ?_
        rintro e W17 ⟨rfl, hb⟩
        have E17 := Lib.hid hb
        clear hb n2 n3 c_X1_0 c_X1_1 c_X1_2 c_X1_3
        have P17_w := Lib.hid (P16_w.out.trans (E17.out.mono P16_w.out.size))
        clear P16_w
        have P17_y0 := Lib.hid (P16_y0.out.trans (E17.out.mono P16_y0.out.size))
        clear P16_y0
        have P17_y1 := Lib.hid (P16_y1.out.trans (E17.out.mono P16_y1.out.size))
        clear P16_y1
        have P17_W1 := Lib.hid (P16_W1.out.trans (E17.out.mono P16_W1.out.size))
        clear P16_W1
        have P17_W2 := Lib.hid (P16_W2.out.trans (E17.out.mono P16_W2.out.size))
        clear P16_W2
        have P17_W3 := Lib.hid (P16_W3.out.trans (E17.out.mono P16_W3.out.size))
        clear P16_W3
        have P17_W4 := Lib.hid (P16_W4.out.trans (E17.out.mono P16_W4.out.size))
        clear P16_W4
        have P17_W5 := Lib.hid (P16_W5.out.trans (E17.out.mono P16_W5.out.size))
        clear P16_W5
        have P17_W6 := Lib.hid (P16_W6.out.trans (E17.out.mono P16_W6.out.size))
        clear P16_W6
        have P17_W7 := Lib.hid (P16_W7.out.trans (E17.out.mono P16_W7.out.size))
        clear P16_W7
        have P17_W8 := Lib.hid (P16_W8.out.trans (E17.out.mono P16_W8.out.size))
        clear P16_W8
        have P17_W9 := Lib.hid (P16_W9.out.trans (E17.out.mono P16_W9.out.size))
        clear P16_W9
        have P17_W10 := Lib.hid (P16_W10.out.trans (E17.out.mono P16_W10.out.size))
        clear P16_W10
        have P17_W11 := Lib.hid (P16_W11.out.trans (E17.out.mono P16_W11.out.size))
        clear P16_W11
        have P17_W12 := Lib.hid (P16_W12.out.trans (E17.out.mono P16_W12.out.size))
        clear P16_W12
        have P17_W13 := Lib.hid (P16_W13.out.trans (E17.out.mono P16_W13.out.size))
        clear P16_W13
        have P17_W14 := Lib.hid (P16_W14.out.trans (E17.out.mono P16_W14.out.size))
        clear P16_W14
        have P17_W15 := Lib.hid (E16.out.trans (E17.out.mono E16.out.size))
        go_wp2
        go_ret
        exact ⟨rfl, P17_w.out⟩
      · have hn3 : ((f3 : Int) != 0) = true := by rw [bne_iff_ne]; omega
        clear hz3
        have n2 := (XN.out.below P16_W4.out XN.out.lt).at_ 2 _ rfl
        have n3 := (XN.out.below P16_W4.out XN.out.lt).at_ 3 _ rfl
        rw [HRR.out] at n2
        rw [HOO.out] at n3
        have c_X1_0 := (X1.out.below P16_y1.out X1.out.lt).at_ 0 _ rfl
        have c_X1_1 := (X1.out.below P16_y1.out X1.out.lt).at_ 1 _ rfl
        have c_X1_2 := (X1.out.below P16_y1.out X1.out.lt).at_ 2 _ rfl
        have c_X1_3 := (X1.out.below P16_y1.out X1.out.lt).at_ 3 _ rfl
        go_wp2_with fail
        refine (alive9 W16).mono ?_
        rintro e W17 ⟨rfl, hb⟩
        have E17 := Lib.hid hb
        clear hb n2 n3 c_X1_0 c_X1_1 c_X1_2 c_X1_3
        have P17_w := Lib.hid (P16_w.out.trans (E17.out.mono P16_w.out.size))
        clear P16_w
        have P17_y0 := Lib.hid (P16_y0.out.trans (E17.out.mono P16_y0.out.size))
        clear P16_y0
        have P17_y1 := Lib.hid (P16_y1.out.trans (E17.out.mono P16_y1.out.size))
        clear P16_y1
        have P17_W1 := Lib.hid (P16_W1.out.trans (E17.out.mono P16_W1.out.size))
        clear P16_W1
        have P17_W2 := Lib.hid (P16_W2.out.trans (E17.out.mono P16_W2.out.size))
        clear P16_W2
        have P17_W3 := Lib.hid (P16_W3.out.trans (E17.out.mono P16_W3.out.size))
        clear P16_W3
        have P17_W4 := Lib.hid (P16_W4.out.trans (E17.out.mono P16_W4.out.size))
        clear P16_W4
        have P17_W5 := Lib.hid (P16_W5.out.trans (E17.out.mono P16_W5.out.size))
        clear P16_W5
        have P17_W6 := Lib.hid (P16_W6.out.trans (E17.out.mono P16_W6.out.size))
        clear P16_W6
        have P17_W7 := Lib.hid (P16_W7.out.trans (E17.out.mono P16_W7.out.size))
        clear P16_W7
        have P17_W8 := Lib.hid (P16_W8.out.trans (E17.out.mono P16_W8.out.size))
        clear P16_W8
        have P17_W9 := Lib.hid (P16_W9.out.trans (E17.out.mono P16_W9.out.size))
        clear P16_W9
        have P17_W10 := Lib.hid (P16_W10.out.trans (E17.out.mono P16_W10.out.size))
        clear P16_W10
        have P17_W11 := Lib.hid (P16_W11.out.trans (E17.out.mono P16_W11.out.size))
        clear P16_W11
        have P17_W12 := Lib.hid (P16_W12.out.trans (E17.out.mono P16_W12.out.size))
        clear P16_W12
        have P17_W13 := Lib.hid (P16_W13.out.trans (E17.out.mono P16_W13.out.size))
        clear P16_W13
        have P17_W14 := Lib.hid (P16_W14.out.trans (E17.out.mono P16_W14.out.size))
        clear P16_W14
        have P17_W15 := Lib.hid (E16.out.trans (E17.out.mono E16.out.size))
        go_wp2
        go_ret
        exact ⟨rfl, P17_w.out⟩
end Go.Proofs.YtlpakfaoaodaiaaDoor
