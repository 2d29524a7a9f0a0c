/-
  The statements on shelves: ShelfChanges.
-/
import Derived.Test.YtlpakfaoaodaiaaDoorTA
import Derived.Test.YtlpakfaoaodaiaaDoorRel4
import Derived.Test.YtlpakfaoaodaiaaDoorHI
namespace Go.Proofs.YtlpakfaoaodaiaaDoor
open Go.RowKit

/-- A shelf as the document's, as a value. -/
def PlainP (l : List Nd) (u : Value) (w : World) : Prop := ∃ v, u = .agg #[v] ∧ RdNd w.heap.size w v l
theorem PlainP.keep {l : List Nd} {u : Value} {w w' : World} (h : PlainP l u w) (hb : Below w.heap.size w w') : PlainP l u w' := by
  obtain ⟨v, h1, h2⟩ := h
  exact ⟨v, h1, (h2.below hb).more hb.size⟩
theorem rfSame_yes (l : List Nd) (v u : Value) (w : World) (hr : RdNd w.heap.size w v l) (hr2 : RdNd w.heap.size w u l) : Calls Tryd.prog 15 #[.agg #[v], .agg #[u]] w (One (.bool true) w) := by
  have := rfSame_any l l v u w hr hr2
  rw [decide_eq_true rfl] at this
  exact this
theorem create_len (l : List Nd) (p v : List UInt8) (o : Int) : (createS l p v o).length ≤ l.length + 1 := by
  unfold createS
  split
  · rw [insN_pos]
    simp only [List.length_append, List.length_take, List.length_cons, List.length_drop]
    omega
  · omega
theorem set_len (l : List Nd) (p v : List UInt8) (o : Int) : (setS l p v o).length ≤ l.length + 1 := by
  unfold setS
  split
  · rw [List.length_set]; omega
  · omega
theorem del_len (l : List Nd) (p : List UInt8) (o : Int) : (delS l p o).length ≤ l.length + 1 := by
  unfold delS
  split
  · have := List.length_eraseIdx_le l (placeN l p)
    omega
  · omega

set_option maxRecDepth 1000000 in
set_option maxHeartbeats 16000000 in
theorem changes_all (v : Value) (l : List Nd) (c : Nd) (w : World) (hr : RdNd w.heap.size w v l) (_hb : ∀ n ∈ l, fitI (nR n) ∧ fitI (nO n)) (_hc : fitI (nR c) ∧ fitI (nO c)) : Calls Tryd.prog 4 #[.agg #[v], .agg (ndc c).toArray] w (One (.bool true) w) := by
  clear _hb _hc
  have HR := Lib.hid hr
  obtain ⟨p, vl, o, z⟩ := c
  obtain ⟨m1, hm1⟩ : ∃ m, p.length = m := ⟨_, rfl⟩
  obtain ⟨m2, hm2⟩ : ∃ m, vl.length = m := ⟨_, rfl⟩
  have hs1 : (⟨p.toArray⟩ : ByteArray).size = m1 := hm1
  have hs2 : (⟨vl.toArray⟩ : ByteArray).size = m2 := hm2
  clear hr hm1 hm2
  show Calls Tryd.prog _ #[.agg #[v], .agg #[txt p, txt vl, .int .i64 o, .int .i64 z]] w _
  go_enter Tryd.func4, Tryd.ntmps4
  go_wp2_with (refine wpList_box_blk rfl 24 _ rfl [v] rfl ?_)
  intro y0 b1 b2 b3
  obtain ⟨gb0, hg⟩ : ∃ g, w.heap.size = g := ⟨_, rfl⟩
  have X0 := Lib.hid b1
  have EB0 := Lib.hid b3
  rw [hg] at X0 ⊢
  clear b1 b2 b3 hg
  go_wp2_with (refine wpList_box_blk rfl 37 _ rfl [txt p, txt vl, .int .i64 o, .int .i64 z] rfl ?_)
  intro y1 b1 b2 b3
  obtain ⟨gb1, hg⟩ : ∃ g, y0.heap.size = g := ⟨_, rfl⟩
  have X1 := Lib.hid b1
  have EB1 := Lib.hid b3
  rw [hg] at X1 ⊢
  clear b1 b2 b3 hg
  have P0_w := Lib.hid (EB0.out.trans (EB1.out.mono EB0.out.size))
  have c_X0 := (X0.out.below EB1.out X0.out.lt).cell 0
  go_wp2_with fail
  refine (few_any l v y1 ((HR.out.below P0_w.out).more P0_w.out.size)).mono ?_
  rintro e W1 ⟨rfl, hb⟩
  have E1 := Lib.hid hb
  clear hb c_X0
  have P1_w := Lib.hid (P0_w.out.trans (E1.out.mono P0_w.out.size))
  clear P0_w
  have P1_y0 := Lib.hid (EB1.out.trans (E1.out.mono EB1.out.size))
  cases hF : fewN l
  · clear hF
    go_wp2_with fail
    refine (alive9 W1).mono ?_
    rintro e W2 ⟨rfl, hb⟩
    have E2 := Lib.hid hb
    clear hb
    have P2_w := Lib.hid (P1_w.out.trans (E2.out.mono P1_w.out.size))
    clear P1_w
    have P2_y0 := Lib.hid (P1_y0.out.trans (E2.out.mono P1_y0.out.size))
    clear P1_y0
    have P2_y1 := Lib.hid (E1.out.trans (E2.out.mono E1.out.size))
    go_wp2
    go_ret
    exact ⟨rfl, P2_w.out⟩
  have HL := Lib.hid (few_len l hF)
  clear hF
  have c_X0 := (X0.out.below P1_y0.out X0.out.lt).cell 0
  go_wp2_with fail
  refine (plain_any l v W1 ((HR.out.below P1_w.out).more P1_w.out.size) (by have := HL.out; omega)).mono ?_
  rintro e W2 ⟨vp, rfl, hrd, hb⟩
  have E2 := Lib.hid hb
  clear hb c_X0
  have P2_w := Lib.hid (P1_w.out.trans (E2.out.mono P1_w.out.size))
  clear P1_w
  have P2_y0 := Lib.hid (P1_y0.out.trans (E2.out.mono P1_y0.out.size))
  clear P1_y0
  have P2_y1 := Lib.hid (E1.out.trans (E2.out.mono E1.out.size))
  have RP := Lib.hid hrd
  clear hrd
  go_wp2_with fail
  refine (rfRightN_any l vp W2 RP.out).mono ?_
  rintro e W3 ⟨rfl, hb⟩
  have E3 := Lib.hid hb
  clear hb
  have P3_w := Lib.hid (P2_w.out.trans (E3.out.mono P2_w.out.size))
  clear P2_w
  have P3_y0 := Lib.hid (P2_y0.out.trans (E3.out.mono P2_y0.out.size))
  clear P2_y0
  have P3_y1 := Lib.hid (P2_y1.out.trans (E3.out.mono P2_y1.out.size))
  clear P2_y1
  have P3_W1 := Lib.hid (E2.out.trans (E3.out.mono E2.out.size))
  cases hG : rightN l
  · clear hG
    go_wp2_with fail
    refine (alive9 W3).mono ?_
    rintro e W4 ⟨rfl, hb⟩
    have E4 := Lib.hid hb
    clear hb
    have P4_w := Lib.hid (P3_w.out.trans (E4.out.mono P3_w.out.size))
    clear P3_w
    have P4_y0 := Lib.hid (P3_y0.out.trans (E4.out.mono P3_y0.out.size))
    clear P3_y0
    have P4_y1 := Lib.hid (P3_y1.out.trans (E4.out.mono P3_y1.out.size))
    clear P3_y1
    have P4_W1 := Lib.hid (P3_W1.out.trans (E4.out.mono P3_W1.out.size))
    clear P3_W1
    have P4_W2 := Lib.hid (E3.out.trans (E4.out.mono E3.out.size))
    go_wp2
    go_ret
    exact ⟨rfl, P4_w.out⟩
  have HRT := Lib.hid hG
  clear hG
  have c_X1_0 := (X1.out.below P3_y1.out X1.out.lt).at_ 0 _ rfl
  have c_X1_1 := (X1.out.below P3_y1.out X1.out.lt).at_ 1 _ rfl
  have c_X1_2 := (X1.out.below P3_y1.out X1.out.lt).at_ 2 _ rfl
  have c_X1_3 := (X1.out.below P3_y1.out X1.out.lt).at_ 3 _ rfl
  by_cases h11 : 1100 < (m1 : Int)
  · go_wp2_with fail
    refine (alive9 W3).mono ?_
    rintro e W4 ⟨rfl, hb⟩
    have E4 := Lib.hid hb
    clear hb c_X1_0 c_X1_1 c_X1_2 c_X1_3
    have P4_w := Lib.hid (P3_w.out.trans (E4.out.mono P3_w.out.size))
    clear P3_w
    have P4_y0 := Lib.hid (P3_y0.out.trans (E4.out.mono P3_y0.out.size))
    clear P3_y0
    have P4_y1 := Lib.hid (P3_y1.out.trans (E4.out.mono P3_y1.out.size))
    clear P3_y1
    have P4_W1 := Lib.hid (P3_W1.out.trans (E4.out.mono P3_W1.out.size))
    clear P3_W1
    have P4_W2 := Lib.hid (E3.out.trans (E4.out.mono E3.out.size))
    go_wp2
    go_ret
    exact ⟨rfl, P4_w.out⟩
  by_cases h12 : 1100 < (m2 : Int)
  · go_wp2_with fail
    refine (alive9 W3).mono ?_
    rintro e W4 ⟨rfl, hb⟩
    have E4 := Lib.hid hb
    clear hb c_X1_0 c_X1_1 c_X1_2 c_X1_3
    have P4_w := Lib.hid (P3_w.out.trans (E4.out.mono P3_w.out.size))
    clear P3_w
    have P4_y0 := Lib.hid (P3_y0.out.trans (E4.out.mono P3_y0.out.size))
    clear P3_y0
    have P4_y1 := Lib.hid (P3_y1.out.trans (E4.out.mono P3_y1.out.size))
    clear P3_y1
    have P4_W1 := Lib.hid (P3_W1.out.trans (E4.out.mono P3_W1.out.size))
    clear P3_W1
    have P4_W2 := Lib.hid (E3.out.trans (E4.out.mono E3.out.size))
    go_wp2
    go_ret
    exact ⟨rfl, P4_w.out⟩
  clear c_X1_0 c_X1_1 c_X1_2 c_X1_3
  have c_X0 := (X0.out.below P3_y0.out X0.out.lt).cell 0
  have c_X1_0 := (X1.out.below P3_y1.out X1.out.lt).at_ 0 _ rfl
  have c_X1_1 := (X1.out.below P3_y1.out X1.out.lt).at_ 1 _ rfl
  have c_X1_2 := (X1.out.below P3_y1.out X1.out.lt).at_ 2 _ rfl
  have c_X1_3 := (X1.out.below P3_y1.out X1.out.lt).at_ 3 _ rfl
  go_wp2_with fail
  refine (plain_any l v W3 ((HR.out.below P3_w.out).more P3_w.out.size) (by have := HL.out; omega)).mono ?_
  rintro e a4 ⟨vw, rfl, hrd, hb⟩
  clear c_X0 c_X1_0 c_X1_1 c_X1_2 c_X1_3
  have HONE := Lib.hid (one_rd hrd)
  go_wp2_with (refine wpList_alloc_blk rfl 30 rfl [.slice none 0 0] zSH ?_)
  intro b4 a1 a2 a3
  obtain ⟨g4, hg⟩ : ∃ g, a4.heap.size = g := ⟨_, rfl⟩
  have AA := Lib.hid a1
  have EB := Lib.hid (hb.trans (a3.mono hb.size))
  have A3 := Lib.hid a3
  have hbg : W3.heap.size ≤ g4 := by have := hb.size; omega
  have hgs : g4 ≤ b4.heap.size := by omega
  have HG := Lib.hid hg
  have RR := Lib.hid hrd
  rw [hg] at AA A3 RR ⊢
  clear a1 a2 a3 hb hg hrd
  go_wp2_with (refine wpList_store_to rfl 30 _ _ rfl g4 [vw] [.slice none 0 0] 30 rfl rfl AA.out sSH rfl HONE.out ?_)
  intro W4 e1 e2 e3 e4
  have XW := Lib.hid e1
  have E4 := Lib.hid (EB.out.trans (e3.mono hbg))
  have RW := Lib.hid (((RR.out.below A3.out).below e3).more (show g4 ≤ W4.heap.size by omega))
  clear e1 e2 e3 e4 AA EB A3 hbg hgs HG RR
  have P4_w := Lib.hid (P3_w.out.trans (E4.out.mono P3_w.out.size))
  clear P3_w
  have P4_y0 := Lib.hid (P3_y0.out.trans (E4.out.mono P3_y0.out.size))
  clear P3_y0
  have P4_y1 := Lib.hid (P3_y1.out.trans (E4.out.mono P3_y1.out.size))
  clear P3_y1
  have P4_W1 := Lib.hid (P3_W1.out.trans (E4.out.mono P3_W1.out.size))
  clear P3_W1
  have P4_W2 := Lib.hid (E3.out.trans (E4.out.mono E3.out.size))
  have c_X0 := (X0.out.below P4_y0.out X0.out.lt).cell 0
  have c_X1_0 := (X1.out.below P4_y1.out X1.out.lt).at_ 0 _ rfl
  have c_X1_1 := (X1.out.below P4_y1.out X1.out.lt).at_ 1 _ rfl
  have c_X1_2 := (X1.out.below P4_y1.out X1.out.lt).at_ 2 _ rfl
  have c_X1_3 := (X1.out.below P4_y1.out X1.out.lt).at_ 3 _ rfl
  go_wp2_with fail
  refine (shCreate_any l p vl o v W4 ((HR.out.below P4_w.out).more P4_w.out.size) (by have := HL.out; omega) HRT.out).mono ?_
  rintro e a5 ⟨v6, rfl, hrd, hb⟩
  clear c_X0 c_X1_0 c_X1_1 c_X1_2 c_X1_3
  have ONE6 := Lib.hid (one_rd hrd)
  obtain ⟨f1, hf⟩ : ∃ q, createE l p vl o = q := ⟨_, rfl⟩
  have HF1 := Lib.hid hf
  obtain ⟨L1, hl⟩ : ∃ q, createS l p vl o = q := ⟨_, rfl⟩
  have HL1 := Lib.hid hl
  have LL1 : Hid (L1.length ≤ 61) := by
    have h1 := create_len l p vl o
    have h2 := HL.out
    show _ ≤ _
    rw [← hl]
    omega
  rw [hl] at hrd
  rw [hf]
  clear hf hl
  go_wp2_with (refine wpList_alloc_blk rfl 24 rfl [.slice none 0 0] zPS ?_)
  intro b5 a1 a2 a3
  obtain ⟨g5, hg⟩ : ∃ g, a5.heap.size = g := ⟨_, rfl⟩
  have AA := Lib.hid a1
  have EB := Lib.hid (hb.trans (a3.mono hb.size))
  have A3 := Lib.hid a3
  have hbg : W4.heap.size ≤ g5 := by have := hb.size; omega
  have hgs : g5 ≤ b5.heap.size := by omega
  have HG := Lib.hid hg
  have RR := Lib.hid hrd
  rw [hg] at AA A3 RR ⊢
  clear a1 a2 a3 hb hg hrd
  go_wp2_with (refine wpList_store_to rfl 24 _ _ rfl g5 [v6] [.slice none 0 0] 24 rfl rfl AA.out sPS rfl ONE6.out ?_)
  intro W5 e1 e2 e3 e4
  have X6 := Lib.hid e1
  have E5 := Lib.hid (EB.out.trans (e3.mono hbg))
  have R6 := Lib.hid (((RR.out.below A3.out).below e3).more (show g5 ≤ W5.heap.size by omega))
  clear e1 e2 e3 e4 AA EB A3 hbg hgs HG RR
  have P5_w := Lib.hid (P4_w.out.trans (E5.out.mono P4_w.out.size))
  clear P4_w
  have P5_y0 := Lib.hid (P4_y0.out.trans (E5.out.mono P4_y0.out.size))
  clear P4_y0
  have P5_y1 := Lib.hid (P4_y1.out.trans (E5.out.mono P4_y1.out.size))
  clear P4_y1
  have P5_W1 := Lib.hid (P4_W1.out.trans (E5.out.mono P4_W1.out.size))
  clear P4_W1
  have P5_W2 := Lib.hid (P4_W2.out.trans (E5.out.mono P4_W2.out.size))
  clear P4_W2
  have P5_W3 := Lib.hid (E4.out.trans (E5.out.mono E4.out.size))
  have c_XW := (XW.out.below E5.out XW.out.lt).cell 0
  have c_X1_0 := (X1.out.below P5_y1.out X1.out.lt).at_ 0 _ rfl
  have c_X1_1 := (X1.out.below P5_y1.out X1.out.lt).at_ 1 _ rfl
  have c_X1_2 := (X1.out.below P5_y1.out X1.out.lt).at_ 2 _ rfl
  have c_X1_3 := (X1.out.below P5_y1.out X1.out.lt).at_ 3 _ rfl
  go_wp2_with fail
  refine (rfCreate_any l p vl o vw W5 ((RW.out.below E5.out).more E5.out.size) (by have := HL.out; omega)).mono ?_
  rintro e a6 ⟨v8, rfl, hrd, hb⟩
  clear c_XW c_X1_0 c_X1_1 c_X1_2 c_X1_3
  have ONE8 := Lib.hid (one_rd hrd)
  rw [HL1.out] at hrd
  rw [HF1.out]
  go_wp2_with (refine wpList_alloc_blk rfl 30 rfl [.slice none 0 0] zSH ?_)
  intro b6 a1 a2 a3
  obtain ⟨g6, hg⟩ : ∃ g, a6.heap.size = g := ⟨_, rfl⟩
  have AA := Lib.hid a1
  have EB := Lib.hid (hb.trans (a3.mono hb.size))
  have A3 := Lib.hid a3
  have hbg : W5.heap.size ≤ g6 := by have := hb.size; omega
  have hgs : g6 ≤ b6.heap.size := by omega
  have HG := Lib.hid hg
  have RR := Lib.hid hrd
  rw [hg] at AA A3 RR ⊢
  clear a1 a2 a3 hb hg hrd
  go_wp2_with (refine wpList_store_to rfl 30 _ _ rfl g6 [v8] [.slice none 0 0] 30 rfl rfl AA.out sSH rfl ONE8.out ?_)
  intro W6 e1 e2 e3 e4
  have X8 := Lib.hid e1
  have E6 := Lib.hid (EB.out.trans (e3.mono hbg))
  have R8 := Lib.hid (((RR.out.below A3.out).below e3).more (show g6 ≤ W6.heap.size by omega))
  clear e1 e2 e3 e4 AA EB A3 hbg hgs HG RR
  have P6_w := Lib.hid (P5_w.out.trans (E6.out.mono P5_w.out.size))
  clear P5_w
  have P6_y0 := Lib.hid (P5_y0.out.trans (E6.out.mono P5_y0.out.size))
  clear P5_y0
  have P6_y1 := Lib.hid (P5_y1.out.trans (E6.out.mono P5_y1.out.size))
  clear P5_y1
  have P6_W1 := Lib.hid (P5_W1.out.trans (E6.out.mono P5_W1.out.size))
  clear P5_W1
  have P6_W2 := Lib.hid (P5_W2.out.trans (E6.out.mono P5_W2.out.size))
  clear P5_W2
  have P6_W3 := Lib.hid (P5_W3.out.trans (E6.out.mono P5_W3.out.size))
  clear P5_W3
  have P6_W4 := Lib.hid (E5.out.trans (E6.out.mono E5.out.size))
  have c_X0 := (X0.out.below P6_y0.out X0.out.lt).cell 0
  have c_X1_0 := (X1.out.below P6_y1.out X1.out.lt).at_ 0 _ rfl
  have c_X1_1 := (X1.out.below P6_y1.out X1.out.lt).at_ 1 _ rfl
  have c_X1_2 := (X1.out.below P6_y1.out X1.out.lt).at_ 2 _ rfl
  have c_X1_3 := (X1.out.below P6_y1.out X1.out.lt).at_ 3 _ rfl
  go_wp2_with fail
  refine (shSet_any l p vl z v W6 ((HR.out.below P6_w.out).more P6_w.out.size) (by have := HL.out; omega) HRT.out).mono ?_
  rintro e a7 ⟨vA, rfl, hrd, hb⟩
  clear c_X0 c_X1_0 c_X1_1 c_X1_2 c_X1_3
  have ONEA := Lib.hid (one_rd hrd)
  obtain ⟨f2, hf⟩ : ∃ q, setE l p vl z = q := ⟨_, rfl⟩
  have HF2 := Lib.hid hf
  obtain ⟨L2, hl⟩ : ∃ q, setS l p vl z = q := ⟨_, rfl⟩
  have HL2 := Lib.hid hl
  have LL2 : Hid (L2.length ≤ 61) := by
    have h1 := set_len l p vl z
    have h2 := HL.out
    show _ ≤ _
    rw [← hl]
    omega
  rw [hl] at hrd
  rw [hf]
  clear hf hl
  go_wp2_with (refine wpList_alloc_blk rfl 24 rfl [.slice none 0 0] zPS ?_)
  intro b7 a1 a2 a3
  obtain ⟨g7, hg⟩ : ∃ g, a7.heap.size = g := ⟨_, rfl⟩
  have AA := Lib.hid a1
  have EB := Lib.hid (hb.trans (a3.mono hb.size))
  have A3 := Lib.hid a3
  have hbg : W6.heap.size ≤ g7 := by have := hb.size; omega
  have hgs : g7 ≤ b7.heap.size := by omega
  have HG := Lib.hid hg
  have RR := Lib.hid hrd
  rw [hg] at AA A3 RR ⊢
  clear a1 a2 a3 hb hg hrd
  go_wp2_with (refine wpList_store_to rfl 24 _ _ rfl g7 [vA] [.slice none 0 0] 24 rfl rfl AA.out sPS rfl ONEA.out ?_)
  intro W7 e1 e2 e3 e4
  have XA := Lib.hid e1
  have E7 := Lib.hid (EB.out.trans (e3.mono hbg))
  have RA := Lib.hid (((RR.out.below A3.out).below e3).more (show g7 ≤ W7.heap.size by omega))
  clear e1 e2 e3 e4 AA EB A3 hbg hgs HG RR
  have P7_w := Lib.hid (P6_w.out.trans (E7.out.mono P6_w.out.size))
  clear P6_w
  have P7_y0 := Lib.hid (P6_y0.out.trans (E7.out.mono P6_y0.out.size))
  clear P6_y0
  have P7_y1 := Lib.hid (P6_y1.out.trans (E7.out.mono P6_y1.out.size))
  clear P6_y1
  have P7_W1 := Lib.hid (P6_W1.out.trans (E7.out.mono P6_W1.out.size))
  clear P6_W1
  have P7_W2 := Lib.hid (P6_W2.out.trans (E7.out.mono P6_W2.out.size))
  clear P6_W2
  have P7_W3 := Lib.hid (P6_W3.out.trans (E7.out.mono P6_W3.out.size))
  clear P6_W3
  have P7_W4 := Lib.hid (P6_W4.out.trans (E7.out.mono P6_W4.out.size))
  clear P6_W4
  have P7_W5 := Lib.hid (E6.out.trans (E7.out.mono E6.out.size))
  have c_XW := (XW.out.below P7_W4.out XW.out.lt).cell 0
  have c_X1_0 := (X1.out.below P7_y1.out X1.out.lt).at_ 0 _ rfl
  have c_X1_1 := (X1.out.below P7_y1.out X1.out.lt).at_ 1 _ rfl
  have c_X1_2 := (X1.out.below P7_y1.out X1.out.lt).at_ 2 _ rfl
  have c_X1_3 := (X1.out.below P7_y1.out X1.out.lt).at_ 3 _ rfl
  go_wp2_with fail
  refine (rfSet_any l p vl z vw W7 ((RW.out.below P7_W4.out).more P7_W4.out.size) (by have := HL.out; omega)).mono ?_
  rintro e a8 ⟨vC, rfl, hrd, hb⟩
  clear c_XW c_X1_0 c_X1_1 c_X1_2 c_X1_3
  have ONEC := Lib.hid (one_rd hrd)
  rw [HL2.out] at hrd
  rw [HF2.out]
  go_wp2_with (refine wpList_alloc_blk rfl 30 rfl [.slice none 0 0] zSH ?_)
  intro b8 a1 a2 a3
  obtain ⟨g8, hg⟩ : ∃ g, a8.heap.size = g := ⟨_, rfl⟩
  have AA := Lib.hid a1
  have EB := Lib.hid (hb.trans (a3.mono hb.size))
  have A3 := Lib.hid a3
  have hbg : W7.heap.size ≤ g8 := by have := hb.size; omega
  have hgs : g8 ≤ b8.heap.size := by omega
  have HG := Lib.hid hg
  have RR := Lib.hid hrd
  rw [hg] at AA A3 RR ⊢
  clear a1 a2 a3 hb hg hrd
  go_wp2_with (refine wpList_store_to rfl 30 _ _ rfl g8 [vC] [.slice none 0 0] 30 rfl rfl AA.out sSH rfl ONEC.out ?_)
  intro W8 e1 e2 e3 e4
  have XC := Lib.hid e1
  have E8 := Lib.hid (EB.out.trans (e3.mono hbg))
  have RC := Lib.hid (((RR.out.below A3.out).below e3).more (show g8 ≤ W8.heap.size by omega))
  clear e1 e2 e3 e4 AA EB A3 hbg hgs HG RR
  have P8_w := Lib.hid (P7_w.out.trans (E8.out.mono P7_w.out.size))
  clear P7_w
  have P8_y0 := Lib.hid (P7_y0.out.trans (E8.out.mono P7_y0.out.size))
  clear P7_y0
  have P8_y1 := Lib.hid (P7_y1.out.trans (E8.out.mono P7_y1.out.size))
  clear P7_y1
  have P8_W1 := Lib.hid (P7_W1.out.trans (E8.out.mono P7_W1.out.size))
  clear P7_W1
  have P8_W2 := Lib.hid (P7_W2.out.trans (E8.out.mono P7_W2.out.size))
  clear P7_W2
  have P8_W3 := Lib.hid (P7_W3.out.trans (E8.out.mono P7_W3.out.size))
  clear P7_W3
  have P8_W4 := Lib.hid (P7_W4.out.trans (E8.out.mono P7_W4.out.size))
  clear P7_W4
  have P8_W5 := Lib.hid (P7_W5.out.trans (E8.out.mono P7_W5.out.size))
  clear P7_W5
  have P8_W6 := Lib.hid (E7.out.trans (E8.out.mono E7.out.size))
  have hn1 : ((f1 : Int) != (f1 : Int)) = false := by simp
  have hn2 : ((f2 : Int) != (f2 : Int)) = false := by simp
  go_wp2
  have ZX6 := Lib.hid (X6.out.below P8_W5.out X6.out.lt)
  have ZX8 := Lib.hid (X8.out.below P8_W6.out X8.out.lt)
  have ZXA := Lib.hid (XA.out.below E8.out XA.out.lt)
  have ZXC := Lib.hid XC.out
  have ZR6 := Lib.hid ((R6.out.below P8_W5.out).more P8_W5.out.size)
  have ZR8 := Lib.hid ((R8.out.below P8_W6.out).more P8_W6.out.size)
  have ZRA := Lib.hid ((RA.out.below E8.out).more E8.out.size)
  have ZRC := Lib.hid RC.out
  clear hn1 hn2
  refine wp_region_rely2 22 0 (fun x => ⟨#[.agg #[v], .agg #[txt p, txt vl, Value.int IntKind.i64 o, Value.int IntKind.i64 z], .pointer (some { block := gb0, off := 0 }), .pointer (some { block := gb1, off := 0 }), .bool false, .pointer (some { block := g4, off := 0 }), .pointer (some { block := g5, off := 0 }), .int IntKind.i64 ↑f1, .pointer (some { block := g6, off := 0 }), .int IntKind.i64 ↑f1, .pointer (some { block := g7, off := 0 }), .int IntKind.i64 ↑f2, .pointer (some { block := g8, off := 0 }), .int IntKind.i64 ↑f2, undef, undef, undef, undef, undef, undef, undef, undef, .agg #[v], .bool true, .bool false, .bool false, .agg #[v], .agg #[vp], .bool true, .bool false, .bool false, .bool false, .pointer (some { block := gb1, off := 0 }), txt p, .int IntKind.i64 ↑m1, .bool (decide ((1100 : Int) < (m1 : Int))), .bool (decide ((1100 : Int) < (m1 : Int))), .bool (decide ((1100 : Int) < (m1 : Int))), .pointer (some { block := gb1, off := 1 }), txt vl, .int IntKind.i64 ↑m2, .bool (decide ((1100 : Int) < (m2 : Int))), .bool (decide ((1100 : Int) < (m1 : Int)) || decide ((1100 : Int) < (m2 : Int))), undef, .agg #[v], .agg #[vw], .tuple #[Value.agg #[v6], Value.int IntKind.i64 ↑f1], .agg #[v], .pointer (some { block := gb1, off := 0 }), txt p, .pointer (some { block := gb1, off := 1 }), txt vl, .pointer (some { block := gb1, off := 2 }), .int IntKind.i64 o, .tuple #[Value.agg #[v6], Value.int IntKind.i64 ↑f1], .agg #[v6], .int IntKind.i64 ↑f1, .tuple #[Value.agg #[v8], Value.int IntKind.i64 ↑f1], .agg #[vw], .pointer (some { block := gb1, off := 0 }), txt p, .pointer (some { block := gb1, off := 1 }), txt vl, .pointer (some { block := gb1, off := 2 }), .int IntKind.i64 o, .tuple #[Value.agg #[v8], Value.int IntKind.i64 ↑f1], .agg #[v8], .int IntKind.i64 ↑f1, .tuple #[Value.agg #[vA], Value.int IntKind.i64 ↑f2], .agg #[v], .pointer (some { block := gb1, off := 0 }), txt p, .pointer (some { block := gb1, off := 1 }), txt vl, .pointer (some { block := gb1, off := 3 }), .int IntKind.i64 z, .tuple #[Value.agg #[vA], Value.int IntKind.i64 ↑f2], .agg #[vA], .int IntKind.i64 ↑f2, .tuple #[Value.agg #[vC], Value.int IntKind.i64 ↑f2], .agg #[vw], .pointer (some { block := gb1, off := 0 }), txt p, .pointer (some { block := gb1, off := 1 }), txt vl, .pointer (some { block := gb1, off := 3 }), .int IntKind.i64 z, .tuple #[Value.agg #[vC], Value.int IntKind.i64 ↑f2], .agg #[vC], .int IntKind.i64 ↑f2, x 0, x 1, x 2, x 3, x 4, x 5, x 6, x 7, x 8, x 9, x 10, x 11, x 12, x 13, x 14, x 15, x 16, x 17, x 18, x 19, x 20, x 21, undef, undef, undef, undef, undef, undef, undef, undef, undef, undef, undef, undef, undef, undef, undef, undef, undef, undef, undef, undef, undef, undef, undef, undef, undef, undef, undef, undef, undef, undef, undef, undef, undef, undef, undef, undef, undef, undef, undef, undef, undef, undef, undef, undef, undef, undef, undef, undef, undef, undef, undef, undef, undef, undef, undef, undef, undef, undef, undef, undef, undef], []⟩) (fun jj => ([eqV (.agg #[v6]), (PlainP L1), eqV (.agg #[v8]), (eqV (.bool true)), eqV (.bool false), eqV (.bool false), eqV (.int IntKind.i64 ↑f1), eqV (.int IntKind.i64 ↑f1), eqV (.bool false), eqV (.bool false), eqV (.bool false), eqV (.agg #[vA]), (PlainP L2), eqV (.agg #[vC]), (eqV (.bool true)), eqV (.bool false), eqV (.bool false), eqV (.bool false), eqV (.int IntKind.i64 ↑f2), eqV (.int IntKind.i64 ↑f2), eqV (.bool false), eqV (.bool false)] : List (Value → World → Prop)).getD jj (fun _ _ => True)) rfl ⟨fun kk => [_, _, _, _, _, _, _, _, _, _, _, _, _, _, _, _, _, _, _, _, _, _].getD kk undef, rfl⟩ (by kernel_rfl) (by kernel_rfl) ?steps ?fin
  case steps =>
    refine StepsAt.val 0 (.agg #[v6]) rfl (fun _ _ => rfl) rfl rfl (fun x wx hb hd => ?_) ?_
    · have cc := ((ZX6.out.below hb ZX6.out.lt).cell 0).trans (show _ = some (v6) from rfl)
      first | (go_simp; done) | (go_simp; rfl)
    refine StepsAt.cons 1 (fun _ _ _ h hb => h.keep hb) (fun _ _ => rfl) rfl rfl (fun x wx hb hd K hK => ?_) ?_
    · have h0 : Hid (x 0 = .agg #[v6]) := hd 0 (by kernel_rfl)
      go_simp
      refine calls_args (args2 := #[.agg #[v6]]) (by rw [h0.out]) ?_
      refine (plain_any L1 v6 _ ((ZR6.out.below hb).more hb.size) (by have := LL1.out; omega)).mono ?_
      rintro e w99 ⟨v99, rfl, hrd, hb99⟩
      exact hK.out _ _ hb99 ⟨v99, rfl, hrd⟩
    refine StepsAt.val 2 (.agg #[v8]) rfl (fun _ _ => rfl) rfl rfl (fun x wx hb hd => ?_) ?_
    · have cc := ((ZX8.out.below hb ZX8.out.lt).cell 0).trans (show _ = some (v8) from rfl)
      first | (go_simp; done) | (go_simp; rfl)
    refine StepsAt.cons 3 (fun _ _ _ h hb => h) (fun _ _ => rfl) rfl rfl (fun x wx hb hd K hK => ?_) ?_
    · have h2 : Hid (x 2 = .agg #[v8]) := hd 2 (by kernel_rfl)
      have h1 : PlainP L1 (x 1) wx := hd 1 (by kernel_rfl)
      go_simp
      obtain ⟨v99, hv99, hr99⟩ := h1
      refine calls_args (args2 := #[.agg #[v99], .agg #[v8]]) (by rw [hv99, h2.out]) ?_
      refine (rfSame_yes L1 v99 v8 _ hr99 ((ZR8.out.below hb).more hb.size)).mono ?_
      rintro e w99 ⟨rfl, hb99⟩
      exact hK.out _ _ hb99 rfl
    refine StepsAt.val 4 (.bool false) rfl (fun _ _ => rfl) rfl rfl (fun x wx hb hd => ?_) ?_
    · have h3 : x 3 = .bool true := hd 3 (by kernel_rfl)
      rw [h3]
      first | (go_simp; done) | (go_simp; rfl)
    refine StepsAt.val 5 (.bool false) rfl (fun _ _ => rfl) rfl rfl (fun x wx hb hd => ?_) ?_
    · have h4 : x 4 = .bool false := hd 4 (by kernel_rfl)
      rw [h4]
      first | (go_simp; done) | (go_simp; rfl)
    refine StepsAt.valG 6 (.int IntKind.i64 ↑f1) rfl (fun _ _ => rfl) rfl (fun x wx hd => ?_) (fun x wx hb hd => ?_) ?_
    · have hG : x 5 = .bool false := hd 5 (by kernel_rfl)
      simp [Region.wanted, yielded, hG]
    · first | (go_simp; done) | (go_simp; rfl)
    refine StepsAt.valG 7 (.int IntKind.i64 ↑f1) rfl (fun _ _ => rfl) rfl (fun x wx hd => ?_) (fun x wx hb hd => ?_) ?_
    · have hG : x 5 = .bool false := hd 5 (by kernel_rfl)
      simp [Region.wanted, yielded, hG]
    · first | (go_simp; done) | (go_simp; rfl)
    refine StepsAt.valG 8 (.bool false) rfl (fun _ _ => rfl) rfl (fun x wx hd => ?_) (fun x wx hb hd => ?_) ?_
    · have hG : x 5 = .bool false := hd 5 (by kernel_rfl)
      simp [Region.wanted, yielded, hG]
    · have h6 : x 6 = .int IntKind.i64 ↑f1 := hd 6 (by kernel_rfl)
      have h7 : x 7 = .int IntKind.i64 ↑f1 := hd 7 (by kernel_rfl)
      rw [h6, h7]
      first | (go_simp; done) | (go_simp; rfl) | (go_simp; simp)
    refine StepsAt.val 9 (.bool false) rfl (fun _ _ => rfl) rfl rfl (fun x wx hb hd => ?_) ?_
    · have h5 : x 5 = .bool false := hd 5 (by kernel_rfl)
      have h8 : x 8 = .bool false := hd 8 (by kernel_rfl)
      rw [h5, h8]
      first | (go_simp; done) | (go_simp; rfl)
    refine StepsAt.val 10 (.bool false) rfl (fun _ _ => rfl) rfl rfl (fun x wx hb hd => ?_) ?_
    · have h9 : x 9 = .bool false := hd 9 (by kernel_rfl)
      rw [h9]
      first | (go_simp; done) | (go_simp; rfl)
    refine StepsAt.valG 11 (.agg #[vA]) rfl (fun _ _ => rfl) rfl (fun x wx hd => ?_) (fun x wx hb hd => ?_) ?_
    · have hG : x 10 = .bool false := hd 10 (by kernel_rfl)
      simp [Region.wanted, yielded, hG]
    · have cc := ((ZXA.out.below hb ZXA.out.lt).cell 0).trans (show _ = some (vA) from rfl)
      first | (go_simp; done) | (go_simp; rfl)
    refine StepsAt.consG 12 (fun _ _ _ h hb => h.keep hb) (fun _ _ => rfl) rfl (fun x wx hd => ?_) (fun x wx hb hd K hK => ?_) ?_
    · have hG : x 10 = .bool false := hd 10 (by kernel_rfl)
      simp [Region.wanted, yielded, hG]
    · have h11 : Hid (x 11 = .agg #[vA]) := hd 11 (by kernel_rfl)
      go_simp
      refine calls_args (args2 := #[.agg #[vA]]) (by rw [h11.out]) ?_
      refine (plain_any L2 vA _ ((ZRA.out.below hb).more hb.size) (by have := LL2.out; omega)).mono ?_
      rintro e w99 ⟨v99, rfl, hrd, hb99⟩
      exact hK.out _ _ hb99 ⟨v99, rfl, hrd⟩
    refine StepsAt.valG 13 (.agg #[vC]) rfl (fun _ _ => rfl) rfl (fun x wx hd => ?_) (fun x wx hb hd => ?_) ?_
    · have hG : x 10 = .bool false := hd 10 (by kernel_rfl)
      simp [Region.wanted, yielded, hG]
    · have cc := ((ZXC.out.below hb ZXC.out.lt).cell 0).trans (show _ = some (vC) from rfl)
      first | (go_simp; done) | (go_simp; rfl)
    refine StepsAt.consG 14 (fun _ _ _ h hb => h) (fun _ _ => rfl) rfl (fun x wx hd => ?_) (fun x wx hb hd K hK => ?_) ?_
    · have hG : x 10 = .bool false := hd 10 (by kernel_rfl)
      simp [Region.wanted, yielded, hG]
    · have h13 : Hid (x 13 = .agg #[vC]) := hd 13 (by kernel_rfl)
      have h12 : PlainP L2 (x 12) wx := hd 12 (by kernel_rfl)
      go_simp
      obtain ⟨v99, hv99, hr99⟩ := h12
      refine calls_args (args2 := #[.agg #[v99], .agg #[vC]]) (by rw [hv99, h13.out]) ?_
      refine (rfSame_yes L2 v99 vC _ hr99 ((ZRC.out.below hb).more hb.size)).mono ?_
      rintro e w99 ⟨rfl, hb99⟩
      exact hK.out _ _ hb99 rfl
    refine StepsAt.valG 15 (.bool false) rfl (fun _ _ => rfl) rfl (fun x wx hd => ?_) (fun x wx hb hd => ?_) ?_
    · have hG : x 10 = .bool false := hd 10 (by kernel_rfl)
      simp [Region.wanted, yielded, hG]
    · have h14 : x 14 = .bool true := hd 14 (by kernel_rfl)
      rw [h14]
      first | (go_simp; done) | (go_simp; rfl)
    refine StepsAt.val 16 (.bool false) rfl (fun _ _ => rfl) rfl rfl (fun x wx hb hd => ?_) ?_
    · have h10 : x 10 = .bool false := hd 10 (by kernel_rfl)
      have h15 : x 15 = .bool false := hd 15 (by kernel_rfl)
      rw [h10, h15]
      first | (go_simp; done) | (go_simp; rfl)
    refine StepsAt.val 17 (.bool false) rfl (fun _ _ => rfl) rfl rfl (fun x wx hb hd => ?_) ?_
    · have h16 : x 16 = .bool false := hd 16 (by kernel_rfl)
      rw [h16]
      first | (go_simp; done) | (go_simp; rfl)
    refine StepsAt.valG 18 (.int IntKind.i64 ↑f2) rfl (fun _ _ => rfl) rfl (fun x wx hd => ?_) (fun x wx hb hd => ?_) ?_
    · have hG : x 17 = .bool false := hd 17 (by kernel_rfl)
      simp [Region.wanted, yielded, hG]
    · first | (go_simp; done) | (go_simp; rfl)
    refine StepsAt.valG 19 (.int IntKind.i64 ↑f2) rfl (fun _ _ => rfl) rfl (fun x wx hd => ?_) (fun x wx hb hd => ?_) ?_
    · have hG : x 17 = .bool false := hd 17 (by kernel_rfl)
      simp [Region.wanted, yielded, hG]
    · first | (go_simp; done) | (go_simp; rfl)
    refine StepsAt.valG 20 (.bool false) rfl (fun _ _ => rfl) rfl (fun x wx hd => ?_) (fun x wx hb hd => ?_) ?_
    · have hG : x 17 = .bool false := hd 17 (by kernel_rfl)
      simp [Region.wanted, yielded, hG]
    · have h18 : x 18 = .int IntKind.i64 ↑f2 := hd 18 (by kernel_rfl)
      have h19 : x 19 = .int IntKind.i64 ↑f2 := hd 19 (by kernel_rfl)
      rw [h18, h19]
      first | (go_simp; done) | (go_simp; rfl) | (go_simp; simp)
    refine StepsAt.val 21 (.bool false) rfl (fun _ _ => rfl) rfl rfl (fun x wx hb hd => ?_) ?_
    · have h17 : x 17 = .bool false := hd 17 (by kernel_rfl)
      have h20 : x 20 = .bool false := hd 20 (by kernel_rfl)
      rw [h17, h20]
      first | (go_simp; done) | (go_simp; rfl)
    exact StepsAt.done
  case fin =>
    intro xx wx hb hd
    have hx0 : xx 0 = .agg #[v6] := hd 0 (by omega)
    have hx2 : xx 2 = .agg #[v8] := hd 2 (by omega)
    have hx3 : xx 3 = .bool true := hd 3 (by omega)
    have hx4 : xx 4 = .bool false := hd 4 (by omega)
    have hx5 : xx 5 = .bool false := hd 5 (by omega)
    have hx6 : xx 6 = .int IntKind.i64 ↑f1 := hd 6 (by omega)
    have hx7 : xx 7 = .int IntKind.i64 ↑f1 := hd 7 (by omega)
    have hx8 : xx 8 = .bool false := hd 8 (by omega)
    have hx9 : xx 9 = .bool false := hd 9 (by omega)
    have hx10 : xx 10 = .bool false := hd 10 (by omega)
    have hx11 : xx 11 = .agg #[vA] := hd 11 (by omega)
    have hx13 : xx 13 = .agg #[vC] := hd 13 (by omega)
    have hx14 : xx 14 = .bool true := hd 14 (by omega)
    have hx15 : xx 15 = .bool false := hd 15 (by omega)
    have hx16 : xx 16 = .bool false := hd 16 (by omega)
    have hx17 : xx 17 = .bool false := hd 17 (by omega)
    have hx18 : xx 18 = .int IntKind.i64 ↑f2 := hd 18 (by omega)
    have hx19 : xx 19 = .int IntKind.i64 ↑f2 := hd 19 (by omega)
    have hx20 : xx 20 = .bool false := hd 20 (by omega)
    have hx21 : xx 21 = .bool false := hd 21 (by omega)
    refine AnyTill.any (S := fun _ => True) (m := 22) _ _ _ _ ?_
    refine AnyTill.done (by kernel_rfl) ?_
    refine NoPanic.normal ?_
    try dsimp only
    rw [hx0, hx2, hx3, hx4, hx5, hx6, hx7, hx8, hx9, hx10, hx11, hx13, hx14, hx15, hx16, hx17, hx18, hx19, hx20, hx21]
    have ER8 := Lib.hid hb
    clear hx0 hx2 hx3 hx4 hx5 hx6 hx7 hx8 hx9 hx10 hx11 hx13 hx14 hx15 hx16 hx17 hx18 hx19 hx20 hx21 hd hb
    have P9_w := Lib.hid (P8_w.out.trans (ER8.out.mono P8_w.out.size))
    clear P8_w
    have P9_y0 := Lib.hid (P8_y0.out.trans (ER8.out.mono P8_y0.out.size))
    clear P8_y0
    have P9_y1 := Lib.hid (P8_y1.out.trans (ER8.out.mono P8_y1.out.size))
    clear P8_y1
    have P9_W1 := Lib.hid (P8_W1.out.trans (ER8.out.mono P8_W1.out.size))
    clear P8_W1
    have P9_W2 := Lib.hid (P8_W2.out.trans (ER8.out.mono P8_W2.out.size))
    clear P8_W2
    have P9_W3 := Lib.hid (P8_W3.out.trans (ER8.out.mono P8_W3.out.size))
    clear P8_W3
    have P9_W4 := Lib.hid (P8_W4.out.trans (ER8.out.mono P8_W4.out.size))
    clear P8_W4
    have P9_W5 := Lib.hid (P8_W5.out.trans (ER8.out.mono P8_W5.out.size))
    clear P8_W5
    have P9_W6 := Lib.hid (P8_W6.out.trans (ER8.out.mono P8_W6.out.size))
    clear P8_W6
    have P9_W7 := Lib.hid (E8.out.trans (ER8.out.mono E8.out.size))
    have c_X0 := (X0.out.below P9_y0.out X0.out.lt).cell 0
    have c_X1_0 := (X1.out.below P9_y1.out X1.out.lt).at_ 0 _ rfl
    have c_X1_1 := (X1.out.below P9_y1.out X1.out.lt).at_ 1 _ rfl
    have c_X1_2 := (X1.out.below P9_y1.out X1.out.lt).at_ 2 _ rfl
    have c_X1_3 := (X1.out.below P9_y1.out X1.out.lt).at_ 3 _ rfl
    clear c_X0 c_X1_0 c_X1_1 c_X1_2 c_X1_3
    have c_X0 := (X0.out.below P9_y0.out X0.out.lt).cell 0
    have c_X1_0 := (X1.out.below P9_y1.out X1.out.lt).at_ 0 _ rfl
    have c_X1_1 := (X1.out.below P9_y1.out X1.out.lt).at_ 1 _ rfl
    have c_X1_2 := (X1.out.below P9_y1.out X1.out.lt).at_ 2 _ rfl
    have c_X1_3 := (X1.out.below P9_y1.out X1.out.lt).at_ 3 _ rfl
    go_wp2_with fail
    refine (shDel_any l p z v wx ((HR.out.below P9_w.out).more P9_w.out.size) (by have := HL.out; omega)).mono ?_
    rintro e a10 ⟨vE, rfl, hrd, hb⟩
    clear c_X0 c_X1_0 c_X1_1 c_X1_2 c_X1_3
    have ONEE := Lib.hid (one_rd hrd)
    obtain ⟨f3, hf⟩ : ∃ q, delE l p z = q := ⟨_, rfl⟩
    have HF3 := Lib.hid hf
    obtain ⟨L3, hl⟩ : ∃ q, delS l p z = q := ⟨_, rfl⟩
    have HL3 := Lib.hid hl
    have LL3 : Hid (L3.length ≤ 61) := by
      have h1 := del_len l p z
      have h2 := HL.out
      show _ ≤ _
      rw [← hl]
      omega
    rw [hl] at hrd
    rw [hf]
    clear hf hl
    go_wp2_with (refine wpList_alloc_blk rfl 24 rfl [.slice none 0 0] zPS ?_)
    intro b10 a1 a2 a3
    obtain ⟨g10, hg⟩ : ∃ g, a10.heap.size = g := ⟨_, rfl⟩
    have AA := Lib.hid a1
    have EB := Lib.hid (hb.trans (a3.mono hb.size))
    have A3 := Lib.hid a3
    have hbg : wx.heap.size ≤ g10 := by have := hb.size; omega
    have hgs : g10 ≤ b10.heap.size := by omega
    have HG := Lib.hid hg
    have RR := Lib.hid hrd
    rw [hg] at AA A3 RR ⊢
    clear a1 a2 a3 hb hg hrd
    go_wp2_with (refine wpList_store_to rfl 24 _ _ rfl g10 [vE] [.slice none 0 0] 24 rfl rfl AA.out sPS rfl ONEE.out ?_)
    intro W10 e1 e2 e3 e4
    have XE := Lib.hid e1
    have E10 := Lib.hid (EB.out.trans (e3.mono hbg))
    have RE := Lib.hid (((RR.out.below A3.out).below e3).more (show g10 ≤ W10.heap.size by omega))
    clear e1 e2 e3 e4 AA EB A3 hbg hgs HG RR
    have P10_w := Lib.hid (P9_w.out.trans (E10.out.mono P9_w.out.size))
    clear P9_w
    have P10_y0 := Lib.hid (P9_y0.out.trans (E10.out.mono P9_y0.out.size))
    clear P9_y0
    have P10_y1 := Lib.hid (P9_y1.out.trans (E10.out.mono P9_y1.out.size))
    clear P9_y1
    have P10_W1 := Lib.hid (P9_W1.out.trans (E10.out.mono P9_W1.out.size))
    clear P9_W1
    have P10_W2 := Lib.hid (P9_W2.out.trans (E10.out.mono P9_W2.out.size))
    clear P9_W2
    have P10_W3 := Lib.hid (P9_W3.out.trans (E10.out.mono P9_W3.out.size))
    clear P9_W3
    have P10_W4 := Lib.hid (P9_W4.out.trans (E10.out.mono P9_W4.out.size))
    clear P9_W4
    have P10_W5 := Lib.hid (P9_W5.out.trans (E10.out.mono P9_W5.out.size))
    clear P9_W5
    have P10_W6 := Lib.hid (P9_W6.out.trans (E10.out.mono P9_W6.out.size))
    clear P9_W6
    have P10_W7 := Lib.hid (P9_W7.out.trans (E10.out.mono P9_W7.out.size))
    clear P9_W7
    have P10_W8 := Lib.hid (ER8.out.trans (E10.out.mono ER8.out.size))
    have c_XW := (XW.out.below P10_W4.out XW.out.lt).cell 0
    have c_X1_0 := (X1.out.below P10_y1.out X1.out.lt).at_ 0 _ rfl
    have c_X1_1 := (X1.out.below P10_y1.out X1.out.lt).at_ 1 _ rfl
    have c_X1_2 := (X1.out.below P10_y1.out X1.out.lt).at_ 2 _ rfl
    have c_X1_3 := (X1.out.below P10_y1.out X1.out.lt).at_ 3 _ rfl
    go_wp2_with fail
    refine (rfDel_any l p z vw W10 ((RW.out.below P10_W4.out).more P10_W4.out.size) (by have := HL.out; omega)).mono ?_
    rintro e a11 ⟨vG, rfl, hrd, hb⟩
    clear c_XW c_X1_0 c_X1_1 c_X1_2 c_X1_3
    have ONEG := Lib.hid (one_rd hrd)
    rw [HL3.out] at hrd
    rw [HF3.out]
    go_wp2_with (refine wpList_alloc_blk rfl 30 rfl [.slice none 0 0] zSH ?_)
    intro b11 a1 a2 a3
    obtain ⟨g11, hg⟩ : ∃ g, a11.heap.size = g := ⟨_, rfl⟩
    have AA := Lib.hid a1
    have EB := Lib.hid (hb.trans (a3.mono hb.size))
    have A3 := Lib.hid a3
    have hbg : W10.heap.size ≤ g11 := by have := hb.size; omega
    have hgs : g11 ≤ b11.heap.size := by omega
    have HG := Lib.hid hg
    have RR := Lib.hid hrd
    rw [hg] at AA A3 RR ⊢
    clear a1 a2 a3 hb hg hrd
    go_wp2_with (refine wpList_store_to rfl 30 _ _ rfl g11 [vG] [.slice none 0 0] 30 rfl rfl AA.out sSH rfl ONEG.out ?_)
    intro W11 e1 e2 e3 e4
    have XG := Lib.hid e1
    have E11 := Lib.hid (EB.out.trans (e3.mono hbg))
    have RG := Lib.hid (((RR.out.below A3.out).below e3).more (show g11 ≤ W11.heap.size by omega))
    clear e1 e2 e3 e4 AA EB A3 hbg hgs HG RR
    have P11_w := Lib.hid (P10_w.out.trans (E11.out.mono P10_w.out.size))
    clear P10_w
    have P11_y0 := Lib.hid (P10_y0.out.trans (E11.out.mono P10_y0.out.size))
    clear P10_y0
    have P11_y1 := Lib.hid (P10_y1.out.trans (E11.out.mono P10_y1.out.size))
    clear P10_y1
    have P11_W1 := Lib.hid (P10_W1.out.trans (E11.out.mono P10_W1.out.size))
    clear P10_W1
    have P11_W2 := Lib.hid (P10_W2.out.trans (E11.out.mono P10_W2.out.size))
    clear P10_W2
    have P11_W3 := Lib.hid (P10_W3.out.trans (E11.out.mono P10_W3.out.size))
    clear P10_W3
    have P11_W4 := Lib.hid (P10_W4.out.trans (E11.out.mono P10_W4.out.size))
    clear P10_W4
    have P11_W5 := Lib.hid (P10_W5.out.trans (E11.out.mono P10_W5.out.size))
    clear P10_W5
    have P11_W6 := Lib.hid (P10_W6.out.trans (E11.out.mono P10_W6.out.size))
    clear P10_W6
    have P11_W7 := Lib.hid (P10_W7.out.trans (E11.out.mono P10_W7.out.size))
    clear P10_W7
    have P11_W8 := Lib.hid (P10_W8.out.trans (E11.out.mono P10_W8.out.size))
    clear P10_W8
    have P11_wx := Lib.hid (E10.out.trans (E11.out.mono E10.out.size))
    have c_X0 := (X0.out.below P11_y0.out X0.out.lt).cell 0
    have c_X1_0 := (X1.out.below P11_y1.out X1.out.lt).at_ 0 _ rfl
    have c_X1_1 := (X1.out.below P11_y1.out X1.out.lt).at_ 1 _ rfl
    have c_X1_2 := (X1.out.below P11_y1.out X1.out.lt).at_ 2 _ rfl
    have c_X1_3 := (X1.out.below P11_y1.out X1.out.lt).at_ 3 _ rfl
    go_wp2_with fail
    refine (shDrop_any l o v W11 ((HR.out.below P11_w.out).more P11_w.out.size) (by have := HL.out; omega)).mono ?_
    rintro e a12 ⟨vI, uI, rfl, hrd, hrs, hb⟩
    clear c_X0 c_X1_0 c_X1_1 c_X1_2 c_X1_3
    have ONEI := Lib.hid (one_rd hrd)
    obtain ⟨L4, hl⟩ : ∃ q, dropS l o = q := ⟨_, rfl⟩
    have HL4 := Lib.hid hl
    have LL4 : Hid (L4.length ≤ 61) := by
      have h1 := dropS_len l o
      have h2 := HL.out
      show _ ≤ _
      rw [← hl]
      omega
    obtain ⟨G4, hg4⟩ : ∃ q, goneN l o = q := ⟨_, rfl⟩
    have HG4 := Lib.hid hg4
    rw [hl] at hrd
    rw [hg4] at hrs
    clear hl hg4
    have HS := Lib.hid hrs
    clear hrs
    go_wp2_with (refine wpList_alloc_blk rfl 24 rfl [.slice none 0 0] zPS ?_)
    intro b12 a1 a2 a3
    obtain ⟨g12, hg⟩ : ∃ g, a12.heap.size = g := ⟨_, rfl⟩
    have AA := Lib.hid a1
    have EB := Lib.hid (hb.trans (a3.mono hb.size))
    have A3 := Lib.hid a3
    have hbg : W11.heap.size ≤ g12 := by have := hb.size; omega
    have hgs : g12 ≤ b12.heap.size := by omega
    have HG := Lib.hid hg
    have RR := Lib.hid hrd
    rw [hg] at AA A3 RR HS ⊢
    clear a1 a2 a3 hb hg hrd
    go_wp2_with (refine wpList_store_to rfl 24 _ _ rfl g12 [vI] [.slice none 0 0] 24 rfl rfl AA.out sPS rfl ONEI.out ?_)
    intro W12 e1 e2 e3 e4
    have XI := Lib.hid e1
    have E12 := Lib.hid (EB.out.trans (e3.mono hbg))
    have RI := Lib.hid (((RR.out.below A3.out).below e3).more (show g12 ≤ W12.heap.size by omega))
    have SI := Lib.hid (((HS.out.below A3.out).below e3).more (show g12 ≤ W12.heap.size by omega))
    clear e1 e2 e3 e4 AA EB A3 hbg hgs HG RR HS
    have P12_w := Lib.hid (P11_w.out.trans (E12.out.mono P11_w.out.size))
    clear P11_w
    have P12_y0 := Lib.hid (P11_y0.out.trans (E12.out.mono P11_y0.out.size))
    clear P11_y0
    have P12_y1 := Lib.hid (P11_y1.out.trans (E12.out.mono P11_y1.out.size))
    clear P11_y1
    have P12_W1 := Lib.hid (P11_W1.out.trans (E12.out.mono P11_W1.out.size))
    clear P11_W1
    have P12_W2 := Lib.hid (P11_W2.out.trans (E12.out.mono P11_W2.out.size))
    clear P11_W2
    have P12_W3 := Lib.hid (P11_W3.out.trans (E12.out.mono P11_W3.out.size))
    clear P11_W3
    have P12_W4 := Lib.hid (P11_W4.out.trans (E12.out.mono P11_W4.out.size))
    clear P11_W4
    have P12_W5 := Lib.hid (P11_W5.out.trans (E12.out.mono P11_W5.out.size))
    clear P11_W5
    have P12_W6 := Lib.hid (P11_W6.out.trans (E12.out.mono P11_W6.out.size))
    clear P11_W6
    have P12_W7 := Lib.hid (P11_W7.out.trans (E12.out.mono P11_W7.out.size))
    clear P11_W7
    have P12_W8 := Lib.hid (P11_W8.out.trans (E12.out.mono P11_W8.out.size))
    clear P11_W8
    have P12_wx := Lib.hid (P11_wx.out.trans (E12.out.mono P11_wx.out.size))
    clear P11_wx
    have P12_W10 := Lib.hid (E11.out.trans (E12.out.mono E11.out.size))
    have c_XW := (XW.out.below P12_W4.out XW.out.lt).cell 0
    have c_X1_0 := (X1.out.below P12_y1.out X1.out.lt).at_ 0 _ rfl
    have c_X1_1 := (X1.out.below P12_y1.out X1.out.lt).at_ 1 _ rfl
    have c_X1_2 := (X1.out.below P12_y1.out X1.out.lt).at_ 2 _ rfl
    have c_X1_3 := (X1.out.below P12_y1.out X1.out.lt).at_ 3 _ rfl
    go_wp2_with fail
    refine (rfDrop_any l o vw W12 ((RW.out.below P12_W4.out).more P12_W4.out.size) (by have := HL.out; omega)).mono ?_
    rintro e a13 ⟨vK, uK, rfl, hrd, hrs, hb⟩
    clear c_XW c_X1_0 c_X1_1 c_X1_2 c_X1_3
    have ONEK := Lib.hid (one_rd hrd)
    rw [HL4.out] at hrd
    rw [HG4.out] at hrs
    have HS := Lib.hid hrs
    clear hrs
    go_wp2_with (refine wpList_alloc_blk rfl 30 rfl [.slice none 0 0] zSH ?_)
    intro b13 a1 a2 a3
    obtain ⟨g13, hg⟩ : ∃ g, a13.heap.size = g := ⟨_, rfl⟩
    have AA := Lib.hid a1
    have EB := Lib.hid (hb.trans (a3.mono hb.size))
    have A3 := Lib.hid a3
    have hbg : W12.heap.size ≤ g13 := by have := hb.size; omega
    have hgs : g13 ≤ b13.heap.size := by omega
    have HG := Lib.hid hg
    have RR := Lib.hid hrd
    rw [hg] at AA A3 RR HS ⊢
    clear a1 a2 a3 hb hg hrd
    go_wp2_with (refine wpList_store_to rfl 30 _ _ rfl g13 [vK] [.slice none 0 0] 30 rfl rfl AA.out sSH rfl ONEK.out ?_)
    intro W13 e1 e2 e3 e4
    have XK := Lib.hid e1
    have E13 := Lib.hid (EB.out.trans (e3.mono hbg))
    have RK := Lib.hid (((RR.out.below A3.out).below e3).more (show g13 ≤ W13.heap.size by omega))
    have SK := Lib.hid (((HS.out.below A3.out).below e3).more (show g13 ≤ W13.heap.size by omega))
    clear e1 e2 e3 e4 AA EB A3 hbg hgs HG RR HS
    have P13_w := Lib.hid (P12_w.out.trans (E13.out.mono P12_w.out.size))
    clear P12_w
    have P13_y0 := Lib.hid (P12_y0.out.trans (E13.out.mono P12_y0.out.size))
    clear P12_y0
    have P13_y1 := Lib.hid (P12_y1.out.trans (E13.out.mono P12_y1.out.size))
    clear P12_y1
    have P13_W1 := Lib.hid (P12_W1.out.trans (E13.out.mono P12_W1.out.size))
    clear P12_W1
    have P13_W2 := Lib.hid (P12_W2.out.trans (E13.out.mono P12_W2.out.size))
    clear P12_W2
    have P13_W3 := Lib.hid (P12_W3.out.trans (E13.out.mono P12_W3.out.size))
    clear P12_W3
    have P13_W4 := Lib.hid (P12_W4.out.trans (E13.out.mono P12_W4.out.size))
    clear P12_W4
    have P13_W5 := Lib.hid (P12_W5.out.trans (E13.out.mono P12_W5.out.size))
    clear P12_W5
    have P13_W6 := Lib.hid (P12_W6.out.trans (E13.out.mono P12_W6.out.size))
    clear P12_W6
    have P13_W7 := Lib.hid (P12_W7.out.trans (E13.out.mono P12_W7.out.size))
    clear P12_W7
    have P13_W8 := Lib.hid (P12_W8.out.trans (E13.out.mono P12_W8.out.size))
    clear P12_W8
    have P13_wx := Lib.hid (P12_wx.out.trans (E13.out.mono P12_wx.out.size))
    clear P12_wx
    have P13_W10 := Lib.hid (P12_W10.out.trans (E13.out.mono P12_W10.out.size))
    clear P12_W10
    have P13_W11 := Lib.hid (E12.out.trans (E13.out.mono E12.out.size))
    have hn1 : ((f3 : Int) == (f3 : Int)) = true := by simp
    go_wp2
    have ZX0 := Lib.hid (X0.out.below P13_y0.out X0.out.lt)
    have ZXW := Lib.hid (XW.out.below P13_W4.out XW.out.lt)
    have ZXE := Lib.hid (XE.out.below P13_W10.out XE.out.lt)
    have ZXG := Lib.hid (XG.out.below P13_W11.out XG.out.lt)
    have ZXI := Lib.hid (XI.out.below E13.out XI.out.lt)
    have ZXK := Lib.hid XK.out
    have ZHR := Lib.hid ((HR.out.below P13_w.out).more P13_w.out.size)
    have ZRW := Lib.hid ((RW.out.below P13_W4.out).more P13_W4.out.size)
    have ZRE := Lib.hid ((RE.out.below P13_W10.out).more P13_W10.out.size)
    have ZRG := Lib.hid ((RG.out.below P13_W11.out).more P13_W11.out.size)
    have ZRI := Lib.hid ((RI.out.below E13.out).more E13.out.size)
    have ZRK := Lib.hid RK.out
    have ZSI := Lib.hid ((SI.out.below E13.out).more E13.out.size)
    have ZSK := Lib.hid SK.out
    clear hn1
    refine wp_region_rely2 30 0 (fun x => ⟨#[.agg #[v], .agg #[txt p, txt vl, Value.int IntKind.i64 o, Value.int IntKind.i64 z], .pointer (some { block := gb0, off := 0 }), .pointer (some { block := gb1, off := 0 }), x 29, .pointer (some { block := g4, off := 0 }), .pointer (some { block := g5, off := 0 }), .int IntKind.i64 ↑f1, .pointer (some { block := g6, off := 0 }), .int IntKind.i64 ↑f1, .pointer (some { block := g7, off := 0 }), .int IntKind.i64 ↑f2, .pointer (some { block := g8, off := 0 }), .int IntKind.i64 ↑f2, .pointer (some { block := g10, off := 0 }), .int IntKind.i64 ↑f3, .pointer (some { block := g11, off := 0 }), .int IntKind.i64 ↑f3, .pointer (some { block := g12, off := 0 }), uI, .pointer (some { block := g13, off := 0 }), uK, .agg #[v], .bool true, .bool false, .bool false, .agg #[v], .agg #[vp], .bool true, .bool false, .bool false, .bool false, .pointer (some { block := gb1, off := 0 }), txt p, .int IntKind.i64 ↑m1, .bool (decide ((1100 : Int) < (m1 : Int))), .bool (decide ((1100 : Int) < (m1 : Int))), .bool (decide ((1100 : Int) < (m1 : Int))), .pointer (some { block := gb1, off := 1 }), txt vl, .int IntKind.i64 ↑m2, .bool (decide ((1100 : Int) < (m2 : Int))), .bool (decide ((1100 : Int) < (m1 : Int)) || decide ((1100 : Int) < (m2 : Int))), undef, .agg #[v], .agg #[vw], .tuple #[Value.agg #[v6], Value.int IntKind.i64 ↑f1], .agg #[v], .pointer (some { block := gb1, off := 0 }), txt p, .pointer (some { block := gb1, off := 1 }), txt vl, .pointer (some { block := gb1, off := 2 }), .int IntKind.i64 o, .tuple #[Value.agg #[v6], Value.int IntKind.i64 ↑f1], .agg #[v6], .int IntKind.i64 ↑f1, .tuple #[Value.agg #[v8], Value.int IntKind.i64 ↑f1], .agg #[vw], .pointer (some { block := gb1, off := 0 }), txt p, .pointer (some { block := gb1, off := 1 }), txt vl, .pointer (some { block := gb1, off := 2 }), .int IntKind.i64 o, .tuple #[Value.agg #[v8], Value.int IntKind.i64 ↑f1], .agg #[v8], .int IntKind.i64 ↑f1, .tuple #[Value.agg #[vA], Value.int IntKind.i64 ↑f2], .agg #[v], .pointer (some { block := gb1, off := 0 }), txt p, .pointer (some { block := gb1, off := 1 }), txt vl, .pointer (some { block := gb1, off := 3 }), .int IntKind.i64 z, .tuple #[Value.agg #[vA], Value.int IntKind.i64 ↑f2], .agg #[vA], .int IntKind.i64 ↑f2, .tuple #[Value.agg #[vC], Value.int IntKind.i64 ↑f2], .agg #[vw], .pointer (some { block := gb1, off := 0 }), txt p, .pointer (some { block := gb1, off := 1 }), txt vl, .pointer (some { block := gb1, off := 3 }), .int IntKind.i64 z, .tuple #[Value.agg #[vC], Value.int IntKind.i64 ↑f2], .agg #[vC], .int IntKind.i64 ↑f2, .agg #[v6], xx 1, .agg #[v8], .bool true, .bool false, .bool false, .int IntKind.i64 ↑f1, .int IntKind.i64 ↑f1, .bool false, .bool false, .bool false, .agg #[vA], xx 12, .agg #[vC], .bool true, .bool false, .bool false, .bool false, .int IntKind.i64 ↑f2, .int IntKind.i64 ↑f2, .bool false, .bool false, .tuple #[Value.agg #[vE], Value.int IntKind.i64 ↑f3], .agg #[v], .pointer (some { block := gb1, off := 0 }), txt p, .pointer (some { block := gb1, off := 3 }), .int IntKind.i64 z, .tuple #[Value.agg #[vE], Value.int IntKind.i64 ↑f3], .agg #[vE], .int IntKind.i64 ↑f3, .tuple #[Value.agg #[vG], Value.int IntKind.i64 ↑f3], .agg #[vw], .pointer (some { block := gb1, off := 0 }), txt p, .pointer (some { block := gb1, off := 3 }), .int IntKind.i64 z, .tuple #[Value.agg #[vG], Value.int IntKind.i64 ↑f3], .agg #[vG], .int IntKind.i64 ↑f3, .tuple #[Value.agg #[vI], uI], .agg #[v], .pointer (some { block := gb1, off := 2 }), .int IntKind.i64 o, .tuple #[Value.agg #[vI], uI], .agg #[vI], uI, .tuple #[Value.agg #[vK], uK], .agg #[vw], .pointer (some { block := gb1, off := 2 }), .int IntKind.i64 o, .tuple #[Value.agg #[vK], uK], .agg #[vK], uK, x 0, x 1, x 2, x 3, x 4, x 5, x 6, x 7, x 8, x 9, x 10, x 11, x 12, x 13, x 14, x 15, x 16, x 17, x 18, x 19, x 20, x 21, x 22, x 23, x 24, x 25, x 26, x 27, x 28], []⟩) (fun jj => ([(eqV (.bool true)), eqV (.bool true), eqV (.agg #[vE]), (PlainP L3), eqV (.agg #[vG]), (eqV (.bool true)), eqV (.bool true), eqV (.bool true), eqV (.int IntKind.i64 ↑f3), eqV (.int IntKind.i64 ↑f3), eqV (.bool true), eqV (.bool true), eqV (.bool true), eqV (.agg #[vI]), (PlainP L4), eqV (.agg #[vK]), (eqV (.bool true)), eqV (.bool true), eqV (.bool true), eqV (uI), eqV (uK), (eqV (.bool true)), eqV (.bool true), eqV (.bool true), eqV (.agg #[v]), (PlainP l), eqV (.agg #[vw]), (eqV (.bool true)), eqV (.bool true), eqV (.bool true)] : List (Value → World → Prop)).getD jj (fun _ _ => True)) rfl ⟨fun kk => [_, _, _, _, _, _, _, _, _, _, _, _, _, _, _, _, _, _, _, _, _, _, _, _, _, _, _, _, _, _].getD kk undef, rfl⟩ (by kernel_rfl) (by kernel_rfl) ?steps ?fin
    case steps =>
      refine StepsAt.cons 0 (fun _ _ _ h hb => h) (fun _ _ => rfl) rfl rfl (fun x wz hb hd K hK => ?_) ?_
      · go_simp
        refine (alive9 _).mono ?_
        rintro e w99 ⟨rfl, hb99⟩
        exact hK.out _ _ hb99 rfl
      refine StepsAt.val 1 (.bool true) rfl (fun _ _ => rfl) rfl rfl (fun x wz hb hd => ?_) ?_
      · have h0 : x 0 = .bool true := hd 0 (by kernel_rfl)
        rw [h0]
        first | (go_simp; done) | (go_simp; rfl)
      refine StepsAt.valG 2 (.agg #[vE]) rfl (fun _ _ => rfl) rfl (fun x wz hd => ?_) (fun x wz hb hd => ?_) ?_
      · have hG : x 1 = .bool true := hd 1 (by kernel_rfl)
        simp [Region.wanted, yielded, hG]
      · have cc := ((ZXE.out.below hb ZXE.out.lt).cell 0).trans (show _ = some (vE) from rfl)
        first | (go_simp; done) | (go_simp; rfl)
      refine StepsAt.consG 3 (fun _ _ _ h hb => h.keep hb) (fun _ _ => rfl) rfl (fun x wz hd => ?_) (fun x wz hb hd K hK => ?_) ?_
      · have hG : x 1 = .bool true := hd 1 (by kernel_rfl)
        simp [Region.wanted, yielded, hG]
      · have h2 : Hid (x 2 = .agg #[vE]) := hd 2 (by kernel_rfl)
        go_simp
        refine calls_args (args2 := #[.agg #[vE]]) (by rw [h2.out]) ?_
        refine (plain_any L3 vE _ ((ZRE.out.below hb).more hb.size) (by have := LL3.out; omega)).mono ?_
        rintro e w99 ⟨v99, rfl, hrd, hb99⟩
        exact hK.out _ _ hb99 ⟨v99, rfl, hrd⟩
      refine StepsAt.valG 4 (.agg #[vG]) rfl (fun _ _ => rfl) rfl (fun x wz hd => ?_) (fun x wz hb hd => ?_) ?_
      · have hG : x 1 = .bool true := hd 1 (by kernel_rfl)
        simp [Region.wanted, yielded, hG]
      · have cc := ((ZXG.out.below hb ZXG.out.lt).cell 0).trans (show _ = some (vG) from rfl)
        first | (go_simp; done) | (go_simp; rfl)
      refine StepsAt.consG 5 (fun _ _ _ h hb => h) (fun _ _ => rfl) rfl (fun x wz hd => ?_) (fun x wz hb hd K hK => ?_) ?_
      · have hG : x 1 = .bool true := hd 1 (by kernel_rfl)
        simp [Region.wanted, yielded, hG]
      · have h4 : Hid (x 4 = .agg #[vG]) := hd 4 (by kernel_rfl)
        have h3 : PlainP L3 (x 3) wz := hd 3 (by kernel_rfl)
        go_simp
        obtain ⟨v99, hv99, hr99⟩ := h3
        refine calls_args (args2 := #[.agg #[v99], .agg #[vG]]) (by rw [hv99, h4.out]) ?_
        refine (rfSame_yes L3 v99 vG _ hr99 ((ZRG.out.below hb).more hb.size)).mono ?_
        rintro e w99 ⟨rfl, hb99⟩
        exact hK.out _ _ hb99 rfl
      refine StepsAt.val 6 (.bool true) rfl (fun _ _ => rfl) rfl rfl (fun x wz hb hd => ?_) ?_
      · have h1 : x 1 = .bool true := hd 1 (by kernel_rfl)
        have h5 : x 5 = .bool true := hd 5 (by kernel_rfl)
        rw [h1, h5]
        first | (go_simp; done) | (go_simp; rfl)
      refine StepsAt.val 7 (.bool true) rfl (fun _ _ => rfl) rfl rfl (fun x wz hb hd => ?_) ?_
      · have h6 : x 6 = .bool true := hd 6 (by kernel_rfl)
        rw [h6]
        first | (go_simp; done) | (go_simp; rfl)
      refine StepsAt.valG 8 (.int IntKind.i64 ↑f3) rfl (fun _ _ => rfl) rfl (fun x wz hd => ?_) (fun x wz hb hd => ?_) ?_
      · have hG : x 7 = .bool true := hd 7 (by kernel_rfl)
        simp [Region.wanted, yielded, hG]
      · first | (go_simp; done) | (go_simp; rfl)
      refine StepsAt.valG 9 (.int IntKind.i64 ↑f3) rfl (fun _ _ => rfl) rfl (fun x wz hd => ?_) (fun x wz hb hd => ?_) ?_
      · have hG : x 7 = .bool true := hd 7 (by kernel_rfl)
        simp [Region.wanted, yielded, hG]
      · first | (go_simp; done) | (go_simp; rfl)
      refine StepsAt.valG 10 (.bool true) rfl (fun _ _ => rfl) rfl (fun x wz hd => ?_) (fun x wz hb hd => ?_) ?_
      · have hG : x 7 = .bool true := hd 7 (by kernel_rfl)
        simp [Region.wanted, yielded, hG]
      · have h8 : x 8 = .int IntKind.i64 ↑f3 := hd 8 (by kernel_rfl)
        have h9 : x 9 = .int IntKind.i64 ↑f3 := hd 9 (by kernel_rfl)
        rw [h8, h9]
        first | (go_simp; done) | (go_simp; rfl) | (go_simp; simp)
      refine StepsAt.val 11 (.bool true) rfl (fun _ _ => rfl) rfl rfl (fun x wz hb hd => ?_) ?_
      · have h7 : x 7 = .bool true := hd 7 (by kernel_rfl)
        have h10 : x 10 = .bool true := hd 10 (by kernel_rfl)
        rw [h7, h10]
        first | (go_simp; done) | (go_simp; rfl)
      refine StepsAt.val 12 (.bool true) rfl (fun _ _ => rfl) rfl rfl (fun x wz hb hd => ?_) ?_
      · have h11 : x 11 = .bool true := hd 11 (by kernel_rfl)
        rw [h11]
        first | (go_simp; done) | (go_simp; rfl)
      refine StepsAt.valG 13 (.agg #[vI]) rfl (fun _ _ => rfl) rfl (fun x wz hd => ?_) (fun x wz hb hd => ?_) ?_
      · have hG : x 12 = .bool true := hd 12 (by kernel_rfl)
        simp [Region.wanted, yielded, hG]
      · have cc := ((ZXI.out.below hb ZXI.out.lt).cell 0).trans (show _ = some (vI) from rfl)
        first | (go_simp; done) | (go_simp; rfl)
      refine StepsAt.consG 14 (fun _ _ _ h hb => h.keep hb) (fun _ _ => rfl) rfl (fun x wz hd => ?_) (fun x wz hb hd K hK => ?_) ?_
      · have hG : x 12 = .bool true := hd 12 (by kernel_rfl)
        simp [Region.wanted, yielded, hG]
      · have h13 : Hid (x 13 = .agg #[vI]) := hd 13 (by kernel_rfl)
        go_simp
        refine calls_args (args2 := #[.agg #[vI]]) (by rw [h13.out]) ?_
        refine (plain_any L4 vI _ ((ZRI.out.below hb).more hb.size) (by have := LL4.out; omega)).mono ?_
        rintro e w99 ⟨v99, rfl, hrd, hb99⟩
        exact hK.out _ _ hb99 ⟨v99, rfl, hrd⟩
      refine StepsAt.valG 15 (.agg #[vK]) rfl (fun _ _ => rfl) rfl (fun x wz hd => ?_) (fun x wz hb hd => ?_) ?_
      · have hG : x 12 = .bool true := hd 12 (by kernel_rfl)
        simp [Region.wanted, yielded, hG]
      · have cc := ((ZXK.out.below hb ZXK.out.lt).cell 0).trans (show _ = some (vK) from rfl)
        first | (go_simp; done) | (go_simp; rfl)
      refine StepsAt.consG 16 (fun _ _ _ h hb => h) (fun _ _ => rfl) rfl (fun x wz hd => ?_) (fun x wz hb hd K hK => ?_) ?_
      · have hG : x 12 = .bool true := hd 12 (by kernel_rfl)
        simp [Region.wanted, yielded, hG]
      · have h15 : Hid (x 15 = .agg #[vK]) := hd 15 (by kernel_rfl)
        have h14 : PlainP L4 (x 14) wz := hd 14 (by kernel_rfl)
        go_simp
        obtain ⟨v99, hv99, hr99⟩ := h14
        refine calls_args (args2 := #[.agg #[v99], .agg #[vK]]) (by rw [hv99, h15.out]) ?_
        refine (rfSame_yes L4 v99 vK _ hr99 ((ZRK.out.below hb).more hb.size)).mono ?_
        rintro e w99 ⟨rfl, hb99⟩
        exact hK.out _ _ hb99 rfl
      refine StepsAt.val 17 (.bool true) rfl (fun _ _ => rfl) rfl rfl (fun x wz hb hd => ?_) ?_
      · have h12 : x 12 = .bool true := hd 12 (by kernel_rfl)
        have h16 : x 16 = .bool true := hd 16 (by kernel_rfl)
        rw [h12, h16]
        first | (go_simp; done) | (go_simp; rfl)
      refine StepsAt.val 18 (.bool true) rfl (fun _ _ => rfl) rfl rfl (fun x wz hb hd => ?_) ?_
      · have h17 : x 17 = .bool true := hd 17 (by kernel_rfl)
        rw [h17]
        first | (go_simp; done) | (go_simp; rfl)
      refine StepsAt.valG 19 (uI) rfl (fun _ _ => rfl) rfl (fun x wz hd => ?_) (fun x wz hb hd => ?_) ?_
      · have hG : x 18 = .bool true := hd 18 (by kernel_rfl)
        simp [Region.wanted, yielded, hG]
      · first | (go_simp; done) | (go_simp; rfl)
      refine StepsAt.valG 20 (uK) rfl (fun _ _ => rfl) rfl (fun x wz hd => ?_) (fun x wz hb hd => ?_) ?_
      · have hG : x 18 = .bool true := hd 18 (by kernel_rfl)
        simp [Region.wanted, yielded, hG]
      · first | (go_simp; done) | (go_simp; rfl)
      refine StepsAt.consG 21 (fun _ _ _ h hb => h) (fun _ _ => rfl) rfl (fun x wz hd => ?_) (fun x wz hb hd K hK => ?_) ?_
      · have hG : x 18 = .bool true := hd 18 (by kernel_rfl)
        simp [Region.wanted, yielded, hG]
      · have h19 : Hid (x 19 = uI) := hd 19 (by kernel_rfl)
        have h20 : Hid (x 20 = uK) := hd 20 (by kernel_rfl)
        go_simp
        refine calls_args (args2 := #[uI, uK]) (by rw [h19.out, h20.out]) ?_
        refine (same_texts G4 uI uK _ _ _ (ZSI.out.below hb) (ZSK.out.below hb)).mono ?_
        rintro e w99 ⟨rfl, hb99⟩
        exact hK.out _ _ hb99 rfl
      refine StepsAt.val 22 (.bool true) rfl (fun _ _ => rfl) rfl rfl (fun x wz hb hd => ?_) ?_
      · have h18 : x 18 = .bool true := hd 18 (by kernel_rfl)
        have h21 : x 21 = .bool true := hd 21 (by kernel_rfl)
        rw [h18, h21]
        first | (go_simp; done) | (go_simp; rfl)
      refine StepsAt.val 23 (.bool true) rfl (fun _ _ => rfl) rfl rfl (fun x wz hb hd => ?_) ?_
      · have h22 : x 22 = .bool true := hd 22 (by kernel_rfl)
        rw [h22]
        first | (go_simp; done) | (go_simp; rfl)
      refine StepsAt.valG 24 (.agg #[v]) rfl (fun _ _ => rfl) rfl (fun x wz hd => ?_) (fun x wz hb hd => ?_) ?_
      · have hG : x 23 = .bool true := hd 23 (by kernel_rfl)
        simp [Region.wanted, yielded, hG]
      · have cc := ((ZX0.out.below hb ZX0.out.lt).cell 0).trans (show _ = some (v) from rfl)
        first | (go_simp; done) | (go_simp; rfl)
      refine StepsAt.consG 25 (fun _ _ _ h hb => h.keep hb) (fun _ _ => rfl) rfl (fun x wz hd => ?_) (fun x wz hb hd K hK => ?_) ?_
      · have hG : x 23 = .bool true := hd 23 (by kernel_rfl)
        simp [Region.wanted, yielded, hG]
      · have h24 : Hid (x 24 = .agg #[v]) := hd 24 (by kernel_rfl)
        go_simp
        refine calls_args (args2 := #[.agg #[v]]) (by rw [h24.out]) ?_
        refine (plain_any l v _ ((ZHR.out.below hb).more hb.size) (by have := HL.out; omega)).mono ?_
        rintro e w99 ⟨v99, rfl, hrd, hb99⟩
        exact hK.out _ _ hb99 ⟨v99, rfl, hrd⟩
      refine StepsAt.valG 26 (.agg #[vw]) rfl (fun _ _ => rfl) rfl (fun x wz hd => ?_) (fun x wz hb hd => ?_) ?_
      · have hG : x 23 = .bool true := hd 23 (by kernel_rfl)
        simp [Region.wanted, yielded, hG]
      · have cc := ((ZXW.out.below hb ZXW.out.lt).cell 0).trans (show _ = some (vw) from rfl)
        first | (go_simp; done) | (go_simp; rfl)
      refine StepsAt.consG 27 (fun _ _ _ h hb => h) (fun _ _ => rfl) rfl (fun x wz hd => ?_) (fun x wz hb hd K hK => ?_) ?_
      · have hG : x 23 = .bool true := hd 23 (by kernel_rfl)
        simp [Region.wanted, yielded, hG]
      · have h26 : Hid (x 26 = .agg #[vw]) := hd 26 (by kernel_rfl)
        have h25 : PlainP l (x 25) wz := hd 25 (by kernel_rfl)
        go_simp
        obtain ⟨v99, hv99, hr99⟩ := h25
        refine calls_args (args2 := #[.agg #[v99], .agg #[vw]]) (by rw [hv99, h26.out]) ?_
        refine (rfSame_yes l v99 vw _ hr99 ((ZRW.out.below hb).more hb.size)).mono ?_
        rintro e w99 ⟨rfl, hb99⟩
        exact hK.out _ _ hb99 rfl
      refine StepsAt.val 28 (.bool true) rfl (fun _ _ => rfl) rfl rfl (fun x wz hb hd => ?_) ?_
      · have h23 : x 23 = .bool true := hd 23 (by kernel_rfl)
        have h27 : x 27 = .bool true := hd 27 (by kernel_rfl)
        rw [h23, h27]
        first | (go_simp; done) | (go_simp; rfl)
      refine StepsAt.val 29 (.bool true) rfl (fun _ _ => rfl) rfl rfl (fun x wz hb hd => ?_) ?_
      · have h28 : x 28 = .bool true := hd 28 (by kernel_rfl)
        rw [h28]
        first | (go_simp; done) | (go_simp; rfl)
      exact StepsAt.done
    case fin =>
      intro x wz hb hd
      have hx0 : x 0 = .bool true := hd 0 (by omega)
      have hx1 : x 1 = .bool true := hd 1 (by omega)
      have hx2 : x 2 = .agg #[vE] := hd 2 (by omega)
      have hx4 : x 4 = .agg #[vG] := hd 4 (by omega)
      have hx5 : x 5 = .bool true := hd 5 (by omega)
      have hx6 : x 6 = .bool true := hd 6 (by omega)
      have hx7 : x 7 = .bool true := hd 7 (by omega)
      have hx8 : x 8 = .int IntKind.i64 ↑f3 := hd 8 (by omega)
      have hx9 : x 9 = .int IntKind.i64 ↑f3 := hd 9 (by omega)
      have hx10 : x 10 = .bool true := hd 10 (by omega)
      have hx11 : x 11 = .bool true := hd 11 (by omega)
      have hx12 : x 12 = .bool true := hd 12 (by omega)
      have hx13 : x 13 = .agg #[vI] := hd 13 (by omega)
      have hx15 : x 15 = .agg #[vK] := hd 15 (by omega)
      have hx16 : x 16 = .bool true := hd 16 (by omega)
      have hx17 : x 17 = .bool true := hd 17 (by omega)
      have hx18 : x 18 = .bool true := hd 18 (by omega)
      have hx19 : x 19 = uI := hd 19 (by omega)
      have hx20 : x 20 = uK := hd 20 (by omega)
      have hx21 : x 21 = .bool true := hd 21 (by omega)
      have hx22 : x 22 = .bool true := hd 22 (by omega)
      have hx23 : x 23 = .bool true := hd 23 (by omega)
      have hx24 : x 24 = .agg #[v] := hd 24 (by omega)
      have hx26 : x 26 = .agg #[vw] := hd 26 (by omega)
      have hx27 : x 27 = .bool true := hd 27 (by omega)
      have hx28 : x 28 = .bool true := hd 28 (by omega)
      have hx29 : x 29 = .bool true := hd 29 (by omega)
      refine AnyTill.any (S := fun _ => True) (m := 30) _ _ _ _ ?_
      refine AnyTill.done (by kernel_rfl) ?_
      refine NoPanic.normal ?_
      try dsimp only
      rw [hx0, hx1, hx2, hx4, hx5, hx6, hx7, hx8, hx9, hx10, hx11, hx12, hx13, hx15, hx16, hx17, hx18, hx19, hx20, hx21, hx22, hx23, hx24, hx26, hx27, hx28, hx29]
      have ER14 := Lib.hid hb
      clear hx0 hx1 hx2 hx4 hx5 hx6 hx7 hx8 hx9 hx10 hx11 hx12 hx13 hx15 hx16 hx17 hx18 hx19 hx20 hx21 hx22 hx23 hx24 hx26 hx27 hx28 hx29 hd hb
      have P14_w := Lib.hid (P13_w.out.trans (ER14.out.mono P13_w.out.size))
      clear P13_w
      have P14_y0 := Lib.hid (P13_y0.out.trans (ER14.out.mono P13_y0.out.size))
      clear P13_y0
      have P14_y1 := Lib.hid (P13_y1.out.trans (ER14.out.mono P13_y1.out.size))
      clear P13_y1
      have P14_W1 := Lib.hid (P13_W1.out.trans (ER14.out.mono P13_W1.out.size))
      clear P13_W1
      have P14_W2 := Lib.hid (P13_W2.out.trans (ER14.out.mono P13_W2.out.size))
      clear P13_W2
      have P14_W3 := Lib.hid (P13_W3.out.trans (ER14.out.mono P13_W3.out.size))
      clear P13_W3
      have P14_W4 := Lib.hid (P13_W4.out.trans (ER14.out.mono P13_W4.out.size))
      clear P13_W4
      have P14_W5 := Lib.hid (P13_W5.out.trans (ER14.out.mono P13_W5.out.size))
      clear P13_W5
      have P14_W6 := Lib.hid (P13_W6.out.trans (ER14.out.mono P13_W6.out.size))
      clear P13_W6
      have P14_W7 := Lib.hid (P13_W7.out.trans (ER14.out.mono P13_W7.out.size))
      clear P13_W7
      have P14_W8 := Lib.hid (P13_W8.out.trans (ER14.out.mono P13_W8.out.size))
      clear P13_W8
      have P14_wx := Lib.hid (P13_wx.out.trans (ER14.out.mono P13_wx.out.size))
      clear P13_wx
      have P14_W10 := Lib.hid (P13_W10.out.trans (ER14.out.mono P13_W10.out.size))
      clear P13_W10
      have P14_W11 := Lib.hid (P13_W11.out.trans (ER14.out.mono P13_W11.out.size))
      clear P13_W11
      have P14_W12 := Lib.hid (E13.out.trans (ER14.out.mono E13.out.size))
      go_wp2
      go_ret
      exact ⟨rfl, P14_w.out⟩
end Go.Proofs.YtlpakfaoaodaiaaDoor
