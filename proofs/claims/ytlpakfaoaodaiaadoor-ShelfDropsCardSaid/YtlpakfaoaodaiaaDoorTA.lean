/-
  The statements on shelves: what they have in common; ShelfAsks.
-/
import Derived.Test.YtlpakfaoaodaiaaDoorSA
import Derived.Test.YtlpakfaoaodaiaaDoorYT
import Derived.Test.YtlpakfaoaodaiaaDoorOpenN
namespace Go.Proofs.YtlpakfaoaodaiaaDoor
open Go.RowKit

theorem few_len (l : List Nd) (h : fewN l = true) : l.length ≤ 60 := by
  unfold fewN at h
  simp only [Bool.and_eq_true, decide_eq_true_eq] at h
  exact h.1
theorem one_rd {B : Nat} {w : World} {v : Value} {l : List Nd} (h : RdNd B w v l) : [v].toArray.all (·.oneCell') = true := by
  obtain ⟨A, c, rfl, -, -⟩ := h.shape
  exact slice_one _ _ _

set_option maxRecDepth 100000 in
set_option maxHeartbeats 8000000 in
theorem asks_all (v : Value) (l : List Nd) (x : List UInt8) (w : World) (hr : RdNd w.heap.size w v l) (_hb : ∀ n ∈ l, fitI (nR n) ∧ fitI (nO n)) : Calls Tryd.prog 5 #[.agg #[v], txt x] w (One (.bool true) w) := by
  clear _hb
  have HR := Lib.hid hr
  obtain ⟨m, hm⟩ : ∃ m, x.length = m := ⟨_, rfl⟩
  have hsz : (⟨x.toArray⟩ : ByteArray).size = m := hm
  clear hr hm
  go_enter Tryd.func5, Tryd.ntmps5
  go_wp2_with (refine wpList_box_blk rfl 24 _ rfl [v] rfl ?_)
  intro y0 b1 b2 b3
  obtain ⟨gb0, hg⟩ : ∃ g, w.heap.size = g := ⟨_, rfl⟩
  have X0 := Lib.hid b1
  have EB0 := Lib.hid b3
  rw [hg] at X0 ⊢
  clear b1 b2 b3 hg
  have c_X0 := X0.out.cell 0
  go_wp2_with fail
  refine (few_any l v y0 ((HR.out.below EB0.out).more EB0.out.size)).mono ?_
  rintro e W1 ⟨rfl, hb⟩
  have E1 := Lib.hid hb
  clear hb c_X0
  have P1_w := Lib.hid (EB0.out.trans (E1.out.mono EB0.out.size))
  cases hF : fewN l
  · clear hF
    go_wp2_with fail
    refine (alive9 W1).mono ?_
    rintro e W2 ⟨rfl, hb⟩
    have E2 := Lib.hid hb
    clear hb
    have P2_w := Lib.hid (P1_w.out.trans (E2.out.mono P1_w.out.size))
    clear P1_w
    have P2_y0 := Lib.hid (E1.out.trans (E2.out.mono E1.out.size))
    go_wp2
    go_ret
    exact ⟨rfl, P2_w.out⟩

  have HL := Lib.hid (few_len l hF)
  clear hF
  have c_X0 := (X0.out.below E1.out X0.out.lt).cell 0
  go_wp2_with fail
  refine (plain_any l v W1 ((HR.out.below P1_w.out).more P1_w.out.size) (by have := HL.out; omega)).mono ?_
  rintro e W2 ⟨vp, rfl, hrd, hb⟩
  have E2 := Lib.hid hb
  clear hb c_X0
  have P2_w := Lib.hid (P1_w.out.trans (E2.out.mono P1_w.out.size))
  clear P1_w
  have P2_y0 := Lib.hid (E1.out.trans (E2.out.mono E1.out.size))
  have RP := Lib.hid hrd
  clear hrd
  go_wp2_with fail
  refine (rfRightN_any l vp W2 RP.out).mono ?_
  rintro e W3 ⟨rfl, hb⟩
  have E3 := Lib.hid hb
  clear hb
  have P3_w := Lib.hid (P2_w.out.trans (E3.out.mono P2_w.out.size))
  clear P2_w
  have P3_y0 := Lib.hid (P2_y0.out.trans (E3.out.mono P2_y0.out.size))
  clear P2_y0
  have P3_W1 := Lib.hid (E2.out.trans (E3.out.mono E2.out.size))
  cases hG : rightN l
  · clear hG
    go_wp2_with fail
    refine (alive9 W3).mono ?_
    rintro e W4 ⟨rfl, hb⟩
    have E4 := Lib.hid hb
    clear hb
    have P4_w := Lib.hid (P3_w.out.trans (E4.out.mono P3_w.out.size))
    clear P3_w
    have P4_y0 := Lib.hid (P3_y0.out.trans (E4.out.mono P3_y0.out.size))
    clear P3_y0
    have P4_W1 := Lib.hid (P3_W1.out.trans (E4.out.mono P3_W1.out.size))
    clear P3_W1
    have P4_W2 := Lib.hid (E3.out.trans (E4.out.mono E3.out.size))
    go_wp2
    go_ret
    exact ⟨rfl, P4_w.out⟩

  clear hG
  by_cases h11 : 1100 < (m : Int)
  · go_wp2_with fail
    refine (alive9 W3).mono ?_
    rintro e W4 ⟨rfl, hb⟩
    have E4 := Lib.hid hb
    clear hb
    have P4_w := Lib.hid (P3_w.out.trans (E4.out.mono P3_w.out.size))
    clear P3_w
    have P4_y0 := Lib.hid (P3_y0.out.trans (E4.out.mono P3_y0.out.size))
    clear P3_y0
    have P4_W1 := Lib.hid (P3_W1.out.trans (E4.out.mono P3_W1.out.size))
    clear P3_W1
    have P4_W2 := Lib.hid (E3.out.trans (E4.out.mono E3.out.size))
    go_wp2
    go_ret
    exact ⟨rfl, P4_w.out⟩

  have c_X0 := (X0.out.below P3_y0.out X0.out.lt).cell 0
  go_wp2_with fail
  refine (shGet_any l x v W3 ((HR.out.below P3_w.out).more P3_w.out.size)).mono ?_
  rintro e a4 ⟨rfl, hb⟩
  clear c_X0
  obtain ⟨nd, hx⟩ : ∃ q, getS l x = q := ⟨_, rfl⟩
  obtain ⟨f, hf⟩ : ∃ q, getE l x = q := ⟨_, rfl⟩
  have HNX := Lib.hid hx
  have HFX := Lib.hid hf
  rw [hx, hf]
  clear hx hf
  go_wp2_with (refine wpList_alloc_blk rfl 53 rfl (ndc nd0) zPN ?_)
  intro b4 a1 a2 a3
  obtain ⟨g4, hg⟩ : ∃ g, a4.heap.size = g := ⟨_, rfl⟩
  have AA := Lib.hid a1
  have EB := Lib.hid (hb.trans (a3.mono hb.size))
  have A3 := Lib.hid a3
  have hbg : W3.heap.size ≤ g4 := by have := hb.size; omega
  have hgs : g4 ≤ b4.heap.size := by omega
  have HG := Lib.hid hg
  rw [hg] at AA A3 ⊢
  clear a1 a2 a3 hb hg
  go_wp2_with (refine wpList_store_to rfl 53 _ _ rfl g4 (ndc nd) (ndc nd0) 53 rfl rfl AA.out sPN rfl (ndc_one _) ?_)
  intro W4 e1 e2 e3 e4
  have XN := Lib.hid e1
  have E4 := Lib.hid (EB.out.trans (e3.mono hbg))
  clear e1 e2 e3 e4 AA EB A3 hbg hgs HG
  have P4_w := Lib.hid (P3_w.out.trans (E4.out.mono P3_w.out.size))
  clear P3_w
  have P4_y0 := Lib.hid (P3_y0.out.trans (E4.out.mono P3_y0.out.size))
  clear P3_y0
  have P4_W1 := Lib.hid (P3_W1.out.trans (E4.out.mono P3_W1.out.size))
  clear P3_W1
  have P4_W2 := Lib.hid (E3.out.trans (E4.out.mono E3.out.size))
  have c_X0 := (X0.out.below P4_y0.out X0.out.lt).cell 0
  go_wp2_with fail
  refine (plain_any l v W4 ((HR.out.below P4_w.out).more P4_w.out.size) (by have := HL.out; omega)).mono ?_
  rintro e W5 ⟨vq, rfl, hrd, hb⟩
  have E5 := Lib.hid hb
  clear hb c_X0
  have P5_w := Lib.hid (P4_w.out.trans (E5.out.mono P4_w.out.size))
  clear P4_w
  have P5_y0 := Lib.hid (P4_y0.out.trans (E5.out.mono P4_y0.out.size))
  clear P4_y0
  have P5_W1 := Lib.hid (P4_W1.out.trans (E5.out.mono P4_W1.out.size))
  clear P4_W1
  have P5_W2 := Lib.hid (P4_W2.out.trans (E5.out.mono P4_W2.out.size))
  clear P4_W2
  have P5_W3 := Lib.hid (E4.out.trans (E5.out.mono E4.out.size))
  have RQ := Lib.hid hrd
  clear hrd
  go_wp2_with fail
  refine (rfGet_any l x vq W5 RQ.out).mono ?_
  rintro e a6 ⟨rfl, hb⟩
  rw [HNX.out, HFX.out]
  go_wp2_with (refine wpList_alloc_blk rfl 56 rfl (ndc nd0) zND ?_)
  intro b6 a1 a2 a3
  obtain ⟨g6, hg⟩ : ∃ g, a6.heap.size = g := ⟨_, rfl⟩
  have AA := Lib.hid a1
  have EB := Lib.hid (hb.trans (a3.mono hb.size))
  have A3 := Lib.hid a3
  have hbg : W5.heap.size ≤ g6 := by have := hb.size; omega
  have hgs : g6 ≤ b6.heap.size := by omega
  have HG := Lib.hid hg
  rw [hg] at AA A3 ⊢
  clear a1 a2 a3 hb hg
  go_wp2_with (refine wpList_store_to rfl 56 _ _ rfl g6 (ndc nd) (ndc nd0) 56 rfl rfl AA.out sND rfl (ndc_one _) ?_)
  intro W6 e1 e2 e3 e4
  have XM := Lib.hid e1
  have E6 := Lib.hid (EB.out.trans (e3.mono hbg))
  clear e1 e2 e3 e4 AA EB A3 hbg hgs HG
  have P6_w := Lib.hid (P5_w.out.trans (E6.out.mono P5_w.out.size))
  clear P5_w
  have P6_y0 := Lib.hid (P5_y0.out.trans (E6.out.mono P5_y0.out.size))
  clear P5_y0
  have P6_W1 := Lib.hid (P5_W1.out.trans (E6.out.mono P5_W1.out.size))
  clear P5_W1
  have P6_W2 := Lib.hid (P5_W2.out.trans (E6.out.mono P5_W2.out.size))
  clear P5_W2
  have P6_W3 := Lib.hid (P5_W3.out.trans (E6.out.mono P5_W3.out.size))
  clear P5_W3
  have P6_W4 := Lib.hid (E5.out.trans (E6.out.mono E5.out.size))
  have c_X0 := (X0.out.below P6_y0.out X0.out.lt).cell 0
  go_wp2_with fail
  refine (shList_any l x v W6 ((HR.out.below P6_w.out).more P6_w.out.size) (by have := HL.out; omega)).mono ?_
  rintro e W7 ⟨u1, rfl, ho, hb⟩
  have E7 := Lib.hid hb
  clear hb c_X0
  have P7_w := Lib.hid (P6_w.out.trans (E7.out.mono P6_w.out.size))
  clear P6_w
  have P7_y0 := Lib.hid (P6_y0.out.trans (E7.out.mono P6_y0.out.size))
  clear P6_y0
  have P7_W1 := Lib.hid (P6_W1.out.trans (E7.out.mono P6_W1.out.size))
  clear P6_W1
  have P7_W2 := Lib.hid (P6_W2.out.trans (E7.out.mono P6_W2.out.size))
  clear P6_W2
  have P7_W3 := Lib.hid (P6_W3.out.trans (E7.out.mono P6_W3.out.size))
  clear P6_W3
  have P7_W4 := Lib.hid (P6_W4.out.trans (E7.out.mono P6_W4.out.size))
  clear P6_W4
  have P7_W5 := Lib.hid (E6.out.trans (E7.out.mono E6.out.size))
  have S1 := Lib.hid ho.rd
  rw [HFX.out]
  clear ho
  have c_X0 := (X0.out.below P7_y0.out X0.out.lt).cell 0
  go_wp2_with fail
  refine (plain_any l v W7 ((HR.out.below P7_w.out).more P7_w.out.size) (by have := HL.out; omega)).mono ?_
  rintro e W8 ⟨vr, rfl, hrd, hb⟩
  have E8 := Lib.hid hb
  clear hb c_X0
  have P8_w := Lib.hid (P7_w.out.trans (E8.out.mono P7_w.out.size))
  clear P7_w
  have P8_y0 := Lib.hid (P7_y0.out.trans (E8.out.mono P7_y0.out.size))
  clear P7_y0
  have P8_W1 := Lib.hid (P7_W1.out.trans (E8.out.mono P7_W1.out.size))
  clear P7_W1
  have P8_W2 := Lib.hid (P7_W2.out.trans (E8.out.mono P7_W2.out.size))
  clear P7_W2
  have P8_W3 := Lib.hid (P7_W3.out.trans (E8.out.mono P7_W3.out.size))
  clear P7_W3
  have P8_W4 := Lib.hid (P7_W4.out.trans (E8.out.mono P7_W4.out.size))
  clear P7_W4
  have P8_W5 := Lib.hid (P7_W5.out.trans (E8.out.mono P7_W5.out.size))
  clear P7_W5
  have P8_W6 := Lib.hid (E7.out.trans (E8.out.mono E7.out.size))
  have RS := Lib.hid hrd
  clear hrd
  go_wp2_with fail
  refine (rfList_any l x vr W8 RS.out (by have := HL.out; omega)).mono ?_
  rintro e W9 ⟨u2, rfl, ho, hb⟩
  have E9 := Lib.hid hb
  clear hb
  have P9_w := Lib.hid (P8_w.out.trans (E9.out.mono P8_w.out.size))
  clear P8_w
  have P9_y0 := Lib.hid (P8_y0.out.trans (E9.out.mono P8_y0.out.size))
  clear P8_y0
  have P9_W1 := Lib.hid (P8_W1.out.trans (E9.out.mono P8_W1.out.size))
  clear P8_W1
  have P9_W2 := Lib.hid (P8_W2.out.trans (E9.out.mono P8_W2.out.size))
  clear P8_W2
  have P9_W3 := Lib.hid (P8_W3.out.trans (E9.out.mono P8_W3.out.size))
  clear P8_W3
  have P9_W4 := Lib.hid (P8_W4.out.trans (E9.out.mono P8_W4.out.size))
  clear P8_W4
  have P9_W5 := Lib.hid (P8_W5.out.trans (E9.out.mono P8_W5.out.size))
  clear P8_W5
  have P9_W6 := Lib.hid (P8_W6.out.trans (E9.out.mono P8_W6.out.size))
  clear P8_W6
  have P9_W7 := Lib.hid (E8.out.trans (E9.out.mono E8.out.size))
  have S2 := Lib.hid ho.rd
  rw [HFX.out]
  clear ho
  go_wp2_with fail
  refine (alive9 W9).mono ?_
  rintro e W10 ⟨rfl, hb⟩
  have E10 := Lib.hid hb
  clear hb
  have P10_w := Lib.hid (P9_w.out.trans (E10.out.mono P9_w.out.size))
  clear P9_w
  have P10_y0 := Lib.hid (P9_y0.out.trans (E10.out.mono P9_y0.out.size))
  clear P9_y0
  have P10_W1 := Lib.hid (P9_W1.out.trans (E10.out.mono P9_W1.out.size))
  clear P9_W1
  have P10_W2 := Lib.hid (P9_W2.out.trans (E10.out.mono P9_W2.out.size))
  clear P9_W2
  have P10_W3 := Lib.hid (P9_W3.out.trans (E10.out.mono P9_W3.out.size))
  clear P9_W3
  have P10_W4 := Lib.hid (P9_W4.out.trans (E10.out.mono P9_W4.out.size))
  clear P9_W4
  have P10_W5 := Lib.hid (P9_W5.out.trans (E10.out.mono P9_W5.out.size))
  clear P9_W5
  have P10_W6 := Lib.hid (P9_W6.out.trans (E10.out.mono P9_W6.out.size))
  clear P9_W6
  have P10_W7 := Lib.hid (P9_W7.out.trans (E10.out.mono P9_W7.out.size))
  clear P9_W7
  have P10_W8 := Lib.hid (E9.out.trans (E10.out.mono E9.out.size))
  have c_XN_0 := (XN.out.below P10_W4.out XN.out.lt).at_ 0 _ rfl
  have c_XN_1 := (XN.out.below P10_W4.out XN.out.lt).at_ 1 _ rfl
  have c_XN_2 := (XN.out.below P10_W4.out XN.out.lt).at_ 2 _ rfl
  have c_XN_3 := (XN.out.below P10_W4.out XN.out.lt).at_ 3 _ rfl
  have c_XM_0 := (XM.out.below P10_W6.out XM.out.lt).at_ 0 _ rfl
  have c_XM_1 := (XM.out.below P10_W6.out XM.out.lt).at_ 1 _ rfl
  have c_XM_2 := (XM.out.below P10_W6.out XM.out.lt).at_ 2 _ rfl
  have c_XM_3 := (XM.out.below P10_W6.out XM.out.lt).at_ 3 _ rfl
  have heq := fun w => run_eql_ndP nd nd w
  rw [decide_eq_true (rfl : nd = nd)] at heq
  have hff : ((f : Int) == (f : Int)) = true := by simp
  go_wp2_with fail
  refine (same_texts (listS l x) u1 u2 _ _ W10 ((S1.out.below P10_W7.out).more P10_W7.out.size) ((S2.out.below E10.out).more E10.out.size)).mono ?_
  rintro e W11 ⟨rfl, hb⟩
  have E11 := Lib.hid hb
  clear hb c_XN_0 c_XN_1 c_XN_2 c_XN_3 c_XM_0 c_XM_1 c_XM_2 c_XM_3 heq
  have P11_w := Lib.hid (P10_w.out.trans (E11.out.mono P10_w.out.size))
  clear P10_w
  have P11_y0 := Lib.hid (P10_y0.out.trans (E11.out.mono P10_y0.out.size))
  clear P10_y0
  have P11_W1 := Lib.hid (P10_W1.out.trans (E11.out.mono P10_W1.out.size))
  clear P10_W1
  have P11_W2 := Lib.hid (P10_W2.out.trans (E11.out.mono P10_W2.out.size))
  clear P10_W2
  have P11_W3 := Lib.hid (P10_W3.out.trans (E11.out.mono P10_W3.out.size))
  clear P10_W3
  have P11_W4 := Lib.hid (P10_W4.out.trans (E11.out.mono P10_W4.out.size))
  clear P10_W4
  have P11_W5 := Lib.hid (P10_W5.out.trans (E11.out.mono P10_W5.out.size))
  clear P10_W5
  have P11_W6 := Lib.hid (P10_W6.out.trans (E11.out.mono P10_W6.out.size))
  clear P10_W6
  have P11_W7 := Lib.hid (P10_W7.out.trans (E11.out.mono P10_W7.out.size))
  clear P10_W7
  have P11_W8 := Lib.hid (P10_W8.out.trans (E11.out.mono P10_W8.out.size))
  clear P10_W8
  have P11_W9 := Lib.hid (E10.out.trans (E11.out.mono E10.out.size))
  go_wp2
  go_ret
  exact ⟨rfl, P11_w.out⟩
end Go.Proofs.YtlpakfaoaodaiaaDoor
