/-
  The statements on orders: alive.
-/
import Derived.Test.YtmlpiembglmggaaNP
namespace Go.Proofs.Ytmlpiembglmggaa
open Go.RowKit

def liveO : Or := (1, 2, 3, [47, 97], [120], -1, 0, 0)
theorem liv12_m : mayO liveO = true := by decide +kernel
theorem liv12_f : ∀ n ∈ nsO liveO, fit64 n := by
  intro n hn
  simp only [nsO, liveO, oC, oQ, oK, oR, oS, oT, List.mem_cons, List.not_mem_nil, or_false] at hn
  unfold fit64
  omega
theorem liv12_t : takeO ([] ++ encO liveO) = (liveO, [], 0) := by
  have h := takeO_enc liveO [] liv12_m (by unfold fit64; decide) (by unfold fit64; decide) (by unfold fit64; decide)
  rw [List.append_nil] at h
  exact h
theorem liv12_n : takeO [] = (or0, [], 2) := by decide +kernel

theorem encO_len (o : Or) : (encO o).length ≤ 72 + (oP o).length + (oV o).length := by
  have h1 := encIs_len [oC o, oQ o, oK o, oR o, oS o, oT o]
  have h2 := encX_len (oP o)
  have h3 := encX_len (oV o)
  have h4 : [oC o, oQ o, oK o, oR o, oS o, oT o].length = 6 := rfl
  rw [h4] at h1
  unfold encO
  rw [List.length_append, List.length_append]
  omega
theorem encR_len (r : Rp) : (encR r).length ≤ 54 + (pV r).length + (encs (pN r)).length := by
  have h1 := encIs_len [pC r, pQ r, pE r, pR r]
  have h2 := encX_len (pV r)
  have h3 : (encL (pN r)).length ≤ 9 + (encs (pN r)).length := by
    unfold encL
    rw [List.length_append, enc_length]
    have := wid_le (pN r).length
    omega
  have h4 : [pC r, pQ r, pE r, pR r].length = 4 := rfl
  rw [h4] at h1
  unfold encR
  rw [List.length_append, List.length_append]
  omega

set_option maxRecDepth 100000 in
set_option maxHeartbeats 4000000 in
theorem alive12 (w : World) : Calls Try.prog 9 #[] w (One (.bool true) w) := by
  obtain ⟨o, ho⟩ : ∃ o, liveO = o := ⟨_, rfl⟩
  have HO := Lib.hid ho
  have hm : mayO o = true := by rw [← ho]; exact liv12_m
  have hT : Hid (takeO ([] ++ encO o) = (o, [], 0)) := by rw [← ho]; exact liv12_t
  have hF : Hid (∀ n ∈ nsO o, fit64 n) := by rw [← ho]; exact liv12_f
  have hL : Hid ((oP o).length + (oV o).length ≤ 100) := by
    rw [← ho]
    show _ ≤ _
    decide
  clear ho
  go_enter Try.func9, Try.ntmps9
  go_wp2_with (refine wpList_alloc_blk rfl 24 rfl (orc or0) zeroOrP ?_)
  intro vb1 a1 a2 a3
  obtain ⟨vg1, hg⟩ : ∃ g, w.heap.size = g := ⟨_, rfl⟩
  have AA := Lib.hid a1
  have hbg : w.heap.size ≤ vg1 := by omega
  have EC := Lib.hid (show Below w.heap.size w vb1 from a3)
  rw [hg] at AA ⊢
  clear a1 a2 a3 hg
  go_wp2_with (refine wpList_store_to rfl 24 _ _ rfl vg1 (orc liveO) (orc or0) 24 rfl rfl AA.out szOrP rfl (orc_all _) ?_)
  intro W1 e1 e2 e3 e4
  have X0 := Lib.hid e1
  have E1 := Lib.hid (EC.out.trans (e3.mono hbg))
  clear e1 e2 e3 e4 AA EC hbg
  rw [HO.out] at X0
  have c_X0 := X0.out.at_ 0 _ rfl
  have c_X0_1 := X0.out.at_ 1 _ rfl
  have c_X0_2 := X0.out.at_ 2 _ rfl
  have c_X0_3 := X0.out.at_ 3 _ rfl
  have c_X0_4 := X0.out.at_ 4 _ rfl
  have c_X0_5 := X0.out.at_ 5 _ rfl
  have c_X0_6 := X0.out.at_ 6 _ rfl
  have c_X0_7 := X0.out.at_ 7 _ rfl
  go_wp2_with fail
  refine (orPut_any (.slice none 0 0) [] o W1 (Rd.nil _ _) hF.out (by have := hL.out; simp; omega)).mono ?_
  rintro e W2 ⟨v1, rfl, hown, hb⟩
  have E2 := Lib.hid hb
  clear hb c_X0 c_X0_1 c_X0_2 c_X0_3 c_X0_4 c_X0_5 c_X0_6 c_X0_7
  have P2_w := Lib.hid (E1.out.trans (E2.out.mono E1.out.size))
  have R1 := Lib.hid hown.rd
  clear hown
  go_wp2_with fail
  refine (orTake_any v1 ([] ++ encO o) W2 R1.out (by have h := encO_len o; have := hL.out; simp; omega)).mono ?_
  rintro e va3 ⟨vr, rfl, hrd, hb⟩
  rw [hT.out] at hrd ⊢
  dsimp only at hrd ⊢
  go_wp2_with (refine wpList_alloc_blk rfl 24 rfl (orc or0) zeroOrP ?_)
  intro vb3 a1 a2 a3
  obtain ⟨vg3, hg⟩ : ∃ g, va3.heap.size = g := ⟨_, rfl⟩
  have AA := Lib.hid a1
  have EB := Lib.hid (hb.trans (a3.mono hb.size))
  have A3 := Lib.hid a3
  have hbg : W2.heap.size ≤ vg3 := by have := hb.size; omega
  have hgs : vg3 ≤ vb3.heap.size := by omega
  have HG := Lib.hid hg
  have RR0 := Lib.hid hrd
  rw [hg] at AA A3 RR0 ⊢
  clear a1 a2 a3 hb hg hrd
  go_wp2_with (refine wpList_store_to rfl 24 _ _ rfl vg3 (orc o) (orc or0) 24 rfl rfl AA.out szOrP rfl (orc_all _) ?_)
  intro W3 e1 e2 e3 e4
  have X1 := Lib.hid e1
  have E3 := Lib.hid (EB.out.trans (e3.mono hbg))
  have RR := Lib.hid (((RR0.out.below A3.out).below e3).more (show vg3 ≤ W3.heap.size by omega))
  clear e1 e2 e3 e4 AA EB A3 hbg hgs HG RR0
  have P3_w := Lib.hid (P2_w.out.trans (E3.out.mono P2_w.out.size))
  clear P2_w
  have P3_W1 := Lib.hid (E2.out.trans (E3.out.mono E2.out.size))
  go_wp2_with fail
  refine (orTake_any (.slice none 0 0) [] W3 (Rd.nil _ _) (by simp)).mono ?_
  rintro e va4 ⟨vq, rfl, hrd, hb⟩
  rw [liv12_n] at hrd ⊢
  dsimp only at hrd ⊢
  go_wp2_with (refine wpList_alloc_blk rfl 24 rfl (orc or0) zeroOrP ?_)
  intro vb4 a1 a2 a3
  obtain ⟨vg4, hg⟩ : ∃ g, va4.heap.size = g := ⟨_, rfl⟩
  have AA := Lib.hid a1
  have EB := Lib.hid (hb.trans (a3.mono hb.size))
  have A3 := Lib.hid a3
  have hbg : W3.heap.size ≤ vg4 := by have := hb.size; omega
  have hgs : vg4 ≤ vb4.heap.size := by omega
  have HG := Lib.hid hg
  have RR0 := Lib.hid hrd
  rw [hg] at AA A3 RR0 ⊢
  clear a1 a2 a3 hb hg hrd
  go_wp2_with (refine wpList_store_to rfl 24 _ _ rfl vg4 (orc or0) (orc or0) 24 rfl rfl AA.out szOrP rfl (orc_all _) ?_)
  intro W4 e1 e2 e3 e4
  have X2 := Lib.hid e1
  have E4 := Lib.hid (EB.out.trans (e3.mono hbg))
  have RQ := Lib.hid (((RR0.out.below A3.out).below e3).more (show vg4 ≤ W4.heap.size by omega))
  clear e1 e2 e3 e4 AA EB A3 hbg hgs HG RR0
  have P4_w := Lib.hid (P3_w.out.trans (E4.out.mono P3_w.out.size))
  clear P3_w
  have P4_W1 := Lib.hid (P3_W1.out.trans (E4.out.mono P3_W1.out.size))
  clear P3_W1
  have P4_W2 := Lib.hid (E3.out.trans (E4.out.mono E3.out.size))
  have c_X0 := (X0.out.below P4_W1.out X0.out.lt).at_ 0 _ rfl
  have c_X0_1 := (X0.out.below P4_W1.out X0.out.lt).at_ 1 _ rfl
  have c_X0_2 := (X0.out.below P4_W1.out X0.out.lt).at_ 2 _ rfl
  have c_X0_3 := (X0.out.below P4_W1.out X0.out.lt).at_ 3 _ rfl
  have c_X0_4 := (X0.out.below P4_W1.out X0.out.lt).at_ 4 _ rfl
  have c_X0_5 := (X0.out.below P4_W1.out X0.out.lt).at_ 5 _ rfl
  have c_X0_6 := (X0.out.below P4_W1.out X0.out.lt).at_ 6 _ rfl
  have c_X0_7 := (X0.out.below P4_W1.out X0.out.lt).at_ 7 _ rfl
  have c_X1 := (X1.out.below E4.out X1.out.lt).at_ 0 _ rfl
  have c_X1_1 := (X1.out.below E4.out X1.out.lt).at_ 1 _ rfl
  have c_X1_2 := (X1.out.below E4.out X1.out.lt).at_ 2 _ rfl
  have c_X1_3 := (X1.out.below E4.out X1.out.lt).at_ 3 _ rfl
  have c_X1_4 := (X1.out.below E4.out X1.out.lt).at_ 4 _ rfl
  have c_X1_5 := (X1.out.below E4.out X1.out.lt).at_ 5 _ rfl
  have c_X1_6 := (X1.out.below E4.out X1.out.lt).at_ 6 _ rfl
  have c_X1_7 := (X1.out.below E4.out X1.out.lt).at_ 7 _ rfl
  go_wp2_with fail
  refine (orMay_any o W4).mono ?_
  rintro e W5 ⟨rfl, hb⟩
  have E5 := Lib.hid hb
  clear hb c_X0 c_X0_1 c_X0_2 c_X0_3 c_X0_4 c_X0_5 c_X0_6 c_X0_7 c_X1 c_X1_1 c_X1_2 c_X1_3 c_X1_4 c_X1_5 c_X1_6 c_X1_7
  have P5_w := Lib.hid (P4_w.out.trans (E5.out.mono P4_w.out.size))
  clear P4_w
  have P5_W1 := Lib.hid (P4_W1.out.trans (E5.out.mono P4_W1.out.size))
  clear P4_W1
  have P5_W2 := Lib.hid (P4_W2.out.trans (E5.out.mono P4_W2.out.size))
  clear P4_W2
  have P5_W3 := Lib.hid (E4.out.trans (E5.out.mono E4.out.size))
  obtain ⟨AR, cR, hvr, -, -⟩ := RR.out.shape
  change vr = .slice AR 0 cR at hvr
  subst hvr
  rw [hm]
  have heq := run_eqlOrP o o
  rw [decide_eq_true rfl] at heq
  have c_X0 := (X0.out.below P5_W1.out X0.out.lt).at_ 0 _ rfl
  have c_X0_1 := (X0.out.below P5_W1.out X0.out.lt).at_ 1 _ rfl
  have c_X0_2 := (X0.out.below P5_W1.out X0.out.lt).at_ 2 _ rfl
  have c_X0_3 := (X0.out.below P5_W1.out X0.out.lt).at_ 3 _ rfl
  have c_X0_4 := (X0.out.below P5_W1.out X0.out.lt).at_ 4 _ rfl
  have c_X0_5 := (X0.out.below P5_W1.out X0.out.lt).at_ 5 _ rfl
  have c_X0_6 := (X0.out.below P5_W1.out X0.out.lt).at_ 6 _ rfl
  have c_X0_7 := (X0.out.below P5_W1.out X0.out.lt).at_ 7 _ rfl
  have c_X1 := (X1.out.below P5_W3.out X1.out.lt).at_ 0 _ rfl
  have c_X1_1 := (X1.out.below P5_W3.out X1.out.lt).at_ 1 _ rfl
  have c_X1_2 := (X1.out.below P5_W3.out X1.out.lt).at_ 2 _ rfl
  have c_X1_3 := (X1.out.below P5_W3.out X1.out.lt).at_ 3 _ rfl
  have c_X1_4 := (X1.out.below P5_W3.out X1.out.lt).at_ 4 _ rfl
  have c_X1_5 := (X1.out.below P5_W3.out X1.out.lt).at_ 5 _ rfl
  have c_X1_6 := (X1.out.below P5_W3.out X1.out.lt).at_ 6 _ rfl
  have c_X1_7 := (X1.out.below P5_W3.out X1.out.lt).at_ 7 _ rfl
  go_wp2
  go_ret
  exact ⟨rfl, P5_w.out⟩
end Go.Proofs.Ytmlpiembglmggaa
