/-
  The document's orders: may one be. Each theorem states its own conditions.
-/
import Derived.Test.YtmlpiembglmggaaNF
namespace Go.Proofs.Ytmlpiembglmggaa
open Go.RowKit

theorem rfInIs (s : List UInt8) (d : UInt8) (x : Int) (b : Bool) (hx : x = (d.toNat : Int)) (h : s.contains d = b) (w : World) (hs : s.length ≤ 1000000) : Calls Try.prog 33 #[txt s, .int .u8 x] w (One (.bool b) w) := by
  subst hx
  rw [← h]
  exact rfIn_any s d w hs
theorem uses_len (k : Int) : (usesT k).length ≤ 3 := by
  unfold usesT
  repeat (split; · simp)
  simp

set_option maxRecDepth 1000000 in
set_option maxHeartbeats 16000000 in
theorem rfMayO_any (o : Or) (w : World) : Calls Try.prog 17 #[.agg (orc o).toArray] w (One (.bool (mayO o)) w) := by
  obtain ⟨B, hB⟩ : ∃ B, mayO o = B := ⟨_, rfl⟩
  have HB := Lib.hid hB
  rw [hB]
  obtain ⟨kp, hkp⟩ : ∃ k, (oP o).length = k := ⟨_, rfl⟩
  have hkz : (⟨(oP o).toArray⟩ : ByteArray).size = kp := hkp
  obtain ⟨kv, hkv⟩ : ∃ k, (oV o).length = k := ⟨_, rfl⟩
  have hvz : (⟨(oV o).toArray⟩ : ByteArray).size = kv := hkv
  have HKP := Lib.hid hkp
  have HKV := Lib.hid hkv
  clear hB hkp hkv
  go_enter Try.func17, Try.ntmps17
  go_wp2_with (refine wpList_box_blk rfl 33 _ rfl (orc o) rfl ?_)
  intro y0 b1 b2 b3
  obtain ⟨gb0, hg⟩ : ∃ g, w.heap.size = g := ⟨_, rfl⟩
  have X0 := Lib.hid b1
  have EB0 := Lib.hid b3
  rw [hg] at X0 ⊢
  clear b1 b2 b3 hg
  have c_X0 := X0.out.at_ 0 _ rfl
  have c_X0_1 := X0.out.at_ 1 _ rfl
  have c_X0_2 := X0.out.at_ 2 _ rfl
  have c_X0_3 := X0.out.at_ 3 _ rfl
  have c_X0_4 := X0.out.at_ 4 _ rfl
  have c_X0_5 := X0.out.at_ 5 _ rfl
  have c_X0_6 := X0.out.at_ 6 _ rfl
  have c_X0_7 := X0.out.at_ 7 _ rfl
  by_cases h0 : oC o < 0
  · have HF : Hid (B = false) := by
      show _ = _
      rw [← HB.out, Bool.eq_false_iff]
      intro hm
      obtain ⟨m1, m2, m3, m4, m5, m6, m7, m8⟩ := may_sized hm
      rw [HKP.out] at m7
      rw [HKV.out] at m8
      omega
    go_wp2
    go_ret
    exact ⟨by rw [HF.out]; rfl, EB0.out⟩
  by_cases h1 : (1000 : Int) < oC o
  · have HF : Hid (B = false) := by
      show _ = _
      rw [← HB.out, Bool.eq_false_iff]
      intro hm
      obtain ⟨m1, m2, m3, m4, m5, m6, m7, m8⟩ := may_sized hm
      rw [HKP.out] at m7
      rw [HKV.out] at m8
      omega
    go_wp2
    go_ret
    exact ⟨by rw [HF.out]; rfl, EB0.out⟩
  by_cases h2 : oQ o < 1
  · have HF : Hid (B = false) := by
      show _ = _
      rw [← HB.out, Bool.eq_false_iff]
      intro hm
      obtain ⟨m1, m2, m3, m4, m5, m6, m7, m8⟩ := may_sized hm
      rw [HKP.out] at m7
      rw [HKV.out] at m8
      omega
    go_wp2
    go_ret
    exact ⟨by rw [HF.out]; rfl, EB0.out⟩
  by_cases h3 : (1000000000 : Int) < oQ o
  · have HF : Hid (B = false) := by
      show _ = _
      rw [← HB.out, Bool.eq_false_iff]
      intro hm
      obtain ⟨m1, m2, m3, m4, m5, m6, m7, m8⟩ := may_sized hm
      rw [HKP.out] at m7
      rw [HKV.out] at m8
      omega
    go_wp2
    go_ret
    exact ⟨by rw [HF.out]; rfl, EB0.out⟩
  by_cases h4 : oK o < 0
  · have HF : Hid (B = false) := by
      show _ = _
      rw [← HB.out, Bool.eq_false_iff]
      intro hm
      obtain ⟨m1, m2, m3, m4, m5, m6, m7, m8⟩ := may_sized hm
      rw [HKP.out] at m7
      rw [HKV.out] at m8
      omega
    go_wp2
    go_ret
    exact ⟨by rw [HF.out]; rfl, EB0.out⟩
  by_cases h5 : (11 : Int) < oK o
  · have HF : Hid (B = false) := by
      show _ = _
      rw [← HB.out, Bool.eq_false_iff]
      intro hm
      obtain ⟨m1, m2, m3, m4, m5, m6, m7, m8⟩ := may_sized hm
      rw [HKP.out] at m7
      rw [HKV.out] at m8
      omega
    go_wp2
    go_ret
    exact ⟨by rw [HF.out]; rfl, EB0.out⟩
  by_cases h6 : (100 : Int) < (kp : Int)
  · have HF : Hid (B = false) := by
      show _ = _
      rw [← HB.out, Bool.eq_false_iff]
      intro hm
      obtain ⟨m1, m2, m3, m4, m5, m6, m7, m8⟩ := may_sized hm
      rw [HKP.out] at m7
      rw [HKV.out] at m8
      omega
    go_wp2
    go_ret
    exact ⟨by rw [HF.out]; rfl, EB0.out⟩
  by_cases h7 : (1000 : Int) < (kv : Int)
  · have HF : Hid (B = false) := by
      show _ = _
      rw [← HB.out, Bool.eq_false_iff]
      intro hm
      obtain ⟨m1, m2, m3, m4, m5, m6, m7, m8⟩ := may_sized hm
      rw [HKP.out] at m7
      rw [HKV.out] at m8
      omega
    go_wp2
    go_ret
    exact ⟨by rw [HF.out]; rfl, EB0.out⟩
  have HSZ : Hid (sizedO o = true) := by
    show _ = _
    have h9 := HKP.out
    have h10 := HKV.out
    unfold sizedO
    simp only [Bool.and_eq_true, decide_eq_true_eq]
    omega
  obtain ⟨U, hU⟩ : ∃ U, usesT (oK o) = U := ⟨_, rfl⟩
  have HU := Lib.hid hU
  have HUL : Hid (U.length ≤ 1000000) := by
    show _ ≤ _
    rw [← hU]
    have := uses_len (oK o)
    omega
  clear hU
  go_wp2_with fail
  refine (rfUses_any (oK o) y0).mono ?_
  rintro e W1 ⟨rfl, hb⟩
  have E1 := Lib.hid hb
  clear hb c_X0 c_X0_1 c_X0_2 c_X0_3 c_X0_4 c_X0_5 c_X0_6 c_X0_7
  have P1_w := Lib.hid (EB0.out.trans (E1.out.mono EB0.out.size))
  rw [HU.out]
  clear h0 h1 h2 h3 h4 h5 h6 h7
  obtain ⟨C0, hC0⟩ : ∃ b, U.contains 112 = b := ⟨_, rfl⟩
  have HC0 := Lib.hid hC0
  clear hC0
  have c_X0 := (X0.out.below E1.out X0.out.lt).at_ 0 _ rfl
  have c_X0_1 := (X0.out.below E1.out X0.out.lt).at_ 1 _ rfl
  have c_X0_2 := (X0.out.below E1.out X0.out.lt).at_ 2 _ rfl
  have c_X0_3 := (X0.out.below E1.out X0.out.lt).at_ 3 _ rfl
  have c_X0_4 := (X0.out.below E1.out X0.out.lt).at_ 4 _ rfl
  have c_X0_5 := (X0.out.below E1.out X0.out.lt).at_ 5 _ rfl
  have c_X0_6 := (X0.out.below E1.out X0.out.lt).at_ 6 _ rfl
  have c_X0_7 := (X0.out.below E1.out X0.out.lt).at_ 7 _ rfl
  go_wp2_with fail
  refine (rfInIs U 112 112 C0 (by decide) HC0.out W1 HUL.out).mono ?_
  rintro e W2 ⟨rfl, hb⟩
  have E2 := Lib.hid hb
  clear hb c_X0 c_X0_1 c_X0_2 c_X0_3 c_X0_4 c_X0_5 c_X0_6 c_X0_7
  have P2_w := Lib.hid (P1_w.out.trans (E2.out.mono P1_w.out.size))
  clear P1_w
  have P2_y0 := Lib.hid (E1.out.trans (E2.out.mono E1.out.size))
  cases C0
  · by_cases hb0 : oP o = []
    · have HQ0 : Hid ((U.contains 112 || decide (oP o = [])) = true) := by
        show _ = _
        rw [hb0, HC0.out]; simp
      have n0 : (oP o).isEmpty = true := by rw [hb0]; rfl
      obtain ⟨C1, hC1⟩ : ∃ b, U.contains 118 = b := ⟨_, rfl⟩
      have HC1 := Lib.hid hC1
      clear hC1
      have c_X0 := (X0.out.below P2_y0.out X0.out.lt).at_ 0 _ rfl
      have c_X0_1 := (X0.out.below P2_y0.out X0.out.lt).at_ 1 _ rfl
      have c_X0_2 := (X0.out.below P2_y0.out X0.out.lt).at_ 2 _ rfl
      have c_X0_3 := (X0.out.below P2_y0.out X0.out.lt).at_ 3 _ rfl
      have c_X0_4 := (X0.out.below P2_y0.out X0.out.lt).at_ 4 _ rfl
      have c_X0_5 := (X0.out.below P2_y0.out X0.out.lt).at_ 5 _ rfl
      have c_X0_6 := (X0.out.below P2_y0.out X0.out.lt).at_ 6 _ rfl
      have c_X0_7 := (X0.out.below P2_y0.out X0.out.lt).at_ 7 _ rfl
      go_wp2_with fail
      refine (rfInIs U 118 118 C1 (by decide) HC1.out W2 HUL.out).mono ?_
      rintro e W3 ⟨rfl, hb⟩
      have E3 := Lib.hid hb
      clear hb hb0 n0 c_X0 c_X0_1 c_X0_2 c_X0_3 c_X0_4 c_X0_5 c_X0_6 c_X0_7
      have P3_w := Lib.hid (P2_w.out.trans (E3.out.mono P2_w.out.size))
      clear P2_w
      have P3_y0 := Lib.hid (P2_y0.out.trans (E3.out.mono P2_y0.out.size))
      clear P2_y0
      have P3_W1 := Lib.hid (E2.out.trans (E3.out.mono E2.out.size))
      cases C1
      · by_cases hb1 : oV o = []
        · have HQ1 : Hid ((U.contains 118 || decide (oV o = [])) = true) := by
            show _ = _
            rw [hb1, HC1.out]; simp
          have n1 : (oV o).isEmpty = true := by rw [hb1]; rfl
          obtain ⟨C2, hC2⟩ : ∃ b, U.contains 110 = b := ⟨_, rfl⟩
          have HC2 := Lib.hid hC2
          clear hC2
          have c_X0 := (X0.out.below P3_y0.out X0.out.lt).at_ 0 _ rfl
          have c_X0_1 := (X0.out.below P3_y0.out X0.out.lt).at_ 1 _ rfl
          have c_X0_2 := (X0.out.below P3_y0.out X0.out.lt).at_ 2 _ rfl
          have c_X0_3 := (X0.out.below P3_y0.out X0.out.lt).at_ 3 _ rfl
          have c_X0_4 := (X0.out.below P3_y0.out X0.out.lt).at_ 4 _ rfl
          have c_X0_5 := (X0.out.below P3_y0.out X0.out.lt).at_ 5 _ rfl
          have c_X0_6 := (X0.out.below P3_y0.out X0.out.lt).at_ 6 _ rfl
          have c_X0_7 := (X0.out.below P3_y0.out X0.out.lt).at_ 7 _ rfl
          go_wp2_with fail
          refine (rfInIs U 110 110 C2 (by decide) HC2.out W3 HUL.out).mono ?_
          rintro e W4 ⟨rfl, hb⟩
          have E4 := Lib.hid hb
          clear hb hb1 n1 c_X0 c_X0_1 c_X0_2 c_X0_3 c_X0_4 c_X0_5 c_X0_6 c_X0_7
          have P4_w := Lib.hid (P3_w.out.trans (E4.out.mono P3_w.out.size))
          clear P3_w
          have P4_y0 := Lib.hid (P3_y0.out.trans (E4.out.mono P3_y0.out.size))
          clear P3_y0
          have P4_W1 := Lib.hid (P3_W1.out.trans (E4.out.mono P3_W1.out.size))
          clear P3_W1
          have P4_W2 := Lib.hid (E3.out.trans (E4.out.mono E3.out.size))
          cases C2
          · by_cases hb2 : oR o = 0
            · have HQ2 : Hid ((U.contains 110 || decide (oR o = 0)) = true) := by
                show _ = _
                rw [hb2, HC2.out]; simp
              have n2 : (oR o == 0) = true := by rw [hb2]; rfl
              clear hb2
              obtain ⟨C3, hC3⟩ : ∃ b, U.contains 115 = b := ⟨_, rfl⟩
              have HC3 := Lib.hid hC3
              clear hC3
              have c_X0 := (X0.out.below P4_y0.out X0.out.lt).at_ 0 _ rfl
              have c_X0_1 := (X0.out.below P4_y0.out X0.out.lt).at_ 1 _ rfl
              have c_X0_2 := (X0.out.below P4_y0.out X0.out.lt).at_ 2 _ rfl
              have c_X0_3 := (X0.out.below P4_y0.out X0.out.lt).at_ 3 _ rfl
              have c_X0_4 := (X0.out.below P4_y0.out X0.out.lt).at_ 4 _ rfl
              have c_X0_5 := (X0.out.below P4_y0.out X0.out.lt).at_ 5 _ rfl
              have c_X0_6 := (X0.out.below P4_y0.out X0.out.lt).at_ 6 _ rfl
              have c_X0_7 := (X0.out.below P4_y0.out X0.out.lt).at_ 7 _ rfl
              go_wp2_with fail
              refine (rfInIs U 115 115 C3 (by decide) HC3.out W4 HUL.out).mono ?_
              rintro e W5 ⟨rfl, hb⟩
              have E5 := Lib.hid hb
              clear hb n2 c_X0 c_X0_1 c_X0_2 c_X0_3 c_X0_4 c_X0_5 c_X0_6 c_X0_7
              have P5_w := Lib.hid (P4_w.out.trans (E5.out.mono P4_w.out.size))
              clear P4_w
              have P5_y0 := Lib.hid (P4_y0.out.trans (E5.out.mono P4_y0.out.size))
              clear P4_y0
              have P5_W1 := Lib.hid (P4_W1.out.trans (E5.out.mono P4_W1.out.size))
              clear P4_W1
              have P5_W2 := Lib.hid (P4_W2.out.trans (E5.out.mono P4_W2.out.size))
              clear P4_W2
              have P5_W3 := Lib.hid (E4.out.trans (E5.out.mono E4.out.size))
              cases C3
              · by_cases hb3 : oS o = 0
                · have HQ3 : Hid ((U.contains 115 || decide (oS o = 0)) = true) := by
                    show _ = _
                    rw [hb3, HC3.out]; simp
                  have n3 : (oS o == 0) = true := by rw [hb3]; rfl
                  clear hb3
                  obtain ⟨C4, hC4⟩ : ∃ b, U.contains 116 = b := ⟨_, rfl⟩
                  have HC4 := Lib.hid hC4
                  clear hC4
                  have c_X0 := (X0.out.below P5_y0.out X0.out.lt).at_ 0 _ rfl
                  have c_X0_1 := (X0.out.below P5_y0.out X0.out.lt).at_ 1 _ rfl
                  have c_X0_2 := (X0.out.below P5_y0.out X0.out.lt).at_ 2 _ rfl
                  have c_X0_3 := (X0.out.below P5_y0.out X0.out.lt).at_ 3 _ rfl
                  have c_X0_4 := (X0.out.below P5_y0.out X0.out.lt).at_ 4 _ rfl
                  have c_X0_5 := (X0.out.below P5_y0.out X0.out.lt).at_ 5 _ rfl
                  have c_X0_6 := (X0.out.below P5_y0.out X0.out.lt).at_ 6 _ rfl
                  have c_X0_7 := (X0.out.below P5_y0.out X0.out.lt).at_ 7 _ rfl
                  go_wp2_with fail
                  refine (rfInIs U 116 116 C4 (by decide) HC4.out W5 HUL.out).mono ?_
                  rintro e W6 ⟨rfl, hb⟩
                  have E6 := Lib.hid hb
                  clear hb n3 c_X0 c_X0_1 c_X0_2 c_X0_3 c_X0_4 c_X0_5 c_X0_6 c_X0_7
                  have P6_w := Lib.hid (P5_w.out.trans (E6.out.mono P5_w.out.size))
                  clear P5_w
                  have P6_y0 := Lib.hid (P5_y0.out.trans (E6.out.mono P5_y0.out.size))
                  clear P5_y0
                  have P6_W1 := Lib.hid (P5_W1.out.trans (E6.out.mono P5_W1.out.size))
                  clear P5_W1
                  have P6_W2 := Lib.hid (P5_W2.out.trans (E6.out.mono P5_W2.out.size))
                  clear P5_W2
                  have P6_W3 := Lib.hid (P5_W3.out.trans (E6.out.mono P5_W3.out.size))
                  clear P5_W3
                  have P6_W4 := Lib.hid (E5.out.trans (E6.out.mono E5.out.size))
                  cases C4
                  · by_cases hb4 : oT o = 0
                    · have HQ4 : Hid ((U.contains 116 || decide (oT o = 0)) = true) := by
                        show _ = _
                        rw [hb4, HC4.out]; simp
                      have n4 : (oT o == 0) = true := by rw [hb4]; rfl
                      clear hb4
                      have c_X0 := (X0.out.below P6_y0.out X0.out.lt).at_ 0 _ rfl
                      have c_X0_1 := (X0.out.below P6_y0.out X0.out.lt).at_ 1 _ rfl
                      have c_X0_2 := (X0.out.below P6_y0.out X0.out.lt).at_ 2 _ rfl
                      have c_X0_3 := (X0.out.below P6_y0.out X0.out.lt).at_ 3 _ rfl
                      have c_X0_4 := (X0.out.below P6_y0.out X0.out.lt).at_ 4 _ rfl
                      have c_X0_5 := (X0.out.below P6_y0.out X0.out.lt).at_ 5 _ rfl
                      have c_X0_6 := (X0.out.below P6_y0.out X0.out.lt).at_ 6 _ rfl
                      have c_X0_7 := (X0.out.below P6_y0.out X0.out.lt).at_ 7 _ rfl
                      have HF : Hid (B = true) := by
                        show _ = _
                        rw [← HB.out]
                        unfold mayO usedO
                        rw [HU.out, HQ0.out, HQ1.out, HQ2.out, HQ3.out, HQ4.out, HSZ.out]
                        rfl
                      go_wp2
                      go_ret
                      exact ⟨by rw [HF.out]; rfl, P6_w.out⟩
                    · have HQ4 : Hid ((U.contains 116 || decide (oT o = 0)) = false) := by
                        show _ = _
                        rw [HC4.out, decide_eq_false hb4]; rfl
                      have n4 : (oT o == 0) = false := by rw [beq_eq_false_iff_ne]; exact hb4
                      clear hb4
                      have HF : Hid (B = false) := by
                        show _ = _
                        rw [← HB.out]
                        unfold mayO usedO
                        rw [HU.out, HQ4.out]
                        simp
                      have c_X0 := (X0.out.below P6_y0.out X0.out.lt).at_ 0 _ rfl
                      have c_X0_1 := (X0.out.below P6_y0.out X0.out.lt).at_ 1 _ rfl
                      have c_X0_2 := (X0.out.below P6_y0.out X0.out.lt).at_ 2 _ rfl
                      have c_X0_3 := (X0.out.below P6_y0.out X0.out.lt).at_ 3 _ rfl
                      have c_X0_4 := (X0.out.below P6_y0.out X0.out.lt).at_ 4 _ rfl
                      have c_X0_5 := (X0.out.below P6_y0.out X0.out.lt).at_ 5 _ rfl
                      have c_X0_6 := (X0.out.below P6_y0.out X0.out.lt).at_ 6 _ rfl
                      have c_X0_7 := (X0.out.below P6_y0.out X0.out.lt).at_ 7 _ rfl
                      go_wp2
                      go_ret
                      exact ⟨by rw [HF.out]; rfl, P6_w.out⟩
                  · have HQ4 : Hid ((U.contains 116 || decide (oT o = 0)) = true) := by
                      show _ = _
                      rw [HC4.out, Bool.true_or]
                    have c_X0 := (X0.out.below P6_y0.out X0.out.lt).at_ 0 _ rfl
                    have c_X0_1 := (X0.out.below P6_y0.out X0.out.lt).at_ 1 _ rfl
                    have c_X0_2 := (X0.out.below P6_y0.out X0.out.lt).at_ 2 _ rfl
                    have c_X0_3 := (X0.out.below P6_y0.out X0.out.lt).at_ 3 _ rfl
                    have c_X0_4 := (X0.out.below P6_y0.out X0.out.lt).at_ 4 _ rfl
                    have c_X0_5 := (X0.out.below P6_y0.out X0.out.lt).at_ 5 _ rfl
                    have c_X0_6 := (X0.out.below P6_y0.out X0.out.lt).at_ 6 _ rfl
                    have c_X0_7 := (X0.out.below P6_y0.out X0.out.lt).at_ 7 _ rfl
                    have HF : Hid (B = true) := by
                      show _ = _
                      rw [← HB.out]
                      unfold mayO usedO
                      rw [HU.out, HQ0.out, HQ1.out, HQ2.out, HQ3.out, HQ4.out, HSZ.out]
                      rfl
                    go_wp2
                    go_ret
                    exact ⟨by rw [HF.out]; rfl, P6_w.out⟩
                · have HQ3 : Hid ((U.contains 115 || decide (oS o = 0)) = false) := by
                    show _ = _
                    rw [HC3.out, decide_eq_false hb3]; rfl
                  have n3 : (oS o == 0) = false := by rw [beq_eq_false_iff_ne]; exact hb3
                  clear hb3
                  have HF : Hid (B = false) := by
                    show _ = _
                    rw [← HB.out]
                    unfold mayO usedO
                    rw [HU.out, HQ3.out]
                    simp
                  have c_X0 := (X0.out.below P5_y0.out X0.out.lt).at_ 0 _ rfl
                  have c_X0_1 := (X0.out.below P5_y0.out X0.out.lt).at_ 1 _ rfl
                  have c_X0_2 := (X0.out.below P5_y0.out X0.out.lt).at_ 2 _ rfl
                  have c_X0_3 := (X0.out.below P5_y0.out X0.out.lt).at_ 3 _ rfl
                  have c_X0_4 := (X0.out.below P5_y0.out X0.out.lt).at_ 4 _ rfl
                  have c_X0_5 := (X0.out.below P5_y0.out X0.out.lt).at_ 5 _ rfl
                  have c_X0_6 := (X0.out.below P5_y0.out X0.out.lt).at_ 6 _ rfl
                  have c_X0_7 := (X0.out.below P5_y0.out X0.out.lt).at_ 7 _ rfl
                  go_wp2
                  go_ret
                  exact ⟨by rw [HF.out]; rfl, P5_w.out⟩
              · have HQ3 : Hid ((U.contains 115 || decide (oS o = 0)) = true) := by
                  show _ = _
                  rw [HC3.out, Bool.true_or]
                obtain ⟨C4, hC4⟩ : ∃ b, U.contains 116 = b := ⟨_, rfl⟩
                have HC4 := Lib.hid hC4
                clear hC4
                have c_X0 := (X0.out.below P5_y0.out X0.out.lt).at_ 0 _ rfl
                have c_X0_1 := (X0.out.below P5_y0.out X0.out.lt).at_ 1 _ rfl
                have c_X0_2 := (X0.out.below P5_y0.out X0.out.lt).at_ 2 _ rfl
                have c_X0_3 := (X0.out.below P5_y0.out X0.out.lt).at_ 3 _ rfl
                have c_X0_4 := (X0.out.below P5_y0.out X0.out.lt).at_ 4 _ rfl
                have c_X0_5 := (X0.out.below P5_y0.out X0.out.lt).at_ 5 _ rfl
                have c_X0_6 := (X0.out.below P5_y0.out X0.out.lt).at_ 6 _ rfl
                have c_X0_7 := (X0.out.below P5_y0.out X0.out.lt).at_ 7 _ rfl
                go_wp2_with fail
                refine (rfInIs U 116 116 C4 (by decide) HC4.out W5 HUL.out).mono ?_
                rintro e W6 ⟨rfl, hb⟩
                have E6 := Lib.hid hb
                clear hb c_X0 c_X0_1 c_X0_2 c_X0_3 c_X0_4 c_X0_5 c_X0_6 c_X0_7
                have P6_w := Lib.hid (P5_w.out.trans (E6.out.mono P5_w.out.size))
                clear P5_w
                have P6_y0 := Lib.hid (P5_y0.out.trans (E6.out.mono P5_y0.out.size))
                clear P5_y0
                have P6_W1 := Lib.hid (P5_W1.out.trans (E6.out.mono P5_W1.out.size))
                clear P5_W1
                have P6_W2 := Lib.hid (P5_W2.out.trans (E6.out.mono P5_W2.out.size))
                clear P5_W2
                have P6_W3 := Lib.hid (P5_W3.out.trans (E6.out.mono P5_W3.out.size))
                clear P5_W3
                have P6_W4 := Lib.hid (E5.out.trans (E6.out.mono E5.out.size))
                cases C4
                · by_cases hb4 : oT o = 0
                  · have HQ4 : Hid ((U.contains 116 || decide (oT o = 0)) = true) := by
                      show _ = _
                      rw [hb4, HC4.out]; simp
                    have n4 : (oT o == 0) = true := by rw [hb4]; rfl
                    clear hb4
                    have c_X0 := (X0.out.below P6_y0.out X0.out.lt).at_ 0 _ rfl
                    have c_X0_1 := (X0.out.below P6_y0.out X0.out.lt).at_ 1 _ rfl
                    have c_X0_2 := (X0.out.below P6_y0.out X0.out.lt).at_ 2 _ rfl
                    have c_X0_3 := (X0.out.below P6_y0.out X0.out.lt).at_ 3 _ rfl
                    have c_X0_4 := (X0.out.below P6_y0.out X0.out.lt).at_ 4 _ rfl
                    have c_X0_5 := (X0.out.below P6_y0.out X0.out.lt).at_ 5 _ rfl
                    have c_X0_6 := (X0.out.below P6_y0.out X0.out.lt).at_ 6 _ rfl
                    have c_X0_7 := (X0.out.below P6_y0.out X0.out.lt).at_ 7 _ rfl
                    have HF : Hid (B = true) := by
                      show _ = _
                      rw [← HB.out]
                      unfold mayO usedO
                      rw [HU.out, HQ0.out, HQ1.out, HQ2.out, HQ3.out, HQ4.out, HSZ.out]
                      rfl
                    go_wp2
                    go_ret
                    exact ⟨by rw [HF.out]; rfl, P6_w.out⟩
                  · have HQ4 : Hid ((U.contains 116 || decide (oT o = 0)) = false) := by
                      show _ = _
                      rw [HC4.out, decide_eq_false hb4]; rfl
                    have n4 : (oT o == 0) = false := by rw [beq_eq_false_iff_ne]; exact hb4
                    clear hb4
                    have HF : Hid (B = false) := by
                      show _ = _
                      rw [← HB.out]
                      unfold mayO usedO
                      rw [HU.out, HQ4.out]
                      simp
                    have c_X0 := (X0.out.below P6_y0.out X0.out.lt).at_ 0 _ rfl
                    have c_X0_1 := (X0.out.below P6_y0.out X0.out.lt).at_ 1 _ rfl
                    have c_X0_2 := (X0.out.below P6_y0.out X0.out.lt).at_ 2 _ rfl
                    have c_X0_3 := (X0.out.below P6_y0.out X0.out.lt).at_ 3 _ rfl
                    have c_X0_4 := (X0.out.below P6_y0.out X0.out.lt).at_ 4 _ rfl
                    have c_X0_5 := (X0.out.below P6_y0.out X0.out.lt).at_ 5 _ rfl
                    have c_X0_6 := (X0.out.below P6_y0.out X0.out.lt).at_ 6 _ rfl
                    have c_X0_7 := (X0.out.below P6_y0.out X0.out.lt).at_ 7 _ rfl
                    go_wp2
                    go_ret
                    exact ⟨by rw [HF.out]; rfl, P6_w.out⟩
                · have HQ4 : Hid ((U.contains 116 || decide (oT o = 0)) = true) := by
                    show _ = _
                    rw [HC4.out, Bool.true_or]
                  have c_X0 := (X0.out.below P6_y0.out X0.out.lt).at_ 0 _ rfl
                  have c_X0_1 := (X0.out.below P6_y0.out X0.out.lt).at_ 1 _ rfl
                  have c_X0_2 := (X0.out.below P6_y0.out X0.out.lt).at_ 2 _ rfl
                  have c_X0_3 := (X0.out.below P6_y0.out X0.out.lt).at_ 3 _ rfl
                  have c_X0_4 := (X0.out.below P6_y0.out X0.out.lt).at_ 4 _ rfl
                  have c_X0_5 := (X0.out.below P6_y0.out X0.out.lt).at_ 5 _ rfl
                  have c_X0_6 := (X0.out.below P6_y0.out X0.out.lt).at_ 6 _ rfl
                  have c_X0_7 := (X0.out.below P6_y0.out X0.out.lt).at_ 7 _ rfl
                  have HF : Hid (B = true) := by
                    show _ = _
                    rw [← HB.out]
                    unfold mayO usedO
                    rw [HU.out, HQ0.out, HQ1.out, HQ2.out, HQ3.out, HQ4.out, HSZ.out]
                    rfl
                  go_wp2
                  go_ret
                  exact ⟨by rw [HF.out]; rfl, P6_w.out⟩
            · have HQ2 : Hid ((U.contains 110 || decide (oR o = 0)) = false) := by
                show _ = _
                rw [HC2.out, decide_eq_false hb2]; rfl
              have n2 : (oR o == 0) = false := by rw [beq_eq_false_iff_ne]; exact hb2
              clear hb2
              have HF : Hid (B = false) := by
                show _ = _
                rw [← HB.out]
                unfold mayO usedO
                rw [HU.out, HQ2.out]
                simp
              have c_X0 := (X0.out.below P4_y0.out X0.out.lt).at_ 0 _ rfl
              have c_X0_1 := (X0.out.below P4_y0.out X0.out.lt).at_ 1 _ rfl
              have c_X0_2 := (X0.out.below P4_y0.out X0.out.lt).at_ 2 _ rfl
              have c_X0_3 := (X0.out.below P4_y0.out X0.out.lt).at_ 3 _ rfl
              have c_X0_4 := (X0.out.below P4_y0.out X0.out.lt).at_ 4 _ rfl
              have c_X0_5 := (X0.out.below P4_y0.out X0.out.lt).at_ 5 _ rfl
              have c_X0_6 := (X0.out.below P4_y0.out X0.out.lt).at_ 6 _ rfl
              have c_X0_7 := (X0.out.below P4_y0.out X0.out.lt).at_ 7 _ rfl
              go_wp2
              go_ret
              exact ⟨by rw [HF.out]; rfl, P4_w.out⟩
          · have HQ2 : Hid ((U.contains 110 || decide (oR o = 0)) = true) := by
              show _ = _
              rw [HC2.out, Bool.true_or]
            obtain ⟨C3, hC3⟩ : ∃ b, U.contains 115 = b := ⟨_, rfl⟩
            have HC3 := Lib.hid hC3
            clear hC3
            have c_X0 := (X0.out.below P4_y0.out X0.out.lt).at_ 0 _ rfl
            have c_X0_1 := (X0.out.below P4_y0.out X0.out.lt).at_ 1 _ rfl
            have c_X0_2 := (X0.out.below P4_y0.out X0.out.lt).at_ 2 _ rfl
            have c_X0_3 := (X0.out.below P4_y0.out X0.out.lt).at_ 3 _ rfl
            have c_X0_4 := (X0.out.below P4_y0.out X0.out.lt).at_ 4 _ rfl
            have c_X0_5 := (X0.out.below P4_y0.out X0.out.lt).at_ 5 _ rfl
            have c_X0_6 := (X0.out.below P4_y0.out X0.out.lt).at_ 6 _ rfl
            have c_X0_7 := (X0.out.below P4_y0.out X0.out.lt).at_ 7 _ rfl
            go_wp2_with fail
            refine (rfInIs U 115 115 C3 (by decide) HC3.out W4 HUL.out).mono ?_
            rintro e W5 ⟨rfl, hb⟩
            have E5 := Lib.hid hb
            clear hb c_X0 c_X0_1 c_X0_2 c_X0_3 c_X0_4 c_X0_5 c_X0_6 c_X0_7
            have P5_w := Lib.hid (P4_w.out.trans (E5.out.mono P4_w.out.size))
            clear P4_w
            have P5_y0 := Lib.hid (P4_y0.out.trans (E5.out.mono P4_y0.out.size))
            clear P4_y0
            have P5_W1 := Lib.hid (P4_W1.out.trans (E5.out.mono P4_W1.out.size))
            clear P4_W1
            have P5_W2 := Lib.hid (P4_W2.out.trans (E5.out.mono P4_W2.out.size))
            clear P4_W2
            have P5_W3 := Lib.hid (E4.out.trans (E5.out.mono E4.out.size))
            cases C3
            · by_cases hb3 : oS o = 0
              · have HQ3 : Hid ((U.contains 115 || decide (oS o = 0)) = true) := by
                  show _ = _
                  rw [hb3, HC3.out]; simp
                have n3 : (oS o == 0) = true := by rw [hb3]; rfl
                clear hb3
                obtain ⟨C4, hC4⟩ : ∃ b, U.contains 116 = b := ⟨_, rfl⟩
                have HC4 := Lib.hid hC4
                clear hC4
                have c_X0 := (X0.out.below P5_y0.out X0.out.lt).at_ 0 _ rfl
                have c_X0_1 := (X0.out.below P5_y0.out X0.out.lt).at_ 1 _ rfl
                have c_X0_2 := (X0.out.below P5_y0.out X0.out.lt).at_ 2 _ rfl
                have c_X0_3 := (X0.out.below P5_y0.out X0.out.lt).at_ 3 _ rfl
                have c_X0_4 := (X0.out.below P5_y0.out X0.out.lt).at_ 4 _ rfl
                have c_X0_5 := (X0.out.below P5_y0.out X0.out.lt).at_ 5 _ rfl
                have c_X0_6 := (X0.out.below P5_y0.out X0.out.lt).at_ 6 _ rfl
                have c_X0_7 := (X0.out.below P5_y0.out X0.out.lt).at_ 7 _ rfl
                go_wp2_with fail
                refine (rfInIs U 116 116 C4 (by decide) HC4.out W5 HUL.out).mono ?_
                rintro e W6 ⟨rfl, hb⟩
                have E6 := Lib.hid hb
                clear hb n3 c_X0 c_X0_1 c_X0_2 c_X0_3 c_X0_4 c_X0_5 c_X0_6 c_X0_7
                have P6_w := Lib.hid (P5_w.out.trans (E6.out.mono P5_w.out.size))
                clear P5_w
                have P6_y0 := Lib.hid (P5_y0.out.trans (E6.out.mono P5_y0.out.size))
                clear P5_y0
                have P6_W1 := Lib.hid (P5_W1.out.trans (E6.out.mono P5_W1.out.size))
                clear P5_W1
                have P6_W2 := Lib.hid (P5_W2.out.trans (E6.out.mono P5_W2.out.size))
                clear P5_W2
                have P6_W3 := Lib.hid (P5_W3.out.trans (E6.out.mono P5_W3.out.size))
                clear P5_W3
                have P6_W4 := Lib.hid (E5.out.trans (E6.out.mono E5.out.size))
                cases C4
                · by_cases hb4 : oT o = 0
                  · have HQ4 : Hid ((U.contains 116 || decide (oT o = 0)) = true) := by
                      show _ = _
                      rw [hb4, HC4.out]; simp
                    have n4 : (oT o == 0) = true := by rw [hb4]; rfl
                    clear hb4
                    have c_X0 := (X0.out.below P6_y0.out X0.out.lt).at_ 0 _ rfl
                    have c_X0_1 := (X0.out.below P6_y0.out X0.out.lt).at_ 1 _ rfl
                    have c_X0_2 := (X0.out.below P6_y0.out X0.out.lt).at_ 2 _ rfl
                    have c_X0_3 := (X0.out.below P6_y0.out X0.out.lt).at_ 3 _ rfl
                    have c_X0_4 := (X0.out.below P6_y0.out X0.out.lt).at_ 4 _ rfl
                    have c_X0_5 := (X0.out.below P6_y0.out X0.out.lt).at_ 5 _ rfl
                    have c_X0_6 := (X0.out.below P6_y0.out X0.out.lt).at_ 6 _ rfl
                    have c_X0_7 := (X0.out.below P6_y0.out X0.out.lt).at_ 7 _ rfl
                    have HF : Hid (B = true) := by
                      show _ = _
                      rw [← HB.out]
                      unfold mayO usedO
                      rw [HU.out, HQ0.out, HQ1.out, HQ2.out, HQ3.out, HQ4.out, HSZ.out]
                      rfl
                    go_wp2
                    go_ret
                    exact ⟨by rw [HF.out]; rfl, P6_w.out⟩
                  · have HQ4 : Hid ((U.contains 116 || decide (oT o = 0)) = false) := by
                      show _ = _
                      rw [HC4.out, decide_eq_false hb4]; rfl
                    have n4 : (oT o == 0) = false := by rw [beq_eq_false_iff_ne]; exact hb4
                    clear hb4
                    have HF : Hid (B = false) := by
                      show _ = _
                      rw [← HB.out]
                      unfold mayO usedO
                      rw [HU.out, HQ4.out]
                      simp
                    have c_X0 := (X0.out.below P6_y0.out X0.out.lt).at_ 0 _ rfl
                    have c_X0_1 := (X0.out.below P6_y0.out X0.out.lt).at_ 1 _ rfl
                    have c_X0_2 := (X0.out.below P6_y0.out X0.out.lt).at_ 2 _ rfl
                    have c_X0_3 := (X0.out.below P6_y0.out X0.out.lt).at_ 3 _ rfl
                    have c_X0_4 := (X0.out.below P6_y0.out X0.out.lt).at_ 4 _ rfl
                    have c_X0_5 := (X0.out.below P6_y0.out X0.out.lt).at_ 5 _ rfl
                    have c_X0_6 := (X0.out.below P6_y0.out X0.out.lt).at_ 6 _ rfl
                    have c_X0_7 := (X0.out.below P6_y0.out X0.out.lt).at_ 7 _ rfl
                    go_wp2
                    go_ret
                    exact ⟨by rw [HF.out]; rfl, P6_w.out⟩
                · have HQ4 : Hid ((U.contains 116 || decide (oT o = 0)) = true) := by
                    show _ = _
                    rw [HC4.out, Bool.true_or]
                  have c_X0 := (X0.out.below P6_y0.out X0.out.lt).at_ 0 _ rfl
                  have c_X0_1 := (X0.out.below P6_y0.out X0.out.lt).at_ 1 _ rfl
                  have c_X0_2 := (X0.out.below P6_y0.out X0.out.lt).at_ 2 _ rfl
                  have c_X0_3 := (X0.out.below P6_y0.out X0.out.lt).at_ 3 _ rfl
                  have c_X0_4 := (X0.out.below P6_y0.out X0.out.lt).at_ 4 _ rfl
                  have c_X0_5 := (X0.out.below P6_y0.out X0.out.lt).at_ 5 _ rfl
                  have c_X0_6 := (X0.out.below P6_y0.out X0.out.lt).at_ 6 _ rfl
                  have c_X0_7 := (X0.out.below P6_y0.out X0.out.lt).at_ 7 _ rfl
                  have HF : Hid (B = true) := by
                    show _ = _
                    rw [← HB.out]
                    unfold mayO usedO
                    rw [HU.out, HQ0.out, HQ1.out, HQ2.out, HQ3.out, HQ4.out, HSZ.out]
                    rfl
                  go_wp2
                  go_ret
                  exact ⟨by rw [HF.out]; rfl, P6_w.out⟩
              · have HQ3 : Hid ((U.contains 115 || decide (oS o = 0)) = false) := by
                  show _ = _
                  rw [HC3.out, decide_eq_false hb3]; rfl
                have n3 : (oS o == 0) = false := by rw [beq_eq_false_iff_ne]; exact hb3
                clear hb3
                have HF : Hid (B = false) := by
                  show _ = _
                  rw [← HB.out]
                  unfold mayO usedO
                  rw [HU.out, HQ3.out]
                  simp
                have c_X0 := (X0.out.below P5_y0.out X0.out.lt).at_ 0 _ rfl
                have c_X0_1 := (X0.out.below P5_y0.out X0.out.lt).at_ 1 _ rfl
                have c_X0_2 := (X0.out.below P5_y0.out X0.out.lt).at_ 2 _ rfl
                have c_X0_3 := (X0.out.below P5_y0.out X0.out.lt).at_ 3 _ rfl
                have c_X0_4 := (X0.out.below P5_y0.out X0.out.lt).at_ 4 _ rfl
                have c_X0_5 := (X0.out.below P5_y0.out X0.out.lt).at_ 5 _ rfl
                have c_X0_6 := (X0.out.below P5_y0.out X0.out.lt).at_ 6 _ rfl
                have c_X0_7 := (X0.out.below P5_y0.out X0.out.lt).at_ 7 _ rfl
                go_wp2
                go_ret
                exact ⟨by rw [HF.out]; rfl, P5_w.out⟩
            · have HQ3 : Hid ((U.contains 115 || decide (oS o = 0)) = true) := by
                show _ = _
                rw [HC3.out, Bool.true_or]
              obtain ⟨C4, hC4⟩ : ∃ b, U.contains 116 = b := ⟨_, rfl⟩
              have HC4 := Lib.hid hC4
              clear hC4
              have c_X0 := (X0.out.below P5_y0.out X0.out.lt).at_ 0 _ rfl
              have c_X0_1 := (X0.out.below P5_y0.out X0.out.lt).at_ 1 _ rfl
              have c_X0_2 := (X0.out.below P5_y0.out X0.out.lt).at_ 2 _ rfl
              have c_X0_3 := (X0.out.below P5_y0.out X0.out.lt).at_ 3 _ rfl
              have c_X0_4 := (X0.out.below P5_y0.out X0.out.lt).at_ 4 _ rfl
              have c_X0_5 := (X0.out.below P5_y0.out X0.out.lt).at_ 5 _ rfl
              have c_X0_6 := (X0.out.below P5_y0.out X0.out.lt).at_ 6 _ rfl
              have c_X0_7 := (X0.out.below P5_y0.out X0.out.lt).at_ 7 _ rfl
              go_wp2_with fail
              refine (rfInIs U 116 116 C4 (by decide) HC4.out W5 HUL.out).mono ?_
              rintro e W6 ⟨rfl, hb⟩
              have E6 := Lib.hid hb
              clear hb c_X0 c_X0_1 c_X0_2 c_X0_3 c_X0_4 c_X0_5 c_X0_6 c_X0_7
              have P6_w := Lib.hid (P5_w.out.trans (E6.out.mono P5_w.out.size))
              clear P5_w
              have P6_y0 := Lib.hid (P5_y0.out.trans (E6.out.mono P5_y0.out.size))
              clear P5_y0
              have P6_W1 := Lib.hid (P5_W1.out.trans (E6.out.mono P5_W1.out.size))
              clear P5_W1
              have P6_W2 := Lib.hid (P5_W2.out.trans (E6.out.mono P5_W2.out.size))
              clear P5_W2
              have P6_W3 := Lib.hid (P5_W3.out.trans (E6.out.mono P5_W3.out.size))
              clear P5_W3
              have P6_W4 := Lib.hid (E5.out.trans (E6.out.mono E5.out.size))
              cases C4
              · by_cases hb4 : oT o = 0
                · have HQ4 : Hid ((U.contains 116 || decide (oT o = 0)) = true) := by
                    show _ = _
                    rw [hb4, HC4.out]; simp
                  have n4 : (oT o == 0) = true := by rw [hb4]; rfl
                  clear hb4
                  have c_X0 := (X0.out.below P6_y0.out X0.out.lt).at_ 0 _ rfl
                  have c_X0_1 := (X0.out.below P6_y0.out X0.out.lt).at_ 1 _ rfl
                  have c_X0_2 := (X0.out.below P6_y0.out X0.out.lt).at_ 2 _ rfl
                  have c_X0_3 := (X0.out.below P6_y0.out X0.out.lt).at_ 3 _ rfl
                  have c_X0_4 := (X0.out.below P6_y0.out X0.out.lt).at_ 4 _ rfl
                  have c_X0_5 := (X0.out.below P6_y0.out X0.out.lt).at_ 5 _ rfl
                  have c_X0_6 := (X0.out.below P6_y0.out X0.out.lt).at_ 6 _ rfl
                  have c_X0_7 := (X0.out.below P6_y0.out X0.out.lt).at_ 7 _ rfl
                  have HF : Hid (B = true) := by
                    show _ = _
                    rw [← HB.out]
                    unfold mayO usedO
                    rw [HU.out, HQ0.out, HQ1.out, HQ2.out, HQ3.out, HQ4.out, HSZ.out]
                    rfl
                  go_wp2
                  go_ret
                  exact ⟨by rw [HF.out]; rfl, P6_w.out⟩
                · have HQ4 : Hid ((U.contains 116 || decide (oT o = 0)) = false) := by
                    show _ = _
                    rw [HC4.out, decide_eq_false hb4]; rfl
                  have n4 : (oT o == 0) = false := by rw [beq_eq_false_iff_ne]; exact hb4
                  clear hb4
                  have HF : Hid (B = false) := by
                    show _ = _
                    rw [← HB.out]
                    unfold mayO usedO
                    rw [HU.out, HQ4.out]
                    simp
                  have c_X0 := (X0.out.below P6_y0.out X0.out.lt).at_ 0 _ rfl
                  have c_X0_1 := (X0.out.below P6_y0.out X0.out.lt).at_ 1 _ rfl
                  have c_X0_2 := (X0.out.below P6_y0.out X0.out.lt).at_ 2 _ rfl
                  have c_X0_3 := (X0.out.below P6_y0.out X0.out.lt).at_ 3 _ rfl
                  have c_X0_4 := (X0.out.below P6_y0.out X0.out.lt).at_ 4 _ rfl
                  have c_X0_5 := (X0.out.below P6_y0.out X0.out.lt).at_ 5 _ rfl
                  have c_X0_6 := (X0.out.below P6_y0.out X0.out.lt).at_ 6 _ rfl
                  have c_X0_7 := (X0.out.below P6_y0.out X0.out.lt).at_ 7 _ rfl
                  go_wp2
                  go_ret
                  exact ⟨by rw [HF.out]; rfl, P6_w.out⟩
              · have HQ4 : Hid ((U.contains 116 || decide (oT o = 0)) = true) := by
                  show _ = _
                  rw [HC4.out, Bool.true_or]
                have c_X0 := (X0.out.below P6_y0.out X0.out.lt).at_ 0 _ rfl
                have c_X0_1 := (X0.out.below P6_y0.out X0.out.lt).at_ 1 _ rfl
                have c_X0_2 := (X0.out.below P6_y0.out X0.out.lt).at_ 2 _ rfl
                have c_X0_3 := (X0.out.below P6_y0.out X0.out.lt).at_ 3 _ rfl
                have c_X0_4 := (X0.out.below P6_y0.out X0.out.lt).at_ 4 _ rfl
                have c_X0_5 := (X0.out.below P6_y0.out X0.out.lt).at_ 5 _ rfl
                have c_X0_6 := (X0.out.below P6_y0.out X0.out.lt).at_ 6 _ rfl
                have c_X0_7 := (X0.out.below P6_y0.out X0.out.lt).at_ 7 _ rfl
                have HF : Hid (B = true) := by
                  show _ = _
                  rw [← HB.out]
                  unfold mayO usedO
                  rw [HU.out, HQ0.out, HQ1.out, HQ2.out, HQ3.out, HQ4.out, HSZ.out]
                  rfl
                go_wp2
                go_ret
                exact ⟨by rw [HF.out]; rfl, P6_w.out⟩
        · have HQ1 : Hid ((U.contains 118 || decide (oV o = [])) = false) := by
            show _ = _
            rw [HC1.out, decide_eq_false hb1]; rfl
          have n1 : (oV o).isEmpty = false := by
            rw [Bool.eq_false_iff]
            intro h
            exact hb1 (List.isEmpty_iff.1 h)
          have HF : Hid (B = false) := by
            show _ = _
            rw [← HB.out]
            unfold mayO usedO
            rw [HU.out, HQ1.out]
            simp
          have c_X0 := (X0.out.below P3_y0.out X0.out.lt).at_ 0 _ rfl
          have c_X0_1 := (X0.out.below P3_y0.out X0.out.lt).at_ 1 _ rfl
          have c_X0_2 := (X0.out.below P3_y0.out X0.out.lt).at_ 2 _ rfl
          have c_X0_3 := (X0.out.below P3_y0.out X0.out.lt).at_ 3 _ rfl
          have c_X0_4 := (X0.out.below P3_y0.out X0.out.lt).at_ 4 _ rfl
          have c_X0_5 := (X0.out.below P3_y0.out X0.out.lt).at_ 5 _ rfl
          have c_X0_6 := (X0.out.below P3_y0.out X0.out.lt).at_ 6 _ rfl
          have c_X0_7 := (X0.out.below P3_y0.out X0.out.lt).at_ 7 _ rfl
          go_wp2
          go_ret
          exact ⟨by rw [HF.out]; rfl, P3_w.out⟩
      · have HQ1 : Hid ((U.contains 118 || decide (oV o = [])) = true) := by
          show _ = _
          rw [HC1.out, Bool.true_or]
        obtain ⟨C2, hC2⟩ : ∃ b, U.contains 110 = b := ⟨_, rfl⟩
        have HC2 := Lib.hid hC2
        clear hC2
        have c_X0 := (X0.out.below P3_y0.out X0.out.lt).at_ 0 _ rfl
        have c_X0_1 := (X0.out.below P3_y0.out X0.out.lt).at_ 1 _ rfl
        have c_X0_2 := (X0.out.below P3_y0.out X0.out.lt).at_ 2 _ rfl
        have c_X0_3 := (X0.out.below P3_y0.out X0.out.lt).at_ 3 _ rfl
        have c_X0_4 := (X0.out.below P3_y0.out X0.out.lt).at_ 4 _ rfl
        have c_X0_5 := (X0.out.below P3_y0.out X0.out.lt).at_ 5 _ rfl
        have c_X0_6 := (X0.out.below P3_y0.out X0.out.lt).at_ 6 _ rfl
        have c_X0_7 := (X0.out.below P3_y0.out X0.out.lt).at_ 7 _ rfl
        go_wp2_with fail
        refine (rfInIs U 110 110 C2 (by decide) HC2.out W3 HUL.out).mono ?_
        rintro e W4 ⟨rfl, hb⟩
        have E4 := Lib.hid hb
        clear hb c_X0 c_X0_1 c_X0_2 c_X0_3 c_X0_4 c_X0_5 c_X0_6 c_X0_7
        have P4_w := Lib.hid (P3_w.out.trans (E4.out.mono P3_w.out.size))
        clear P3_w
        have P4_y0 := Lib.hid (P3_y0.out.trans (E4.out.mono P3_y0.out.size))
        clear P3_y0
        have P4_W1 := Lib.hid (P3_W1.out.trans (E4.out.mono P3_W1.out.size))
        clear P3_W1
        have P4_W2 := Lib.hid (E3.out.trans (E4.out.mono E3.out.size))
        cases C2
        · by_cases hb2 : oR o = 0
          · have HQ2 : Hid ((U.contains 110 || decide (oR o = 0)) = true) := by
              show _ = _
              rw [hb2, HC2.out]; simp
            have n2 : (oR o == 0) = true := by rw [hb2]; rfl
            clear hb2
            obtain ⟨C3, hC3⟩ : ∃ b, U.contains 115 = b := ⟨_, rfl⟩
            have HC3 := Lib.hid hC3
            clear hC3
            have c_X0 := (X0.out.below P4_y0.out X0.out.lt).at_ 0 _ rfl
            have c_X0_1 := (X0.out.below P4_y0.out X0.out.lt).at_ 1 _ rfl
            have c_X0_2 := (X0.out.below P4_y0.out X0.out.lt).at_ 2 _ rfl
            have c_X0_3 := (X0.out.below P4_y0.out X0.out.lt).at_ 3 _ rfl
            have c_X0_4 := (X0.out.below P4_y0.out X0.out.lt).at_ 4 _ rfl
            have c_X0_5 := (X0.out.below P4_y0.out X0.out.lt).at_ 5 _ rfl
            have c_X0_6 := (X0.out.below P4_y0.out X0.out.lt).at_ 6 _ rfl
            have c_X0_7 := (X0.out.below P4_y0.out X0.out.lt).at_ 7 _ rfl
            go_wp2_with fail
            refine (rfInIs U 115 115 C3 (by decide) HC3.out W4 HUL.out).mono ?_
            rintro e W5 ⟨rfl, hb⟩
            have E5 := Lib.hid hb
            clear hb n2 c_X0 c_X0_1 c_X0_2 c_X0_3 c_X0_4 c_X0_5 c_X0_6 c_X0_7
            have P5_w := Lib.hid (P4_w.out.trans (E5.out.mono P4_w.out.size))
            clear P4_w
            have P5_y0 := Lib.hid (P4_y0.out.trans (E5.out.mono P4_y0.out.size))
            clear P4_y0
            have P5_W1 := Lib.hid (P4_W1.out.trans (E5.out.mono P4_W1.out.size))
            clear P4_W1
            have P5_W2 := Lib.hid (P4_W2.out.trans (E5.out.mono P4_W2.out.size))
            clear P4_W2
            have P5_W3 := Lib.hid (E4.out.trans (E5.out.mono E4.out.size))
            cases C3
            · by_cases hb3 : oS o = 0
              · have HQ3 : Hid ((U.contains 115 || decide (oS o = 0)) = true) := by
                  show _ = _
                  rw [hb3, HC3.out]; simp
                have n3 : (oS o == 0) = true := by rw [hb3]; rfl
                clear hb3
                obtain ⟨C4, hC4⟩ : ∃ b, U.contains 116 = b := ⟨_, rfl⟩
                have HC4 := Lib.hid hC4
                clear hC4
                have c_X0 := (X0.out.below P5_y0.out X0.out.lt).at_ 0 _ rfl
                have c_X0_1 := (X0.out.below P5_y0.out X0.out.lt).at_ 1 _ rfl
                have c_X0_2 := (X0.out.below P5_y0.out X0.out.lt).at_ 2 _ rfl
                have c_X0_3 := (X0.out.below P5_y0.out X0.out.lt).at_ 3 _ rfl
                have c_X0_4 := (X0.out.below P5_y0.out X0.out.lt).at_ 4 _ rfl
                have c_X0_5 := (X0.out.below P5_y0.out X0.out.lt).at_ 5 _ rfl
                have c_X0_6 := (X0.out.below P5_y0.out X0.out.lt).at_ 6 _ rfl
                have c_X0_7 := (X0.out.below P5_y0.out X0.out.lt).at_ 7 _ rfl
                go_wp2_with fail
                refine (rfInIs U 116 116 C4 (by decide) HC4.out W5 HUL.out).mono ?_
                rintro e W6 ⟨rfl, hb⟩
                have E6 := Lib.hid hb
                clear hb n3 c_X0 c_X0_1 c_X0_2 c_X0_3 c_X0_4 c_X0_5 c_X0_6 c_X0_7
                have P6_w := Lib.hid (P5_w.out.trans (E6.out.mono P5_w.out.size))
                clear P5_w
                have P6_y0 := Lib.hid (P5_y0.out.trans (E6.out.mono P5_y0.out.size))
                clear P5_y0
                have P6_W1 := Lib.hid (P5_W1.out.trans (E6.out.mono P5_W1.out.size))
                clear P5_W1
                have P6_W2 := Lib.hid (P5_W2.out.trans (E6.out.mono P5_W2.out.size))
                clear P5_W2
                have P6_W3 := Lib.hid (P5_W3.out.trans (E6.out.mono P5_W3.out.size))
                clear P5_W3
                have P6_W4 := Lib.hid (E5.out.trans (E6.out.mono E5.out.size))
                cases C4
                · by_cases hb4 : oT o = 0
                  · have HQ4 : Hid ((U.contains 116 || decide (oT o = 0)) = true) := by
                      show _ = _
                      rw [hb4, HC4.out]; simp
                    have n4 : (oT o == 0) = true := by rw [hb4]; rfl
                    clear hb4
                    have c_X0 := (X0.out.below P6_y0.out X0.out.lt).at_ 0 _ rfl
                    have c_X0_1 := (X0.out.below P6_y0.out X0.out.lt).at_ 1 _ rfl
                    have c_X0_2 := (X0.out.below P6_y0.out X0.out.lt).at_ 2 _ rfl
                    have c_X0_3 := (X0.out.below P6_y0.out X0.out.lt).at_ 3 _ rfl
                    have c_X0_4 := (X0.out.below P6_y0.out X0.out.lt).at_ 4 _ rfl
                    have c_X0_5 := (X0.out.below P6_y0.out X0.out.lt).at_ 5 _ rfl
                    have c_X0_6 := (X0.out.below P6_y0.out X0.out.lt).at_ 6 _ rfl
                    have c_X0_7 := (X0.out.below P6_y0.out X0.out.lt).at_ 7 _ rfl
                    have HF : Hid (B = true) := by
                      show _ = _
                      rw [← HB.out]
                      unfold mayO usedO
                      rw [HU.out, HQ0.out, HQ1.out, HQ2.out, HQ3.out, HQ4.out, HSZ.out]
                      rfl
                    go_wp2
                    go_ret
                    exact ⟨by rw [HF.out]; rfl, P6_w.out⟩
                  · have HQ4 : Hid ((U.contains 116 || decide (oT o = 0)) = false) := by
                      show _ = _
                      rw [HC4.out, decide_eq_false hb4]; rfl
                    have n4 : (oT o == 0) = false := by rw [beq_eq_false_iff_ne]; exact hb4
                    clear hb4
                    have HF : Hid (B = false) := by
                      show _ = _
                      rw [← HB.out]
                      unfold mayO usedO
                      rw [HU.out, HQ4.out]
                      simp
                    have c_X0 := (X0.out.below P6_y0.out X0.out.lt).at_ 0 _ rfl
                    have c_X0_1 := (X0.out.below P6_y0.out X0.out.lt).at_ 1 _ rfl
                    have c_X0_2 := (X0.out.below P6_y0.out X0.out.lt).at_ 2 _ rfl
                    have c_X0_3 := (X0.out.below P6_y0.out X0.out.lt).at_ 3 _ rfl
                    have c_X0_4 := (X0.out.below P6_y0.out X0.out.lt).at_ 4 _ rfl
                    have c_X0_5 := (X0.out.below P6_y0.out X0.out.lt).at_ 5 _ rfl
                    have c_X0_6 := (X0.out.below P6_y0.out X0.out.lt).at_ 6 _ rfl
                    have c_X0_7 := (X0.out.below P6_y0.out X0.out.lt).at_ 7 _ rfl
                    go_wp2
                    go_ret
                    exact ⟨by rw [HF.out]; rfl, P6_w.out⟩
                · have HQ4 : Hid ((U.contains 116 || decide (oT o = 0)) = true) := by
                    show _ = _
                    rw [HC4.out, Bool.true_or]
                  have c_X0 := (X0.out.below P6_y0.out X0.out.lt).at_ 0 _ rfl
                  have c_X0_1 := (X0.out.below P6_y0.out X0.out.lt).at_ 1 _ rfl
                  have c_X0_2 := (X0.out.below P6_y0.out X0.out.lt).at_ 2 _ rfl
                  have c_X0_3 := (X0.out.below P6_y0.out X0.out.lt).at_ 3 _ rfl
                  have c_X0_4 := (X0.out.below P6_y0.out X0.out.lt).at_ 4 _ rfl
                  have c_X0_5 := (X0.out.below P6_y0.out X0.out.lt).at_ 5 _ rfl
                  have c_X0_6 := (X0.out.below P6_y0.out X0.out.lt).at_ 6 _ rfl
                  have c_X0_7 := (X0.out.below P6_y0.out X0.out.lt).at_ 7 _ rfl
                  have HF : Hid (B = true) := by
                    show _ = _
                    rw [← HB.out]
                    unfold mayO usedO
                    rw [HU.out, HQ0.out, HQ1.out, HQ2.out, HQ3.out, HQ4.out, HSZ.out]
                    rfl
                  go_wp2
                  go_ret
                  exact ⟨by rw [HF.out]; rfl, P6_w.out⟩
              · have HQ3 : Hid ((U.contains 115 || decide (oS o = 0)) = false) := by
                  show _ = _
                  rw [HC3.out, decide_eq_false hb3]; rfl
                have n3 : (oS o == 0) = false := by rw [beq_eq_false_iff_ne]; exact hb3
                clear hb3
                have HF : Hid (B = false) := by
                  show _ = _
                  rw [← HB.out]
                  unfold mayO usedO
                  rw [HU.out, HQ3.out]
                  simp
                have c_X0 := (X0.out.below P5_y0.out X0.out.lt).at_ 0 _ rfl
                have c_X0_1 := (X0.out.below P5_y0.out X0.out.lt).at_ 1 _ rfl
                have c_X0_2 := (X0.out.below P5_y0.out X0.out.lt).at_ 2 _ rfl
                have c_X0_3 := (X0.out.below P5_y0.out X0.out.lt).at_ 3 _ rfl
                have c_X0_4 := (X0.out.below P5_y0.out X0.out.lt).at_ 4 _ rfl
                have c_X0_5 := (X0.out.below P5_y0.out X0.out.lt).at_ 5 _ rfl
                have c_X0_6 := (X0.out.below P5_y0.out X0.out.lt).at_ 6 _ rfl
                have c_X0_7 := (X0.out.below P5_y0.out X0.out.lt).at_ 7 _ rfl
                go_wp2
                go_ret
                exact ⟨by rw [HF.out]; rfl, P5_w.out⟩
            · have HQ3 : Hid ((U.contains 115 || decide (oS o = 0)) = true) := by
                show _ = _
                rw [HC3.out, Bool.true_or]
              obtain ⟨C4, hC4⟩ : ∃ b, U.contains 116 = b := ⟨_, rfl⟩
              have HC4 := Lib.hid hC4
              clear hC4
              have c_X0 := (X0.out.below P5_y0.out X0.out.lt).at_ 0 _ rfl
              have c_X0_1 := (X0.out.below P5_y0.out X0.out.lt).at_ 1 _ rfl
              have c_X0_2 := (X0.out.below P5_y0.out X0.out.lt).at_ 2 _ rfl
              have c_X0_3 := (X0.out.below P5_y0.out X0.out.lt).at_ 3 _ rfl
              have c_X0_4 := (X0.out.below P5_y0.out X0.out.lt).at_ 4 _ rfl
              have c_X0_5 := (X0.out.below P5_y0.out X0.out.lt).at_ 5 _ rfl
              have c_X0_6 := (X0.out.below P5_y0.out X0.out.lt).at_ 6 _ rfl
              have c_X0_7 := (X0.out.below P5_y0.out X0.out.lt).at_ 7 _ rfl
              go_wp2_with fail
              refine (rfInIs U 116 116 C4 (by decide) HC4.out W5 HUL.out).mono ?_
              rintro e W6 ⟨rfl, hb⟩
              have E6 := Lib.hid hb
              clear hb c_X0 c_X0_1 c_X0_2 c_X0_3 c_X0_4 c_X0_5 c_X0_6 c_X0_7
              have P6_w := Lib.hid (P5_w.out.trans (E6.out.mono P5_w.out.size))
              clear P5_w
              have P6_y0 := Lib.hid (P5_y0.out.trans (E6.out.mono P5_y0.out.size))
              clear P5_y0
              have P6_W1 := Lib.hid (P5_W1.out.trans (E6.out.mono P5_W1.out.size))
              clear P5_W1
              have P6_W2 := Lib.hid (P5_W2.out.trans (E6.out.mono P5_W2.out.size))
              clear P5_W2
              have P6_W3 := Lib.hid (P5_W3.out.trans (E6.out.mono P5_W3.out.size))
              clear P5_W3
              have P6_W4 := Lib.hid (E5.out.trans (E6.out.mono E5.out.size))
              cases C4
              · by_cases hb4 : oT o = 0
                · have HQ4 : Hid ((U.contains 116 || decide (oT o = 0)) = true) := by
                    show _ = _
                    rw [hb4, HC4.out]; simp
                  have n4 : (oT o == 0) = true := by rw [hb4]; rfl
                  clear hb4
                  have c_X0 := (X0.out.below P6_y0.out X0.out.lt).at_ 0 _ rfl
                  have c_X0_1 := (X0.out.below P6_y0.out X0.out.lt).at_ 1 _ rfl
                  have c_X0_2 := (X0.out.below P6_y0.out X0.out.lt).at_ 2 _ rfl
                  have c_X0_3 := (X0.out.below P6_y0.out X0.out.lt).at_ 3 _ rfl
                  have c_X0_4 := (X0.out.below P6_y0.out X0.out.lt).at_ 4 _ rfl
                  have c_X0_5 := (X0.out.below P6_y0.out X0.out.lt).at_ 5 _ rfl
                  have c_X0_6 := (X0.out.below P6_y0.out X0.out.lt).at_ 6 _ rfl
                  have c_X0_7 := (X0.out.below P6_y0.out X0.out.lt).at_ 7 _ rfl
                  have HF : Hid (B = true) := by
                    show _ = _
                    rw [← HB.out]
                    unfold mayO usedO
                    rw [HU.out, HQ0.out, HQ1.out, HQ2.out, HQ3.out, HQ4.out, HSZ.out]
                    rfl
                  go_wp2
                  go_ret
                  exact ⟨by rw [HF.out]; rfl, P6_w.out⟩
                · have HQ4 : Hid ((U.contains 116 || decide (oT o = 0)) = false) := by
                    show _ = _
                    rw [HC4.out, decide_eq_false hb4]; rfl
                  have n4 : (oT o == 0) = false := by rw [beq_eq_false_iff_ne]; exact hb4
                  clear hb4
                  have HF : Hid (B = false) := by
                    show _ = _
                    rw [← HB.out]
                    unfold mayO usedO
                    rw [HU.out, HQ4.out]
                    simp
                  have c_X0 := (X0.out.below P6_y0.out X0.out.lt).at_ 0 _ rfl
                  have c_X0_1 := (X0.out.below P6_y0.out X0.out.lt).at_ 1 _ rfl
                  have c_X0_2 := (X0.out.below P6_y0.out X0.out.lt).at_ 2 _ rfl
                  have c_X0_3 := (X0.out.below P6_y0.out X0.out.lt).at_ 3 _ rfl
                  have c_X0_4 := (X0.out.below P6_y0.out X0.out.lt).at_ 4 _ rfl
                  have c_X0_5 := (X0.out.below P6_y0.out X0.out.lt).at_ 5 _ rfl
                  have c_X0_6 := (X0.out.below P6_y0.out X0.out.lt).at_ 6 _ rfl
                  have c_X0_7 := (X0.out.below P6_y0.out X0.out.lt).at_ 7 _ rfl
                  go_wp2
                  go_ret
                  exact ⟨by rw [HF.out]; rfl, P6_w.out⟩
              · have HQ4 : Hid ((U.contains 116 || decide (oT o = 0)) = true) := by
                  show _ = _
                  rw [HC4.out, Bool.true_or]
                have c_X0 := (X0.out.below P6_y0.out X0.out.lt).at_ 0 _ rfl
                have c_X0_1 := (X0.out.below P6_y0.out X0.out.lt).at_ 1 _ rfl
                have c_X0_2 := (X0.out.below P6_y0.out X0.out.lt).at_ 2 _ rfl
                have c_X0_3 := (X0.out.below P6_y0.out X0.out.lt).at_ 3 _ rfl
                have c_X0_4 := (X0.out.below P6_y0.out X0.out.lt).at_ 4 _ rfl
                have c_X0_5 := (X0.out.below P6_y0.out X0.out.lt).at_ 5 _ rfl
                have c_X0_6 := (X0.out.below P6_y0.out X0.out.lt).at_ 6 _ rfl
                have c_X0_7 := (X0.out.below P6_y0.out X0.out.lt).at_ 7 _ rfl
                have HF : Hid (B = true) := by
                  show _ = _
                  rw [← HB.out]
                  unfold mayO usedO
                  rw [HU.out, HQ0.out, HQ1.out, HQ2.out, HQ3.out, HQ4.out, HSZ.out]
                  rfl
                go_wp2
                go_ret
                exact ⟨by rw [HF.out]; rfl, P6_w.out⟩
          · have HQ2 : Hid ((U.contains 110 || decide (oR o = 0)) = false) := by
              show _ = _
              rw [HC2.out, decide_eq_false hb2]; rfl
            have n2 : (oR o == 0) = false := by rw [beq_eq_false_iff_ne]; exact hb2
            clear hb2
            have HF : Hid (B = false) := by
              show _ = _
              rw [← HB.out]
              unfold mayO usedO
              rw [HU.out, HQ2.out]
              simp
            have c_X0 := (X0.out.below P4_y0.out X0.out.lt).at_ 0 _ rfl
            have c_X0_1 := (X0.out.below P4_y0.out X0.out.lt).at_ 1 _ rfl
            have c_X0_2 := (X0.out.below P4_y0.out X0.out.lt).at_ 2 _ rfl
            have c_X0_3 := (X0.out.below P4_y0.out X0.out.lt).at_ 3 _ rfl
            have c_X0_4 := (X0.out.below P4_y0.out X0.out.lt).at_ 4 _ rfl
            have c_X0_5 := (X0.out.below P4_y0.out X0.out.lt).at_ 5 _ rfl
            have c_X0_6 := (X0.out.below P4_y0.out X0.out.lt).at_ 6 _ rfl
            have c_X0_7 := (X0.out.below P4_y0.out X0.out.lt).at_ 7 _ rfl
            go_wp2
            go_ret
            exact ⟨by rw [HF.out]; rfl, P4_w.out⟩
        · have HQ2 : Hid ((U.contains 110 || decide (oR o = 0)) = true) := by
            show _ = _
            rw [HC2.out, Bool.true_or]
          obtain ⟨C3, hC3⟩ : ∃ b, U.contains 115 = b := ⟨_, rfl⟩
          have HC3 := Lib.hid hC3
          clear hC3
          have c_X0 := (X0.out.below P4_y0.out X0.out.lt).at_ 0 _ rfl
          have c_X0_1 := (X0.out.below P4_y0.out X0.out.lt).at_ 1 _ rfl
          have c_X0_2 := (X0.out.below P4_y0.out X0.out.lt).at_ 2 _ rfl
          have c_X0_3 := (X0.out.below P4_y0.out X0.out.lt).at_ 3 _ rfl
          have c_X0_4 := (X0.out.below P4_y0.out X0.out.lt).at_ 4 _ rfl
          have c_X0_5 := (X0.out.below P4_y0.out X0.out.lt).at_ 5 _ rfl
          have c_X0_6 := (X0.out.below P4_y0.out X0.out.lt).at_ 6 _ rfl
          have c_X0_7 := (X0.out.below P4_y0.out X0.out.lt).at_ 7 _ rfl
          go_wp2_with fail
          refine (rfInIs U 115 115 C3 (by decide) HC3.out W4 HUL.out).mono ?_
          rintro e W5 ⟨rfl, hb⟩
          have E5 := Lib.hid hb
          clear hb c_X0 c_X0_1 c_X0_2 c_X0_3 c_X0_4 c_X0_5 c_X0_6 c_X0_7
          have P5_w := Lib.hid (P4_w.out.trans (E5.out.mono P4_w.out.size))
          clear P4_w
          have P5_y0 := Lib.hid (P4_y0.out.trans (E5.out.mono P4_y0.out.size))
          clear P4_y0
          have P5_W1 := Lib.hid (P4_W1.out.trans (E5.out.mono P4_W1.out.size))
          clear P4_W1
          have P5_W2 := Lib.hid (P4_W2.out.trans (E5.out.mono P4_W2.out.size))
          clear P4_W2
          have P5_W3 := Lib.hid (E4.out.trans (E5.out.mono E4.out.size))
          cases C3
          · by_cases hb3 : oS o = 0
            · have HQ3 : Hid ((U.contains 115 || decide (oS o = 0)) = true) := by
                show _ = _
                rw [hb3, HC3.out]; simp
              have n3 : (oS o == 0) = true := by rw [hb3]; rfl
              clear hb3
              obtain ⟨C4, hC4⟩ : ∃ b, U.contains 116 = b := ⟨_, rfl⟩
              have HC4 := Lib.hid hC4
              clear hC4
              have c_X0 := (X0.out.below P5_y0.out X0.out.lt).at_ 0 _ rfl
              have c_X0_1 := (X0.out.below P5_y0.out X0.out.lt).at_ 1 _ rfl
              have c_X0_2 := (X0.out.below P5_y0.out X0.out.lt).at_ 2 _ rfl
              have c_X0_3 := (X0.out.below P5_y0.out X0.out.lt).at_ 3 _ rfl
              have c_X0_4 := (X0.out.below P5_y0.out X0.out.lt).at_ 4 _ rfl
              have c_X0_5 := (X0.out.below P5_y0.out X0.out.lt).at_ 5 _ rfl
              have c_X0_6 := (X0.out.below P5_y0.out X0.out.lt).at_ 6 _ rfl
              have c_X0_7 := (X0.out.below P5_y0.out X0.out.lt).at_ 7 _ rfl
              go_wp2_with fail
              refine (rfInIs U 116 116 C4 (by decide) HC4.out W5 HUL.out).mono ?_
              rintro e W6 ⟨rfl, hb⟩
              have E6 := Lib.hid hb
              clear hb n3 c_X0 c_X0_1 c_X0_2 c_X0_3 c_X0_4 c_X0_5 c_X0_6 c_X0_7
              have P6_w := Lib.hid (P5_w.out.trans (E6.out.mono P5_w.out.size))
              clear P5_w
              have P6_y0 := Lib.hid (P5_y0.out.trans (E6.out.mono P5_y0.out.size))
              clear P5_y0
              have P6_W1 := Lib.hid (P5_W1.out.trans (E6.out.mono P5_W1.out.size))
              clear P5_W1
              have P6_W2 := Lib.hid (P5_W2.out.trans (E6.out.mono P5_W2.out.size))
              clear P5_W2
              have P6_W3 := Lib.hid (P5_W3.out.trans (E6.out.mono P5_W3.out.size))
              clear P5_W3
              have P6_W4 := Lib.hid (E5.out.trans (E6.out.mono E5.out.size))
              cases C4
              · by_cases hb4 : oT o = 0
                · have HQ4 : Hid ((U.contains 116 || decide (oT o = 0)) = true) := by
                    show _ = _
                    rw [hb4, HC4.out]; simp
                  have n4 : (oT o == 0) = true := by rw [hb4]; rfl
                  clear hb4
                  have c_X0 := (X0.out.below P6_y0.out X0.out.lt).at_ 0 _ rfl
                  have c_X0_1 := (X0.out.below P6_y0.out X0.out.lt).at_ 1 _ rfl
                  have c_X0_2 := (X0.out.below P6_y0.out X0.out.lt).at_ 2 _ rfl
                  have c_X0_3 := (X0.out.below P6_y0.out X0.out.lt).at_ 3 _ rfl
                  have c_X0_4 := (X0.out.below P6_y0.out X0.out.lt).at_ 4 _ rfl
                  have c_X0_5 := (X0.out.below P6_y0.out X0.out.lt).at_ 5 _ rfl
                  have c_X0_6 := (X0.out.below P6_y0.out X0.out.lt).at_ 6 _ rfl
                  have c_X0_7 := (X0.out.below P6_y0.out X0.out.lt).at_ 7 _ rfl
                  have HF : Hid (B = true) := by
                    show _ = _
                    rw [← HB.out]
                    unfold mayO usedO
                    rw [HU.out, HQ0.out, HQ1.out, HQ2.out, HQ3.out, HQ4.out, HSZ.out]
                    rfl
                  go_wp2
                  go_ret
                  exact ⟨by rw [HF.out]; rfl, P6_w.out⟩
                · have HQ4 : Hid ((U.contains 116 || decide (oT o = 0)) = false) := by
                    show _ = _
                    rw [HC4.out, decide_eq_false hb4]; rfl
                  have n4 : (oT o == 0) = false := by rw [beq_eq_false_iff_ne]; exact hb4
                  clear hb4
                  have HF : Hid (B = false) := by
                    show _ = _
                    rw [← HB.out]
                    unfold mayO usedO
                    rw [HU.out, HQ4.out]
                    simp
                  have c_X0 := (X0.out.below P6_y0.out X0.out.lt).at_ 0 _ rfl
                  have c_X0_1 := (X0.out.below P6_y0.out X0.out.lt).at_ 1 _ rfl
                  have c_X0_2 := (X0.out.below P6_y0.out X0.out.lt).at_ 2 _ rfl
                  have c_X0_3 := (X0.out.below P6_y0.out X0.out.lt).at_ 3 _ rfl
                  have c_X0_4 := (X0.out.below P6_y0.out X0.out.lt).at_ 4 _ rfl
                  have c_X0_5 := (X0.out.below P6_y0.out X0.out.lt).at_ 5 _ rfl
                  have c_X0_6 := (X0.out.below P6_y0.out X0.out.lt).at_ 6 _ rfl
                  have c_X0_7 := (X0.out.below P6_y0.out X0.out.lt).at_ 7 _ rfl
                  go_wp2
                  go_ret
                  exact ⟨by rw [HF.out]; rfl, P6_w.out⟩
              · have HQ4 : Hid ((U.contains 116 || decide (oT o = 0)) = true) := by
                  show _ = _
                  rw [HC4.out, Bool.true_or]
                have c_X0 := (X0.out.below P6_y0.out X0.out.lt).at_ 0 _ rfl
                have c_X0_1 := (X0.out.below P6_y0.out X0.out.lt).at_ 1 _ rfl
                have c_X0_2 := (X0.out.below P6_y0.out X0.out.lt).at_ 2 _ rfl
                have c_X0_3 := (X0.out.below P6_y0.out X0.out.lt).at_ 3 _ rfl
                have c_X0_4 := (X0.out.below P6_y0.out X0.out.lt).at_ 4 _ rfl
                have c_X0_5 := (X0.out.below P6_y0.out X0.out.lt).at_ 5 _ rfl
                have c_X0_6 := (X0.out.below P6_y0.out X0.out.lt).at_ 6 _ rfl
                have c_X0_7 := (X0.out.below P6_y0.out X0.out.lt).at_ 7 _ rfl
                have HF : Hid (B = true) := by
                  show _ = _
                  rw [← HB.out]
                  unfold mayO usedO
                  rw [HU.out, HQ0.out, HQ1.out, HQ2.out, HQ3.out, HQ4.out, HSZ.out]
                  rfl
                go_wp2
                go_ret
                exact ⟨by rw [HF.out]; rfl, P6_w.out⟩
            · have HQ3 : Hid ((U.contains 115 || decide (oS o = 0)) = false) := by
                show _ = _
                rw [HC3.out, decide_eq_false hb3]; rfl
              have n3 : (oS o == 0) = false := by rw [beq_eq_false_iff_ne]; exact hb3
              clear hb3
              have HF : Hid (B = false) := by
                show _ = _
                rw [← HB.out]
                unfold mayO usedO
                rw [HU.out, HQ3.out]
                simp
              have c_X0 := (X0.out.below P5_y0.out X0.out.lt).at_ 0 _ rfl
              have c_X0_1 := (X0.out.below P5_y0.out X0.out.lt).at_ 1 _ rfl
              have c_X0_2 := (X0.out.below P5_y0.out X0.out.lt).at_ 2 _ rfl
              have c_X0_3 := (X0.out.below P5_y0.out X0.out.lt).at_ 3 _ rfl
              have c_X0_4 := (X0.out.below P5_y0.out X0.out.lt).at_ 4 _ rfl
              have c_X0_5 := (X0.out.below P5_y0.out X0.out.lt).at_ 5 _ rfl
              have c_X0_6 := (X0.out.below P5_y0.out X0.out.lt).at_ 6 _ rfl
              have c_X0_7 := (X0.out.below P5_y0.out X0.out.lt).at_ 7 _ rfl
              go_wp2
              go_ret
              exact ⟨by rw [HF.out]; rfl, P5_w.out⟩
          · have HQ3 : Hid ((U.contains 115 || decide (oS o = 0)) = true) := by
              show _ = _
              rw [HC3.out, Bool.true_or]
            obtain ⟨C4, hC4⟩ : ∃ b, U.contains 116 = b := ⟨_, rfl⟩
            have HC4 := Lib.hid hC4
            clear hC4
            have c_X0 := (X0.out.below P5_y0.out X0.out.lt).at_ 0 _ rfl
            have c_X0_1 := (X0.out.below P5_y0.out X0.out.lt).at_ 1 _ rfl
            have c_X0_2 := (X0.out.below P5_y0.out X0.out.lt).at_ 2 _ rfl
            have c_X0_3 := (X0.out.below P5_y0.out X0.out.lt).at_ 3 _ rfl
            have c_X0_4 := (X0.out.below P5_y0.out X0.out.lt).at_ 4 _ rfl
            have c_X0_5 := (X0.out.below P5_y0.out X0.out.lt).at_ 5 _ rfl
            have c_X0_6 := (X0.out.below P5_y0.out X0.out.lt).at_ 6 _ rfl
            have c_X0_7 := (X0.out.below P5_y0.out X0.out.lt).at_ 7 _ rfl
            go_wp2_with fail
            refine (rfInIs U 116 116 C4 (by decide) HC4.out W5 HUL.out).mono ?_
            rintro e W6 ⟨rfl, hb⟩
            have E6 := Lib.hid hb
            clear hb c_X0 c_X0_1 c_X0_2 c_X0_3 c_X0_4 c_X0_5 c_X0_6 c_X0_7
            have P6_w := Lib.hid (P5_w.out.trans (E6.out.mono P5_w.out.size))
            clear P5_w
            have P6_y0 := Lib.hid (P5_y0.out.trans (E6.out.mono P5_y0.out.size))
            clear P5_y0
            have P6_W1 := Lib.hid (P5_W1.out.trans (E6.out.mono P5_W1.out.size))
            clear P5_W1
            have P6_W2 := Lib.hid (P5_W2.out.trans (E6.out.mono P5_W2.out.size))
            clear P5_W2
            have P6_W3 := Lib.hid (P5_W3.out.trans (E6.out.mono P5_W3.out.size))
            clear P5_W3
            have P6_W4 := Lib.hid (E5.out.trans (E6.out.mono E5.out.size))
            cases C4
            · by_cases hb4 : oT o = 0
              · have HQ4 : Hid ((U.contains 116 || decide (oT o = 0)) = true) := by
                  show _ = _
                  rw [hb4, HC4.out]; simp
                have n4 : (oT o == 0) = true := by rw [hb4]; rfl
                clear hb4
                have c_X0 := (X0.out.below P6_y0.out X0.out.lt).at_ 0 _ rfl
                have c_X0_1 := (X0.out.below P6_y0.out X0.out.lt).at_ 1 _ rfl
                have c_X0_2 := (X0.out.below P6_y0.out X0.out.lt).at_ 2 _ rfl
                have c_X0_3 := (X0.out.below P6_y0.out X0.out.lt).at_ 3 _ rfl
                have c_X0_4 := (X0.out.below P6_y0.out X0.out.lt).at_ 4 _ rfl
                have c_X0_5 := (X0.out.below P6_y0.out X0.out.lt).at_ 5 _ rfl
                have c_X0_6 := (X0.out.below P6_y0.out X0.out.lt).at_ 6 _ rfl
                have c_X0_7 := (X0.out.below P6_y0.out X0.out.lt).at_ 7 _ rfl
                have HF : Hid (B = true) := by
                  show _ = _
                  rw [← HB.out]
                  unfold mayO usedO
                  rw [HU.out, HQ0.out, HQ1.out, HQ2.out, HQ3.out, HQ4.out, HSZ.out]
                  rfl
                go_wp2
                go_ret
                exact ⟨by rw [HF.out]; rfl, P6_w.out⟩
              · have HQ4 : Hid ((U.contains 116 || decide (oT o = 0)) = false) := by
                  show _ = _
                  rw [HC4.out, decide_eq_false hb4]; rfl
                have n4 : (oT o == 0) = false := by rw [beq_eq_false_iff_ne]; exact hb4
                clear hb4
                have HF : Hid (B = false) := by
                  show _ = _
                  rw [← HB.out]
                  unfold mayO usedO
                  rw [HU.out, HQ4.out]
                  simp
                have c_X0 := (X0.out.below P6_y0.out X0.out.lt).at_ 0 _ rfl
                have c_X0_1 := (X0.out.below P6_y0.out X0.out.lt).at_ 1 _ rfl
                have c_X0_2 := (X0.out.below P6_y0.out X0.out.lt).at_ 2 _ rfl
                have c_X0_3 := (X0.out.below P6_y0.out X0.out.lt).at_ 3 _ rfl
                have c_X0_4 := (X0.out.below P6_y0.out X0.out.lt).at_ 4 _ rfl
                have c_X0_5 := (X0.out.below P6_y0.out X0.out.lt).at_ 5 _ rfl
                have c_X0_6 := (X0.out.below P6_y0.out X0.out.lt).at_ 6 _ rfl
                have c_X0_7 := (X0.out.below P6_y0.out X0.out.lt).at_ 7 _ rfl
                go_wp2
                go_ret
                exact ⟨by rw [HF.out]; rfl, P6_w.out⟩
            · have HQ4 : Hid ((U.contains 116 || decide (oT o = 0)) = true) := by
                show _ = _
                rw [HC4.out, Bool.true_or]
              have c_X0 := (X0.out.below P6_y0.out X0.out.lt).at_ 0 _ rfl
              have c_X0_1 := (X0.out.below P6_y0.out X0.out.lt).at_ 1 _ rfl
              have c_X0_2 := (X0.out.below P6_y0.out X0.out.lt).at_ 2 _ rfl
              have c_X0_3 := (X0.out.below P6_y0.out X0.out.lt).at_ 3 _ rfl
              have c_X0_4 := (X0.out.below P6_y0.out X0.out.lt).at_ 4 _ rfl
              have c_X0_5 := (X0.out.below P6_y0.out X0.out.lt).at_ 5 _ rfl
              have c_X0_6 := (X0.out.below P6_y0.out X0.out.lt).at_ 6 _ rfl
              have c_X0_7 := (X0.out.below P6_y0.out X0.out.lt).at_ 7 _ rfl
              have HF : Hid (B = true) := by
                show _ = _
                rw [← HB.out]
                unfold mayO usedO
                rw [HU.out, HQ0.out, HQ1.out, HQ2.out, HQ3.out, HQ4.out, HSZ.out]
                rfl
              go_wp2
              go_ret
              exact ⟨by rw [HF.out]; rfl, P6_w.out⟩
    · have HQ0 : Hid ((U.contains 112 || decide (oP o = [])) = false) := by
        show _ = _
        rw [HC0.out, decide_eq_false hb0]; rfl
      have n0 : (oP o).isEmpty = false := by
        rw [Bool.eq_false_iff]
        intro h
        exact hb0 (List.isEmpty_iff.1 h)
      have HF : Hid (B = false) := by
        show _ = _
        rw [← HB.out]
        unfold mayO usedO
        rw [HU.out, HQ0.out]
        simp
      have c_X0 := (X0.out.below P2_y0.out X0.out.lt).at_ 0 _ rfl
      have c_X0_1 := (X0.out.below P2_y0.out X0.out.lt).at_ 1 _ rfl
      have c_X0_2 := (X0.out.below P2_y0.out X0.out.lt).at_ 2 _ rfl
      have c_X0_3 := (X0.out.below P2_y0.out X0.out.lt).at_ 3 _ rfl
      have c_X0_4 := (X0.out.below P2_y0.out X0.out.lt).at_ 4 _ rfl
      have c_X0_5 := (X0.out.below P2_y0.out X0.out.lt).at_ 5 _ rfl
      have c_X0_6 := (X0.out.below P2_y0.out X0.out.lt).at_ 6 _ rfl
      have c_X0_7 := (X0.out.below P2_y0.out X0.out.lt).at_ 7 _ rfl
      go_wp2
      go_ret
      exact ⟨by rw [HF.out]; rfl, P2_w.out⟩
  · have HQ0 : Hid ((U.contains 112 || decide (oP o = [])) = true) := by
      show _ = _
      rw [HC0.out, Bool.true_or]
    obtain ⟨C1, hC1⟩ : ∃ b, U.contains 118 = b := ⟨_, rfl⟩
    have HC1 := Lib.hid hC1
    clear hC1
    have c_X0 := (X0.out.below P2_y0.out X0.out.lt).at_ 0 _ rfl
    have c_X0_1 := (X0.out.below P2_y0.out X0.out.lt).at_ 1 _ rfl
    have c_X0_2 := (X0.out.below P2_y0.out X0.out.lt).at_ 2 _ rfl
    have c_X0_3 := (X0.out.below P2_y0.out X0.out.lt).at_ 3 _ rfl
    have c_X0_4 := (X0.out.below P2_y0.out X0.out.lt).at_ 4 _ rfl
    have c_X0_5 := (X0.out.below P2_y0.out X0.out.lt).at_ 5 _ rfl
    have c_X0_6 := (X0.out.below P2_y0.out X0.out.lt).at_ 6 _ rfl
    have c_X0_7 := (X0.out.below P2_y0.out X0.out.lt).at_ 7 _ rfl
    go_wp2_with fail
    refine (rfInIs U 118 118 C1 (by decide) HC1.out W2 HUL.out).mono ?_
    rintro e W3 ⟨rfl, hb⟩
    have E3 := Lib.hid hb
    clear hb c_X0 c_X0_1 c_X0_2 c_X0_3 c_X0_4 c_X0_5 c_X0_6 c_X0_7
    have P3_w := Lib.hid (P2_w.out.trans (E3.out.mono P2_w.out.size))
    clear P2_w
    have P3_y0 := Lib.hid (P2_y0.out.trans (E3.out.mono P2_y0.out.size))
    clear P2_y0
    have P3_W1 := Lib.hid (E2.out.trans (E3.out.mono E2.out.size))
    cases C1
    · by_cases hb1 : oV o = []
      · have HQ1 : Hid ((U.contains 118 || decide (oV o = [])) = true) := by
          show _ = _
          rw [hb1, HC1.out]; simp
        have n1 : (oV o).isEmpty = true := by rw [hb1]; rfl
        obtain ⟨C2, hC2⟩ : ∃ b, U.contains 110 = b := ⟨_, rfl⟩
        have HC2 := Lib.hid hC2
        clear hC2
        have c_X0 := (X0.out.below P3_y0.out X0.out.lt).at_ 0 _ rfl
        have c_X0_1 := (X0.out.below P3_y0.out X0.out.lt).at_ 1 _ rfl
        have c_X0_2 := (X0.out.below P3_y0.out X0.out.lt).at_ 2 _ rfl
        have c_X0_3 := (X0.out.below P3_y0.out X0.out.lt).at_ 3 _ rfl
        have c_X0_4 := (X0.out.below P3_y0.out X0.out.lt).at_ 4 _ rfl
        have c_X0_5 := (X0.out.below P3_y0.out X0.out.lt).at_ 5 _ rfl
        have c_X0_6 := (X0.out.below P3_y0.out X0.out.lt).at_ 6 _ rfl
        have c_X0_7 := (X0.out.below P3_y0.out X0.out.lt).at_ 7 _ rfl
        go_wp2_with fail
        refine (rfInIs U 110 110 C2 (by decide) HC2.out W3 HUL.out).mono ?_
        rintro e W4 ⟨rfl, hb⟩
        have E4 := Lib.hid hb
        clear hb hb1 n1 c_X0 c_X0_1 c_X0_2 c_X0_3 c_X0_4 c_X0_5 c_X0_6 c_X0_7
        have P4_w := Lib.hid (P3_w.out.trans (E4.out.mono P3_w.out.size))
        clear P3_w
        have P4_y0 := Lib.hid (P3_y0.out.trans (E4.out.mono P3_y0.out.size))
        clear P3_y0
        have P4_W1 := Lib.hid (P3_W1.out.trans (E4.out.mono P3_W1.out.size))
        clear P3_W1
        have P4_W2 := Lib.hid (E3.out.trans (E4.out.mono E3.out.size))
        cases C2
        · by_cases hb2 : oR o = 0
          · have HQ2 : Hid ((U.contains 110 || decide (oR o = 0)) = true) := by
              show _ = _
              rw [hb2, HC2.out]; simp
            have n2 : (oR o == 0) = true := by rw [hb2]; rfl
            clear hb2
            obtain ⟨C3, hC3⟩ : ∃ b, U.contains 115 = b := ⟨_, rfl⟩
            have HC3 := Lib.hid hC3
            clear hC3
            have c_X0 := (X0.out.below P4_y0.out X0.out.lt).at_ 0 _ rfl
            have c_X0_1 := (X0.out.below P4_y0.out X0.out.lt).at_ 1 _ rfl
            have c_X0_2 := (X0.out.below P4_y0.out X0.out.lt).at_ 2 _ rfl
            have c_X0_3 := (X0.out.below P4_y0.out X0.out.lt).at_ 3 _ rfl
            have c_X0_4 := (X0.out.below P4_y0.out X0.out.lt).at_ 4 _ rfl
            have c_X0_5 := (X0.out.below P4_y0.out X0.out.lt).at_ 5 _ rfl
            have c_X0_6 := (X0.out.below P4_y0.out X0.out.lt).at_ 6 _ rfl
            have c_X0_7 := (X0.out.below P4_y0.out X0.out.lt).at_ 7 _ rfl
            go_wp2_with fail
            refine (rfInIs U 115 115 C3 (by decide) HC3.out W4 HUL.out).mono ?_
            rintro e W5 ⟨rfl, hb⟩
            have E5 := Lib.hid hb
            clear hb n2 c_X0 c_X0_1 c_X0_2 c_X0_3 c_X0_4 c_X0_5 c_X0_6 c_X0_7
            have P5_w := Lib.hid (P4_w.out.trans (E5.out.mono P4_w.out.size))
            clear P4_w
            have P5_y0 := Lib.hid (P4_y0.out.trans (E5.out.mono P4_y0.out.size))
            clear P4_y0
            have P5_W1 := Lib.hid (P4_W1.out.trans (E5.out.mono P4_W1.out.size))
            clear P4_W1
            have P5_W2 := Lib.hid (P4_W2.out.trans (E5.out.mono P4_W2.out.size))
            clear P4_W2
            have P5_W3 := Lib.hid (E4.out.trans (E5.out.mono E4.out.size))
            cases C3
            · by_cases hb3 : oS o = 0
              · have HQ3 : Hid ((U.contains 115 || decide (oS o = 0)) = true) := by
                  show _ = _
                  rw [hb3, HC3.out]; simp
                have n3 : (oS o == 0) = true := by rw [hb3]; rfl
                clear hb3
                obtain ⟨C4, hC4⟩ : ∃ b, U.contains 116 = b := ⟨_, rfl⟩
                have HC4 := Lib.hid hC4
                clear hC4
                have c_X0 := (X0.out.below P5_y0.out X0.out.lt).at_ 0 _ rfl
                have c_X0_1 := (X0.out.below P5_y0.out X0.out.lt).at_ 1 _ rfl
                have c_X0_2 := (X0.out.below P5_y0.out X0.out.lt).at_ 2 _ rfl
                have c_X0_3 := (X0.out.below P5_y0.out X0.out.lt).at_ 3 _ rfl
                have c_X0_4 := (X0.out.below P5_y0.out X0.out.lt).at_ 4 _ rfl
                have c_X0_5 := (X0.out.below P5_y0.out X0.out.lt).at_ 5 _ rfl
                have c_X0_6 := (X0.out.below P5_y0.out X0.out.lt).at_ 6 _ rfl
                have c_X0_7 := (X0.out.below P5_y0.out X0.out.lt).at_ 7 _ rfl
                go_wp2_with fail
                refine (rfInIs U 116 116 C4 (by decide) HC4.out W5 HUL.out).mono ?_
                rintro e W6 ⟨rfl, hb⟩
                have E6 := Lib.hid hb
                clear hb n3 c_X0 c_X0_1 c_X0_2 c_X0_3 c_X0_4 c_X0_5 c_X0_6 c_X0_7
                have P6_w := Lib.hid (P5_w.out.trans (E6.out.mono P5_w.out.size))
                clear P5_w
                have P6_y0 := Lib.hid (P5_y0.out.trans (E6.out.mono P5_y0.out.size))
                clear P5_y0
                have P6_W1 := Lib.hid (P5_W1.out.trans (E6.out.mono P5_W1.out.size))
                clear P5_W1
                have P6_W2 := Lib.hid (P5_W2.out.trans (E6.out.mono P5_W2.out.size))
                clear P5_W2
                have P6_W3 := Lib.hid (P5_W3.out.trans (E6.out.mono P5_W3.out.size))
                clear P5_W3
                have P6_W4 := Lib.hid (E5.out.trans (E6.out.mono E5.out.size))
                cases C4
                · by_cases hb4 : oT o = 0
                  · have HQ4 : Hid ((U.contains 116 || decide (oT o = 0)) = true) := by
                      show _ = _
                      rw [hb4, HC4.out]; simp
                    have n4 : (oT o == 0) = true := by rw [hb4]; rfl
                    clear hb4
                    have c_X0 := (X0.out.below P6_y0.out X0.out.lt).at_ 0 _ rfl
                    have c_X0_1 := (X0.out.below P6_y0.out X0.out.lt).at_ 1 _ rfl
                    have c_X0_2 := (X0.out.below P6_y0.out X0.out.lt).at_ 2 _ rfl
                    have c_X0_3 := (X0.out.below P6_y0.out X0.out.lt).at_ 3 _ rfl
                    have c_X0_4 := (X0.out.below P6_y0.out X0.out.lt).at_ 4 _ rfl
                    have c_X0_5 := (X0.out.below P6_y0.out X0.out.lt).at_ 5 _ rfl
                    have c_X0_6 := (X0.out.below P6_y0.out X0.out.lt).at_ 6 _ rfl
                    have c_X0_7 := (X0.out.below P6_y0.out X0.out.lt).at_ 7 _ rfl
                    have HF : Hid (B = true) := by
                      show _ = _
                      rw [← HB.out]
                      unfold mayO usedO
                      rw [HU.out, HQ0.out, HQ1.out, HQ2.out, HQ3.out, HQ4.out, HSZ.out]
                      rfl
                    go_wp2
                    go_ret
                    exact ⟨by rw [HF.out]; rfl, P6_w.out⟩
                  · have HQ4 : Hid ((U.contains 116 || decide (oT o = 0)) = false) := by
                      show _ = _
                      rw [HC4.out, decide_eq_false hb4]; rfl
                    have n4 : (oT o == 0) = false := by rw [beq_eq_false_iff_ne]; exact hb4
                    clear hb4
                    have HF : Hid (B = false) := by
                      show _ = _
                      rw [← HB.out]
                      unfold mayO usedO
                      rw [HU.out, HQ4.out]
                      simp
                    have c_X0 := (X0.out.below P6_y0.out X0.out.lt).at_ 0 _ rfl
                    have c_X0_1 := (X0.out.below P6_y0.out X0.out.lt).at_ 1 _ rfl
                    have c_X0_2 := (X0.out.below P6_y0.out X0.out.lt).at_ 2 _ rfl
                    have c_X0_3 := (X0.out.below P6_y0.out X0.out.lt).at_ 3 _ rfl
                    have c_X0_4 := (X0.out.below P6_y0.out X0.out.lt).at_ 4 _ rfl
                    have c_X0_5 := (X0.out.below P6_y0.out X0.out.lt).at_ 5 _ rfl
                    have c_X0_6 := (X0.out.below P6_y0.out X0.out.lt).at_ 6 _ rfl
                    have c_X0_7 := (X0.out.below P6_y0.out X0.out.lt).at_ 7 _ rfl
                    go_wp2
                    go_ret
                    exact ⟨by rw [HF.out]; rfl, P6_w.out⟩
                · have HQ4 : Hid ((U.contains 116 || decide (oT o = 0)) = true) := by
                    show _ = _
                    rw [HC4.out, Bool.true_or]
                  have c_X0 := (X0.out.below P6_y0.out X0.out.lt).at_ 0 _ rfl
                  have c_X0_1 := (X0.out.below P6_y0.out X0.out.lt).at_ 1 _ rfl
                  have c_X0_2 := (X0.out.below P6_y0.out X0.out.lt).at_ 2 _ rfl
                  have c_X0_3 := (X0.out.below P6_y0.out X0.out.lt).at_ 3 _ rfl
                  have c_X0_4 := (X0.out.below P6_y0.out X0.out.lt).at_ 4 _ rfl
                  have c_X0_5 := (X0.out.below P6_y0.out X0.out.lt).at_ 5 _ rfl
                  have c_X0_6 := (X0.out.below P6_y0.out X0.out.lt).at_ 6 _ rfl
                  have c_X0_7 := (X0.out.below P6_y0.out X0.out.lt).at_ 7 _ rfl
                  have HF : Hid (B = true) := by
                    show _ = _
                    rw [← HB.out]
                    unfold mayO usedO
                    rw [HU.out, HQ0.out, HQ1.out, HQ2.out, HQ3.out, HQ4.out, HSZ.out]
                    rfl
                  go_wp2
                  go_ret
                  exact ⟨by rw [HF.out]; rfl, P6_w.out⟩
              · have HQ3 : Hid ((U.contains 115 || decide (oS o = 0)) = false) := by
                  show _ = _
                  rw [HC3.out, decide_eq_false hb3]; rfl
                have n3 : (oS o == 0) = false := by rw [beq_eq_false_iff_ne]; exact hb3
                clear hb3
                have HF : Hid (B = false) := by
                  show _ = _
                  rw [← HB.out]
                  unfold mayO usedO
                  rw [HU.out, HQ3.out]
                  simp
                have c_X0 := (X0.out.below P5_y0.out X0.out.lt).at_ 0 _ rfl
                have c_X0_1 := (X0.out.below P5_y0.out X0.out.lt).at_ 1 _ rfl
                have c_X0_2 := (X0.out.below P5_y0.out X0.out.lt).at_ 2 _ rfl
                have c_X0_3 := (X0.out.below P5_y0.out X0.out.lt).at_ 3 _ rfl
                have c_X0_4 := (X0.out.below P5_y0.out X0.out.lt).at_ 4 _ rfl
                have c_X0_5 := (X0.out.below P5_y0.out X0.out.lt).at_ 5 _ rfl
                have c_X0_6 := (X0.out.below P5_y0.out X0.out.lt).at_ 6 _ rfl
                have c_X0_7 := (X0.out.below P5_y0.out X0.out.lt).at_ 7 _ rfl
                go_wp2
                go_ret
                exact ⟨by rw [HF.out]; rfl, P5_w.out⟩
            · have HQ3 : Hid ((U.contains 115 || decide (oS o = 0)) = true) := by
                show _ = _
                rw [HC3.out, Bool.true_or]
              obtain ⟨C4, hC4⟩ : ∃ b, U.contains 116 = b := ⟨_, rfl⟩
              have HC4 := Lib.hid hC4
              clear hC4
              have c_X0 := (X0.out.below P5_y0.out X0.out.lt).at_ 0 _ rfl
              have c_X0_1 := (X0.out.below P5_y0.out X0.out.lt).at_ 1 _ rfl
              have c_X0_2 := (X0.out.below P5_y0.out X0.out.lt).at_ 2 _ rfl
              have c_X0_3 := (X0.out.below P5_y0.out X0.out.lt).at_ 3 _ rfl
              have c_X0_4 := (X0.out.below P5_y0.out X0.out.lt).at_ 4 _ rfl
              have c_X0_5 := (X0.out.below P5_y0.out X0.out.lt).at_ 5 _ rfl
              have c_X0_6 := (X0.out.below P5_y0.out X0.out.lt).at_ 6 _ rfl
              have c_X0_7 := (X0.out.below P5_y0.out X0.out.lt).at_ 7 _ rfl
              go_wp2_with fail
              refine (rfInIs U 116 116 C4 (by decide) HC4.out W5 HUL.out).mono ?_
              rintro e W6 ⟨rfl, hb⟩
              have E6 := Lib.hid hb
              clear hb c_X0 c_X0_1 c_X0_2 c_X0_3 c_X0_4 c_X0_5 c_X0_6 c_X0_7
              have P6_w := Lib.hid (P5_w.out.trans (E6.out.mono P5_w.out.size))
              clear P5_w
              have P6_y0 := Lib.hid (P5_y0.out.trans (E6.out.mono P5_y0.out.size))
              clear P5_y0
              have P6_W1 := Lib.hid (P5_W1.out.trans (E6.out.mono P5_W1.out.size))
              clear P5_W1
              have P6_W2 := Lib.hid (P5_W2.out.trans (E6.out.mono P5_W2.out.size))
              clear P5_W2
              have P6_W3 := Lib.hid (P5_W3.out.trans (E6.out.mono P5_W3.out.size))
              clear P5_W3
              have P6_W4 := Lib.hid (E5.out.trans (E6.out.mono E5.out.size))
              cases C4
              · by_cases hb4 : oT o = 0
                · have HQ4 : Hid ((U.contains 116 || decide (oT o = 0)) = true) := by
                    show _ = _
                    rw [hb4, HC4.out]; simp
                  have n4 : (oT o == 0) = true := by rw [hb4]; rfl
                  clear hb4
                  have c_X0 := (X0.out.below P6_y0.out X0.out.lt).at_ 0 _ rfl
                  have c_X0_1 := (X0.out.below P6_y0.out X0.out.lt).at_ 1 _ rfl
                  have c_X0_2 := (X0.out.below P6_y0.out X0.out.lt).at_ 2 _ rfl
                  have c_X0_3 := (X0.out.below P6_y0.out X0.out.lt).at_ 3 _ rfl
                  have c_X0_4 := (X0.out.below P6_y0.out X0.out.lt).at_ 4 _ rfl
                  have c_X0_5 := (X0.out.below P6_y0.out X0.out.lt).at_ 5 _ rfl
                  have c_X0_6 := (X0.out.below P6_y0.out X0.out.lt).at_ 6 _ rfl
                  have c_X0_7 := (X0.out.below P6_y0.out X0.out.lt).at_ 7 _ rfl
                  have HF : Hid (B = true) := by
                    show _ = _
                    rw [← HB.out]
                    unfold mayO usedO
                    rw [HU.out, HQ0.out, HQ1.out, HQ2.out, HQ3.out, HQ4.out, HSZ.out]
                    rfl
                  go_wp2
                  go_ret
                  exact ⟨by rw [HF.out]; rfl, P6_w.out⟩
                · have HQ4 : Hid ((U.contains 116 || decide (oT o = 0)) = false) := by
                    show _ = _
                    rw [HC4.out, decide_eq_false hb4]; rfl
                  have n4 : (oT o == 0) = false := by rw [beq_eq_false_iff_ne]; exact hb4
                  clear hb4
                  have HF : Hid (B = false) := by
                    show _ = _
                    rw [← HB.out]
                    unfold mayO usedO
                    rw [HU.out, HQ4.out]
                    simp
                  have c_X0 := (X0.out.below P6_y0.out X0.out.lt).at_ 0 _ rfl
                  have c_X0_1 := (X0.out.below P6_y0.out X0.out.lt).at_ 1 _ rfl
                  have c_X0_2 := (X0.out.below P6_y0.out X0.out.lt).at_ 2 _ rfl
                  have c_X0_3 := (X0.out.below P6_y0.out X0.out.lt).at_ 3 _ rfl
                  have c_X0_4 := (X0.out.below P6_y0.out X0.out.lt).at_ 4 _ rfl
                  have c_X0_5 := (X0.out.below P6_y0.out X0.out.lt).at_ 5 _ rfl
                  have c_X0_6 := (X0.out.below P6_y0.out X0.out.lt).at_ 6 _ rfl
                  have c_X0_7 := (X0.out.below P6_y0.out X0.out.lt).at_ 7 _ rfl
                  go_wp2
                  go_ret
                  exact ⟨by rw [HF.out]; rfl, P6_w.out⟩
              · have HQ4 : Hid ((U.contains 116 || decide (oT o = 0)) = true) := by
                  show _ = _
                  rw [HC4.out, Bool.true_or]
                have c_X0 := (X0.out.below P6_y0.out X0.out.lt).at_ 0 _ rfl
                have c_X0_1 := (X0.out.below P6_y0.out X0.out.lt).at_ 1 _ rfl
                have c_X0_2 := (X0.out.below P6_y0.out X0.out.lt).at_ 2 _ rfl
                have c_X0_3 := (X0.out.below P6_y0.out X0.out.lt).at_ 3 _ rfl
                have c_X0_4 := (X0.out.below P6_y0.out X0.out.lt).at_ 4 _ rfl
                have c_X0_5 := (X0.out.below P6_y0.out X0.out.lt).at_ 5 _ rfl
                have c_X0_6 := (X0.out.below P6_y0.out X0.out.lt).at_ 6 _ rfl
                have c_X0_7 := (X0.out.below P6_y0.out X0.out.lt).at_ 7 _ rfl
                have HF : Hid (B = true) := by
                  show _ = _
                  rw [← HB.out]
                  unfold mayO usedO
                  rw [HU.out, HQ0.out, HQ1.out, HQ2.out, HQ3.out, HQ4.out, HSZ.out]
                  rfl
                go_wp2
                go_ret
                exact ⟨by rw [HF.out]; rfl, P6_w.out⟩
          · have HQ2 : Hid ((U.contains 110 || decide (oR o = 0)) = false) := by
              show _ = _
              rw [HC2.out, decide_eq_false hb2]; rfl
            have n2 : (oR o == 0) = false := by rw [beq_eq_false_iff_ne]; exact hb2
            clear hb2
            have HF : Hid (B = false) := by
              show _ = _
              rw [← HB.out]
              unfold mayO usedO
              rw [HU.out, HQ2.out]
              simp
            have c_X0 := (X0.out.below P4_y0.out X0.out.lt).at_ 0 _ rfl
            have c_X0_1 := (X0.out.below P4_y0.out X0.out.lt).at_ 1 _ rfl
            have c_X0_2 := (X0.out.below P4_y0.out X0.out.lt).at_ 2 _ rfl
            have c_X0_3 := (X0.out.below P4_y0.out X0.out.lt).at_ 3 _ rfl
            have c_X0_4 := (X0.out.below P4_y0.out X0.out.lt).at_ 4 _ rfl
            have c_X0_5 := (X0.out.below P4_y0.out X0.out.lt).at_ 5 _ rfl
            have c_X0_6 := (X0.out.below P4_y0.out X0.out.lt).at_ 6 _ rfl
            have c_X0_7 := (X0.out.below P4_y0.out X0.out.lt).at_ 7 _ rfl
            go_wp2
            go_ret
            exact ⟨by rw [HF.out]; rfl, P4_w.out⟩
        · have HQ2 : Hid ((U.contains 110 || decide (oR o = 0)) = true) := by
            show _ = _
            rw [HC2.out, Bool.true_or]
          obtain ⟨C3, hC3⟩ : ∃ b, U.contains 115 = b := ⟨_, rfl⟩
          have HC3 := Lib.hid hC3
          clear hC3
          have c_X0 := (X0.out.below P4_y0.out X0.out.lt).at_ 0 _ rfl
          have c_X0_1 := (X0.out.below P4_y0.out X0.out.lt).at_ 1 _ rfl
          have c_X0_2 := (X0.out.below P4_y0.out X0.out.lt).at_ 2 _ rfl
          have c_X0_3 := (X0.out.below P4_y0.out X0.out.lt).at_ 3 _ rfl
          have c_X0_4 := (X0.out.below P4_y0.out X0.out.lt).at_ 4 _ rfl
          have c_X0_5 := (X0.out.below P4_y0.out X0.out.lt).at_ 5 _ rfl
          have c_X0_6 := (X0.out.below P4_y0.out X0.out.lt).at_ 6 _ rfl
          have c_X0_7 := (X0.out.below P4_y0.out X0.out.lt).at_ 7 _ rfl
          go_wp2_with fail
          refine (rfInIs U 115 115 C3 (by decide) HC3.out W4 HUL.out).mono ?_
          rintro e W5 ⟨rfl, hb⟩
          have E5 := Lib.hid hb
          clear hb c_X0 c_X0_1 c_X0_2 c_X0_3 c_X0_4 c_X0_5 c_X0_6 c_X0_7
          have P5_w := Lib.hid (P4_w.out.trans (E5.out.mono P4_w.out.size))
          clear P4_w
          have P5_y0 := Lib.hid (P4_y0.out.trans (E5.out.mono P4_y0.out.size))
          clear P4_y0
          have P5_W1 := Lib.hid (P4_W1.out.trans (E5.out.mono P4_W1.out.size))
          clear P4_W1
          have P5_W2 := Lib.hid (P4_W2.out.trans (E5.out.mono P4_W2.out.size))
          clear P4_W2
          have P5_W3 := Lib.hid (E4.out.trans (E5.out.mono E4.out.size))
          cases C3
          · by_cases hb3 : oS o = 0
            · have HQ3 : Hid ((U.contains 115 || decide (oS o = 0)) = true) := by
                show _ = _
                rw [hb3, HC3.out]; simp
              have n3 : (oS o == 0) = true := by rw [hb3]; rfl
              clear hb3
              obtain ⟨C4, hC4⟩ : ∃ b, U.contains 116 = b := ⟨_, rfl⟩
              have HC4 := Lib.hid hC4
              clear hC4
              have c_X0 := (X0.out.below P5_y0.out X0.out.lt).at_ 0 _ rfl
              have c_X0_1 := (X0.out.below P5_y0.out X0.out.lt).at_ 1 _ rfl
              have c_X0_2 := (X0.out.below P5_y0.out X0.out.lt).at_ 2 _ rfl
              have c_X0_3 := (X0.out.below P5_y0.out X0.out.lt).at_ 3 _ rfl
              have c_X0_4 := (X0.out.below P5_y0.out X0.out.lt).at_ 4 _ rfl
              have c_X0_5 := (X0.out.below P5_y0.out X0.out.lt).at_ 5 _ rfl
              have c_X0_6 := (X0.out.below P5_y0.out X0.out.lt).at_ 6 _ rfl
              have c_X0_7 := (X0.out.below P5_y0.out X0.out.lt).at_ 7 _ rfl
              go_wp2_with fail
              refine (rfInIs U 116 116 C4 (by decide) HC4.out W5 HUL.out).mono ?_
              rintro e W6 ⟨rfl, hb⟩
              have E6 := Lib.hid hb
              clear hb n3 c_X0 c_X0_1 c_X0_2 c_X0_3 c_X0_4 c_X0_5 c_X0_6 c_X0_7
              have P6_w := Lib.hid (P5_w.out.trans (E6.out.mono P5_w.out.size))
              clear P5_w
              have P6_y0 := Lib.hid (P5_y0.out.trans (E6.out.mono P5_y0.out.size))
              clear P5_y0
              have P6_W1 := Lib.hid (P5_W1.out.trans (E6.out.mono P5_W1.out.size))
              clear P5_W1
              have P6_W2 := Lib.hid (P5_W2.out.trans (E6.out.mono P5_W2.out.size))
              clear P5_W2
              have P6_W3 := Lib.hid (P5_W3.out.trans (E6.out.mono P5_W3.out.size))
              clear P5_W3
              have P6_W4 := Lib.hid (E5.out.trans (E6.out.mono E5.out.size))
              cases C4
              · by_cases hb4 : oT o = 0
                · have HQ4 : Hid ((U.contains 116 || decide (oT o = 0)) = true) := by
                    show _ = _
                    rw [hb4, HC4.out]; simp
                  have n4 : (oT o == 0) = true := by rw [hb4]; rfl
                  clear hb4
                  have c_X0 := (X0.out.below P6_y0.out X0.out.lt).at_ 0 _ rfl
                  have c_X0_1 := (X0.out.below P6_y0.out X0.out.lt).at_ 1 _ rfl
                  have c_X0_2 := (X0.out.below P6_y0.out X0.out.lt).at_ 2 _ rfl
                  have c_X0_3 := (X0.out.below P6_y0.out X0.out.lt).at_ 3 _ rfl
                  have c_X0_4 := (X0.out.below P6_y0.out X0.out.lt).at_ 4 _ rfl
                  have c_X0_5 := (X0.out.below P6_y0.out X0.out.lt).at_ 5 _ rfl
                  have c_X0_6 := (X0.out.below P6_y0.out X0.out.lt).at_ 6 _ rfl
                  have c_X0_7 := (X0.out.below P6_y0.out X0.out.lt).at_ 7 _ rfl
                  have HF : Hid (B = true) := by
                    show _ = _
                    rw [← HB.out]
                    unfold mayO usedO
                    rw [HU.out, HQ0.out, HQ1.out, HQ2.out, HQ3.out, HQ4.out, HSZ.out]
                    rfl
                  go_wp2
                  go_ret
                  exact ⟨by rw [HF.out]; rfl, P6_w.out⟩
                · have HQ4 : Hid ((U.contains 116 || decide (oT o = 0)) = false) := by
                    show _ = _
                    rw [HC4.out, decide_eq_false hb4]; rfl
                  have n4 : (oT o == 0) = false := by rw [beq_eq_false_iff_ne]; exact hb4
                  clear hb4
                  have HF : Hid (B = false) := by
                    show _ = _
                    rw [← HB.out]
                    unfold mayO usedO
                    rw [HU.out, HQ4.out]
                    simp
                  have c_X0 := (X0.out.below P6_y0.out X0.out.lt).at_ 0 _ rfl
                  have c_X0_1 := (X0.out.below P6_y0.out X0.out.lt).at_ 1 _ rfl
                  have c_X0_2 := (X0.out.below P6_y0.out X0.out.lt).at_ 2 _ rfl
                  have c_X0_3 := (X0.out.below P6_y0.out X0.out.lt).at_ 3 _ rfl
                  have c_X0_4 := (X0.out.below P6_y0.out X0.out.lt).at_ 4 _ rfl
                  have c_X0_5 := (X0.out.below P6_y0.out X0.out.lt).at_ 5 _ rfl
                  have c_X0_6 := (X0.out.below P6_y0.out X0.out.lt).at_ 6 _ rfl
                  have c_X0_7 := (X0.out.below P6_y0.out X0.out.lt).at_ 7 _ rfl
                  go_wp2
                  go_ret
                  exact ⟨by rw [HF.out]; rfl, P6_w.out⟩
              · have HQ4 : Hid ((U.contains 116 || decide (oT o = 0)) = true) := by
                  show _ = _
                  rw [HC4.out, Bool.true_or]
                have c_X0 := (X0.out.below P6_y0.out X0.out.lt).at_ 0 _ rfl
                have c_X0_1 := (X0.out.below P6_y0.out X0.out.lt).at_ 1 _ rfl
                have c_X0_2 := (X0.out.below P6_y0.out X0.out.lt).at_ 2 _ rfl
                have c_X0_3 := (X0.out.below P6_y0.out X0.out.lt).at_ 3 _ rfl
                have c_X0_4 := (X0.out.below P6_y0.out X0.out.lt).at_ 4 _ rfl
                have c_X0_5 := (X0.out.below P6_y0.out X0.out.lt).at_ 5 _ rfl
                have c_X0_6 := (X0.out.below P6_y0.out X0.out.lt).at_ 6 _ rfl
                have c_X0_7 := (X0.out.below P6_y0.out X0.out.lt).at_ 7 _ rfl
                have HF : Hid (B = true) := by
                  show _ = _
                  rw [← HB.out]
                  unfold mayO usedO
                  rw [HU.out, HQ0.out, HQ1.out, HQ2.out, HQ3.out, HQ4.out, HSZ.out]
                  rfl
                go_wp2
                go_ret
                exact ⟨by rw [HF.out]; rfl, P6_w.out⟩
            · have HQ3 : Hid ((U.contains 115 || decide (oS o = 0)) = false) := by
                show _ = _
                rw [HC3.out, decide_eq_false hb3]; rfl
              have n3 : (oS o == 0) = false := by rw [beq_eq_false_iff_ne]; exact hb3
              clear hb3
              have HF : Hid (B = false) := by
                show _ = _
                rw [← HB.out]
                unfold mayO usedO
                rw [HU.out, HQ3.out]
                simp
              have c_X0 := (X0.out.below P5_y0.out X0.out.lt).at_ 0 _ rfl
              have c_X0_1 := (X0.out.below P5_y0.out X0.out.lt).at_ 1 _ rfl
              have c_X0_2 := (X0.out.below P5_y0.out X0.out.lt).at_ 2 _ rfl
              have c_X0_3 := (X0.out.below P5_y0.out X0.out.lt).at_ 3 _ rfl
              have c_X0_4 := (X0.out.below P5_y0.out X0.out.lt).at_ 4 _ rfl
              have c_X0_5 := (X0.out.below P5_y0.out X0.out.lt).at_ 5 _ rfl
              have c_X0_6 := (X0.out.below P5_y0.out X0.out.lt).at_ 6 _ rfl
              have c_X0_7 := (X0.out.below P5_y0.out X0.out.lt).at_ 7 _ rfl
              go_wp2
              go_ret
              exact ⟨by rw [HF.out]; rfl, P5_w.out⟩
          · have HQ3 : Hid ((U.contains 115 || decide (oS o = 0)) = true) := by
              show _ = _
              rw [HC3.out, Bool.true_or]
            obtain ⟨C4, hC4⟩ : ∃ b, U.contains 116 = b := ⟨_, rfl⟩
            have HC4 := Lib.hid hC4
            clear hC4
            have c_X0 := (X0.out.below P5_y0.out X0.out.lt).at_ 0 _ rfl
            have c_X0_1 := (X0.out.below P5_y0.out X0.out.lt).at_ 1 _ rfl
            have c_X0_2 := (X0.out.below P5_y0.out X0.out.lt).at_ 2 _ rfl
            have c_X0_3 := (X0.out.below P5_y0.out X0.out.lt).at_ 3 _ rfl
            have c_X0_4 := (X0.out.below P5_y0.out X0.out.lt).at_ 4 _ rfl
            have c_X0_5 := (X0.out.below P5_y0.out X0.out.lt).at_ 5 _ rfl
            have c_X0_6 := (X0.out.below P5_y0.out X0.out.lt).at_ 6 _ rfl
            have c_X0_7 := (X0.out.below P5_y0.out X0.out.lt).at_ 7 _ rfl
            go_wp2_with fail
            refine (rfInIs U 116 116 C4 (by decide) HC4.out W5 HUL.out).mono ?_
            rintro e W6 ⟨rfl, hb⟩
            have E6 := Lib.hid hb
            clear hb c_X0 c_X0_1 c_X0_2 c_X0_3 c_X0_4 c_X0_5 c_X0_6 c_X0_7
            have P6_w := Lib.hid (P5_w.out.trans (E6.out.mono P5_w.out.size))
            clear P5_w
            have P6_y0 := Lib.hid (P5_y0.out.trans (E6.out.mono P5_y0.out.size))
            clear P5_y0
            have P6_W1 := Lib.hid (P5_W1.out.trans (E6.out.mono P5_W1.out.size))
            clear P5_W1
            have P6_W2 := Lib.hid (P5_W2.out.trans (E6.out.mono P5_W2.out.size))
            clear P5_W2
            have P6_W3 := Lib.hid (P5_W3.out.trans (E6.out.mono P5_W3.out.size))
            clear P5_W3
            have P6_W4 := Lib.hid (E5.out.trans (E6.out.mono E5.out.size))
            cases C4
            · by_cases hb4 : oT o = 0
              · have HQ4 : Hid ((U.contains 116 || decide (oT o = 0)) = true) := by
                  show _ = _
                  rw [hb4, HC4.out]; simp
                have n4 : (oT o == 0) = true := by rw [hb4]; rfl
                clear hb4
                have c_X0 := (X0.out.below P6_y0.out X0.out.lt).at_ 0 _ rfl
                have c_X0_1 := (X0.out.below P6_y0.out X0.out.lt).at_ 1 _ rfl
                have c_X0_2 := (X0.out.below P6_y0.out X0.out.lt).at_ 2 _ rfl
                have c_X0_3 := (X0.out.below P6_y0.out X0.out.lt).at_ 3 _ rfl
                have c_X0_4 := (X0.out.below P6_y0.out X0.out.lt).at_ 4 _ rfl
                have c_X0_5 := (X0.out.below P6_y0.out X0.out.lt).at_ 5 _ rfl
                have c_X0_6 := (X0.out.below P6_y0.out X0.out.lt).at_ 6 _ rfl
                have c_X0_7 := (X0.out.below P6_y0.out X0.out.lt).at_ 7 _ rfl
                have HF : Hid (B = true) := by
                  show _ = _
                  rw [← HB.out]
                  unfold mayO usedO
                  rw [HU.out, HQ0.out, HQ1.out, HQ2.out, HQ3.out, HQ4.out, HSZ.out]
                  rfl
                go_wp2
                go_ret
                exact ⟨by rw [HF.out]; rfl, P6_w.out⟩
              · have HQ4 : Hid ((U.contains 116 || decide (oT o = 0)) = false) := by
                  show _ = _
                  rw [HC4.out, decide_eq_false hb4]; rfl
                have n4 : (oT o == 0) = false := by rw [beq_eq_false_iff_ne]; exact hb4
                clear hb4
                have HF : Hid (B = false) := by
                  show _ = _
                  rw [← HB.out]
                  unfold mayO usedO
                  rw [HU.out, HQ4.out]
                  simp
                have c_X0 := (X0.out.below P6_y0.out X0.out.lt).at_ 0 _ rfl
                have c_X0_1 := (X0.out.below P6_y0.out X0.out.lt).at_ 1 _ rfl
                have c_X0_2 := (X0.out.below P6_y0.out X0.out.lt).at_ 2 _ rfl
                have c_X0_3 := (X0.out.below P6_y0.out X0.out.lt).at_ 3 _ rfl
                have c_X0_4 := (X0.out.below P6_y0.out X0.out.lt).at_ 4 _ rfl
                have c_X0_5 := (X0.out.below P6_y0.out X0.out.lt).at_ 5 _ rfl
                have c_X0_6 := (X0.out.below P6_y0.out X0.out.lt).at_ 6 _ rfl
                have c_X0_7 := (X0.out.below P6_y0.out X0.out.lt).at_ 7 _ rfl
                go_wp2
                go_ret
                exact ⟨by rw [HF.out]; rfl, P6_w.out⟩
            · have HQ4 : Hid ((U.contains 116 || decide (oT o = 0)) = true) := by
                show _ = _
                rw [HC4.out, Bool.true_or]
              have c_X0 := (X0.out.below P6_y0.out X0.out.lt).at_ 0 _ rfl
              have c_X0_1 := (X0.out.below P6_y0.out X0.out.lt).at_ 1 _ rfl
              have c_X0_2 := (X0.out.below P6_y0.out X0.out.lt).at_ 2 _ rfl
              have c_X0_3 := (X0.out.below P6_y0.out X0.out.lt).at_ 3 _ rfl
              have c_X0_4 := (X0.out.below P6_y0.out X0.out.lt).at_ 4 _ rfl
              have c_X0_5 := (X0.out.below P6_y0.out X0.out.lt).at_ 5 _ rfl
              have c_X0_6 := (X0.out.below P6_y0.out X0.out.lt).at_ 6 _ rfl
              have c_X0_7 := (X0.out.below P6_y0.out X0.out.lt).at_ 7 _ rfl
              have HF : Hid (B = true) := by
                show _ = _
                rw [← HB.out]
                unfold mayO usedO
                rw [HU.out, HQ0.out, HQ1.out, HQ2.out, HQ3.out, HQ4.out, HSZ.out]
                rfl
              go_wp2
              go_ret
              exact ⟨by rw [HF.out]; rfl, P6_w.out⟩
      · have HQ1 : Hid ((U.contains 118 || decide (oV o = [])) = false) := by
          show _ = _
          rw [HC1.out, decide_eq_false hb1]; rfl
        have n1 : (oV o).isEmpty = false := by
          rw [Bool.eq_false_iff]
          intro h
          exact hb1 (List.isEmpty_iff.1 h)
        have HF : Hid (B = false) := by
          show _ = _
          rw [← HB.out]
          unfold mayO usedO
          rw [HU.out, HQ1.out]
          simp
        have c_X0 := (X0.out.below P3_y0.out X0.out.lt).at_ 0 _ rfl
        have c_X0_1 := (X0.out.below P3_y0.out X0.out.lt).at_ 1 _ rfl
        have c_X0_2 := (X0.out.below P3_y0.out X0.out.lt).at_ 2 _ rfl
        have c_X0_3 := (X0.out.below P3_y0.out X0.out.lt).at_ 3 _ rfl
        have c_X0_4 := (X0.out.below P3_y0.out X0.out.lt).at_ 4 _ rfl
        have c_X0_5 := (X0.out.below P3_y0.out X0.out.lt).at_ 5 _ rfl
        have c_X0_6 := (X0.out.below P3_y0.out X0.out.lt).at_ 6 _ rfl
        have c_X0_7 := (X0.out.below P3_y0.out X0.out.lt).at_ 7 _ rfl
        go_wp2
        go_ret
        exact ⟨by rw [HF.out]; rfl, P3_w.out⟩
    · have HQ1 : Hid ((U.contains 118 || decide (oV o = [])) = true) := by
        show _ = _
        rw [HC1.out, Bool.true_or]
      obtain ⟨C2, hC2⟩ : ∃ b, U.contains 110 = b := ⟨_, rfl⟩
      have HC2 := Lib.hid hC2
      clear hC2
      have c_X0 := (X0.out.below P3_y0.out X0.out.lt).at_ 0 _ rfl
      have c_X0_1 := (X0.out.below P3_y0.out X0.out.lt).at_ 1 _ rfl
      have c_X0_2 := (X0.out.below P3_y0.out X0.out.lt).at_ 2 _ rfl
      have c_X0_3 := (X0.out.below P3_y0.out X0.out.lt).at_ 3 _ rfl
      have c_X0_4 := (X0.out.below P3_y0.out X0.out.lt).at_ 4 _ rfl
      have c_X0_5 := (X0.out.below P3_y0.out X0.out.lt).at_ 5 _ rfl
      have c_X0_6 := (X0.out.below P3_y0.out X0.out.lt).at_ 6 _ rfl
      have c_X0_7 := (X0.out.below P3_y0.out X0.out.lt).at_ 7 _ rfl
      go_wp2_with fail
      refine (rfInIs U 110 110 C2 (by decide) HC2.out W3 HUL.out).mono ?_
      rintro e W4 ⟨rfl, hb⟩
      have E4 := Lib.hid hb
      clear hb c_X0 c_X0_1 c_X0_2 c_X0_3 c_X0_4 c_X0_5 c_X0_6 c_X0_7
      have P4_w := Lib.hid (P3_w.out.trans (E4.out.mono P3_w.out.size))
      clear P3_w
      have P4_y0 := Lib.hid (P3_y0.out.trans (E4.out.mono P3_y0.out.size))
      clear P3_y0
      have P4_W1 := Lib.hid (P3_W1.out.trans (E4.out.mono P3_W1.out.size))
      clear P3_W1
      have P4_W2 := Lib.hid (E3.out.trans (E4.out.mono E3.out.size))
      cases C2
      · by_cases hb2 : oR o = 0
        · have HQ2 : Hid ((U.contains 110 || decide (oR o = 0)) = true) := by
            show _ = _
            rw [hb2, HC2.out]; simp
          have n2 : (oR o == 0) = true := by rw [hb2]; rfl
          clear hb2
          obtain ⟨C3, hC3⟩ : ∃ b, U.contains 115 = b := ⟨_, rfl⟩
          have HC3 := Lib.hid hC3
          clear hC3
          have c_X0 := (X0.out.below P4_y0.out X0.out.lt).at_ 0 _ rfl
          have c_X0_1 := (X0.out.below P4_y0.out X0.out.lt).at_ 1 _ rfl
          have c_X0_2 := (X0.out.below P4_y0.out X0.out.lt).at_ 2 _ rfl
          have c_X0_3 := (X0.out.below P4_y0.out X0.out.lt).at_ 3 _ rfl
          have c_X0_4 := (X0.out.below P4_y0.out X0.out.lt).at_ 4 _ rfl
          have c_X0_5 := (X0.out.below P4_y0.out X0.out.lt).at_ 5 _ rfl
          have c_X0_6 := (X0.out.below P4_y0.out X0.out.lt).at_ 6 _ rfl
          have c_X0_7 := (X0.out.below P4_y0.out X0.out.lt).at_ 7 _ rfl
          go_wp2_with fail
          refine (rfInIs U 115 115 C3 (by decide) HC3.out W4 HUL.out).mono ?_
          rintro e W5 ⟨rfl, hb⟩
          have E5 := Lib.hid hb
          clear hb n2 c_X0 c_X0_1 c_X0_2 c_X0_3 c_X0_4 c_X0_5 c_X0_6 c_X0_7
          have P5_w := Lib.hid (P4_w.out.trans (E5.out.mono P4_w.out.size))
          clear P4_w
          have P5_y0 := Lib.hid (P4_y0.out.trans (E5.out.mono P4_y0.out.size))
          clear P4_y0
          have P5_W1 := Lib.hid (P4_W1.out.trans (E5.out.mono P4_W1.out.size))
          clear P4_W1
          have P5_W2 := Lib.hid (P4_W2.out.trans (E5.out.mono P4_W2.out.size))
          clear P4_W2
          have P5_W3 := Lib.hid (E4.out.trans (E5.out.mono E4.out.size))
          cases C3
          · by_cases hb3 : oS o = 0
            · have HQ3 : Hid ((U.contains 115 || decide (oS o = 0)) = true) := by
                show _ = _
                rw [hb3, HC3.out]; simp
              have n3 : (oS o == 0) = true := by rw [hb3]; rfl
              clear hb3
              obtain ⟨C4, hC4⟩ : ∃ b, U.contains 116 = b := ⟨_, rfl⟩
              have HC4 := Lib.hid hC4
              clear hC4
              have c_X0 := (X0.out.below P5_y0.out X0.out.lt).at_ 0 _ rfl
              have c_X0_1 := (X0.out.below P5_y0.out X0.out.lt).at_ 1 _ rfl
              have c_X0_2 := (X0.out.below P5_y0.out X0.out.lt).at_ 2 _ rfl
              have c_X0_3 := (X0.out.below P5_y0.out X0.out.lt).at_ 3 _ rfl
              have c_X0_4 := (X0.out.below P5_y0.out X0.out.lt).at_ 4 _ rfl
              have c_X0_5 := (X0.out.below P5_y0.out X0.out.lt).at_ 5 _ rfl
              have c_X0_6 := (X0.out.below P5_y0.out X0.out.lt).at_ 6 _ rfl
              have c_X0_7 := (X0.out.below P5_y0.out X0.out.lt).at_ 7 _ rfl
              go_wp2_with fail
              refine (rfInIs U 116 116 C4 (by decide) HC4.out W5 HUL.out).mono ?_
              rintro e W6 ⟨rfl, hb⟩
              have E6 := Lib.hid hb
              clear hb n3 c_X0 c_X0_1 c_X0_2 c_X0_3 c_X0_4 c_X0_5 c_X0_6 c_X0_7
              have P6_w := Lib.hid (P5_w.out.trans (E6.out.mono P5_w.out.size))
              clear P5_w
              have P6_y0 := Lib.hid (P5_y0.out.trans (E6.out.mono P5_y0.out.size))
              clear P5_y0
              have P6_W1 := Lib.hid (P5_W1.out.trans (E6.out.mono P5_W1.out.size))
              clear P5_W1
              have P6_W2 := Lib.hid (P5_W2.out.trans (E6.out.mono P5_W2.out.size))
              clear P5_W2
              have P6_W3 := Lib.hid (P5_W3.out.trans (E6.out.mono P5_W3.out.size))
              clear P5_W3
              have P6_W4 := Lib.hid (E5.out.trans (E6.out.mono E5.out.size))
              cases C4
              · by_cases hb4 : oT o = 0
                · have HQ4 : Hid ((U.contains 116 || decide (oT o = 0)) = true) := by
                    show _ = _
                    rw [hb4, HC4.out]; simp
                  have n4 : (oT o == 0) = true := by rw [hb4]; rfl
                  clear hb4
                  have c_X0 := (X0.out.below P6_y0.out X0.out.lt).at_ 0 _ rfl
                  have c_X0_1 := (X0.out.below P6_y0.out X0.out.lt).at_ 1 _ rfl
                  have c_X0_2 := (X0.out.below P6_y0.out X0.out.lt).at_ 2 _ rfl
                  have c_X0_3 := (X0.out.below P6_y0.out X0.out.lt).at_ 3 _ rfl
                  have c_X0_4 := (X0.out.below P6_y0.out X0.out.lt).at_ 4 _ rfl
                  have c_X0_5 := (X0.out.below P6_y0.out X0.out.lt).at_ 5 _ rfl
                  have c_X0_6 := (X0.out.below P6_y0.out X0.out.lt).at_ 6 _ rfl
                  have c_X0_7 := (X0.out.below P6_y0.out X0.out.lt).at_ 7 _ rfl
                  have HF : Hid (B = true) := by
                    show _ = _
                    rw [← HB.out]
                    unfold mayO usedO
                    rw [HU.out, HQ0.out, HQ1.out, HQ2.out, HQ3.out, HQ4.out, HSZ.out]
                    rfl
                  go_wp2
                  go_ret
                  exact ⟨by rw [HF.out]; rfl, P6_w.out⟩
                · have HQ4 : Hid ((U.contains 116 || decide (oT o = 0)) = false) := by
                    show _ = _
                    rw [HC4.out, decide_eq_false hb4]; rfl
                  have n4 : (oT o == 0) = false := by rw [beq_eq_false_iff_ne]; exact hb4
                  clear hb4
                  have HF : Hid (B = false) := by
                    show _ = _
                    rw [← HB.out]
                    unfold mayO usedO
                    rw [HU.out, HQ4.out]
                    simp
                  have c_X0 := (X0.out.below P6_y0.out X0.out.lt).at_ 0 _ rfl
                  have c_X0_1 := (X0.out.below P6_y0.out X0.out.lt).at_ 1 _ rfl
                  have c_X0_2 := (X0.out.below P6_y0.out X0.out.lt).at_ 2 _ rfl
                  have c_X0_3 := (X0.out.below P6_y0.out X0.out.lt).at_ 3 _ rfl
                  have c_X0_4 := (X0.out.below P6_y0.out X0.out.lt).at_ 4 _ rfl
                  have c_X0_5 := (X0.out.below P6_y0.out X0.out.lt).at_ 5 _ rfl
                  have c_X0_6 := (X0.out.below P6_y0.out X0.out.lt).at_ 6 _ rfl
                  have c_X0_7 := (X0.out.below P6_y0.out X0.out.lt).at_ 7 _ rfl
                  go_wp2
                  go_ret
                  exact ⟨by rw [HF.out]; rfl, P6_w.out⟩
              · have HQ4 : Hid ((U.contains 116 || decide (oT o = 0)) = true) := by
                  show _ = _
                  rw [HC4.out, Bool.true_or]
                have c_X0 := (X0.out.below P6_y0.out X0.out.lt).at_ 0 _ rfl
                have c_X0_1 := (X0.out.below P6_y0.out X0.out.lt).at_ 1 _ rfl
                have c_X0_2 := (X0.out.below P6_y0.out X0.out.lt).at_ 2 _ rfl
                have c_X0_3 := (X0.out.below P6_y0.out X0.out.lt).at_ 3 _ rfl
                have c_X0_4 := (X0.out.below P6_y0.out X0.out.lt).at_ 4 _ rfl
                have c_X0_5 := (X0.out.below P6_y0.out X0.out.lt).at_ 5 _ rfl
                have c_X0_6 := (X0.out.below P6_y0.out X0.out.lt).at_ 6 _ rfl
                have c_X0_7 := (X0.out.below P6_y0.out X0.out.lt).at_ 7 _ rfl
                have HF : Hid (B = true) := by
                  show _ = _
                  rw [← HB.out]
                  unfold mayO usedO
                  rw [HU.out, HQ0.out, HQ1.out, HQ2.out, HQ3.out, HQ4.out, HSZ.out]
                  rfl
                go_wp2
                go_ret
                exact ⟨by rw [HF.out]; rfl, P6_w.out⟩
            · have HQ3 : Hid ((U.contains 115 || decide (oS o = 0)) = false) := by
                show _ = _
                rw [HC3.out, decide_eq_false hb3]; rfl
              have n3 : (oS o == 0) = false := by rw [beq_eq_false_iff_ne]; exact hb3
              clear hb3
              have HF : Hid (B = false) := by
                show _ = _
                rw [← HB.out]
                unfold mayO usedO
                rw [HU.out, HQ3.out]
                simp
              have c_X0 := (X0.out.below P5_y0.out X0.out.lt).at_ 0 _ rfl
              have c_X0_1 := (X0.out.below P5_y0.out X0.out.lt).at_ 1 _ rfl
              have c_X0_2 := (X0.out.below P5_y0.out X0.out.lt).at_ 2 _ rfl
              have c_X0_3 := (X0.out.below P5_y0.out X0.out.lt).at_ 3 _ rfl
              have c_X0_4 := (X0.out.below P5_y0.out X0.out.lt).at_ 4 _ rfl
              have c_X0_5 := (X0.out.below P5_y0.out X0.out.lt).at_ 5 _ rfl
              have c_X0_6 := (X0.out.below P5_y0.out X0.out.lt).at_ 6 _ rfl
              have c_X0_7 := (X0.out.below P5_y0.out X0.out.lt).at_ 7 _ rfl
              go_wp2
              go_ret
              exact ⟨by rw [HF.out]; rfl, P5_w.out⟩
          · have HQ3 : Hid ((U.contains 115 || decide (oS o = 0)) = true) := by
              show _ = _
              rw [HC3.out, Bool.true_or]
            obtain ⟨C4, hC4⟩ : ∃ b, U.contains 116 = b := ⟨_, rfl⟩
            have HC4 := Lib.hid hC4
            clear hC4
            have c_X0 := (X0.out.below P5_y0.out X0.out.lt).at_ 0 _ rfl
            have c_X0_1 := (X0.out.below P5_y0.out X0.out.lt).at_ 1 _ rfl
            have c_X0_2 := (X0.out.below P5_y0.out X0.out.lt).at_ 2 _ rfl
            have c_X0_3 := (X0.out.below P5_y0.out X0.out.lt).at_ 3 _ rfl
            have c_X0_4 := (X0.out.below P5_y0.out X0.out.lt).at_ 4 _ rfl
            have c_X0_5 := (X0.out.below P5_y0.out X0.out.lt).at_ 5 _ rfl
            have c_X0_6 := (X0.out.below P5_y0.out X0.out.lt).at_ 6 _ rfl
            have c_X0_7 := (X0.out.below P5_y0.out X0.out.lt).at_ 7 _ rfl
            go_wp2_with fail
            refine (rfInIs U 116 116 C4 (by decide) HC4.out W5 HUL.out).mono ?_
            rintro e W6 ⟨rfl, hb⟩
            have E6 := Lib.hid hb
            clear hb c_X0 c_X0_1 c_X0_2 c_X0_3 c_X0_4 c_X0_5 c_X0_6 c_X0_7
            have P6_w := Lib.hid (P5_w.out.trans (E6.out.mono P5_w.out.size))
            clear P5_w
            have P6_y0 := Lib.hid (P5_y0.out.trans (E6.out.mono P5_y0.out.size))
            clear P5_y0
            have P6_W1 := Lib.hid (P5_W1.out.trans (E6.out.mono P5_W1.out.size))
            clear P5_W1
            have P6_W2 := Lib.hid (P5_W2.out.trans (E6.out.mono P5_W2.out.size))
            clear P5_W2
            have P6_W3 := Lib.hid (P5_W3.out.trans (E6.out.mono P5_W3.out.size))
            clear P5_W3
            have P6_W4 := Lib.hid (E5.out.trans (E6.out.mono E5.out.size))
            cases C4
            · by_cases hb4 : oT o = 0
              · have HQ4 : Hid ((U.contains 116 || decide (oT o = 0)) = true) := by
                  show _ = _
                  rw [hb4, HC4.out]; simp
                have n4 : (oT o == 0) = true := by rw [hb4]; rfl
                clear hb4
                have c_X0 := (X0.out.below P6_y0.out X0.out.lt).at_ 0 _ rfl
                have c_X0_1 := (X0.out.below P6_y0.out X0.out.lt).at_ 1 _ rfl
                have c_X0_2 := (X0.out.below P6_y0.out X0.out.lt).at_ 2 _ rfl
                have c_X0_3 := (X0.out.below P6_y0.out X0.out.lt).at_ 3 _ rfl
                have c_X0_4 := (X0.out.below P6_y0.out X0.out.lt).at_ 4 _ rfl
                have c_X0_5 := (X0.out.below P6_y0.out X0.out.lt).at_ 5 _ rfl
                have c_X0_6 := (X0.out.below P6_y0.out X0.out.lt).at_ 6 _ rfl
                have c_X0_7 := (X0.out.below P6_y0.out X0.out.lt).at_ 7 _ rfl
                have HF : Hid (B = true) := by
                  show _ = _
                  rw [← HB.out]
                  unfold mayO usedO
                  rw [HU.out, HQ0.out, HQ1.out, HQ2.out, HQ3.out, HQ4.out, HSZ.out]
                  rfl
                go_wp2
                go_ret
                exact ⟨by rw [HF.out]; rfl, P6_w.out⟩
              · have HQ4 : Hid ((U.contains 116 || decide (oT o = 0)) = false) := by
                  show _ = _
                  rw [HC4.out, decide_eq_false hb4]; rfl
                have n4 : (oT o == 0) = false := by rw [beq_eq_false_iff_ne]; exact hb4
                clear hb4
                have HF : Hid (B = false) := by
                  show _ = _
                  rw [← HB.out]
                  unfold mayO usedO
                  rw [HU.out, HQ4.out]
                  simp
                have c_X0 := (X0.out.below P6_y0.out X0.out.lt).at_ 0 _ rfl
                have c_X0_1 := (X0.out.below P6_y0.out X0.out.lt).at_ 1 _ rfl
                have c_X0_2 := (X0.out.below P6_y0.out X0.out.lt).at_ 2 _ rfl
                have c_X0_3 := (X0.out.below P6_y0.out X0.out.lt).at_ 3 _ rfl
                have c_X0_4 := (X0.out.below P6_y0.out X0.out.lt).at_ 4 _ rfl
                have c_X0_5 := (X0.out.below P6_y0.out X0.out.lt).at_ 5 _ rfl
                have c_X0_6 := (X0.out.below P6_y0.out X0.out.lt).at_ 6 _ rfl
                have c_X0_7 := (X0.out.below P6_y0.out X0.out.lt).at_ 7 _ rfl
                go_wp2
                go_ret
                exact ⟨by rw [HF.out]; rfl, P6_w.out⟩
            · have HQ4 : Hid ((U.contains 116 || decide (oT o = 0)) = true) := by
                show _ = _
                rw [HC4.out, Bool.true_or]
              have c_X0 := (X0.out.below P6_y0.out X0.out.lt).at_ 0 _ rfl
              have c_X0_1 := (X0.out.below P6_y0.out X0.out.lt).at_ 1 _ rfl
              have c_X0_2 := (X0.out.below P6_y0.out X0.out.lt).at_ 2 _ rfl
              have c_X0_3 := (X0.out.below P6_y0.out X0.out.lt).at_ 3 _ rfl
              have c_X0_4 := (X0.out.below P6_y0.out X0.out.lt).at_ 4 _ rfl
              have c_X0_5 := (X0.out.below P6_y0.out X0.out.lt).at_ 5 _ rfl
              have c_X0_6 := (X0.out.below P6_y0.out X0.out.lt).at_ 6 _ rfl
              have c_X0_7 := (X0.out.below P6_y0.out X0.out.lt).at_ 7 _ rfl
              have HF : Hid (B = true) := by
                show _ = _
                rw [← HB.out]
                unfold mayO usedO
                rw [HU.out, HQ0.out, HQ1.out, HQ2.out, HQ3.out, HQ4.out, HSZ.out]
                rfl
              go_wp2
              go_ret
              exact ⟨by rw [HF.out]; rfl, P6_w.out⟩
        · have HQ2 : Hid ((U.contains 110 || decide (oR o = 0)) = false) := by
            show _ = _
            rw [HC2.out, decide_eq_false hb2]; rfl
          have n2 : (oR o == 0) = false := by rw [beq_eq_false_iff_ne]; exact hb2
          clear hb2
          have HF : Hid (B = false) := by
            show _ = _
            rw [← HB.out]
            unfold mayO usedO
            rw [HU.out, HQ2.out]
            simp
          have c_X0 := (X0.out.below P4_y0.out X0.out.lt).at_ 0 _ rfl
          have c_X0_1 := (X0.out.below P4_y0.out X0.out.lt).at_ 1 _ rfl
          have c_X0_2 := (X0.out.below P4_y0.out X0.out.lt).at_ 2 _ rfl
          have c_X0_3 := (X0.out.below P4_y0.out X0.out.lt).at_ 3 _ rfl
          have c_X0_4 := (X0.out.below P4_y0.out X0.out.lt).at_ 4 _ rfl
          have c_X0_5 := (X0.out.below P4_y0.out X0.out.lt).at_ 5 _ rfl
          have c_X0_6 := (X0.out.below P4_y0.out X0.out.lt).at_ 6 _ rfl
          have c_X0_7 := (X0.out.below P4_y0.out X0.out.lt).at_ 7 _ rfl
          go_wp2
          go_ret
          exact ⟨by rw [HF.out]; rfl, P4_w.out⟩
      · have HQ2 : Hid ((U.contains 110 || decide (oR o = 0)) = true) := by
          show _ = _
          rw [HC2.out, Bool.true_or]
        obtain ⟨C3, hC3⟩ : ∃ b, U.contains 115 = b := ⟨_, rfl⟩
        have HC3 := Lib.hid hC3
        clear hC3
        have c_X0 := (X0.out.below P4_y0.out X0.out.lt).at_ 0 _ rfl
        have c_X0_1 := (X0.out.below P4_y0.out X0.out.lt).at_ 1 _ rfl
        have c_X0_2 := (X0.out.below P4_y0.out X0.out.lt).at_ 2 _ rfl
        have c_X0_3 := (X0.out.below P4_y0.out X0.out.lt).at_ 3 _ rfl
        have c_X0_4 := (X0.out.below P4_y0.out X0.out.lt).at_ 4 _ rfl
        have c_X0_5 := (X0.out.below P4_y0.out X0.out.lt).at_ 5 _ rfl
        have c_X0_6 := (X0.out.below P4_y0.out X0.out.lt).at_ 6 _ rfl
        have c_X0_7 := (X0.out.below P4_y0.out X0.out.lt).at_ 7 _ rfl
        go_wp2_with fail
        refine (rfInIs U 115 115 C3 (by decide) HC3.out W4 HUL.out).mono ?_
        rintro e W5 ⟨rfl, hb⟩
        have E5 := Lib.hid hb
        clear hb c_X0 c_X0_1 c_X0_2 c_X0_3 c_X0_4 c_X0_5 c_X0_6 c_X0_7
        have P5_w := Lib.hid (P4_w.out.trans (E5.out.mono P4_w.out.size))
        clear P4_w
        have P5_y0 := Lib.hid (P4_y0.out.trans (E5.out.mono P4_y0.out.size))
        clear P4_y0
        have P5_W1 := Lib.hid (P4_W1.out.trans (E5.out.mono P4_W1.out.size))
        clear P4_W1
        have P5_W2 := Lib.hid (P4_W2.out.trans (E5.out.mono P4_W2.out.size))
        clear P4_W2
        have P5_W3 := Lib.hid (E4.out.trans (E5.out.mono E4.out.size))
        cases C3
        · by_cases hb3 : oS o = 0
          · have HQ3 : Hid ((U.contains 115 || decide (oS o = 0)) = true) := by
              show _ = _
              rw [hb3, HC3.out]; simp
            have n3 : (oS o == 0) = true := by rw [hb3]; rfl
            clear hb3
            obtain ⟨C4, hC4⟩ : ∃ b, U.contains 116 = b := ⟨_, rfl⟩
            have HC4 := Lib.hid hC4
            clear hC4
            have c_X0 := (X0.out.below P5_y0.out X0.out.lt).at_ 0 _ rfl
            have c_X0_1 := (X0.out.below P5_y0.out X0.out.lt).at_ 1 _ rfl
            have c_X0_2 := (X0.out.below P5_y0.out X0.out.lt).at_ 2 _ rfl
            have c_X0_3 := (X0.out.below P5_y0.out X0.out.lt).at_ 3 _ rfl
            have c_X0_4 := (X0.out.below P5_y0.out X0.out.lt).at_ 4 _ rfl
            have c_X0_5 := (X0.out.below P5_y0.out X0.out.lt).at_ 5 _ rfl
            have c_X0_6 := (X0.out.below P5_y0.out X0.out.lt).at_ 6 _ rfl
            have c_X0_7 := (X0.out.below P5_y0.out X0.out.lt).at_ 7 _ rfl
            go_wp2_with fail
            refine (rfInIs U 116 116 C4 (by decide) HC4.out W5 HUL.out).mono ?_
            rintro e W6 ⟨rfl, hb⟩
            have E6 := Lib.hid hb
            clear hb n3 c_X0 c_X0_1 c_X0_2 c_X0_3 c_X0_4 c_X0_5 c_X0_6 c_X0_7
            have P6_w := Lib.hid (P5_w.out.trans (E6.out.mono P5_w.out.size))
            clear P5_w
            have P6_y0 := Lib.hid (P5_y0.out.trans (E6.out.mono P5_y0.out.size))
            clear P5_y0
            have P6_W1 := Lib.hid (P5_W1.out.trans (E6.out.mono P5_W1.out.size))
            clear P5_W1
            have P6_W2 := Lib.hid (P5_W2.out.trans (E6.out.mono P5_W2.out.size))
            clear P5_W2
            have P6_W3 := Lib.hid (P5_W3.out.trans (E6.out.mono P5_W3.out.size))
            clear P5_W3
            have P6_W4 := Lib.hid (E5.out.trans (E6.out.mono E5.out.size))
            cases C4
            · by_cases hb4 : oT o = 0
              · have HQ4 : Hid ((U.contains 116 || decide (oT o = 0)) = true) := by
                  show _ = _
                  rw [hb4, HC4.out]; simp
                have n4 : (oT o == 0) = true := by rw [hb4]; rfl
                clear hb4
                have c_X0 := (X0.out.below P6_y0.out X0.out.lt).at_ 0 _ rfl
                have c_X0_1 := (X0.out.below P6_y0.out X0.out.lt).at_ 1 _ rfl
                have c_X0_2 := (X0.out.below P6_y0.out X0.out.lt).at_ 2 _ rfl
                have c_X0_3 := (X0.out.below P6_y0.out X0.out.lt).at_ 3 _ rfl
                have c_X0_4 := (X0.out.below P6_y0.out X0.out.lt).at_ 4 _ rfl
                have c_X0_5 := (X0.out.below P6_y0.out X0.out.lt).at_ 5 _ rfl
                have c_X0_6 := (X0.out.below P6_y0.out X0.out.lt).at_ 6 _ rfl
                have c_X0_7 := (X0.out.below P6_y0.out X0.out.lt).at_ 7 _ rfl
                have HF : Hid (B = true) := by
                  show _ = _
                  rw [← HB.out]
                  unfold mayO usedO
                  rw [HU.out, HQ0.out, HQ1.out, HQ2.out, HQ3.out, HQ4.out, HSZ.out]
                  rfl
                go_wp2
                go_ret
                exact ⟨by rw [HF.out]; rfl, P6_w.out⟩
              · have HQ4 : Hid ((U.contains 116 || decide (oT o = 0)) = false) := by
                  show _ = _
                  rw [HC4.out, decide_eq_false hb4]; rfl
                have n4 : (oT o == 0) = false := by rw [beq_eq_false_iff_ne]; exact hb4
                clear hb4
                have HF : Hid (B = false) := by
                  show _ = _
                  rw [← HB.out]
                  unfold mayO usedO
                  rw [HU.out, HQ4.out]
                  simp
                have c_X0 := (X0.out.below P6_y0.out X0.out.lt).at_ 0 _ rfl
                have c_X0_1 := (X0.out.below P6_y0.out X0.out.lt).at_ 1 _ rfl
                have c_X0_2 := (X0.out.below P6_y0.out X0.out.lt).at_ 2 _ rfl
                have c_X0_3 := (X0.out.below P6_y0.out X0.out.lt).at_ 3 _ rfl
                have c_X0_4 := (X0.out.below P6_y0.out X0.out.lt).at_ 4 _ rfl
                have c_X0_5 := (X0.out.below P6_y0.out X0.out.lt).at_ 5 _ rfl
                have c_X0_6 := (X0.out.below P6_y0.out X0.out.lt).at_ 6 _ rfl
                have c_X0_7 := (X0.out.below P6_y0.out X0.out.lt).at_ 7 _ rfl
                go_wp2
                go_ret
                exact ⟨by rw [HF.out]; rfl, P6_w.out⟩
            · have HQ4 : Hid ((U.contains 116 || decide (oT o = 0)) = true) := by
                show _ = _
                rw [HC4.out, Bool.true_or]
              have c_X0 := (X0.out.below P6_y0.out X0.out.lt).at_ 0 _ rfl
              have c_X0_1 := (X0.out.below P6_y0.out X0.out.lt).at_ 1 _ rfl
              have c_X0_2 := (X0.out.below P6_y0.out X0.out.lt).at_ 2 _ rfl
              have c_X0_3 := (X0.out.below P6_y0.out X0.out.lt).at_ 3 _ rfl
              have c_X0_4 := (X0.out.below P6_y0.out X0.out.lt).at_ 4 _ rfl
              have c_X0_5 := (X0.out.below P6_y0.out X0.out.lt).at_ 5 _ rfl
              have c_X0_6 := (X0.out.below P6_y0.out X0.out.lt).at_ 6 _ rfl
              have c_X0_7 := (X0.out.below P6_y0.out X0.out.lt).at_ 7 _ rfl
              have HF : Hid (B = true) := by
                show _ = _
                rw [← HB.out]
                unfold mayO usedO
                rw [HU.out, HQ0.out, HQ1.out, HQ2.out, HQ3.out, HQ4.out, HSZ.out]
                rfl
              go_wp2
              go_ret
              exact ⟨by rw [HF.out]; rfl, P6_w.out⟩
          · have HQ3 : Hid ((U.contains 115 || decide (oS o = 0)) = false) := by
              show _ = _
              rw [HC3.out, decide_eq_false hb3]; rfl
            have n3 : (oS o == 0) = false := by rw [beq_eq_false_iff_ne]; exact hb3
            clear hb3
            have HF : Hid (B = false) := by
              show _ = _
              rw [← HB.out]
              unfold mayO usedO
              rw [HU.out, HQ3.out]
              simp
            have c_X0 := (X0.out.below P5_y0.out X0.out.lt).at_ 0 _ rfl
            have c_X0_1 := (X0.out.below P5_y0.out X0.out.lt).at_ 1 _ rfl
            have c_X0_2 := (X0.out.below P5_y0.out X0.out.lt).at_ 2 _ rfl
            have c_X0_3 := (X0.out.below P5_y0.out X0.out.lt).at_ 3 _ rfl
            have c_X0_4 := (X0.out.below P5_y0.out X0.out.lt).at_ 4 _ rfl
            have c_X0_5 := (X0.out.below P5_y0.out X0.out.lt).at_ 5 _ rfl
            have c_X0_6 := (X0.out.below P5_y0.out X0.out.lt).at_ 6 _ rfl
            have c_X0_7 := (X0.out.below P5_y0.out X0.out.lt).at_ 7 _ rfl
            go_wp2
            go_ret
            exact ⟨by rw [HF.out]; rfl, P5_w.out⟩
        · have HQ3 : Hid ((U.contains 115 || decide (oS o = 0)) = true) := by
            show _ = _
            rw [HC3.out, Bool.true_or]
          obtain ⟨C4, hC4⟩ : ∃ b, U.contains 116 = b := ⟨_, rfl⟩
          have HC4 := Lib.hid hC4
          clear hC4
          have c_X0 := (X0.out.below P5_y0.out X0.out.lt).at_ 0 _ rfl
          have c_X0_1 := (X0.out.below P5_y0.out X0.out.lt).at_ 1 _ rfl
          have c_X0_2 := (X0.out.below P5_y0.out X0.out.lt).at_ 2 _ rfl
          have c_X0_3 := (X0.out.below P5_y0.out X0.out.lt).at_ 3 _ rfl
          have c_X0_4 := (X0.out.below P5_y0.out X0.out.lt).at_ 4 _ rfl
          have c_X0_5 := (X0.out.below P5_y0.out X0.out.lt).at_ 5 _ rfl
          have c_X0_6 := (X0.out.below P5_y0.out X0.out.lt).at_ 6 _ rfl
          have c_X0_7 := (X0.out.below P5_y0.out X0.out.lt).at_ 7 _ rfl
          go_wp2_with fail
          refine (rfInIs U 116 116 C4 (by decide) HC4.out W5 HUL.out).mono ?_
          rintro e W6 ⟨rfl, hb⟩
          have E6 := Lib.hid hb
          clear hb c_X0 c_X0_1 c_X0_2 c_X0_3 c_X0_4 c_X0_5 c_X0_6 c_X0_7
          have P6_w := Lib.hid (P5_w.out.trans (E6.out.mono P5_w.out.size))
          clear P5_w
          have P6_y0 := Lib.hid (P5_y0.out.trans (E6.out.mono P5_y0.out.size))
          clear P5_y0
          have P6_W1 := Lib.hid (P5_W1.out.trans (E6.out.mono P5_W1.out.size))
          clear P5_W1
          have P6_W2 := Lib.hid (P5_W2.out.trans (E6.out.mono P5_W2.out.size))
          clear P5_W2
          have P6_W3 := Lib.hid (P5_W3.out.trans (E6.out.mono P5_W3.out.size))
          clear P5_W3
          have P6_W4 := Lib.hid (E5.out.trans (E6.out.mono E5.out.size))
          cases C4
          · by_cases hb4 : oT o = 0
            · have HQ4 : Hid ((U.contains 116 || decide (oT o = 0)) = true) := by
                show _ = _
                rw [hb4, HC4.out]; simp
              have n4 : (oT o == 0) = true := by rw [hb4]; rfl
              clear hb4
              have c_X0 := (X0.out.below P6_y0.out X0.out.lt).at_ 0 _ rfl
              have c_X0_1 := (X0.out.below P6_y0.out X0.out.lt).at_ 1 _ rfl
              have c_X0_2 := (X0.out.below P6_y0.out X0.out.lt).at_ 2 _ rfl
              have c_X0_3 := (X0.out.below P6_y0.out X0.out.lt).at_ 3 _ rfl
              have c_X0_4 := (X0.out.below P6_y0.out X0.out.lt).at_ 4 _ rfl
              have c_X0_5 := (X0.out.below P6_y0.out X0.out.lt).at_ 5 _ rfl
              have c_X0_6 := (X0.out.below P6_y0.out X0.out.lt).at_ 6 _ rfl
              have c_X0_7 := (X0.out.below P6_y0.out X0.out.lt).at_ 7 _ rfl
              have HF : Hid (B = true) := by
                show _ = _
                rw [← HB.out]
                unfold mayO usedO
                rw [HU.out, HQ0.out, HQ1.out, HQ2.out, HQ3.out, HQ4.out, HSZ.out]
                rfl
              go_wp2
              go_ret
              exact ⟨by rw [HF.out]; rfl, P6_w.out⟩
            · have HQ4 : Hid ((U.contains 116 || decide (oT o = 0)) = false) := by
                show _ = _
                rw [HC4.out, decide_eq_false hb4]; rfl
              have n4 : (oT o == 0) = false := by rw [beq_eq_false_iff_ne]; exact hb4
              clear hb4
              have HF : Hid (B = false) := by
                show _ = _
                rw [← HB.out]
                unfold mayO usedO
                rw [HU.out, HQ4.out]
                simp
              have c_X0 := (X0.out.below P6_y0.out X0.out.lt).at_ 0 _ rfl
              have c_X0_1 := (X0.out.below P6_y0.out X0.out.lt).at_ 1 _ rfl
              have c_X0_2 := (X0.out.below P6_y0.out X0.out.lt).at_ 2 _ rfl
              have c_X0_3 := (X0.out.below P6_y0.out X0.out.lt).at_ 3 _ rfl
              have c_X0_4 := (X0.out.below P6_y0.out X0.out.lt).at_ 4 _ rfl
              have c_X0_5 := (X0.out.below P6_y0.out X0.out.lt).at_ 5 _ rfl
              have c_X0_6 := (X0.out.below P6_y0.out X0.out.lt).at_ 6 _ rfl
              have c_X0_7 := (X0.out.below P6_y0.out X0.out.lt).at_ 7 _ rfl
              go_wp2
              go_ret
              exact ⟨by rw [HF.out]; rfl, P6_w.out⟩
          · have HQ4 : Hid ((U.contains 116 || decide (oT o = 0)) = true) := by
              show _ = _
              rw [HC4.out, Bool.true_or]
            have c_X0 := (X0.out.below P6_y0.out X0.out.lt).at_ 0 _ rfl
            have c_X0_1 := (X0.out.below P6_y0.out X0.out.lt).at_ 1 _ rfl
            have c_X0_2 := (X0.out.below P6_y0.out X0.out.lt).at_ 2 _ rfl
            have c_X0_3 := (X0.out.below P6_y0.out X0.out.lt).at_ 3 _ rfl
            have c_X0_4 := (X0.out.below P6_y0.out X0.out.lt).at_ 4 _ rfl
            have c_X0_5 := (X0.out.below P6_y0.out X0.out.lt).at_ 5 _ rfl
            have c_X0_6 := (X0.out.below P6_y0.out X0.out.lt).at_ 6 _ rfl
            have c_X0_7 := (X0.out.below P6_y0.out X0.out.lt).at_ 7 _ rfl
            have HF : Hid (B = true) := by
              show _ = _
              rw [← HB.out]
              unfold mayO usedO
              rw [HU.out, HQ0.out, HQ1.out, HQ2.out, HQ3.out, HQ4.out, HSZ.out]
              rfl
            go_wp2
            go_ret
            exact ⟨by rw [HF.out]; rfl, P6_w.out⟩
end Go.Proofs.Ytmlpiembglmggaa
