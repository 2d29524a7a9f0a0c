/-
  The statements on shelves: ShelfDrops.
-/
import Derived.Test.YtlpakfaoaodaiaaDoorTC
namespace Go.Proofs.YtlpakfaoaodaiaaDoor
open Go.RowKit

theorem gone_at (l : List Nd) (z : Int) (i : Nat) (hi : i < l.length) (h : ownB z (l.getD i nd0) = true) : (goneN (l.take i) z).length < (goneN l z).length ∧ (goneN l z).getD (goneN (l.take i) z).length [] = nP (l.getD i nd0) := by
  have e : goneN l z = goneN (l.take (i + 1)) z ++ goneN (l.drop (i + 1)) z := by
    unfold goneN
    rw [← List.map_append, ← List.filter_append, List.take_append_drop]
  rw [e, (dropS_snoc l z i hi).2, h]
  simp

set_option maxRecDepth 1000000 in
set_option maxHeartbeats 16000000 in
theorem drops_all (v : Value) (l : List Nd) (z : Int) (w : World) (hr : RdNd w.heap.size w v l) (_hb : ∀ n ∈ l, fitI (nR n) ∧ fitI (nO n)) : Calls Tryd.prog 7 #[.agg #[v], .int .i64 z] w (One (.bool true) w) := by
  clear _hb
  obtain ⟨A, cp, rfl, hcc, hmm⟩ := hr.shape
  unfold maxLen at hmm
  have HR := Lib.hid hr
  obtain ⟨n, hn⟩ : ∃ n, l.length = n := ⟨_, rfl⟩
  have HN := Lib.hid hn
  rw [hn] at HR hcc ⊢
  clear hr hn
  go_enter Tryd.func7, Tryd.ntmps7
  go_wp2_with (refine wpList_box_blk rfl 24 _ rfl [.slice A n cp] rfl ?_)
  intro y0 b1 b2 b3
  obtain ⟨gb0, hg⟩ : ∃ g, w.heap.size = g := ⟨_, rfl⟩
  have X0 := Lib.hid b1
  have EB0 := Lib.hid b3
  rw [hg] at X0 ⊢
  clear b1 b2 b3 hg
  have c_X0 := X0.out.cell 0
  go_wp2_with fail
  refine (few_any l _ y0 ((HR.out.below EB0.out).more EB0.out.size)).mono ?_
  rintro e W1 ⟨rfl, hb⟩
  have E1 := Lib.hid hb
  clear hb c_X0
  have P1_w := Lib.hid (EB0.out.trans (E1.out.mono EB0.out.size))
  cases hF : fewN l
  · clear hF
    go_wp2_with fail
    refine (alive9 W1).mono ?_
    rintro e W2 ⟨rfl, hb⟩
    have E2 := Lib.hid hb
    clear hb
    have P2_w := Lib.hid (P1_w.out.trans (E2.out.mono P1_w.out.size))
    clear P1_w
    have P2_y0 := Lib.hid (E1.out.trans (E2.out.mono E1.out.size))
    go_wp2
    go_ret
    exact ⟨rfl, P2_w.out⟩
  have HL := Lib.hid (few_len l hF)
  clear hF
  have c_X0 := (X0.out.below E1.out X0.out.lt).cell 0
  go_wp2_with fail
  refine (plain_any l _ W1 ((HR.out.below P1_w.out).more P1_w.out.size) (by have := HL.out; omega)).mono ?_
  rintro e W2 ⟨vp, rfl, hrd, hb⟩
  have E2 := Lib.hid hb
  clear hb c_X0
  have P2_w := Lib.hid (P1_w.out.trans (E2.out.mono P1_w.out.size))
  clear P1_w
  have P2_y0 := Lib.hid (E1.out.trans (E2.out.mono E1.out.size))
  have RP := Lib.hid hrd
  clear hrd
  go_wp2_with fail
  refine (rfRightN_any l vp W2 RP.out).mono ?_
  rintro e W3 ⟨rfl, hb⟩
  have E3 := Lib.hid hb
  clear hb
  have P3_w := Lib.hid (P2_w.out.trans (E3.out.mono P2_w.out.size))
  clear P2_w
  have P3_y0 := Lib.hid (P2_y0.out.trans (E3.out.mono P2_y0.out.size))
  clear P2_y0
  have P3_W1 := Lib.hid (E2.out.trans (E3.out.mono E2.out.size))
  cases hG : rightN l
  · clear hG
    go_wp2_with fail
    refine (alive9 W3).mono ?_
    rintro e W4 ⟨rfl, hb⟩
    have E4 := Lib.hid hb
    clear hb
    have P4_w := Lib.hid (P3_w.out.trans (E4.out.mono P3_w.out.size))
    clear P3_w
    have P4_y0 := Lib.hid (P3_y0.out.trans (E4.out.mono P3_y0.out.size))
    clear P3_y0
    have P4_W1 := Lib.hid (P3_W1.out.trans (E4.out.mono P3_W1.out.size))
    clear P3_W1
    have P4_W2 := Lib.hid (E3.out.trans (E4.out.mono E3.out.size))
    go_wp2
    go_ret
    exact ⟨rfl, P4_w.out⟩
  have HRP := Lib.hid ((rightN_iff l).1 hG)
  clear hG
  have HD := Lib.hid (right_drop l z HRP.out)
  have c_X0 := (X0.out.below P3_y0.out X0.out.lt).cell 0
  go_wp2_with fail
  refine (shDrop_any l z _ W3 ((HR.out.below P3_w.out).more P3_w.out.size) (by have := HL.out; omega)).mono ?_
  rintro e a4 ⟨vt, ug, rfl, hrd, hrs, hb⟩
  clear c_X0
  have HS := Lib.hid hrs
  clear hrs
  obtain ⟨L4, hl⟩ : ∃ q, dropS l z = q := ⟨_, rfl⟩
  obtain ⟨G4, hg4⟩ : ∃ q, goneN l z = q := ⟨_, rfl⟩
  rw [hl] at hrd HD
  rw [hg4] at HS HD
  have HL4 := Lib.hid hl
  have HG4 := Lib.hid hg4
  obtain ⟨At, ct, rfl, ht1, -⟩ := hrd.shape
  obtain ⟨Ag, cg, rfl, ht2, -⟩ := HS.out.shape
  obtain ⟨nt, hnt⟩ : ∃ q, L4.length = q := ⟨_, rfl⟩
  obtain ⟨ng, hng⟩ : ∃ q, G4.length = q := ⟨_, rfl⟩
  have HNT := Lib.hid hnt
  have HNG := Lib.hid hng
  rw [bas_length] at HS ht2 ⊢
  rw [hnt] at hrd ht1 ⊢
  rw [hng] at HS ht2 ⊢
  have hsum : nt + ng = n := by
    have h := HD.out.2.1
    rw [hnt, hng, HN.out] at h
    exact h
  have w1 : IntKind.i64.wrap ((nt : Int) + (ng : Int)) = (n : Int) := by
    have h := HL.out
    have h2 := HN.out
    rw [IntKind.wrap_i64]
    omega
  clear hl hg4 hnt hng ht1 ht2
  go_wp2_with (refine wpList_alloc_blk rfl 24 rfl [.slice none 0 0] zPS ?_)
  intro b4 a1 a2 a3
  obtain ⟨g4, hg⟩ : ∃ g, a4.heap.size = g := ⟨_, rfl⟩
  have AA := Lib.hid a1
  have EB := Lib.hid (hb.trans (a3.mono hb.size))
  have A3 := Lib.hid a3
  have hbg : W3.heap.size ≤ g4 := by have := hb.size; omega
  have hgs : g4 ≤ b4.heap.size := by omega
  have HG := Lib.hid hg
  have RR := Lib.hid hrd
  rw [hg] at AA A3 RR HS ⊢
  clear a1 a2 a3 hb hg hrd
  go_wp2_with (refine wpList_store_to rfl 24 _ _ rfl g4 [.slice At nt ct] [.slice none 0 0] 24 rfl rfl AA.out sPS rfl (slice_one _ _ _) ?_)
  intro W4 e1 e2 e3 e4
  have X5 := Lib.hid e1
  have E4 := Lib.hid (EB.out.trans (e3.mono hbg))
  have RT := Lib.hid (((RR.out.below A3.out).below e3).more (show g4 ≤ W4.heap.size by omega))
  have SG := Lib.hid (((HS.out.below A3.out).below e3).more (show g4 ≤ W4.heap.size by omega))
  clear e1 e2 e3 e4 AA EB A3 hbg hgs HG RR HS
  have P4_w := Lib.hid (P3_w.out.trans (E4.out.mono P3_w.out.size))
  clear P3_w
  have P4_y0 := Lib.hid (P3_y0.out.trans (E4.out.mono P3_y0.out.size))
  clear P3_y0
  have P4_W1 := Lib.hid (P3_W1.out.trans (E4.out.mono P3_W1.out.size))
  clear P3_W1
  have P4_W2 := Lib.hid (E3.out.trans (E4.out.mono E3.out.size))
  have c_X0 := (X0.out.below P4_y0.out X0.out.lt).cell 0
  have c_X5 := X5.out.cell 0
  go_wp2_with fail
  refine (plain_any L4 _ W4 RT.out (by have := HL.out; have := HNT.out; have := HN.out; omega)).mono ?_
  rintro e W5 ⟨vq, rfl, hrd, hb⟩
  have E5 := Lib.hid hb
  clear hb c_X0 c_X5
  have P5_w := Lib.hid (P4_w.out.trans (E5.out.mono P4_w.out.size))
  clear P4_w
  have P5_y0 := Lib.hid (P4_y0.out.trans (E5.out.mono P4_y0.out.size))
  clear P4_y0
  have P5_W1 := Lib.hid (P4_W1.out.trans (E5.out.mono P4_W1.out.size))
  clear P4_W1
  have P5_W2 := Lib.hid (P4_W2.out.trans (E5.out.mono P4_W2.out.size))
  clear P4_W2
  have P5_W3 := Lib.hid (E4.out.trans (E5.out.mono E4.out.size))
  have RQ := Lib.hid hrd
  clear hrd
  go_wp2_with fail
  refine (rfRight_yes L4 vq W5 RQ.out HD.out.1).mono ?_
  rintro e W6 ⟨rfl, hb⟩
  have E6 := Lib.hid hb
  clear hb
  have P6_w := Lib.hid (P5_w.out.trans (E6.out.mono P5_w.out.size))
  clear P5_w
  have P6_y0 := Lib.hid (P5_y0.out.trans (E6.out.mono P5_y0.out.size))
  clear P5_y0
  have P6_W1 := Lib.hid (P5_W1.out.trans (E6.out.mono P5_W1.out.size))
  clear P5_W1
  have P6_W2 := Lib.hid (P5_W2.out.trans (E6.out.mono P5_W2.out.size))
  clear P5_W2
  have P6_W3 := Lib.hid (P5_W3.out.trans (E6.out.mono P5_W3.out.size))
  clear P5_W3
  have P6_W4 := Lib.hid (E5.out.trans (E6.out.mono E5.out.size))
  have ZX0 := Lib.hid (X0.out.below P6_y0.out X0.out.lt)
  have ZX5 := Lib.hid (X5.out.below P6_W4.out X5.out.lt)
  have ZHR := Lib.hid ((HR.out.below P6_w.out).more P6_w.out.size)
  have ZRT := Lib.hid ((RT.out.below P6_W4.out).more P6_W4.out.size)
  have ZSG := Lib.hid ((SG.out.below P6_W4.out).more P6_W4.out.size)
  have HBB := Lib.hid (P6_w.out)
  have cZ := ZX0.out.cell 0
  clear w1
  go_wp2
  go_loopw [7, 8] (fun kk x wr => ∃ i : Nat, i ≤ n ∧ x = .int .i64 (i : Int) ∧ kk = .int .i64 (((goneN (l.take i) z).length : Nat) : Int) ∧ Hid (Below W6.heap.size W6 wr)) (fun _ x _ => n - (intOf x).toNat)
  case atStart => exact ⟨0, by omega, rfl, rfl, Below.refl _ _⟩
  case round =>
    obtain ⟨i, hi, rfl, rfl, HW⟩ := hrel
    clear cZ
    have cZ := (ZX0.out.below HW.out ZX0.out.lt).cell 0
    obtain ⟨k, hk⟩ : ∃ k, (goneN (l.take i) z).length = k := ⟨_, rfl⟩
    rw [hk]
    by_cases hi2 : i < n
    rotate_left
    · have hE : i = n := by omega
      subst hE
      clear hk
      go_wp2_with fail
      refine (alive9 wr).mono ?_
      rintro e wz ⟨rfl, hb⟩
      have HZ := Lib.hid (HBB.out.trans ((HW.out.trans (hb.mono HW.out.size)).mono HBB.out.size))
      clear hb cZ
      go_wp2
      go_ret
      exact ⟨rfl, HZ.out⟩
    have HK := Lib.hid hk
    clear hk
    have zi : (i : Int) < (n : Int) := by omega
    obtain ⟨a, hA, q0, q1, q2, q3⟩ := (ZHR.out.below HW.out).at_ i (by rw [HN.out]; exact hi2)
    subst hA
    have HGA := Lib.hid (gone_at l z i (by rw [HN.out]; exact hi2))
    have HSN := Lib.hid ((dropS_snoc l z i (by rw [HN.out]; exact hi2)).2)
    have HMEM : Hid (l.getD i nd0 ∈ l) := by
      show _ ∈ _
      rw [List.getD_eq_getElem?_getD, List.getElem?_eq_getElem (by rw [HN.out]; exact hi2)]
      exact List.getElem_mem _
    obtain ⟨y, hy⟩ : ∃ y, l.getD i nd0 = y := ⟨_, rfl⟩
    rw [hy] at q0 q1 q2 q3 HGA HSN HMEM
    rw [HK.out, HG4.out] at HGA
    clear hy
    go_wp2_with (refine wpList_alloc_blk rfl 53 rfl (ndc nd0) zPN ?_)
    intro rb1 a1 a2 a3
    obtain ⟨rg1, hg⟩ : ∃ g, wr.heap.size = g := ⟨_, rfl⟩
    have AA := Lib.hid a1
    have EB := Lib.hid a3
    have hbg : wr.heap.size ≤ rg1 := by omega
    have EC := Lib.hid (show Below wr.heap.size wr rb1 from a3)
    rw [hg] at AA ⊢
    clear a1 a2 a3 hg EB q0 q1 q2 q3 cZ
    go_wp2_with (refine wpList_store_to rfl 53 _ _ rfl rg1 (ndc y) (ndc nd0) 53 rfl rfl AA.out sPN rfl (ndc_one _) ?_)
    intro rW1 e1 e2 e3 e4
    have XY := Lib.hid e1
    have rE1 := Lib.hid (EC.out.trans (e3.mono hbg))
    clear e1 e2 e3 e4 AA EC hbg
    have rP1_W6 := Lib.hid (HW.out.trans (rE1.out.mono HW.out.size))
    obtain ⟨yp, hyp⟩ : ∃ q, nP y = q := ⟨_, rfl⟩
    obtain ⟨yo, hyo⟩ : ∃ q, nO y = q := ⟨_, rfl⟩
    have HYP := Lib.hid hyp
    have HYO := Lib.hid hyo
    clear hyp hyo
    have d0 := XY.out.at_ 0 _ rfl
    have d3 := XY.out.at_ 3 _ rfl
    rw [HYP.out] at d0
    rw [HYO.out] at d3
    have c_ZX5 := (ZX5.out.below rP1_W6.out ZX5.out.lt).cell 0
    have c_ZX0 := (ZX0.out.below rP1_W6.out ZX0.out.lt).cell 0
    obtain ⟨ee, hee⟩ : ∃ q, getE L4 yp = q := ⟨_, rfl⟩
    have HEE := Lib.hid hee
    clear hee
    go_wp2_with fail
    refine (shGet_any L4 yp _ rW1 ((ZRT.out.below rP1_W6.out).more rP1_W6.out.size)).mono ?_
    rintro e ra2 ⟨rfl, hb⟩
    clear d0 d3 c_ZX5 c_ZX0
    obtain ⟨ny, hx⟩ : ∃ q, getS L4 yp = q := ⟨_, rfl⟩
    rw [hx, HEE.out]
    clear hx
    go_wp2_with (refine wpList_alloc_blk rfl 53 rfl (ndc nd0) zPN ?_)
    intro rb2 a1 a2 a3
    obtain ⟨rg2, hg⟩ : ∃ g, ra2.heap.size = g := ⟨_, rfl⟩
    have AA := Lib.hid a1
    have EB := Lib.hid (hb.trans (a3.mono hb.size))
    have A3 := Lib.hid a3
    have hbg : rW1.heap.size ≤ rg2 := by have := hb.size; omega
    have hgs : rg2 ≤ rb2.heap.size := by omega
    have HG := Lib.hid hg
    rw [hg] at AA A3 ⊢
    clear a1 a2 a3 hb hg
    go_wp2_with (refine wpList_store_to rfl 53 _ _ rfl rg2 (ndc ny) (ndc nd0) 53 rfl rfl AA.out sPN rfl (ndc_one _) ?_)
    intro rW2 e1 e2 e3 e4
    have XQ := Lib.hid e1
    have rE2 := Lib.hid (EB.out.trans (e3.mono hbg))
    clear e1 e2 e3 e4 AA EB A3 hbg hgs HG
    have rP2_W6 := Lib.hid (rP1_W6.out.trans (rE2.out.mono rP1_W6.out.size))
    clear rP1_W6
    have rP2_wr := Lib.hid (rE1.out.trans (rE2.out.mono rE1.out.size))
    cases ho : ownB z y
    · have h0 := HD.out.2.2.1 y HMEM.out ho
      rw [HYP.out, HEE.out] at h0
      subst h0
      have HS2 : Hid ((goneN (l.take (i + 1)) z).length = k) := by
        show _ = _
        rw [HSN.out, ho]
        simp [HK.out]
      have HF : Hid (z ≤ 0 ∨ ((yo != z) = true ∧ ¬ z ≤ 0)) := by
        show _ ∨ _
        unfold ownB at ho
        rw [HYO.out] at ho
        by_cases hz : z ≤ 0
        · exact .inl hz
        · right
          have hz2 : 0 < z := by omega
          simp [hz2] at ho
          exact ⟨by rw [bne_iff_ne]; exact ho, hz⟩
      clear ho
      rcases HF.out with hz | ⟨hz, hz2⟩
      all_goals
        have d0 := (XY.out.below rE2.out XY.out.lt).at_ 0 _ rfl
        have d3 := (XY.out.below rE2.out XY.out.lt).at_ 3 _ rfl
        rw [HYP.out] at d0
        rw [HYO.out] at d3
        have c_ZX0 := (ZX0.out.below rP2_W6.out ZX0.out.lt).cell 0
        go_wp2
        go_roundw
        case rel => exact ⟨i + 1, by omega, by go_num, by rw [HS2.out], rP2_W6.out⟩
        case measure => simp [intOf]; omega
    · have h0 := HD.out.2.2.2 y HMEM.out ho
      rw [HYP.out, HEE.out] at h0
      have HKN := Lib.hid h0.2
      obtain ⟨hka, hkb⟩ := HGA.out ho
      have h6 := h0.1
      subst h6
      clear h0
      rw [HYP.out] at hkb
      have HS2 : Hid ((goneN (l.take (i + 1)) z).length = k + 1) := by
        show _ = _
        rw [HSN.out, ho]
        simp [HK.out]
      have HOZ : Hid (0 < z ∧ yo = z) := by
        show _ ∧ _
        unfold ownB at ho
        rw [HYO.out] at ho
        simpa using ho
      clear ho
      have hz1 : ¬ z ≤ 0 := by have := HOZ.out.1; omega
      have hzo := HOZ.out.2
      subst hzo
      have hzz : (yo != yo) = false := by simp
      have hpp : (yp != yp) = false := by simp
      have hkn : k < ng := by rw [← HNG.out]; exact hka
      have hkz : ¬ (ng : Int) ≤ (k : Int) := by omega
      have hkz2 : (k : Int) < (ng : Int) := by omega
      obtain ⟨ag, hAg, t0⟩ := ((ZSG.out.below rP2_W6.out).more rP2_W6.out.size).at_ k (by rw [bas_length, HNG.out]; exact hkn)
      subst hAg
      rw [bas_at G4 k (by rw [HNG.out]; exact hkn) yp hkb] at t0
      change _ = some (txt yp) at t0
      clear hka hkb
      have d0 := (XY.out.below rE2.out XY.out.lt).at_ 0 _ rfl
      have d3 := (XY.out.below rE2.out XY.out.lt).at_ 3 _ rfl
      rw [HYP.out] at d0
      rw [HYO.out] at d3
      have c_ZX0 := (ZX0.out.below rP2_W6.out ZX0.out.lt).cell 0
      go_wp2
      refine wp_region_quiet_lit (by kernel_rfl) (by kernel_rfl) ?_
      repeat (first | go_big_quiet_step (fail) | quiet_step (fail))
      refine wpQuiet_nil ?_
      intro _ hw'
      obtain ⟨nq, hw''⟩ := hw'
      subst hw''
      have rE3 : Hid (Below rW2.heap.size rW2 (rW2.drewN nq)) := Below.drewN' (Below.refl _ _)
      obtain ⟨rW3, hwq⟩ : ∃ q, rW2.drewN nq = q := ⟨_, rfl⟩
      rw [hwq] at rE3 ⊢
      clear hwq t0 d0 d3 c_ZX0
      have rP3_W6 := Lib.hid (rP2_W6.out.trans (rE3.out.mono rP2_W6.out.size))
      clear rP2_W6
      have rP3_wr := Lib.hid (rP2_wr.out.trans (rE3.out.mono rP2_wr.out.size))
      clear rP2_wr
      have rP3_rW1 := Lib.hid (rE2.out.trans (rE3.out.mono rE2.out.size))
      have d0 := (XY.out.below rP3_rW1.out XY.out.lt).at_ 0 _ rfl
      have d3 := (XY.out.below rP3_rW1.out XY.out.lt).at_ 3 _ rfl
      rw [HYP.out] at d0
      rw [HYO.out] at d3
      have c_ZX0 := (ZX0.out.below rP3_W6.out ZX0.out.lt).cell 0
      go_wp2_with fail
      refine (shList_any l yp _ rW3 ((ZHR.out.below rP3_W6.out).more rP3_W6.out.size) (by have := HL.out; omega)).mono ?_
      rintro e rW4 ⟨u9, rfl, ho, hb⟩
      have rE4 := Lib.hid hb
      clear hb d0 d3 c_ZX0
      have rP4_W6 := Lib.hid (rP3_W6.out.trans (rE4.out.mono rP3_W6.out.size))
      clear rP3_W6
      have rP4_wr := Lib.hid (rP3_wr.out.trans (rE4.out.mono rP3_wr.out.size))
      clear rP3_wr
      have rP4_rW1 := Lib.hid (rP3_rW1.out.trans (rE4.out.mono rP3_rW1.out.size))
      clear rP3_rW1
      have rP4_rW2 := Lib.hid (rE3.out.trans (rE4.out.mono rE3.out.size))
      have hy0 : getE l yp = 0 := by
        rw [← HYP.out]
        exact getE_yes l _ (HRP.out.path y HMEM.out) (nodeN_mem l HRP.out.order y HMEM.out).1
      have hl0 : listS l yp = [] := by
        unfold listS
        rw [if_pos hy0]
        exact HKN.out
      rw [hl0] at ho
      rw [hy0]
      obtain ⟨A9, c9, rfl, -, -⟩ := ho.rd.shape
      clear ho hy0 hl0
      rw [show (bas []).length = 0 from rfl]
      have wk : IntKind.i64.wrap ((k : Int) + 1) = (k : Int) + 1 := by
        have h := HL.out
        have h2 := HN.out
        rw [IntKind.wrap_i64]
        omega
      go_wp2
      go_roundw
      case rel => exact ⟨i + 1, by omega, by go_num, by rw [HS2.out]; go_num, rP4_W6.out⟩
      case measure => simp [intOf]; omega
end Go.Proofs.YtlpakfaoaodaiaaDoor
