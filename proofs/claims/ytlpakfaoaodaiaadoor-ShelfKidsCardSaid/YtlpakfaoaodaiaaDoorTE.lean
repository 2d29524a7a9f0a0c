/-
  The statements on shelves: ShelfKids.
-/
import Derived.Test.YtlpakfaoaodaiaaDoorTD
namespace Go.Proofs.YtlpakfaoaodaiaaDoor
open Go.RowKit

theorem geq_less (a b : List UInt8) (h : lessB a b = true) (w : World) : (binOp .geq 9 (txt a) (txt b)).run Tryd.prog w = .ok (.bool false) w := by
  have e : binOp .geq 9 (txt a) (txt b) = pure (.bool !(Op.bytesLess (⟨a.toArray⟩ : ByteArray).toList (⟨b.toArray⟩ : ByteArray).toList)) := by simp [binOp, Op.stringOp]
  rw [e, toList_txt, toList_txt, ← lessB_eq, h]
  rfl

set_option maxRecDepth 1000000 in
set_option maxHeartbeats 16000000 in
theorem kids_all (v : Value) (l : List Nd) (x : List UInt8) (w : World) (hr : RdNd w.heap.size w v l) (_hb : ∀ n ∈ l, fitI (nR n) ∧ fitI (nO n)) : Calls Tryd.prog 8 #[.agg #[v], txt x] w (One (.bool true) w) := by
  clear _hb
  obtain ⟨A, cp, rfl, hcc, hmm⟩ := hr.shape
  unfold maxLen at hmm
  have HR := Lib.hid hr
  obtain ⟨n, hn⟩ : ∃ n, l.length = n := ⟨_, rfl⟩
  have HN := Lib.hid hn
  rw [hn] at HR hcc ⊢
  obtain ⟨m, hm⟩ : ∃ m, x.length = m := ⟨_, rfl⟩
  have hsz : (⟨x.toArray⟩ : ByteArray).size = m := hm
  clear hr hn hm
  go_enter Tryd.func8, Tryd.ntmps8
  go_wp2_with (refine wpList_box_blk rfl 24 _ rfl [.slice A n cp] rfl ?_)
  intro y0 b1 b2 b3
  obtain ⟨gb0, hg⟩ : ∃ g, w.heap.size = g := ⟨_, rfl⟩
  have X0 := Lib.hid b1
  have EB0 := Lib.hid b3
  rw [hg] at X0 ⊢
  clear b1 b2 b3 hg
  have c_X0 := X0.out.cell 0
  go_wp2_with fail
  refine (few_any l _ y0 ((HR.out.below EB0.out).more EB0.out.size)).mono ?_
  rintro e W1 ⟨rfl, hb⟩
  have E1 := Lib.hid hb
  clear hb c_X0
  have P1_w := Lib.hid (EB0.out.trans (E1.out.mono EB0.out.size))
  cases hF : fewN l
  · clear hF
    go_wp2_with fail
    refine (alive9 W1).mono ?_
    rintro e W2 ⟨rfl, hb⟩
    have E2 := Lib.hid hb
    clear hb
    have P2_w := Lib.hid (P1_w.out.trans (E2.out.mono P1_w.out.size))
    clear P1_w
    have P2_y0 := Lib.hid (E1.out.trans (E2.out.mono E1.out.size))
    go_wp2
    go_ret
    exact ⟨rfl, P2_w.out⟩
  have HL := Lib.hid (few_len l hF)
  clear hF
  have c_X0 := (X0.out.below E1.out X0.out.lt).cell 0
  go_wp2_with fail
  refine (plain_any l _ W1 ((HR.out.below P1_w.out).more P1_w.out.size) (by have := HL.out; omega)).mono ?_
  rintro e W2 ⟨vp, rfl, hrd, hb⟩
  have E2 := Lib.hid hb
  clear hb c_X0
  have P2_w := Lib.hid (P1_w.out.trans (E2.out.mono P1_w.out.size))
  clear P1_w
  have P2_y0 := Lib.hid (E1.out.trans (E2.out.mono E1.out.size))
  have RP := Lib.hid hrd
  clear hrd
  go_wp2_with fail
  refine (rfRightN_any l vp W2 RP.out).mono ?_
  rintro e W3 ⟨rfl, hb⟩
  have E3 := Lib.hid hb
  clear hb
  have P3_w := Lib.hid (P2_w.out.trans (E3.out.mono P2_w.out.size))
  clear P2_w
  have P3_y0 := Lib.hid (P2_y0.out.trans (E3.out.mono P2_y0.out.size))
  clear P2_y0
  have P3_W1 := Lib.hid (E2.out.trans (E3.out.mono E2.out.size))
  cases hG : rightN l
  · clear hG
    go_wp2_with fail
    refine (alive9 W3).mono ?_
    rintro e W4 ⟨rfl, hb⟩
    have E4 := Lib.hid hb
    clear hb
    have P4_w := Lib.hid (P3_w.out.trans (E4.out.mono P3_w.out.size))
    clear P3_w
    have P4_y0 := Lib.hid (P3_y0.out.trans (E4.out.mono P3_y0.out.size))
    clear P3_y0
    have P4_W1 := Lib.hid (P3_W1.out.trans (E4.out.mono P3_W1.out.size))
    clear P3_W1
    have P4_W2 := Lib.hid (E3.out.trans (E4.out.mono E3.out.size))
    go_wp2
    go_ret
    exact ⟨rfl, P4_w.out⟩
  have HRP := Lib.hid ((rightN_iff l).1 hG)
  clear hG
  by_cases h11 : 1100 < (m : Int)
  · go_wp2_with fail
    refine (alive9 W3).mono ?_
    rintro e W4 ⟨rfl, hb⟩
    have E4 := Lib.hid hb
    clear hb
    have P4_w := Lib.hid (P3_w.out.trans (E4.out.mono P3_w.out.size))
    clear P3_w
    have P4_y0 := Lib.hid (P3_y0.out.trans (E4.out.mono P3_y0.out.size))
    clear P3_y0
    have P4_W1 := Lib.hid (P3_W1.out.trans (E4.out.mono P3_W1.out.size))
    clear P3_W1
    have P4_W2 := Lib.hid (E3.out.trans (E4.out.mono E3.out.size))
    go_wp2
    go_ret
    exact ⟨rfl, P4_w.out⟩
  have c_X0 := (X0.out.below P3_y0.out X0.out.lt).cell 0
  go_wp2_with fail
  refine (shList_any l x _ W3 ((HR.out.below P3_w.out).more P3_w.out.size) (by have := HL.out; omega)).mono ?_
  rintro e W4 ⟨ul, rfl, ho, hb⟩
  have E4 := Lib.hid hb
  clear hb c_X0
  have P4_w := Lib.hid (P3_w.out.trans (E4.out.mono P3_w.out.size))
  clear P3_w
  have P4_y0 := Lib.hid (P3_y0.out.trans (E4.out.mono P3_y0.out.size))
  clear P3_y0
  have P4_W1 := Lib.hid (P3_W1.out.trans (E4.out.mono P3_W1.out.size))
  clear P3_W1
  have P4_W2 := Lib.hid (E3.out.trans (E4.out.mono E3.out.size))
  obtain ⟨f, hf⟩ : ∃ q, getE l x = q := ⟨_, rfl⟩
  have HF := Lib.hid hf
  obtain ⟨K, hK⟩ : ∃ q, listS l x = q := ⟨_, rfl⟩
  have HK := Lib.hid hK
  rw [hK] at ho
  have hs := ho.rd
  obtain ⟨Ak, ck, rfl, hk1, -⟩ := hs.shape
  obtain ⟨kn, hkn⟩ : ∃ q, K.length = q := ⟨_, rfl⟩
  have HKN := Lib.hid hkn
  rw [bas_length] at hs hk1 ⊢
  rw [hkn] at hs hk1 ⊢
  have SK := Lib.hid hs
  rw [hf]
  clear ho hs hf hK hkn hk1
  have c_X0 := (X0.out.below P4_y0.out X0.out.lt).cell 0
  go_wp2_with fail
  refine (shGet_any l x _ W4 ((HR.out.below P4_w.out).more P4_w.out.size)).mono ?_
  rintro e a5 ⟨rfl, hb⟩
  clear c_X0
  obtain ⟨nx, hx⟩ : ∃ q, getS l x = q := ⟨_, rfl⟩
  rw [hx, HF.out]
  clear hx
  go_wp2_with (refine wpList_alloc_blk rfl 53 rfl (ndc nd0) zPN ?_)
  intro b5 a1 a2 a3
  obtain ⟨g5, hg⟩ : ∃ g, a5.heap.size = g := ⟨_, rfl⟩
  have AA := Lib.hid a1
  have EB := Lib.hid (hb.trans (a3.mono hb.size))
  have A3 := Lib.hid a3
  have hbg : W4.heap.size ≤ g5 := by have := hb.size; omega
  have hgs : g5 ≤ b5.heap.size := by omega
  have HG := Lib.hid hg
  rw [hg] at AA A3 ⊢
  clear a1 a2 a3 hb hg
  go_wp2_with (refine wpList_store_to rfl 53 _ _ rfl g5 (ndc nx) (ndc nd0) 53 rfl rfl AA.out sPN rfl (ndc_one _) ?_)
  intro W5 e1 e2 e3 e4
  have XN := Lib.hid e1
  have E5 := Lib.hid (EB.out.trans (e3.mono hbg))
  clear e1 e2 e3 e4 AA EB A3 hbg hgs HG
  have P5_w := Lib.hid (P4_w.out.trans (E5.out.mono P4_w.out.size))
  clear P4_w
  have P5_y0 := Lib.hid (P4_y0.out.trans (E5.out.mono P4_y0.out.size))
  clear P4_y0
  have P5_W1 := Lib.hid (P4_W1.out.trans (E5.out.mono P4_W1.out.size))
  clear P4_W1
  have P5_W2 := Lib.hid (P4_W2.out.trans (E5.out.mono P4_W2.out.size))
  clear P4_W2
  have P5_W3 := Lib.hid (E4.out.trans (E5.out.mono E4.out.size))
  have hff : ((f : Int) != (f : Int)) = false := by simp
  by_cases hf0 : f = 0
  rotate_left
  · have hfz : ((f : Int) != 0) = true := by rw [bne_iff_ne]; omega
    have hkz : kn = 0 := by
      rw [← HKN.out, ← HK.out]
      unfold listS
      rw [if_neg (by rw [HF.out]; exact hf0)]
      rfl
    subst hkz
    clear hf0
    go_wp2_with fail
    refine (alive9 W5).mono ?_
    rintro e W6 ⟨rfl, hb⟩
    have E6 := Lib.hid hb
    clear hb
    have P6_w := Lib.hid (P5_w.out.trans (E6.out.mono P5_w.out.size))
    clear P5_w
    have P6_y0 := Lib.hid (P5_y0.out.trans (E6.out.mono P5_y0.out.size))
    clear P5_y0
    have P6_W1 := Lib.hid (P5_W1.out.trans (E6.out.mono P5_W1.out.size))
    clear P5_W1
    have P6_W2 := Lib.hid (P5_W2.out.trans (E6.out.mono P5_W2.out.size))
    clear P5_W2
    have P6_W3 := Lib.hid (P5_W3.out.trans (E6.out.mono P5_W3.out.size))
    clear P5_W3
    have P6_W4 := Lib.hid (E5.out.trans (E6.out.mono E5.out.size))
    go_wp2
    go_ret
    exact ⟨rfl, P6_w.out⟩
  subst hf0
  rw [show ((0 : Nat) : Int) = 0 from rfl]
  have HKL : Hid (K = kidsN l x) := by
    show _ = _
    rw [← HK.out]
    unfold listS
    rw [if_pos HF.out]
  have HKF := Lib.hid (kids_facts l x HRP.out)
  rw [← HKL.out] at HKF
  have ZX0 := Lib.hid (X0.out.below P5_y0.out X0.out.lt)
  have ZHR := Lib.hid ((HR.out.below P5_w.out).more P5_w.out.size)
  have ZSK := Lib.hid ((SK.out.below E5.out).more E5.out.size)
  have HBB := Lib.hid (P5_w.out)
  have cZ := ZX0.out.cell 0
  go_wp2
  clear h11 hff
  go_loopw [9, 10] (fun kk y wr => ∃ i : Nat, i ≤ n ∧ y = .int .i64 (i : Int) ∧ kk = .int .i64 (((kidsN (l.take i) x).length : Nat) : Int) ∧ Hid (Below W5.heap.size W5 wr)) (fun _ y _ => n - (intOf y).toNat)
  case atStart => exact ⟨0, by omega, rfl, rfl, Below.refl _ _⟩
  case round =>
    obtain ⟨i, hi, rfl, rfl, HW⟩ := hrel
    clear cZ
    have cZ := (ZX0.out.below HW.out ZX0.out.lt).cell 0
    obtain ⟨k, hk⟩ : ∃ k, (kidsN (l.take i) x).length = k := ⟨_, rfl⟩
    rw [hk]
    have HKI := Lib.hid hk
    clear hk
    by_cases hi2 : i < n
    · have zi : (i : Int) < (n : Int) := by omega
      obtain ⟨a, hA, q0, -, -, -⟩ := (ZHR.out.below HW.out).at_ i (by rw [HN.out]; exact hi2)
      subst hA
      have HSN := Lib.hid (kidsN_snoc l x i (by rw [HN.out]; exact hi2))
      have HKL2 := Lib.hid (Nat.le_trans (kidsN_len (l.take i) x) (List.length_take_le i l))
      obtain ⟨y, hy⟩ : ∃ y, l.getD i nd0 = y := ⟨_, rfl⟩
      rw [hy] at q0 HSN
      clear hy
      obtain ⟨yp, hyp⟩ : ∃ q, nP y = q := ⟨_, rfl⟩
      have HYP := Lib.hid hyp
      rw [hyp] at q0
      clear hyp
      go_wp2_with fail
      refine (pxParent_any yp wr).mono ?_
      rintro e w2 ⟨rfl, hb⟩
      have HW2 := Lib.hid (HW.out.trans (hb.mono HW.out.size))
      clear hb q0 cZ
      have wk : IntKind.i64.wrap ((k : Int) + 1) = (k : Int) + 1 := by
        have h := HL.out
        have h2 := HN.out
        have h3 := HKL2.out
        have h4 := HKI.out
        rw [IntKind.wrap_i64]
        omega
      cases hkd : kidN x y
      · have HS2 : Hid ((kidsN (l.take (i + 1)) x).length = k) := by
          show _ = _
          rw [HSN.out, hkd]
          simp [HKI.out]
        by_cases h0 : parentE yp = 0
        · have h1 : (parentS yp == x) = false := by
            rw [beq_eq_false_iff_ne]
            intro e
            unfold kidN at hkd
            rw [HYP.out] at hkd
            simp [h0, e] at hkd
          rw [h0]
          obtain ⟨up, hup⟩ : ∃ up, parentS yp = up := ⟨_, rfl⟩
          rw [hup] at h1 ⊢
          clear hkd h0 hup
          go_wp2
          go_roundw
          case rel => exact ⟨i + 1, by omega, by go_num, by rw [HS2.out], HW2.out⟩
          case measure => simp [intOf]; omega
        · obtain ⟨f, hf⟩ : ∃ f, parentE yp = f := ⟨_, rfl⟩
          have h1 : ((f : Int) == 0) = false := by
            rw [beq_eq_false_iff_ne]
            omega
          rw [hf]
          clear hkd h0 hf
          go_wp2
          go_roundw
          case rel => exact ⟨i + 1, by omega, by go_num, by rw [HS2.out], HW2.out⟩
          case measure => simp [intOf]; omega
      · obtain ⟨k1, k2, k3⟩ := kidN_right x y hkd
        have HS2 : Hid ((kidsN (l.take (i + 1)) x).length = k + 1) := by
          show _ = _
          rw [HSN.out, hkd]
          simp [HKI.out]
        rw [HYP.out] at k2 k3
        rw [k2, k3]
        have hxx : (x == x) = true := by simp
        clear hkd k1 k2 k3
        go_wp2
        go_roundw
        case rel => exact ⟨i + 1, by omega, by go_num, by rw [HS2.out]; go_num, HW2.out⟩
        case measure => simp [intOf]; omega
    · have hE : i = n := by omega
      subst hE
      have HKE : Hid (k = kn) := by
        show _ = _
        rw [← HKI.out, ← HKN.out, HKL.out, List.take_of_length_le (by rw [HN.out]; exact Nat.le_refl _)]
      have hke := HKE.out
      subst hke
      clear HKE
      go_wp2
      go_loopw [13] (fun y wr => ∃ j : Nat, j ≤ k ∧ y = .int .i64 (j : Int) ∧ Hid (Below W5.heap.size W5 wr)) (fun y _ => k - (intOf y).toNat)
      case atStart => exact ⟨0, by omega, rfl, HW.out⟩
      case round =>
        obtain ⟨j, hj, rfl, HV⟩ := hrel
        clear cZ
        by_cases hj2 : j < k
        rotate_left
        · have hE : j = k := by omega
          subst hE
          go_wp2_with fail
          refine (alive9 wr).mono ?_
          rintro e wz ⟨rfl, hb⟩
          have HZ := Lib.hid (HBB.out.trans ((HV.out.trans (hb.mono HV.out.size)).mono HBB.out.size))
          clear hb
          go_wp2
          go_ret
          exact ⟨rfl, HZ.out⟩
        have zj : (j : Int) < (k : Int) := by omega
        obtain ⟨ak, hAk, t0⟩ := (ZSK.out.below HV.out).at_ j (by rw [bas_length, HKN.out]; exact hj2)
        subst hAk
        obtain ⟨y, hy⟩ : ∃ y, K.getD j [] = y := ⟨_, rfl⟩
        rw [bas_at K j (by rw [HKN.out]; exact hj2) y hy] at t0
        change _ = some (txt y) at t0
        have HJF := Lib.hid (HKF.out.1 j (by rw [HKN.out]; exact hj2))
        rw [hy] at HJF
        have HY := Lib.hid hy
        clear hy
        go_wp2_with fail
        refine (pxJoin_any x y wr (by have := HJF.out.2.2; omega)).mono ?_
        rintro e rW1 ⟨rfl, hb⟩
        have rE1 := Lib.hid hb
        clear hb t0
        have rP1_W5 := Lib.hid (HV.out.trans (rE1.out.mono HV.out.size))
        rw [HJF.out.1]
        obtain ⟨q9, hq9⟩ : ∃ q, joinS x y = q := ⟨_, rfl⟩
        have HQ9 : Hid (getE l q9 = 0) := by
          show _ = _
          rw [← hq9]
          exact HJF.out.2.1
        rw [hq9]
        clear hq9
        have c_ZX0 := (ZX0.out.below rP1_W5.out ZX0.out.lt).cell 0
        go_wp2_with fail
        refine (shGet_any l q9 _ rW1 ((ZHR.out.below rP1_W5.out).more rP1_W5.out.size)).mono ?_
        rintro e ra2 ⟨rfl, hb⟩
        clear c_ZX0
        obtain ⟨nq, hx⟩ : ∃ q, getS l q9 = q := ⟨_, rfl⟩
        rw [hx, HQ9.out]
        clear hx
        go_wp2_with (refine wpList_alloc_blk rfl 53 rfl (ndc nd0) zPN ?_)
        intro rb2 a1 a2 a3
        obtain ⟨rg2, hg⟩ : ∃ g, ra2.heap.size = g := ⟨_, rfl⟩
        have AA := Lib.hid a1
        have EB := Lib.hid (hb.trans (a3.mono hb.size))
        have A3 := Lib.hid a3
        have hbg : rW1.heap.size ≤ rg2 := by have := hb.size; omega
        have hgs : rg2 ≤ rb2.heap.size := by omega
        have HG := Lib.hid hg
        rw [hg] at AA A3 ⊢
        clear a1 a2 a3 hb hg
        go_wp2_with (refine wpList_store_to rfl 53 _ _ rfl rg2 (ndc nq) (ndc nd0) 53 rfl rfl AA.out sPN rfl (ndc_one _) ?_)
        intro rW2 e1 e2 e3 e4
        have XQ := Lib.hid e1
        have rE2 := Lib.hid (EB.out.trans (e3.mono hbg))
        clear e1 e2 e3 e4 AA EB A3 hbg hgs HG
        have rP2_W5 := Lib.hid (rP1_W5.out.trans (rE2.out.mono rP1_W5.out.size))
        clear rP1_W5
        have rP2_wr := Lib.hid (rE1.out.trans (rE2.out.mono rE1.out.size))
        have wj : IntKind.i64.wrap ((j : Int) + 1) = (j : Int) + 1 := by
          have h := HL.out
          have h2 := HKN.out
          have h3 := HKL.out
          have h4 := kidsN_len l x
          rw [← h3, h2] at h4
          rw [IntKind.wrap_i64]
          omega
        by_cases hj0 : j = 0
        · subst hj0
          go_wp2
          refine wp_region_quiet_lit (by kernel_rfl) (by kernel_rfl) ?_
          repeat (first | go_big_quiet_step (fail) | quiet_step (fail))
          refine wpQuiet_nil ?_
          intro _ hw'
          obtain ⟨nqq, hw''⟩ := hw'
          subst hw''
          have HV2 : Hid (Below W5.heap.size W5 (rW2.drewN nqq)) := Below.drewN' rP2_W5.out
          go_wp2
          go_roundw
          case rel => exact ⟨0 + 1, by omega, by go_num, HV2.out⟩
          case measure => simp [intOf]; omega
        · have hz0 : (0 : Int) < (j : Int) := by omega
          have hzn : 0 < j := by omega
          obtain ⟨j1, hj1⟩ : ∃ q, j = q + 1 := ⟨j - 1, by omega⟩
          have w2 : IntKind.i64.wrap ((j : Int) - 1) = (j1 : Int) := by
            have h := HL.out
            have h2 := HKN.out
            have h3 := HKL.out
            have h4 := kidsN_len l x
            rw [← h3, h2] at h4
            rw [IntKind.wrap_i64]
            omega
          have w3 : wrap64 ((j : Int) - 1) = (j1 : Int) := by
            have h := HL.out
            have h2 := HKN.out
            have h3 := HKL.out
            have h4 := kidsN_len l x
            rw [← h3, h2] at h4
            unfold wrap64
            omega
          have zj1 : (j1 : Int) < (k : Int) := by omega
          obtain ⟨ak2, hAk2, t1⟩ := ((ZSK.out.below rP2_W5.out).more rP2_W5.out.size).at_ j1 (by rw [bas_length, HKN.out]; omega)
          obtain rfl : ak = ak2 := Option.some.inj hAk2
          obtain ⟨y1, hy1⟩ : ∃ y, K.getD j1 [] = y := ⟨_, rfl⟩
          rw [bas_at K j1 (by rw [HKN.out]; omega) y1 hy1] at t1
          change _ = some (txt y1) at t1
          obtain ⟨ak3, hAk3, t2⟩ := ((ZSK.out.below rP2_W5.out).more rP2_W5.out.size).at_ j (by rw [bas_length, HKN.out]; exact hj2)
          obtain rfl : ak = ak3 := Option.some.inj hAk3
          rw [bas_at K j (by rw [HKN.out]; exact hj2) y HY.out] at t2
          change _ = some (txt y) at t2
          have hls := HKF.out.2 j1 (by rw [HKN.out]; omega)
          rw [← hj1, hy1, HY.out] at hls
          have hge := geq_less y1 y hls
          have hbl : Op.bytesLess y1 y = true := by
            rw [← lessB_eq]
            exact hls
          clear hls hy1 hAk2 hAk3 hj0 hj1
          go_wp2
          refine wp_region_quiet_lit (by kernel_rfl) (by kernel_rfl) ?_
          repeat (first | go_big_quiet_step (fail) | quiet_step (fail))
          refine wpQuiet_nil ?_
          intro _ hw'
          obtain ⟨nqq, hw''⟩ := hw'
          subst hw''
          have HV2 : Hid (Below W5.heap.size W5 (rW2.drewN nqq)) := Below.drewN' rP2_W5.out
          go_wp2
          go_roundw
          case rel => exact ⟨j + 1, by omega, by go_num, HV2.out⟩
          case measure => simp [intOf]; omega
end Go.Proofs.YtlpakfaoaodaiaaDoor
