/-
  The statements on tables: WatchOnce.
-/
import Derived.Test.YtmiomfonglmfjaaUU
namespace Go.Proofs.Ytmiomfonglmfjaa
open Go.RowKit
/-- The first one from place k on that touches a watch; -1, if none does. -/
def fromW (cs : List Ch) (w : Wa) (k : Nat) : Int := if firstW (cs.drop k) w < (cs.drop k).length then (k : Int) + (firstW (cs.drop k) w : Int) else -1
theorem fromW_end (cs : List Ch) (w : Wa) : fromW cs w cs.length = -1 := by
  unfold fromW
  rw [List.drop_length]
  rfl
theorem fromW_step (cs : List Ch) (w : Wa) (k : Nat) (hk : k < cs.length) : fromW cs w k = if touchB (cs.getD k ch0) w = true then (k : Int) else fromW cs w (k + 1) := by
  unfold fromW
  have e : cs.drop k = cs.getD k ch0 :: cs.drop (k + 1) := by
    rw [List.drop_eq_getElem_cons hk, List.getD_eq_getElem?_getD, List.getElem?_eq_getElem hk]
    rfl
  rw [e, firstW_cons]
  by_cases h : touchB (cs.getD k ch0) w = true
  · rw [if_pos h, if_pos h, if_pos (by simp)]
    simp
  · rw [if_neg h, if_neg h]
    by_cases h2 : firstW (cs.drop (k + 1)) w < (cs.drop (k + 1)).length
    · rw [if_pos h2, if_pos (by simp only [List.length_cons]; omega)]
      omega
    · rw [if_neg h2, if_neg (by simp only [List.length_cons]; omega)]
theorem fromW_zero (cs : List Ch) (w : Wa) : fromW cs w 0 = if firstW cs w < cs.length then (firstW cs w : Int) else -1 := by
  unfold fromW
  rw [List.drop_zero]
  split
  · omega
  · rfl
theorem manyW_snoc (l : List Ev) (w : Wa) (i : Nat) (hi : i < l.length) : manyW (l.take (i + 1)) w = manyW (l.take i) w + (if (l.getD i ev0).1 = w then 1 else 0) := by
  rw [take_snocW l ev0 i hi, manyW_append]
  congr 1
  obtain ⟨e, he⟩ : ∃ e, l.getD i ev0 = e := ⟨_, rfl⟩
  rw [he]
  unfold manyW
  by_cases h : e.1 = w
  · rw [if_pos h]; simp [h]
  · rw [if_neg h]; simp [h]
theorem manyW_le (l : List Ev) (w : Wa) (i : Nat) : manyW (l.take i) w ≤ i := Nat.le_trans List.countP_le_length (List.length_take_le i l)

set_option maxRecDepth 1000000 in
set_option maxHeartbeats 16000000 in
theorem onceW_all (v : Value) (l : List Wa) (u : Value) (cs : List Ch) (w : World) (hr : RdE WaK w.heap.size w v l) (hr' : RdE ChK w.heap.size w u cs) : Calls Try.prog 5 #[.agg #[v], u] w (One (.bool true) w) := by
  obtain ⟨A, cp, rfl, hc, hm⟩ := hr.shape
  obtain ⟨A2, cp2, rfl, hc2, hm2⟩ := hr'.shape
  unfold maxLen at hm hm2
  have HR := Lib.hid hr
  have HC := Lib.hid hr'
  obtain ⟨n, hn⟩ : ∃ n, l.length = n := ⟨_, rfl⟩
  obtain ⟨m, hk⟩ : ∃ n, cs.length = n := ⟨_, rfl⟩
  have HN := Lib.hid hn
  have HM := Lib.hid hk
  obtain ⟨v, hv⟩ : ∃ q, Value.slice A l.length cp = q := ⟨_, rfl⟩
  obtain ⟨u, hu⟩ : ∃ q, Value.slice A2 cs.length cp2 = q := ⟨_, rfl⟩
  have HV := Lib.hid hv
  have HU := Lib.hid hu
  rw [hn] at HV hc
  rw [hk] at HU hc2
  rw [hv] at HR ⊢
  rw [hu] at HC ⊢
  clear hr hr' hn hk hv hu
  go_enter Try.func5, Try.ntmps5
  go_wp2_with (refine wpList_box_blk rfl 24 _ rfl [v] rfl ?_)
  intro y0 b1 b2 b3
  obtain ⟨gb0, hg⟩ : ∃ g, w.heap.size = g := ⟨_, rfl⟩
  have X0 := Lib.hid b1
  have EB0 := Lib.hid b3
  rw [hg] at X0 ⊢
  clear b1 b2 b3 hg
  have c_X0 := X0.out.at_ 0 _ rfl
  go_wp2_with fail
  refine (fewW_any l v y0 ((HR.out.below EB0.out).more EB0.out.size)).mono ?_
  rintro e W1 ⟨rfl, hb⟩
  have E1 := Lib.hid hb
  clear hb c_X0
  have P1_w := Lib.hid (EB0.out.trans (E1.out.mono EB0.out.size))
  cases hF : fewB l
  · clear hF
    go_wp2_with fail
    refine (alive11 W1).mono ?_
    rintro e W2 ⟨rfl, hb⟩
    have E2 := Lib.hid hb
    clear hb
    have P2_w := Lib.hid (P1_w.out.trans (E2.out.mono P1_w.out.size))
    clear P1_w
    have P2_y0 := Lib.hid (E1.out.trans (E2.out.mono E1.out.size))
    go_wp2
    go_ret
    exact ⟨rfl, P2_w.out⟩
  have HL := Lib.hid (few_len hF)
  clear hF
  have c_X0 := (X0.out.below E1.out X0.out.lt).at_ 0 _ rfl
  go_wp2_with fail
  refine (plainW_any l v W1 ((HR.out.below P1_w.out).more P1_w.out.size) (by have := HL.out; omega)).mono ?_
  rintro e W2 ⟨vp, rfl, hrd, hb⟩
  have E2 := Lib.hid hb
  clear hb c_X0
  have P2_w := Lib.hid (P1_w.out.trans (E2.out.mono P1_w.out.size))
  clear P1_w
  have P2_y0 := Lib.hid (E1.out.trans (E2.out.mono E1.out.size))
  have RP := Lib.hid hrd
  clear hrd
  go_wp2_with fail
  refine (rfRightW_any l vp W2 RP.out).mono ?_
  rintro e W3 ⟨rfl, hb⟩
  have E3 := Lib.hid hb
  clear hb
  have P3_w := Lib.hid (P2_w.out.trans (E3.out.mono P2_w.out.size))
  clear P2_w
  have P3_y0 := Lib.hid (P2_y0.out.trans (E3.out.mono P2_y0.out.size))
  clear P2_y0
  have P3_W1 := Lib.hid (E2.out.trans (E3.out.mono E2.out.size))
  cases hG : rightW l
  · clear hG
    go_wp2_with fail
    refine (alive11 W3).mono ?_
    rintro e W4 ⟨rfl, hb⟩
    have E4 := Lib.hid hb
    clear hb
    have P4_w := Lib.hid (P3_w.out.trans (E4.out.mono P3_w.out.size))
    clear P3_w
    have P4_y0 := Lib.hid (P3_y0.out.trans (E4.out.mono P3_y0.out.size))
    clear P3_y0
    have P4_W1 := Lib.hid (P3_W1.out.trans (E4.out.mono P3_W1.out.size))
    clear P3_W1
    have P4_W2 := Lib.hid (E3.out.trans (E4.out.mono E3.out.size))
    go_wp2
    go_ret
    exact ⟨rfl, P4_w.out⟩
  have HRT := Lib.hid ((rightW_iff l).1 hG)
  clear hG
  go_wp2_with fail
  refine (shortW_any cs u W3 ((HC.out.below P3_w.out).more P3_w.out.size)).mono ?_
  rintro e W4 ⟨rfl, hb⟩
  have E4 := Lib.hid hb
  clear hb
  have P4_w := Lib.hid (P3_w.out.trans (E4.out.mono P3_w.out.size))
  clear P3_w
  have P4_y0 := Lib.hid (P3_y0.out.trans (E4.out.mono P3_y0.out.size))
  clear P3_y0
  have P4_W1 := Lib.hid (P3_W1.out.trans (E4.out.mono P3_W1.out.size))
  clear P3_W1
  have P4_W2 := Lib.hid (E3.out.trans (E4.out.mono E3.out.size))
  cases hF : shortB cs
  · clear hF
    go_wp2_with fail
    refine (alive11 W4).mono ?_
    rintro e W5 ⟨rfl, hb⟩
    have E5 := Lib.hid hb
    clear hb
    have P5_w := Lib.hid (P4_w.out.trans (E5.out.mono P4_w.out.size))
    clear P4_w
    have P5_y0 := Lib.hid (P4_y0.out.trans (E5.out.mono P4_y0.out.size))
    clear P4_y0
    have P5_W1 := Lib.hid (P4_W1.out.trans (E5.out.mono P4_W1.out.size))
    clear P4_W1
    have P5_W2 := Lib.hid (P4_W2.out.trans (E5.out.mono P4_W2.out.size))
    clear P4_W2
    have P5_W3 := Lib.hid (E4.out.trans (E5.out.mono E4.out.size))
    go_wp2
    go_ret
    exact ⟨rfl, P5_w.out⟩
  have HS := Lib.hid (short_len hF)
  clear hF
  obtain ⟨L3, hL⟩ : ∃ q1, leftW l cs = q1 := ⟨_, rfl⟩
  have HL3 := Lib.hid hL
  obtain ⟨E3, hE⟩ : ∃ q1, fireW l cs = q1 := ⟨_, rfl⟩
  have HE3 := Lib.hid hE
  have HFL : Hid (L3.length + E3.length = l.length) := by
    show _ = _
    rw [← hL, ← hE]
    exact fire_len l cs
  clear hL hE
  have c_X0 := (X0.out.below P4_y0.out X0.out.lt).at_ 0 _ rfl
  go_wp2_with fail
  refine (waFire_any l cs v u W4 ((HR.out.below P4_w.out).more P4_w.out.size) ((HC.out.below P4_w.out).more P4_w.out.size) HRT.out (by have := HS.out; omega)).mono ?_
  rintro e va5 ⟨v3, u3, rfl, hrd, hre, hb⟩
  clear c_X0
  have ONE3 := Lib.hid (tab_rd hrd)
  rw [HL3.out] at hrd
  rw [HE3.out] at hre
  go_wp2_with (refine wpList_alloc_blk rfl 24 rfl [.slice none 0 0] zTbP ?_)
  intro vb5 a1 a2 a3
  obtain ⟨vg5, hg⟩ : ∃ g, va5.heap.size = g := ⟨_, rfl⟩
  have AA := Lib.hid a1
  have EB := Lib.hid (hb.trans (a3.mono hb.size))
  have A3 := Lib.hid a3
  have hbg : W4.heap.size ≤ vg5 := by have := hb.size; omega
  have hgs : vg5 ≤ vb5.heap.size := by omega
  have HG := Lib.hid hg
  have RR0 := Lib.hid hrd
  have RR1 := Lib.hid hre
  rw [hg] at AA A3 RR0 RR1 ⊢
  clear a1 a2 a3 hb hg hrd hre
  go_wp2_with (refine wpList_store_to rfl 24 _ _ rfl vg5 [v3] [.slice none 0 0] 24 rfl rfl AA.out sTbP rfl ONE3.out ?_)
  intro W5 e1 e2 e3 e4
  have X3 := Lib.hid e1
  have E5 := Lib.hid (EB.out.trans (e3.mono hbg))
  have R3 := Lib.hid (((RR0.out.below A3.out).below e3).more (show vg5 ≤ W5.heap.size by omega))
  have S3 := Lib.hid (((RR1.out.below A3.out).below e3).more (show vg5 ≤ W5.heap.size by omega))
  clear e1 e2 e3 e4 AA EB A3 hbg hgs HG RR0 RR1
  have P5_w := Lib.hid (P4_w.out.trans (E5.out.mono P4_w.out.size))
  clear P4_w
  have P5_y0 := Lib.hid (P4_y0.out.trans (E5.out.mono P4_y0.out.size))
  clear P4_y0
  have P5_W1 := Lib.hid (P4_W1.out.trans (E5.out.mono P4_W1.out.size))
  clear P4_W1
  have P5_W2 := Lib.hid (P4_W2.out.trans (E5.out.mono P4_W2.out.size))
  clear P4_W2
  have P5_W3 := Lib.hid (E4.out.trans (E5.out.mono E4.out.size))
  have hv := HV.out
  have hu := HU.out
  subst hv hu
  obtain ⟨A4, c4, h4, hc4, hm4⟩ := R3.out.shape
  obtain ⟨A5, c5, h5, hc5, hm5⟩ := S3.out.shape
  obtain ⟨n4, hn4⟩ : ∃ q1, L3.length = q1 := ⟨_, rfl⟩
  obtain ⟨n5, hn5⟩ : ∃ q1, E3.length = q1 := ⟨_, rfl⟩
  have HN4 := Lib.hid hn4
  have HN5 := Lib.hid hn5
  rw [hn4] at h4 hc4
  rw [hn5] at h5 hc5
  subst h4 h5
  unfold maxLen at hm4 hm5
  have HSUM : Hid (n4 + n5 = n) := by
    show _ = _
    rw [← hn4, ← hn5, ← HN.out]
    exact HFL.out
  have hn60 : n ≤ 60 := by
    have := HL.out
    rw [HN.out] at this
    exact this
  have hm40 : m ≤ 40 := by
    have := HS.out
    rw [HM.out] at this
    exact this
  clear hn4 hn5
  have hsum := HSUM.out
  have hws : IntKind.i64.wrap ((n4 : Int) + (n5 : Int)) = (n : Int) := by rw [IntKind.wrap_i64]; omega
  have hws2 : wrap64 ((n4 : Int) + (n5 : Int)) = (n : Int) := by unfold wrap64; omega
  have hnn : ((n : Int) != (n : Int)) = false := by simp
  have c_X3 := X3.out.at_ 0 _ rfl
  have c_X0 := (X0.out.below P5_y0.out X0.out.lt).at_ 0 _ rfl
  have ZX0 := Lib.hid (X0.out.below P5_y0.out X0.out.lt)
  have ZX3 := Lib.hid X3.out
  have ZHR := Lib.hid ((HR.out.below P5_w.out).more P5_w.out.size)
  have ZHC := Lib.hid ((HC.out.below P5_w.out).more P5_w.out.size)
  have ZR3 := Lib.hid R3.out
  have ZS3 := Lib.hid S3.out
  go_wp2
  clear c_X3 c_X0
  clear hws hws2 hnn hsum
  go_loopw [7] (fun x wr => ∃ i : Nat, i ≤ n ∧ x = .int .i64 (i : Int) ∧ Hid (Below W5.heap.size W5 wr)) (fun x _ => n - (intOf x).toNat)
  case atStart => exact ⟨0, by omega, rfl, Below.refl _ _⟩
  case round =>
    obtain ⟨i, hi, rfl, EL⟩ := hrel
    obtain ⟨wO, rfl⟩ : ∃ q, q = wr := ⟨_, rfl⟩
    have P6_w := Lib.hid (P5_w.out.trans (EL.out.mono P5_w.out.size))
    clear P5_w
    have P6_y0 := Lib.hid (P5_y0.out.trans (EL.out.mono P5_y0.out.size))
    clear P5_y0
    have P6_W1 := Lib.hid (P5_W1.out.trans (EL.out.mono P5_W1.out.size))
    clear P5_W1
    have P6_W2 := Lib.hid (P5_W2.out.trans (EL.out.mono P5_W2.out.size))
    clear P5_W2
    have P6_W3 := Lib.hid (P5_W3.out.trans (EL.out.mono P5_W3.out.size))
    clear P5_W3
    have P6_W4 := Lib.hid (E5.out.trans (EL.out.mono E5.out.size))
    have YZX0 := Lib.hid (ZX0.out.below EL.out ZX0.out.lt)
    have ca := YZX0.out.cell 0
    by_cases hi2 : i < n
    · have zi : (i : Int) < (n : Int) := by omega
      obtain ⟨a, hA, c0, c1, c2⟩ := ((ZHR.out.below EL.out).more EL.out.size).atWa i (by rw [HN.out]; exact hi2)
      subst hA
      obtain ⟨x9, hx⟩ : ∃ x, l.getD i wa0 = x := ⟨_, rfl⟩
      have HX := Lib.hid hx
      have HIN : Hid (x9 ∈ l) := by
        show _ ∈ _
        rw [← hx]
        exact getD_memW l wa0 i (by rw [HN.out]; exact hi2)
      rw [hx] at c0 c1 c2
      clear hx
      go_wp2_with (refine wpList_alloc_blk rfl 31 rfl (wac wa0) zeroWaP ?_)
      intro wa a1 a2 a3
      obtain ⟨gA, hgA⟩ : ∃ g, wO.heap.size = g := ⟨_, rfl⟩
      have AA := Lib.hid a1
      have EA := Lib.hid a3
      have hgA2 : wO.heap.size ≤ gA := by omega
      rw [hgA] at AA ⊢
      clear a1 a2 a3 hgA ca c0 c1 c2
      go_wp2_with (refine wpList_store_to rfl 31 _ _ rfl gA (wac x9) (wac wa0) 31 rfl rfl AA.out szWaP rfl (wac_all _) ?_)
      intro wb e1 e2 e3 e4
      have XB := Lib.hid e1
      have EBB := Lib.hid (EA.out.trans (e3.mono hgA2))
      clear e1 e2 e3 e4 AA EA hgA2
      have P7_w := Lib.hid (P6_w.out.trans (EBB.out.mono P6_w.out.size))
      clear P6_w
      have P7_y0 := Lib.hid (P6_y0.out.trans (EBB.out.mono P6_y0.out.size))
      clear P6_y0
      have P7_W1 := Lib.hid (P6_W1.out.trans (EBB.out.mono P6_W1.out.size))
      clear P6_W1
      have P7_W2 := Lib.hid (P6_W2.out.trans (EBB.out.mono P6_W2.out.size))
      clear P6_W2
      have P7_W3 := Lib.hid (P6_W3.out.trans (EBB.out.mono P6_W3.out.size))
      clear P6_W3
      have P7_W4 := Lib.hid (P6_W4.out.trans (EBB.out.mono P6_W4.out.size))
      clear P6_W4
      have P7_W5 := Lib.hid (EL.out.trans (EBB.out.mono EL.out.size))
      have hz40 : wrap64 ((m : Int) - 1) = (m : Int) - 1 := by unfold wrap64; omega
      have hz41 : IntKind.i64.wrap ((m : Int) - 1) = (m : Int) - 1 := by rw [IntKind.wrap_i64]; omega
      have HFE : Hid (fromW cs x9 m = -1) := by
        show _ = _
        rw [← HM.out]
        exact fromW_end cs x9
      go_wp2
      go_loopw [9, 10] (fun f x wq => ∃ k : Nat, k ≤ m ∧ x = .int .i64 ((k : Int) - 1) ∧ f = .int .i64 (fromW cs x9 k) ∧ Hid (Below wb.heap.size wb wq)) (fun _ x _ => (intOf x + 1).toNat)
      case atStart => exact ⟨m, by omega, rfl, by rw [HFE.out], Below.refl _ _⟩
      case round =>
        obtain ⟨k, hk, rfl, rfl, EQ⟩ := hrel
        obtain ⟨wQ1, rfl⟩ : ∃ q, q = wr := ⟨_, rfl⟩
        clear hz40 hz41
        have P8_w := Lib.hid (P7_w.out.trans (EQ.out.mono P7_w.out.size))
        clear P7_w
        have P8_y0 := Lib.hid (P7_y0.out.trans (EQ.out.mono P7_y0.out.size))
        clear P7_y0
        have P8_W1 := Lib.hid (P7_W1.out.trans (EQ.out.mono P7_W1.out.size))
        clear P7_W1
        have P8_W2 := Lib.hid (P7_W2.out.trans (EQ.out.mono P7_W2.out.size))
        clear P7_W2
        have P8_W3 := Lib.hid (P7_W3.out.trans (EQ.out.mono P7_W3.out.size))
        clear P7_W3
        have P8_W4 := Lib.hid (P7_W4.out.trans (EQ.out.mono P7_W4.out.size))
        clear P7_W4
        have P8_W5 := Lib.hid (P7_W5.out.trans (EQ.out.mono P7_W5.out.size))
        clear P7_W5
        have P8_wO := Lib.hid (EBB.out.trans (EQ.out.mono EBB.out.size))
        by_cases hk0 : 0 < k
        · obtain ⟨k1, hk1⟩ : ∃ k1, k = k1 + 1 := ⟨k - 1, by omega⟩
          subst hk1
          have hkm : k1 < m := by omega
          have e1 : ((k1 + 1 : Nat) : Int) - 1 = (k1 : Int) := by omega
          have zk : (k1 : Int) < (m : Int) := by omega
          obtain ⟨b, hA2, q0, q1⟩ := ((ZHC.out.below P8_W5.out).more P8_W5.out.size).atCh k1 (by rw [HM.out]; exact hkm)
          subst hA2
          clear q0 q1
          obtain ⟨c, hcc⟩ : ∃ c, cs.getD k1 ch0 = c := ⟨_, rfl⟩
          have HCC := Lib.hid hcc
          have HST := Lib.hid (fromW_step cs x9 k1 (by rw [HM.out]; exact hkm))
          rw [hcc] at HST
          obtain ⟨B, hB⟩ : ∃ B, touchB c x9 = B := ⟨_, rfl⟩
          have HBB := Lib.hid hB
          rw [hB] at HST
          clear hcc hB
          obtain ⟨f9, hf9⟩ : ∃ f, fromW cs x9 (k1 + 1) = f := ⟨_, rfl⟩
          rw [hf9] at HST ⊢
          clear hf9
          rw [e1]
          clear e1
          go_wp2
          have TZHC := Lib.hid ((ZHC.out.below P8_W5.out).more P8_W5.out.size)
          have TXB := Lib.hid (XB.out.below EQ.out XB.out.lt)
          refine wp_region_rely2 6 0 (fun x => ⟨#[.agg #[Value.slice (some a) n cp], .slice (some b) m cp2, .pointer (some { block := gb0, off := 0 }), undef, u4, .pointer (some { block := vg5, off := 0 }), .slice A5 n5 c5, .int IntKind.i64 ↑i, .pointer (some { block := gA, off := 0 }), .int IntKind.i64 f9, .int IntKind.i64 ↑k1, u11, u12, u13, .agg #[Value.slice (some a) n cp], .bool true, .bool false, .bool false, .agg #[Value.slice (some a) n cp], .agg #[vp], .bool true, .bool false, .bool false, .bool false, .slice (some b) m cp2, .bool true, .bool false, .bool false, undef, .tuple #[Value.agg #[Value.slice A4 n4 c4], Value.slice A5 n5 c5], .agg #[Value.slice (some a) n cp], .slice (some b) m cp2, .tuple #[Value.agg #[Value.slice A4 n4 c4], Value.slice A5 n5 c5], .agg #[Value.slice A4 n4 c4], .slice A5 n5 c5, .pointer (some { block := vg5, off := 0 }), .slice A4 n4 c4, .int IntKind.i64 ↑n4, .slice A5 n5 c5, .int IntKind.i64 ↑n5, .int IntKind.i64 ↑n, .pointer (some { block := gb0, off := 0 }), .slice (some a) n cp, .int IntKind.i64 ↑n, .bool false, .int IntKind.i64 ↑i, .pointer (some { block := gb0, off := 0 }), .slice (some a) n cp, .int IntKind.i64 ↑n, .bool true, u50, u51, .pointer (some { block := gb0, off := 0 }), .slice (some a) n cp, .int IntKind.i64 ↑i, .pointer (some (a.add (i * 3))), .agg #[txt (wP x9), Value.int IntKind.i64 (wC x9), Value.bool (wK x9)], .slice (some b) m cp2, .int IntKind.i64 ↑m, .int IntKind.i64 (↑m - 1), .int IntKind.i64 ↑k1, .bool true, u62, u63, x 0, x 1, x 2, x 3, x 4, x 5, u70, u71, u72, u73, u74, u75, u76, u77, u78, u79, u80, u81, u82, u83, u84, u85, u86, u87, u88, u89, u90, u91, u92, u93, u94, u95, u96, u97, u98, u99, u100, u101, u102, u103, u104, u105, u106, u107, u108, u109, u110, u111, u112, u113, u114, u115, u116, u117, u118, u119, u120, u121, u122, u123, u124, u125, u126, u127, undef], []⟩) (fun jj => ([eqV (.slice (some b) m cp2), eqV (.int IntKind.i64 ↑k1), eqV (.pointer (some (b.add (k1 * 2)))), eqV (.agg (chc c).toArray), eqV (.agg (wac x9).toArray), (eqV (.bool B))] : List (Value → World → Prop)).getD jj (fun _ _ => True)) rfl ⟨fun kk => [_, _, _, _, _, _].getD kk undef, rfl⟩ (by kernel_rfl) (by kernel_rfl) ?steps ?fin
          case steps =>
            refine StepsAt.val 0 (.slice (some b) m cp2) rfl (fun _ _ => rfl) rfl rfl (fun x wx hb hd => ?_) ?_
            · first | (go_simp; done) | (go_simp; rfl)
            refine StepsAt.val 1 (.int IntKind.i64 ↑k1) rfl (fun _ _ => rfl) rfl rfl (fun x wx hb hd => ?_) ?_
            · first | (go_simp; done) | (go_simp; rfl)
            refine StepsAt.val 2 (.pointer (some (b.add (k1 * 2)))) rfl (fun _ _ => rfl) rfl rfl (fun x wx hb hd => ?_) ?_
            · have h0 : x 0 = .slice (some b) m cp2 := hd 0 (by kernel_rfl)
              have h1 : x 1 = .int IntKind.i64 ↑k1 := hd 1 (by kernel_rfl)
              rw [h0, h1]
              first | (go_simp; done) | (go_simp; rfl)
            refine StepsAt.val 3 (.agg (chc c).toArray) rfl (fun _ _ => rfl) rfl rfl (fun x wx hb hd => ?_) ?_
            · have h2 : x 2 = .pointer (some (b.add (k1 * 2))) := hd 2 (by kernel_rfl)
              obtain ⟨b9, hA9, cc0, cc1⟩ := (TZHC.out.below hb).atCh k1 (by rw [HM.out]; exact hkm)
              obtain rfl : b = b9 := Option.some.inj hA9
              rw [HCC.out] at cc0 cc1
              rw [h2]
              first | (go_simp; done) | (go_simp; rfl)
            refine StepsAt.val 4 (.agg (wac x9).toArray) rfl (fun _ _ => rfl) rfl rfl (fun x wx hb hd => ?_) ?_
            · have cc := (TXB.out.below hb TXB.out.lt).at_ 0 _ rfl
              have cd := (TXB.out.below hb TXB.out.lt).at_ 1 _ rfl
              have ce := (TXB.out.below hb TXB.out.lt).at_ 2 _ rfl
              first | (go_simp; done) | (go_simp; rfl)
            refine StepsAt.cons 5 (fun _ _ _ h hb => h) (fun _ _ => rfl) rfl rfl (fun x wx hb hd K hK => ?_) ?_
            · have h3 : Hid (x 3 = .agg (chc c).toArray) := hd 3 (by kernel_rfl)
              have h4 : Hid (x 4 = .agg (wac x9).toArray) := hd 4 (by kernel_rfl)
              go_simp
              refine calls_args (args2 := #[.agg (chc c).toArray, .agg (wac x9).toArray]) (by rw [h3.out, h4.out]) ?_
              refine (waTouchIs c x9 B HBB.out _).mono ?_
              rintro e w99 ⟨rfl, hb99⟩
              exact hK.out _ _ hb99 rfl
            exact StepsAt.done
          case fin =>
            intro xx wx hb hd
            have hx0 : xx 0 = .slice (some b) m cp2 := hd 0 (by omega)
            have hx1 : xx 1 = .int IntKind.i64 ↑k1 := hd 1 (by omega)
            have hx2 : xx 2 = .pointer (some (b.add (k1 * 2))) := hd 2 (by omega)
            have hx3 : xx 3 = .agg (chc c).toArray := hd 3 (by omega)
            have hx4 : xx 4 = .agg (wac x9).toArray := hd 4 (by omega)
            have hx5 : xx 5 = .bool B := hd 5 (by omega)
            refine AnyTill.any (S := fun _ => True) (m := 6) _ _ _ _ ?_
            refine AnyTill.done (by kernel_rfl) ?_
            refine NoPanic.normal ?_
            try dsimp only
            rw [hx0, hx1, hx2, hx3, hx4, hx5]
            have ER14 := Lib.hid hb
            clear hx0 hx1 hx2 hx3 hx4 hx5 hd hb
            have EQ2 : Hid (Below wb.heap.size wb wx) := EQ.out.trans (ER14.out.mono EQ.out.size)
            have ek : IntKind.i64.wrap ((k1 : Int) - 1) = (k1 : Int) - 1 := by rw [IntKind.wrap_i64]; omega
            have ek2 : wrap64 ((k1 : Int) - 1) = (k1 : Int) - 1 := by unfold wrap64; omega
            cases B
            · have HST2 : Hid (fromW cs x9 k1 = f9) := by
                show _ = _
                rw [HST.out]; rfl
              go_wp2
              go_roundw
              case rel => exact ⟨k1, by omega, rfl, by rw [HST2.out], EQ2⟩
              case measure => first | (simp [intOf]; done) | (simp [intOf]; omega)
            · have HST2 : Hid (fromW cs x9 k1 = (k1 : Int)) := by
                show _ = _
                rw [HST.out]; rfl
              go_wp2
              go_roundw
              case rel => exact ⟨k1, by omega, rfl, by rw [HST2.out], EQ2⟩
              case measure => first | (simp [intOf]; done) | (simp [intOf]; omega)
        obtain rfl : k = 0 := by omega
        have HFZ := Lib.hid (fromW_zero cs x9)
        rw [HM.out] at HFZ
        obtain ⟨F9, hF9⟩ : ∃ f, fromW cs x9 0 = f := ⟨_, rfl⟩
        rw [hF9] at HFZ ⊢
        have hF1 : F9 < 0 ∨ (0 ≤ F9 ∧ F9 < (m : Int)) := by
          rw [HFZ.out]
          split
          · right
            constructor <;> omega
          · left
            decide
        have HF1 := Lib.hid hF1
        clear hF9 hF1
        rw [show ((0 : Nat) : Int) - 1 = -1 from rfl]
        go_wp2
        go_loopw [11, 12] (fun y x wq => ∃ k : Nat, k ≤ n5 ∧ x = .int .i64 (k : Int) ∧ y = .int .i64 ((manyW (E3.take k) x9 : Nat) : Int) ∧ Hid (Below wQ1.heap.size wQ1 wq)) (fun _ x _ => n5 - (intOf x).toNat)
        case atStart => exact ⟨0, by omega, rfl, rfl, Below.refl _ _⟩
        case round =>
          obtain ⟨k, hk, rfl, rfl, ES⟩ := hrel
          obtain ⟨wQ2, rfl⟩ : ∃ q, q = wr := ⟨_, rfl⟩
          have P9_w := Lib.hid (P8_w.out.trans (ES.out.mono P8_w.out.size))
          clear P8_w
          have P9_y0 := Lib.hid (P8_y0.out.trans (ES.out.mono P8_y0.out.size))
          clear P8_y0
          have P9_W1 := Lib.hid (P8_W1.out.trans (ES.out.mono P8_W1.out.size))
          clear P8_W1
          have P9_W2 := Lib.hid (P8_W2.out.trans (ES.out.mono P8_W2.out.size))
          clear P8_W2
          have P9_W3 := Lib.hid (P8_W3.out.trans (ES.out.mono P8_W3.out.size))
          clear P8_W3
          have P9_W4 := Lib.hid (P8_W4.out.trans (ES.out.mono P8_W4.out.size))
          clear P8_W4
          have P9_W5 := Lib.hid (P8_W5.out.trans (ES.out.mono P8_W5.out.size))
          clear P8_W5
          have P9_wO := Lib.hid (P8_wO.out.trans (ES.out.mono P8_wO.out.size))
          clear P8_wO
          have P9_wb := Lib.hid (EQ.out.trans (ES.out.mono EQ.out.size))
          by_cases hk2 : k < n5
          · have zk : (k : Int) < (n5 : Int) := by omega
            obtain ⟨b, hA2, q0, q1, q2, q3, q4⟩ := ((ZS3.out.below P9_W5.out).more P9_W5.out.size).atEv k (by rw [HN5.out]; exact hk2)
            subst hA2
            have HMS := Lib.hid (manyW_snoc E3 x9 k (by rw [HN5.out]; exact hk2))
            have HML := Lib.hid (manyW_le E3 x9 k)
            obtain ⟨e9, he9⟩ : ∃ e, E3.getD k ev0 = e := ⟨_, rfl⟩
            have HE9 := Lib.hid he9
            have HEM : Hid (e9 ∈ fireW l cs) := by
              show _ ∈ _
              rw [HE3.out, ← he9]
              exact getD_memW E3 ev0 k (by rw [HN5.out]; exact hk2)
            rw [he9] at q0 q1 q2 q3 q4 HMS
            clear he9
            obtain ⟨M9, hM9⟩ : ∃ q, manyW (E3.take k) x9 = q := ⟨_, rfl⟩
            rw [hM9] at HMS HML ⊢
            clear hM9
            have c_XB := (XB.out.below P9_wb.out XB.out.lt).at_ 0 _ rfl
            have c_XB_1 := (XB.out.below P9_wb.out XB.out.lt).at_ 1 _ rfl
            have c_XB_2 := (XB.out.below P9_wb.out XB.out.lt).at_ 2 _ rfl
            have hne := run_eqlWaP e9.1 x9
            obtain ⟨B, hB⟩ : ∃ B, decide (e9.1 = x9) = B := ⟨_, rfl⟩
            have HBB := Lib.hid hB
            rw [hB] at hne
            clear hB
            go_wp2
            refine wp_region_quiet_lit (by kernel_rfl) (by kernel_rfl) ?_
            repeat (first | go_big_quiet_step (fail) | quiet_step (fail))
            refine wpQuiet_nil ?_
            intro _ hw'
            obtain ⟨nq, hw''⟩ := hw'
            subst hw''
            obtain ⟨W10, hW⟩ : ∃ W, wQ2.drewN nq = W := ⟨_, rfl⟩
            have E10 : Hid (Below wQ2.heap.size wQ2 W10) := by
              show Below _ _ _
              rw [← hW]
              exact Below.drewN' (Below.refl _ _)
            rw [hW]
            clear hW c_XB c_XB_1 c_XB_2 hne q0 q1 q2 q3 q4
            have P10_w := Lib.hid (P9_w.out.trans (E10.out.mono P9_w.out.size))
            clear P9_w
            have P10_y0 := Lib.hid (P9_y0.out.trans (E10.out.mono P9_y0.out.size))
            clear P9_y0
            have P10_W1 := Lib.hid (P9_W1.out.trans (E10.out.mono P9_W1.out.size))
            clear P9_W1
            have P10_W2 := Lib.hid (P9_W2.out.trans (E10.out.mono P9_W2.out.size))
            clear P9_W2
            have P10_W3 := Lib.hid (P9_W3.out.trans (E10.out.mono P9_W3.out.size))
            clear P9_W3
            have P10_W4 := Lib.hid (P9_W4.out.trans (E10.out.mono P9_W4.out.size))
            clear P9_W4
            have P10_W5 := Lib.hid (P9_W5.out.trans (E10.out.mono P9_W5.out.size))
            clear P9_W5
            have P10_wO := Lib.hid (P9_wO.out.trans (E10.out.mono P9_wO.out.size))
            clear P9_wO
            have P10_wb := Lib.hid (P9_wb.out.trans (E10.out.mono P9_wb.out.size))
            clear P9_wb
            have P10_wQ1 := Lib.hid (ES.out.trans (E10.out.mono ES.out.size))
            have ES2 : Hid (Below wQ1.heap.size wQ1 W10) := ES.out.trans (E10.out.mono ES.out.size)
            cases B
            · have HM2 : Hid (manyW (E3.take (k + 1)) x9 = M9) := by
                show _ = _
                rw [HMS.out, if_neg (by simpa using HBB.out), Nat.add_zero]
              go_wp2
              go_roundw
              case rel => exact ⟨k + 1, by omega, by go_num, by rw [HM2.out], ES2⟩
              case measure => first | (simp [intOf]; done) | (simp [intOf]; omega)
            have HM2 : Hid (manyW (E3.take (k + 1)) x9 = M9 + 1) := by
              show _ = _
              rw [HMS.out, if_pos (by simpa using HBB.out)]
            have hq := fireW_first l cs e9 HEM.out
            rw [show e9.1 = x9 by simpa using HBB.out, HM.out] at hq
            obtain ⟨q5, q6⟩ := hq
            obtain ⟨f9, hf9⟩ : ∃ f, firstW cs x9 = f := ⟨_, rfl⟩
            rw [hf9] at q5 q6
            have HF9 : Hid (F9 = (f9 : Int)) := by
              show _ = _
              rw [HFZ.out, hf9, if_pos q5]
            rw [HF9.out]
            have HQ6 := Lib.hid q6
            have hfz : (f9 : Int) < (m : Int) := by omega
            have hml := HML.out
            have hwm : IntKind.i64.wrap ((M9 : Int) + 1) = ((M9 + 1 : Nat) : Int) := by rw [IntKind.wrap_i64]; omega
            have hwm2 : wrap64 ((M9 : Int) + 1) = ((M9 + 1 : Nat) : Int) := by unfold wrap64; omega
            clear q6 hf9 hml
            obtain ⟨b2, hA3, p0, p1⟩ := ((ZHC.out.below P10_W5.out).more P10_W5.out.size).atCh f9 (by rw [HM.out]; exact q5)
            subst hA3
            clear p0 p1
            go_wp2
            have UZS3 := Lib.hid ((ZS3.out.below P10_W5.out).more P10_W5.out.size)
            have UZHC := Lib.hid ((ZHC.out.below P10_W5.out).more P10_W5.out.size)
            refine wp_region_rely2 14 0 (fun x => ⟨#[.agg #[Value.slice (some a) n cp], .slice (some b2) m cp2, .pointer (some { block := gb0, off := 0 }), undef, u4, .pointer (some { block := vg5, off := 0 }), .slice (some b) n5 c5, .int IntKind.i64 ↑i, .pointer (some { block := gA, off := 0 }), .int IntKind.i64 ↑f9, .int IntKind.i64 (-1), .int IntKind.i64 (↑M9 + 1), .int IntKind.i64 ↑k, u13, .agg #[Value.slice (some a) n cp], .bool true, .bool false, .bool false, .agg #[Value.slice (some a) n cp], .agg #[vp], .bool true, .bool false, .bool false, .bool false, .slice (some b2) m cp2, .bool true, .bool false, .bool false, undef, .tuple #[Value.agg #[Value.slice A4 n4 c4], Value.slice (some b) n5 c5], .agg #[Value.slice (some a) n cp], .slice (some b2) m cp2, .tuple #[Value.agg #[Value.slice A4 n4 c4], Value.slice (some b) n5 c5], .agg #[Value.slice A4 n4 c4], .slice (some b) n5 c5, .pointer (some { block := vg5, off := 0 }), .slice A4 n4 c4, .int IntKind.i64 ↑n4, .slice (some b) n5 c5, .int IntKind.i64 ↑n5, .int IntKind.i64 ↑n, .pointer (some { block := gb0, off := 0 }), .slice (some a) n cp, .int IntKind.i64 ↑n, .bool false, .int IntKind.i64 ↑i, .pointer (some { block := gb0, off := 0 }), .slice (some a) n cp, .int IntKind.i64 ↑n, .bool true, u50, u51, .pointer (some { block := gb0, off := 0 }), .slice (some a) n cp, .int IntKind.i64 ↑i, .pointer (some (a.add (i * 3))), .agg #[txt (wP x9), Value.int IntKind.i64 (wC x9), Value.bool (wK x9)], .slice (some b2) m cp2, .int IntKind.i64 ↑m, .int IntKind.i64 (↑m - 1), .int IntKind.i64 (-1), .bool false, u62, u63, u64, u65, u66, u67, u68, u69, u70, .int IntKind.i64 ↑k, .slice (some b) n5 c5, .int IntKind.i64 ↑n5, .bool true, u75, u76, .slice (some b) n5 c5, .int IntKind.i64 ↑k, .pointer (some (b.add (k * 5))), .pointer (some (b.add (k * 5))), .agg #[txt (wP e9.fst), Value.int IntKind.i64 (wC e9.fst), Value.bool (wK e9.fst)], .agg #[txt (wP x9), Value.int IntKind.i64 (wC x9), Value.bool (wK x9)], .bool true, .int IntKind.i64 ↑M9, .int IntKind.i64 (↑M9 + 1), x 0, x 1, x 2, x 3, x 4, x 5, x 6, x 7, x 8, x 9, x 10, x 11, x 12, x 13, u100, u101, u102, u103, u104, u105, u106, u107, u108, u109, u110, u111, u112, u113, u114, u115, u116, u117, u118, u119, u120, u121, u122, u123, u124, u125, u126, u127, undef], []⟩) (fun jj => ([eqV (.int IntKind.i64 ↑f9), eqV (.bool false), eqV (.bool false), eqV (.slice (some b) n5 c5), eqV (.int IntKind.i64 ↑k), eqV (.pointer (some (b.add (k * 5)))), eqV (.pointer (some ⟨(b.add (k * 5)).block, (b.add (k * 5)).off + 3, none⟩)), eqV (.agg (chc e9.2).toArray), eqV (.slice (some b2) m cp2), eqV (.int IntKind.i64 ↑f9), eqV (.pointer (some (b2.add (f9 * 2)))), eqV (.agg (chc e9.2).toArray), eqV (.bool false), eqV (.bool false)] : List (Value → World → Prop)).getD jj (fun _ _ => True)) rfl ⟨fun kk => [_, _, _, _, _, _, _, _, _, _, _, _, _, _].getD kk undef, rfl⟩ (by kernel_rfl) (by kernel_rfl) ?steps ?fin
            case steps =>
              refine StepsAt.val 0 (.int IntKind.i64 ↑f9) rfl (fun _ _ => rfl) rfl rfl (fun x wx hb hd => ?_) ?_
              · first | (go_simp; done) | (go_simp; rfl)
              refine StepsAt.val 1 (.bool false) rfl (fun _ _ => rfl) rfl rfl (fun x wx hb hd => ?_) ?_
              · have h0 : x 0 = .int IntKind.i64 ↑f9 := hd 0 (by kernel_rfl)
                rw [h0]
                first | (go_simp; done) | (go_simp; rfl) | (go_simp; simp)
              refine StepsAt.val 2 (.bool false) rfl (fun _ _ => rfl) rfl rfl (fun x wx hb hd => ?_) ?_
              · have h1 : x 1 = .bool false := hd 1 (by kernel_rfl)
                rw [h1]
                first | (go_simp; done) | (go_simp; rfl)
              refine StepsAt.valG 3 (.slice (some b) n5 c5) rfl (fun _ _ => rfl) rfl (fun x wx hd => ?_) (fun x wx hb hd => ?_) ?_
              · have hG : x 2 = .bool false := hd 2 (by kernel_rfl)
                simp [Region.wanted, yielded, hG]
              · first | (go_simp; done) | (go_simp; rfl)
              refine StepsAt.valG 4 (.int IntKind.i64 ↑k) rfl (fun _ _ => rfl) rfl (fun x wx hd => ?_) (fun x wx hb hd => ?_) ?_
              · have hG : x 2 = .bool false := hd 2 (by kernel_rfl)
                simp [Region.wanted, yielded, hG]
              · first | (go_simp; done) | (go_simp; rfl)
              refine StepsAt.valG 5 (.pointer (some (b.add (k * 5)))) rfl (fun _ _ => rfl) rfl (fun x wx hd => ?_) (fun x wx hb hd => ?_) ?_
              · have hG : x 2 = .bool false := hd 2 (by kernel_rfl)
                simp [Region.wanted, yielded, hG]
              · have h3 : x 3 = .slice (some b) n5 c5 := hd 3 (by kernel_rfl)
                have h4 : x 4 = .int IntKind.i64 ↑k := hd 4 (by kernel_rfl)
                rw [h3, h4]
                first | (go_simp; done) | (go_simp; rfl)
              refine StepsAt.valG 6 (.pointer (some ⟨(b.add (k * 5)).block, (b.add (k * 5)).off + 3, none⟩)) rfl (fun _ _ => rfl) rfl (fun x wx hd => ?_) (fun x wx hb hd => ?_) ?_
              · have hG : x 2 = .bool false := hd 2 (by kernel_rfl)
                simp [Region.wanted, yielded, hG]
              · have h5 : x 5 = .pointer (some (b.add (k * 5))) := hd 5 (by kernel_rfl)
                rw [h5]
                first | (go_simp; done) | (go_simp; rfl)
              refine StepsAt.valG 7 (.agg (chc e9.2).toArray) rfl (fun _ _ => rfl) rfl (fun x wx hd => ?_) (fun x wx hb hd => ?_) ?_
              · have hG : x 2 = .bool false := hd 2 (by kernel_rfl)
                simp [Region.wanted, yielded, hG]
              · have h6 : x 6 = .pointer (some ⟨(b.add (k * 5)).block, (b.add (k * 5)).off + 3, none⟩) := hd 6 (by kernel_rfl)
                obtain ⟨b9, hA9, cc0, cc1, cc2, cc3, cc4⟩ := (UZS3.out.below hb).atEv k (by rw [HN5.out]; exact hk2)
                obtain rfl : b = b9 := Option.some.inj hA9
                rw [HE9.out] at cc0 cc1 cc2 cc3 cc4
                rw [h6]
                first | (go_simp; done) | (go_simp; rfl)
              refine StepsAt.valG 8 (.slice (some b2) m cp2) rfl (fun _ _ => rfl) rfl (fun x wx hd => ?_) (fun x wx hb hd => ?_) ?_
              · have hG : x 2 = .bool false := hd 2 (by kernel_rfl)
                simp [Region.wanted, yielded, hG]
              · first | (go_simp; done) | (go_simp; rfl)
              refine StepsAt.valG 9 (.int IntKind.i64 ↑f9) rfl (fun _ _ => rfl) rfl (fun x wx hd => ?_) (fun x wx hb hd => ?_) ?_
              · have hG : x 2 = .bool false := hd 2 (by kernel_rfl)
                simp [Region.wanted, yielded, hG]
              · first | (go_simp; done) | (go_simp; rfl)
              refine StepsAt.valG 10 (.pointer (some (b2.add (f9 * 2)))) rfl (fun _ _ => rfl) rfl (fun x wx hd => ?_) (fun x wx hb hd => ?_) ?_
              · have hG : x 2 = .bool false := hd 2 (by kernel_rfl)
                simp [Region.wanted, yielded, hG]
              · have h8 : x 8 = .slice (some b2) m cp2 := hd 8 (by kernel_rfl)
                have h9 : x 9 = .int IntKind.i64 ↑f9 := hd 9 (by kernel_rfl)
                rw [h8, h9]
                first | (go_simp; done) | (go_simp; rfl)
              refine StepsAt.valG 11 (.agg (chc e9.2).toArray) rfl (fun _ _ => rfl) rfl (fun x wx hd => ?_) (fun x wx hb hd => ?_) ?_
              · have hG : x 2 = .bool false := hd 2 (by kernel_rfl)
                simp [Region.wanted, yielded, hG]
              · have h10 : x 10 = .pointer (some (b2.add (f9 * 2))) := hd 10 (by kernel_rfl)
                obtain ⟨b9, hA9, cc0, cc1⟩ := (UZHC.out.below hb).atCh f9 (by rw [HM.out]; exact q5)
                obtain rfl : b2 = b9 := Option.some.inj hA9
                rw [← HQ6.out] at cc0 cc1
                rw [h10]
                first | (go_simp; done) | (go_simp; rfl)
              refine StepsAt.valG 12 (.bool false) rfl (fun _ _ => rfl) rfl (fun x wx hd => ?_) (fun x wx hb hd => ?_) ?_
              · have hG : x 2 = .bool false := hd 2 (by kernel_rfl)
                simp [Region.wanted, yielded, hG]
              · have h7 : x 7 = .agg (chc e9.2).toArray := hd 7 (by kernel_rfl)
                have h11 : x 11 = .agg (chc e9.2).toArray := hd 11 (by kernel_rfl)
                have hne := run_neqChP e9.2 e9.2
                rw [decide_eq_true rfl] at hne
                have e7 : x 7 = .agg #[.int .i64 (cK e9.2), txt (cP e9.2)] := h7
                have e11 : x 11 = .agg #[.int .i64 (cK e9.2), txt (cP e9.2)] := h11
                rw [e7, e11]
                first | (go_simp; done) | (go_simp; rfl) | (go_simp; simp)
              refine StepsAt.val 13 (.bool false) rfl (fun _ _ => rfl) rfl rfl (fun x wx hb hd => ?_) ?_
              · have h2 : x 2 = .bool false := hd 2 (by kernel_rfl)
                have h12 : x 12 = .bool false := hd 12 (by kernel_rfl)
                rw [h2, h12]
                first | (go_simp; done) | (go_simp; rfl)
              exact StepsAt.done
            case fin =>
              intro xx wx hb hd
              have hx0 : xx 0 = .int IntKind.i64 ↑f9 := hd 0 (by omega)
              have hx1 : xx 1 = .bool false := hd 1 (by omega)
              have hx2 : xx 2 = .bool false := hd 2 (by omega)
              have hx3 : xx 3 = .slice (some b) n5 c5 := hd 3 (by omega)
              have hx4 : xx 4 = .int IntKind.i64 ↑k := hd 4 (by omega)
              have hx5 : xx 5 = .pointer (some (b.add (k * 5))) := hd 5 (by omega)
              have hx6 : xx 6 = .pointer (some ⟨(b.add (k * 5)).block, (b.add (k * 5)).off + 3, none⟩) := hd 6 (by omega)
              have hx7 : xx 7 = .agg (chc e9.2).toArray := hd 7 (by omega)
              have hx8 : xx 8 = .slice (some b2) m cp2 := hd 8 (by omega)
              have hx9 : xx 9 = .int IntKind.i64 ↑f9 := hd 9 (by omega)
              have hx10 : xx 10 = .pointer (some (b2.add (f9 * 2))) := hd 10 (by omega)
              have hx11 : xx 11 = .agg (chc e9.2).toArray := hd 11 (by omega)
              have hx12 : xx 12 = .bool false := hd 12 (by omega)
              have hx13 : xx 13 = .bool false := hd 13 (by omega)
              refine AnyTill.any (S := fun _ => True) (m := 14) _ _ _ _ ?_
              refine AnyTill.done (by kernel_rfl) ?_
              refine NoPanic.normal ?_
              try dsimp only
              rw [hx0, hx1, hx2, hx3, hx4, hx5, hx6, hx7, hx8, hx9, hx10, hx11, hx12, hx13]
              have ER22 := Lib.hid hb
              clear hx0 hx1 hx2 hx3 hx4 hx5 hx6 hx7 hx8 hx9 hx10 hx11 hx12 hx13 hd hb
              have ES3 : Hid (Below wQ1.heap.size wQ1 wx) := ES2.out.trans (ER22.out.mono ES2.out.size)
              go_wp2
              rw [← HF9.out]
              go_roundw
              case rel => exact ⟨k + 1, by omega, by go_num, by rw [HM2.out]; go_num, ES3⟩
              case measure => first | (simp [intOf]; done) | (simp [intOf]; omega)
          obtain rfl : k = n5 := by omega
          have HMF : Hid (manyW (E3.take k) x9 = if firstW cs x9 < m then 1 else 0) := by
            show _ = _
            rw [List.take_of_length_le (by rw [HN5.out]; exact Nat.le_refl _), ← HE3.out, ← HM.out]
            exact manyW_fire l cs x9 HRT.out.once HIN.out
          obtain ⟨M9, hM9⟩ : ∃ q, manyW (E3.take k) x9 = q := ⟨_, rfl⟩
          rw [hM9] at HMF ⊢
          clear hM9
          go_wp2
          go_loopw [13] (fun x wq => ∃ j : Nat, j ≤ n4 ∧ x = .int .i64 (j : Int) ∧ Hid (Below wQ2.heap.size wQ2 wq)) (fun x _ => n4 - (intOf x).toNat)
          case atStart => exact ⟨0, by omega, rfl, Below.refl _ _⟩
          case round =>
            obtain ⟨j, hj, rfl, ET⟩ := hrel
            obtain ⟨wQ3, rfl⟩ : ∃ q, q = wr := ⟨_, rfl⟩
            have P10_w := Lib.hid (P9_w.out.trans (ET.out.mono P9_w.out.size))
            clear P9_w
            have P10_y0 := Lib.hid (P9_y0.out.trans (ET.out.mono P9_y0.out.size))
            clear P9_y0
            have P10_W1 := Lib.hid (P9_W1.out.trans (ET.out.mono P9_W1.out.size))
            clear P9_W1
            have P10_W2 := Lib.hid (P9_W2.out.trans (ET.out.mono P9_W2.out.size))
            clear P9_W2
            have P10_W3 := Lib.hid (P9_W3.out.trans (ET.out.mono P9_W3.out.size))
            clear P9_W3
            have P10_W4 := Lib.hid (P9_W4.out.trans (ET.out.mono P9_W4.out.size))
            clear P9_W4
            have P10_W5 := Lib.hid (P9_W5.out.trans (ET.out.mono P9_W5.out.size))
            clear P9_W5
            have P10_wO := Lib.hid (P9_wO.out.trans (ET.out.mono P9_wO.out.size))
            clear P9_wO
            have P10_wb := Lib.hid (P9_wb.out.trans (ET.out.mono P9_wb.out.size))
            clear P9_wb
            have P10_wQ1 := Lib.hid (ES.out.trans (ET.out.mono ES.out.size))
            have c_Y3 := (ZX3.out.below P10_W5.out ZX3.out.lt).cell 0
            by_cases hj2 : j < n4
            · have zj : (j : Int) < (n4 : Int) := by omega
              obtain ⟨b, hA2, q0, q1, q2⟩ := ((ZR3.out.below P10_W5.out).more P10_W5.out.size).atWa j (by rw [HN4.out]; exact hj2)
              subst hA2
              clear q0 q1 q2
              obtain ⟨y9, hy9⟩ : ∃ e, L3.getD j wa0 = e := ⟨_, rfl⟩
              have HY9 := Lib.hid hy9
              have HYM : Hid (y9 ∈ leftW l cs) := by
                show _ ∈ _
                rw [HL3.out, ← hy9]
                exact getD_memW L3 wa0 j (by rw [HN4.out]; exact hj2)
              clear hy9
              obtain ⟨B, hB⟩ : ∃ B, decide (y9 = x9) = B := ⟨_, rfl⟩
              have HBB := Lib.hid hB
              have HBF : Hid (B = true → F9 < 0) := by
                intro hb
                rw [← hB, decide_eq_true_eq] at hb
                have h1 := ((leftW_mem l cs y9).1 HYM.out).2
                rw [hb] at h1
                rw [HFZ.out, if_neg]
                · decide
                · intro h2
                  have h3 : decide (firstW cs x9 < cs.length) = true := by rw [HM.out]; exact decide_eq_true h2
                  rw [firstW_any, List.any_eq_true] at h3
                  obtain ⟨c, hc, h4⟩ := h3
                  rw [h1 c hc] at h4
                  cases h4
              clear hB
              go_wp2
              clear c_Y3
              have VZR3 := Lib.hid ((ZR3.out.below P10_W5.out).more P10_W5.out.size)
              have VZX3 := Lib.hid (ZX3.out.below P10_W5.out ZX3.out.lt)
              have VXB := Lib.hid (XB.out.below P10_wb.out XB.out.lt)
              cases B
              · skip
                refine wp_region_rely2 11 0 (fun x => ⟨#[.agg #[Value.slice (some a) n cp], .slice A2 m cp2, .pointer (some { block := gb0, off := 0 }), undef, u4, .pointer (some { block := vg5, off := 0 }), .slice A5 k c5, .int IntKind.i64 ↑i, .pointer (some { block := gA, off := 0 }), .int IntKind.i64 F9, .int IntKind.i64 (-1), .int IntKind.i64 ↑M9, .int IntKind.i64 ↑k, .int IntKind.i64 ↑j, .agg #[Value.slice (some a) n cp], .bool true, .bool false, .bool false, .agg #[Value.slice (some a) n cp], .agg #[vp], .bool true, .bool false, .bool false, .bool false, .slice A2 m cp2, .bool true, .bool false, .bool false, undef, .tuple #[Value.agg #[Value.slice (some b) n4 c4], Value.slice A5 k c5], .agg #[Value.slice (some a) n cp], .slice A2 m cp2, .tuple #[Value.agg #[Value.slice (some b) n4 c4], Value.slice A5 k c5], .agg #[Value.slice (some b) n4 c4], .slice A5 k c5, .pointer (some { block := vg5, off := 0 }), .slice (some b) n4 c4, .int IntKind.i64 ↑n4, .slice A5 k c5, .int IntKind.i64 ↑k, .int IntKind.i64 ↑n, .pointer (some { block := gb0, off := 0 }), .slice (some a) n cp, .int IntKind.i64 ↑n, .bool false, .int IntKind.i64 ↑i, .pointer (some { block := gb0, off := 0 }), .slice (some a) n cp, .int IntKind.i64 ↑n, .bool true, u50, u51, .pointer (some { block := gb0, off := 0 }), .slice (some a) n cp, .int IntKind.i64 ↑i, .pointer (some (a.add (i * 3))), .agg #[txt (wP x9), Value.int IntKind.i64 (wC x9), Value.bool (wK x9)], .slice A2 m cp2, .int IntKind.i64 ↑m, .int IntKind.i64 (↑m - 1), .int IntKind.i64 (-1), .bool false, u62, u63, u64, u65, u66, u67, u68, u69, u70, .int IntKind.i64 ↑k, .slice A5 k c5, .int IntKind.i64 ↑k, .bool false, u75, u76, u77, u78, u79, u80, u81, u82, u83, u84, u85, u86, u87, u88, u89, u90, u91, u92, u93, u94, u95, u96, u97, u98, u99, .int IntKind.i64 ↑j, .pointer (some { block := vg5, off := 0 }), .slice (some b) n4 c4, .int IntKind.i64 ↑n4, .bool true, u105, u106, x 0, x 1, x 2, x 3, x 4, x 5, x 6, x 7, x 8, x 9, x 10, u118, u119, u120, u121, u122, u123, u124, u125, u126, u127, undef], []⟩) (fun jj => ([eqV (.pointer (some ⟨vg5, 0, none⟩)), eqV (.slice (some b) n4 c4), eqV (.int IntKind.i64 ↑j), eqV (.pointer (some (b.add (j * 3)))), eqV (.agg (wac y9).toArray), eqV (.agg (wac x9).toArray), eqV (.bool false), eqV (.bool false), (eqV undef), (eqV undef), eqV (.bool false)] : List (Value → World → Prop)).getD jj (fun _ _ => True)) rfl ⟨fun kk => [_, _, _, _, _, _, _, _, _, _, _].getD kk undef, rfl⟩ (by kernel_rfl) (by kernel_rfl) ?steps ?fin
                case steps =>
                  refine StepsAt.val 0 (.pointer (some ⟨vg5, 0, none⟩)) rfl (fun _ _ => rfl) rfl rfl (fun x wx hb hd => ?_) ?_
                  · first | (go_simp; done) | (go_simp; rfl)
                  refine StepsAt.val 1 (.slice (some b) n4 c4) rfl (fun _ _ => rfl) rfl rfl (fun x wx hb hd => ?_) ?_
                  · have h0 : x 0 = .pointer (some ⟨vg5, 0, none⟩) := hd 0 (by kernel_rfl)
                    have cc := ((VZX3.out.below hb VZX3.out.lt).cell 0).trans (show _ = some (.slice (some b) n4 c4) from rfl)
                    rw [h0]
                    first | (go_simp; done) | (go_simp; rfl)
                  refine StepsAt.val 2 (.int IntKind.i64 ↑j) rfl (fun _ _ => rfl) rfl rfl (fun x wx hb hd => ?_) ?_
                  · first | (go_simp; done) | (go_simp; rfl)
                  refine StepsAt.val 3 (.pointer (some (b.add (j * 3)))) rfl (fun _ _ => rfl) rfl rfl (fun x wx hb hd => ?_) ?_
                  · have h1 : x 1 = .slice (some b) n4 c4 := hd 1 (by kernel_rfl)
                    have h2 : x 2 = .int IntKind.i64 ↑j := hd 2 (by kernel_rfl)
                    rw [h1, h2]
                    first | (go_simp; done) | (go_simp; rfl)
                  refine StepsAt.val 4 (.agg (wac y9).toArray) rfl (fun _ _ => rfl) rfl rfl (fun x wx hb hd => ?_) ?_
                  · have h3 : x 3 = .pointer (some (b.add (j * 3))) := hd 3 (by kernel_rfl)
                    obtain ⟨b9, hA9, cc0, cc1, cc2⟩ := (VZR3.out.below hb).atWa j (by rw [HN4.out]; exact hj2)
                    obtain rfl : b = b9 := Option.some.inj hA9
                    rw [HY9.out] at cc0 cc1 cc2
                    rw [h3]
                    first | (go_simp; done) | (go_simp; rfl)
                  refine StepsAt.val 5 (.agg (wac x9).toArray) rfl (fun _ _ => rfl) rfl rfl (fun x wx hb hd => ?_) ?_
                  · have cc := (VXB.out.below hb VXB.out.lt).at_ 0 _ rfl
                    have cd := (VXB.out.below hb VXB.out.lt).at_ 1 _ rfl
                    have ce := (VXB.out.below hb VXB.out.lt).at_ 2 _ rfl
                    first | (go_simp; done) | (go_simp; rfl)
                  refine StepsAt.val 6 (.bool false) rfl (fun _ _ => rfl) rfl rfl (fun x wx hb hd => ?_) ?_
                  · have h4 : x 4 = .agg (wac y9).toArray := hd 4 (by kernel_rfl)
                    have h5 : x 5 = .agg (wac x9).toArray := hd 5 (by kernel_rfl)
                    have hne := run_eqlWaP y9 x9
                    rw [HBB.out] at hne
                    have e4 : x 4 = .agg #[txt (wP y9), .int .i64 (wC y9), .bool (wK y9)] := h4
                    have e5 : x 5 = .agg #[txt (wP x9), .int .i64 (wC x9), .bool (wK x9)] := h5
                    rw [e4, e5]
                    first | (go_simp; done) | (go_simp; rfl) | (go_simp; simp)
                  refine StepsAt.val 7 (.bool false) rfl (fun _ _ => rfl) rfl rfl (fun x wx hb hd => ?_) ?_
                  · have h6 : x 6 = .bool false := hd 6 (by kernel_rfl)
                    rw [h6]
                    first | (go_simp; done) | (go_simp; rfl)
                  refine StepsAt.skip 8 rfl (fun _ _ => rfl) rfl (fun x wx hd => ?_) ?_
                  · have hG : x 7 = .bool false := hd 7 (by kernel_rfl)
                    simp [Region.wanted, yielded, hG]
                  refine StepsAt.skip 9 rfl (fun _ _ => rfl) rfl (fun x wx hd => ?_) ?_
                  · have hG : x 7 = .bool false := hd 7 (by kernel_rfl)
                    simp [Region.wanted, yielded, hG]
                  refine StepsAt.val 10 (.bool false) rfl (fun _ _ => rfl) rfl rfl (fun x wx hb hd => ?_) ?_
                  · have h7 : x 7 = .bool false := hd 7 (by kernel_rfl)
                    have h9 : x 9 = undef := hd 9 (by kernel_rfl)
                    rw [h7, h9]
                    first | (go_simp; done) | (go_simp; rfl)
                  exact StepsAt.done
                case fin =>
                  intro xx wx hb hd
                  have hx0 : xx 0 = .pointer (some ⟨vg5, 0, none⟩) := hd 0 (by omega)
                  have hx1 : xx 1 = .slice (some b) n4 c4 := hd 1 (by omega)
                  have hx2 : xx 2 = .int IntKind.i64 ↑j := hd 2 (by omega)
                  have hx3 : xx 3 = .pointer (some (b.add (j * 3))) := hd 3 (by omega)
                  have hx4 : xx 4 = .agg (wac y9).toArray := hd 4 (by omega)
                  have hx5 : xx 5 = .agg (wac x9).toArray := hd 5 (by omega)
                  have hx6 : xx 6 = .bool false := hd 6 (by omega)
                  have hx7 : xx 7 = .bool false := hd 7 (by omega)
                  have hx8 : xx 8 = undef := hd 8 (by omega)
                  have hx9 : xx 9 = undef := hd 9 (by omega)
                  have hx10 : xx 10 = .bool false := hd 10 (by omega)
                  refine AnyTill.any (S := fun _ => True) (m := 11) _ _ _ _ ?_
                  refine AnyTill.done (by kernel_rfl) ?_
                  refine NoPanic.normal ?_
                  try dsimp only
                  rw [hx0, hx1, hx2, hx3, hx4, hx5, hx6, hx7, hx8, hx9, hx10]
                  have ER27 := Lib.hid hb
                  clear hx0 hx1 hx2 hx3 hx4 hx5 hx6 hx7 hx8 hx9 hx10 hd hb
                  have ET2 : Hid (Below wQ2.heap.size wQ2 wx) := ET.out.trans (ER27.out.mono ET.out.size)
                  go_wp2
                  go_roundw
                  case rel => exact ⟨j + 1, by omega, by go_num, ET2⟩
                  case measure => first | (simp [intOf]; done) | (simp [intOf]; omega)
              · have hfn := HBF.out rfl
                have hfg : ¬ (0 ≤ F9) := by omega
                refine wp_region_rely2 11 0 (fun x => ⟨#[.agg #[Value.slice (some a) n cp], .slice A2 m cp2, .pointer (some { block := gb0, off := 0 }), undef, u4, .pointer (some { block := vg5, off := 0 }), .slice A5 k c5, .int IntKind.i64 ↑i, .pointer (some { block := gA, off := 0 }), .int IntKind.i64 F9, .int IntKind.i64 (-1), .int IntKind.i64 ↑M9, .int IntKind.i64 ↑k, .int IntKind.i64 ↑j, .agg #[Value.slice (some a) n cp], .bool true, .bool false, .bool false, .agg #[Value.slice (some a) n cp], .agg #[vp], .bool true, .bool false, .bool false, .bool false, .slice A2 m cp2, .bool true, .bool false, .bool false, undef, .tuple #[Value.agg #[Value.slice (some b) n4 c4], Value.slice A5 k c5], .agg #[Value.slice (some a) n cp], .slice A2 m cp2, .tuple #[Value.agg #[Value.slice (some b) n4 c4], Value.slice A5 k c5], .agg #[Value.slice (some b) n4 c4], .slice A5 k c5, .pointer (some { block := vg5, off := 0 }), .slice (some b) n4 c4, .int IntKind.i64 ↑n4, .slice A5 k c5, .int IntKind.i64 ↑k, .int IntKind.i64 ↑n, .pointer (some { block := gb0, off := 0 }), .slice (some a) n cp, .int IntKind.i64 ↑n, .bool false, .int IntKind.i64 ↑i, .pointer (some { block := gb0, off := 0 }), .slice (some a) n cp, .int IntKind.i64 ↑n, .bool true, u50, u51, .pointer (some { block := gb0, off := 0 }), .slice (some a) n cp, .int IntKind.i64 ↑i, .pointer (some (a.add (i * 3))), .agg #[txt (wP x9), Value.int IntKind.i64 (wC x9), Value.bool (wK x9)], .slice A2 m cp2, .int IntKind.i64 ↑m, .int IntKind.i64 (↑m - 1), .int IntKind.i64 (-1), .bool false, u62, u63, u64, u65, u66, u67, u68, u69, u70, .int IntKind.i64 ↑k, .slice A5 k c5, .int IntKind.i64 ↑k, .bool false, u75, u76, u77, u78, u79, u80, u81, u82, u83, u84, u85, u86, u87, u88, u89, u90, u91, u92, u93, u94, u95, u96, u97, u98, u99, .int IntKind.i64 ↑j, .pointer (some { block := vg5, off := 0 }), .slice (some b) n4 c4, .int IntKind.i64 ↑n4, .bool true, u105, u106, x 0, x 1, x 2, x 3, x 4, x 5, x 6, x 7, x 8, x 9, x 10, u118, u119, u120, u121, u122, u123, u124, u125, u126, u127, undef], []⟩) (fun jj => ([eqV (.pointer (some ⟨vg5, 0, none⟩)), eqV (.slice (some b) n4 c4), eqV (.int IntKind.i64 ↑j), eqV (.pointer (some (b.add (j * 3)))), eqV (.agg (wac y9).toArray), eqV (.agg (wac x9).toArray), eqV (.bool true), eqV (.bool true), eqV (.int IntKind.i64 F9), eqV (.bool false), eqV (.bool false)] : List (Value → World → Prop)).getD jj (fun _ _ => True)) rfl ⟨fun kk => [_, _, _, _, _, _, _, _, _, _, _].getD kk undef, rfl⟩ (by kernel_rfl) (by kernel_rfl) ?steps ?fin
                case steps =>
                  refine StepsAt.val 0 (.pointer (some ⟨vg5, 0, none⟩)) rfl (fun _ _ => rfl) rfl rfl (fun x wx hb hd => ?_) ?_
                  · first | (go_simp; done) | (go_simp; rfl)
                  refine StepsAt.val 1 (.slice (some b) n4 c4) rfl (fun _ _ => rfl) rfl rfl (fun x wx hb hd => ?_) ?_
                  · have h0 : x 0 = .pointer (some ⟨vg5, 0, none⟩) := hd 0 (by kernel_rfl)
                    have cc := ((VZX3.out.below hb VZX3.out.lt).cell 0).trans (show _ = some (.slice (some b) n4 c4) from rfl)
                    rw [h0]
                    first | (go_simp; done) | (go_simp; rfl)
                  refine StepsAt.val 2 (.int IntKind.i64 ↑j) rfl (fun _ _ => rfl) rfl rfl (fun x wx hb hd => ?_) ?_
                  · first | (go_simp; done) | (go_simp; rfl)
                  refine StepsAt.val 3 (.pointer (some (b.add (j * 3)))) rfl (fun _ _ => rfl) rfl rfl (fun x wx hb hd => ?_) ?_
                  · have h1 : x 1 = .slice (some b) n4 c4 := hd 1 (by kernel_rfl)
                    have h2 : x 2 = .int IntKind.i64 ↑j := hd 2 (by kernel_rfl)
                    rw [h1, h2]
                    first | (go_simp; done) | (go_simp; rfl)
                  refine StepsAt.val 4 (.agg (wac y9).toArray) rfl (fun _ _ => rfl) rfl rfl (fun x wx hb hd => ?_) ?_
                  · have h3 : x 3 = .pointer (some (b.add (j * 3))) := hd 3 (by kernel_rfl)
                    obtain ⟨b9, hA9, cc0, cc1, cc2⟩ := (VZR3.out.below hb).atWa j (by rw [HN4.out]; exact hj2)
                    obtain rfl : b = b9 := Option.some.inj hA9
                    rw [HY9.out] at cc0 cc1 cc2
                    rw [h3]
                    first | (go_simp; done) | (go_simp; rfl)
                  refine StepsAt.val 5 (.agg (wac x9).toArray) rfl (fun _ _ => rfl) rfl rfl (fun x wx hb hd => ?_) ?_
                  · have cc := (VXB.out.below hb VXB.out.lt).at_ 0 _ rfl
                    have cd := (VXB.out.below hb VXB.out.lt).at_ 1 _ rfl
                    have ce := (VXB.out.below hb VXB.out.lt).at_ 2 _ rfl
                    first | (go_simp; done) | (go_simp; rfl)
                  refine StepsAt.val 6 (.bool true) rfl (fun _ _ => rfl) rfl rfl (fun x wx hb hd => ?_) ?_
                  · have h4 : x 4 = .agg (wac y9).toArray := hd 4 (by kernel_rfl)
                    have h5 : x 5 = .agg (wac x9).toArray := hd 5 (by kernel_rfl)
                    have hne := run_eqlWaP y9 x9
                    rw [HBB.out] at hne
                    have e4 : x 4 = .agg #[txt (wP y9), .int .i64 (wC y9), .bool (wK y9)] := h4
                    have e5 : x 5 = .agg #[txt (wP x9), .int .i64 (wC x9), .bool (wK x9)] := h5
                    rw [e4, e5]
                    first | (go_simp; done) | (go_simp; rfl) | (go_simp; simp)
                  refine StepsAt.val 7 (.bool true) rfl (fun _ _ => rfl) rfl rfl (fun x wx hb hd => ?_) ?_
                  · have h6 : x 6 = .bool true := hd 6 (by kernel_rfl)
                    rw [h6]
                    first | (go_simp; done) | (go_simp; rfl)
                  refine StepsAt.valG 8 (.int IntKind.i64 F9) rfl (fun _ _ => rfl) rfl (fun x wx hd => ?_) (fun x wx hb hd => ?_) ?_
                  · have hG : x 7 = .bool true := hd 7 (by kernel_rfl)
                    simp [Region.wanted, yielded, hG]
                  · first | (go_simp; done) | (go_simp; rfl)
                  refine StepsAt.valG 9 (.bool false) rfl (fun _ _ => rfl) rfl (fun x wx hd => ?_) (fun x wx hb hd => ?_) ?_
                  · have hG : x 7 = .bool true := hd 7 (by kernel_rfl)
                    simp [Region.wanted, yielded, hG]
                  · have h8 : x 8 = .int IntKind.i64 F9 := hd 8 (by kernel_rfl)
                    rw [h8]
                    first | (go_simp; done) | (go_simp; rfl) | (go_simp; simp)
                  refine StepsAt.val 10 (.bool false) rfl (fun _ _ => rfl) rfl rfl (fun x wx hb hd => ?_) ?_
                  · have h7 : x 7 = .bool true := hd 7 (by kernel_rfl)
                    have h9 : x 9 = .bool false := hd 9 (by kernel_rfl)
                    rw [h7, h9]
                    first | (go_simp; done) | (go_simp; rfl)
                  exact StepsAt.done
                case fin =>
                  intro xx wx hb hd
                  have hx0 : xx 0 = .pointer (some ⟨vg5, 0, none⟩) := hd 0 (by omega)
                  have hx1 : xx 1 = .slice (some b) n4 c4 := hd 1 (by omega)
                  have hx2 : xx 2 = .int IntKind.i64 ↑j := hd 2 (by omega)
                  have hx3 : xx 3 = .pointer (some (b.add (j * 3))) := hd 3 (by omega)
                  have hx4 : xx 4 = .agg (wac y9).toArray := hd 4 (by omega)
                  have hx5 : xx 5 = .agg (wac x9).toArray := hd 5 (by omega)
                  have hx6 : xx 6 = .bool true := hd 6 (by omega)
                  have hx7 : xx 7 = .bool true := hd 7 (by omega)
                  have hx8 : xx 8 = .int IntKind.i64 F9 := hd 8 (by omega)
                  have hx9 : xx 9 = .bool false := hd 9 (by omega)
                  have hx10 : xx 10 = .bool false := hd 10 (by omega)
                  refine AnyTill.any (S := fun _ => True) (m := 11) _ _ _ _ ?_
                  refine AnyTill.done (by kernel_rfl) ?_
                  refine NoPanic.normal ?_
                  try dsimp only
                  rw [hx0, hx1, hx2, hx3, hx4, hx5, hx6, hx7, hx8, hx9, hx10]
                  have ER27 := Lib.hid hb
                  clear hx0 hx1 hx2 hx3 hx4 hx5 hx6 hx7 hx8 hx9 hx10 hd hb
                  have ET2 : Hid (Below wQ2.heap.size wQ2 wx) := ET.out.trans (ER27.out.mono ET.out.size)
                  go_wp2
                  go_roundw
                  case rel => exact ⟨j + 1, by omega, by go_num, ET2⟩
                  case measure => first | (simp [intOf]; done) | (simp [intOf]; omega)
            obtain rfl : j = n4 := by omega
            by_cases hfm : firstW cs x9 < m
            · have hm9 := HMF.out
              rw [if_pos hfm] at hm9
              subst hm9
              have hf9 : 0 ≤ F9 := by
                rw [HFZ.out, if_pos hfm]
                omega
              go_wp2
              go_roundw
              case rel => exact ⟨i + 1, by omega, by go_num, P10_W5⟩
              case measure => first | (simp [intOf]; done) | (simp [intOf]; omega)
            · have hm9 := HMF.out
              rw [if_neg hfm] at hm9
              subst hm9
              have hf9 : ¬ 0 ≤ F9 := by
                rw [HFZ.out, if_neg hfm]
                decide
              go_wp2
              go_roundw
              case rel => exact ⟨i + 1, by omega, by go_num, P10_W5⟩
              case measure => first | (simp [intOf]; done) | (simp [intOf]; omega)
    obtain rfl : i = n := by omega
    go_wp2_with fail
    refine (alive11 wO).mono ?_
    rintro e W7 ⟨rfl, hb⟩
    have E7 := Lib.hid hb
    clear hb
    have P7_w := Lib.hid (P6_w.out.trans (E7.out.mono P6_w.out.size))
    clear P6_w
    have P7_y0 := Lib.hid (P6_y0.out.trans (E7.out.mono P6_y0.out.size))
    clear P6_y0
    have P7_W1 := Lib.hid (P6_W1.out.trans (E7.out.mono P6_W1.out.size))
    clear P6_W1
    have P7_W2 := Lib.hid (P6_W2.out.trans (E7.out.mono P6_W2.out.size))
    clear P6_W2
    have P7_W3 := Lib.hid (P6_W3.out.trans (E7.out.mono P6_W3.out.size))
    clear P6_W3
    have P7_W4 := Lib.hid (P6_W4.out.trans (E7.out.mono P6_W4.out.size))
    clear P6_W4
    have P7_W5 := Lib.hid (EL.out.trans (E7.out.mono EL.out.size))
    go_wp2
    go_ret
    exact ⟨rfl, P7_w.out⟩
end Go.Proofs.Ytmiomfonglmfjaa
