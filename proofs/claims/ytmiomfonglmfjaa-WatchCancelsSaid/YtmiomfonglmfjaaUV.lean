/-
  The statements on tables: WatchCancels.
-/
import Derived.Test.YtmiomfonglmfjaaUT
import Derived.Test.YtmiomfonglmfjaaR9
namespace Go.Proofs.Ytmiomfonglmfjaa
open Go.RowKit
/-- The events of all other clients. -/
def elseW (m : List Ev) (z : Int) : List Ev := m.filter fun e => decide (wC e.1 ≠ z)
theorem elseW_snoc (m : List Ev) (z : Int) (i : Nat) (hi : i < m.length) : elseW (m.take (i + 1)) z = elseW (m.take i) z ++ (if wC (m.getD i ev0).1 = z then [] else [m.getD i ev0]) := by
  unfold elseW
  rw [take_snocW m ev0 i hi, List.filter_append]
  congr 1
  by_cases h : wC (m.getD i ev0).1 = z
  · rw [if_pos h, List.filter_cons, if_neg (by simpa using h)]; rfl
  · rw [if_neg h, List.filter_cons, if_pos (by simpa using h)]; rfl
theorem elseW_le (m : List Ev) (z : Int) (i : Nat) : (elseW (m.take i) z).length ≤ i := Nat.le_trans (List.length_filter_le _ _) (List.length_take_le i m)
def anyC (cs : List Ch) (x : Wa) : Bool := cs.any fun c => touchB c x
def anyE (m : List Ev) (x : Wa) : Bool := m.any fun e => decide (e.1 = x)
theorem anyC_snoc (cs : List Ch) (x : Wa) (i : Nat) (hi : i < cs.length) : anyC (cs.take (i + 1)) x = (anyC (cs.take i) x || touchB (cs.getD i ch0) x) := by
  unfold anyC
  rw [take_snocW cs ch0 i hi, List.any_append]
  simp
theorem anyE_snoc (m : List Ev) (x : Wa) (i : Nat) (hi : i < m.length) : anyE (m.take (i + 1)) x = (anyE (m.take i) x || decide ((m.getD i ev0).1 = x)) := by
  unfold anyE
  rw [take_snocW m ev0 i hi, List.any_append]
  simp

set_option maxRecDepth 1000000 in
set_option maxHeartbeats 16000000 in
theorem cancelsW_all (v : Value) (l : List Wa) (q : Wa) (u : Value) (cs : List Ch) (w : World) (hr : RdE WaK w.heap.size w v l) (hr' : RdE ChK w.heap.size w u cs) : Calls Try.prog 7 #[.agg #[v], .agg (wac q).toArray, u] w (One (.bool true) w) := by
  obtain ⟨A2, cp2, rfl, hc2, hm2⟩ := hr'.shape
  unfold maxLen at hm2
  have HR := Lib.hid hr
  have HC := Lib.hid hr'
  obtain ⟨m, hk⟩ : ∃ n, cs.length = n := ⟨_, rfl⟩
  have HM := Lib.hid hk
  obtain ⟨u, hu⟩ : ∃ q1, Value.slice A2 cs.length cp2 = q1 := ⟨_, rfl⟩
  have HU := Lib.hid hu
  rw [hk] at HU hc2
  rw [hu] at HC ⊢
  obtain ⟨kp, hkp⟩ : ∃ k, (wP q).length = k := ⟨_, rfl⟩
  have hkz : (⟨(wP q).toArray⟩ : ByteArray).size = kp := hkp
  clear hr hr' hk hu hkp
  go_enter Try.func7, Try.ntmps7
  go_wp2_with (refine wpList_box_blk rfl 24 _ rfl [v] rfl ?_)
  intro y0 b1 b2 b3
  obtain ⟨gb0, hg⟩ : ∃ g, w.heap.size = g := ⟨_, rfl⟩
  have X0 := Lib.hid b1
  have EB0 := Lib.hid b3
  rw [hg] at X0 ⊢
  clear b1 b2 b3 hg
  go_wp2_with (refine wpList_box_blk rfl 31 _ rfl (wac q) rfl ?_)
  intro y1 b1 b2 b3
  obtain ⟨gb1, hg⟩ : ∃ g, y0.heap.size = g := ⟨_, rfl⟩
  have XQ := Lib.hid b1
  have EB1 := Lib.hid b3
  rw [hg] at XQ ⊢
  clear b1 b2 b3 hg
  have P0_w := Lib.hid (EB0.out.trans (EB1.out.mono EB0.out.size))
  have c_X0 := (X0.out.below EB1.out X0.out.lt).at_ 0 _ rfl
  go_wp2_with fail
  refine (fewW_any l v y1 ((HR.out.below P0_w.out).more P0_w.out.size)).mono ?_
  rintro e W1 ⟨rfl, hb⟩
  have E1 := Lib.hid hb
  clear hb c_X0
  have P1_w := Lib.hid (P0_w.out.trans (E1.out.mono P0_w.out.size))
  clear P0_w
  have P1_y0 := Lib.hid (EB1.out.trans (E1.out.mono EB1.out.size))
  cases hF : fewB l
  · clear hF
    go_wp2_with fail
    refine (alive11 W1).mono ?_
    rintro e W2 ⟨rfl, hb⟩
    have E2 := Lib.hid hb
    clear hb
    have P2_w := Lib.hid (P1_w.out.trans (E2.out.mono P1_w.out.size))
    clear P1_w
    have P2_y0 := Lib.hid (P1_y0.out.trans (E2.out.mono P1_y0.out.size))
    clear P1_y0
    have P2_y1 := Lib.hid (E1.out.trans (E2.out.mono E1.out.size))
    go_wp2
    go_ret
    exact ⟨rfl, P2_w.out⟩
  have HL := Lib.hid (few_len hF)
  clear hF
  have c_X0 := (X0.out.below P1_y0.out X0.out.lt).at_ 0 _ rfl
  go_wp2_with fail
  refine (plainW_any l v W1 ((HR.out.below P1_w.out).more P1_w.out.size) (by have := HL.out; omega)).mono ?_
  rintro e W2 ⟨vp, rfl, hrd, hb⟩
  have E2 := Lib.hid hb
  clear hb c_X0
  have P2_w := Lib.hid (P1_w.out.trans (E2.out.mono P1_w.out.size))
  clear P1_w
  have P2_y0 := Lib.hid (P1_y0.out.trans (E2.out.mono P1_y0.out.size))
  clear P1_y0
  have P2_y1 := Lib.hid (E1.out.trans (E2.out.mono E1.out.size))
  have RP := Lib.hid hrd
  clear hrd
  go_wp2_with fail
  refine (rfRightW_any l vp W2 RP.out).mono ?_
  rintro e W3 ⟨rfl, hb⟩
  have E3 := Lib.hid hb
  clear hb
  have P3_w := Lib.hid (P2_w.out.trans (E3.out.mono P2_w.out.size))
  clear P2_w
  have P3_y0 := Lib.hid (P2_y0.out.trans (E3.out.mono P2_y0.out.size))
  clear P2_y0
  have P3_y1 := Lib.hid (P2_y1.out.trans (E3.out.mono P2_y1.out.size))
  clear P2_y1
  have P3_W1 := Lib.hid (E2.out.trans (E3.out.mono E2.out.size))
  cases hG : rightW l
  · clear hG
    go_wp2_with fail
    refine (alive11 W3).mono ?_
    rintro e W4 ⟨rfl, hb⟩
    have E4 := Lib.hid hb
    clear hb
    have P4_w := Lib.hid (P3_w.out.trans (E4.out.mono P3_w.out.size))
    clear P3_w
    have P4_y0 := Lib.hid (P3_y0.out.trans (E4.out.mono P3_y0.out.size))
    clear P3_y0
    have P4_y1 := Lib.hid (P3_y1.out.trans (E4.out.mono P3_y1.out.size))
    clear P3_y1
    have P4_W1 := Lib.hid (P3_W1.out.trans (E4.out.mono P3_W1.out.size))
    clear P3_W1
    have P4_W2 := Lib.hid (E3.out.trans (E4.out.mono E3.out.size))
    go_wp2
    go_ret
    exact ⟨rfl, P4_w.out⟩
  have HRT := Lib.hid ((rightW_iff l).1 hG)
  clear hG
  go_wp2_with fail
  refine (shortW_any cs u W3 ((HC.out.below P3_w.out).more P3_w.out.size)).mono ?_
  rintro e W4 ⟨rfl, hb⟩
  have E4 := Lib.hid hb
  clear hb
  have P4_w := Lib.hid (P3_w.out.trans (E4.out.mono P3_w.out.size))
  clear P3_w
  have P4_y0 := Lib.hid (P3_y0.out.trans (E4.out.mono P3_y0.out.size))
  clear P3_y0
  have P4_y1 := Lib.hid (P3_y1.out.trans (E4.out.mono P3_y1.out.size))
  clear P3_y1
  have P4_W1 := Lib.hid (P3_W1.out.trans (E4.out.mono P3_W1.out.size))
  clear P3_W1
  have P4_W2 := Lib.hid (E3.out.trans (E4.out.mono E3.out.size))
  cases hF : shortB cs
  · clear hF
    go_wp2_with fail
    refine (alive11 W4).mono ?_
    rintro e W5 ⟨rfl, hb⟩
    have E5 := Lib.hid hb
    clear hb
    have P5_w := Lib.hid (P4_w.out.trans (E5.out.mono P4_w.out.size))
    clear P4_w
    have P5_y0 := Lib.hid (P4_y0.out.trans (E5.out.mono P4_y0.out.size))
    clear P4_y0
    have P5_y1 := Lib.hid (P4_y1.out.trans (E5.out.mono P4_y1.out.size))
    clear P4_y1
    have P5_W1 := Lib.hid (P4_W1.out.trans (E5.out.mono P4_W1.out.size))
    clear P4_W1
    have P5_W2 := Lib.hid (P4_W2.out.trans (E5.out.mono P4_W2.out.size))
    clear P4_W2
    have P5_W3 := Lib.hid (E4.out.trans (E5.out.mono E4.out.size))
    go_wp2
    go_ret
    exact ⟨rfl, P5_w.out⟩
  have HS := Lib.hid (short_len hF)
  clear hF
  have c_XQ := (XQ.out.below P4_y1.out XQ.out.lt).at_ 0 _ rfl
  have c_XQ_1 := (XQ.out.below P4_y1.out XQ.out.lt).at_ 1 _ rfl
  have c_XQ_2 := (XQ.out.below P4_y1.out XQ.out.lt).at_ 2 _ rfl
  by_cases hkl : (300 : Int) < (kp : Int)
  · go_wp2_with fail
    refine (alive11 W4).mono ?_
    rintro e W5 ⟨rfl, hb⟩
    have E5 := Lib.hid hb
    clear hb c_XQ c_XQ_1 c_XQ_2
    have P5_w := Lib.hid (P4_w.out.trans (E5.out.mono P4_w.out.size))
    clear P4_w
    have P5_y0 := Lib.hid (P4_y0.out.trans (E5.out.mono P4_y0.out.size))
    clear P4_y0
    have P5_y1 := Lib.hid (P4_y1.out.trans (E5.out.mono P4_y1.out.size))
    clear P4_y1
    have P5_W1 := Lib.hid (P4_W1.out.trans (E5.out.mono P4_W1.out.size))
    clear P4_W1
    have P5_W2 := Lib.hid (P4_W2.out.trans (E5.out.mono P4_W2.out.size))
    clear P4_W2
    have P5_W3 := Lib.hid (E4.out.trans (E5.out.mono E4.out.size))
    go_wp2
    go_ret
    exact ⟨rfl, P5_w.out⟩
  obtain ⟨L3, hL⟩ : ∃ q1, leftW l cs = q1 := ⟨_, rfl⟩
  have HL3 := Lib.hid hL
  obtain ⟨E3, hE⟩ : ∃ q1, fireW l cs = q1 := ⟨_, rfl⟩
  have HE3 := Lib.hid hE
  have HFL3 : Hid (L3.length + E3.length = l.length) := by
    show _ = _
    rw [← hL, ← hE]
    exact fire_len l cs
  have LL3 : Hid (L3.length ≤ 60 ∧ E3.length ≤ 60) := by
    show _ ∧ _
    have h1 := HFL3.out
    have h2 := HL.out
    constructor <;> omega
  clear hL hE
  have c_X0 := (X0.out.below P4_y0.out X0.out.lt).at_ 0 _ rfl
  go_wp2_with fail
  refine (waFire_any l cs v u W4 ((HR.out.below P4_w.out).more P4_w.out.size) ((HC.out.below P4_w.out).more P4_w.out.size) HRT.out (by have := HS.out; omega)).mono ?_
  rintro e va5 ⟨v3, u3, rfl, hrd, hre, hb⟩
  clear c_XQ c_XQ_1 c_XQ_2 c_X0
  have ONE3 := Lib.hid (tab_rd hrd)
  rw [HL3.out] at hrd
  rw [HE3.out] at hre
  go_wp2_with (refine wpList_alloc_blk rfl 24 rfl [.slice none 0 0] zTbP ?_)
  intro vb5 a1 a2 a3
  obtain ⟨vg5, hg⟩ : ∃ g, va5.heap.size = g := ⟨_, rfl⟩
  have AA := Lib.hid a1
  have EB := Lib.hid (hb.trans (a3.mono hb.size))
  have A3 := Lib.hid a3
  have hbg : W4.heap.size ≤ vg5 := by have := hb.size; omega
  have hgs : vg5 ≤ vb5.heap.size := by omega
  have HG := Lib.hid hg
  have RR0 := Lib.hid hrd
  have RR1 := Lib.hid hre
  rw [hg] at AA A3 RR0 RR1 ⊢
  clear a1 a2 a3 hb hg hrd hre
  go_wp2_with (refine wpList_store_to rfl 24 _ _ rfl vg5 [v3] [.slice none 0 0] 24 rfl rfl AA.out sTbP rfl ONE3.out ?_)
  intro W5 e1 e2 e3 e4
  have X3 := Lib.hid e1
  have E5 := Lib.hid (EB.out.trans (e3.mono hbg))
  have R3 := Lib.hid (((RR0.out.below A3.out).below e3).more (show vg5 ≤ W5.heap.size by omega))
  have S3 := Lib.hid (((RR1.out.below A3.out).below e3).more (show vg5 ≤ W5.heap.size by omega))
  clear e1 e2 e3 e4 AA EB A3 hbg hgs HG RR0 RR1
  have P5_w := Lib.hid (P4_w.out.trans (E5.out.mono P4_w.out.size))
  clear P4_w
  have P5_y0 := Lib.hid (P4_y0.out.trans (E5.out.mono P4_y0.out.size))
  clear P4_y0
  have P5_y1 := Lib.hid (P4_y1.out.trans (E5.out.mono P4_y1.out.size))
  clear P4_y1
  have P5_W1 := Lib.hid (P4_W1.out.trans (E5.out.mono P4_W1.out.size))
  clear P4_W1
  have P5_W2 := Lib.hid (P4_W2.out.trans (E5.out.mono P4_W2.out.size))
  clear P4_W2
  have P5_W3 := Lib.hid (E4.out.trans (E5.out.mono E4.out.size))
  clear hkl hkz
  obtain ⟨L9, hL9⟩ : ∃ q1, cancelW l (wC q) = q1 := ⟨_, rfl⟩
  have HL9 := Lib.hid hL9
  have RT9 := Lib.hid (right_cancel l (wC q) HRT.out)
  rw [hL9] at RT9
  have LL9 : Hid (L9.length ≤ 60) := by
    show _ ≤ _
    have h3 : (cancelW l (wC q)).length ≤ l.length := List.length_filter_le _ _
    have h2 := HL.out
    rw [hL9] at h3
    omega
  clear hL9
  have c_X0 := (X0.out.below P5_y0.out X0.out.lt).at_ 0 _ rfl
  have c_XQ := (XQ.out.below P5_y1.out XQ.out.lt).at_ 0 _ rfl
  have c_XQ_1 := (XQ.out.below P5_y1.out XQ.out.lt).at_ 1 _ rfl
  have c_XQ_2 := (XQ.out.below P5_y1.out XQ.out.lt).at_ 2 _ rfl
  go_wp2_with fail
  refine (waCancel_any l (wC q) v W5 ((HR.out.below P5_w.out).more P5_w.out.size) HRT.out).mono ?_
  rintro e W6 ⟨vc, rfl, hrd, hb⟩
  have E6 := Lib.hid hb
  clear hb c_X0 c_XQ c_XQ_1 c_XQ_2
  have P6_w := Lib.hid (P5_w.out.trans (E6.out.mono P5_w.out.size))
  clear P5_w
  have P6_y0 := Lib.hid (P5_y0.out.trans (E6.out.mono P5_y0.out.size))
  clear P5_y0
  have P6_y1 := Lib.hid (P5_y1.out.trans (E6.out.mono P5_y1.out.size))
  clear P5_y1
  have P6_W1 := Lib.hid (P5_W1.out.trans (E6.out.mono P5_W1.out.size))
  clear P5_W1
  have P6_W2 := Lib.hid (P5_W2.out.trans (E6.out.mono P5_W2.out.size))
  clear P5_W2
  have P6_W3 := Lib.hid (P5_W3.out.trans (E6.out.mono P5_W3.out.size))
  clear P5_W3
  have P6_W4 := Lib.hid (E5.out.trans (E6.out.mono E5.out.size))
  have RC := Lib.hid hrd
  clear hrd
  rw [HL9.out] at RC
  obtain ⟨L4, hL⟩ : ∃ q1, leftW L9 cs = q1 := ⟨_, rfl⟩
  have HL4 := Lib.hid hL
  obtain ⟨E4, hE⟩ : ∃ q1, fireW L9 cs = q1 := ⟨_, rfl⟩
  have HE4 := Lib.hid hE
  have HFL4 : Hid (L4.length + E4.length = L9.length) := by
    show _ = _
    rw [← hL, ← hE]
    exact fire_len L9 cs
  have LL4 : Hid (L4.length ≤ 60 ∧ E4.length ≤ 60) := by
    show _ ∧ _
    have h1 := HFL4.out
    have h2 := LL9.out
    constructor <;> omega
  clear hL hE
  go_wp2_with fail
  refine (waFire_any L9 cs vc u W6 RC.out ((HC.out.below P6_w.out).more P6_w.out.size) RT9.out (by have := HS.out; omega)).mono ?_
  rintro e va7 ⟨v4, u4, rfl, hrd, hre, hb⟩
  have ONE4 := Lib.hid (tab_rd hrd)
  rw [HL4.out] at hrd
  rw [HE4.out] at hre
  go_wp2_with (refine wpList_alloc_blk rfl 24 rfl [.slice none 0 0] zTbP ?_)
  intro vb7 a1 a2 a3
  obtain ⟨vg7, hg⟩ : ∃ g, va7.heap.size = g := ⟨_, rfl⟩
  have AA := Lib.hid a1
  have EB := Lib.hid (hb.trans (a3.mono hb.size))
  have A3 := Lib.hid a3
  have hbg : W6.heap.size ≤ vg7 := by have := hb.size; omega
  have hgs : vg7 ≤ vb7.heap.size := by omega
  have HG := Lib.hid hg
  have RR0 := Lib.hid hrd
  have RR1 := Lib.hid hre
  rw [hg] at AA A3 RR0 RR1 ⊢
  clear a1 a2 a3 hb hg hrd hre
  go_wp2_with (refine wpList_store_to rfl 24 _ _ rfl vg7 [v4] [.slice none 0 0] 24 rfl rfl AA.out sTbP rfl ONE4.out ?_)
  intro W7 e1 e2 e3 e4
  have X4 := Lib.hid e1
  have E7 := Lib.hid (EB.out.trans (e3.mono hbg))
  have R4 := Lib.hid (((RR0.out.below A3.out).below e3).more (show vg7 ≤ W7.heap.size by omega))
  have S4 := Lib.hid (((RR1.out.below A3.out).below e3).more (show vg7 ≤ W7.heap.size by omega))
  clear e1 e2 e3 e4 AA EB A3 hbg hgs HG RR0 RR1
  have P7_w := Lib.hid (P6_w.out.trans (E7.out.mono P6_w.out.size))
  clear P6_w
  have P7_y0 := Lib.hid (P6_y0.out.trans (E7.out.mono P6_y0.out.size))
  clear P6_y0
  have P7_y1 := Lib.hid (P6_y1.out.trans (E7.out.mono P6_y1.out.size))
  clear P6_y1
  have P7_W1 := Lib.hid (P6_W1.out.trans (E7.out.mono P6_W1.out.size))
  clear P6_W1
  have P7_W2 := Lib.hid (P6_W2.out.trans (E7.out.mono P6_W2.out.size))
  clear P6_W2
  have P7_W3 := Lib.hid (P6_W3.out.trans (E7.out.mono P6_W3.out.size))
  clear P6_W3
  have P7_W4 := Lib.hid (P6_W4.out.trans (E7.out.mono P6_W4.out.size))
  clear P6_W4
  have P7_W5 := Lib.hid (E6.out.trans (E7.out.mono E6.out.size))
  have HEE : Hid (elseW E3 (wC q) = E4) := by
    show _ = _
    rw [← HE4.out, ← HL9.out, fire_cancel, HE3.out]
    rfl
  obtain ⟨A5, c5, h5, hc5, hm5⟩ := S3.out.shape
  obtain ⟨n5, hn5⟩ : ∃ q1, E3.length = q1 := ⟨_, rfl⟩
  have HN5 := Lib.hid hn5
  rw [hn5] at h5 hc5
  subst h5
  unfold maxLen at hm5
  clear hn5
  have ZX0 := Lib.hid (X0.out.below P7_y0.out X0.out.lt)
  have ZXQ := Lib.hid (XQ.out.below P7_y1.out XQ.out.lt)
  have ZHR := Lib.hid ((HR.out.below P7_w.out).more P7_w.out.size)
  have ZHC := Lib.hid ((HC.out.below P7_w.out).more P7_w.out.size)
  have ZS3 := Lib.hid ((S3.out.below P7_W5.out).more P7_W5.out.size)
  have ZS4 := Lib.hid S4.out
  obtain ⟨GE, hGE⟩ : ∃ q1, W7.heap.size = q1 := ⟨_, rfl⟩
  have HGE := Lib.hid hGE
  have HO0 : Hid (OwnE EvK 65 (W7.alloc (.cells #[] 65)) GE (.slice (some ⟨GE, 0, none⟩) 0 0) []) := by
    have := OwnE.empty (E := EvK) 65 W7 GE (by rw [hGE]; exact Nat.le_refl _)
    rw [hGE] at this
    exact this
  have HW0 : Hid (Below GE W7 (W7.alloc (.cells #[] 65))) := (Below.refl _ _).alloc (by rw [hGE]; exact Nat.le_refl _) _
  go_wp2
  clear hGE
  go_loopw [11, 12] (fun o x wr => ∃ i : Nat, i ≤ n5 ∧ x = .int .i64 (i : Int) ∧ Hid (OwnE EvK 65 wr GE o (elseW (E3.take i) (wC q))) ∧ Hid (Below GE W7 wr)) (fun _ x _ => n5 - (intOf x).toNat)
  case atStart => exact ⟨0, by omega, rfl, HO0, HW0⟩
  case round =>
    obtain ⟨i, hi, rfl, HO, HW⟩ := hrel
    obtain ⟨wO, rfl⟩ : ∃ q, q = wr := ⟨_, rfl⟩
    have EL : Hid (Below W7.heap.size W7 wO) := HW.out.mono (by rw [HGE.out]; exact Nat.le_refl _)
    have hwO := HW.out.size
    rw [HGE.out] at hwO
    clear HO0 HW0
    have P8_w := Lib.hid (P7_w.out.trans (EL.out.mono P7_w.out.size))
    clear P7_w
    have P8_y0 := Lib.hid (P7_y0.out.trans (EL.out.mono P7_y0.out.size))
    clear P7_y0
    have P8_y1 := Lib.hid (P7_y1.out.trans (EL.out.mono P7_y1.out.size))
    clear P7_y1
    have P8_W1 := Lib.hid (P7_W1.out.trans (EL.out.mono P7_W1.out.size))
    clear P7_W1
    have P8_W2 := Lib.hid (P7_W2.out.trans (EL.out.mono P7_W2.out.size))
    clear P7_W2
    have P8_W3 := Lib.hid (P7_W3.out.trans (EL.out.mono P7_W3.out.size))
    clear P7_W3
    have P8_W4 := Lib.hid (P7_W4.out.trans (EL.out.mono P7_W4.out.size))
    clear P7_W4
    have P8_W5 := Lib.hid (P7_W5.out.trans (EL.out.mono P7_W5.out.size))
    clear P7_W5
    have P8_W6 := Lib.hid (E7.out.trans (EL.out.mono E7.out.size))
    by_cases hi2 : i < n5
    · have zi : (i : Int) < (n5 : Int) := by omega
      obtain ⟨b, hA2, q0, q1, q2, q3, q4⟩ := ((ZS3.out.below EL.out).more EL.out.size).atEv i (by rw [HN5.out]; exact hi2)
      subst hA2
      have HT := Lib.hid (elseW_snoc E3 (wC q) i (by rw [HN5.out]; exact hi2))
      have HKL := Lib.hid (elseW_le E3 (wC q) i)
      obtain ⟨e9, he9⟩ : ∃ e, E3.getD i ev0 = e := ⟨_, rfl⟩
      have HE9 := Lib.hid he9
      rw [he9] at q0 q1 q2 q3 q4 HT
      clear he9
      have c_ZXQ := (ZXQ.out.below EL.out ZXQ.out.lt).at_ 0 _ rfl
      have c_ZXQ_1 := (ZXQ.out.below EL.out ZXQ.out.lt).at_ 1 _ rfl
      have c_ZXQ_2 := (ZXQ.out.below EL.out ZXQ.out.lt).at_ 2 _ rfl
      by_cases he : wC e9.1 = wC q
      · have HT2 : Hid (elseW (E3.take (i + 1)) (wC q) = elseW (E3.take i) (wC q)) := by
          show _ = _
          rw [HT.out, if_pos he]; simp
        have hbb : (wC e9.1 != wC q) = false := by rw [he]; simp
        clear he
        go_wp2
        refine wp_region_quiet_lit (by kernel_rfl) (by kernel_rfl) ?_
        repeat (first | go_big_quiet_step (fail) | quiet_step (fail))
        refine wpQuiet_nil ?_
        intro _ hw'
        obtain ⟨nq, hw''⟩ := hw'
        subst hw''
        obtain ⟨W9, hW⟩ : ∃ W, wO.drewN nq = W := ⟨_, rfl⟩
        have E9 : Hid (Below wO.heap.size wO W9) := by
          show Below _ _ _
          rw [← hW]
          exact Below.drewN' (Below.refl _ _)
        rw [hW]
        clear hW c_ZXQ c_ZXQ_1 c_ZXQ_2 q0 q1 q2 q3 q4 hbb
        have P9_w := Lib.hid (P8_w.out.trans (E9.out.mono P8_w.out.size))
        clear P8_w
        have P9_y0 := Lib.hid (P8_y0.out.trans (E9.out.mono P8_y0.out.size))
        clear P8_y0
        have P9_y1 := Lib.hid (P8_y1.out.trans (E9.out.mono P8_y1.out.size))
        clear P8_y1
        have P9_W1 := Lib.hid (P8_W1.out.trans (E9.out.mono P8_W1.out.size))
        clear P8_W1
        have P9_W2 := Lib.hid (P8_W2.out.trans (E9.out.mono P8_W2.out.size))
        clear P8_W2
        have P9_W3 := Lib.hid (P8_W3.out.trans (E9.out.mono P8_W3.out.size))
        clear P8_W3
        have P9_W4 := Lib.hid (P8_W4.out.trans (E9.out.mono P8_W4.out.size))
        clear P8_W4
        have P9_W5 := Lib.hid (P8_W5.out.trans (E9.out.mono P8_W5.out.size))
        clear P8_W5
        have P9_W6 := Lib.hid (P8_W6.out.trans (E9.out.mono P8_W6.out.size))
        clear P8_W6
        have P9_W7 := Lib.hid (EL.out.trans (E9.out.mono EL.out.size))
        have HOq := Lib.hid (HO.out.below E9.out (Nat.le_refl _))
        have HWq := Lib.hid (HW.out.trans (E9.out.mono hwO))
        have hwq : GE ≤ W9.heap.size := Nat.le_trans hwO E9.out.size
        go_wp2
        go_roundw
        case rel => exact ⟨i + 1, by omega, by go_num, by rw [HT2.out]; exact HOq, HWq⟩
        case measure => first | (simp [intOf]; done) | (simp [intOf]; omega)
      · have HT2 : Hid (elseW (E3.take (i + 1)) (wC q) = elseW (E3.take i) (wC q) ++ [e9]) := by
          show _ = _
          rw [HT.out, if_neg he]
        have hbb : (wC e9.1 != wC q) = true := by rw [bne_iff_ne]; exact he
        clear he
        go_wp2
        refine wp_region_quiet_lit (by kernel_rfl) (by kernel_rfl) ?_
        repeat (first | go_big_quiet_step (fail) | quiet_step (fail))
        refine wpQuiet_nil ?_
        intro _ hw'
        obtain ⟨nq, hw''⟩ := hw'
        subst hw''
        obtain ⟨W9, hW⟩ : ∃ W, wO.drewN nq = W := ⟨_, rfl⟩
        have E9 : Hid (Below wO.heap.size wO W9) := by
          show Below _ _ _
          rw [← hW]
          exact Below.drewN' (Below.refl _ _)
        rw [hW]
        clear hW c_ZXQ c_ZXQ_1 c_ZXQ_2 q0 q1 q2 q3 q4 hbb
        have P9_w := Lib.hid (P8_w.out.trans (E9.out.mono P8_w.out.size))
        clear P8_w
        have P9_y0 := Lib.hid (P8_y0.out.trans (E9.out.mono P8_y0.out.size))
        clear P8_y0
        have P9_y1 := Lib.hid (P8_y1.out.trans (E9.out.mono P8_y1.out.size))
        clear P8_y1
        have P9_W1 := Lib.hid (P8_W1.out.trans (E9.out.mono P8_W1.out.size))
        clear P8_W1
        have P9_W2 := Lib.hid (P8_W2.out.trans (E9.out.mono P8_W2.out.size))
        clear P8_W2
        have P9_W3 := Lib.hid (P8_W3.out.trans (E9.out.mono P8_W3.out.size))
        clear P8_W3
        have P9_W4 := Lib.hid (P8_W4.out.trans (E9.out.mono P8_W4.out.size))
        clear P8_W4
        have P9_W5 := Lib.hid (P8_W5.out.trans (E9.out.mono P8_W5.out.size))
        clear P8_W5
        have P9_W6 := Lib.hid (P8_W6.out.trans (E9.out.mono P8_W6.out.size))
        clear P8_W6
        have P9_W7 := Lib.hid (EL.out.trans (E9.out.mono EL.out.size))
        have HOq := Lib.hid (HO.out.below E9.out (Nat.le_refl _))
        have HWq := Lib.hid (HW.out.trans (E9.out.mono hwO))
        have hwq : GE ≤ W9.heap.size := Nat.le_trans hwO E9.out.size
        obtain ⟨b2, hA3, q0, q1, q2, q3, q4⟩ := ((ZS3.out.below P9_W7.out).more P9_W7.out.size).atEv i (by rw [HN5.out]; exact hi2)
        obtain rfl : b = b2 := Option.some.inj hA3
        rw [HE9.out] at q0 q1 q2 q3 q4
        have HO4 : Hid (OwnE EvK 65 (W9.alloc (.cells (evc e9).toArray 65)) GE u11 (elseW (E3.take i) (wC q))) := HOq.out.alloc _
        have HW4 : Hid (Below GE W7 (W9.alloc (.cells (evc e9).toArray 65))) := HWq.out.alloc hwq _
        go_wp2_with (at_builtin; refine wpList_appE (E := EvK) rfl _ _ 51 rfl 65 56 Try.underlying51 kindEvP GE _ _ _ (elseW (E3.take i) (wC q)) [e9] rfl HO4.out rfl (RdE.one W9 65 e9) (by simp) ?d1 ?d2 ?d3 ?_)
        case d1 => have := HKL.out; have := LL3.out.2; have := HN5.out; (try simp only [List.length_cons, List.length_nil]); omega
        case d2 => have := HKL.out; have := LL3.out.2; have := HN5.out; (try simp only [List.length_cons, List.length_nil]); omega
        case d3 => first | exact hwq | omega | exact Nat.le_trans hwq (by simp)
        intro v5 w5 h5 hb5 hg5 _
        have HO5 : Hid (OwnE EvK 65 w5 GE v5 (elseW (E3.take (i + 1)) (wC q))) := by
          show OwnE _ _ _ _ _ _
          rw [HT2.out]
          exact h5
        have HW5 : Hid (Below GE W7 w5) := HW4.out.trans hb5
        clear h5 hb5 hg5
        go_wp2
        go_roundw
        case rel => exact ⟨i + 1, by omega, by go_num, HO5, HW5⟩
        case measure => first | (simp [intOf]; done) | (simp [intOf]; omega)
    obtain rfl : i = n5 := by omega
    have HFT : Hid (E3.take i = E3) := List.take_of_length_le (by rw [HN5.out]; exact Nat.le_refl _)
    rw [HFT.out, HEE.out] at HO
    have RO := Lib.hid HO.out.rd
    clear HO HW hwO hi hi2 HFT
    obtain ⟨L6, hL6⟩ : ∃ q1, addW l q = q1 := ⟨_, rfl⟩
    have HL6 := Lib.hid hL6
    obtain ⟨f6, hf6⟩ : ∃ q1, addE l q = q1 := ⟨_, rfl⟩
    have HF6 := Lib.hid hf6
    have RT6 := Lib.hid (right_add l q HRT.out)
    rw [hL6] at RT6
    have LL6 : Hid (L6.length ≤ 100) := by
      show _ ≤ _
      have h1 := addW_len l q
      have h2 := HL.out
      rw [hL6] at h1
      omega
    clear hL6 hf6
    have c_ZX0 := (ZX0.out.below EL.out ZX0.out.lt).at_ 0 _ rfl
    have c_ZXQ := (ZXQ.out.below EL.out ZXQ.out.lt).at_ 0 _ rfl
    have c_ZXQ_1 := (ZXQ.out.below EL.out ZXQ.out.lt).at_ 1 _ rfl
    have c_ZXQ_2 := (ZXQ.out.below EL.out ZXQ.out.lt).at_ 2 _ rfl
    go_wp2_with fail
    refine (waAdd_any l q v wO ((ZHR.out.below EL.out).more EL.out.size) HRT.out).mono ?_
    rintro e va9 ⟨v6, rfl, hrd, hb⟩
    clear c_ZX0 c_ZXQ c_ZXQ_1 c_ZXQ_2
    have ONE6 := Lib.hid (tab_rd hrd)
    rw [HL6.out] at hrd
    rw [HF6.out]
    go_wp2_with (refine wpList_alloc_blk rfl 24 rfl [.slice none 0 0] zTbP ?_)
    intro vb9 a1 a2 a3
    obtain ⟨vg9, hg⟩ : ∃ g, va9.heap.size = g := ⟨_, rfl⟩
    have AA := Lib.hid a1
    have EB := Lib.hid (hb.trans (a3.mono hb.size))
    have A3 := Lib.hid a3
    have hbg : wO.heap.size ≤ vg9 := by have := hb.size; omega
    have hgs : vg9 ≤ vb9.heap.size := by omega
    have HG := Lib.hid hg
    have RR0 := Lib.hid hrd
    rw [hg] at AA A3 RR0 ⊢
    clear a1 a2 a3 hb hg hrd
    go_wp2_with (refine wpList_store_to rfl 24 _ _ rfl vg9 [v6] [.slice none 0 0] 24 rfl rfl AA.out sTbP rfl ONE6.out ?_)
    intro W9 e1 e2 e3 e4
    have X6 := Lib.hid e1
    have E9 := Lib.hid (EB.out.trans (e3.mono hbg))
    have R6 := Lib.hid (((RR0.out.below A3.out).below e3).more (show vg9 ≤ W9.heap.size by omega))
    clear e1 e2 e3 e4 AA EB A3 hbg hgs HG RR0
    have P9_w := Lib.hid (P8_w.out.trans (E9.out.mono P8_w.out.size))
    clear P8_w
    have P9_y0 := Lib.hid (P8_y0.out.trans (E9.out.mono P8_y0.out.size))
    clear P8_y0
    have P9_y1 := Lib.hid (P8_y1.out.trans (E9.out.mono P8_y1.out.size))
    clear P8_y1
    have P9_W1 := Lib.hid (P8_W1.out.trans (E9.out.mono P8_W1.out.size))
    clear P8_W1
    have P9_W2 := Lib.hid (P8_W2.out.trans (E9.out.mono P8_W2.out.size))
    clear P8_W2
    have P9_W3 := Lib.hid (P8_W3.out.trans (E9.out.mono P8_W3.out.size))
    clear P8_W3
    have P9_W4 := Lib.hid (P8_W4.out.trans (E9.out.mono P8_W4.out.size))
    clear P8_W4
    have P9_W5 := Lib.hid (P8_W5.out.trans (E9.out.mono P8_W5.out.size))
    clear P8_W5
    have P9_W6 := Lib.hid (P8_W6.out.trans (E9.out.mono P8_W6.out.size))
    clear P8_W6
    have P9_W7 := Lib.hid (EL.out.trans (E9.out.mono EL.out.size))
    obtain ⟨L7, hL⟩ : ∃ q1, leftW L6 cs = q1 := ⟨_, rfl⟩
    have HL7 := Lib.hid hL
    obtain ⟨E7, hE⟩ : ∃ q1, fireW L6 cs = q1 := ⟨_, rfl⟩
    have HE7 := Lib.hid hE
    have HFL7 : Hid (L7.length + E7.length = L6.length) := by
      show _ = _
      rw [← hL, ← hE]
      exact fire_len L6 cs
    have LL7 : Hid (L7.length ≤ 100 ∧ E7.length ≤ 100) := by
      show _ ∧ _
      have h1 := HFL7.out
      have h2 := LL6.out
      constructor <;> omega
    clear hL hE
    have c_X6 := X6.out.at_ 0 _ rfl
    go_wp2_with fail
    refine (waFire_any L6 cs v6 u W9 R6.out ((ZHC.out.below P9_W7.out).more P9_W7.out.size) RT6.out (by have := HS.out; omega)).mono ?_
    rintro e va10 ⟨v7, u7, rfl, hrd, hre, hb⟩
    clear c_X6
    have ONE7 := Lib.hid (tab_rd hrd)
    rw [HL7.out] at hrd
    rw [HE7.out] at hre
    go_wp2_with (refine wpList_alloc_blk rfl 24 rfl [.slice none 0 0] zTbP ?_)
    intro vb10 a1 a2 a3
    obtain ⟨vg10, hg⟩ : ∃ g, va10.heap.size = g := ⟨_, rfl⟩
    have AA := Lib.hid a1
    have EB := Lib.hid (hb.trans (a3.mono hb.size))
    have A3 := Lib.hid a3
    have hbg : W9.heap.size ≤ vg10 := by have := hb.size; omega
    have hgs : vg10 ≤ vb10.heap.size := by omega
    have HG := Lib.hid hg
    have RR0 := Lib.hid hrd
    have RR1 := Lib.hid hre
    rw [hg] at AA A3 RR0 RR1 ⊢
    clear a1 a2 a3 hb hg hrd hre
    go_wp2_with (refine wpList_store_to rfl 24 _ _ rfl vg10 [v7] [.slice none 0 0] 24 rfl rfl AA.out sTbP rfl ONE7.out ?_)
    intro W10 e1 e2 e3 e4
    have X7 := Lib.hid e1
    have E10 := Lib.hid (EB.out.trans (e3.mono hbg))
    have R7 := Lib.hid (((RR0.out.below A3.out).below e3).more (show vg10 ≤ W10.heap.size by omega))
    have S7 := Lib.hid (((RR1.out.below A3.out).below e3).more (show vg10 ≤ W10.heap.size by omega))
    clear e1 e2 e3 e4 AA EB A3 hbg hgs HG RR0 RR1
    have P10_w := Lib.hid (P9_w.out.trans (E10.out.mono P9_w.out.size))
    clear P9_w
    have P10_y0 := Lib.hid (P9_y0.out.trans (E10.out.mono P9_y0.out.size))
    clear P9_y0
    have P10_y1 := Lib.hid (P9_y1.out.trans (E10.out.mono P9_y1.out.size))
    clear P9_y1
    have P10_W1 := Lib.hid (P9_W1.out.trans (E10.out.mono P9_W1.out.size))
    clear P9_W1
    have P10_W2 := Lib.hid (P9_W2.out.trans (E10.out.mono P9_W2.out.size))
    clear P9_W2
    have P10_W3 := Lib.hid (P9_W3.out.trans (E10.out.mono P9_W3.out.size))
    clear P9_W3
    have P10_W4 := Lib.hid (P9_W4.out.trans (E10.out.mono P9_W4.out.size))
    clear P9_W4
    have P10_W5 := Lib.hid (P9_W5.out.trans (E10.out.mono P9_W5.out.size))
    clear P9_W5
    have P10_W6 := Lib.hid (P9_W6.out.trans (E10.out.mono P9_W6.out.size))
    clear P9_W6
    have P10_W7 := Lib.hid (P9_W7.out.trans (E10.out.mono P9_W7.out.size))
    clear P9_W7
    have P10_wO := Lib.hid (E9.out.trans (E10.out.mono E9.out.size))
    have hu := HU.out
    subst hu
    obtain ⟨A6, c6, h6, hc6, hm6⟩ := R6.out.shape
    obtain ⟨A7, c7, h7, hc7, hm7⟩ := R7.out.shape
    obtain ⟨A8, c8, h8, hc8, hm8⟩ := S7.out.shape
    obtain ⟨n6, hn6⟩ : ∃ q1, L6.length = q1 := ⟨_, rfl⟩
    obtain ⟨n7, hn7⟩ : ∃ q1, L7.length = q1 := ⟨_, rfl⟩
    obtain ⟨n8, hn8⟩ : ∃ q1, E7.length = q1 := ⟨_, rfl⟩
    have HN8 := Lib.hid hn8
    have HSUM : Hid (n7 + n8 = n6 ∧ n6 ≤ 100) := by
      show _ ∧ _
      have h1 := HFL7.out
      have h2 := LL6.out
      omega
    rw [hn6] at h6 hc6
    rw [hn7] at h7 hc7
    rw [hn8] at h8 hc8
    subst h6 h7 h8
    unfold maxLen at hm6 hm7 hm8
    have hm40 : m ≤ 40 := by
      have := HS.out
      rw [HM.out] at this
      exact this
    have hn100 : n8 ≤ 100 := by
      have := HSUM.out
      omega
    clear hn6 hn7 hn8
    have YX6 := Lib.hid (X6.out.below E10.out X6.out.lt)
    have YX7 := Lib.hid X7.out
    have YZXQ := Lib.hid (ZXQ.out.below P10_W7.out ZXQ.out.lt)
    have YZHC := Lib.hid ((ZHC.out.below P10_W7.out).more P10_W7.out.size)
    have YS7 := Lib.hid S7.out
    have YZS4 := Lib.hid ((ZS4.out.below P10_W7.out).more P10_W7.out.size)
    have YRO := Lib.hid ((RO.out.below P10_wO.out).more P10_wO.out.size)
    go_wp2
    go_loopw [17, 19] (fun y x wq => ∃ k : Nat, k ≤ m ∧ x = .int .i64 (k : Int) ∧ y = .bool (anyC (cs.take k) q) ∧ Hid (Below W10.heap.size W10 wq)) (fun _ x _ => m - (intOf x).toNat)
    case atStart => exact ⟨0, by omega, rfl, rfl, Below.refl _ _⟩
    case round =>
      obtain ⟨k, hk, rfl, rfl, EQ⟩ := hrel
      obtain ⟨wT, rfl⟩ : ∃ q, q = wr := ⟨_, rfl⟩
      have P11_w := Lib.hid (P10_w.out.trans (EQ.out.mono P10_w.out.size))
      clear P10_w
      have P11_y0 := Lib.hid (P10_y0.out.trans (EQ.out.mono P10_y0.out.size))
      clear P10_y0
      have P11_y1 := Lib.hid (P10_y1.out.trans (EQ.out.mono P10_y1.out.size))
      clear P10_y1
      have P11_W1 := Lib.hid (P10_W1.out.trans (EQ.out.mono P10_W1.out.size))
      clear P10_W1
      have P11_W2 := Lib.hid (P10_W2.out.trans (EQ.out.mono P10_W2.out.size))
      clear P10_W2
      have P11_W3 := Lib.hid (P10_W3.out.trans (EQ.out.mono P10_W3.out.size))
      clear P10_W3
      have P11_W4 := Lib.hid (P10_W4.out.trans (EQ.out.mono P10_W4.out.size))
      clear P10_W4
      have P11_W5 := Lib.hid (P10_W5.out.trans (EQ.out.mono P10_W5.out.size))
      clear P10_W5
      have P11_W6 := Lib.hid (P10_W6.out.trans (EQ.out.mono P10_W6.out.size))
      clear P10_W6
      have P11_W7 := Lib.hid (P10_W7.out.trans (EQ.out.mono P10_W7.out.size))
      clear P10_W7
      have P11_wO := Lib.hid (P10_wO.out.trans (EQ.out.mono P10_wO.out.size))
      clear P10_wO
      have P11_W9 := Lib.hid (E10.out.trans (EQ.out.mono E10.out.size))
      by_cases hk2 : k < m
      · have zk : (k : Int) < (m : Int) := by omega
        obtain ⟨b, hA2, q0, q1⟩ := ((YZHC.out.below EQ.out).more EQ.out.size).atCh k (by rw [HM.out]; exact hk2)
        subst hA2
        clear q0 q1
        obtain ⟨c, hcc⟩ : ∃ c, cs.getD k ch0 = c := ⟨_, rfl⟩
        have HCC := Lib.hid hcc
        have HST := Lib.hid (anyC_snoc cs q k (by rw [HM.out]; exact hk2))
        rw [hcc] at HST
        obtain ⟨B, hB⟩ : ∃ B, touchB c q = B := ⟨_, rfl⟩
        have HBB := Lib.hid hB
        rw [hB] at HST
        clear hcc hB
        obtain ⟨T9, hT9⟩ : ∃ f, anyC (cs.take k) q = f := ⟨_, rfl⟩
        rw [hT9] at HST ⊢
        clear hT9
        go_wp2
        have TYZHC := Lib.hid ((YZHC.out.below EQ.out).more EQ.out.size)
        have TYZXQ := Lib.hid (YZXQ.out.below EQ.out YZXQ.out.lt)
        cases T9
        · refine wp_region_rely3 9 1 (fun x => ⟨#[.agg #[v], .agg (wac q).toArray, .slice (some b) m cp2, .pointer (some { block := gb0, off := 0 }), .pointer (some { block := gb1, off := 0 }), undef, .bool false, .pointer (some { block := vg5, off := 0 }), .slice A5 i c5, .pointer (some { block := vg7, off := 0 }), u4, u11, .int IntKind.i64 ↑i, .pointer (some { block := vg9, off := 0 }), .int IntKind.i64 ↑f6, .pointer (some { block := vg10, off := 0 }), .slice A8 n8 c8, .bool false, .bool false, .int IntKind.i64 ↑k, undef, .agg #[v], .bool true, .bool false, .bool false, .agg #[v], .agg #[vp], .bool true, .bool false, .bool false, .bool false, .slice (some b) m cp2, .bool true, .bool false, .bool false, .bool false, .pointer (some { block := gb1, off := 0 }), txt (wP q), .int IntKind.i64 ↑kp, .bool (decide ((300 : Int) < (kp : Int))), .bool (decide ((300 : Int) < (kp : Int))), undef, .tuple #[Value.agg #[v3], Value.slice A5 i c5], .agg #[v], .slice (some b) m cp2, .tuple #[Value.agg #[v3], Value.slice A5 i c5], .agg #[v3], .slice A5 i c5, .tuple #[Value.agg #[v4], u4], .agg #[v], .pointer (some { block := gb1, off := 1 }), .int IntKind.i64 (wC q), .agg #[vc], .slice (some b) m cp2, .tuple #[Value.agg #[v4], u4], .agg #[v4], u4, .slice (some { block := GE, off := 0 }) 0 0, .int IntKind.i64 ↑i, .slice A5 i c5, .int IntKind.i64 ↑i, .bool false, u62, u63, u64, u65, u66, u67, u68, u69, u70, u71, u72, u73, u74, u75, u76, u77, u78, u79, .tuple #[Value.agg #[Value.slice A6 n6 c6], Value.int IntKind.i64 ↑f6], .agg #[v], .agg #[txt (wP q), Value.int IntKind.i64 (wC q), Value.bool (wK q)], .tuple #[Value.agg #[Value.slice A6 n6 c6], Value.int IntKind.i64 ↑f6], .agg #[Value.slice A6 n6 c6], .int IntKind.i64 ↑f6, .tuple #[Value.agg #[Value.slice A7 n7 c7], Value.slice A8 n8 c8], .agg #[Value.slice A6 n6 c6], .slice (some b) m cp2, .tuple #[Value.agg #[Value.slice A7 n7 c7], Value.slice A8 n8 c8], .agg #[Value.slice A7 n7 c7], .slice A8 n8 c8, .int IntKind.i64 ↑k, .slice (some b) m cp2, .int IntKind.i64 ↑m, .bool true, u96, u97, x 0, x 1, x 2, x 3, x 4, x 5, x 6, x 7, x 8, undef, undef, undef, undef, undef, undef, undef, undef, undef, undef, undef, undef, undef, undef, undef, undef, undef, undef, undef, undef, undef, undef, undef, undef, undef, undef, undef, undef, undef, undef, undef, undef, undef, undef, undef, undef, undef, undef, undef, undef, undef, undef, undef, undef, undef], []⟩) (fun jj => ([eqV (.bool false), eqV (.bool false), eqV (.slice (some b) m cp2), eqV (.int IntKind.i64 ↑k), eqV (.pointer (some (b.add (k * 2)))), eqV (.agg (chc c).toArray), eqV (.agg (wac q).toArray), (eqV (.bool B)), eqV (.bool B)] : List (Value → World → Prop)).getD jj (fun _ _ => True)) rfl ⟨fun kk => [_, _, _, _, _, _, _, _, _].getD kk undef, rfl⟩ (by kernel_rfl) (by kernel_rfl) ?steps ?fin
          case steps =>
            refine StepsAt.val 0 (.bool false) rfl (fun _ _ => rfl) rfl rfl (fun x wx hb hd => ?_) ?_
            · first | (go_simp; done) | (go_simp; rfl)
            refine StepsAt.val 1 (.bool false) rfl (fun _ _ => rfl) rfl rfl (fun x wx hb hd => ?_) ?_
            · have h0 : x 0 = .bool false := hd 0 (by kernel_rfl)
              rw [h0]
              first | (go_simp; done) | (go_simp; rfl)
            refine StepsAt.valG 2 (.slice (some b) m cp2) rfl (fun _ _ => rfl) rfl (fun x wx hd => ?_) (fun x wx hb hd => ?_) ?_
            · have hG : x 1 = .bool false := hd 1 (by kernel_rfl)
              simp [Region.wanted, yielded, hG]
            · first | (go_simp; done) | (go_simp; rfl)
            refine StepsAt.valG 3 (.int IntKind.i64 ↑k) rfl (fun _ _ => rfl) rfl (fun x wx hd => ?_) (fun x wx hb hd => ?_) ?_
            · have hG : x 1 = .bool false := hd 1 (by kernel_rfl)
              simp [Region.wanted, yielded, hG]
            · first | (go_simp; done) | (go_simp; rfl)
            refine StepsAt.valG 4 (.pointer (some (b.add (k * 2)))) rfl (fun _ _ => rfl) rfl (fun x wx hd => ?_) (fun x wx hb hd => ?_) ?_
            · have hG : x 1 = .bool false := hd 1 (by kernel_rfl)
              simp [Region.wanted, yielded, hG]
            · have h2 : x 2 = .slice (some b) m cp2 := hd 2 (by kernel_rfl)
              have h3 : x 3 = .int IntKind.i64 ↑k := hd 3 (by kernel_rfl)
              rw [h2, h3]
              first | (go_simp; done) | (go_simp; rfl)
            refine StepsAt.valG 5 (.agg (chc c).toArray) rfl (fun _ _ => rfl) rfl (fun x wx hd => ?_) (fun x wx hb hd => ?_) ?_
            · have hG : x 1 = .bool false := hd 1 (by kernel_rfl)
              simp [Region.wanted, yielded, hG]
            · have h4 : x 4 = .pointer (some (b.add (k * 2))) := hd 4 (by kernel_rfl)
              obtain ⟨b9, hA9, cc0, cc1⟩ := (TYZHC.out.below hb).atCh k (by rw [HM.out]; exact hk2)
              obtain rfl : b = b9 := Option.some.inj hA9
              rw [HCC.out] at cc0 cc1
              rw [h4]
              first | (go_simp; done) | (go_simp; rfl)
            refine StepsAt.valG 6 (.agg (wac q).toArray) rfl (fun _ _ => rfl) rfl (fun x wx hd => ?_) (fun x wx hb hd => ?_) ?_
            · have hG : x 1 = .bool false := hd 1 (by kernel_rfl)
              simp [Region.wanted, yielded, hG]
            · have cc := (TYZXQ.out.below hb TYZXQ.out.lt).at_ 0 _ rfl
              have cd := (TYZXQ.out.below hb TYZXQ.out.lt).at_ 1 _ rfl
              have ce := (TYZXQ.out.below hb TYZXQ.out.lt).at_ 2 _ rfl
              first | (go_simp; done) | (go_simp; rfl)
            refine StepsAt.consG 7 (fun _ _ _ h hb => h) (fun _ _ => rfl) rfl (fun x wx hd => ?_) (fun x wx hb hd K hK => ?_) ?_
            · have hG : x 1 = .bool false := hd 1 (by kernel_rfl)
              simp [Region.wanted, yielded, hG]
            · have h5 : Hid (x 5 = .agg (chc c).toArray) := hd 5 (by kernel_rfl)
              have h6 : Hid (x 6 = .agg (wac q).toArray) := hd 6 (by kernel_rfl)
              go_simp
              refine calls_args (args2 := #[.agg (chc c).toArray, .agg (wac q).toArray]) (by rw [h5.out, h6.out]) ?_
              refine (waTouchIs c q B HBB.out _).mono ?_
              rintro e w99 ⟨rfl, hb99⟩
              exact hK.out _ _ hb99 rfl
            refine StepsAt.val 8 (.bool B) rfl (fun _ _ => rfl) rfl rfl (fun x wx hb hd => ?_) ?_
            · have h1 : x 1 = .bool false := hd 1 (by kernel_rfl)
              have h7 : x 7 = .bool B := hd 7 (by kernel_rfl)
              rw [h1, h7]
              first | (go_simp; done) | (go_simp; rfl) | (go_simp; simp)
            exact StepsAt.done
          case fin =>
            intro xx wx hb hd
            have hx0 : xx 0 = .bool false := hd 0 (by omega)
            have hx1 : xx 1 = .bool false := hd 1 (by omega)
            have hx2 : xx 2 = .slice (some b) m cp2 := hd 2 (by omega)
            have hx3 : xx 3 = .int IntKind.i64 ↑k := hd 3 (by omega)
            have hx4 : xx 4 = .pointer (some (b.add (k * 2))) := hd 4 (by omega)
            have hx5 : xx 5 = .agg (chc c).toArray := hd 5 (by omega)
            have hx6 : xx 6 = .agg (wac q).toArray := hd 6 (by omega)
            have hx7 : xx 7 = .bool B := hd 7 (by omega)
            have hx8 : xx 8 = .bool B := hd 8 (by omega)
            refine AnyTill.any (S := fun _ => True) (m := 10) _ _ _ _ ?_
            rw [hx0, hx1, hx2, hx3, hx4, hx5, hx6, hx7, hx8]
            refine AnyTill.one (i := 9) (by kernel_rfl) rfl (by rfl) (fun K hK => ?_)
            go_simp
            refine hK.out _ _ (.inr trivial) ?_
            clear hK K
            refine AnyTill.done (by kernel_rfl) ?_
            refine NoPanic.normal ?_
            try dsimp only
            have ER17 := Lib.hid hb
            clear hx0 hx1 hx2 hx3 hx4 hx5 hx6 hx7 hx8 hd hb
            have EQ2 : Hid (Below W10.heap.size W10 wx) := EQ.out.trans (ER17.out.mono EQ.out.size)
            have HST2 : Hid (anyC (cs.take (k + 1)) q = B) := by
              show _ = _
              rw [HST.out]; rfl
            go_wp2
            go_roundw
            case rel => exact ⟨k + 1, by omega, by go_num, by rw [HST2.out], EQ2⟩
            case measure => first | (simp [intOf]; done) | (simp [intOf]; omega)
        · refine wp_region_rely3 9 1 (fun x => ⟨#[.agg #[v], .agg (wac q).toArray, .slice (some b) m cp2, .pointer (some { block := gb0, off := 0 }), .pointer (some { block := gb1, off := 0 }), undef, .bool false, .pointer (some { block := vg5, off := 0 }), .slice A5 i c5, .pointer (some { block := vg7, off := 0 }), u4, u11, .int IntKind.i64 ↑i, .pointer (some { block := vg9, off := 0 }), .int IntKind.i64 ↑f6, .pointer (some { block := vg10, off := 0 }), .slice A8 n8 c8, .bool true, .bool false, .int IntKind.i64 ↑k, undef, .agg #[v], .bool true, .bool false, .bool false, .agg #[v], .agg #[vp], .bool true, .bool false, .bool false, .bool false, .slice (some b) m cp2, .bool true, .bool false, .bool false, .bool false, .pointer (some { block := gb1, off := 0 }), txt (wP q), .int IntKind.i64 ↑kp, .bool (decide ((300 : Int) < (kp : Int))), .bool (decide ((300 : Int) < (kp : Int))), undef, .tuple #[Value.agg #[v3], Value.slice A5 i c5], .agg #[v], .slice (some b) m cp2, .tuple #[Value.agg #[v3], Value.slice A5 i c5], .agg #[v3], .slice A5 i c5, .tuple #[Value.agg #[v4], u4], .agg #[v], .pointer (some { block := gb1, off := 1 }), .int IntKind.i64 (wC q), .agg #[vc], .slice (some b) m cp2, .tuple #[Value.agg #[v4], u4], .agg #[v4], u4, .slice (some { block := GE, off := 0 }) 0 0, .int IntKind.i64 ↑i, .slice A5 i c5, .int IntKind.i64 ↑i, .bool false, u62, u63, u64, u65, u66, u67, u68, u69, u70, u71, u72, u73, u74, u75, u76, u77, u78, u79, .tuple #[Value.agg #[Value.slice A6 n6 c6], Value.int IntKind.i64 ↑f6], .agg #[v], .agg #[txt (wP q), Value.int IntKind.i64 (wC q), Value.bool (wK q)], .tuple #[Value.agg #[Value.slice A6 n6 c6], Value.int IntKind.i64 ↑f6], .agg #[Value.slice A6 n6 c6], .int IntKind.i64 ↑f6, .tuple #[Value.agg #[Value.slice A7 n7 c7], Value.slice A8 n8 c8], .agg #[Value.slice A6 n6 c6], .slice (some b) m cp2, .tuple #[Value.agg #[Value.slice A7 n7 c7], Value.slice A8 n8 c8], .agg #[Value.slice A7 n7 c7], .slice A8 n8 c8, .int IntKind.i64 ↑k, .slice (some b) m cp2, .int IntKind.i64 ↑m, .bool true, u96, u97, x 0, x 1, x 2, x 3, x 4, x 5, x 6, x 7, x 8, undef, undef, undef, undef, undef, undef, undef, undef, undef, undef, undef, undef, undef, undef, undef, undef, undef, undef, undef, undef, undef, undef, undef, undef, undef, undef, undef, undef, undef, undef, undef, undef, undef, undef, undef, undef, undef, undef, undef, undef, undef, undef, undef, undef, undef], []⟩) (fun jj => ([eqV (.bool true), eqV (.bool true), (eqV undef), (eqV undef), (eqV undef), (eqV undef), (eqV undef), (eqV undef), eqV (.bool true)] : List (Value → World → Prop)).getD jj (fun _ _ => True)) rfl ⟨fun kk => [_, _, _, _, _, _, _, _, _].getD kk undef, rfl⟩ (by kernel_rfl) (by kernel_rfl) ?steps ?fin
          case steps =>
            refine StepsAt.val 0 (.bool true) rfl (fun _ _ => rfl) rfl rfl (fun x wx hb hd => ?_) ?_
            · first | (go_simp; done) | (go_simp; rfl)
            refine StepsAt.val 1 (.bool true) rfl (fun _ _ => rfl) rfl rfl (fun x wx hb hd => ?_) ?_
            · have h0 : x 0 = .bool true := hd 0 (by kernel_rfl)
              rw [h0]
              first | (go_simp; done) | (go_simp; rfl)
            refine StepsAt.skip 2 rfl (fun _ _ => rfl) rfl (fun x wx hd => ?_) ?_
            · have hG : x 1 = .bool true := hd 1 (by kernel_rfl)
              simp [Region.wanted, yielded, hG]
            refine StepsAt.skip 3 rfl (fun _ _ => rfl) rfl (fun x wx hd => ?_) ?_
            · have hG : x 1 = .bool true := hd 1 (by kernel_rfl)
              simp [Region.wanted, yielded, hG]
            refine StepsAt.skip 4 rfl (fun _ _ => rfl) rfl (fun x wx hd => ?_) ?_
            · have hG : x 1 = .bool true := hd 1 (by kernel_rfl)
              simp [Region.wanted, yielded, hG]
            refine StepsAt.skip 5 rfl (fun _ _ => rfl) rfl (fun x wx hd => ?_) ?_
            · have hG : x 1 = .bool true := hd 1 (by kernel_rfl)
              simp [Region.wanted, yielded, hG]
            refine StepsAt.skip 6 rfl (fun _ _ => rfl) rfl (fun x wx hd => ?_) ?_
            · have hG : x 1 = .bool true := hd 1 (by kernel_rfl)
              simp [Region.wanted, yielded, hG]
            refine StepsAt.skip 7 rfl (fun _ _ => rfl) rfl (fun x wx hd => ?_) ?_
            · have hG : x 1 = .bool true := hd 1 (by kernel_rfl)
              simp [Region.wanted, yielded, hG]
            refine StepsAt.val 8 (.bool true) rfl (fun _ _ => rfl) rfl rfl (fun x wx hb hd => ?_) ?_
            · have h1 : x 1 = .bool true := hd 1 (by kernel_rfl)
              have h7 : x 7 = undef := hd 7 (by kernel_rfl)
              rw [h1, h7]
              first | (go_simp; done) | (go_simp; rfl) | (go_simp; simp)
            exact StepsAt.done
          case fin =>
            intro xx wx hb hd
            have hx0 : xx 0 = .bool true := hd 0 (by omega)
            have hx1 : xx 1 = .bool true := hd 1 (by omega)
            have hx2 : xx 2 = undef := hd 2 (by omega)
            have hx3 : xx 3 = undef := hd 3 (by omega)
            have hx4 : xx 4 = undef := hd 4 (by omega)
            have hx5 : xx 5 = undef := hd 5 (by omega)
            have hx6 : xx 6 = undef := hd 6 (by omega)
            have hx7 : xx 7 = undef := hd 7 (by omega)
            have hx8 : xx 8 = .bool true := hd 8 (by omega)
            refine AnyTill.any (S := fun _ => True) (m := 10) _ _ _ _ ?_
            rw [hx0, hx1, hx2, hx3, hx4, hx5, hx6, hx7, hx8]
            refine AnyTill.one (i := 9) (by kernel_rfl) rfl (by rfl) (fun K hK => ?_)
            go_simp
            refine hK.out _ _ (.inr trivial) ?_
            clear hK K
            refine AnyTill.done (by kernel_rfl) ?_
            refine NoPanic.normal ?_
            try dsimp only
            have ER17 := Lib.hid hb
            clear hx0 hx1 hx2 hx3 hx4 hx5 hx6 hx7 hx8 hd hb
            have EQ2 : Hid (Below W10.heap.size W10 wx) := EQ.out.trans (ER17.out.mono EQ.out.size)
            have HST2 : Hid (anyC (cs.take (k + 1)) q = true) := by
              show _ = _
              rw [HST.out]; rfl
            go_wp2
            go_roundw
            case rel => exact ⟨k + 1, by omega, by go_num, by rw [HST2.out], EQ2⟩
            case measure => first | (simp [intOf]; done) | (simp [intOf]; omega)
      obtain rfl : k = m := by omega
      have HFT : Hid (cs.take k = cs) := List.take_of_length_le (by rw [HM.out]; exact Nat.le_refl _)
      rw [HFT.out]
      obtain ⟨T9, hT9⟩ : ∃ f, anyC cs q = f := ⟨_, rfl⟩
      have HT9 := Lib.hid hT9
      rw [hT9]
      clear hT9 hk hk2 HFT
      go_wp2
      go_loopw [18, 20] (fun y x wq => ∃ j : Nat, j ≤ n8 ∧ x = .int .i64 (j : Int) ∧ y = .bool (anyE (E7.take j) q) ∧ Hid (Below wT.heap.size wT wq)) (fun _ x _ => n8 - (intOf x).toNat)
      case atStart => exact ⟨0, by omega, rfl, rfl, Below.refl _ _⟩
      case round =>
        obtain ⟨j, hj, rfl, rfl, ES⟩ := hrel
        obtain ⟨wS, rfl⟩ : ∃ q, q = wr := ⟨_, rfl⟩
        have P12_w := Lib.hid (P11_w.out.trans (ES.out.mono P11_w.out.size))
        clear P11_w
        have P12_y0 := Lib.hid (P11_y0.out.trans (ES.out.mono P11_y0.out.size))
        clear P11_y0
        have P12_y1 := Lib.hid (P11_y1.out.trans (ES.out.mono P11_y1.out.size))
        clear P11_y1
        have P12_W1 := Lib.hid (P11_W1.out.trans (ES.out.mono P11_W1.out.size))
        clear P11_W1
        have P12_W2 := Lib.hid (P11_W2.out.trans (ES.out.mono P11_W2.out.size))
        clear P11_W2
        have P12_W3 := Lib.hid (P11_W3.out.trans (ES.out.mono P11_W3.out.size))
        clear P11_W3
        have P12_W4 := Lib.hid (P11_W4.out.trans (ES.out.mono P11_W4.out.size))
        clear P11_W4
        have P12_W5 := Lib.hid (P11_W5.out.trans (ES.out.mono P11_W5.out.size))
        clear P11_W5
        have P12_W6 := Lib.hid (P11_W6.out.trans (ES.out.mono P11_W6.out.size))
        clear P11_W6
        have P12_W7 := Lib.hid (P11_W7.out.trans (ES.out.mono P11_W7.out.size))
        clear P11_W7
        have P12_wO := Lib.hid (P11_wO.out.trans (ES.out.mono P11_wO.out.size))
        clear P11_wO
        have P12_W9 := Lib.hid (P11_W9.out.trans (ES.out.mono P11_W9.out.size))
        clear P11_W9
        have P12_W10 := Lib.hid (EQ.out.trans (ES.out.mono EQ.out.size))
        by_cases hj2 : j < n8
        · have zj : (j : Int) < (n8 : Int) := by omega
          obtain ⟨b, hA2, q0, q1, q2, q3, q4⟩ := ((YS7.out.below P12_W10.out).more P12_W10.out.size).atEv j (by rw [HN8.out]; exact hj2)
          subst hA2
          clear q0 q1 q2 q3 q4
          obtain ⟨e9, he9⟩ : ∃ e, E7.getD j ev0 = e := ⟨_, rfl⟩
          have HE9 := Lib.hid he9
          have HST := Lib.hid (anyE_snoc E7 q j (by rw [HN8.out]; exact hj2))
          rw [he9] at HST
          obtain ⟨B, hB⟩ : ∃ B, decide (e9.1 = q) = B := ⟨_, rfl⟩
          have HBB := Lib.hid hB
          rw [hB] at HST
          clear he9 hB
          obtain ⟨S9, hS9⟩ : ∃ f, anyE (E7.take j) q = f := ⟨_, rfl⟩
          rw [hS9] at HST ⊢
          clear hS9
          go_wp2
          have VYS7 := Lib.hid ((YS7.out.below P12_W10.out).more P12_W10.out.size)
          have VYZXQ := Lib.hid (YZXQ.out.below P12_W10.out YZXQ.out.lt)
          cases S9
          · refine wp_region_rely3 10 1 (fun x => ⟨#[.agg #[v], .agg (wac q).toArray, .slice A2 k cp2, .pointer (some { block := gb0, off := 0 }), .pointer (some { block := gb1, off := 0 }), undef, .bool false, .pointer (some { block := vg5, off := 0 }), .slice A5 i c5, .pointer (some { block := vg7, off := 0 }), u4, u11, .int IntKind.i64 ↑i, .pointer (some { block := vg9, off := 0 }), .int IntKind.i64 ↑f6, .pointer (some { block := vg10, off := 0 }), .slice (some b) n8 c8, .bool T9, .bool false, .int IntKind.i64 ↑k, .int IntKind.i64 ↑j, .agg #[v], .bool true, .bool false, .bool false, .agg #[v], .agg #[vp], .bool true, .bool false, .bool false, .bool false, .slice A2 k cp2, .bool true, .bool false, .bool false, .bool false, .pointer (some { block := gb1, off := 0 }), txt (wP q), .int IntKind.i64 ↑kp, .bool (decide ((300 : Int) < (kp : Int))), .bool (decide ((300 : Int) < (kp : Int))), undef, .tuple #[Value.agg #[v3], Value.slice A5 i c5], .agg #[v], .slice A2 k cp2, .tuple #[Value.agg #[v3], Value.slice A5 i c5], .agg #[v3], .slice A5 i c5, .tuple #[Value.agg #[v4], u4], .agg #[v], .pointer (some { block := gb1, off := 1 }), .int IntKind.i64 (wC q), .agg #[vc], .slice A2 k cp2, .tuple #[Value.agg #[v4], u4], .agg #[v4], u4, .slice (some { block := GE, off := 0 }) 0 0, .int IntKind.i64 ↑i, .slice A5 i c5, .int IntKind.i64 ↑i, .bool false, u62, u63, u64, u65, u66, u67, u68, u69, u70, u71, u72, u73, u74, u75, u76, u77, u78, u79, .tuple #[Value.agg #[Value.slice A6 n6 c6], Value.int IntKind.i64 ↑f6], .agg #[v], .agg #[txt (wP q), Value.int IntKind.i64 (wC q), Value.bool (wK q)], .tuple #[Value.agg #[Value.slice A6 n6 c6], Value.int IntKind.i64 ↑f6], .agg #[Value.slice A6 n6 c6], .int IntKind.i64 ↑f6, .tuple #[Value.agg #[Value.slice A7 n7 c7], Value.slice (some b) n8 c8], .agg #[Value.slice A6 n6 c6], .slice A2 k cp2, .tuple #[Value.agg #[Value.slice A7 n7 c7], Value.slice (some b) n8 c8], .agg #[Value.slice A7 n7 c7], .slice (some b) n8 c8, .int IntKind.i64 ↑k, .slice A2 k cp2, .int IntKind.i64 ↑k, .bool false, u96, u97, u98, u99, u100, u101, u102, u103, u104, u105, u106, .int IntKind.i64 ↑j, .slice (some b) n8 c8, .int IntKind.i64 ↑n8, .bool true, u111, u112, x 0, x 1, x 2, x 3, x 4, x 5, x 6, x 7, x 8, x 9, undef, undef, undef, undef, undef, undef, undef, undef, undef, undef, undef, undef, undef, undef, undef, undef, undef, undef, undef, undef, undef, undef, undef, undef, undef, undef, undef, undef, undef], []⟩) (fun jj => ([eqV (.bool false), eqV (.bool false), eqV (.slice (some b) n8 c8), eqV (.int IntKind.i64 ↑j), eqV (.pointer (some (b.add (j * 5)))), eqV (.pointer (some (b.add (j * 5)))), eqV (.agg (wac e9.1).toArray), eqV (.agg (wac q).toArray), eqV (.bool B), eqV (.bool B)] : List (Value → World → Prop)).getD jj (fun _ _ => True)) rfl ⟨fun kk => [_, _, _, _, _, _, _, _, _, _].getD kk undef, rfl⟩ (by kernel_rfl) (by kernel_rfl) ?steps ?fin
            case steps =>
              refine StepsAt.val 0 (.bool false) rfl (fun _ _ => rfl) rfl rfl (fun x wx hb hd => ?_) ?_
              · first | (go_simp; done) | (go_simp; rfl)
              refine StepsAt.val 1 (.bool false) rfl (fun _ _ => rfl) rfl rfl (fun x wx hb hd => ?_) ?_
              · have h0 : x 0 = .bool false := hd 0 (by kernel_rfl)
                rw [h0]
                first | (go_simp; done) | (go_simp; rfl)
              refine StepsAt.valG 2 (.slice (some b) n8 c8) rfl (fun _ _ => rfl) rfl (fun x wx hd => ?_) (fun x wx hb hd => ?_) ?_
              · have hG : x 1 = .bool false := hd 1 (by kernel_rfl)
                simp [Region.wanted, yielded, hG]
              · first | (go_simp; done) | (go_simp; rfl)
              refine StepsAt.valG 3 (.int IntKind.i64 ↑j) rfl (fun _ _ => rfl) rfl (fun x wx hd => ?_) (fun x wx hb hd => ?_) ?_
              · have hG : x 1 = .bool false := hd 1 (by kernel_rfl)
                simp [Region.wanted, yielded, hG]
              · first | (go_simp; done) | (go_simp; rfl)
              refine StepsAt.valG 4 (.pointer (some (b.add (j * 5)))) rfl (fun _ _ => rfl) rfl (fun x wx hd => ?_) (fun x wx hb hd => ?_) ?_
              · have hG : x 1 = .bool false := hd 1 (by kernel_rfl)
                simp [Region.wanted, yielded, hG]
              · have h2 : x 2 = .slice (some b) n8 c8 := hd 2 (by kernel_rfl)
                have h3 : x 3 = .int IntKind.i64 ↑j := hd 3 (by kernel_rfl)
                rw [h2, h3]
                first | (go_simp; done) | (go_simp; rfl)
              refine StepsAt.valG 5 (.pointer (some (b.add (j * 5)))) rfl (fun _ _ => rfl) rfl (fun x wx hd => ?_) (fun x wx hb hd => ?_) ?_
              · have hG : x 1 = .bool false := hd 1 (by kernel_rfl)
                simp [Region.wanted, yielded, hG]
              · have h4 : x 4 = .pointer (some (b.add (j * 5))) := hd 4 (by kernel_rfl)
                rw [h4]
                first | (go_simp; done) | (go_simp; rfl)
              refine StepsAt.valG 6 (.agg (wac e9.1).toArray) rfl (fun _ _ => rfl) rfl (fun x wx hd => ?_) (fun x wx hb hd => ?_) ?_
              · have hG : x 1 = .bool false := hd 1 (by kernel_rfl)
                simp [Region.wanted, yielded, hG]
              · have h5 : x 5 = .pointer (some (b.add (j * 5))) := hd 5 (by kernel_rfl)
                obtain ⟨b9, hA9, cc0, cc1, cc2, cc3, cc4⟩ := (VYS7.out.below hb).atEv j (by rw [HN8.out]; exact hj2)
                obtain rfl : b = b9 := Option.some.inj hA9
                rw [HE9.out] at cc0 cc1 cc2 cc3 cc4
                rw [h5]
                first | (go_simp; done) | (go_simp; rfl)
              refine StepsAt.valG 7 (.agg (wac q).toArray) rfl (fun _ _ => rfl) rfl (fun x wx hd => ?_) (fun x wx hb hd => ?_) ?_
              · have hG : x 1 = .bool false := hd 1 (by kernel_rfl)
                simp [Region.wanted, yielded, hG]
              · have cc := (VYZXQ.out.below hb VYZXQ.out.lt).at_ 0 _ rfl
                have cd := (VYZXQ.out.below hb VYZXQ.out.lt).at_ 1 _ rfl
                have ce := (VYZXQ.out.below hb VYZXQ.out.lt).at_ 2 _ rfl
                first | (go_simp; done) | (go_simp; rfl)
              refine StepsAt.valG 8 (.bool B) rfl (fun _ _ => rfl) rfl (fun x wx hd => ?_) (fun x wx hb hd => ?_) ?_
              · have hG : x 1 = .bool false := hd 1 (by kernel_rfl)
                simp [Region.wanted, yielded, hG]
              · have h6 : x 6 = .agg (wac e9.1).toArray := hd 6 (by kernel_rfl)
                have h7 : x 7 = .agg (wac q).toArray := hd 7 (by kernel_rfl)
                have hne := run_eqlWaP e9.1 q
                rw [HBB.out] at hne
                have e6 : x 6 = .agg #[txt (wP e9.1), .int .i64 (wC e9.1), .bool (wK e9.1)] := h6
                have e7 : x 7 = .agg #[txt (wP q), .int .i64 (wC q), .bool (wK q)] := h7
                rw [e6, e7]
                first | (go_simp; done) | (go_simp; rfl) | (go_simp; simp)
              refine StepsAt.val 9 (.bool B) rfl (fun _ _ => rfl) rfl rfl (fun x wx hb hd => ?_) ?_
              · have h1 : x 1 = .bool false := hd 1 (by kernel_rfl)
                have h8 : x 8 = .bool B := hd 8 (by kernel_rfl)
                rw [h1, h8]
                first | (go_simp; done) | (go_simp; rfl) | (go_simp; simp)
              exact StepsAt.done
            case fin =>
              intro xx wx hb hd
              have hx0 : xx 0 = .bool false := hd 0 (by omega)
              have hx1 : xx 1 = .bool false := hd 1 (by omega)
              have hx2 : xx 2 = .slice (some b) n8 c8 := hd 2 (by omega)
              have hx3 : xx 3 = .int IntKind.i64 ↑j := hd 3 (by omega)
              have hx4 : xx 4 = .pointer (some (b.add (j * 5))) := hd 4 (by omega)
              have hx5 : xx 5 = .pointer (some (b.add (j * 5))) := hd 5 (by omega)
              have hx6 : xx 6 = .agg (wac e9.1).toArray := hd 6 (by omega)
              have hx7 : xx 7 = .agg (wac q).toArray := hd 7 (by omega)
              have hx8 : xx 8 = .bool B := hd 8 (by omega)
              have hx9 : xx 9 = .bool B := hd 9 (by omega)
              refine AnyTill.any (S := fun _ => True) (m := 11) _ _ _ _ ?_
              rw [hx0, hx1, hx2, hx3, hx4, hx5, hx6, hx7, hx8, hx9]
              refine AnyTill.one (i := 10) (by kernel_rfl) rfl (by rfl) (fun K hK => ?_)
              go_simp
              refine hK.out _ _ (.inr trivial) ?_
              clear hK K
              refine AnyTill.done (by kernel_rfl) ?_
              refine NoPanic.normal ?_
              try dsimp only
              have ER21 := Lib.hid hb
              clear hx0 hx1 hx2 hx3 hx4 hx5 hx6 hx7 hx8 hx9 hd hb
              have ES2 : Hid (Below wT.heap.size wT wx) := ES.out.trans (ER21.out.mono ES.out.size)
              have HST2 : Hid (anyE (E7.take (j + 1)) q = B) := by
                show _ = _
                rw [HST.out]; rfl
              go_wp2
              go_roundw
              case rel => exact ⟨j + 1, by omega, by go_num, by rw [HST2.out], ES2⟩
              case measure => first | (simp [intOf]; done) | (simp [intOf]; omega)
          · refine wp_region_rely3 10 1 (fun x => ⟨#[.agg #[v], .agg (wac q).toArray, .slice A2 k cp2, .pointer (some { block := gb0, off := 0 }), .pointer (some { block := gb1, off := 0 }), undef, .bool false, .pointer (some { block := vg5, off := 0 }), .slice A5 i c5, .pointer (some { block := vg7, off := 0 }), u4, u11, .int IntKind.i64 ↑i, .pointer (some { block := vg9, off := 0 }), .int IntKind.i64 ↑f6, .pointer (some { block := vg10, off := 0 }), .slice (some b) n8 c8, .bool T9, .bool true, .int IntKind.i64 ↑k, .int IntKind.i64 ↑j, .agg #[v], .bool true, .bool false, .bool false, .agg #[v], .agg #[vp], .bool true, .bool false, .bool false, .bool false, .slice A2 k cp2, .bool true, .bool false, .bool false, .bool false, .pointer (some { block := gb1, off := 0 }), txt (wP q), .int IntKind.i64 ↑kp, .bool (decide ((300 : Int) < (kp : Int))), .bool (decide ((300 : Int) < (kp : Int))), undef, .tuple #[Value.agg #[v3], Value.slice A5 i c5], .agg #[v], .slice A2 k cp2, .tuple #[Value.agg #[v3], Value.slice A5 i c5], .agg #[v3], .slice A5 i c5, .tuple #[Value.agg #[v4], u4], .agg #[v], .pointer (some { block := gb1, off := 1 }), .int IntKind.i64 (wC q), .agg #[vc], .slice A2 k cp2, .tuple #[Value.agg #[v4], u4], .agg #[v4], u4, .slice (some { block := GE, off := 0 }) 0 0, .int IntKind.i64 ↑i, .slice A5 i c5, .int IntKind.i64 ↑i, .bool false, u62, u63, u64, u65, u66, u67, u68, u69, u70, u71, u72, u73, u74, u75, u76, u77, u78, u79, .tuple #[Value.agg #[Value.slice A6 n6 c6], Value.int IntKind.i64 ↑f6], .agg #[v], .agg #[txt (wP q), Value.int IntKind.i64 (wC q), Value.bool (wK q)], .tuple #[Value.agg #[Value.slice A6 n6 c6], Value.int IntKind.i64 ↑f6], .agg #[Value.slice A6 n6 c6], .int IntKind.i64 ↑f6, .tuple #[Value.agg #[Value.slice A7 n7 c7], Value.slice (some b) n8 c8], .agg #[Value.slice A6 n6 c6], .slice A2 k cp2, .tuple #[Value.agg #[Value.slice A7 n7 c7], Value.slice (some b) n8 c8], .agg #[Value.slice A7 n7 c7], .slice (some b) n8 c8, .int IntKind.i64 ↑k, .slice A2 k cp2, .int IntKind.i64 ↑k, .bool false, u96, u97, u98, u99, u100, u101, u102, u103, u104, u105, u106, .int IntKind.i64 ↑j, .slice (some b) n8 c8, .int IntKind.i64 ↑n8, .bool true, u111, u112, x 0, x 1, x 2, x 3, x 4, x 5, x 6, x 7, x 8, x 9, undef, undef, undef, undef, undef, undef, undef, undef, undef, undef, undef, undef, undef, undef, undef, undef, undef, undef, undef, undef, undef, undef, undef, undef, undef, undef, undef, undef, undef], []⟩) (fun jj => ([eqV (.bool true), eqV (.bool true), (eqV undef), (eqV undef), (eqV undef), (eqV undef), (eqV undef), (eqV undef), (eqV undef), eqV (.bool true)] : List (Value → World → Prop)).getD jj (fun _ _ => True)) rfl ⟨fun kk => [_, _, _, _, _, _, _, _, _, _].getD kk undef, rfl⟩ (by kernel_rfl) (by kernel_rfl) ?steps ?fin
            case steps =>
              refine StepsAt.val 0 (.bool true) rfl (fun _ _ => rfl) rfl rfl (fun x wx hb hd => ?_) ?_
              · first | (go_simp; done) | (go_simp; rfl)
              refine StepsAt.val 1 (.bool true) rfl (fun _ _ => rfl) rfl rfl (fun x wx hb hd => ?_) ?_
              · have h0 : x 0 = .bool true := hd 0 (by kernel_rfl)
                rw [h0]
                first | (go_simp; done) | (go_simp; rfl)
              refine StepsAt.skip 2 rfl (fun _ _ => rfl) rfl (fun x wx hd => ?_) ?_
              · have hG : x 1 = .bool true := hd 1 (by kernel_rfl)
                simp [Region.wanted, yielded, hG]
              refine StepsAt.skip 3 rfl (fun _ _ => rfl) rfl (fun x wx hd => ?_) ?_
              · have hG : x 1 = .bool true := hd 1 (by kernel_rfl)
                simp [Region.wanted, yielded, hG]
              refine StepsAt.skip 4 rfl (fun _ _ => rfl) rfl (fun x wx hd => ?_) ?_
              · have hG : x 1 = .bool true := hd 1 (by kernel_rfl)
                simp [Region.wanted, yielded, hG]
              refine StepsAt.skip 5 rfl (fun _ _ => rfl) rfl (fun x wx hd => ?_) ?_
              · have hG : x 1 = .bool true := hd 1 (by kernel_rfl)
                simp [Region.wanted, yielded, hG]
              refine StepsAt.skip 6 rfl (fun _ _ => rfl) rfl (fun x wx hd => ?_) ?_
              · have hG : x 1 = .bool true := hd 1 (by kernel_rfl)
                simp [Region.wanted, yielded, hG]
              refine StepsAt.skip 7 rfl (fun _ _ => rfl) rfl (fun x wx hd => ?_) ?_
              · have hG : x 1 = .bool true := hd 1 (by kernel_rfl)
                simp [Region.wanted, yielded, hG]
              refine StepsAt.skip 8 rfl (fun _ _ => rfl) rfl (fun x wx hd => ?_) ?_
              · have hG : x 1 = .bool true := hd 1 (by kernel_rfl)
                simp [Region.wanted, yielded, hG]
              refine StepsAt.val 9 (.bool true) rfl (fun _ _ => rfl) rfl rfl (fun x wx hb hd => ?_) ?_
              · have h1 : x 1 = .bool true := hd 1 (by kernel_rfl)
                have h8 : x 8 = undef := hd 8 (by kernel_rfl)
                rw [h1, h8]
                first | (go_simp; done) | (go_simp; rfl) | (go_simp; simp)
              exact StepsAt.done
            case fin =>
              intro xx wx hb hd
              have hx0 : xx 0 = .bool true := hd 0 (by omega)
              have hx1 : xx 1 = .bool true := hd 1 (by omega)
              have hx2 : xx 2 = undef := hd 2 (by omega)
              have hx3 : xx 3 = undef := hd 3 (by omega)
              have hx4 : xx 4 = undef := hd 4 (by omega)
              have hx5 : xx 5 = undef := hd 5 (by omega)
              have hx6 : xx 6 = undef := hd 6 (by omega)
              have hx7 : xx 7 = undef := hd 7 (by omega)
              have hx8 : xx 8 = undef := hd 8 (by omega)
              have hx9 : xx 9 = .bool true := hd 9 (by omega)
              refine AnyTill.any (S := fun _ => True) (m := 11) _ _ _ _ ?_
              rw [hx0, hx1, hx2, hx3, hx4, hx5, hx6, hx7, hx8, hx9]
              refine AnyTill.one (i := 10) (by kernel_rfl) rfl (by rfl) (fun K hK => ?_)
              go_simp
              refine hK.out _ _ (.inr trivial) ?_
              clear hK K
              refine AnyTill.done (by kernel_rfl) ?_
              refine NoPanic.normal ?_
              try dsimp only
              have ER21 := Lib.hid hb
              clear hx0 hx1 hx2 hx3 hx4 hx5 hx6 hx7 hx8 hx9 hd hb
              have ES2 : Hid (Below wT.heap.size wT wx) := ES.out.trans (ER21.out.mono ES.out.size)
              have HST2 : Hid (anyE (E7.take (j + 1)) q = true) := by
                show _ = _
                rw [HST.out]; rfl
              go_wp2
              go_roundw
              case rel => exact ⟨j + 1, by omega, by go_num, by rw [HST2.out], ES2⟩
              case measure => first | (simp [intOf]; done) | (simp [intOf]; omega)
        obtain rfl : j = n8 := by omega
        have HFT : Hid (E7.take j = E7) := List.take_of_length_le (by rw [HN8.out]; exact Nat.le_refl _)
        rw [HFT.out]
        obtain ⟨S9, hS9⟩ : ∃ f, anyE E7 q = f := ⟨_, rfl⟩
        have HTS : Hid (f6 = 0 → S9 = T9) := by
          intro h0
          have h1 := addW_mem l q (by rw [HF6.out]; exact h0)
          rw [HL6.out] at h1
          rw [← hS9, ← HT9.out, ← HE7.out]
          exact fire_found L6 cs q h1
        rw [hS9]
        clear hS9 hj hj2 HFT
        go_wp2_with fail
        refine (alive11 wS).mono ?_
        rintro e W13 ⟨rfl, hb⟩
        have E13 := Lib.hid hb
        clear hb
        have P13_w := Lib.hid (P12_w.out.trans (E13.out.mono P12_w.out.size))
        clear P12_w
        have P13_y0 := Lib.hid (P12_y0.out.trans (E13.out.mono P12_y0.out.size))
        clear P12_y0
        have P13_y1 := Lib.hid (P12_y1.out.trans (E13.out.mono P12_y1.out.size))
        clear P12_y1
        have P13_W1 := Lib.hid (P12_W1.out.trans (E13.out.mono P12_W1.out.size))
        clear P12_W1
        have P13_W2 := Lib.hid (P12_W2.out.trans (E13.out.mono P12_W2.out.size))
        clear P12_W2
        have P13_W3 := Lib.hid (P12_W3.out.trans (E13.out.mono P12_W3.out.size))
        clear P12_W3
        have P13_W4 := Lib.hid (P12_W4.out.trans (E13.out.mono P12_W4.out.size))
        clear P12_W4
        have P13_W5 := Lib.hid (P12_W5.out.trans (E13.out.mono P12_W5.out.size))
        clear P12_W5
        have P13_W6 := Lib.hid (P12_W6.out.trans (E13.out.mono P12_W6.out.size))
        clear P12_W6
        have P13_W7 := Lib.hid (P12_W7.out.trans (E13.out.mono P12_W7.out.size))
        clear P12_W7
        have P13_wO := Lib.hid (P12_wO.out.trans (E13.out.mono P12_wO.out.size))
        clear P12_wO
        have P13_W9 := Lib.hid (P12_W9.out.trans (E13.out.mono P12_W9.out.size))
        clear P12_W9
        have P13_W10 := Lib.hid (P12_W10.out.trans (E13.out.mono P12_W10.out.size))
        clear P12_W10
        have P13_wT := Lib.hid (ES.out.trans (E13.out.mono ES.out.size))
        go_wp2_with fail
        refine (eventsW_any E4 u4 W13 ((YZS4.out.below P13_W10.out).more P13_W10.out.size) (by have := LL4.out.2; omega)).mono ?_
        rintro e W14 ⟨vM, rfl, hrd, hb⟩
        have E14 := Lib.hid hb
        clear hb
        have P14_w := Lib.hid (P13_w.out.trans (E14.out.mono P13_w.out.size))
        clear P13_w
        have P14_y0 := Lib.hid (P13_y0.out.trans (E14.out.mono P13_y0.out.size))
        clear P13_y0
        have P14_y1 := Lib.hid (P13_y1.out.trans (E14.out.mono P13_y1.out.size))
        clear P13_y1
        have P14_W1 := Lib.hid (P13_W1.out.trans (E14.out.mono P13_W1.out.size))
        clear P13_W1
        have P14_W2 := Lib.hid (P13_W2.out.trans (E14.out.mono P13_W2.out.size))
        clear P13_W2
        have P14_W3 := Lib.hid (P13_W3.out.trans (E14.out.mono P13_W3.out.size))
        clear P13_W3
        have P14_W4 := Lib.hid (P13_W4.out.trans (E14.out.mono P13_W4.out.size))
        clear P13_W4
        have P14_W5 := Lib.hid (P13_W5.out.trans (E14.out.mono P13_W5.out.size))
        clear P13_W5
        have P14_W6 := Lib.hid (P13_W6.out.trans (E14.out.mono P13_W6.out.size))
        clear P13_W6
        have P14_W7 := Lib.hid (P13_W7.out.trans (E14.out.mono P13_W7.out.size))
        clear P13_W7
        have P14_wO := Lib.hid (P13_wO.out.trans (E14.out.mono P13_wO.out.size))
        clear P13_wO
        have P14_W9 := Lib.hid (P13_W9.out.trans (E14.out.mono P13_W9.out.size))
        clear P13_W9
        have P14_W10 := Lib.hid (P13_W10.out.trans (E14.out.mono P13_W10.out.size))
        clear P13_W10
        have P14_wT := Lib.hid (P13_wT.out.trans (E14.out.mono P13_wT.out.size))
        clear P13_wT
        have P14_wS := Lib.hid (E13.out.trans (E14.out.mono E13.out.size))
        have RM := Lib.hid hrd
        clear hrd
        go_wp2_with fail
        refine (eventsW_any E4 u11 W14 ((YRO.out.below P14_W10.out).more P14_W10.out.size) (by have := LL4.out.2; omega)).mono ?_
        rintro e W15 ⟨vN, rfl, hrd, hb⟩
        have E15 := Lib.hid hb
        clear hb
        have P15_w := Lib.hid (P14_w.out.trans (E15.out.mono P14_w.out.size))
        clear P14_w
        have P15_y0 := Lib.hid (P14_y0.out.trans (E15.out.mono P14_y0.out.size))
        clear P14_y0
        have P15_y1 := Lib.hid (P14_y1.out.trans (E15.out.mono P14_y1.out.size))
        clear P14_y1
        have P15_W1 := Lib.hid (P14_W1.out.trans (E15.out.mono P14_W1.out.size))
        clear P14_W1
        have P15_W2 := Lib.hid (P14_W2.out.trans (E15.out.mono P14_W2.out.size))
        clear P14_W2
        have P15_W3 := Lib.hid (P14_W3.out.trans (E15.out.mono P14_W3.out.size))
        clear P14_W3
        have P15_W4 := Lib.hid (P14_W4.out.trans (E15.out.mono P14_W4.out.size))
        clear P14_W4
        have P15_W5 := Lib.hid (P14_W5.out.trans (E15.out.mono P14_W5.out.size))
        clear P14_W5
        have P15_W6 := Lib.hid (P14_W6.out.trans (E15.out.mono P14_W6.out.size))
        clear P14_W6
        have P15_W7 := Lib.hid (P14_W7.out.trans (E15.out.mono P14_W7.out.size))
        clear P14_W7
        have P15_wO := Lib.hid (P14_wO.out.trans (E15.out.mono P14_wO.out.size))
        clear P14_wO
        have P15_W9 := Lib.hid (P14_W9.out.trans (E15.out.mono P14_W9.out.size))
        clear P14_W9
        have P15_W10 := Lib.hid (P14_W10.out.trans (E15.out.mono P14_W10.out.size))
        clear P14_W10
        have P15_wT := Lib.hid (P14_wT.out.trans (E15.out.mono P14_wT.out.size))
        clear P14_wT
        have P15_wS := Lib.hid (P14_wS.out.trans (E15.out.mono P14_wS.out.size))
        clear P14_wS
        have P15_W13 := Lib.hid (E14.out.trans (E15.out.mono E14.out.size))
        have RN := Lib.hid hrd
        clear hrd
        go_wp2_with fail
        refine (rfEventsIs E4 vM vN W15 ((RM.out.below E15.out).more E15.out.size) RN.out).mono ?_
        rintro e W16 ⟨rfl, hb⟩
        have E16 := Lib.hid hb
        clear hb
        have P16_w := Lib.hid (P15_w.out.trans (E16.out.mono P15_w.out.size))
        clear P15_w
        have P16_y0 := Lib.hid (P15_y0.out.trans (E16.out.mono P15_y0.out.size))
        clear P15_y0
        have P16_y1 := Lib.hid (P15_y1.out.trans (E16.out.mono P15_y1.out.size))
        clear P15_y1
        have P16_W1 := Lib.hid (P15_W1.out.trans (E16.out.mono P15_W1.out.size))
        clear P15_W1
        have P16_W2 := Lib.hid (P15_W2.out.trans (E16.out.mono P15_W2.out.size))
        clear P15_W2
        have P16_W3 := Lib.hid (P15_W3.out.trans (E16.out.mono P15_W3.out.size))
        clear P15_W3
        have P16_W4 := Lib.hid (P15_W4.out.trans (E16.out.mono P15_W4.out.size))
        clear P15_W4
        have P16_W5 := Lib.hid (P15_W5.out.trans (E16.out.mono P15_W5.out.size))
        clear P15_W5
        have P16_W6 := Lib.hid (P15_W6.out.trans (E16.out.mono P15_W6.out.size))
        clear P15_W6
        have P16_W7 := Lib.hid (P15_W7.out.trans (E16.out.mono P15_W7.out.size))
        clear P15_W7
        have P16_wO := Lib.hid (P15_wO.out.trans (E16.out.mono P15_wO.out.size))
        clear P15_wO
        have P16_W9 := Lib.hid (P15_W9.out.trans (E16.out.mono P15_W9.out.size))
        clear P15_W9
        have P16_W10 := Lib.hid (P15_W10.out.trans (E16.out.mono P15_W10.out.size))
        clear P15_W10
        have P16_wT := Lib.hid (P15_wT.out.trans (E16.out.mono P15_wT.out.size))
        clear P15_wT
        have P16_wS := Lib.hid (P15_wS.out.trans (E16.out.mono P15_wS.out.size))
        clear P15_wS
        have P16_W13 := Lib.hid (P15_W13.out.trans (E16.out.mono P15_W13.out.size))
        clear P15_W13
        have P16_W14 := Lib.hid (E15.out.trans (E16.out.mono E15.out.size))
        have c_YX6 := (YX6.out.below P16_W10.out YX6.out.lt).at_ 0 _ rfl
        have c_YX7 := (YX7.out.below P16_W10.out YX7.out.lt).at_ 0 _ rfl
        by_cases hf0 : f6 = 0
        · obtain rfl := HTS.out hf0
          subst hf0
          have hsum := HSUM.out
          have hws : IntKind.i64.wrap ((n7 : Int) + (j : Int)) = (n6 : Int) := by rw [IntKind.wrap_i64]; omega
          have hws2 : wrap64 ((n7 : Int) + (j : Int)) = (n6 : Int) := by unfold wrap64; omega
          have hnn : ((n6 : Int) == (n6 : Int)) = true := by simp
          clear hsum
          cases S9
          · go_wp2
            go_ret
            exact ⟨rfl, P16_w.out⟩
          · go_wp2
            go_ret
            exact ⟨rfl, P16_w.out⟩
        have hfe : ((f6 : Int) != 0) = true := by rw [bne_iff_ne]; omega
        go_wp2
        go_ret
        exact ⟨rfl, P16_w.out⟩
end Go.Proofs.Ytmiomfonglmfjaa
