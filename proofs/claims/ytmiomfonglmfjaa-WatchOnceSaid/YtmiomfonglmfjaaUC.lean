/-
  The document's tables: Add, Same, Events, Cancel. Each theorem states its own conditions.
-/
import Derived.Test.YtmiomfonglmfjaaUB
namespace Go.Proofs.Ytmiomfonglmfjaa
open Go.RowKit

set_option maxRecDepth 100000 in
set_option maxHeartbeats 8000000 in
theorem rfAddW_any (l : List Wa) (x : Wa) (v : Value) (w : World) (hr : RdE WaK w.heap.size w v l) (hl : l.length ≤ 1000000) : Calls Try.prog 20 #[.agg #[v], .agg #[txt (wP x), .int .i64 (wC x), .bool (wK x)]] w (Tabs (addW l x) (addE l x) w) := by
  obtain ⟨A, cp, rfl, hc, hm⟩ := hr.shape
  unfold maxLen at hm
  obtain ⟨n, hn⟩ : ∃ n, l.length = n := ⟨_, rfl⟩
  have HN := Lib.hid hn
  have HR := Lib.hid hr
  rw [hn] at hc HR hl ⊢
  have HL := Lib.hid hl
  obtain ⟨d30, hu30, hd30⟩ := rowTbR
  have HU := Lib.hid hu30
  have HD := Lib.hid hd30
  clear hr hn hl hu30 hd30
  go_enter Try.func20, Try.ntmps20
  go_wp2_with (refine wpList_box_blk rfl 39 _ rfl [.slice A n cp] rfl ?_)
  intro w1 b1 b2 b3
  go_wp2_with (refine wpList_box_blk rfl 34 _ rfl (wac x) rfl ?_)
  intro w2 a1 a2 a3
  go_wp2_with (refine wpList_alloc_blk rfl 39 rfl [.slice none 0 0] zTbR ?_)
  intro w3 k1 k2 k3
  obtain ⟨g0, hg0⟩ : ∃ g, w.heap.size = g := ⟨_, rfl⟩
  obtain ⟨g1, hg1⟩ : ∃ g, w.heap.size + 1 = g := ⟨_, rfl⟩
  obtain ⟨g2, hg2⟩ : ∃ g, w.heap.size + 1 + 1 = g := ⟨_, rfl⟩
  have X0 := Lib.hid ((b1.below a3 (by omega)).below k3 (by omega))
  have X1 := Lib.hid (a1.below k3 (by omega))
  have X2 := Lib.hid k1
  have HB := Lib.hid ((b3.trans (a3.mono (by omega))).trans (k3.mono (by omega)))
  have hs3 : w3.heap.size = w.heap.size + 3 := by omega
  have hw2 : w.heap.size ≤ g2 := by omega
  rw [hg2] at X2 ⊢
  rw [hg1] at X1 ⊢
  rw [hg0] at X0 ⊢
  have ca := X0.out.at_ 0 _ rfl
  have d0 := X1.out.at_ 0 _ rfl
  clear b1 b2 b3 a1 a2 a3 k1 k2 k3
  obtain ⟨B, hB⟩ : ∃ B, rightB (wP x) = B := ⟨_, rfl⟩
  have HBB := Lib.hid hB
  clear hB
  go_wp2_with fail
  refine (rightIs (wP x) B HBB.out w3).mono ?_
  rintro e w4 ⟨rfl, hb⟩
  have X04 := Lib.hid (X0.out.below hb (by omega))
  have X14 := Lib.hid (X1.out.below hb (by omega))
  have X24 := Lib.hid (X2.out.below hb (by omega))
  have HB4 := Lib.hid (HB.out.trans (hb.mono HB.out.size))
  have hs4 := hb.size
  clear hb ca d0 X0 X1 X2 HB
  have ca := X04.out.at_ 0 _ rfl
  have d0 := X14.out.at_ 0 _ rfl
  have d1 := X14.out.at_ 1 _ rfl
  have d2 := X14.out.at_ 2 _ rfl
  cases B
  · have HE := Lib.hid (addE_path l x HBB.out)
    go_wp2_with (refine wpList_store_to rfl 39 _ _ rfl g2 [.slice A n cp] [.slice none 0 0] 39 rfl rfl X24.out sTbR rfl (slice_one _ _ _) ?_)
    intro w20 e1 e2 e3 e4
    go_wp2
    refine bodyPost_ret (v := .tuple #[.agg #[.slice A n cp], .int .i64 13]) ?_ rfl ?_
    · exact ret_blk2U rfl _ _ g2 39 [.slice A n cp] _ rfl rfl e1 d30 HU.out HD.out sTbR
    · have HB20 : Below w.heap.size w w20 := HB4.out.trans (e3.mono hw2)
      rw [HE.out.1, HE.out.2]
      exact ⟨_, rfl, (HR.out.below HB20).more HB20.size, HB20⟩
  by_cases hneg : wC x < 0
  · have HE := Lib.hid (addE_arg l x HBB.out hneg)
    go_wp2_with (refine wpList_store_to rfl 39 _ _ rfl g2 [.slice A n cp] [.slice none 0 0] 39 rfl rfl X24.out sTbR rfl (slice_one _ _ _) ?_)
    intro w20 e1 e2 e3 e4
    go_wp2
    refine bodyPost_ret (v := .tuple #[.agg #[.slice A n cp], .int .i64 1]) ?_ rfl ?_
    · exact ret_blk2U rfl _ _ g2 39 [.slice A n cp] _ rfl rfl e1 d30 HU.out HD.out sTbR
    · have HB20 : Below w.heap.size w w20 := HB4.out.trans (e3.mono hw2)
      rw [HE.out.1, HE.out.2]
      exact ⟨_, rfl, (HR.out.below HB20).more HB20.size, HB20⟩
  have HNEG := Lib.hid hneg
  obtain ⟨H, hH⟩ : ∃ H, hasW l x = H := ⟨_, rfl⟩
  have HH := Lib.hid hH
  clear hH
  go_wp2_with fail
  refine (hasIsW l x H HH.out _ w4 ((HR.out.below HB4.out).more HB4.out.size)).mono ?_
  rintro e w5 ⟨rfl, hb⟩
  have X05 := Lib.hid (X04.out.below hb (by omega))
  have X15 := Lib.hid (X14.out.below hb (by omega))
  have X25 := Lib.hid (X24.out.below hb (by omega))
  have HB5 := Lib.hid (HB4.out.trans (hb.mono HB4.out.size))
  have hs5 := hb.size
  clear hb ca d0 d1 d2 X04 X14 X24 HB4
  have ca := X05.out.at_ 0 _ rfl
  have d0 := X15.out.at_ 0 _ rfl
  have d1 := X15.out.at_ 1 _ rfl
  have d2 := X15.out.at_ 2 _ rfl
  cases H
  rotate_left
  · have HE := Lib.hid (addE_has l x HBB.out (by have := HNEG.out; omega) HH.out)
    go_wp2_with (refine wpList_store_to rfl 39 _ _ rfl g2 [.slice A n cp] [.slice none 0 0] 39 rfl rfl X25.out sTbR rfl (slice_one _ _ _) ?_)
    intro w20 e1 e2 e3 e4
    go_wp2
    refine bodyPost_ret (v := .tuple #[.agg #[.slice A n cp], .int .i64 0]) ?_ rfl ?_
    · exact ret_blk2U rfl _ _ g2 39 [.slice A n cp] _ rfl rfl e1 d30 HU.out HD.out sTbR
    · have HB20 : Below w.heap.size w w20 := HB5.out.trans (e3.mono hw2)
      rw [HE.out.1, HE.out.2]
      exact ⟨_, rfl, (HR.out.below HB20).more HB20.size, HB20⟩
  by_cases hfull : (200 : Int) ≤ (n : Int)
  · have HE := Lib.hid (addE_full l x HBB.out (by have := HNEG.out; omega) HH.out (by rw [HN.out]; omega))
    go_wp2_with (refine wpList_store_to rfl 39 _ _ rfl g2 [.slice A n cp] [.slice none 0 0] 39 rfl rfl X25.out sTbR rfl (slice_one _ _ _) ?_)
    intro w20 e1 e2 e3 e4
    go_wp2
    refine bodyPost_ret (v := .tuple #[.agg #[.slice A n cp], .int .i64 9]) ?_ rfl ?_
    · exact ret_blk2U rfl _ _ g2 39 [.slice A n cp] _ rfl rfl e1 d30 HU.out HD.out sTbR
    · have HB20 : Below w.heap.size w w20 := HB5.out.trans (e3.mono hw2)
      rw [HE.out.1, HE.out.2]
      exact ⟨_, rfl, (HR.out.below HB20).more HB20.size, HB20⟩
  have HE := Lib.hid (addE_ok l x HBB.out (by have := HNEG.out; omega) HH.out (by rw [HN.out]; omega))
  obtain ⟨G, hG⟩ : ∃ G, w5.heap.size = G := ⟨_, rfl⟩
  have HG := Lib.hid hG
  have hG2 : g2 < G := by omega
  have hG1 : g1 < G := by omega
  have hGw : w.heap.size ≤ G := by omega
  have HO0 : Hid (OwnE WaK 34 (w5.alloc (.cells #[] 34)) G (.slice (some ⟨G, 0, none⟩) 0 0) []) := by
    have := OwnE.empty (E := WaK) 34 w5 G (by rw [hG]; exact Nat.le_refl _)
    rw [hG] at this
    exact this
  have HW0 : Hid (Below G w5 (w5.alloc (.cells #[] 34))) := (Below.refl _ _).alloc (by rw [hG]; exact Nat.le_refl _) _
  have HR0 : Hid (RdE WaK w.heap.size (w5.alloc (.cells #[] 34)) (.slice A n cp) l) := HR.out.below (HB5.out.trans (HW0.out.mono hGw))
  have hGa : G ≤ (w5.alloc (.cells #[] 34)).heap.size := by simp; omega
  have cz := (X05.out.below HW0.out (by omega)).at_ 0 _ rfl
  go_wp2_with (at_builtin; refine wpList_appF (E := WaK) rfl _ _ 37 rfl 34 32 Try.underlying37 kindWaR G _ _ _ [] l rfl HO0.out rfl HR0.out ?d1 ?d2 ?d3 ?_)
  case d1 => have := HL.out; have := HN.out; simp; omega
  case d2 => have := HL.out; have := HN.out; simp; omega
  case d3 => exact hGa
  intro v6 w6 h6 hb6 _
  have HO6 : Hid (OwnE WaK 34 w6 G v6 l) := h6
  have HW6 := Lib.hid (HW0.out.trans hb6)
  have hs6 := HW6.out.size
  clear h6 hb6 ca cz d0 d1 d2
  have d0 := (X15.out.below HW6.out hG1).at_ 0 _ rfl
  have d1 := (X15.out.below HW6.out hG1).at_ 1 _ rfl
  have d2 := (X15.out.below HW6.out hG1).at_ 2 _ rfl
  have HO7 : Hid (OwnE WaK 34 (w6.alloc (.cells (wac x).toArray 34)) G v6 l) := HO6.out.alloc _
  have HW7 : Hid (Below G w5 (w6.alloc (.cells (wac x).toArray 34))) := HW6.out.alloc (by omega) _
  go_wp2_with (at_builtin; refine wpList_appE (E := WaK) rfl _ _ 37 rfl 34 32 Try.underlying37 kindWaR G _ _ _ l [x] rfl HO7.out rfl (RdE.one w6 34 x) (by simp) ?d1 ?d2 ?d3 ?_)
  case d1 => have := HL.out; have := HN.out; simp only [List.length_cons, List.length_nil]; omega
  case d2 => have := HL.out; have := HN.out; simp only [List.length_cons, List.length_nil]; omega
  case d3 => simp; omega
  intro v8 w8 h8 hb8 _ _
  have HO8 := Lib.hid h8
  have HW8 := Lib.hid (HW7.out.trans hb8)
  clear h8 hb8 d0 d1 d2
  obtain ⟨Ao, co, ho, -, -⟩ := HO8.out.rd.shape
  obtain ⟨LL, hLL⟩ : ∃ LL, (l ++ [x]).length = LL := ⟨_, rfl⟩
  rw [hLL] at ho
  subst ho
  clear hLL
  have Y2 := Lib.hid (X25.out.below HW8.out hG2)
  go_wp2_with (refine wpList_store_to rfl 39 _ _ rfl g2 [.slice Ao LL co] [.slice none 0 0] 39 rfl rfl Y2.out sTbR rfl (slice_one _ _ _) ?_)
  intro w20 e1 e2 e3 e4
  go_wp2
  refine bodyPost_ret (v := .tuple #[.agg #[.slice Ao LL co], .int .i64 0]) ?_ rfl ?_
  · exact ret_blk2U rfl _ _ g2 39 [.slice Ao LL co] _ rfl rfl e1 d30 HU.out HD.out sTbR
  · rw [HE.out.1, HE.out.2]
    exact ⟨_, rfl, OwnE.rd (ownsRow_same HO8.out (fun k hk => e4 k (by omega))), HB5.out.trans ((HW8.out.mono hGw).trans (e3.mono hw2))⟩

theorem sameW_at {α : Type} [DecidableEq α] (l m : List α) (d : α) (i : Nat) (h : l.getD i d ≠ m.getD i d) : decide (l = m) = false := by
  rw [decide_eq_false_iff_not]
  rintro rfl
  exact h rfl
theorem sameW_all {α : Type} [DecidableEq α] (l m : List α) (d : α) (hl : l.length = m.length) (h : ∀ i, i < l.length → l.getD i d = m.getD i d) : decide (l = m) = true := by
  rw [decide_eq_true_eq]
  refine List.ext_getElem hl fun i h1 h2 => ?_
  have := h i h1
  rw [List.getD_eq_getElem?_getD, List.getD_eq_getElem?_getD, List.getElem?_eq_getElem h1, List.getElem?_eq_getElem h2] at this
  exact this
theorem sameW_len {α : Type} [DecidableEq α] (l m : List α) (hl : l.length ≠ m.length) : decide (l = m) = false := by
  rw [decide_eq_false_iff_not]
  rintro rfl
  exact hl rfl

set_option maxRecDepth 100000 in
set_option maxHeartbeats 4000000 in
theorem rfSameW_any (l m : List Wa) (v u : Value) (w : World) (hr : RdE WaK w.heap.size w v l) (hr2 : RdE WaK w.heap.size w u m) : Calls Try.prog 17 #[.agg #[v], .agg #[u]] w (One (.bool (decide (l = m))) w) := by
  obtain ⟨A, cp, rfl, hc, hm⟩ := hr.shape
  obtain ⟨A2, cp2, rfl, hc2, hm2⟩ := hr2.shape
  unfold maxLen at hm hm2
  obtain ⟨n, hn⟩ : ∃ n, l.length = n := ⟨_, rfl⟩
  obtain ⟨k, hk⟩ : ∃ n, m.length = n := ⟨_, rfl⟩
  have HN := Lib.hid hn
  have HK := Lib.hid hk
  have HR := Lib.hid hr
  have HR2 := Lib.hid hr2
  rw [hn] at hc HR ⊢
  rw [hk] at hc2 HR2 ⊢
  clear hr hn hr2 hk
  go_enter Try.func17, Try.ntmps17
  go_wp2_with (refine wpList_box_blk rfl 39 _ rfl [.slice A n cp] rfl ?_)
  intro w1 b1 b2 b3
  go_wp2_with (refine wpList_box_blk rfl 39 _ rfl [.slice A2 k cp2] rfl ?_)
  intro w2 a1 a2 a3
  obtain ⟨g0, hg0⟩ : ∃ g, w.heap.size = g := ⟨_, rfl⟩
  obtain ⟨g1, hg1⟩ : ∃ g, w.heap.size + 1 = g := ⟨_, rfl⟩
  have X0 := Lib.hid (b1.below a3 (by omega))
  have HB := Lib.hid (b3.trans (a3.mono (by omega)))
  have HRa := Lib.hid (HR.out.below HB.out)
  have HRb := Lib.hid (HR2.out.below HB.out)
  have hw2 : w.heap.size ≤ w2.heap.size := by omega
  have X1 := Lib.hid a1
  have hg2 : g1 < w2.heap.size := by omega
  have hg3 : g0 < w2.heap.size := by omega
  rw [hg1] at X1 ⊢
  rw [hg0] at X0 ⊢
  have ca := X0.out.cell 0
  have cb := X1.out.cell 0
  clear b1 b2 b3 a1 a2 a3 HR HR2
  by_cases hnk : n = k
  · subst hnk
    go_wp2
    go_loopw [5] (fun x wr => ∃ i : Nat, i ≤ n ∧ x = .int .i64 (i : Int) ∧ Hid (∀ j, j < i → l.getD j wa0 = m.getD j wa0) ∧ Hid (Below w2.heap.size w2 wr)) (fun x _ => n - (intOf x).toNat)
    case atStart => exact ⟨0, by omega, rfl, fun j hj => by omega, Below.refl _ _⟩
    case round =>
      obtain ⟨i, hi, rfl, HA, HD⟩ := hrel
      clear ca cb
      have ca := (X0.out.below HD.out hg3).cell 0
      have cb := (X1.out.below HD.out hg2).cell 0
      by_cases hi2 : i < n
      · have zi : (i : Int) < (n : Int) := by omega
        obtain ⟨a, hA, c0, c1, c2⟩ := (HRa.out.below (HD.out.mono hw2)).atWa i (by rw [HN.out]; exact hi2)
        obtain ⟨b, hA2, d0, d1, d2⟩ := (HRb.out.below (HD.out.mono hw2)).atWa i (by rw [HK.out]; exact hi2)
        subst hA hA2
        obtain ⟨x, hx⟩ : ∃ x, l.getD i wa0 = x := ⟨_, rfl⟩
        obtain ⟨y, hy⟩ : ∃ y, m.getD i wa0 = y := ⟨_, rfl⟩
        rw [hx] at c0 c1 c2
        rw [hy] at d0 d1 d2
        have hne := run_neqWaR x y
        obtain ⟨B, hB⟩ : ∃ B, decide (x = y) = B := ⟨_, rfl⟩
        rw [hB] at hne
        go_wp2
        refine wp_region_quiet_lit (by kernel_rfl) (by kernel_rfl) ?_
        repeat (first | go_big_quiet_step (fail) | quiet_step (fail))
        refine wpQuiet_nil ?_
        intro _ hw'
        obtain ⟨nq, hw''⟩ := hw'
        subst hw''
        have HD2 : Hid (Below w2.heap.size w2 (wr.drewN nq)) := Below.drewN' HD.out
        cases B
        · have HF := Lib.hid (sameW_at l m wa0 i (by rw [hx, hy]; simpa using hB))
          clear hne
          go_wp2
          go_ret
          exact ⟨by rw [HF.out]; rfl, HB.out.trans (HD2.out.mono hw2)⟩
        · have HA2 : Hid (∀ j, j < i + 1 → l.getD j wa0 = m.getD j wa0) := by
            intro j hj
            by_cases h : j < i
            · exact HA.out j h
            · have : j = i := by omega
              subst this
              rw [hx, hy]
              simpa using hB
          clear hne
          go_wp2
          go_roundw
          case rel => exact ⟨i + 1, by omega, by go_num, HA2, HD2⟩
          case measure => simp [intOf]; omega
      · have hE : i = n := by omega
        subst hE
        have HF := Lib.hid (sameW_all l m wa0 (by rw [HN.out, HK.out]) (by rw [HN.out]; exact HA.out))
        go_wp2
        go_ret
        exact ⟨by rw [HF.out]; rfl, HB.out.trans (HD.out.mono hw2)⟩
  · have HF := Lib.hid (sameW_len l m (by rw [HN.out, HK.out]; exact hnk))
    have hz : ((n : Int) == (k : Int)) = false := by
      rw [beq_eq_false_iff_ne]
      omega
    have hz2 : ((n : Int) != (k : Int)) = true := by
      rw [bne_iff_ne]
      omega
    go_wp2
    go_ret
    exact ⟨by rw [HF.out]; rfl, HB.out⟩

set_option maxRecDepth 100000 in
set_option maxHeartbeats 4000000 in
theorem rfEvents_any (l m : List Ev) (v u : Value) (w : World) (hr : RdE EvK w.heap.size w v l) (hr2 : RdE EvK w.heap.size w u m) : Calls Try.prog 24 #[v, u] w (One (.bool (decide (l = m))) w) := by
  obtain ⟨A, cp, rfl, hc, hm⟩ := hr.shape
  obtain ⟨A2, cp2, rfl, hc2, hm2⟩ := hr2.shape
  unfold maxLen at hm hm2
  obtain ⟨n, hn⟩ : ∃ n, l.length = n := ⟨_, rfl⟩
  obtain ⟨k, hk⟩ : ∃ n, m.length = n := ⟨_, rfl⟩
  have HN := Lib.hid hn
  have HK := Lib.hid hk
  have HR := Lib.hid hr
  have HR2 := Lib.hid hr2
  rw [hn] at hc HR ⊢
  rw [hk] at hc2 HR2 ⊢
  clear hr hn hr2 hk
  go_enter Try.func24, Try.ntmps24
  obtain ⟨w2, hw⟩ : ∃ w2, w = w2 := ⟨_, rfl⟩
  subst hw
  have HB := Lib.hid (Below.refl w.heap.size w)
  have HRa := HR
  have HRb := HR2
  have hw2 : w.heap.size ≤ w.heap.size := Nat.le_refl _
  by_cases hnk : n = k
  · subst hnk
    go_wp2
    go_loopw [5] (fun x wr => ∃ i : Nat, i ≤ n ∧ x = .int .i64 (i : Int) ∧ Hid (∀ j, j < i → l.getD j ev0 = m.getD j ev0) ∧ Hid (Below w.heap.size w wr)) (fun x _ => n - (intOf x).toNat)
    case atStart => exact ⟨0, by omega, rfl, fun j hj => by omega, Below.refl _ _⟩
    case round =>
      obtain ⟨i, hi, rfl, HA, HD⟩ := hrel
      by_cases hi2 : i < n
      · have zi : (i : Int) < (n : Int) := by omega
        obtain ⟨a, hA, c0, c1, c2, c3, c4⟩ := (HRa.out.below (HD.out.mono hw2)).atEv i (by rw [HN.out]; exact hi2)
        obtain ⟨b, hA2, d0, d1, d2, d3, d4⟩ := (HRb.out.below (HD.out.mono hw2)).atEv i (by rw [HK.out]; exact hi2)
        subst hA hA2
        obtain ⟨x, hx⟩ : ∃ x, l.getD i ev0 = x := ⟨_, rfl⟩
        obtain ⟨y, hy⟩ : ∃ y, m.getD i ev0 = y := ⟨_, rfl⟩
        rw [hx] at c0 c1 c2 c3 c4
        rw [hy] at d0 d1 d2 d3 d4
        have hne := run_neqEvR x y
        obtain ⟨B, hB⟩ : ∃ B, decide (x = y) = B := ⟨_, rfl⟩
        rw [hB] at hne
        go_wp2
        refine wp_region_quiet_lit (by kernel_rfl) (by kernel_rfl) ?_
        repeat (first | go_big_quiet_step (fail) | quiet_step (fail))
        refine wpQuiet_nil ?_
        intro _ hw'
        obtain ⟨nq, hw''⟩ := hw'
        subst hw''
        have HD2 : Hid (Below w.heap.size w (wr.drewN nq)) := Below.drewN' HD.out
        cases B
        · have HF := Lib.hid (sameW_at l m ev0 i (by rw [hx, hy]; simpa using hB))
          clear hne
          go_wp2
          go_ret
          exact ⟨by rw [HF.out]; rfl, HB.out.trans (HD2.out.mono hw2)⟩
        · have HA2 : Hid (∀ j, j < i + 1 → l.getD j ev0 = m.getD j ev0) := by
            intro j hj
            by_cases h : j < i
            · exact HA.out j h
            · have : j = i := by omega
              subst this
              rw [hx, hy]
              simpa using hB
          clear hne
          go_wp2
          go_roundw
          case rel => exact ⟨i + 1, by omega, by go_num, HA2, HD2⟩
          case measure => simp [intOf]; omega
      · have hE : i = n := by omega
        subst hE
        have HF := Lib.hid (sameW_all l m ev0 (by rw [HN.out, HK.out]) (by rw [HN.out]; exact HA.out))
        go_wp2
        go_ret
        exact ⟨by rw [HF.out]; rfl, HB.out.trans (HD.out.mono hw2)⟩
  · have HF := Lib.hid (sameW_len l m (by rw [HN.out, HK.out]; exact hnk))
    have hz : ((n : Int) == (k : Int)) = false := by
      rw [beq_eq_false_iff_ne]
      omega
    have hz2 : ((n : Int) != (k : Int)) = true := by
      rw [bne_iff_ne]
      omega
    go_wp2
    go_ret
    exact ⟨by rw [HF.out]; rfl, HB.out⟩

set_option maxRecDepth 100000 in
set_option maxHeartbeats 8000000 in
theorem rfCancelW_any (l : List Wa) (z : Int) (v : Value) (w : World) (hr : RdE WaK w.heap.size w v l) (hl : l.length ≤ 1000000) : Calls Try.prog 27 #[.agg #[v], .int .i64 z] w (Tab1 (cancelW l z) w) := by
  obtain ⟨A, cp, rfl, hc, hm⟩ := hr.shape
  unfold maxLen at hm
  obtain ⟨n, hn⟩ : ∃ n, l.length = n := ⟨_, rfl⟩
  have HN := Lib.hid hn
  have HR := Lib.hid hr
  rw [hn] at hc HR hl ⊢
  have HL := Lib.hid hl
  obtain ⟨d30, hu30, hd30⟩ := rowTbR
  have HU := Lib.hid hu30
  have HD := Lib.hid hd30
  clear hr hn hl hu30 hd30
  go_enter Try.func27, Try.ntmps27
  go_wp2_with (refine wpList_box_blk rfl 39 _ rfl [.slice A n cp] rfl ?_)
  intro w1 b1 b2 b3
  go_wp2_with (refine wpList_alloc_blk rfl 39 rfl [.slice none 0 0] zTbR ?_)
  intro w2 a1 a2 a3
  obtain ⟨g0, hg0⟩ : ∃ g, w.heap.size = g := ⟨_, rfl⟩
  obtain ⟨g1, hg1⟩ : ∃ g, w.heap.size + 1 = g := ⟨_, rfl⟩
  obtain ⟨G, hG⟩ : ∃ G, w2.heap.size = G := ⟨_, rfl⟩
  have X0 := Lib.hid (b1.below a3 (by omega))
  have X1 := Lib.hid a1
  have HB := Lib.hid (b3.trans (a3.mono (by omega)))
  have hwG : w.heap.size ≤ G := by omega
  have h0G : g0 < G := by omega
  have h1G : g1 < G := by omega
  have hw1 : w.heap.size ≤ g1 := by omega
  have HG := Lib.hid hG
  rw [hg1] at X1 ⊢
  rw [hg0] at X0 ⊢
  clear b1 b2 b3 a1 a2 a3 hg1
  have HO0 : Hid (OwnE WaK 34 (w2.alloc (.cells #[] 34)) G (.slice (some ⟨G, 0, none⟩) 0 0) []) := by
    have := OwnE.empty (E := WaK) 34 w2 G (by rw [hG]; exact Nat.le_refl _)
    rw [hG] at this
    exact this
  have HW0 : Hid (Below G w2 (w2.alloc (.cells #[] 34))) := (Below.refl _ _).alloc (by rw [hG]; exact Nat.le_refl _) _
  go_wp2
  clear hG
  go_loopw [5, 6] (fun o x wr => ∃ i : Nat, i ≤ n ∧ x = .int .i64 (i : Int) ∧ Hid (OwnE WaK 34 wr G o (cancelW (l.take i) z)) ∧ Hid (Below G w2 wr)) (fun _ x _ => n - (intOf x).toNat)
  case atStart => exact ⟨0, by omega, rfl, HO0, HW0⟩
  case round =>
    obtain ⟨i, hi, rfl, HO, HW⟩ := hrel
    have hwr := HW.out.size
    rw [HG.out] at hwr
    have ca := (X0.out.below HW.out h0G).at_ 0 _ rfl
    by_cases hi2 : i < n
    · have zi : (i : Int) < (n : Int) := by omega
      obtain ⟨a, hA, c0, c1, c2⟩ := (HR.out.below (HB.out.trans (HW.out.mono hwG))).atWa i (by rw [HN.out]; exact hi2)
      subst hA
      have HT := Lib.hid (cancelW_snoc l z i (by rw [HN.out]; exact hi2))
      have HKL : Hid ((cancelW (l.take i) z).length ≤ n) := by
        show _ ≤ _
        have h1 := List.length_filter_le (fun w => decide (wC w ≠ z)) (l.take i)
        have h2 := List.length_take_le i l
        unfold cancelW
        omega
      obtain ⟨x, hx⟩ : ∃ x, l.getD i wa0 = x := ⟨_, rfl⟩
      rw [hx] at c0 c1 c2 HT
      clear hx
      by_cases he : wC x = z
      · have HT2 : Hid (cancelW (l.take (i + 1)) z = cancelW (l.take i) z) := by
          show _ = _
          rw [HT.out, if_pos he]; simp
        have hbb : (wC x != z) = false := by rw [he]; simp
        clear he
        go_wp2
        go_roundw
        case rel => exact ⟨i + 1, by omega, by go_num, by rw [HT2.out]; exact HO, HW⟩
        case measure => simp [intOf]; omega
      · have HT2 : Hid (cancelW (l.take (i + 1)) z = cancelW (l.take i) z ++ [x]) := by
          show _ = _
          rw [HT.out, if_neg he]
        have hbb : (wC x != z) = true := by rw [bne_iff_ne]; exact he
        clear he
        have HO4 : Hid (OwnE WaK 34 (wr.alloc (.cells (wac x).toArray 34)) G u5 (cancelW (l.take i) z)) := HO.out.alloc _
        have HW4 : Hid (Below G w2 (wr.alloc (.cells (wac x).toArray 34))) := HW.out.alloc hwr _
        go_wp2_with (at_builtin; refine wpList_appE (E := WaK) rfl _ _ 37 rfl 34 32 Try.underlying37 kindWaR G _ _ _ (cancelW (l.take i) z) [x] rfl HO4.out rfl (RdE.one wr 34 x) (by simp) ?d1 ?d2 ?d3 ?_)
        case d1 => have := HKL.out; have := HL.out; simp only [List.length_cons, List.length_nil]; omega
        case d2 => have := HKL.out; have := HL.out; simp only [List.length_cons, List.length_nil]; omega
        case d3 => simp; omega
        intro v5 w5 h5 hb5 hg5 _
        have HO5 : Hid (OwnE WaK 34 w5 G v5 (cancelW (l.take (i + 1)) z)) := by
          show OwnE _ _ _ _ _ _
          rw [HT2.out]
          exact h5
        have HW5 : Hid (Below G w2 w5) := HW4.out.trans hb5
        clear h5 hb5 hg5
        go_wp2
        go_roundw
        case rel => exact ⟨i + 1, by omega, by go_num, HO5, HW5⟩
        case measure => simp [intOf]; omega
    · have hE : i = n := by omega
      subst hE
      have HFL : Hid (l.take i = l) := List.take_of_length_le (by rw [HN.out]; exact Nat.le_refl _)
      rw [HFL.out] at HO
      obtain ⟨Ao, co, ho, -, -⟩ := HO.out.rd.shape
      obtain ⟨LL, hLL⟩ : ∃ LL, (cancelW l z).length = LL := ⟨_, rfl⟩
      rw [hLL] at ho
      subst ho
      clear hLL
      have Yr := Lib.hid (X1.out.below HW.out h1G)
      go_wp2_with (refine wpList_store_to rfl 39 _ _ rfl g1 [.slice Ao LL co] [.slice none 0 0] 39 rfl rfl Yr.out sTbR rfl (slice_one _ _ _) ?_)
      intro w20 e1 e2 e3 e4
      go_wp2
      refine bodyPost_ret (v := .agg [Value.slice Ao LL co].toArray) ?_ rfl ?_
      · exact ret_blkUL rfl _ _ g1 39 [.slice Ao LL co] rfl e1 d30 HU.out HD.out sTbR
      · exact ⟨_, rfl, OwnE.rd (ownsRow_same HO.out (fun k hk => e4 k (by omega))), HB.out.trans ((HW.out.mono hwG).trans (e3.mono hw1))⟩
end Go.Proofs.Ytmiomfonglmfjaa
