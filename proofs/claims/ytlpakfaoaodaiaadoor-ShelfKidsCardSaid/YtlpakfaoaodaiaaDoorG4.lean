/-
  The program's shelves: New, Same, Drop. Each theorem states its own conditions.
-/
import Derived.Test.YtlpakfaoaodaiaaDoorG2
import Derived.Test.YtlpakfaoaodaiaaDoorHF
namespace Go.Proofs.YtlpakfaoaodaiaaDoor
open Go.RowKit

set_option maxRecDepth 100000 in
set_option maxHeartbeats 2000000 in
theorem shNew_any (w : World) : Calls Tryd.prog 16 #[] w (Shelf1 [rootN] w) := by
  obtain ⟨d30, hu30, hd30⟩ := rowPS
  have HU := Lib.hid hu30
  have HD := Lib.hid hd30
  clear hu30 hd30
  go_enter Tryd.func16, Tryd.ntmps16
  go_wp2_with (refine wpList_alloc_blk rfl 24 rfl [.slice none 0 0] zPS ?_)
  intro w1 a1 a2 a3
  obtain ⟨g0, hg0⟩ : ∃ g, w.heap.size = g := ⟨_, rfl⟩
  obtain ⟨G, hG⟩ : ∃ G, w1.heap.size = G := ⟨_, rfl⟩
  have X0 := Lib.hid a1
  have HB := Lib.hid a3
  have hg0G : g0 < G := by omega
  have hwG : w.heap.size ≤ G := by omega
  have R0 : Hid (RdNd (G + 1) (w1.alloc (.cells (ndc rootN).toArray 53)) (.slice (some ⟨G, 0, none⟩) 1 1) [rootN]) := by
    show RdNd _ _ _ _
    have h := RdNd.one w1 53 rootN
    rw [hG] at h
    exact h
  have X1 : Hid (Blk (w1.alloc (.cells (ndc rootN).toArray 53)) g0 [.slice none 0 0] 24) := by
    show Blk _ _ _ _
    rw [← hg0]
    exact X0.out.alloc _
  have HW : Hid (Below G w1 (w1.alloc (.cells (ndc rootN).toArray 53))) := (Below.refl _ _).alloc (by omega) _
  have hsz : (w1.alloc (.cells (ndc rootN).toArray 53)).heap.size = G + 1 := by simp; omega
  have HSZ := Lib.hid hsz
  rw [hg0]
  clear a1 a2 a3 X0 hsz
  go_wp2_with (refine wpList_store_to rfl 24 _ _ rfl g0 [.slice (some ⟨G, 0, none⟩) 1 1] [.slice none 0 0] 24 rfl rfl X1.out sPS rfl (slice_one _ _ _) ?_)
  intro w2 e1 e2 e3 e4
  go_wp2
  refine bodyPost_ret (v := .agg [Value.slice (some ⟨G, 0, none⟩) 1 1].toArray) ?_ rfl ?_
  · exact ret_blkUL rfl _ _ g0 24 [.slice (some ⟨G, 0, none⟩) 1 1] rfl e1 d30 HU.out HD.out sPS
  · have hb : Below w.heap.size w w2 := HB.out.trans ((HW.out.mono hwG).trans (e3.mono (by omega)))
    refine ⟨_, rfl, ?_, hb⟩
    obtain ⟨A', c', hv, hc, hm, hn, hr⟩ := R0.out
    refine ⟨A', c', hv, hc, hm, hn, fun a ha => ⟨fun h0 => ?_, fun j u hu => ?_⟩⟩
    · have := (hr a ha).1 h0
      rw [e2]
      exact this
    · rw [← (hr a ha).2 j u hu]
      refine World.cell?_of_block (e4 _ ?_)
      have h1 : a = ⟨G, 0, none⟩ := by
        rw [ha] at hv
        injection hv with hv
        injection hv with hv
        exact hv.symm
      rw [h1, addr_block]
      show G ≠ g0
      omega

theorem fNodeP : (Tryd.prog.fieldsOf 53).toList.map (fun f => (f.name == "_", f.type, f.offset)) = [(false, 9, 0), (false, 9, 1), (false, 3, 2), (false, 3, 3)] := by kernel_rfl
theorem uNodeP : Tryd.prog.underlying 53 = some (.struct (Tryd.prog.fieldsOf 53)) := by kernel_rfl
theorem run_neq_ndP (x y : Nd) (w : World) : (binOp .neq 53 (.agg #[txt (nP x), txt (nV x), .int .i64 (nR x), .int .i64 (nO x)]) (.agg #[txt (nP y), txt (nV y), .int .i64 (nR y), .int .i64 (nO y)])).run Tryd.prog w = .ok (.bool (!decide (x = y))) w := by
  rw [run_neq_struct, run_equalIn_struct w 9999 _ _ _ uNodeP (by kernel_rfl), show (#[txt (nP x), txt (nV x), .int .i64 (nR x), .int .i64 (nO x)] : Array Value) = (ndc x).toArray from rfl, show (#[txt (nP y), txt (nV y), .int .i64 (nR y), .int .i64 (nO y)] : Array Value) = (ndc y).toArray from rfl, eqFields_nd 9998 x y w _ fNodeP]
  rfl
theorem run_eql_ndP (x y : Nd) (w : World) : (binOp .eql 53 (.agg #[txt (nP x), txt (nV x), .int .i64 (nR x), .int .i64 (nO x)]) (.agg #[txt (nP y), txt (nV y), .int .i64 (nR y), .int .i64 (nO y)])).run Tryd.prog w = .ok (.bool (decide (x = y))) w := by
  rw [run_eql_struct, run_equalIn_struct w 9999 _ _ _ uNodeP (by kernel_rfl), show (#[txt (nP x), txt (nV x), .int .i64 (nR x), .int .i64 (nO x)] : Array Value) = (ndc x).toArray from rfl, show (#[txt (nP y), txt (nV y), .int .i64 (nR y), .int .i64 (nO y)] : Array Value) = (ndc y).toArray from rfl, eqFields_nd 9998 x y w _ fNodeP]
  rfl

set_option maxRecDepth 100000 in
set_option maxHeartbeats 2000000 in
/-- slices.Equal over nodes. -/
theorem eqFunc_any (l m : List Nd) (v u : Value) (w : World) (hr : RdNd w.heap.size w v l) (hr2 : RdNd w.heap.size w u m) : Calls Tryd.prog 39 #[v, u] w (One (.bool (decide (l = m))) w) := by
  obtain ⟨A, cp, rfl, hc, hm⟩ := hr.shape
  obtain ⟨A2, cp2, rfl, hc2, hm2⟩ := hr2.shape
  unfold maxLen at hm hm2
  obtain ⟨n, hn⟩ : ∃ n, l.length = n := ⟨_, rfl⟩
  obtain ⟨k, hk⟩ : ∃ n, m.length = n := ⟨_, rfl⟩
  have HN := Lib.hid hn
  have HK := Lib.hid hk
  have HRa := Lib.hid hr
  have HRb := Lib.hid hr2
  rw [hn] at hc HRa ⊢
  rw [hk] at hc2 HRb ⊢
  clear hr hn hr2 hk
  go_enter Tryd.func39, Tryd.ntmps39
  by_cases hnk : n = k
  · subst hnk
    go_wp2
    go_loopw [5, 13] (fun _ x wr => ∃ i : Nat, i ≤ n ∧ x = .int .i64 (i : Int) ∧ Hid (∀ j, j < i → l.getD j nd0 = m.getD j nd0) ∧ Hid (Below w.heap.size w wr)) (fun _ x _ => n - (intOf x).toNat)
    case atStart => exact ⟨0, by omega, rfl, fun j hj => by omega, Below.refl _ _⟩
    case round =>
      obtain ⟨i, hi, rfl, HA, HD⟩ := hrel
      by_cases hi2 : i < n
      · have zi : (i : Int) < (n : Int) := by omega
        obtain ⟨a, hA, c0, c1, c2, c3⟩ := (HRa.out.below HD.out).at_ i (by rw [HN.out]; exact hi2)
        obtain ⟨b, hA2, d0, d1, d2, d3⟩ := (HRb.out.below HD.out).at_ i (by rw [HK.out]; exact hi2)
        subst hA hA2
        obtain ⟨x, hx⟩ : ∃ x, l.getD i nd0 = x := ⟨_, rfl⟩
        obtain ⟨y, hy⟩ : ∃ y, m.getD i nd0 = y := ⟨_, rfl⟩
        rw [hx] at c0 c1 c2 c3
        rw [hy] at d0 d1 d2 d3
        have hne := run_neq_ndP x y
        obtain ⟨B, hB⟩ : ∃ B, decide (x = y) = B := ⟨_, rfl⟩
        rw [hB] at hne
        go_wp2
        refine wp_region_quiet_lit (by kernel_rfl) (by kernel_rfl) ?_
        repeat (first | go_big_quiet_step (fail) | quiet_step (fail))
        refine wpQuiet_nil ?_
        intro _ hw'
        obtain ⟨nq, hw''⟩ := hw'
        subst hw''
        have HD2 : Hid (Below w.heap.size w (wr.drewN nq)) := Below.drewN' HD.out
        cases B
        · have HF := Lib.hid (same_at l m i (by rw [hx, hy]; simpa using hB))
          clear hne
          go_wp2
          go_ret
          exact ⟨by rw [HF.out]; rfl, HD2.out⟩
        · have HA2 : Hid (∀ j, j < i + 1 → l.getD j nd0 = m.getD j nd0) := by
            intro j hj
            by_cases h : j < i
            · exact HA.out j h
            · have : j = i := by omega
              subst this
              rw [hx, hy]
              simpa using hB
          clear hne
          go_wp2
          go_roundw
          case rel => exact ⟨i + 1, by omega, by go_num, HA2, HD2⟩
          case measure => simp [intOf]; omega
      · have hE : i = n := by omega
        subst hE
        have HF := Lib.hid (same_all l m (by rw [HN.out, HK.out]) (by rw [HN.out]; exact HA.out))
        go_wp2
        go_ret
        exact ⟨by rw [HF.out]; rfl, HD.out⟩
  · have hz : ¬ (n : Int) = (k : Int) := by omega
    have hzb : ((n : Int) != (k : Int)) = true := by
      rw [bne_iff_ne]; exact hz
    have hzb2 : ((n : Int) == (k : Int)) = false := by
      rw [beq_eq_false_iff_ne]; exact hz
    have HF := Lib.hid (same_len l m (by rw [HN.out, HK.out]; exact hnk))
    clear hnk
    go_wp2
    go_ret
    exact ⟨by rw [HF.out]; rfl, Below.refl _ _⟩

set_option maxRecDepth 100000 in
set_option maxHeartbeats 2000000 in
theorem shSame_any (l m : List Nd) (v u : Value) (w : World) (hr : RdNd w.heap.size w v l) (hr2 : RdNd w.heap.size w u m) : Calls Tryd.prog 14 #[.agg #[v], .agg #[u]] w (One (.bool (decide (l = m))) w) := by
  have HR := Lib.hid hr
  have HR2 := Lib.hid hr2
  clear hr hr2
  go_enter Tryd.func14, Tryd.ntmps14
  go_wp2_with (refine wpList_box_blk rfl 24 _ rfl [v] rfl ?_)
  intro w1 b1 b2 b3
  go_wp2_with (refine wpList_box_blk rfl 24 _ rfl [u] rfl ?_)
  intro w2 a1 a2 a3
  obtain ⟨g0, hg0⟩ : ∃ g, w.heap.size = g := ⟨_, rfl⟩
  obtain ⟨g1, hg1⟩ : ∃ g, w.heap.size + 1 = g := ⟨_, rfl⟩
  have X0 := Lib.hid (b1.below a3 (by omega))
  have HB := Lib.hid (b3.trans (a3.mono (by omega)))
  have hw2 : w.heap.size ≤ w2.heap.size := by omega
  have HRa := Lib.hid ((HR.out.below HB.out).more hw2)
  have HRb := Lib.hid ((HR2.out.below HB.out).more hw2)
  have X1 := Lib.hid a1
  rw [hg1] at X1 ⊢
  rw [hg0] at X0 ⊢
  have ca := X0.out.cell 0
  have cb := X1.out.cell 0
  clear b1 b2 b3 a1 a2 a3 HR HR2
  go_wp2_with fail
  refine (eqFunc_any l m v u w2 HRa.out HRb.out).mono ?_
  rintro e w3 ⟨rfl, hb⟩
  have HB3 := Lib.hid (HB.out.trans (hb.mono hw2))
  clear hb ca cb
  go_wp2
  go_ret
  exact ⟨rfl, HB3.out⟩

theorem infoPN : (Tryd.prog.info? 53).map (fun i => (i.zero, i.size, i.bytes)) = some (some ndz, 4, 48) := by kernel_rfl
theorem info_partsPN : ∃ i, Tryd.prog.info? 53 = some i ∧ i.zero = some ndz ∧ i.size = 4 ∧ i.bytes = 48 := by
  have h := infoPN
  cases hi : Tryd.prog.info? 53 with
  | none => rw [hi] at h; simp at h
  | some i =>
    rw [hi] at h
    simp at h
    exact ⟨i, rfl, h.1, h.2.1, h.2.2⟩
set_option maxRecDepth 100000 in
set_option maxHeartbeats 4000000 in
theorem shDrop_any (l : List Nd) (z : Int) (v : Value) (w : World) (hr : RdNd w.heap.size w v l) (hl : l.length ≤ 100000) : Calls Tryd.prog 24 #[.agg #[v], .int .i64 z] w (Drops (dropS l z) (goneN l z) w) := by
  obtain ⟨A, cp, rfl, hc, hm⟩ := hr.shape
  unfold maxLen at hm
  obtain ⟨i0, hI, hz0, hz1, hz2⟩ := info_partsStr
  obtain ⟨i1, hJ, hy0, hy1, hy2⟩ := info_partsPN
  obtain ⟨n, hn⟩ : ∃ n, l.length = n := ⟨_, rfl⟩
  have HN := Lib.hid hn
  have HR := Lib.hid hr
  rw [hn] at hc HR hl ⊢
  have HL := Lib.hid hl
  clear hr hn hl
  go_enter Tryd.func24, Tryd.ntmps24
  go_wp2_with (refine wpList_box_blk rfl 24 _ rfl [.slice A n cp] rfl ?_)
  intro w1 b1 b2 b3
  go_wp2_with (refine wpList_alloc_blk rfl 24 rfl [.slice none 0 0] zPS ?_)
  intro w2 a1 a2 a3
  obtain ⟨g0, hg0⟩ : ∃ g, w.heap.size = g := ⟨_, rfl⟩
  obtain ⟨g1, hg1⟩ : ∃ g, w.heap.size + 1 = g := ⟨_, rfl⟩
  obtain ⟨G, hG⟩ : ∃ G, w2.heap.size = G := ⟨_, rfl⟩
  have X0 := Lib.hid (b1.below a3 (by omega))
  have X1 := Lib.hid a1
  have HB := Lib.hid (b3.trans (a3.mono (by omega)))
  have hwG : w.heap.size ≤ G := by omega
  have h0G : g0 < G := by omega
  have h1G : g1 < G := by omega
  have hw1 : w.heap.size ≤ g1 := by omega
  rw [hg1] at X1 ⊢
  rw [hg0] at X0 ⊢
  have ca := X0.out.cell 0
  clear b1 b2 b3 a1 a2 a3 hg1
  have HG := Lib.hid hG
  go_wp2
  go_loopw [6, 7, 13] (fun o u x wr => ∃ i : Nat, i ≤ n ∧ x = .int .i64 (i : Int) ∧ Hid (OwnNd 53 wr G o (dropS (l.take i) z)) ∧ Hid (OwnS 9 wr G u (bas (goneN (l.take i) z))) ∧ Hid (Below G w2 wr)) (fun _ _ x _ => n - (intOf x).toNat)
  case atStart => exact ⟨0, by omega, rfl, OwnNd.nil _ _ _, OwnS.nil _ _ _, Below.refl _ _⟩
  case round =>
    obtain ⟨i, hi, rfl, HO, HS, HW⟩ := hrel
    have hwr := HW.out.size
    rw [hG] at hwr
    clear ca
    have ca := (X0.out.below HW.out h0G).cell 0
    by_cases hi2 : i < n
    · have zi : (i : Int) < (n : Int) := by omega
      obtain ⟨a, hA, c0, c1, c2, c3⟩ := (HR.out.below (HB.out.trans (HW.out.mono hwG))).at_ i (by rw [HN.out]; exact hi2)
      subst hA
      have HT := Lib.hid (dropS_snoc l z i (by rw [HN.out]; exact hi2))
      have HKL := Lib.hid (Nat.le_trans (dropS_len (l.take i) z) (List.length_take_le i l))
      have HGL := Lib.hid (Nat.le_trans (goneN_len (l.take i) z) (List.length_take_le i l))
      obtain ⟨x, hx⟩ : ∃ x, l.getD i nd0 = x := ⟨_, rfl⟩
      rw [hx] at c0 c1 c2 c3 HT
      clear hx
      go_wp2_with (refine wpList_alloc_blk rfl 53 rfl (ndc nd0) zPN ?_)
      intro wa a1 a2 a3
      obtain ⟨gA, hgA⟩ : ∃ g, wr.heap.size = g := ⟨_, rfl⟩
      have A1 := Lib.hid a1
      have HOa := Lib.hid (HO.out.below a3 (Nat.le_refl _))
      have HSa := Lib.hid (HS.out.below a3 (Nat.le_refl _))
      have HWa := Lib.hid (HW.out.trans (a3.mono hwr))
      have hne := World.ownsRow.lt HO.out
      have hnf := World.ownsRow.lt HS.out
      rw [hgA] at A1 hwr hne hnf ⊢
      have HNE := Lib.hid hne
      have HNF := Lib.hid hnf
      clear a1 a3 HO HS HW c0 c1 c2 c3 ca hgA hne hnf
      go_wp2_with (refine wpList_store_to rfl 53 _ _ rfl gA (ndc x) (ndc nd0) 53 rfl rfl A1.out sPN rfl (ndc_one _) ?_)
      intro wb e1 e2 e3 e4
      have HO : Hid (OwnNd 53 wb G u6 (dropS (l.take i) z)) := by
        refine ownsRow_but HOa.out (fun e => ?_) e4
        have := (HNE.out gA e).2
        omega
      have HS : Hid (OwnS 9 wb G u7 (bas (goneN (l.take i) z))) := by
        refine ownsRow_but HSa.out (fun e => ?_) e4
        have := (HNF.out gA e).2
        omega
      have HW := Lib.hid (HWa.out.trans (e3.mono hwr))
      have d0 := e1.at_ 0 _ rfl
      have d1 := e1.at_ 1 _ rfl
      have d2 := e1.at_ 2 _ rfl
      have d3 := e1.at_ 3 _ rfl
      have hsb : gA < wb.heap.size := e1.lt
      have hGb : G ≤ wb.heap.size := by omega
      clear e1 e2 e3 e4 a2 A1 HOa HSa HWa
      cases ho : ownB z x
      · have HT2 : Hid (dropS (l.take (i + 1)) z = dropS (l.take i) z ++ [x] ∧ goneN (l.take (i + 1)) z = goneN (l.take i) z) := by
          show _ ∧ _
          rw [HT.out.1, HT.out.2, ho]; simp
        have HO4 : Hid (OwnNd 53 (wb.alloc (.cells (ndc x).toArray 53)) G u6 (dropS (l.take i) z)) := HO.out.alloc _
        have HS4 : Hid (OwnS 9 (wb.alloc (.cells (ndc x).toArray 53)) G u7 (bas (goneN (l.take i) z))) := HS.out.alloc _
        have HW4 : Hid (Below G w2 (wb.alloc (.cells (ndc x).toArray 53))) := HW.out.alloc hGb _
        have HF : Hid ((0 < z ∧ ((nO x == z) = false)) ∨ ¬ 0 < z) := by
          show _ ∨ _
          unfold ownB at ho
          by_cases hz : 0 < z
          · left
            simp [hz] at ho
            exact ⟨hz, by simpa using ho⟩
          · exact .inr hz
        clear ho
        rcases HF.out with ⟨hz, hzo⟩ | hz
        all_goals
          go_wp2_with (at_builtin; refine wpList_appNd rfl _ _ 22 rfl 53 i1 Tryd.underlying22 hJ hy0 hy1 hy2 G _ _ _ (dropS (l.take i) z) [x] rfl HO4.out rfl (RdNd.one wb 53 x) ?d1 ?d2 ?_)
          case d1 => have := HKL.out; have := HL.out; simp; omega
          case d2 => first | omega | (simp; omega)
          intro v5 w5 h5 hb5 hg5
          have HO5 : Hid (OwnNd 53 w5 G v5 (dropS (l.take (i + 1)) z)) := by
            show OwnNd _ _ _ _ _
            rw [HT2.out.1]
            exact h5
          have HS5 : Hid (OwnS 9 w5 G u7 (bas (goneN (l.take (i + 1)) z))) := by
            show OwnS _ _ _ _ _
            rw [HT2.out.2]
            exact ownsRow_other (by decide) HS4.out HO4.out hg5
          have HW5 : Hid (Below G w2 w5) := HW4.out.trans hb5
          clear h5 hb5 hg5
          go_wp2
          go_roundw
          case rel => exact ⟨i + 1, by omega, by go_num, HO5, HS5, HW5⟩
          case measure => simp [intOf]; omega
      · have HT2 : Hid (dropS (l.take (i + 1)) z = dropS (l.take i) z ∧ goneN (l.take (i + 1)) z = goneN (l.take i) z ++ [nP x]) := by
          show _ ∧ _
          rw [HT.out.1, HT.out.2, ho]; simp
        have HO4 : Hid (OwnNd 53 (wb.alloc (.cells #[.string ⟨(nP x).toArray⟩] 9)) G u6 (dropS (l.take i) z)) := HO.out.alloc _
        have HS4 : Hid (OwnS 9 (wb.alloc (.cells #[.string ⟨(nP x).toArray⟩] 9)) G u7 (bas (goneN (l.take i) z))) := HS.out.alloc _
        have HW4 : Hid (Below G w2 (wb.alloc (.cells #[.string ⟨(nP x).toArray⟩] 9))) := HW.out.alloc hGb _
        unfold ownB at ho
        simp only [Bool.and_eq_true, decide_eq_true_eq] at ho
        obtain ⟨hz, hzo⟩ := ho
        rw [hzo] at d3
        have hzz : (z == z) = true := by simp
        clear hzo
        go_wp2_with (at_builtin; refine wpList_app1Sg rfl _ _ 45 rfl 9 i0 Tryd.underlying45 hI hz0 hz1 hz2 G _ (bas (goneN (l.take i) z)) ⟨(nP x).toArray⟩ ⟨wb.heap.size, 0, none⟩ rfl HS4.out rfl ?d1 ?d2 ?d3 ?_)
        case d1 => simp
        case d2 => rw [bas_length]; have := HGL.out; have := HL.out; omega
        case d3 => simp; omega
        intro v5 w5 h5 hb5 hg5
        rw [← bas_snoc] at h5
        have HS5 : Hid (OwnS 9 w5 G v5 (bas (goneN (l.take (i + 1)) z))) := by
          show OwnS _ _ _ _ _
          rw [HT2.out.2]
          exact h5
        have HO5 : Hid (OwnNd 53 w5 G u6 (dropS (l.take (i + 1)) z)) := by
          show OwnNd _ _ _ _ _
          rw [HT2.out.1]
          exact ownsRow_other (by decide) HO4.out HS4.out hg5
        have HW5 : Hid (Below G w2 w5) := HW4.out.trans hb5
        clear h5 hb5 hg5
        go_wp2
        go_roundw
        case rel => exact ⟨i + 1, by omega, by go_num, HO5, HS5, HW5⟩
        case measure => simp [intOf]; omega
    · have hE : i = n := by omega
      subst hE
      have HF : Hid (l.take i = l) := List.take_of_length_le (by rw [HN.out]; exact Nat.le_refl _)
      rw [HF.out] at HO HS
      obtain ⟨Ao, co, ho, hoc, -⟩ := HO.out.rd.shape
      subst ho
      have X1r := Lib.hid (X1.out.below HW.out h1G)
      obtain ⟨d30, hu30, hd30⟩ := rowPS
      have HU := Lib.hid hu30
      have HD := Lib.hid hd30
      clear hu30 hd30
      go_wp2_with (refine wpList_store_to rfl 24 _ _ rfl g1 [.slice Ao (dropS l z).length co] [.slice none 0 0] 24 rfl rfl X1r.out sPS rfl ?_ ?_)
      · exact slice_one _ _ _
      · intro w5 e1 e2 e3 e4
        go_wp2
        refine bodyPost_ret (v := .tuple #[.agg [Value.slice Ao (dropS l z).length co].toArray, u7]) ?_ rfl ?_
        · exact ret_blk2U rfl _ _ g1 24 [.slice Ao (dropS l z).length co] _ rfl rfl e1 d30 HU.out HD.out sPS
        · have hO : ∀ k, G ≤ k → w5.heap[k]? = wr.heap[k]? := fun k hk => e4 k (by omega)
          exact ⟨_, _, rfl, OwnNd.rd (ownsRow_same HO.out hO), OwnS.rd (ownsRow_same HS.out hO), HB.out.trans ((HW.out.mono hwG).trans (e3.mono hw1))⟩
end Go.Proofs.YtlpakfaoaodaiaaDoor
