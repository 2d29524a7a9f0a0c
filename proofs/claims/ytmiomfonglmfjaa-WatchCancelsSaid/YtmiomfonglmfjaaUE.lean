/-
  The statements on tables: few, short, one; a table, changes, events as the document's. Each theorem states its own conditions.
-/
import Derived.Test.YtmiomfonglmfjaaUD
namespace Go.Proofs.Ytmiomfonglmfjaa
open Go.RowKit

set_option maxRecDepth 100000 in
set_option maxHeartbeats 4000000 in
theorem fewW_any (l : List Wa) (v : Value) (w : World) (hr : RdE WaK w.heap.size w v l) : Calls Try.prog 8 #[.agg #[v]] w (One (.bool (fewB l)) w) := by
  obtain ⟨A, cp, rfl, hc, hm⟩ := hr.shape
  unfold maxLen at hm
  obtain ⟨n, hn⟩ : ∃ n, l.length = n := ⟨_, rfl⟩
  have HN := Lib.hid hn
  have HR := Lib.hid hr
  rw [hn] at hc HR ⊢
  clear hr hn
  go_enter Try.func8, Try.ntmps8
  go_wp2_with (refine wpList_box_blk rfl 24 _ rfl [.slice A n cp] rfl ?_)
  intro w1 b1 b2 b3
  have HR1 := Lib.hid (HR.out.below b3)
  have HB := Lib.hid b3
  have ca := b1.at_ 0 _ rfl
  obtain ⟨g, hg⟩ : ∃ g, w.heap.size = g := ⟨_, rfl⟩
  rw [hg] at ca ⊢
  clear b1 b2 b3 HR
  go_wp2
  go_loop [3] (fun x => ∃ i : Nat, i ≤ n ∧ x = .int .i64 (i : Int) ∧ i ≤ 60 ∧ Hid (∀ j, j < i → (wP (l.getD j wa0)).length ≤ 300)) (fun x => n - (intOf x).toNat)
  case atStart => exact ⟨0, by omega, rfl, by omega, fun j hj => by omega⟩
  case round =>
    obtain ⟨i, hi, rfl, hib, HA⟩ := hrel
    by_cases hi2 : i < n
    · have zi : (i : Int) < (n : Int) := by omega
      by_cases hz : i = 60
      · have HF : Hid (fewB l = false) := by
          show _ = _
          unfold fewB
          rw [decide_eq_false (by rw [HN.out]; omega)]; rfl
        have hzz : ((i : Int) == 60) = true := int_eqE _ _ (by omega)
        subst hz
        go_wp2
        go_ret
        exact ⟨by rw [HF.out]; rfl, HB.out⟩
      have hzz : ((i : Int) == 60) = false := int_neE _ _ (by omega)
      obtain ⟨a, hA, c0, c1, c2⟩ := HR1.out.atWa i (by rw [HN.out]; exact hi2)
      subst hA
      obtain ⟨x, hx⟩ : ∃ x, l.getD i wa0 = x := ⟨_, rfl⟩
      have hmem : x ∈ l := by rw [← hx]; exact getD_memW l wa0 i (by rw [HN.out]; exact hi2)
      have HMEM := Lib.hid hmem
      rw [hx] at c0 c1 c2
      obtain ⟨k, hk⟩ : ∃ k, (wP x).length = k := ⟨_, rfl⟩
      have hkz : (⟨(wP x).toArray⟩ : ByteArray).size = k := hk
      have HK := Lib.hid hk
      have HX := Lib.hid hx
      clear hk hmem hx
      by_cases hlong : (300 : Int) < (k : Int)
      · have HF : Hid (fewB l = false) := by
          show _ = _
          unfold fewB
          have h1 : (l.all fun w => decide ((wP w).length ≤ 300)) = false := by
            rw [List.all_eq_false]
            exact ⟨x, HMEM.out, by rw [HK.out]; simp; omega⟩
          rw [h1, Bool.and_false]
        go_wp2
        go_ret
        exact ⟨by rw [HF.out]; rfl, HB.out⟩
      · have HA2 : Hid (∀ j, j < i + 1 → (wP (l.getD j wa0)).length ≤ 300) := by
          intro j hj
          by_cases h : j < i
          · exact HA.out j h
          · have : j = i := by omega
            subst this
            rw [HX.out, HK.out]
            omega
        go_wp2
        go_round
        case rel => exact ⟨i + 1, by omega, by go_num, by omega, HA2⟩
        case measure => simp [intOf]; omega
    · have hE : i = n := by omega
      subst hE
      have HF : Hid (fewB l = true) := by
        show _ = _
        unfold fewB
        rw [decide_eq_true (by rw [HN.out]; exact hib), Bool.true_and, List.all_eq_true]
        intro x hx
        obtain ⟨j, hj, rfl⟩ := mem_getDW l wa0 x hx
        rw [decide_eq_true_eq]
        exact HA.out j (by rw [← HN.out]; exact hj)
      go_wp2
      go_ret
      exact ⟨by rw [HF.out]; rfl, HB.out⟩

set_option maxRecDepth 100000 in
set_option maxHeartbeats 4000000 in
theorem shortW_any (l : List Ch) (v : Value) (w : World) (hr : RdE ChK w.heap.size w v l) : Calls Try.prog 18 #[v] w (One (.bool (shortB l)) w) := by
  obtain ⟨A, cp, rfl, hc, hm⟩ := hr.shape
  unfold maxLen at hm
  obtain ⟨n, hn⟩ : ∃ n, l.length = n := ⟨_, rfl⟩
  have HN := Lib.hid hn
  have HR := Lib.hid hr
  rw [hn] at hc HR ⊢
  clear hr hn
  go_enter Try.func18, Try.ntmps18
  have HR1 := HR
  have HB := Lib.hid (Below.refl w.heap.size w)
  go_wp2
  go_loop [3] (fun x => ∃ i : Nat, i ≤ n ∧ x = .int .i64 (i : Int) ∧ i ≤ 40 ∧ Hid (∀ j, j < i → (cP (l.getD j ch0)).length ≤ 300)) (fun x => n - (intOf x).toNat)
  case atStart => exact ⟨0, by omega, rfl, by omega, fun j hj => by omega⟩
  case round =>
    obtain ⟨i, hi, rfl, hib, HA⟩ := hrel
    by_cases hi2 : i < n
    · have zi : (i : Int) < (n : Int) := by omega
      by_cases hz : i = 40
      · have HF : Hid (shortB l = false) := by
          show _ = _
          unfold shortB
          rw [decide_eq_false (by rw [HN.out]; omega)]; rfl
        have hzz : ((i : Int) == 40) = true := int_eqE _ _ (by omega)
        subst hz
        go_wp2
        go_ret
        exact ⟨by rw [HF.out]; rfl, HB.out⟩
      have hzz : ((i : Int) == 40) = false := int_neE _ _ (by omega)
      obtain ⟨a, hA, c0, c1⟩ := HR1.out.atCh i (by rw [HN.out]; exact hi2)
      subst hA
      obtain ⟨x, hx⟩ : ∃ x, l.getD i ch0 = x := ⟨_, rfl⟩
      have hmem : x ∈ l := by rw [← hx]; exact getD_memW l ch0 i (by rw [HN.out]; exact hi2)
      have HMEM := Lib.hid hmem
      rw [hx] at c0 c1
      obtain ⟨k, hk⟩ : ∃ k, (cP x).length = k := ⟨_, rfl⟩
      have hkz : (⟨(cP x).toArray⟩ : ByteArray).size = k := hk
      have HK := Lib.hid hk
      have HX := Lib.hid hx
      clear hk hmem hx
      by_cases hlong : (300 : Int) < (k : Int)
      · have HF : Hid (shortB l = false) := by
          show _ = _
          unfold shortB
          have h1 : (l.all fun w => decide ((cP w).length ≤ 300)) = false := by
            rw [List.all_eq_false]
            exact ⟨x, HMEM.out, by rw [HK.out]; simp; omega⟩
          rw [h1, Bool.and_false]
        go_wp2
        go_ret
        exact ⟨by rw [HF.out]; rfl, HB.out⟩
      · have HA2 : Hid (∀ j, j < i + 1 → (cP (l.getD j ch0)).length ≤ 300) := by
          intro j hj
          by_cases h : j < i
          · exact HA.out j h
          · have : j = i := by omega
            subst this
            rw [HX.out, HK.out]
            omega
        go_wp2
        go_round
        case rel => exact ⟨i + 1, by omega, by go_num, by omega, HA2⟩
        case measure => simp [intOf]; omega
    · have hE : i = n := by omega
      subst hE
      have HF : Hid (shortB l = true) := by
        show _ = _
        unfold shortB
        rw [decide_eq_true (by rw [HN.out]; exact hib), Bool.true_and, List.all_eq_true]
        intro x hx
        obtain ⟨j, hj, rfl⟩ := mem_getDW l ch0 x hx
        rw [decide_eq_true_eq]
        exact HA.out j (by rw [← HN.out]; exact hj)
      go_wp2
      go_ret
      exact ⟨by rw [HF.out]; rfl, HB.out⟩

set_option maxRecDepth 100000 in
set_option maxHeartbeats 4000000 in
theorem oneW_any (x : Wa) (w : World) : Calls Try.prog 12 #[.agg (wac x).toArray] w (One (.agg (wac x).toArray) w) := by
  obtain ⟨d30, hu30, hd30⟩ := rowWaR
  have HU := Lib.hid hu30
  have HD := Lib.hid hd30
  clear hu30 hd30
  go_enter Try.func12, Try.ntmps12
  go_wp2_with (refine wpList_box_blk rfl 31 _ rfl (wac x) rfl ?_)
  intro w1 b1 b2 b3
  go_wp2_with (refine wpList_alloc_blk rfl 34 rfl (wac wa0) zeroWaR ?_)
  intro w2 a1 a2 a3
  obtain ⟨g0, hg0⟩ : ∃ g, w.heap.size = g := ⟨_, rfl⟩
  obtain ⟨g1, hg1⟩ : ∃ g, w.heap.size + 1 = g := ⟨_, rfl⟩
  have X0 := Lib.hid (b1.below a3 (by omega))
  have X1 := Lib.hid a1
  have HB := Lib.hid (b3.trans (a3.mono (by omega)))
  have hw1 : w.heap.size ≤ g1 := by omega
  rw [hg1] at X1 ⊢
  rw [hg0] at X0 ⊢
  have d0 := X0.out.at_ 0 _ rfl
  have d1 := X0.out.at_ 1 _ rfl
  have d2 := X0.out.at_ 2 _ rfl
  clear b1 b2 b3 a1 a2 a3
  go_wp2_with (refine wpList_store_to rfl 34 _ _ rfl g1 (wac x) (wac wa0) 34 rfl rfl X1.out szWaR rfl (wac_all _) ?_)
  intro w20 e1 e2 e3 e4
  go_wp2
  refine bodyPost_ret (v := .agg (wac x).toArray) ?_ rfl ?_
  · exact ret_blkUL rfl _ _ g1 34 (wac x) rfl e1 d30 HU.out HD.out szWaR
  · exact ⟨rfl, HB.out.trans (e3.mono hw1)⟩

set_option maxRecDepth 100000 in
set_option maxHeartbeats 8000000 in
theorem plainW_any (l : List Wa) (v : Value) (w : World) (hr : RdE WaK w.heap.size w v l) (hl : l.length ≤ 1000000) : Calls Try.prog 15 #[.agg #[v]] w (Tab1 l w) := by
  obtain ⟨A, cp, rfl, hc, hm⟩ := hr.shape
  unfold maxLen at hm
  obtain ⟨n, hn⟩ : ∃ n, l.length = n := ⟨_, rfl⟩
  have HN := Lib.hid hn
  have HR := Lib.hid hr
  rw [hn] at hc HR hl ⊢
  have HL := Lib.hid hl
  obtain ⟨d30, hu30, hd30⟩ := rowTbR
  have HU := Lib.hid hu30
  have HD := Lib.hid hd30
  clear hr hn hl hu30 hd30
  go_enter Try.func15, Try.ntmps15
  go_wp2_with (refine wpList_box_blk rfl 24 _ rfl [.slice A n cp] rfl ?_)
  intro w1 b1 b2 b3
  go_wp2_with (refine wpList_alloc_blk rfl 39 rfl [.slice none 0 0] zTbR ?_)
  intro w2 a1 a2 a3
  obtain ⟨g0, hg0⟩ : ∃ g, w.heap.size = g := ⟨_, rfl⟩
  obtain ⟨g1, hg1⟩ : ∃ g, w.heap.size + 1 = g := ⟨_, rfl⟩
  have X0 := Lib.hid (b1.below a3 (by omega))
  have X1 := Lib.hid a1
  have HB := Lib.hid (b3.trans (a3.mono (by omega)))
  have hg01 : g0 < g1 := by omega
  have hg2 : g1 < w2.heap.size := by omega
  have hw1 : w.heap.size ≤ g1 := by omega
  rw [hg1] at X1 ⊢
  rw [hg0] at X0 ⊢
  clear b1 b2 b3 a1 a2 a3 hg1 hg0
  go_wp2_with (refine wpList_alloc_blk rfl 39 rfl [.slice none 0 0] zTbR ?_)
  intro w3 a1 a2 a3
  obtain ⟨g3, hg3⟩ : ∃ g, w2.heap.size = g := ⟨_, rfl⟩
  have Y0 := Lib.hid (X0.out.below a3 (by omega))
  have Y1 := Lib.hid (X1.out.below a3 (by omega))
  have HB3 := Lib.hid (HB.out.trans (a3.mono (by omega)))
  have A1 := Lib.hid a1
  have hg13 : g1 < g3 := by omega
  have hw3 : w.heap.size ≤ g3 := by omega
  have hs3 : w3.heap.size = g3 + 1 := by omega
  rw [hg3] at A1 ⊢
  clear a1 a2 a3 X0 X1 HB hg2 hg3
  go_wp2_with (refine wpList_store_to rfl 39 _ _ rfl g3 [.slice none 0 0] [.slice none 0 0] 39 rfl rfl A1.out sTbR rfl (slice_one _ _ _) ?_)
  intro w4 e1 e2 e3 e4
  have X0 := Lib.hid (Y0.out.same (e4 g0 (by omega)))
  have X1 := Lib.hid (Y1.out.same (e4 g1 (by omega)))
  have HB := Lib.hid (HB3.out.trans (e3.mono hw3))
  have hs4 : w4.heap.size = g3 + 1 := by omega
  obtain ⟨G, hG⟩ : ∃ G, g3 + 1 = G := ⟨_, rfl⟩
  have X3 := Lib.hid e1
  have HS4 := Lib.hid hs4
  have hg3G : g3 < G := by omega
  have HGG := Lib.hid hG
  clear e1 e2 e3 e4 Y0 Y1 HB3 A1 hs3 hs4 hG
  go_wp2
  go_loopw [4] (fun x wr => ∃ (i : Nat) (o : Value), i ≤ n ∧ x = .int .i64 (i : Int) ∧ Hid (Blk wr g3 [o] 39) ∧ Hid (OwnE WaK 34 wr G o (l.take i)) ∧ Hid (Below g3 w4 wr) ∧ G ≤ wr.heap.size) (fun x _ => n - (intOf x).toNat)
  case atStart => exact ⟨0, _, by omega, rfl, X3, OwnE.nil _ _ _, Below.refl _ _, by have := HS4.out; have := HGG.out; omega⟩
  case round =>
    obtain ⟨i, o, hi, rfl, H3, HO, HW, hGr⟩ := hrel
    have ca := (X0.out.below HW.out (by omega)).at_ 0 _ rfl
    by_cases hi2 : i < n
    · have zi : (i : Int) < (n : Int) := by omega
      obtain ⟨a, hA, c0, c1, c2⟩ := (HR.out.below (HB.out.trans (HW.out.mono hw3))).atWa i (by rw [HN.out]; exact hi2)
      subst hA
      clear c0 c1 c2
      have HRr := Lib.hid ((HR.out.below (HB.out.trans (HW.out.mono hw3))).more (HB.out.trans (HW.out.mono hw3)).size)
      have XG := Lib.hid (X0.out.below HW.out (by omega))
      have HT := Lib.hid (take_snocW l wa0 i (by rw [HN.out]; exact hi2))
      obtain ⟨x9, hx⟩ : ∃ x, l.getD i wa0 = x := ⟨_, rfl⟩
      have HX := Lib.hid hx
      rw [hx] at HT
      have HOL : Hid ((l.take i).length = i) := by
        show _ = _
        have := HN.out
        rw [List.length_take]
        omega
      obtain ⟨Ao, co, ho, -, -⟩ := HO.out.rd.shape
      rw [HOL.out] at ho
      subst ho
      clear hx
      go_wp2
      clear ca
      refine wp_region_rely3 9 3 (fun x => ⟨#[.agg #[Value.slice (some a) n cp], .pointer (some { block := g0, off := 0 }), .pointer (some { block := g1, off := 0 }), .pointer (some { block := g3, off := 0 }), .int IntKind.i64 ↑i, .agg #[Value.slice none 0 0], .int IntKind.i64 ↑i, .pointer (some { block := g0, off := 0 }), .slice (some a) n cp, .int IntKind.i64 ↑n, .bool true, u11, u12, x 0, x 1, x 2, x 3, x 4, x 5, x 6, x 7, x 8, u22, u23, undef], []⟩) (fun jj => ([eqV (.pointer (some ⟨g3, 0, none⟩)), eqV (.slice Ao i co), eqV (.pointer (some ⟨g0, 0, none⟩)), eqV (.slice (some a) n cp), eqV (.int IntKind.i64 ↑i), eqV (.pointer (some (a.add (i * 3)))), eqV (.agg (wac x9).toArray), (eqV (.agg (wac x9).toArray)), (NewE WaK 34 x9 wr.heap.size)] : List (Value → World → Prop)).getD jj (fun _ _ => True)) rfl ⟨fun kk => [_, _, _, _, _, _, _, _, _].getD kk undef, rfl⟩ (by kernel_rfl) (by kernel_rfl) ?steps ?fin
      case steps =>
        refine StepsAt.val 0 (.pointer (some ⟨g3, 0, none⟩)) rfl (fun _ _ => rfl) rfl rfl (fun x wz hb hd => ?_) ?_
        · first | (go_simp; done) | (go_simp; rfl)
        refine StepsAt.val 1 (.slice Ao i co) rfl (fun _ _ => rfl) rfl rfl (fun x wz hb hd => ?_) ?_
        · have h0 : x 0 = .pointer (some ⟨g3, 0, none⟩) := hd 0 (by kernel_rfl)
          have cc := ((H3.out.below hb H3.out.lt).cell 0).trans (show _ = some (.slice Ao i co) from rfl)
          rw [h0]
          first | (go_simp; done) | (go_simp; rfl)
        refine StepsAt.val 2 (.pointer (some ⟨g0, 0, none⟩)) rfl (fun _ _ => rfl) rfl rfl (fun x wz hb hd => ?_) ?_
        · first | (go_simp; done) | (go_simp; rfl)
        refine StepsAt.val 3 (.slice (some a) n cp) rfl (fun _ _ => rfl) rfl rfl (fun x wz hb hd => ?_) ?_
        · have h2 : x 2 = .pointer (some ⟨g0, 0, none⟩) := hd 2 (by kernel_rfl)
          have cc := ((XG.out.below hb XG.out.lt).cell 0).trans (show _ = some (.slice (some a) n cp) from rfl)
          rw [h2]
          first | (go_simp; done) | (go_simp; rfl)
        refine StepsAt.val 4 (.int IntKind.i64 ↑i) rfl (fun _ _ => rfl) rfl rfl (fun x wz hb hd => ?_) ?_
        · first | (go_simp; done) | (go_simp; rfl)
        refine StepsAt.val 5 (.pointer (some (a.add (i * 3)))) rfl (fun _ _ => rfl) rfl rfl (fun x wz hb hd => ?_) ?_
        · have h3 : x 3 = .slice (some a) n cp := hd 3 (by kernel_rfl)
          have h4 : x 4 = .int IntKind.i64 ↑i := hd 4 (by kernel_rfl)
          rw [h3, h4]
          first | (go_simp; done) | (go_simp; rfl)
        refine StepsAt.val 6 (.agg (wac x9).toArray) rfl (fun _ _ => rfl) rfl rfl (fun x wz hb hd => ?_) ?_
        · have h5 : x 5 = .pointer (some (a.add (i * 3))) := hd 5 (by kernel_rfl)
          obtain ⟨a9, hA9, cc0, cc1, cc2⟩ := (HRr.out.below hb).atWa i (by rw [HN.out]; exact hi2)
          obtain rfl : a = a9 := Option.some.inj hA9
          rw [HX.out] at cc0 cc1 cc2
          rw [h5]
          first | (go_simp; done) | (go_simp; rfl)
        refine StepsAt.cons 7 (fun _ _ _ h hb => h) (fun _ _ => rfl) rfl rfl (fun x wz hb hd K hK => ?_) ?_
        · have h6 : Hid (x 6 = .agg (wac x9).toArray) := hd 6 (by kernel_rfl)
          go_simp
          refine calls_args (args2 := #[.agg (wac x9).toArray]) (by rw [h6.out]) ?_
          refine (oneW_any x9 _).mono ?_
          rintro e w99 ⟨rfl, hb99⟩
          exact hK.out _ _ hb99 rfl
        refine StepsAt.cons 8 (fun _ _ _ h hb => h.keep hb) (fun _ _ => rfl) rfl rfl (fun x wz hb hd K hK => ?_) ?_
        · have h7 : Hid (x 7 = .agg (wac x9).toArray) := hd 7 (by kernel_rfl)
          have e7 : x 7 = .agg #[txt (wP x9), .int .i64 (wC x9), .bool (wK x9)] := h7.out
          rw [e7] at hK ⊢
          go_simp
          exact hK.out (.slice (some ⟨wz.heap.size, 0, none⟩) 1 1) (wz.alloc (.cells (wac x9).toArray 34)) ((Below.refl _ _).alloc (Nat.le_refl _) _) ⟨_, rfl, heap_alloc_new wz _, hb.size⟩
        exact StepsAt.done
      case fin =>
        intro x wz hb hd
        have hx1 : x 1 = .slice Ao i co := hd 1 (by omega)
        have hx8 : NewE WaK 34 x9 wr.heap.size (x 8) wz := hd 8 (by omega)
        have H3z := Lib.hid (H3.out.below hb H3.out.lt)
        have HOz := Lib.hid (HO.out.below hb (Nat.le_refl _))
        have HWz : Hid (Below g3 w4 wz) := HW.out.trans (hb.mono (by omega))
        have hGz : G ≤ wz.heap.size := Nat.le_trans hGr hb.size
        have HNR := Lib.hid hx8.rd
        obtain ⟨g9, hx8, -, -⟩ := hx8
        rw [hx8] at HNR
        refine AnyTill.any (S := fun _ => True) (m := 12) _ _ _ _ ?_
        rw [hx1, hx8]
        clear hd hb hx1 hx8 H3 HO HW HRr XG
        refine AnyTill.one (i := 9) (by kernel_rfl) rfl (by rfl) (fun K hK => ?_)
        refine wp_of_list rfl (wpList_appE (E := WaK) rfl _ _ 37 rfl 34 32 Try.underlying37 kindWaR G _ _ _ (l.take i) [x9] rfl HOz.out rfl HNR.out (by simp) ?d1 ?d2 ?d3 ?_)
        case d1 => have := HL.out; have := HOL.out; simp only [List.length_cons, List.length_nil]; omega
        case d2 => have := HL.out; have := HOL.out; simp only [List.length_cons, List.length_nil]; omega
        case d3 => exact hGz
        intro v5 w5 h5 hb5 hg5 _
        refine hK.out _ _ (.inr trivial) ?_
        clear hK K
        rw [← HT.out] at h5
        have HO5 := Lib.hid h5
        have H35 := Lib.hid (H3z.out.below hb5 hg3G)
        have HW5 := Lib.hid (HWz.out.trans (hb5.mono (by omega)))
        have hG5 : G ≤ w5.heap.size := Nat.le_trans hGz hb5.size
        clear h5 hb5 hg5
        obtain ⟨A6, c6, h6, -, -⟩ := HO5.out.rd.shape
        obtain ⟨L6, hL6⟩ : ∃ LL, (l.take (i + 1)).length = LL := ⟨_, rfl⟩
        rw [hL6] at h6
        subst h6
        clear hL6
        have cb := H35.out.at_ 0 _ rfl
        have cf := H35.out.frozen 0
        have H3d : Hid (Blk (w5.setCell ⟨g3, 0, none⟩ (.slice A6 L6 c6)) g3 [.slice A6 L6 c6] 39) := H35.out.set 0 (.slice A6 L6 c6)
        have HOd : Hid (OwnE WaK 34 (w5.setCell ⟨g3, 0, none⟩ (.slice A6 L6 c6)) G (.slice A6 L6 c6) (l.take (i + 1))) := ownsRow_same HO5.out (fun k hk => heap_setCell_other w5 ⟨g3, 0, none⟩ k (.slice A6 L6 c6) (by show k ≠ g3; omega))
        have HWd : Hid (Below g3 w4 (w5.setCell ⟨g3, 0, none⟩ (.slice A6 L6 c6))) := HW5.out.setCell (Nat.le_refl _) _
        have hsd : G ≤ (w5.setCell ⟨g3, 0, none⟩ (.slice A6 L6 c6)).heap.size := by simp; omega
        refine AnyTill.one (i := 10) (by kernel_rfl) rfl (by rfl) (fun K hK => ?_)
        go_simp
        refine hK.out _ _ (.inr trivial) ?_
        clear hK K
        refine AnyTill.one (i := 11) (by kernel_rfl) rfl (by rfl) (fun K hK => ?_)
        go_simp
        refine hK.out _ _ (.inr trivial) ?_
        clear hK K
        refine AnyTill.done (by kernel_rfl) ?_
        refine NoPanic.normal ?_
        try dsimp only
        go_wp2
        go_roundw
        case rel => exact ⟨i + 1, _, by omega, by go_num, H3d, HOd, HWd, hsd⟩
        case measure => simp [intOf]; omega
    · have hE : i = n := by omega
      subst hE
      have HF : Hid (l.take i = l) := List.take_of_length_le (by rw [HN.out]; exact Nat.le_refl _)
      rw [HF.out] at HO
      have X1r := Lib.hid (X1.out.below HW.out hg13)
      obtain ⟨Ao, co, ho, -, -⟩ := HO.out.rd.shape
      obtain ⟨LL, hLL⟩ : ∃ LL, l.length = LL := ⟨_, rfl⟩
      rw [hLL] at ho
      subst ho
      clear hLL
      have cb := H3.out.at_ 0 _ rfl
      go_wp2_with (refine wpList_store_to rfl 39 _ _ rfl g1 [.slice Ao LL co] [.slice none 0 0] 39 rfl rfl X1r.out sTbR rfl (slice_one _ _ _) ?_)
      intro w20 e1 e2 e3 e4
      go_wp2
      refine bodyPost_ret (v := .agg [Value.slice Ao LL co].toArray) ?_ rfl ?_
      · exact ret_blkUL rfl _ _ g1 39 [.slice Ao LL co] rfl e1 d30 HU.out HD.out sTbR
      · exact ⟨_, rfl, OwnE.rd (ownsRow_same HO.out (fun k hk => e4 k (by have := HGG.out; omega))), HB.out.trans ((HW.out.mono hw3).trans (e3.mono hw1))⟩

/-- The call answers a row. -/
def RowOf {α : Type} (E : RowK α) (l : List α) (w : World) (e : Ending) (w' : World) : Prop := ∃ v, e = .returned v ∧ RdE E w'.heap.size w' v l ∧ Below w.heap.size w w'
set_option maxRecDepth 100000 in
set_option maxHeartbeats 8000000 in
theorem changesW_any (l : List Ch) (v : Value) (w : World) (hr : RdE ChK w.heap.size w v l) (hl : l.length ≤ 1000000) : Calls Try.prog 23 #[v] w (RowOf ChK l w) := by
  obtain ⟨A, cp, rfl, hc, hm⟩ := hr.shape
  unfold maxLen at hm
  obtain ⟨n, hn⟩ : ∃ n, l.length = n := ⟨_, rfl⟩
  have HN := Lib.hid hn
  have HR := Lib.hid hr
  rw [hn] at hc HR hl ⊢
  have HL := Lib.hid hl
  clear hr hn hl
  obtain ⟨G, hG⟩ : ∃ G, w.heap.size = G := ⟨_, rfl⟩
  have HG := Lib.hid hG
  have HO0 : Hid (OwnE ChK 33 (w.alloc (.cells #[] 33)) G (.slice (some ⟨G, 0, none⟩) 0 0) []) := by
    have := OwnE.empty (E := ChK) 33 w G (by rw [hG]; exact Nat.le_refl _)
    rw [hG] at this
    exact this
  have HW0 : Hid (Below G w (w.alloc (.cells #[] 33))) := (Below.refl _ _).alloc (by rw [hG]; exact Nat.le_refl _) _
  go_enter Try.func23, Try.ntmps23
  go_wp2
  clear hG
  go_loopw [3, 4] (fun o x wr => ∃ i : Nat, i ≤ n ∧ x = .int .i64 (i : Int) ∧ Hid (OwnE ChK 33 wr G o (l.take i)) ∧ Hid (Below G w wr)) (fun _ x _ => n - (intOf x).toNat)
  case atStart => exact ⟨0, by omega, rfl, HO0, HW0⟩
  case round =>
    obtain ⟨i, hi, rfl, HO, HW⟩ := hrel
    have hwr := HW.out.size
    rw [HG.out] at hwr
    by_cases hi2 : i < n
    · have zi : (i : Int) < (n : Int) := by omega
      have hGw : w.heap.size ≤ G := by rw [HG.out]; exact Nat.le_refl _
      obtain ⟨a, hA, c0, c1⟩ := (HR.out.below (HW.out.mono hGw)).atCh i (by rw [HN.out]; exact hi2)
      subst hA
      clear c0 c1
      have HRr := Lib.hid ((HR.out.below (HW.out.mono hGw)).more HW.out.size)
      have HT := Lib.hid (take_snocW l ch0 i (by rw [HN.out]; exact hi2))
      obtain ⟨x9, hx⟩ : ∃ x, l.getD i ch0 = x := ⟨_, rfl⟩
      have HX := Lib.hid hx
      rw [hx] at HT
      have HOL : Hid ((l.take i).length = i) := by
        show _ = _
        have := HN.out
        rw [List.length_take]
        omega
      clear hx
      go_wp2
      refine wp_region_rely3 13 2 (fun x => ⟨#[.slice (some a) n cp, undef, .slice none 0 0, u3, .int IntKind.i64 ↑i, .slice (some { block := G, off := 0 }) 0 0, .int IntKind.i64 ↑i, .slice (some a) n cp, .int IntKind.i64 ↑n, .bool true, u10, u11, x 0, x 1, x 2, x 3, x 4, x 5, x 6, x 7, x 8, x 9, x 10, x 11, x 12, u25, undef], []⟩) (fun jj => ([eqV (u3), eqV (.slice (some a) n cp), eqV (.int IntKind.i64 ↑i), eqV (.pointer (some (a.add (i * 2)))), eqV (.pointer (some (a.add (i * 2)))), eqV (.int .i64 (cK x9)), eqV (.slice (some a) n cp), eqV (.int IntKind.i64 ↑i), eqV (.pointer (some (a.add (i * 2)))), eqV (.pointer (some ⟨(a.add (i * 2)).block, (a.add (i * 2)).off + 1, none⟩)), eqV (txt (cP x9)), eqV (.agg (chc x9).toArray), (NewE ChK 33 x9 wr.heap.size)] : List (Value → World → Prop)).getD jj (fun _ _ => True)) rfl ⟨fun kk => [_, _, _, _, _, _, _, _, _, _, _, _, _].getD kk undef, rfl⟩ (by kernel_rfl) (by kernel_rfl) ?steps ?fin
      case steps =>
        refine StepsAt.val 0 (u3) rfl (fun _ _ => rfl) rfl rfl (fun x wz hb hd => ?_) ?_
        · first | (go_simp; done) | (go_simp; rfl)
        refine StepsAt.val 1 (.slice (some a) n cp) rfl (fun _ _ => rfl) rfl rfl (fun x wz hb hd => ?_) ?_
        · first | (go_simp; done) | (go_simp; rfl)
        refine StepsAt.val 2 (.int IntKind.i64 ↑i) rfl (fun _ _ => rfl) rfl rfl (fun x wz hb hd => ?_) ?_
        · first | (go_simp; done) | (go_simp; rfl)
        refine StepsAt.val 3 (.pointer (some (a.add (i * 2)))) rfl (fun _ _ => rfl) rfl rfl (fun x wz hb hd => ?_) ?_
        · have h1 : x 1 = .slice (some a) n cp := hd 1 (by kernel_rfl)
          have h2 : x 2 = .int IntKind.i64 ↑i := hd 2 (by kernel_rfl)
          rw [h1, h2]
          first | (go_simp; done) | (go_simp; rfl)
        refine StepsAt.val 4 (.pointer (some (a.add (i * 2)))) rfl (fun _ _ => rfl) rfl rfl (fun x wz hb hd => ?_) ?_
        · have h3 : x 3 = .pointer (some (a.add (i * 2))) := hd 3 (by kernel_rfl)
          rw [h3]
          first | (go_simp; done) | (go_simp; rfl)
        refine StepsAt.val 5 (.int .i64 (cK x9)) rfl (fun _ _ => rfl) rfl rfl (fun x wz hb hd => ?_) ?_
        · have h4 : x 4 = .pointer (some (a.add (i * 2))) := hd 4 (by kernel_rfl)
          obtain ⟨a9, hA9, cc0, cc1⟩ := (HRr.out.below hb).atCh i (by rw [HN.out]; exact hi2)
          obtain rfl : a = a9 := Option.some.inj hA9
          rw [HX.out] at cc0 cc1
          rw [h4]
          first | (go_simp; done) | (go_simp; rfl)
        refine StepsAt.val 6 (.slice (some a) n cp) rfl (fun _ _ => rfl) rfl rfl (fun x wz hb hd => ?_) ?_
        · first | (go_simp; done) | (go_simp; rfl)
        refine StepsAt.val 7 (.int IntKind.i64 ↑i) rfl (fun _ _ => rfl) rfl rfl (fun x wz hb hd => ?_) ?_
        · first | (go_simp; done) | (go_simp; rfl)
        refine StepsAt.val 8 (.pointer (some (a.add (i * 2)))) rfl (fun _ _ => rfl) rfl rfl (fun x wz hb hd => ?_) ?_
        · have h6 : x 6 = .slice (some a) n cp := hd 6 (by kernel_rfl)
          have h7 : x 7 = .int IntKind.i64 ↑i := hd 7 (by kernel_rfl)
          rw [h6, h7]
          first | (go_simp; done) | (go_simp; rfl)
        refine StepsAt.val 9 (.pointer (some ⟨(a.add (i * 2)).block, (a.add (i * 2)).off + 1, none⟩)) rfl (fun _ _ => rfl) rfl rfl (fun x wz hb hd => ?_) ?_
        · have h8 : x 8 = .pointer (some (a.add (i * 2))) := hd 8 (by kernel_rfl)
          rw [h8]
          first | (go_simp; done) | (go_simp; rfl)
        refine StepsAt.val 10 (txt (cP x9)) rfl (fun _ _ => rfl) rfl rfl (fun x wz hb hd => ?_) ?_
        · have h9 : x 9 = .pointer (some ⟨(a.add (i * 2)).block, (a.add (i * 2)).off + 1, none⟩) := hd 9 (by kernel_rfl)
          obtain ⟨a9, hA9, cc0, cc1⟩ := (HRr.out.below hb).atCh i (by rw [HN.out]; exact hi2)
          obtain rfl : a = a9 := Option.some.inj hA9
          rw [HX.out] at cc0 cc1
          rw [h9]
          first | (go_simp; done) | (go_simp; rfl)
        refine StepsAt.val 11 (.agg (chc x9).toArray) rfl (fun _ _ => rfl) rfl rfl (fun x wz hb hd => ?_) ?_
        · have h5 : x 5 = .int .i64 (cK x9) := hd 5 (by kernel_rfl)
          have h10 : x 10 = txt (cP x9) := hd 10 (by kernel_rfl)
          rw [h5, h10]
          first | (go_simp; done) | (go_simp; rfl)
        refine StepsAt.cons 12 (fun _ _ _ h hb => h.keep hb) (fun _ _ => rfl) rfl rfl (fun x wz hb hd K hK => ?_) ?_
        · have h11 : Hid (x 11 = .agg (chc x9).toArray) := hd 11 (by kernel_rfl)
          have e11 : x 11 = .agg #[.int .i64 (cK x9), txt (cP x9)] := h11.out
          rw [e11] at hK ⊢
          go_simp
          exact hK.out (.slice (some ⟨wz.heap.size, 0, none⟩) 1 1) (wz.alloc (.cells (chc x9).toArray 33)) ((Below.refl _ _).alloc (Nat.le_refl _) _) ⟨_, rfl, heap_alloc_new wz _, hb.size⟩
        exact StepsAt.done
      case fin =>
        intro x wz hb hd
        have hx0 : x 0 = u3 := hd 0 (by omega)
        have hxk : NewE ChK 33 x9 wr.heap.size (x 12) wz := hd 12 (by omega)
        have HOz := Lib.hid (HO.out.below hb (Nat.le_refl _))
        have HWz : Hid (Below G w wz) := HW.out.trans (hb.mono hwr)
        have hGz : G ≤ wz.heap.size := Nat.le_trans hwr hb.size
        have HNR := Lib.hid hxk.rd
        obtain ⟨g9, hxk, -, -⟩ := hxk
        rw [hxk] at HNR
        refine AnyTill.any (S := fun _ => True) (m := 15) _ _ _ _ ?_
        rw [hx0, hxk]
        clear hd hb hx0 hxk HO HW HRr
        refine AnyTill.one (i := 13) (by kernel_rfl) rfl (by rfl) (fun K hK => ?_)
        refine wp_of_list rfl (wpList_appE (E := ChK) rfl _ _ 57 rfl 33 24 Try.underlying57 kindChR G _ _ _ (l.take i) [x9] rfl HOz.out rfl HNR.out (by simp) ?d1 ?d2 ?d3 ?_)
        case d1 => have := HL.out; have := HOL.out; simp only [List.length_cons, List.length_nil]; omega
        case d2 => have := HL.out; have := HOL.out; simp only [List.length_cons, List.length_nil]; omega
        case d3 => exact hGz
        intro v5 w5 h5 hb5 hg5 _
        refine hK.out _ _ (.inr trivial) ?_
        clear hK K
        refine AnyTill.one (i := 14) (by kernel_rfl) rfl (by rfl) (fun K hK => ?_)
        go_simp
        refine hK.out _ _ (.inr trivial) ?_
        clear hK K
        refine AnyTill.done (by kernel_rfl) ?_
        refine NoPanic.normal ?_
        try dsimp only
        rw [← HT.out] at h5
        have HO5 := Lib.hid h5
        have HW5 := Lib.hid (HWz.out.trans hb5)
        clear h5 hb5 hg5
        go_wp2
        go_roundw
        case rel => exact ⟨i + 1, by omega, by go_num, HO5, HW5⟩
        case measure => simp [intOf]; omega
    · have hE : i = n := by omega
      subst hE
      have HF : Hid (l.take i = l) := List.take_of_length_le (by rw [HN.out]; exact Nat.le_refl _)
      rw [HF.out] at HO
      go_wp2
      go_ret
      exact ⟨_, rfl, HO.out.rd, HW.out.mono (by rw [HG.out]; exact Nat.le_refl _)⟩


set_option maxRecDepth 100000 in
set_option maxHeartbeats 8000000 in
theorem eventsW_any (l : List Ev) (v : Value) (w : World) (hr : RdE EvK w.heap.size w v l) (hl : l.length ≤ 1000000) : Calls Try.prog 25 #[v] w (RowOf EvK l w) := by
  obtain ⟨A, cp, rfl, hc, hm⟩ := hr.shape
  unfold maxLen at hm
  obtain ⟨n, hn⟩ : ∃ n, l.length = n := ⟨_, rfl⟩
  have HN := Lib.hid hn
  have HR := Lib.hid hr
  rw [hn] at hc HR hl ⊢
  have HL := Lib.hid hl
  clear hr hn hl
  obtain ⟨G, hG⟩ : ∃ G, w.heap.size = G := ⟨_, rfl⟩
  have HG := Lib.hid hG
  have HO0 : Hid (OwnE EvK 79 (w.alloc (.cells #[] 79)) G (.slice (some ⟨G, 0, none⟩) 0 0) []) := by
    have := OwnE.empty (E := EvK) 79 w G (by rw [hG]; exact Nat.le_refl _)
    rw [hG] at this
    exact this
  have HW0 : Hid (Below G w (w.alloc (.cells #[] 79))) := (Below.refl _ _).alloc (by rw [hG]; exact Nat.le_refl _) _
  go_enter Try.func25, Try.ntmps25
  go_wp2
  clear hG
  go_loopw [3, 4] (fun o x wr => ∃ i : Nat, i ≤ n ∧ x = .int .i64 (i : Int) ∧ Hid (OwnE EvK 79 wr G o (l.take i)) ∧ Hid (Below G w wr)) (fun _ x _ => n - (intOf x).toNat)
  case atStart => exact ⟨0, by omega, rfl, HO0, HW0⟩
  case round =>
    obtain ⟨i, hi, rfl, HO, HW⟩ := hrel
    have hwr := HW.out.size
    rw [HG.out] at hwr
    by_cases hi2 : i < n
    · have zi : (i : Int) < (n : Int) := by omega
      have hGw : w.heap.size ≤ G := by rw [HG.out]; exact Nat.le_refl _
      obtain ⟨a, hA, c0, c1, c2, c3, c4⟩ := (HR.out.below (HW.out.mono hGw)).atEv i (by rw [HN.out]; exact hi2)
      subst hA
      clear c0 c1 c2 c3 c4
      have HRr := Lib.hid ((HR.out.below (HW.out.mono hGw)).more HW.out.size)
      have HT := Lib.hid (take_snocW l ev0 i (by rw [HN.out]; exact hi2))
      obtain ⟨x9, hx⟩ : ∃ x, l.getD i ev0 = x := ⟨_, rfl⟩
      have HX := Lib.hid hx
      rw [hx] at HT
      have HOL : Hid ((l.take i).length = i) := by
        show _ = _
        have := HN.out
        rw [List.length_take]
        omega
      clear hx
      go_wp2
      refine wp_region_rely3 22 2 (fun x => ⟨#[.slice (some a) n cp, undef, .slice none 0 0, u3, .int IntKind.i64 ↑i, .slice (some { block := G, off := 0 }) 0 0, .int IntKind.i64 ↑i, .slice (some a) n cp, .int IntKind.i64 ↑n, .bool true, u10, u11, x 0, x 1, x 2, x 3, x 4, x 5, x 6, x 7, x 8, x 9, x 10, x 11, x 12, x 13, x 14, x 15, x 16, x 17, x 18, x 19, x 20, x 21, u34, undef], []⟩) (fun jj => ([eqV (u3), eqV (.slice (some a) n cp), eqV (.int IntKind.i64 ↑i), eqV (.pointer (some (a.add (i * 5)))), eqV (.pointer (some (a.add (i * 5)))), eqV (.agg (wac x9.1).toArray), (eqV (.agg (wac x9.1).toArray)), eqV (.slice (some a) n cp), eqV (.int IntKind.i64 ↑i), eqV (.pointer (some (a.add (i * 5)))), eqV (.pointer (some ⟨(a.add (i * 5)).block, (a.add (i * 5)).off + 3, none⟩)), eqV (.pointer (some ⟨(a.add (i * 5)).block, (a.add (i * 5)).off + 3, none⟩)), eqV (.int .i64 (cK x9.2)), eqV (.slice (some a) n cp), eqV (.int IntKind.i64 ↑i), eqV (.pointer (some (a.add (i * 5)))), eqV (.pointer (some ⟨(a.add (i * 5)).block, (a.add (i * 5)).off + 3, none⟩)), eqV (.pointer (some ⟨(a.add (i * 5)).block, (a.add (i * 5)).off + 4, none⟩)), eqV (txt (cP x9.2)), eqV (.agg (chc x9.2).toArray), eqV (.agg (evc x9).toArray), (NewE EvK 79 x9 wr.heap.size)] : List (Value → World → Prop)).getD jj (fun _ _ => True)) rfl ⟨fun kk => [_, _, _, _, _, _, _, _, _, _, _, _, _, _, _, _, _, _, _, _, _, _].getD kk undef, rfl⟩ (by kernel_rfl) (by kernel_rfl) ?steps ?fin
      case steps =>
        refine StepsAt.val 0 (u3) rfl (fun _ _ => rfl) rfl rfl (fun x wz hb hd => ?_) ?_
        · first | (go_simp; done) | (go_simp; rfl)
        refine StepsAt.val 1 (.slice (some a) n cp) rfl (fun _ _ => rfl) rfl rfl (fun x wz hb hd => ?_) ?_
        · first | (go_simp; done) | (go_simp; rfl)
        refine StepsAt.val 2 (.int IntKind.i64 ↑i) rfl (fun _ _ => rfl) rfl rfl (fun x wz hb hd => ?_) ?_
        · first | (go_simp; done) | (go_simp; rfl)
        refine StepsAt.val 3 (.pointer (some (a.add (i * 5)))) rfl (fun _ _ => rfl) rfl rfl (fun x wz hb hd => ?_) ?_
        · have h1 : x 1 = .slice (some a) n cp := hd 1 (by kernel_rfl)
          have h2 : x 2 = .int IntKind.i64 ↑i := hd 2 (by kernel_rfl)
          rw [h1, h2]
          first | (go_simp; done) | (go_simp; rfl)
        refine StepsAt.val 4 (.pointer (some (a.add (i * 5)))) rfl (fun _ _ => rfl) rfl rfl (fun x wz hb hd => ?_) ?_
        · have h3 : x 3 = .pointer (some (a.add (i * 5))) := hd 3 (by kernel_rfl)
          rw [h3]
          first | (go_simp; done) | (go_simp; rfl)
        refine StepsAt.val 5 (.agg (wac x9.1).toArray) rfl (fun _ _ => rfl) rfl rfl (fun x wz hb hd => ?_) ?_
        · have h4 : x 4 = .pointer (some (a.add (i * 5))) := hd 4 (by kernel_rfl)
          obtain ⟨a9, hA9, cc0, cc1, cc2, cc3, cc4⟩ := (HRr.out.below hb).atEv i (by rw [HN.out]; exact hi2)
          obtain rfl : a = a9 := Option.some.inj hA9
          rw [HX.out] at cc0 cc1 cc2 cc3 cc4
          rw [h4]
          first | (go_simp; done) | (go_simp; rfl)
        refine StepsAt.cons 6 (fun _ _ _ h hb => h) (fun _ _ => rfl) rfl rfl (fun x wz hb hd K hK => ?_) ?_
        · have h5 : Hid (x 5 = .agg (wac x9.1).toArray) := hd 5 (by kernel_rfl)
          go_simp
          refine calls_args (args2 := #[.agg (wac x9.1).toArray]) (by rw [h5.out]) ?_
          refine (oneW_any x9.1 _).mono ?_
          rintro e w99 ⟨rfl, hb99⟩
          exact hK.out _ _ hb99 rfl
        refine StepsAt.val 7 (.slice (some a) n cp) rfl (fun _ _ => rfl) rfl rfl (fun x wz hb hd => ?_) ?_
        · first | (go_simp; done) | (go_simp; rfl)
        refine StepsAt.val 8 (.int IntKind.i64 ↑i) rfl (fun _ _ => rfl) rfl rfl (fun x wz hb hd => ?_) ?_
        · first | (go_simp; done) | (go_simp; rfl)
        refine StepsAt.val 9 (.pointer (some (a.add (i * 5)))) rfl (fun _ _ => rfl) rfl rfl (fun x wz hb hd => ?_) ?_
        · have h7 : x 7 = .slice (some a) n cp := hd 7 (by kernel_rfl)
          have h8 : x 8 = .int IntKind.i64 ↑i := hd 8 (by kernel_rfl)
          rw [h7, h8]
          first | (go_simp; done) | (go_simp; rfl)
        refine StepsAt.val 10 (.pointer (some ⟨(a.add (i * 5)).block, (a.add (i * 5)).off + 3, none⟩)) rfl (fun _ _ => rfl) rfl rfl (fun x wz hb hd => ?_) ?_
        · have h9 : x 9 = .pointer (some (a.add (i * 5))) := hd 9 (by kernel_rfl)
          rw [h9]
          first | (go_simp; done) | (go_simp; rfl)
        refine StepsAt.val 11 (.pointer (some ⟨(a.add (i * 5)).block, (a.add (i * 5)).off + 3, none⟩)) rfl (fun _ _ => rfl) rfl rfl (fun x wz hb hd => ?_) ?_
        · have h10 : x 10 = .pointer (some ⟨(a.add (i * 5)).block, (a.add (i * 5)).off + 3, none⟩) := hd 10 (by kernel_rfl)
          rw [h10]
          first | (go_simp; done) | (go_simp; rfl)
        refine StepsAt.val 12 (.int .i64 (cK x9.2)) rfl (fun _ _ => rfl) rfl rfl (fun x wz hb hd => ?_) ?_
        · have h11 : x 11 = .pointer (some ⟨(a.add (i * 5)).block, (a.add (i * 5)).off + 3, none⟩) := hd 11 (by kernel_rfl)
          obtain ⟨a9, hA9, cc0, cc1, cc2, cc3, cc4⟩ := (HRr.out.below hb).atEv i (by rw [HN.out]; exact hi2)
          obtain rfl : a = a9 := Option.some.inj hA9
          rw [HX.out] at cc0 cc1 cc2 cc3 cc4
          rw [h11]
          first | (go_simp; done) | (go_simp; rfl)
        refine StepsAt.val 13 (.slice (some a) n cp) rfl (fun _ _ => rfl) rfl rfl (fun x wz hb hd => ?_) ?_
        · first | (go_simp; done) | (go_simp; rfl)
        refine StepsAt.val 14 (.int IntKind.i64 ↑i) rfl (fun _ _ => rfl) rfl rfl (fun x wz hb hd => ?_) ?_
        · first | (go_simp; done) | (go_simp; rfl)
        refine StepsAt.val 15 (.pointer (some (a.add (i * 5)))) rfl (fun _ _ => rfl) rfl rfl (fun x wz hb hd => ?_) ?_
        · have h13 : x 13 = .slice (some a) n cp := hd 13 (by kernel_rfl)
          have h14 : x 14 = .int IntKind.i64 ↑i := hd 14 (by kernel_rfl)
          rw [h13, h14]
          first | (go_simp; done) | (go_simp; rfl)
        refine StepsAt.val 16 (.pointer (some ⟨(a.add (i * 5)).block, (a.add (i * 5)).off + 3, none⟩)) rfl (fun _ _ => rfl) rfl rfl (fun x wz hb hd => ?_) ?_
        · have h15 : x 15 = .pointer (some (a.add (i * 5))) := hd 15 (by kernel_rfl)
          rw [h15]
          first | (go_simp; done) | (go_simp; rfl)
        refine StepsAt.val 17 (.pointer (some ⟨(a.add (i * 5)).block, (a.add (i * 5)).off + 4, none⟩)) rfl (fun _ _ => rfl) rfl rfl (fun x wz hb hd => ?_) ?_
        · have h16 : x 16 = .pointer (some ⟨(a.add (i * 5)).block, (a.add (i * 5)).off + 3, none⟩) := hd 16 (by kernel_rfl)
          rw [h16]
          first | (go_simp; done) | (go_simp; rfl)
        refine StepsAt.val 18 (txt (cP x9.2)) rfl (fun _ _ => rfl) rfl rfl (fun x wz hb hd => ?_) ?_
        · have h17 : x 17 = .pointer (some ⟨(a.add (i * 5)).block, (a.add (i * 5)).off + 4, none⟩) := hd 17 (by kernel_rfl)
          obtain ⟨a9, hA9, cc0, cc1, cc2, cc3, cc4⟩ := (HRr.out.below hb).atEv i (by rw [HN.out]; exact hi2)
          obtain rfl : a = a9 := Option.some.inj hA9
          rw [HX.out] at cc0 cc1 cc2 cc3 cc4
          rw [h17]
          first | (go_simp; done) | (go_simp; rfl)
        refine StepsAt.val 19 (.agg (chc x9.2).toArray) rfl (fun _ _ => rfl) rfl rfl (fun x wz hb hd => ?_) ?_
        · have h12 : x 12 = .int .i64 (cK x9.2) := hd 12 (by kernel_rfl)
          have h18 : x 18 = txt (cP x9.2) := hd 18 (by kernel_rfl)
          rw [h12, h18]
          first | (go_simp; done) | (go_simp; rfl)
        refine StepsAt.val 20 (.agg (evc x9).toArray) rfl (fun _ _ => rfl) rfl rfl (fun x wz hb hd => ?_) ?_
        · have h6 : x 6 = .agg (wac x9.1).toArray := hd 6 (by kernel_rfl)
          have h19 : x 19 = .agg (chc x9.2).toArray := hd 19 (by kernel_rfl)
          have e6 : x 6 = .agg #[txt (wP x9.1), .int .i64 (wC x9.1), .bool (wK x9.1)] := h6
          have e19 : x 19 = .agg #[.int .i64 (cK x9.2), txt (cP x9.2)] := h19
          rw [e6, e19]
          first | (go_simp; done) | (go_simp; rfl)
        refine StepsAt.cons 21 (fun _ _ _ h hb => h.keep hb) (fun _ _ => rfl) rfl rfl (fun x wz hb hd K hK => ?_) ?_
        · have h20 : Hid (x 20 = .agg (evc x9).toArray) := hd 20 (by kernel_rfl)
          have e20 : x 20 = .agg #[txt (wP x9.1), .int .i64 (wC x9.1), .bool (wK x9.1), .int .i64 (cK x9.2), txt (cP x9.2)] := h20.out
          rw [e20] at hK ⊢
          go_simp
          exact hK.out (.slice (some ⟨wz.heap.size, 0, none⟩) 1 1) (wz.alloc (.cells (evc x9).toArray 79)) ((Below.refl _ _).alloc (Nat.le_refl _) _) ⟨_, rfl, heap_alloc_new wz _, hb.size⟩
        exact StepsAt.done
      case fin =>
        intro x wz hb hd
        have hx0 : x 0 = u3 := hd 0 (by omega)
        have hxk : NewE EvK 79 x9 wr.heap.size (x 21) wz := hd 21 (by omega)
        have HOz := Lib.hid (HO.out.below hb (Nat.le_refl _))
        have HWz : Hid (Below G w wz) := HW.out.trans (hb.mono hwr)
        have hGz : G ≤ wz.heap.size := Nat.le_trans hwr hb.size
        have HNR := Lib.hid hxk.rd
        obtain ⟨g9, hxk, -, -⟩ := hxk
        rw [hxk] at HNR
        refine AnyTill.any (S := fun _ => True) (m := 24) _ _ _ _ ?_
        rw [hx0, hxk]
        clear hd hb hx0 hxk HO HW HRr
        refine AnyTill.one (i := 22) (by kernel_rfl) rfl (by rfl) (fun K hK => ?_)
        refine wp_of_list rfl (wpList_appE (E := EvK) rfl _ _ 54 rfl 79 56 Try.underlying54 kindEvR G _ _ _ (l.take i) [x9] rfl HOz.out rfl HNR.out (by simp) ?d1 ?d2 ?d3 ?_)
        case d1 => have := HL.out; have := HOL.out; simp only [List.length_cons, List.length_nil]; omega
        case d2 => have := HL.out; have := HOL.out; simp only [List.length_cons, List.length_nil]; omega
        case d3 => exact hGz
        intro v5 w5 h5 hb5 hg5 _
        refine hK.out _ _ (.inr trivial) ?_
        clear hK K
        refine AnyTill.one (i := 23) (by kernel_rfl) rfl (by rfl) (fun K hK => ?_)
        go_simp
        refine hK.out _ _ (.inr trivial) ?_
        clear hK K
        refine AnyTill.done (by kernel_rfl) ?_
        refine NoPanic.normal ?_
        try dsimp only
        rw [← HT.out] at h5
        have HO5 := Lib.hid h5
        have HW5 := Lib.hid (HWz.out.trans hb5)
        clear h5 hb5 hg5
        go_wp2
        go_roundw
        case rel => exact ⟨i + 1, by omega, by go_num, HO5, HW5⟩
        case measure => simp [intOf]; omega
    · have hE : i = n := by omega
      subst hE
      have HF : Hid (l.take i = l) := List.take_of_length_le (by rw [HN.out]; exact Nat.le_refl _)
      rw [HF.out] at HO
      go_wp2
      go_ret
      exact ⟨_, rfl, HO.out.rd, HW.out.mono (by rw [HG.out]; exact Nat.le_refl _)⟩


end Go.Proofs.Ytmiomfonglmfjaa
