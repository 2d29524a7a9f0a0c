/-
  The program's shelves: Get, and what is asked of a node. Each theorem states its own conditions.
-/
import Derived.Test.YtlpakfaoaodaiaaDoorG1
namespace Go.Proofs.YtlpakfaoaodaiaaDoor
open Go.RowKit

theorem rowPN : ∃ d, Tryd.prog.underlying 53 = some d ∧ d.isRow = true := ⟨_, Tryd.underlying53, rfl⟩
theorem sPN : (Tryd.prog.info? 53).map (·.size) = some 4 := by kernel_rfl
theorem zPN : (Tryd.prog.info? 53).map (·.zero) = some (some (.agg (ndc nd0).toArray)) := by kernel_rfl
theorem rowPS : ∃ d, Tryd.prog.underlying 24 = some d ∧ d.isRow = true := ⟨_, Tryd.underlying24, rfl⟩
theorem sPS : (Tryd.prog.info? 24).map (·.size) = some 1 := by kernel_rfl
theorem zPS : (Tryd.prog.info? 24).map (·.zero) = some (some (.agg [Value.slice none 0 0].toArray)) := by kernel_rfl

/-- A change for this version is one for a node of version r. -/
def verB (z r : Int) : Bool := (z == -1) || (z == r)
/-- What a node may have beside its path. -/
def limB (x : Nd) : Bool := decide ((nV x).length ≤ 1000) && decide (0 ≤ nR x) && decide (nR x ≤ 1000000000) && decide (0 ≤ nO x)

set_option maxRecDepth 100000 in
set_option maxHeartbeats 2000000 in
theorem shOf_any (x : Nd) (z : Int) (w : World) : Calls Tryd.prog 47 #[ndv x, .int .i64 z] w (One (.bool (verB z (nR x))) w) := by
  obtain ⟨a, b, c, d⟩ := x
  show Calls Tryd.prog _ #[.agg #[txt a, txt b, .int .i64 c, .int .i64 d], _] w (One (.bool (verB z c)) w)
  go_enter Tryd.func47, Tryd.ntmps47
  go_wp2_with (refine wpList_box_blk rfl 53 _ rfl [txt a, txt b, .int .i64 c, .int .i64 d] rfl ?_)
  intro w1 b1 b2 b3
  have HB := Lib.hid b3
  have c2 := b1.at_ 2 _ rfl
  obtain ⟨k, hk⟩ : ∃ k, w.heap.size = k := ⟨_, rfl⟩
  rw [hk] at c2 ⊢
  clear b1 b2 b3 hk
  by_cases h1 : z = -1
  · have hz : (z == -1) = true := by simpa using h1
    have HF : Hid (verB z c = true) := by
      show _ = _
      unfold verB
      rw [hz]; rfl
    clear h1
    go_wp2
    go_ret
    exact ⟨by rw [HF.out]; rfl, HB.out⟩
  · have hz : (z == -1) = false := by simpa using h1
    clear h1
    cases h2 : (z == c)
    · have HF : Hid (verB z c = false) := by
        show _ = _
        unfold verB
        rw [hz, h2]; rfl
      go_wp2
      go_ret
      exact ⟨by rw [HF.out]; rfl, HB.out⟩
    · have HF : Hid (verB z c = true) := by
        show _ = _
        unfold verB
        rw [hz, h2]; rfl
      go_wp2
      go_ret
      exact ⟨by rw [HF.out]; rfl, HB.out⟩

set_option maxRecDepth 100000 in
set_option maxHeartbeats 2000000 in
theorem shLim_any (x : Nd) (w : World) : Calls Tryd.prog 33 #[ndv x] w (One (.bool (limB x)) w) := by
  obtain ⟨a, b, c, d⟩ := x
  show Calls Tryd.prog _ #[.agg #[txt a, txt b, .int .i64 c, .int .i64 d]] w (One (.bool (limB (a, b, c, d))) w)
  obtain ⟨n, hn⟩ : ∃ n, b.length = n := ⟨_, rfl⟩
  have hsz : (⟨b.toArray⟩ : ByteArray).size = n := hn
  have HV : Hid (limB (a, b, c, d) = (decide (n ≤ 1000) && decide (0 ≤ c) && decide (c ≤ 1000000000) && decide (0 ≤ d))) := by
    show _ = _
    unfold limB
    rw [← hn]
  obtain ⟨V, hV⟩ : ∃ V, limB (a, b, c, d) = V := ⟨_, rfl⟩
  rw [hV] at HV ⊢
  clear hV hn
  go_enter Tryd.func33, Tryd.ntmps33
  go_wp2_with (refine wpList_box_blk rfl 53 _ rfl [txt a, txt b, .int .i64 c, .int .i64 d] rfl ?_)
  intro w1 b1 b2 b3
  have HB := Lib.hid b3
  have c1 := b1.at_ 1 _ rfl
  have c2 := b1.at_ 2 _ rfl
  have c3 := b1.at_ 3 _ rfl
  obtain ⟨k, hk⟩ : ∃ k, w.heap.size = k := ⟨_, rfl⟩
  rw [hk] at c1 c2 c3 ⊢
  clear b1 b2 b3 hk
  by_cases h1 : n ≤ 1000
  · have z1 : (n : Int) ≤ 1000 := by omega
    by_cases h2 : 0 ≤ c
    · by_cases h3 : c ≤ 1000000000
      · by_cases h4 : 0 ≤ d
        · have HF : Hid (V = true) := by
            show _ = _
            rw [HV.out]; simp [h1, h2, h3, h4]
          clear h1
          go_wp2
          go_ret
          exact ⟨by rw [HF.out]; rfl, HB.out⟩
        · have HF : Hid (V = false) := by
            show _ = _
            rw [HV.out]; simp [h1, h2, h3, h4]
          clear h1
          go_wp2
          go_ret
          exact ⟨by rw [HF.out]; rfl, HB.out⟩
      · have HF : Hid (V = false) := by
          show _ = _
          rw [HV.out]; simp [h3]
        clear h1
        go_wp2
        go_ret
        exact ⟨by rw [HF.out]; rfl, HB.out⟩
    · have HF : Hid (V = false) := by
        show _ = _
        rw [HV.out]; simp [h2]
      clear h1
      go_wp2
      go_ret
      exact ⟨by rw [HF.out]; rfl, HB.out⟩
  · have HF : Hid (V = false) := by
      show _ = _
      rw [HV.out]; simp [h1]
    have z1 : ¬ (n : Int) ≤ 1000 := by omega
    clear h1
    go_wp2
    go_ret
    exact ⟨by rw [HF.out]; rfl, HB.out⟩

set_option maxRecDepth 100000 in
set_option maxHeartbeats 2000000 in
theorem shGet_any (l : List Nd) (p : List UInt8) (v : Value) (w : World) (hr : RdNd w.heap.size w v l) : Calls Tryd.prog 27 #[.agg #[v], txt p] w (Gets (getS l p) (getE l p) w) := by
  obtain ⟨A, cp, rfl, hc, hm⟩ := hr.shape
  unfold maxLen at hm
  obtain ⟨n, hn⟩ : ∃ n, l.length = n := ⟨_, rfl⟩
  have HN := Lib.hid hn
  have HR := Lib.hid hr
  rw [hn] at hc HR ⊢
  clear hr hn
  obtain ⟨d56, hu56, hd56⟩ := rowPN
  have HU := Lib.hid hu56
  have HD := Lib.hid hd56
  clear hu56 hd56
  go_enter Tryd.func27, Tryd.ntmps27
  go_wp2_with (refine wpList_box_blk rfl 24 _ rfl [.slice A n cp] rfl ?_)
  intro w1 b1 b2 b3
  go_wp2_with (refine wpList_alloc_blk rfl 53 rfl (ndc nd0) zPN ?_)
  intro w2 a1 a2 a3
  obtain ⟨g0, hg0⟩ : ∃ g, w.heap.size = g := ⟨_, rfl⟩
  obtain ⟨g1, hg1⟩ : ∃ g, w.heap.size + 1 = g := ⟨_, rfl⟩
  have hg01 : g0 < g1 := by omega
  have hw2 : w.heap.size ≤ w2.heap.size := by omega
  have hg2 : g1 < w2.heap.size := by omega
  have X0 := Lib.hid (b1.below a3 (by omega))
  have X1 := Lib.hid a1
  have HB := Lib.hid (b3.trans (a3.mono (by omega)))
  have HR2 := Lib.hid (HR.out.below HB.out)
  rw [hg1] at X1 ⊢
  rw [hg0] at X0 ⊢
  clear b1 b2 b3 a1 a2 a3 HR hg1
  go_wp2_with fail
  refine (pxRight_any p w2).mono ?_
  rintro e w3 ⟨rfl, hb⟩
  have hs3 := hb.size
  have Y0 := Lib.hid (X0.out.below hb (by omega))
  have Y1 := Lib.hid (X1.out.below hb (by omega))
  have HB3 := Lib.hid (HB.out.trans (hb.mono (by omega)))
  have HR3 := Lib.hid ((HR2.out.below (hb.mono hw2)).more (show w.heap.size ≤ w3.heap.size by omega))
  clear hb X0 X1 HB HR2
  cases hR : rightB p
  · have HG := Lib.hid (get_not l p hR)
    clear hR
    go_wp2_with (refine wpList_store_blk rfl 53 _ _ rfl g1 (ndc nd0) (ndc nd0) 53 rfl rfl Y1.out sPN rfl (ndc_one _) ?_)
    refine bodyPost_ret (v := .tuple #[.agg (ndc nd0).toArray, .int .i64 13]) ?_ rfl ?_
    · exact ret_blk2U rfl _ _ g1 53 (ndc nd0) _ rfl rfl Y1.out.setRow d56 HU.out HD.out sPN
    · rw [HG.out.1, HG.out.2]
      exact ⟨rfl, below_setRow' HB3.out (by omega) _⟩
  · have HR4 := Lib.hid hR
    have cs := Y0.out.cell 0
    clear hR
    go_wp2_with fail
    refine (shIndex_any l p _ w3 HR3.out).mono ?_
    rintro e w4 ⟨rfl, hb⟩
    have hs4 := hb.size
    have Z0 := Lib.hid (Y0.out.below hb (by omega))
    have Z1 := Lib.hid (Y1.out.below hb (by omega))
    have HB4 := Lib.hid (HB3.out.trans (hb.mono (by omega)))
    have HR5 := Lib.hid (HR3.out.below hb)
    clear hb Y0 Y1 HB3 HR3 cs
    rcases atI_or l p with ⟨h1, h2, h3⟩ | ⟨h1, h2⟩
    · have HG := Lib.hid (get_yes l p HR4.out h1)
      rw [h2]
      obtain ⟨i, hi⟩ : ∃ i, placeN l p = i := ⟨_, rfl⟩
      rw [hi] at HG h3 ⊢
      rw [HN.out] at h3
      have zi : (i : Int) < (n : Int) := by omega
      obtain ⟨a, hA, c0, c1, c2, c3⟩ := HR5.out.at_ i (by rw [HN.out]; exact h3)
      subst hA
      obtain ⟨x, hx⟩ : ∃ x, l.getD i nd0 = x := ⟨_, rfl⟩
      rw [hx] at c0 c1 c2 c3 HG
      have cs := Z0.out.cell 0
      clear h1 h2 hi hx HR5 HR4
      go_wp2_with (refine wpList_store_blk rfl 53 _ _ rfl g1 (ndc x) (ndc nd0) 53 rfl rfl Z1.out sPN rfl (ndc_one _) ?_)
      refine bodyPost_ret (v := .tuple #[.agg (ndc x).toArray, .int .i64 0]) ?_ rfl ?_
      · exact ret_blk2U rfl _ _ g1 53 (ndc x) _ rfl rfl Z1.out.setRow d56 HU.out HD.out sPN
      · rw [HG.out.1, HG.out.2]
        exact ⟨rfl, below_setRow' HB4.out (by omega) _⟩
    · have HG := Lib.hid (get_none l p HR4.out h1)
      rw [h2]
      clear h1 h2 HR5 HR4
      go_wp2_with (refine wpList_store_blk rfl 53 _ _ rfl g1 (ndc nd0) (ndc nd0) 53 rfl rfl Z1.out sPN rfl (ndc_one _) ?_)
      refine bodyPost_ret (v := .tuple #[.agg (ndc nd0).toArray, .int .i64 6]) ?_ rfl ?_
      · exact ret_blk2U rfl _ _ g1 53 (ndc nd0) _ rfl rfl Z1.out.setRow d56 HU.out HD.out sPN
      · rw [HG.out.1, HG.out.2]
        exact ⟨rfl, below_setRow' HB4.out (by omega) _⟩
end Go.Proofs.YtlpakfaoaodaiaaDoor
