/-
  The document's shelves: New; the statements' own: few, plain.
-/
import Derived.Test.YtlpakfaoaodaiaaDoorHD
namespace Go.Proofs.YtlpakfaoaodaiaaDoor
open Go.RowKit

/-- The call answers a shelf. -/
def Shelf1 (l : List Nd) (w : World) (e : Ending) (w' : World) : Prop := ∃ v, e = .returned (.agg #[v]) ∧ RdNd w'.heap.size w' v l ∧ Below w.heap.size w w'
def rootN : Nd := ([47], [], 0, 0)

set_option maxRecDepth 100000 in
set_option maxHeartbeats 2000000 in
theorem rfNew_any (w : World) : Calls Tryd.prog 17 #[] w (Shelf1 [rootN] w) := by
  obtain ⟨d30, hu30, hd30⟩ := rowSH
  have HU := Lib.hid hu30
  have HD := Lib.hid hd30
  clear hu30 hd30
  go_enter Tryd.func17, Tryd.ntmps17
  go_wp2_with (refine wpList_alloc_blk rfl 30 rfl [.slice none 0 0] zSH ?_)
  intro w1 a1 a2 a3
  obtain ⟨g0, hg0⟩ : ∃ g, w.heap.size = g := ⟨_, rfl⟩
  obtain ⟨G, hG⟩ : ∃ G, w1.heap.size = G := ⟨_, rfl⟩
  have X0 := Lib.hid a1
  have HB := Lib.hid a3
  have hg0G : g0 < G := by omega
  have hwG : w.heap.size ≤ G := by omega
  have R0 : Hid (RdNd (G + 1) (w1.alloc (.cells (ndc rootN).toArray 56)) (.slice (some ⟨G, 0, none⟩) 1 1) [rootN]) := by
    show RdNd _ _ _ _
    have h := RdNd.one w1 56 rootN
    rw [hG] at h
    exact h
  have X1 : Hid (Blk (w1.alloc (.cells (ndc rootN).toArray 56)) g0 [.slice none 0 0] 30) := by
    show Blk _ _ _ _
    rw [← hg0]
    exact X0.out.alloc _
  have HW : Hid (Below G w1 (w1.alloc (.cells (ndc rootN).toArray 56))) := (Below.refl _ _).alloc (by omega) _
  have hsz : (w1.alloc (.cells (ndc rootN).toArray 56)).heap.size = G + 1 := by simp; omega
  have HSZ := Lib.hid hsz
  rw [hg0]
  clear a1 a2 a3 X0 hsz
  go_wp2_with (refine wpList_store_to rfl 30 _ _ rfl g0 [.slice (some ⟨G, 0, none⟩) 1 1] [.slice none 0 0] 30 rfl rfl X1.out sSH rfl (slice_one _ _ _) ?_)
  intro w2 e1 e2 e3 e4
  go_wp2
  refine bodyPost_ret (v := .agg [Value.slice (some ⟨G, 0, none⟩) 1 1].toArray) ?_ rfl ?_
  · exact ret_blkUL rfl _ _ g0 30 [.slice (some ⟨G, 0, none⟩) 1 1] rfl e1 d30 HU.out HD.out sSH
  · have hb : Below w.heap.size w w2 := HB.out.trans ((HW.out.mono hwG).trans (e3.mono (by omega)))
    refine ⟨_, rfl, ?_, hb⟩
    obtain ⟨A', c', hv, hc, hm, hn, hr⟩ := R0.out
    refine ⟨A', c', hv, hc, hm, hn, fun a ha => ⟨fun h0 => ?_, fun j u hu => ?_⟩⟩
    · have := (hr a ha).1 h0
      rw [e2]
      exact this
    · rw [← (hr a ha).2 j u hu]
      refine World.cell?_of_block (e4 _ ?_)
      have h1 : a = ⟨G, 0, none⟩ := by
        rw [ha] at hv
        injection hv with hv
        injection hv with hv
        exact hv.symm
      rw [h1, addr_block]
      show G ≠ g0
      omega

def fewN (l : List Nd) : Bool := decide (l.length ≤ 60) && l.all fun x => decide ((nP x).length ≤ 200) && decide ((nV x).length ≤ 1100)
theorem fewN_long (l : List Nd) (h : 60 < l.length) : fewN l = false := by
  unfold fewN
  have : decide (l.length ≤ 60) = false := by simp; omega
  rw [this]; rfl
theorem fewN_at (l : List Nd) (i : Nat) (hi : i < l.length) (h : 200 < (nP (l.getD i nd0)).length ∨ 1100 < (nV (l.getD i nd0)).length) : fewN l = false := by
  unfold fewN
  rw [Bool.and_eq_false_iff]
  right
  rw [List.all_eq_false]
  refine ⟨l.getD i nd0, ?_, ?_⟩
  · rw [List.getD_eq_getElem?_getD, List.getElem?_eq_getElem hi]
    exact List.getElem_mem _
  · simp only [Bool.and_eq_true, decide_eq_true_eq]
    omega
theorem fewN_all (l : List Nd) (hl : l.length ≤ 60) (h : ∀ i, i < l.length → (nP (l.getD i nd0)).length ≤ 200 ∧ (nV (l.getD i nd0)).length ≤ 1100) : fewN l = true := by
  unfold fewN
  simp only [Bool.and_eq_true, decide_eq_true_eq, List.all_eq_true]
  refine ⟨hl, fun x hx => ?_⟩
  obtain ⟨i, hi, rfl⟩ := List.getElem_of_mem hx
  have := h i hi
  rw [List.getD_eq_getElem?_getD, List.getElem?_eq_getElem hi] at this
  exact this

set_option maxRecDepth 100000 in
set_option maxHeartbeats 4000000 in
theorem few_any (l : List Nd) (v : Value) (w : World) (hr : RdNd w.heap.size w v l) : Calls Tryd.prog 9 #[.agg #[v]] w (One (.bool (fewN l)) w) := by
  obtain ⟨A, cp, rfl, hc, hm⟩ := hr.shape
  unfold maxLen at hm
  obtain ⟨n, hn⟩ : ∃ n, l.length = n := ⟨_, rfl⟩
  have HN := Lib.hid hn
  have HR := Lib.hid hr
  rw [hn] at hc HR ⊢
  clear hr hn
  go_enter Tryd.func9, Tryd.ntmps9
  go_wp2_with (refine wpList_box_blk rfl 24 _ rfl [.slice A n cp] rfl ?_)
  intro w1 b1 b2 b3
  have HR1 := Lib.hid (HR.out.below b3)
  have HB := Lib.hid b3
  have ca := b1.cell 0
  obtain ⟨g, hg⟩ : ∃ g, w.heap.size = g := ⟨_, rfl⟩
  rw [hg] at ca ⊢
  clear b1 b2 b3 HR hg
  go_wp2
  go_loop [3] (fun x => ∃ i : Nat, i ≤ n ∧ i ≤ 60 ∧ x = .int .i64 (i : Int) ∧ Hid (∀ j, j < i → (nP (l.getD j nd0)).length ≤ 200 ∧ (nV (l.getD j nd0)).length ≤ 1100)) (fun x => n - (intOf x).toNat)
  case atStart => exact ⟨0, by omega, by omega, rfl, fun j hj => by omega⟩
  case round =>
    obtain ⟨i, hi, hi60, rfl, HA⟩ := hrel
    by_cases hi2 : i < n
    · have zi : (i : Int) < (n : Int) := by omega
      by_cases h60 : i = 60
      · have hz : ((i : Int) == 60) = true := by simp; omega
        have HF := Lib.hid (fewN_long l (by rw [HN.out]; omega))
        subst h60
        go_wp2
        go_ret
        exact ⟨by rw [HF.out]; rfl, HB.out⟩
      · have hz : ((i : Int) == 60) = false := by
          rw [beq_eq_false_iff_ne]
          omega
        obtain ⟨a, hA, c0, c1, -, -⟩ := HR1.out.at_ i (by rw [HN.out]; exact hi2)
        subst hA
        have HFA := Lib.hid (fewN_at l i (by rw [HN.out]; exact hi2))
        obtain ⟨x, hx⟩ : ∃ x, l.getD i nd0 = x := ⟨_, rfl⟩
        rw [hx] at c0 c1 HFA
        obtain ⟨p, hp⟩ : ∃ p, nP x = p := ⟨_, rfl⟩
        obtain ⟨q, hq⟩ : ∃ q, nV x = q := ⟨_, rfl⟩
        rw [hp] at c0 HFA
        rw [hq] at c1 HFA
        obtain ⟨P, hP⟩ : ∃ P, p.length = P := ⟨_, rfl⟩
        obtain ⟨Q, hQ⟩ : ∃ Q, q.length = Q := ⟨_, rfl⟩
        have hpz : (⟨p.toArray⟩ : ByteArray).size = P := hP
        have hqz : (⟨q.toArray⟩ : ByteArray).size = Q := hQ
        rw [hP, hQ] at HFA
        by_cases h200 : 200 < (P : Int)
        · have HF := Lib.hid (HFA.out (.inl (by omega)))
          clear hx hp hq hP hQ
          go_wp2
          go_ret
          exact ⟨by rw [HF.out]; rfl, HB.out⟩
        by_cases h1100 : 1100 < (Q : Int)
        · have HF := Lib.hid (HFA.out (.inr (by omega)))
          clear hx hp hq hP hQ
          go_wp2
          go_ret
          exact ⟨by rw [HF.out]; rfl, HB.out⟩
        have HA2 : Hid (∀ j, j < i + 1 → (nP (l.getD j nd0)).length ≤ 200 ∧ (nV (l.getD j nd0)).length ≤ 1100) := by
          intro j hj
          by_cases h : j < i
          · exact HA.out j h
          · have : j = i := by omega
            subst this
            rw [hx, hp, hq, hP, hQ]
            omega
        clear hx hp hq hP hQ
        go_wp2
        go_round
        case rel => exact ⟨i + 1, by omega, by omega, by go_num, HA2⟩
        case measure => simp [intOf]; omega
    · have hE : i = n := by omega
      subst hE
      have HF := Lib.hid (fewN_all l (by rw [HN.out]; exact hi60) (by rw [HN.out]; exact HA.out))
      go_wp2
      go_ret
      exact ⟨by rw [HF.out]; rfl, HB.out⟩
end Go.Proofs.YtlpakfaoaodaiaaDoor
