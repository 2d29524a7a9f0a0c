/-
  The rule for a region whose order is open, where one of the last operations waits for nothing and reads nothing: it is taken first. Words of no program.
-/
import Derived.Test.YteckenlbelgknaaMs
namespace Go.Proofs.Yteckenlbelgknaa
open Go.RowKit

theorem AnyTill.of_any {P : Program} {md : Region.Mode} {ops : Array Oper} {Q : Exit → Act → World → Prop} {m : Nat} : ∀ (n : Nat) (listed : Array Bool) (a : Act) (w : World), wpAny P md ops Q n listed a w → AnyTill P md ops Q (fun _ => True) m n listed a w
  | 0, _, _, _, h => h
  | n + 1, _, _, _, h => ⟨h.1, fun i hi => wpOp_mono (fun a' w' h' => ⟨.inr trivial, AnyTill.of_any n _ a' w' h'⟩) (h.2 i hi)⟩
def lateP (l : List Oper) (m p : Nat) : Bool :=
  decide (m ≤ p) && decide (p < l.length) && (depsOf l p).isEmpty && (List.range l.length).all fun j =>
    if j < m then ((l[j]?).map fun o => o.after.all fun e => !Region.binds .any e || decide (e.on < j) || decide (e.on = p)).getD false else decide (j = p) || (List.range m).all fun k => (clos l l.length (depsOf l j)).contains k

section
variable {P : Program} {l : List Oper} {Q : Exit → Act → World → Prop} {F : (Nat → Value) → Act} {Φ : Nat → Value → World → Prop} {w0 : World}
theorem rely_anyP (m p : Nat) (hlate : lateP l m p = true) (hs : StepsAt P l Q F Φ w0 m l 0) (hwait : ∀ j, j < m → waitsB .any l.toArray j p = false)
    (hend : ∀ x w, Below w0.heap.size w0 w → (∀ j, j < m → Φ j (x j) w) → wpAny P .any l.toArray (NoPanic Q) (l.length - m - 1) ((listedAt l.length m).setIfInBounds p true) (F x) w) :
    ∀ (n : Nat) (listed : Array Bool) (u : List Nat) (x : Nat → Value) (w : World), listed.size = l.length → (∀ k, m ≤ k → k < l.length → k ≠ p → listed.getD k true = false) → listed.getD p false = true → (∀ j, j < m → listed.getD j false = false → j ∈ u) →
      l.length - m - 1 + u.length ≤ n → Below w0.heap.size w0 w → (∀ j, j < m → listed.getD j false = true → Φ j (x j) w) → (∀ j, j < m → listed.getD j false = true → ∀ k, k ∈ depsOf l j → listed.getD k false = true) → wpAny P .any l.toArray (NoPanic Q) n listed (F x) w := by
  simp only [lateP, Bool.and_eq_true, decide_eq_true_eq, List.all_eq_true, List.mem_range] at hlate
  obtain ⟨⟨⟨hmp, hpl⟩, hdp⟩, hla⟩ := hlate
  have hdp0 : depsOf l p = [] := by simpa using hdp
  have hfin : ∀ listed : Array Bool, listed.size = l.length → (∀ k, m ≤ k → k < l.length → k ≠ p → listed.getD k true = false) → listed.getD p false = true → (∀ j, j < m → listed.getD j false = true) → listed = (listedAt l.length m).setIfInBounds p true := by
    intro listed hsz hlo hlp hall
    refine Array.ext (by simp [listedAt, hsz]; omega) (fun i h1 h2 => ?_)
    rcases Nat.decEq p i with hne | rfl
    · have hz : i < (listedAt l.length m).size := by simpa using h2
      rw [Array.getElem_setIfInBounds hz]
      rw [if_neg hne]
      rcases Nat.lt_or_ge i m with h | h
      · have := hall i h
        simp [h1] at this
        simp [listedAt, h, this]
      · have := hlo i h (by omega) (Ne.symm hne)
        simp [h1] at this
        simp [listedAt, List.getElem_append, Nat.not_lt.2 h, this]
    · simp [h1] at hlp
      have hz : p < (listedAt l.length m).size := by simpa using h2
      rw [Array.getElem_setIfInBounds hz]
      simp [hlp]
  intro n
  induction n with
  | zero =>
    intro listed u x w hsz hlo hlp hu hn hb hp hcl
    have hall : ∀ j, j < m → listed.getD j false = true := fun j hj => by
      cases hq : listed.getD j false
      · have := List.length_pos_of_mem (hu j hj hq); omega
      · rfl
    have hl := hfin listed hsz hlo hlp hall
    subst hl
    exact wpAny_le (by omega) (hend x w hb (fun j hj => hp j hj (hall j hj)))
  | succ n ih =>
    intro listed u x w hsz hlo hlp hu hn hb hp hcl
    by_cases hex : ∃ j, j < m ∧ listed.getD j false = false
    · obtain ⟨j0, hj0, hf0, hlt0⟩ := least_false _ m hex
      have hun : ∀ j, j < m → listed.getD j false = false → listed.getD j true = false := fun j hj h => by
        have : j < listed.size := by omega
        simp [this] at h ⊢
        exact h
      obtain ⟨o0, ho0⟩ : ∃ o, l[j0]? = some o := ⟨l[j0]'(by omega), by simp⟩
      have hr0 : j0 ∈ Region.ready .any l.toArray listed := by
        refine mem_ready.2 ⟨hun j0 hj0 hf0, o0, by simpa using ho0, fun e he hbd => ?_⟩
        have h1 := hla j0 (by omega)
        rw [if_pos hj0, ho0] at h1
        simp only [Option.map_some, Option.getD_some, Array.all_eq_true_iff_forall_mem] at h1
        have h2 := h1 e he
        simp [hbd] at h2
        rcases h2 with h2 | h2
        · exact hlt0 e.on h2
        · rw [h2]; exact hlp
      refine ⟨fun h => absurd hr0 (by rw [h]; exact List.not_mem_nil), fun i hi => ?_⟩
      obtain ⟨hiu, oi, hoi, hia⟩ := mem_ready.1 hi
      have hoi' : l[i]? = some oi := by simpa using hoi
      have hil : i < l.length := (List.getElem?_eq_some_iff.1 hoi').1
      have hip : i ≠ p := fun e => by
        subst e
        have : i < listed.size := by omega
        simp [this] at hiu hlp
        rw [hlp] at hiu; cases hiu
      have him : i < m := by
        rcases Nat.lt_or_ge i m with h | h
        · exact h
        · have h1 := hla i hil
          rw [if_neg (Nat.not_lt.2 h)] at h1
          simp only [Bool.or_eq_true, decide_eq_true_eq, List.all_eq_true, List.mem_range, List.contains_iff_mem] at h1
          have h1 := h1.resolve_left hip
          have hdi : ∀ k, k ∈ depsOf l i → listed.getD k false = true := fun k hk => by
            obtain ⟨e, he, hbd, hon⟩ := deps_mem hoi' hk
            rw [← hon]; exact hia e he hbd
          have hlt : ∀ k, listed.getD k false = true → k < m ∨ k = p := fun k hk => by
            rcases Nat.lt_or_ge k m with h2 | h2
            · exact .inl h2
            · rcases Nat.decEq k p with hkp | hkp
              · rcases Nat.lt_or_ge k l.length with h3 | h3
                · have h4 := hlo k h2 h3 hkp
                  have h5 : k < listed.size := by omega
                  simp [h5] at hk h4
                  rw [h4] at hk; cases hk
                · have h5 : ¬ k < listed.size := by omega
                  simp [h5] at hk
              · exact .inr hkp
          have h2 := clos_listed l (fun k => listed.getD k false = true) (fun j hj k hk => by
            rcases hlt j hj with h6 | h6
            · exact hcl j h6 hj k hk
            · subst h6; rw [hdp0] at hk; cases hk) l.length (depsOf l i) hdi j0 (h1 j0 hj0)
          rw [hf0] at h2
          cases h2
      have hsi := StepsAt.get m l 0 hs i oi him hoi'
      rw [Nat.zero_add] at hsi
      have hif : listed.getD i false = false := by
        have : i < listed.size := by omega
        simp [this] at hiu ⊢
        exact hiu
      refine wpOp_mono (fun a' w' hk => ?_) (hsi.step x w hb (fun k hk => ?_))
      · obtain ⟨v, rfl, hb', hv⟩ := hk
        rw [hsi.put]
        refine ih (listed.setIfInBounds i true) (u.erase i) (upd x i v) w' (by simp [hsz]) (fun k h1 h2 h3 => ?_) ?_ (fun j hj hjf => ?_) ?_ (hb.trans (hb'.mono hb.size)) (fun j hj hjl => ?_) (fun j hj hjl k hk => ?_)
        · rw [getD_set_ne true (by omega)]; exact hlo k h1 h2 h3
        · rw [getD_set_ne false hip]; exact hlp
        · have hne : i ≠ j := fun e => by
            subst e
            simp [show i < listed.size by omega] at hjf
          rw [getD_set_ne false hne] at hjf
          exact (List.mem_erase_of_ne (Ne.symm hne)).2 (hu j hj hjf)
        · have := hu i him hif
          rw [List.length_erase_of_mem this]
          have := List.length_pos_of_mem this
          omega
        · rcases Nat.decEq i j with hne | rfl
          · rw [getD_set_ne false hne] at hjl
            rw [upd_ne _ _ _ _ (Ne.symm hne)]
            obtain ⟨oj, hoj⟩ : ∃ o, l[j]? = some o := ⟨l[j]'(by omega), by simp⟩
            have hsj := StepsAt.get m l 0 hs j oj hj hoj
            rw [Nat.zero_add] at hsj
            exact hsj.keep _ _ _ (hp j hj hjl) hb'
          · rw [upd_same]; exact hv
        · refine getD_set_true ?_
          rcases Nat.decEq i j with hne | rfl
          · rw [getD_set_ne false hne] at hjl
            exact hcl j hj hjl k hk
          · obtain ⟨e, he, hbd, hon⟩ := deps_mem hoi' hk
            rw [← hon]; exact hia e he hbd
      · obtain ⟨e, he, hbd, hon⟩ := waits_of hoi' hk
        have h2 := hia e he hbd
        rw [hon] at h2
        have hki : k < i := by
          have h1 := hla i hil
          rw [if_pos him, hoi'] at h1
          simp only [Option.map_some, Option.getD_some, Array.all_eq_true_iff_forall_mem] at h1
          have h3 := h1 e he
          simp [hbd] at h3
          rcases h3 with h3 | h3
          · omega
          · have h4 := hwait i him
            rw [← h3, hon] at h4
            rw [h4] at hk; cases hk
        exact hp k (by omega) h2
    · have hall : ∀ j, j < m → listed.getD j false = true := fun j hj => by
        cases hq : listed.getD j false
        · exact absurd ⟨j, hj, hq⟩ hex
        · rfl
      have hl := hfin listed hsz hlo hlp hall
      subst hl
      exact wpAny_le (by omega) (hend x w hb (fun j hj => hp j hj (hall j hj)))

/-- The rule: operation p is taken first, then those below m in any order. -/
theorem wp_region_relyP (m d p : Nat) (F : (Nat → Value) → Act) (Φ : Nat → Value → World → Prop) {id : Nat} {a : Act} {op : Oper} {vp : Value} (hN : l.length = m + d) (hp : l[p]? = some op) (ha : ∃ x0, a.put op.dst vp = F x0) (hm : P.follows .mixedOrders = true) (hlate : lateP l m p = true)
    (hsel : Region.noSelect l.toArray = true) (hf : Region.free .any l.toArray (Array.replicate l.length false) p = true) (hr : (Region.ready .any l.toArray (Array.replicate l.length false)).contains p = true)
    (hwt : Region.wanted op (yielded l.toArray a.tmps) = true) (hy : ∀ w, (execOp a.eval op).run P w = .ok (.value vp) w) (hwait : (List.range m).all (fun j => !waitsB .any l.toArray j p) = true)
    (hs : StepsAt P l Q F Φ w0 m l 0)
    (hend : ∀ x w, Below w0.heap.size w0 w → (∀ j, j < m → Φ j (x j) w) → wpAny P .any l.toArray (NoPanic Q) (d - 1) ((listedAt (m + d) m).setIfInBounds p true) (F x) w) : (Code.region id l.toArray true).wp P Q a w0 := by
  obtain ⟨x0, ha⟩ := ha
  refine wp_region_noPanic (wp_region_any hm ?_)
  have hl0 : 0 < l.length := by
    have := (List.getElem?_eq_some_iff.1 hp).1
    omega
  have hmp : m ≤ p := by
    simp only [lateP, Bool.and_eq_true, decide_eq_true_eq] at hlate
    exact hlate.1.1.1
  obtain ⟨n, hn⟩ : ∃ n, l.length = n + 1 := ⟨l.length - 1, by omega⟩
  have hsz : l.toArray.size = n + 1 := by simpa using hn
  rw [hsz]
  rw [hn] at hf hr
  refine AnyTill.any (m := l.length) (S := fun _ => True) _ _ _ _ ?_
  refine AnyTill.free (i := p) (v := vp) hp hsel ?_ hf hr (fun _ _ _ h => h) hwt hy trivial ?_
  · have := (List.getElem?_eq_some_iff.1 hp).1
    simp; omega
  rw [ha]
  have hps := (List.getElem?_eq_some_iff.1 hp).1
  refine AnyTill.of_any _ _ _ _ (rely_anyP m p hlate hs (fun j hj => ?_) (fun x w h1 h2 => ?_) n _ (List.range m) x0 _ (by simp [hn]) (fun k h1 h2 h3 => ?_) ?_ (fun j hj _ => List.mem_range.2 hj) (by simp; omega) (Below.refl _ _).drew (fun j hj h => ?_) (fun j hj h => ?_))
  · have := List.all_eq_true.1 hwait j (List.mem_range.2 hj)
    simpa using this
  · rw [hN, show m + d - m - 1 = d - 1 by omega]
    exact hend x w h1 h2
  · rw [getD_set_ne true (Ne.symm h3)]
    simp [show k < n + 1 by omega]
  · simp [show p < n + 1 by omega]
  · rw [getD_set_ne false (show p ≠ j by omega)] at h
    simp [show j < n + 1 by omega] at h
  · rw [getD_set_ne false (show p ≠ j by omega)] at h
    simp [show j < n + 1 by omega] at h
end
end Go.Proofs.Yteckenlbelgknaa
