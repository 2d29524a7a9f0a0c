/-
  The rule of Rel for a region whose operations, up to number m, change memory in a way that is told by a relation G of worlds, of no program.
-/
import Derived.Test.YtllncnnigjgadaaGreatMs
namespace Go.Proofs.YtllncnnigjgadaaGreat
open Go.RowKit

/-- What is asked of operation j. -/
structure StepG (P : Program) (l : List Oper) (Q : Exit → Act → World → Prop) (F : (Nat → Value) → Act) (Φ : Nat → (Nat → Value) → World → Prop) (G : World → World → Prop) (w0 : World) (j : Nat) (o : Oper) : Prop where
  keep : ∀ x i v w w', i ≠ j → i ∉ depsOf l j → Φ j x w → G w w' → Φ j (upd x i v) w'
  put : ∀ x v, (F x).put o.dst v = F (upd x j v)
  step : ∀ x w, G w0 w → (∀ k, waitsB .any l.toArray j k = true → Φ k x w) →
    wpOp P l.toArray (NoPanic Q) j (fun a' w' => ∃ v, a' = (F x).put o.dst v ∧ G w w' ∧ Φ j (upd x j v) w') (F x) w
def StepsG (P : Program) (l : List Oper) (Q : Exit → Act → World → Prop) (F : (Nat → Value) → Act) (Φ : Nat → (Nat → Value) → World → Prop) (G : World → World → Prop) (w0 : World) : Nat → List Oper → Nat → Prop
  | 0, _, _ => True
  | _ + 1, [], _ => True
  | n + 1, o :: r, j => StepG P l Q F Φ G w0 j o ∧ StepsG P l Q F Φ G w0 n r (j + 1)

section
variable {P : Program} {l : List Oper} {Q : Exit → Act → World → Prop} {F : (Nat → Value) → Act} {Φ : Nat → (Nat → Value) → World → Prop} {G : World → World → Prop} {w0 : World}
theorem StepsG.done {r : List Oper} {j : Nat} : StepsG P l Q F Φ G w0 0 r j := trivial
theorem StepsG.get : ∀ (n : Nat) (r : List Oper) (j : Nat), StepsG P l Q F Φ G w0 n r j → ∀ i o, i < n → r[i]? = some o → StepG P l Q F Φ G w0 (j + i) o
  | 0, _, _, _, i, _, hi, _ => by omega
  | n + 1, [], _, _, i, _, _, ho => by simp at ho
  | n + 1, o :: r, j, h, 0, o', _, ho => by simp at ho; subst ho; exact h.1
  | n + 1, o :: r, j, h, i + 1, o', hi, ho => by
    have := StepsG.get n r (j + 1) h.2 i o' (by omega) (by simpa using ho)
    rwa [show j + 1 + i = j + (i + 1) by omega] at this

theorem rely_anyG (m : Nat) (htr : ∀ a b c, G a b → G b c → G a c) (hlate : lateB2 l m = true) (hs : StepsG P l Q F Φ G w0 m l 0)
    (hend : ∀ x w, G w0 w → (∀ j, j < m → Φ j x w) → wpAny P .any l.toArray (NoPanic Q) (l.length - m) (listedAt l.length m) (F x) w) :
    ∀ (n : Nat) (listed : Array Bool) (u : List Nat) (x : Nat → Value) (w : World), listed.size = l.length → (∀ k, m ≤ k → k < l.length → listed.getD k true = false) → (∀ j, j < m → listed.getD j false = false → j ∈ u) →
      l.length - m + u.length ≤ n → G w0 w → (∀ j, j < m → listed.getD j false = true → Φ j x w) → (∀ j, j < m → listed.getD j false = true → ∀ k, k ∈ depsOf l j → listed.getD k false = true) → wpAny P .any l.toArray (NoPanic Q) n listed (F x) w := by
  simp only [lateB2, Bool.and_eq_true, decide_eq_true_eq, List.all_eq_true, List.mem_range] at hlate
  obtain ⟨hml, hla⟩ := hlate
  intro n
  induction n with
  | zero =>
    intro listed u x w hsz hlo hu hn hb hp hcl
    have hall : ∀ j, j < m → listed.getD j false = true := fun j hj => by
      cases hq : listed.getD j false
      · have := List.length_pos_of_mem (hu j hj hq); omega
      · rfl
    have hl : listed = listedAt l.length m := by
      refine Array.ext (by simp [listedAt, hsz]; omega) (fun i h1 h2 => ?_)
      rcases Nat.lt_or_ge i m with h | h
      · have := hall i h
        simp [h1] at this
        simp [listedAt, h, this]
      · have := hlo i h (by omega)
        simp [h1] at this
        simp [listedAt, List.getElem_append, Nat.not_lt.2 h, this]
    subst hl
    exact wpAny_le (by omega) (hend x w hb (fun j hj => hp j hj (hall j hj)))
  | succ n ih =>
    intro listed u x w hsz hlo hu hn hb hp hcl
    by_cases hex : ∃ j, j < m ∧ listed.getD j false = false
    · obtain ⟨j0, hj0, hf0, hlt0⟩ := least_false _ m hex
      have hun : ∀ j, j < m → listed.getD j false = false → listed.getD j true = false := fun j hj h => by
        have : j < listed.size := by omega
        simp [this] at h ⊢
        exact h
      obtain ⟨o0, ho0⟩ : ∃ o, l[j0]? = some o := ⟨l[j0]'(by omega), by simp⟩
      have hr0 : j0 ∈ Region.ready .any l.toArray listed := by
        refine mem_ready.2 ⟨hun j0 hj0 hf0, o0, by simpa using ho0, fun e he hbd => hlt0 e.on ?_⟩
        have h1 := hla j0 (by omega)
        rw [if_pos hj0, ho0] at h1
        simp only [Option.map_some, Option.getD_some, Array.all_eq_true_iff_forall_mem] at h1
        have h2 := h1 e he
        simp [hbd] at h2
        exact h2
      refine ⟨fun h => absurd hr0 (by rw [h]; exact List.not_mem_nil), fun i hi => ?_⟩
      obtain ⟨hiu, oi, hoi, hia⟩ := mem_ready.1 hi
      have hoi' : l[i]? = some oi := by simpa using hoi
      have hil : i < l.length := (List.getElem?_eq_some_iff.1 hoi').1
      have him : i < m := by
        rcases Nat.lt_or_ge i m with h | h
        · exact h
        · have h1 := hla i hil
          rw [if_neg (Nat.not_lt.2 h)] at h1
          simp only [List.all_eq_true, List.mem_range, List.contains_iff_mem] at h1
          have hdi : ∀ k, k ∈ depsOf l i → listed.getD k false = true := fun k hk => by
            obtain ⟨e, he, hbd, hon⟩ := deps_mem hoi' hk
            rw [← hon]; exact hia e he hbd
          have hlt : ∀ k, listed.getD k false = true → k < m := fun k hk => by
            rcases Nat.lt_or_ge k m with h2 | h2
            · exact h2
            · rcases Nat.lt_or_ge k l.length with h3 | h3
              · have h4 := hlo k h2 h3
                have h5 : k < listed.size := by omega
                simp [h5] at hk h4
                rw [h4] at hk; cases hk
              · have h5 : ¬ k < listed.size := by omega
                simp [h5] at hk
          have h2 := clos_listed l (fun k => listed.getD k false = true) (fun j hj k hk => hcl j (hlt j hj) hj k hk) l.length (depsOf l i) hdi j0 (h1 j0 hj0)
          rw [hf0] at h2
          cases h2
      have hsi := StepsG.get m l 0 hs i oi him hoi'
      rw [Nat.zero_add] at hsi
      have hif : listed.getD i false = false := by
        have : i < listed.size := by omega
        simp [this] at hiu ⊢
        exact hiu
      refine wpOp_mono (fun a' w' hk => ?_) (hsi.step x w hb (fun k hk => ?_))
      · obtain ⟨v, rfl, hb', hv⟩ := hk
        rw [hsi.put]
        refine ih (listed.setIfInBounds i true) (u.erase i) (upd x i v) w' (by simp [hsz]) (fun k h1 h2 => ?_) (fun j hj hjf => ?_) ?_ (htr _ _ _ hb hb') (fun j hj hjl => ?_) (fun j hj hjl k hk => ?_)
        · rw [getD_set_ne true (by omega)]; exact hlo k h1 h2
        · have hne : i ≠ j := fun e => by
            subst e
            simp [show i < listed.size by omega] at hjf
          rw [getD_set_ne false hne] at hjf
          exact (List.mem_erase_of_ne (Ne.symm hne)).2 (hu j hj hjf)
        · have := hu i him hif
          rw [List.length_erase_of_mem this]
          have := List.length_pos_of_mem this
          omega
        · rcases Nat.decEq i j with hne | rfl
          · rw [getD_set_ne false hne] at hjl
            obtain ⟨oj, hoj⟩ : ∃ o, l[j]? = some o := ⟨l[j]'(by omega), by simp⟩
            have hsj := StepsG.get m l 0 hs j oj hj hoj
            rw [Nat.zero_add] at hsj
            refine hsj.keep _ _ _ _ _ hne (fun hdi => ?_) (hp j hj hjl) hb'
            have h7 := hcl j hj hjl i hdi
            rw [hif] at h7
            cases h7
          · exact hv
        · refine getD_set_true ?_
          rcases Nat.decEq i j with hne | rfl
          · rw [getD_set_ne false hne] at hjl
            exact hcl j hj hjl k hk
          · obtain ⟨e, he, hbd, hon⟩ := deps_mem hoi' hk
            rw [← hon]; exact hia e he hbd
      · obtain ⟨e, he, hbd, hon⟩ := waits_of hoi' hk
        have h2 := hia e he hbd
        rw [hon] at h2
        have hki : k < i := by
          have h1 := hla i hil
          rw [if_pos him, hoi'] at h1
          simp only [Option.map_some, Option.getD_some, Array.all_eq_true_iff_forall_mem] at h1
          have h3 := h1 e he
          simp [hbd] at h3
          omega
        exact hp k (by omega) h2
    · have hall : ∀ j, j < m → listed.getD j false = true := fun j hj => by
        cases hq : listed.getD j false
        · exact absurd ⟨j, hj, hq⟩ hex
        · rfl
      have hl : listed = listedAt l.length m := by
        refine Array.ext (by simp [listedAt, hsz]; omega) (fun i h1 h2 => ?_)
        rcases Nat.lt_or_ge i m with h | h
        · have := hall i h
          simp [h1] at this
          simp [listedAt, h, this]
        · have := hlo i h (by omega)
          simp [h1] at this
          simp [listedAt, List.getElem_append, Nat.not_lt.2 h, this]
      subst hl
      exact wpAny_le (by omega) (hend x w hb (fun j hj => hp j hj (hall j hj)))

/-- The rule. -/
theorem wp_region_relyG (m d : Nat) (G : World → World → Prop) (F : (Nat → Value) → Act) (Φ : Nat → (Nat → Value) → World → Prop) {id : Nat} {a : Act} (hN : l.length = m + d) (ha : ∃ x0, a = F x0) (hdr : G w0 w0.drew) (htr : ∀ a b c, G a b → G b c → G a c) (hm : P.follows .mixedOrders = true) (hlate : lateB2 l m = true) (hs : StepsG P l Q F Φ G w0 m l 0)
    (hend : ∀ x w, G w0 w → (∀ j, j < m → Φ j x w) → wpAny P .any l.toArray (NoPanic Q) d (listedAt (m + d) m) (F x) w) : (Code.region id l.toArray true).wp P Q a w0 := by
  obtain ⟨x0, rfl⟩ := ha
  refine wp_region_noPanic (wp_region_any hm ?_)
  refine rely_anyG m htr hlate hs (fun x w h1 h2 => ?_) _ _ (List.range m) x0 _ (by simp) (fun k _ h => by simp [h]) (fun j hj _ => List.mem_range.2 hj) (by simp; omega) hdr (fun j hj h => ?_) (fun j hj h => ?_)
  · rw [hN, Nat.add_sub_cancel_left]
    exact hend x w h1 h2
  · have : j < l.length := by omega
    simp [this] at h
  · have : j < l.length := by omega
    simp [this] at h

theorem StepsG.consX (j : Nat) {n : Nat} {o : Oper} {r : List Oper} (hk : ∀ x i v w w', i ≠ j → i ∉ depsOf l j → Φ j x w → G w w' → Φ j (upd x i v) w') (hp : ∀ x v, (F x).put o.dst v = F (upd x j v)) (hg : o.guard = none) (ho : l[j]? = some o)
    (h : ∀ x w, G w0 w → (∀ k, waitsB .any l.toArray j k = true → Φ k x w) → ∀ K : Act → World → Prop, Shut (∀ v w', G w w' → Φ j (upd x j v) w' → K ((F x).put o.dst v) w') → Oper.wp P o (F x) w K (NoPanic Q))
    (hr : StepsG P l Q F Φ G w0 n r (j + 1)) : StepsG P l Q F Φ G w0 (n + 1) (o :: r) j := by
  refine ⟨⟨hk, hp, fun x w hb hd => ?_⟩, hr⟩
  unfold wpOp
  rw [show l.toArray[j]? = some o by simpa using ho]
  have hw : Region.wanted o (yielded l.toArray (F x).tmps) = true := by simp [Region.wanted, hg]
  simp only [hw, if_true]
  exact .inl (h x w hb hd _ fun v w' h1 h2 => ⟨v, rfl, h1, h2⟩)
theorem StepsG.cons (j : Nat) (φ : Value → World → Prop) {n : Nat} {o : Oper} {r : List Oper} (hΦ : Φ j = fun x w => φ (x j) w) (hk : ∀ v w w', φ v w → G w w' → φ v w') (hp : ∀ x v, (F x).put o.dst v = F (upd x j v)) (hg : o.guard = none) (ho : l[j]? = some o)
    (h : ∀ x w, G w0 w → (∀ k, waitsB .any l.toArray j k = true → Φ k x w) → ∀ K : Act → World → Prop, Shut (∀ v w', G w w' → φ v w' → K ((F x).put o.dst v) w') → Oper.wp P o (F x) w K (NoPanic Q))
    (hr : StepsG P l Q F Φ G w0 n r (j + 1)) : StepsG P l Q F Φ G w0 (n + 1) (o :: r) j := by
  refine StepsG.consX j (fun x i v w w' hi _ h1 h2 => ?_) hp hg ho (fun x w hb hd K hK => h x w hb hd K fun v w' h1 h2 => hK.out v w' h1 ?_) hr
  · rw [hΦ] at h1 ⊢
    simp only [upd_ne _ _ _ _ (Ne.symm hi)]
    exact hk _ _ _ h1 h2
  · rw [hΦ]
    simp only [upd_same]
    exact h2
theorem StepsG.val (j : Nat) (v : Value) {n : Nat} {o : Oper} {r : List Oper} (hrf : ∀ w, G w w) (hΦ : Φ j = fun x w => eqV v (x j) w) (hp : ∀ x v, (F x).put o.dst v = F (upd x j v)) (hg : o.guard = none) (ho : l[j]? = some o)
    (h : ∀ x w, G w0 w → (∀ k, waitsB .any l.toArray j k = true → Φ k x w) → (execOp (F x).eval o).run P w = .ok (.value v) w)
    (hr : StepsG P l Q F Φ G w0 n r (j + 1)) : StepsG P l Q F Φ G w0 (n + 1) (o :: r) j := by
  refine StepsG.cons j (eqV v) hΦ (fun u w w' h1 _ => h1) hp hg ho (fun x w hb hd K hK => ?_) hr
  unfold Oper.wp
  rw [h x w hb hd]
  exact hK.out v w (hrf w) rfl
end

/-- New memory, and the bytes r laid into new arrays of 32 bytes that are zero. -/
structure LayG (z : List Value) (t : TypeId) (b : Nat) (r : List Value) (w w' : World) : Prop where
  below : Below b w w'
  done : ∀ g, Blk w g r t → Blk w' g r t
  zero : ∀ g, b ≤ g → Blk w g z t → Blk w' g z t ∨ Blk w' g r t
theorem LayG.refl (z : List Value) (t : TypeId) (b : Nat) (r : List Value) (w : World) : LayG z t b r w w := ⟨Below.refl _ _, fun _ h => h, fun _ _ h => .inl h⟩
theorem LayG.drew (z : List Value) (t : TypeId) (b : Nat) (r : List Value) (w : World) : LayG z t b r w w.drew := ⟨(Below.refl _ _).drew, fun _ h => h, fun _ _ h => .inl h⟩
theorem LayG.trans {z : List Value} {t : TypeId} {b : Nat} {r : List Value} {w w' w'' : World} (h : LayG z t b r w w') (k : LayG z t b r w' w'') : LayG z t b r w w'' :=
  ⟨h.below.trans k.below, fun g hg => k.done g (h.done g hg), fun g hb hg => by
    rcases h.zero g hb hg with h1 | h1
    · exact k.zero g hb h1
    · exact .inr (k.done g h1)⟩
theorem LayG.grow {z : List Value} {t : TypeId} {b : Nat} {r : List Value} {w w' : World} (h : Below w.heap.size w w') (hb : b ≤ w.heap.size) : LayG z t b r w w' := ⟨h.mono hb, fun _ hg => hg.below h hg.lt, fun _ _ hg => .inl (hg.below h hg.lt)⟩
theorem LayG.lay {z : List Value} {t : TypeId} {b : Nat} {r : List Value} {w : World} {g : Nat} (hb : b ≤ g) (hg : Blk w g z t ∨ Blk w g r t) : LayG z t b r w (w.setRow g r.toArray) := by
  refine ⟨below_setRow' (Below.refl _ _) hb _, fun k hk => ?_, fun k _ hk => ?_⟩
  · by_cases e : k = g
    · subst e; exact hk.setRow
    · exact hk.setRowOther e
  · by_cases e : k = g
    · subst e
      exact .inr hk.setRow
    · exact .inl (hk.setRowOther e)
/-- A new array, zero or laid. -/
def NewG (z : List Value) (t : TypeId) (b : Nat) (r : List Value) : Value → World → Prop := fun v w => ∃ g, v = .pointer (some ⟨g, 0, none⟩) ∧ b ≤ g ∧ (Blk w g z t ∨ Blk w g r t)
theorem NewG.keep {z : List Value} {t : TypeId} {b : Nat} {r : List Value} {v : Value} {w w' : World} (h : NewG z t b r v w) (hg : LayG z t b r w w') : NewG z t b r v w' := by
  obtain ⟨g, hv, hb, h1 | h1⟩ := h
  · exact ⟨g, hv, hb, hg.zero g hb h1⟩
  · exact ⟨g, hv, hb, .inr (hg.done g h1)⟩
end Go.Proofs.YtllncnnigjgadaaGreat
