/-
  A region whose order is left open and whose operations, up to number m, only make new memory, of no program: each operation meets what it says of its value wherever those that it waits for have met theirs, and so all have when the last ones (number m and above, which wait for all others) come up, whatever the order was.
-/
import Derived.Test.YtejeefkoalbcmaaUnt
namespace Go.Proofs.Ytejeefkoalbcmaa
open Go.RowKit

/-- The values, with another one for number j. -/
def upd (x : Nat → Value) (j : Nat) (v : Value) : Nat → Value := fun k => if k = j then v else x k
theorem upd_same (x : Nat → Value) (j : Nat) (v : Value) : upd x j v j = v := by simp [upd]
theorem upd_ne (x : Nat → Value) (j k : Nat) (v : Value) (h : k ≠ j) : upd x j v k = x k := by simp [upd, h]

/-- Those below number m wait for lesser ones alone; those from m on wait for all below m. -/
def lateB (l : List Oper) (m : Nat) : Bool :=
  decide (m ≤ l.length) && (List.range l.length).all fun j =>
    if j < m then ((l[j]?).map fun o => o.after.all fun e => !Region.binds .any e || decide (e.on < j)).getD false else (List.range m).all fun k => waitsB .any l.toArray j k
/-- All below number m have come up. -/
def listedAt (n m : Nat) : Array Bool := (List.replicate m true ++ List.replicate (n - m) false).toArray

theorem wpAny_more {P : Program} {ops : Array Oper} {Q : Exit → Act → World → Prop} {md : Region.Mode} : ∀ (n : Nat) (listed : Array Bool) (a : Act) (w : World), wpAny P md ops Q n listed a w → wpAny P md ops Q (n + 1) listed a w
  | 0, _, _, _, h => ⟨fun _ => h.2, fun i hi => by rw [h.1] at hi; exact absurd hi List.not_mem_nil⟩
  | n + 1, _, _, _, h => ⟨h.1, fun i hi => wpOp_mono (fun a' w' h' => wpAny_more n _ a' w' h') (h.2 i hi)⟩
theorem wpAny_le {P : Program} {ops : Array Oper} {Q : Exit → Act → World → Prop} {md : Region.Mode} {n k : Nat} {listed : Array Bool} {a : Act} {w : World} (hk : n ≤ k) (h : wpAny P md ops Q n listed a w) : wpAny P md ops Q k listed a w := by
  induction k with
  | zero => rwa [show n = 0 by omega] at h
  | succ k ih =>
    rcases Nat.lt_or_ge k n with h1 | h1
    · rwa [show n = k + 1 by omega] at h
    · exact wpAny_more _ _ _ _ (ih h1)

/-- What is asked of operation j. -/
structure StepAt (P : Program) (l : List Oper) (Q : Exit → Act → World → Prop) (F : (Nat → Value) → Act) (Φ : Nat → Value → World → Prop) (w0 : World) (j : Nat) (o : Oper) : Prop where
  keep : ∀ v w w', Φ j v w → Below w.heap.size w w' → Φ j v w'
  put : ∀ x v, (F x).put o.dst v = F (upd x j v)
  step : ∀ x w, Below w0.heap.size w0 w → (∀ k, waitsB .any l.toArray j k = true → Φ k (x k) w) →
    wpOp P l.toArray (NoPanic Q) j (fun a' w' => ∃ v, a' = (F x).put o.dst v ∧ Below w.heap.size w w' ∧ Φ j v w') (F x) w

def StepsAt (P : Program) (l : List Oper) (Q : Exit → Act → World → Prop) (F : (Nat → Value) → Act) (Φ : Nat → Value → World → Prop) (w0 : World) : Nat → List Oper → Nat → Prop
  | 0, _, _ => True
  | _ + 1, [], _ => True
  | n + 1, o :: r, j => StepAt P l Q F Φ w0 j o ∧ StepsAt P l Q F Φ w0 n r (j + 1)

section
variable {P : Program} {l : List Oper} {Q : Exit → Act → World → Prop} {F : (Nat → Value) → Act} {Φ : Nat → Value → World → Prop} {w0 : World}
theorem StepsAt.done {r : List Oper} {j : Nat} : StepsAt P l Q F Φ w0 0 r j := trivial
theorem StepsAt.get : ∀ (n : Nat) (r : List Oper) (j : Nat), StepsAt P l Q F Φ w0 n r j → ∀ i o, i < n → r[i]? = some o → StepAt P l Q F Φ w0 (j + i) o
  | 0, _, _, _, i, _, hi, _ => by omega
  | n + 1, [], _, _, i, _, _, ho => by simp at ho
  | n + 1, o :: r, j, h, 0, o', _, ho => by simp at ho; subst ho; exact h.1
  | n + 1, o :: r, j, h, i + 1, o', hi, ho => by
    have := StepsAt.get n r (j + 1) h.2 i o' (by omega) (by simpa using ho)
    rwa [show j + 1 + i = j + (i + 1) by omega] at this

theorem waits_of {j : Nat} {o : Oper} (hoj : l[j]? = some o) {k : Nat} (h : waitsB .any l.toArray j k = true) : ∃ e ∈ o.after, Region.binds .any e = true ∧ e.on = k := by
  unfold waitsB at h
  rw [show l.toArray[j]? = some o by simpa using hoj] at h
  obtain ⟨e, he, hb⟩ := Array.any_eq_true'.1 h
  simp only [Bool.and_eq_true, beq_iff_eq] at hb
  exact ⟨e, he, hb.1, hb.2⟩

theorem least_false (f : Nat → Bool) : ∀ m, (∃ j, j < m ∧ f j = false) → ∃ j, j < m ∧ f j = false ∧ ∀ k, k < j → f k = true
  | 0, h => by obtain ⟨j, hj, _⟩ := h; omega
  | m + 1, h => by
    by_cases h1 : ∃ j, j < m ∧ f j = false
    · obtain ⟨j, hj, h2⟩ := least_false f m h1
      exact ⟨j, by omega, h2⟩
    · obtain ⟨j, hj, hf⟩ := h
      have hjm : j = m := by
        rcases Nat.lt_or_ge j m with h2 | h2
        · exact absurd ⟨j, h2, hf⟩ h1
        · omega
      subst hjm
      refine ⟨j, hj, hf, fun k hk => ?_⟩
      cases hq : f k
      · exact absurd ⟨k, hk, hq⟩ h1
      · rfl

theorem rely_any (m : Nat) (hlate : lateB l m = true) (hs : StepsAt P l Q F Φ w0 m l 0)
    (hend : ∀ x w, Below w0.heap.size w0 w → (∀ j, j < m → Φ j (x j) w) → wpAny P .any l.toArray (NoPanic Q) (l.length - m) (listedAt l.length m) (F x) w) :
    ∀ (n : Nat) (listed : Array Bool) (u : List Nat) (x : Nat → Value) (w : World), listed.size = l.length → (∀ k, m ≤ k → k < l.length → listed.getD k true = false) → (∀ j, j < m → listed.getD j false = false → j ∈ u) →
      l.length - m + u.length ≤ n → Below w0.heap.size w0 w → (∀ j, j < m → listed.getD j false = true → Φ j (x j) w) → wpAny P .any l.toArray (NoPanic Q) n listed (F x) w := by
  simp only [lateB, Bool.and_eq_true, decide_eq_true_eq, List.all_eq_true, List.mem_range] at hlate
  obtain ⟨hml, hla⟩ := hlate
  intro n
  induction n with
  | zero =>
    intro listed u x w hsz hlo hu hn hb hp
    have hall : ∀ j, j < m → listed.getD j false = true := fun j hj => by
      cases hq : listed.getD j false
      · have := List.length_pos_of_mem (hu j hj hq); omega
      · rfl
    have hl : listed = listedAt l.length m := by
      refine Array.ext (by simp [listedAt, hsz]; omega) (fun i h1 h2 => ?_)
      rcases Nat.lt_or_ge i m with h | h
      · have := hall i h
        simp [h1] at this
        simp [listedAt, h, this]
      · have := hlo i h (by omega)
        simp [h1] at this
        simp [listedAt, List.getElem_append, Nat.not_lt.2 h, this]
    subst hl
    exact wpAny_le (by omega) (hend x w hb (fun j hj => hp j hj (hall j hj)))
  | succ n ih =>
    intro listed u x w hsz hlo hu hn hb hp
    by_cases hex : ∃ j, j < m ∧ listed.getD j false = false
    · obtain ⟨j0, hj0, hf0, hlt0⟩ := least_false _ m hex
      have hun : ∀ j, j < m → listed.getD j false = false → listed.getD j true = false := fun j hj h => by
        have : j < listed.size := by omega
        simp [this] at h ⊢
        exact h
      obtain ⟨o0, ho0⟩ : ∃ o, l[j0]? = some o := ⟨l[j0]'(by omega), by simp⟩
      have hr0 : j0 ∈ Region.ready .any l.toArray listed := by
        refine mem_ready.2 ⟨hun j0 hj0 hf0, o0, by simpa using ho0, fun e he hbd => hlt0 e.on ?_⟩
        have h1 := hla j0 (by omega)
        rw [if_pos hj0, ho0] at h1
        simp only [Option.map_some, Option.getD_some, Array.all_eq_true_iff_forall_mem] at h1
        have h2 := h1 e he
        simp [hbd] at h2
        exact h2
      refine ⟨fun h => absurd hr0 (by rw [h]; exact List.not_mem_nil), fun i hi => ?_⟩
      obtain ⟨hiu, oi, hoi, hia⟩ := mem_ready.1 hi
      have hoi' : l[i]? = some oi := by simpa using hoi
      have hil : i < l.length := (List.getElem?_eq_some_iff.1 hoi').1
      have him : i < m := by
        rcases Nat.lt_or_ge i m with h | h
        · exact h
        · have h1 := hla i hil
          rw [if_neg (Nat.not_lt.2 h)] at h1
          simp only [List.all_eq_true, List.mem_range] at h1
          obtain ⟨e, he, hbd, hon⟩ := waits_of hoi' (h1 j0 hj0)
          have h2 := hia e he hbd
          rw [hon, hf0] at h2
          cases h2
      have hsi := StepsAt.get m l 0 hs i oi him hoi'
      rw [Nat.zero_add] at hsi
      have hif : listed.getD i false = false := by
        have : i < listed.size := by omega
        simp [this] at hiu ⊢
        exact hiu
      refine wpOp_mono (fun a' w' hk => ?_) (hsi.step x w hb (fun k hk => ?_))
      · obtain ⟨v, rfl, hb', hv⟩ := hk
        rw [hsi.put]
        refine ih (listed.setIfInBounds i true) (u.erase i) (upd x i v) w' (by simp [hsz]) (fun k h1 h2 => ?_) (fun j hj hjf => ?_) ?_ (hb.trans (hb'.mono hb.size)) (fun j hj hjl => ?_)
        · rw [getD_set_ne true (by omega)]; exact hlo k h1 h2
        · have hne : i ≠ j := fun e => by
            subst e
            simp [show i < listed.size by omega] at hjf
          rw [getD_set_ne false hne] at hjf
          exact (List.mem_erase_of_ne (Ne.symm hne)).2 (hu j hj hjf)
        · have := hu i him hif
          rw [List.length_erase_of_mem this]
          have := List.length_pos_of_mem this
          omega
        · rcases Nat.decEq i j with hne | rfl
          · rw [getD_set_ne false hne] at hjl
            rw [upd_ne _ _ _ _ (Ne.symm hne)]
            obtain ⟨oj, hoj⟩ : ∃ o, l[j]? = some o := ⟨l[j]'(by omega), by simp⟩
            have hsj := StepsAt.get m l 0 hs j oj hj hoj
            rw [Nat.zero_add] at hsj
            exact hsj.keep _ _ _ (hp j hj hjl) hb'
          · rw [upd_same]; exact hv
      · obtain ⟨e, he, hbd, hon⟩ := waits_of hoi' hk
        have h2 := hia e he hbd
        rw [hon] at h2
        have hki : k < i := by
          have h1 := hla i hil
          rw [if_pos him, hoi'] at h1
          simp only [Option.map_some, Option.getD_some, Array.all_eq_true_iff_forall_mem] at h1
          have h3 := h1 e he
          simp [hbd] at h3
          omega
        exact hp k (by omega) h2
    · have hall : ∀ j, j < m → listed.getD j false = true := fun j hj => by
        cases hq : listed.getD j false
        · exact absurd ⟨j, hj, hq⟩ hex
        · rfl
      have hl : listed = listedAt l.length m := by
        refine Array.ext (by simp [listedAt, hsz]; omega) (fun i h1 h2 => ?_)
        rcases Nat.lt_or_ge i m with h | h
        · have := hall i h
          simp [h1] at this
          simp [listedAt, h, this]
        · have := hlo i h (by omega)
          simp [h1] at this
          simp [listedAt, List.getElem_append, Nat.not_lt.2 h, this]
      subst hl
      exact wpAny_le (by omega) (hend x w hb (fun j hj => hp j hj (hall j hj)))

/-- The rule. -/
theorem wp_region_rely (m : Nat) (F : (Nat → Value) → Act) (x0 : Nat → Value) (Φ : Nat → Value → World → Prop) {id : Nat} {a : Act} (ha : a = F x0) (hm : P.follows .mixedOrders = true) (hlate : lateB l m = true) (hs : StepsAt P l Q F Φ w0 m l 0)
    (hend : ∀ x w, Below w0.heap.size w0 w → (∀ j, j < m → Φ j (x j) w) → wpAny P .any l.toArray (NoPanic Q) (l.length - m) (listedAt l.length m) (F x) w) : (Code.region id l.toArray true).wp P Q a w0 := by
  subst ha
  have hml : m ≤ l.length := by
    simp only [lateB, Bool.and_eq_true, decide_eq_true_eq] at hlate
    exact hlate.1
  refine wp_region_noPanic (wp_region_any hm ?_)
  refine rely_any m hlate hs hend _ _ (List.range m) x0 _ (by simp) (fun k _ h => by simp [h]) (fun j hj _ => List.mem_range.2 hj) (by simp; omega) (Below.refl _ _).drew (fun j hj h => ?_)
  have : j < l.length := by omega
  simp [this] at h

theorem StepsAt.cons (j : Nat) {n : Nat} {o : Oper} {r : List Oper} (hk : ∀ v w w', Φ j v w → Below w.heap.size w w' → Φ j v w') (hp : ∀ x v, (F x).put o.dst v = F (upd x j v)) (hg : o.guard = none) (ho : l[j]? = some o)
    (h : ∀ x w, Below w0.heap.size w0 w → (∀ k, waitsB .any l.toArray j k = true → Φ k (x k) w) → ∀ K : Act → World → Prop, Shut (∀ v w', Below w.heap.size w w' → Φ j v w' → K ((F x).put o.dst v) w') → Oper.wp P o (F x) w K (NoPanic Q))
    (hr : StepsAt P l Q F Φ w0 n r (j + 1)) : StepsAt P l Q F Φ w0 (n + 1) (o :: r) j := by
  refine ⟨⟨hk, hp, fun x w hb hd => ?_⟩, hr⟩
  unfold wpOp
  rw [show l.toArray[j]? = some o by simpa using ho]
  have hw : Region.wanted o (yielded l.toArray (F x).tmps) = true := by simp [Region.wanted, hg]
  simp only [hw, if_true]
  exact .inl (h x w hb hd _ fun v w' h1 h2 => ⟨v, rfl, h1, h2⟩)

/-- The value is this one. -/
def eqV (v : Value) : Value → World → Prop := fun u _ => u = v
/-- An operation that yields its value and leaves the world. -/
theorem StepsAt.val (j : Nat) (v : Value) {n : Nat} {o : Oper} {r : List Oper} (hΦ : Φ j = eqV v) (hp : ∀ x v, (F x).put o.dst v = F (upd x j v)) (hg : o.guard = none) (ho : l[j]? = some o)
    (h : ∀ x w, Below w0.heap.size w0 w → (∀ k, waitsB .any l.toArray j k = true → Φ k (x k) w) → (execOp (F x).eval o).run P w = .ok (.value v) w)
    (hr : StepsAt P l Q F Φ w0 n r (j + 1)) : StepsAt P l Q F Φ w0 (n + 1) (o :: r) j := by
  refine StepsAt.cons j (fun u w w' h1 _ => ?_) hp hg ho (fun x w hb hd K hK => ?_) hr
  · rw [hΦ] at h1 ⊢; exact h1
  · unfold Oper.wp
    rw [h x w hb hd]
    exact hK.out v w (Below.refl _ _) (by rw [hΦ]; rfl)

/-- The rule, the numbers as literals; the values ahead are any. -/
theorem wp_region_rely2 (m d : Nat) (F : (Nat → Value) → Act) (Φ : Nat → Value → World → Prop) {id : Nat} {a : Act} (hN : l.length = m + d) (ha : ∃ x0, a = F x0) (hm : P.follows .mixedOrders = true) (hlate : lateB l m = true) (hs : StepsAt P l Q F Φ w0 m l 0)
    (hend : ∀ x w, Below w0.heap.size w0 w → (∀ j, j < m → Φ j (x j) w) → wpAny P .any l.toArray (NoPanic Q) d (listedAt (m + d) m) (F x) w) : (Code.region id l.toArray true).wp P Q a w0 := by
  obtain ⟨x0, ha⟩ := ha
  refine wp_region_rely m F x0 Φ ha hm hlate hs (fun x w h1 h2 => ?_)
  rw [hN, Nat.add_sub_cancel_left]
  exact hend x w h1 h2
end
end Go.Proofs.Ytejeefkoalbcmaa
