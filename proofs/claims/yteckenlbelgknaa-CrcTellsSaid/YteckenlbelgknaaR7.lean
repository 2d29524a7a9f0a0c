/-
  The rule for a region whose order is open, where a store waits for some, not all, of the others: those that it doesn't wait for read no memory, and are taken as soon as they can be. Words of no program.
-/
import Derived.Test.YteckenlbelgknaaR6
namespace Go.Proofs.Yteckenlbelgknaa
open Go.RowKit

/-- What is done by the time that number p can be: what it waits for. -/
def lstF (l : List Oper) (p : Nat) : Array Bool := ((List.range l.length).map fun j => (depsOf l p).contains j).toArray
theorem lstF_at (l : List Oper) (p j : Nat) (hj : j < l.length) (h : j ∉ depsOf l p) : (lstF l p).getD j true = false := by
  unfold lstF
  simp [hj, h]
def lateF (l : List Oper) (m : Nat) (pu : List Nat) : Bool :=
  decide (m ≤ l.length) && (pu.all fun p => decide (p < m) && Region.free .any l.toArray (lstF l p) p) && (List.range l.length).all fun j =>
    if j < m then ((l[j]?).map fun o => o.after.all fun e => !Region.binds .any e || decide (e.on < j)).getD false
    else (List.range m).all fun k => (clos l l.length (depsOf l j)).contains k || (pu.contains k && (depsOf l k).all fun q => (clos l l.length (depsOf l j)).contains q)

section
variable {P : Program} {l : List Oper} {Q : Exit → Act → World → Prop} {F : (Nat → Value) → Act} {Φ : Nat → Value → World → Prop} {w0 : World}
/-- An operation that reads no memory: its value hangs on what it waits for alone. -/
def PureAt (P : Program) (l : List Oper) (F : (Nat → Value) → Act) (Φ : Nat → Value → World → Prop) (p : Nat) : Prop :=
  ∀ op, l[p]? = some op → ∀ x w, (∀ k, waitsB .any l.toArray p k = true → Φ k (x k) w) → Region.wanted op (yielded l.toArray (F x).tmps) = true ∧ ∃ v, (∀ w', (execOp (F x).eval op).run P w' = .ok (.value v) w') ∧ Φ p v w
theorem rely_anyF (m : Nat) (pu : List Nat) (hlate : lateF l m pu = true) (hsel : Region.noSelect l.toArray = true) (hs : StepsAt P l Q F Φ w0 m l 0) (hpu : ∀ p ∈ pu, PureAt P l F Φ p)
    (hend : ∀ x w, Below w0.heap.size w0 w → (∀ j, j < m → Φ j (x j) w) → wpAny P .any l.toArray (NoPanic Q) (l.length - m) (listedAt l.length m) (F x) w) :
    ∀ (n : Nat) (listed : Array Bool) (u : List Nat) (x : Nat → Value) (w : World), listed.size = l.length → (∀ k, m ≤ k → k < l.length → listed.getD k true = false) → (∀ j, j < m → listed.getD j false = false → j ∈ u) →
      l.length - m + u.length ≤ n → Below w0.heap.size w0 w → (∀ j, j < m → listed.getD j false = true → Φ j (x j) w) → (∀ j, j < m → listed.getD j false = true → ∀ k, k ∈ depsOf l j → listed.getD k false = true) → wpAny P .any l.toArray (NoPanic Q) n listed (F x) w := by
  simp only [lateF, Bool.and_eq_true, decide_eq_true_eq, List.all_eq_true, List.mem_range] at hlate
  obtain ⟨⟨hml, hpf⟩, hla⟩ := hlate
  intro n
  induction n with
  | zero =>
    intro listed u x w hsz hlo hu hn hb hp hcl
    have hall : ∀ j, j < m → listed.getD j false = true := fun j hj => by
      cases hq : listed.getD j false
      · have := List.length_pos_of_mem (hu j hj hq); omega
      · rfl
    have hl : listed = listedAt l.length m := by
      refine Array.ext (by simp [listedAt, hsz]; omega) (fun i h1 h2 => ?_)
      rcases Nat.lt_or_ge i m with h | h
      · have := hall i h
        simp [h1] at this
        simp [listedAt, h, this]
      · have := hlo i h (by omega)
        simp [h1] at this
        simp [listedAt, List.getElem_append, Nat.not_lt.2 h, this]
    subst hl
    exact wpAny_le (by omega) (hend x w hb (fun j hj => hp j hj (hall j hj)))
  | succ n ih =>
    intro listed u x w hsz hlo hu hn hb hp hcl
    have hun : ∀ j, j < m → listed.getD j false = false → listed.getD j true = false := fun j hj h => by
      have : j < listed.size := by omega
      simp [this] at h ⊢
      exact h
    -- what is known behind one of them
    have hnext : ∀ i oi v w', i < m → l[i]? = some oi → listed.getD i false = false → (∀ k, k ∈ depsOf l i → listed.getD k false = true) → Below w.heap.size w w' → Φ i v w' → wpAny P .any l.toArray (NoPanic Q) n (listed.setIfInBounds i true) ((F x).put oi.dst v) w' := by
      intro i oi v w' him hoi' hif hia hb' hv
      have hsi := StepsAt.get m l 0 hs i oi him hoi'
      rw [Nat.zero_add] at hsi
      rw [hsi.put]
      refine ih (listed.setIfInBounds i true) (u.erase i) (upd x i v) w' (by simp [hsz]) (fun k h1 h2 => ?_) (fun j hj hjf => ?_) ?_ (hb.trans (hb'.mono hb.size)) (fun j hj hjl => ?_) (fun j hj hjl k hk => ?_)
      · rw [getD_set_ne true (by omega)]; exact hlo k h1 h2
      · have hne : i ≠ j := fun e => by
          subst e
          simp [show i < listed.size by omega] at hjf
        rw [getD_set_ne false hne] at hjf
        exact (List.mem_erase_of_ne (Ne.symm hne)).2 (hu j hj hjf)
      · have := hu i him hif
        rw [List.length_erase_of_mem this]
        have := List.length_pos_of_mem this
        omega
      · rcases Nat.decEq i j with hne | rfl
        · rw [getD_set_ne false hne] at hjl
          rw [upd_ne _ _ _ _ (Ne.symm hne)]
          obtain ⟨oj, hoj⟩ : ∃ o, l[j]? = some o := ⟨l[j]'(by omega), by simp⟩
          have hsj := StepsAt.get m l 0 hs j oj hj hoj
          rw [Nat.zero_add] at hsj
          exact hsj.keep _ _ _ (hp j hj hjl) hb'
        · rw [upd_same]; exact hv
      · refine getD_set_true ?_
        rcases Nat.decEq i j with hne | rfl
        · rw [getD_set_ne false hne] at hjl
          exact hcl j hj hjl k hk
        · exact hia k hk
    have hwb : ∀ i oi, i < m → l[i]? = some oi → (∀ e ∈ oi.after, Region.binds .any e = true → listed.getD e.on false = true) → ∀ k, waitsB .any l.toArray i k = true → Φ k (x k) w := by
      intro i oi him hoi' hia k hk
      obtain ⟨e, he, hbd, hon⟩ := waits_of hoi' hk
      have h2 := hia e he hbd
      rw [hon] at h2
      have hki : k < i := by
        have h1 := hla i (by omega)
        rw [if_pos him, hoi'] at h1
        simp only [Option.map_some, Option.getD_some, Array.all_eq_true_iff_forall_mem] at h1
        have h3 := h1 e he
        simp [hbd] at h3
        omega
      exact hp k (by omega) h2
    by_cases hpx : ∃ p, p ∈ pu ∧ listed.getD p false = false ∧ p ∈ Region.ready .any l.toArray listed
    · obtain ⟨p, hp1, hp2, hp3⟩ := hpx
      have hpm : p < m := (hpf p hp1).1
      obtain ⟨hiu, oi, hoi, hia⟩ := mem_ready.1 hp3
      have hoi' : l[p]? = some oi := by simpa using hoi
      obtain ⟨hwt, v, hv, hΦ⟩ := hpu p hp1 oi hoi' x w (hwb p oi hpm hoi' hia)
      refine AnyTill.any (m := l.length) (S := fun _ => True) _ _ _ _ ?_
      refine AnyTill.firstFree hoi hsel (by omega) (fun _ _ _ h => h) n listed (F x) w (fun j oj hj hne hjl hw => ?_) hp3 (.inl ⟨hwt, fun w' _ => hv w'⟩) (.inr trivial) (AnyTill.of_any _ _ _ _ (hnext p oi v w hpm hoi' hp2 (fun k hk => ?_) (Below.refl _ _) hΦ))
      · refine Region.free_spec hoi (hpf p hp1).2 j oj hj hne ?_ hw
        have hjl2 : j < l.length := by
          have := (Array.getElem?_eq_some_iff.1 hj).1
          simpa using this
        refine lstF_at l p j hjl2 (fun hjd => ?_)
        obtain ⟨e, he, hbd, hon⟩ := deps_mem hoi' hjd
        have h9 := hia e he hbd
        rw [hon] at h9
        have h8 : j < listed.size := by omega
        simp [h8] at hjl h9
        rw [h9] at hjl; cases hjl
      · obtain ⟨e, he, hbd, hon⟩ := deps_mem hoi' hk
        rw [← hon]; exact hia e he hbd
    by_cases hex : ∃ j, j < m ∧ listed.getD j false = false
    · obtain ⟨j0, hj0, hf0, hlt0⟩ := least_false _ m hex
      obtain ⟨o0, ho0⟩ : ∃ o, l[j0]? = some o := ⟨l[j0]'(by omega), by simp⟩
      have hr0 : j0 ∈ Region.ready .any l.toArray listed := by
        refine mem_ready.2 ⟨hun j0 hj0 hf0, o0, by simpa using ho0, fun e he hbd => hlt0 e.on ?_⟩
        have h1 := hla j0 (by omega)
        rw [if_pos hj0, ho0] at h1
        simp only [Option.map_some, Option.getD_some, Array.all_eq_true_iff_forall_mem] at h1
        have h2 := h1 e he
        simp [hbd] at h2
        exact h2
      refine ⟨fun h => absurd hr0 (by rw [h]; exact List.not_mem_nil), fun i hi => ?_⟩
      obtain ⟨hiu, oi, hoi, hia⟩ := mem_ready.1 hi
      have hoi' : l[i]? = some oi := by simpa using hoi
      have hil : i < l.length := (List.getElem?_eq_some_iff.1 hoi').1
      have him : i < m := by
        rcases Nat.lt_or_ge i m with h | h
        · exact h
        · have h1 := hla i hil
          rw [if_neg (Nat.not_lt.2 h)] at h1
          simp only [List.all_eq_true, List.mem_range, Bool.or_eq_true, Bool.and_eq_true, List.contains_iff_mem] at h1
          have hdi : ∀ k, k ∈ depsOf l i → listed.getD k false = true := fun k hk => by
            obtain ⟨e, he, hbd, hon⟩ := deps_mem hoi' hk
            rw [← hon]; exact hia e he hbd
          have hlt : ∀ k, listed.getD k false = true → k < m := fun k hk => by
            rcases Nat.lt_or_ge k m with h2 | h2
            · exact h2
            · rcases Nat.lt_or_ge k l.length with h3 | h3
              · have h4 := hlo k h2 h3
                have h5 : k < listed.size := by omega
                simp [h5] at hk h4
                rw [h4] at hk; cases hk
              · have h5 : ¬ k < listed.size := by omega
                simp [h5] at hk
          have hcs := clos_listed l (fun k => listed.getD k false = true) (fun j hj k hk => hcl j (hlt j hj) hj k hk) l.length (depsOf l i) hdi
          rcases h1 j0 hj0 with h2 | ⟨h2, h3⟩
          · have h4 := hcs j0 h2
            rw [hf0] at h4
            cases h4
          · exact absurd ⟨j0, h2, hf0, hr0⟩ hpx
      have hsi := StepsAt.get m l 0 hs i oi him hoi'
      rw [Nat.zero_add] at hsi
      have hif : listed.getD i false = false := by
        have : i < listed.size := by omega
        simp [this] at hiu ⊢
        exact hiu
      refine wpOp_mono (fun a' w' hk => ?_) (hsi.step x w hb (hwb i oi him hoi' hia))
      obtain ⟨v, rfl, hb', hv⟩ := hk
      refine hnext i oi v w' him hoi' hif (fun k hk => ?_) hb' hv
      obtain ⟨e, he, hbd, hon⟩ := deps_mem hoi' hk
      rw [← hon]; exact hia e he hbd
    · have hall : ∀ j, j < m → listed.getD j false = true := fun j hj => by
        cases hq : listed.getD j false
        · exact absurd ⟨j, hj, hq⟩ hex
        · rfl
      have hl : listed = listedAt l.length m := by
        refine Array.ext (by simp [listedAt, hsz]; omega) (fun i h1 h2 => ?_)
        rcases Nat.lt_or_ge i m with h | h
        · have := hall i h
          simp [h1] at this
          simp [listedAt, h, this]
        · have := hlo i h (by omega)
          simp [h1] at this
          simp [listedAt, List.getElem_append, Nat.not_lt.2 h, this]
      subst hl
      exact wpAny_le (by omega) (hend x w hb (fun j hj => hp j hj (hall j hj)))

/-- The rule. -/
theorem wp_region_relyF (pu : List Nat) (m d : Nat) (F : (Nat → Value) → Act) (Φ : Nat → Value → World → Prop) {id : Nat} {a : Act} (hN : l.length = m + d) (ha : ∃ x0, a = F x0) (hm : P.follows .mixedOrders = true) (hlate : lateF l m pu = true) (hsel : Region.noSelect l.toArray = true) (hpu : ∀ p ∈ pu, PureAt P l F Φ p) (hs : StepsAt P l Q F Φ w0 m l 0)
    (hend : ∀ x w, Below w0.heap.size w0 w → (∀ j, j < m → Φ j (x j) w) → wpAny P .any l.toArray (NoPanic Q) d (listedAt (m + d) m) (F x) w) : (Code.region id l.toArray true).wp P Q a w0 := by
  obtain ⟨x0, rfl⟩ := ha
  refine wp_region_noPanic (wp_region_any hm ?_)
  refine rely_anyF m pu hlate hsel hs hpu (fun x w h1 h2 => ?_) _ _ (List.range m) x0 _ (by simp) (fun k _ h => by simp [h]) (fun j hj _ => List.mem_range.2 hj) (by simp; omega) (Below.refl _ _).drew (fun j hj h => ?_) (fun j hj h => ?_)
  · rw [hN, Nat.add_sub_cancel_left]
    exact hend x w h1 h2
  · have : j < l.length := by omega
    simp [this] at h
  · have : j < l.length := by omega
    simp [this] at h
end
end Go.Proofs.Yteckenlbelgknaa
