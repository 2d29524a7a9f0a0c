/-
  The rule of R8, where an operation may ask what each other one has done, if it has been done. Words of no program.
-/
import Derived.Test.YteckenlbelgknaaR8
import Derived.Test.YteckenlbelgknaaR9
namespace Go.Proofs.Yteckenlbelgknaa
open Go.RowKit

section
variable {P : Program} {l : List Oper} {Q : Exit → Act → World → Prop} {F : (Nat → Value) → Act} {Φ : Nat → (Nat → Value) → World → Prop} {S : Nat → (Nat → Value) → World → World → Prop} {sp : List Nat} {x0 : Nat → Value} {w0 : World}
structure StepZ (m : Nat) (P : Program) (l : List Oper) (Q : Exit → Act → World → Prop) (F : (Nat → Value) → Act) (Φ : Nat → (Nat → Value) → World → Prop) (S : Nat → (Nat → Value) → World → World → Prop) (sp : List Nat) (x0 : Nat → Value) (w0 : World) (j : Nat) (o : Oper) : Prop where
  keep : ∀ x i v w w', i ≠ j → i ∉ clos l l.length (depsOf l j) → Φ j x w → effX sp S i x w w' → Φ i (upd x i v) w' → Φ j (upd x i v) w'
  put : ∀ x v, (F x).put o.dst v = F (upd x j v)
  step : ∀ x w, Below w0.heap.size w0 w → x j = x0 j → (∀ k, waitsB .any l.toArray j k = true → Φ k x w) → (∀ k, k < m → x k = x0 k ∨ Φ k x w) →
    wpOp P l.toArray (NoPanic Q) j (fun a' w' => ∃ v, a' = (F x).put o.dst v ∧ Below w0.heap.size w w' ∧ effX sp S j x w w' ∧ Φ j (upd x j v) w') (F x) w
def StepsZ (m : Nat) (P : Program) (l : List Oper) (Q : Exit → Act → World → Prop) (F : (Nat → Value) → Act) (Φ : Nat → (Nat → Value) → World → Prop) (S : Nat → (Nat → Value) → World → World → Prop) (sp : List Nat) (x0 : Nat → Value) (w0 : World) : Nat → List Oper → Nat → Prop
  | 0, _, _ => True
  | _ + 1, [], _ => True
  | n + 1, o :: r, j => StepZ m P l Q F Φ S sp x0 w0 j o ∧ StepsZ m P l Q F Φ S sp x0 w0 n r (j + 1)
theorem StepsZ.done {m : Nat} {r : List Oper} {j : Nat} : StepsZ m P l Q F Φ S sp x0 w0 0 r j := trivial
theorem StepsZ.get {m : Nat} : ∀ (n : Nat) (r : List Oper) (j : Nat), StepsZ m P l Q F Φ S sp x0 w0 n r j → ∀ i o, i < n → r[i]? = some o → StepZ m P l Q F Φ S sp x0 w0 (j + i) o
  | 0, _, _, _, i, _, hi, _ => by omega
  | n + 1, [], _, _, i, _, _, ho => by simp at ho
  | n + 1, o :: r, j, h, 0, o', _, ho => by simp at ho; subst ho; exact h.1
  | n + 1, o :: r, j, h, i + 1, o', hi, ho => by
    have := StepsZ.get n r (j + 1) h.2 i o' (by omega) (by simpa using ho)
    rwa [show j + 1 + i = j + (i + 1) by omega] at this
/-- An operation whose predicate is any. -/
theorem StepsZ.cons {m : Nat} (j : Nat) {n : Nat} {o : Oper} {r : List Oper} (hk : ∀ x i v w w', i ≠ j → i ∉ clos l l.length (depsOf l j) → Φ j x w → effX sp S i x w w' → Φ i (upd x i v) w' → Φ j (upd x i v) w') (hp : ∀ x v, (F x).put o.dst v = F (upd x j v)) (ho : l[j]? = some o) (hw : o.guard = none)
    (h : ∀ x w, Below w0.heap.size w0 w → x j = x0 j → (∀ k, waitsB .any l.toArray j k = true → Φ k x w) → (∀ k, k < m → x k = x0 k ∨ Φ k x w) → ∀ K : Act → World → Prop, Shut (∀ v w', Below w0.heap.size w w' → effX sp S j x w w' → Φ j (upd x j v) w' → K ((F x).put o.dst v) w') → Oper.wp P o (F x) w K (NoPanic Q))
    (hr : StepsZ m P l Q F Φ S sp x0 w0 n r (j + 1)) : StepsZ m P l Q F Φ S sp x0 w0 (n + 1) (o :: r) j := by
  refine ⟨⟨hk, hp, fun x w hb hx hd hs9 => ?_⟩, hr⟩
  unfold wpOp
  rw [show l.toArray[j]? = some o by simpa using ho]
  have hwt : Region.wanted o (yielded l.toArray (F x).tmps) = true := by simp [Region.wanted, hw]
  simp only [hwt, if_true]
  exact .inl (h x w hb hx hd hs9 _ fun v w' h1 h2 h3 => ⟨v, rfl, h1, h2, h3⟩)
/-- An operation whose value is known. -/
theorem StepsZ.val {m : Nat} (j : Nat) (v : Value) {n : Nat} {o : Oper} {r : List Oper} (hφ : Φ j = fun x w => eqV v (x j) w) (hjp : sp.contains j = false) (hp : ∀ x v, (F x).put o.dst v = F (upd x j v)) (ho : l[j]? = some o) (hw : o.guard = none)
    (h : ∀ x w, Below w0.heap.size w0 w → (∀ k, waitsB .any l.toArray j k = true → Φ k x w) → (execOp (F x).eval o).run P w = .ok (.value v) w)
    (hr : StepsZ m P l Q F Φ S sp x0 w0 n r (j + 1)) : StepsZ m P l Q F Φ S sp x0 w0 (n + 1) (o :: r) j := by
  refine StepsZ.cons j (fun x i v' w w' hij _ h1 _ _ => ?_) hp ho hw (fun x w hb _ hd _ K hK => ?_) hr
  · rw [hφ] at h1 ⊢
    show eqV v (upd x i v' j) w'
    rw [upd_ne _ _ _ _ (Ne.symm hij)]
    exact h1
  · unfold Oper.wp
    rw [h x w hb hd]
    refine hK.out v w (Below.refl _ _) ?_ ?_
    · unfold effX
      rw [if_neg (by rw [hjp]; simp)]
      exact Below.refl _ _
    · rw [hφ]
      show eqV v (upd x j v j) w
      rw [upd_same]
      rfl
theorem StepsZ.consW {m : Nat} (j : Nat) {n : Nat} {o : Oper} {r : List Oper} (hk : ∀ x i v w w', i ≠ j → i ∉ clos l l.length (depsOf l j) → Φ j x w → effX sp S i x w w' → Φ i (upd x i v) w' → Φ j (upd x i v) w') (hp : ∀ x v, (F x).put o.dst v = F (upd x j v)) (ho : l[j]? = some o)
    (hw : ∀ x w, (∀ k, waitsB .any l.toArray j k = true → Φ k x w) → Region.wanted o (yielded l.toArray (F x).tmps) = true)
    (h : ∀ x w, Below w0.heap.size w0 w → x j = x0 j → (∀ k, waitsB .any l.toArray j k = true → Φ k x w) → (∀ k, k < m → x k = x0 k ∨ Φ k x w) → ∀ K : Act → World → Prop, Shut (∀ v w', Below w0.heap.size w w' → effX sp S j x w w' → Φ j (upd x j v) w' → K ((F x).put o.dst v) w') → Oper.wp P o (F x) w K (NoPanic Q))
    (hr : StepsZ m P l Q F Φ S sp x0 w0 n r (j + 1)) : StepsZ m P l Q F Φ S sp x0 w0 (n + 1) (o :: r) j := by
  refine ⟨⟨hk, hp, fun x w hb hx hd hs9 => ?_⟩, hr⟩
  unfold wpOp
  rw [show l.toArray[j]? = some o by simpa using ho]
  simp only [hw x w hd, if_true]
  exact .inl (h x w hb hx hd hs9 _ fun v w' h1 h2 h3 => ⟨v, rfl, h1, h2, h3⟩)
/-- An operation whose value, and its memory, are kept under growth and under S. -/
theorem StepsZ.rowW {m : Nat} (j : Nat) (φ : Value → World → Prop) {n : Nat} {o : Oper} {r : List Oper} (hφ : Φ j = fun x w => φ (x j) w) (hjp : sp.contains j = false) (hk1 : ∀ v w w', φ v w → Below w.heap.size w w' → φ v w') (hk2 : ∀ i v x w w', sp.contains i = true → φ v w → S i x w w' → φ v w')
    (hp : ∀ x v, (F x).put o.dst v = F (upd x j v)) (ho : l[j]? = some o)
    (hw : ∀ x w, (∀ k, waitsB .any l.toArray j k = true → Φ k x w) → Region.wanted o (yielded l.toArray (F x).tmps) = true)
    (h : ∀ x w, Below w0.heap.size w0 w → (∀ k, waitsB .any l.toArray j k = true → Φ k x w) → ∀ K : Act → World → Prop, Shut (∀ v w', Below w.heap.size w w' → φ v w' → K ((F x).put o.dst v) w') → Oper.wp P o (F x) w K (NoPanic Q))
    (hr : StepsZ m P l Q F Φ S sp x0 w0 n r (j + 1)) : StepsZ m P l Q F Φ S sp x0 w0 (n + 1) (o :: r) j := by
  refine StepsZ.consW j (fun x i v w w' hij _ h1 h2 _ => ?_) hp ho hw (fun x w hb _ hd _ K hK => h x w hb hd K fun v w' h1 h2 => hK.out v w' (h1.mono hb.size) ?_ ?_) hr
  · rw [hφ] at h1 ⊢
    show φ (upd x i v j) w'
    rw [upd_ne _ _ _ _ (Ne.symm hij)]
    unfold effX at h2
    split at h2
    · rename_i hsp
      exact hk2 _ _ _ _ _ hsp h1 h2
    · exact hk1 _ _ _ h1 h2
  · unfold effX
    rw [if_neg (by rw [hjp]; simp)]
    exact h1
  · rw [hφ]
    show φ (upd x j v j) w'
    rw [upd_same]
    exact h2
theorem StepsZ.valW {m : Nat} (j : Nat) (v : Value) {n : Nat} {o : Oper} {r : List Oper} (hφ : Φ j = fun x w => eqV v (x j) w) (hjp : sp.contains j = false) (hp : ∀ x v, (F x).put o.dst v = F (upd x j v)) (ho : l[j]? = some o)
    (hw : ∀ x w, (∀ k, waitsB .any l.toArray j k = true → Φ k x w) → Region.wanted o (yielded l.toArray (F x).tmps) = true)
    (h : ∀ x w, Below w0.heap.size w0 w → (∀ k, waitsB .any l.toArray j k = true → Φ k x w) → (execOp (F x).eval o).run P w = .ok (.value v) w)
    (hr : StepsZ m P l Q F Φ S sp x0 w0 n r (j + 1)) : StepsZ m P l Q F Φ S sp x0 w0 (n + 1) (o :: r) j := by
  refine StepsZ.rowW j (eqV v) hφ hjp (fun _ _ _ h _ => h) (fun _ _ _ _ _ _ h _ => h) hp ho hw (fun x w hb hd K hK => ?_) hr
  unfold Oper.wp
  rw [h x w hb hd]
  exact hK.out v w (Below.refl _ _) rfl
theorem StepsZ.skip {m : Nat} (j : Nat) {n : Nat} {o : Oper} {r : List Oper} (hφ : Φ j = fun x w => eqV undef (x j) w) (hjp : sp.contains j = false) (hp : ∀ x v, (F x).put o.dst v = F (upd x j v)) (ho : l[j]? = some o)
    (hw : ∀ x w, (∀ k, waitsB .any l.toArray j k = true → Φ k x w) → Region.wanted o (yielded l.toArray (F x).tmps) = false)
    (hr : StepsZ m P l Q F Φ S sp x0 w0 n r (j + 1)) : StepsZ m P l Q F Φ S sp x0 w0 (n + 1) (o :: r) j := by
  refine ⟨⟨fun x i v w w' hij _ h1 _ _ => ?_, hp, fun x w hb hx hd hs9 => ?_⟩, hr⟩
  · rw [hφ] at h1 ⊢
    show eqV undef (upd x i v j) w'
    rw [upd_ne _ _ _ _ (Ne.symm hij)]
    exact h1
  · unfold wpOp
    rw [show l.toArray[j]? = some o by simpa using ho]
    simp only [hw x w hd, Bool.false_eq_true, if_false]
    refine ⟨undef, rfl, Below.refl _ _, ?_, ?_⟩
    · unfold effX
      rw [if_neg (by rw [hjp]; simp)]
      exact Below.refl _ _
    · rw [hφ]
      show eqV undef (upd x j undef j) w
      rw [upd_same]
      rfl
theorem rely_anyZ (m : Nat) (pu : List Nat) (hlate : lateF l m pu = true) (hsel : Region.noSelect l.toArray = true) (hs : StepsZ m P l Q F Φ S sp x0 w0 m l 0) (hpu : ∀ p ∈ pu, PureX P l F Φ p ∧ sp.contains p = false)
    (hend : ∀ x w, Below w0.heap.size w0 w → (∀ j, j < m → Φ j x w) → wpAny P .any l.toArray (NoPanic Q) (l.length - m) (listedAt l.length m) (F x) w) :
    ∀ (n : Nat) (listed : Array Bool) (u : List Nat) (x : Nat → Value) (w : World), listed.size = l.length → (∀ k, m ≤ k → k < l.length → listed.getD k true = false) → (∀ j, j < m → listed.getD j false = false → j ∈ u) →
      l.length - m + u.length ≤ n → Below w0.heap.size w0 w → (∀ j, j < m → listed.getD j false = true → Φ j x w) → (∀ j, j < m → listed.getD j false = true → ∀ k, k ∈ depsOf l j → listed.getD k false = true) → (∀ j, j < m → listed.getD j false = false → x j = x0 j) → wpAny P .any l.toArray (NoPanic Q) n listed (F x) w := by
  simp only [lateF, Bool.and_eq_true, decide_eq_true_eq, List.all_eq_true, List.mem_range] at hlate
  obtain ⟨⟨hml, hpf⟩, hla⟩ := hlate
  intro n
  induction n with
  | zero =>
    intro listed u x w hsz hlo hu hn hb hp hcl hx0
    have hall : ∀ j, j < m → listed.getD j false = true := fun j hj => by
      cases hq : listed.getD j false
      · have := List.length_pos_of_mem (hu j hj hq); omega
      · rfl
    have hl : listed = listedAt l.length m := by
      refine Array.ext (by simp [listedAt, hsz]; omega) (fun i h1 h2 => ?_)
      rcases Nat.lt_or_ge i m with h | h
      · have := hall i h
        simp [h1] at this
        simp [listedAt, h, this]
      · have := hlo i h (by omega)
        simp [h1] at this
        simp [listedAt, List.getElem_append, Nat.not_lt.2 h, this]
    subst hl
    exact wpAny_le (by omega) (hend x w hb (fun j hj => hp j hj (hall j hj)))
  | succ n ih =>
    intro listed u x w hsz hlo hu hn hb hp hcl hx0
    have hun : ∀ j, j < m → listed.getD j false = false → listed.getD j true = false := fun j hj h => by
      have : j < listed.size := by omega
      simp [this] at h ⊢
      exact h
    -- what is known behind one of them
    have hnext : ∀ i oi v w', i < m → l[i]? = some oi → listed.getD i false = false → (∀ k, k ∈ depsOf l i → listed.getD k false = true) → Below w0.heap.size w w' → effX sp S i x w w' → Φ i (upd x i v) w' → wpAny P .any l.toArray (NoPanic Q) n (listed.setIfInBounds i true) ((F x).put oi.dst v) w' := by
      intro i oi v w' him hoi' hif hia hb' heff hv
      have hsi := StepsZ.get m l 0 hs i oi him hoi'
      rw [Nat.zero_add] at hsi
      rw [hsi.put]
      refine ih (listed.setIfInBounds i true) (u.erase i) (upd x i v) w' (by simp [hsz]) (fun k h1 h2 => ?_) (fun j hj hjf => ?_) ?_ (hb.trans hb') (fun j hj hjl => ?_) (fun j hj hjl k hk => ?_) (fun j hj hjf => ?_)
      · rw [getD_set_ne true (by omega)]; exact hlo k h1 h2
      · have hne : i ≠ j := fun e => by
          subst e
          simp [show i < listed.size by omega] at hjf
        rw [getD_set_ne false hne] at hjf
        exact (List.mem_erase_of_ne (Ne.symm hne)).2 (hu j hj hjf)
      · have := hu i him hif
        rw [List.length_erase_of_mem this]
        have := List.length_pos_of_mem this
        omega
      · rcases Nat.decEq i j with hne | rfl
        · rw [getD_set_ne false hne] at hjl
          obtain ⟨oj, hoj⟩ : ∃ o, l[j]? = some o := ⟨l[j]'(by omega), by simp⟩
          have hsj := StepsZ.get m l 0 hs j oj hj hoj
          rw [Nat.zero_add] at hsj
          refine hsj.keep _ _ _ _ _ hne (fun hdi => ?_) (hp j hj hjl) heff hv
          have hlt : ∀ k, listed.getD k false = true → k < m := fun k hk => by
            rcases Nat.lt_or_ge k m with h2 | h2
            · exact h2
            · rcases Nat.lt_or_ge k l.length with h3 | h3
              · have h4 := hlo k h2 h3
                have h5 : k < listed.size := by omega
                simp [h5] at hk h4
                rw [h4] at hk; cases hk
              · have h5 : ¬ k < listed.size := by omega
                simp [h5] at hk
          have h7 := clos_listed l (fun k => listed.getD k false = true) (fun q hq k hk => hcl q (hlt q hq) hq k hk) l.length (depsOf l j) (fun k hk => hcl j hj hjl k hk) i hdi
          rw [hif] at h7
          cases h7
        · exact hv
      · refine getD_set_true ?_
        rcases Nat.decEq i j with hne | rfl
        · rw [getD_set_ne false hne] at hjl
          exact hcl j hj hjl k hk
        · exact hia k hk
      · have hne : i ≠ j := fun e => by
          subst e
          simp [show i < listed.size by omega] at hjf
        rw [getD_set_ne false hne] at hjf
        rw [upd_ne _ _ _ _ (Ne.symm hne)]
        exact hx0 j hj hjf
    have hwb : ∀ i oi, i < m → l[i]? = some oi → (∀ e ∈ oi.after, Region.binds .any e = true → listed.getD e.on false = true) → ∀ k, waitsB .any l.toArray i k = true → Φ k x w := by
      intro i oi him hoi' hia k hk
      obtain ⟨e, he, hbd, hon⟩ := waits_of hoi' hk
      have h2 := hia e he hbd
      rw [hon] at h2
      have hki : k < i := by
        have h1 := hla i (by omega)
        rw [if_pos him, hoi'] at h1
        simp only [Option.map_some, Option.getD_some, Array.all_eq_true_iff_forall_mem] at h1
        have h3 := h1 e he
        simp [hbd] at h3
        omega
      exact hp k (by omega) h2
    by_cases hpx : ∃ p, p ∈ pu ∧ listed.getD p false = false ∧ p ∈ Region.ready .any l.toArray listed
    · obtain ⟨p, hp1, hp2, hp3⟩ := hpx
      have hpm : p < m := (hpf p hp1).1
      obtain ⟨hiu, oi, hoi, hia⟩ := mem_ready.1 hp3
      have hoi' : l[p]? = some oi := by simpa using hoi
      obtain ⟨hpx, hpn⟩ := hpu p hp1
      obtain ⟨hwt, v, hv, hΦ⟩ := hpx oi hoi' x w (hwb p oi hpm hoi' hia)
      refine AnyTill.any (m := l.length) (S := fun _ => True) _ _ _ _ ?_
      refine AnyTill.firstFree hoi hsel (by omega) (fun _ _ _ h => h) n listed (F x) w (fun j oj hj hne hjl hw => ?_) hp3 (.inl ⟨hwt, fun w' _ => hv w'⟩) (.inr trivial) (AnyTill.of_any _ _ _ _ (hnext p oi v w hpm hoi' hp2 (fun k hk => ?_) (Below.refl _ _) (by unfold effX; rw [if_neg (by rw [hpn]; simp)]; exact Below.refl _ _) hΦ))
      · refine Region.free_spec hoi (hpf p hp1).2 j oj hj hne ?_ hw
        have hjl2 : j < l.length := by
          have := (Array.getElem?_eq_some_iff.1 hj).1
          simpa using this
        refine lstF_at l p j hjl2 (fun hjd => ?_)
        obtain ⟨e, he, hbd, hon⟩ := deps_mem hoi' hjd
        have h9 := hia e he hbd
        rw [hon] at h9
        have h8 : j < listed.size := by omega
        simp [h8] at hjl h9
        rw [h9] at hjl; cases hjl
      · obtain ⟨e, he, hbd, hon⟩ := deps_mem hoi' hk
        rw [← hon]; exact hia e he hbd
    by_cases hex : ∃ j, j < m ∧ listed.getD j false = false
    · obtain ⟨j0, hj0, hf0, hlt0⟩ := least_false _ m hex
      obtain ⟨o0, ho0⟩ : ∃ o, l[j0]? = some o := ⟨l[j0]'(by omega), by simp⟩
      have hr0 : j0 ∈ Region.ready .any l.toArray listed := by
        refine mem_ready.2 ⟨hun j0 hj0 hf0, o0, by simpa using ho0, fun e he hbd => hlt0 e.on ?_⟩
        have h1 := hla j0 (by omega)
        rw [if_pos hj0, ho0] at h1
        simp only [Option.map_some, Option.getD_some, Array.all_eq_true_iff_forall_mem] at h1
        have h2 := h1 e he
        simp [hbd] at h2
        exact h2
      refine ⟨fun h => absurd hr0 (by rw [h]; exact List.not_mem_nil), fun i hi => ?_⟩
      obtain ⟨hiu, oi, hoi, hia⟩ := mem_ready.1 hi
      have hoi' : l[i]? = some oi := by simpa using hoi
      have hil : i < l.length := (List.getElem?_eq_some_iff.1 hoi').1
      have him : i < m := by
        rcases Nat.lt_or_ge i m with h | h
        · exact h
        · have h1 := hla i hil
          rw [if_neg (Nat.not_lt.2 h)] at h1
          simp only [List.all_eq_true, List.mem_range, Bool.or_eq_true, Bool.and_eq_true, List.contains_iff_mem] at h1
          have hdi : ∀ k, k ∈ depsOf l i → listed.getD k false = true := fun k hk => by
            obtain ⟨e, he, hbd, hon⟩ := deps_mem hoi' hk
            rw [← hon]; exact hia e he hbd
          have hlt : ∀ k, listed.getD k false = true → k < m := fun k hk => by
            rcases Nat.lt_or_ge k m with h2 | h2
            · exact h2
            · rcases Nat.lt_or_ge k l.length with h3 | h3
              · have h4 := hlo k h2 h3
                have h5 : k < listed.size := by omega
                simp [h5] at hk h4
                rw [h4] at hk; cases hk
              · have h5 : ¬ k < listed.size := by omega
                simp [h5] at hk
          have hcs := clos_listed l (fun k => listed.getD k false = true) (fun j hj k hk => hcl j (hlt j hj) hj k hk) l.length (depsOf l i) hdi
          rcases h1 j0 hj0 with h2 | ⟨h2, h3⟩
          · have h4 := hcs j0 h2
            rw [hf0] at h4
            cases h4
          · exact absurd ⟨j0, h2, hf0, hr0⟩ hpx
      have hsi := StepsZ.get m l 0 hs i oi him hoi'
      rw [Nat.zero_add] at hsi
      have hif : listed.getD i false = false := by
        have : i < listed.size := by omega
        simp [this] at hiu ⊢
        exact hiu
      refine wpOp_mono (fun a' w' hk => ?_) (hsi.step x w hb (hx0 i him hif) (hwb i oi him hoi' hia) (fun k hk => by
        cases hq : listed.getD k false
        · exact .inl (hx0 k hk hq)
        · exact .inr (hp k hk hq)))
      obtain ⟨v, rfl, hb', heff, hv⟩ := hk
      refine hnext i oi v w' him hoi' hif (fun k hk => ?_) hb' heff hv
      obtain ⟨e, he, hbd, hon⟩ := deps_mem hoi' hk
      rw [← hon]; exact hia e he hbd
    · have hall : ∀ j, j < m → listed.getD j false = true := fun j hj => by
        cases hq : listed.getD j false
        · exact absurd ⟨j, hj, hq⟩ hex
        · rfl
      have hl : listed = listedAt l.length m := by
        refine Array.ext (by simp [listedAt, hsz]; omega) (fun i h1 h2 => ?_)
        rcases Nat.lt_or_ge i m with h | h
        · have := hall i h
          simp [h1] at this
          simp [listedAt, h, this]
        · have := hlo i h (by omega)
          simp [h1] at this
          simp [listedAt, List.getElem_append, Nat.not_lt.2 h, this]
      subst hl
      exact wpAny_le (by omega) (hend x w hb (fun j hj => hp j hj (hall j hj)))

/-- The rule. -/
theorem wp_region_relyZ (pu sp : List Nat) (S : Nat → (Nat → Value) → World → World → Prop) (x0 : Nat → Value) (m d : Nat) (F : (Nat → Value) → Act) (Φ : Nat → (Nat → Value) → World → Prop) {id : Nat} {a : Act} (hN : l.length = m + d) (ha : a = F x0) (hm : P.follows .mixedOrders = true) (hlate : lateF l m pu = true) (hsel : Region.noSelect l.toArray = true) (hpu : ∀ p ∈ pu, PureX P l F Φ p ∧ sp.contains p = false) (hs : StepsZ m P l Q F Φ S sp x0 w0 m l 0)
    (hend : ∀ x w, Below w0.heap.size w0 w → (∀ j, j < m → Φ j x w) → wpAny P .any l.toArray (NoPanic Q) d (listedAt (m + d) m) (F x) w) : (Code.region id l.toArray true).wp P Q a w0 := by
  subst ha
  refine wp_region_noPanic (wp_region_any hm ?_)
  refine rely_anyZ m pu hlate hsel hs hpu (fun x w h1 h2 => ?_) _ _ (List.range m) x0 _ (by simp) (fun k _ h => by simp [h]) (fun j hj _ => List.mem_range.2 hj) (by simp; omega) (Below.refl _ _).drew (fun j hj h => ?_) (fun j hj h => ?_) (fun _ _ _ => rfl)
  · rw [hN, Nat.add_sub_cancel_left]
    exact hend x w h1 h2
  · have : j < l.length := by omega
    simp [this] at h
  · have : j < l.length := by omega
    simp [this] at h
end
/-- Bytes as rows. -/
def U8K : RowK UInt8 := { enc := fun b => [.int .u8 (b.toNat : Int)], k := 1, d := 0, len := fun _ => rfl, one := fun _ u hu => by simp only [List.mem_cons, List.not_mem_nil, or_false] at hu; subst hu; rfl, pos := by decide }
theorem rowsU8 (l : List UInt8) : rowsE U8K l = bys l := by
  unfold rowsE bys
  induction l with
  | nil => rfl
  | cons b r ih =>
    rw [List.flatMap_cons, ih]
    rfl
theorem Own.toE {e : TypeId} {w : World} {B : Nat} {v : Value} {l : List UInt8} (h : Own e w B v l) : OwnE U8K e w B v l := by
  unfold OwnE
  rw [rowsU8]
  exact h
theorem OwnE.toB {e : TypeId} {w : World} {B : Nat} {v : Value} {l : List UInt8} (h : OwnE U8K e w B v l) : Own e w B v l := by
  unfold OwnE at h
  rw [rowsU8] at h
  exact h
theorem Rd.toE {B : Nat} {w : World} {v : Value} {l : List UInt8} (h : Rd B w v l) : RdE U8K B w v l := by
  obtain ⟨A, c, hv, hc, hm, hn, hr⟩ := h
  refine ⟨A, c, hv, hc, hm, hn, fun a ha => ⟨(hr a ha).1, fun j u hu => ?_⟩⟩
  rw [rowsU8] at hu
  have hj : j < l.length := by
    have := (List.getElem?_eq_some_iff.1 hu).1
    simpa [bys] using this
  rw [(hr a ha).2 j hj]
  simp [bys, hj] at hu
  rw [← hu]
theorem Own.isSlice {e : TypeId} {w : World} {B : Nat} {v : Value} {l : List UInt8} (h : Own e w B v l) : ∃ A n c, v = .slice A n c := by
  obtain ⟨A, c, hv, -, -⟩ := h.rd.shape
  exact ⟨A, _, c, hv⟩
theorem Own.belowB {e : TypeId} {w w' : World} {base B : Nat} {v : Value} {l : List UInt8} (h : Own e w base v l) (hb : Below B w w') (hB : w.heap.size ≤ B) : Own e w' base v l := by
  refine ⟨h.1, ?_⟩
  rcases h.2 with hn | ⟨g, cap, cur, rfl, hg0, hg, r⟩
  · exact .inl hn
  · have hlt : g < w.heap.size := (Array.getElem?_eq_some_iff.1 hg).1
    exact .inr ⟨g, cap, cur, rfl, hg0, by rw [hb.block g (by omega)]; exact hg, r⟩
/-- Bytes of one's own, as long as they are not appended to; what an append does. -/
def RowB (e : TypeId) (B : Nat) (l : List UInt8) (a b : Value) (w : World) : Prop := (∃ A n c, a = .slice A n c) ∧ (b = undef → Own e w B a l)
def GrowB (e : TypeId) (B : Nat) (l : List UInt8) (a : Value) (w w' : World) : Prop := (∃ A n c, a = .slice A n c) ∧ Own e w B a l ∧ w.grownBy w' a.ownBlock
/-- The bytes that an append gave. -/
def BackB (e : TypeId) (B : Nat) (l : List UInt8) (a : Value) (w : World) : Prop := (∃ A n c, a = .slice A n c) ∧ Own e w B a l
theorem BackB.keep {e : TypeId} {B : Nat} {l : List UInt8} {a : Value} {w w' : World} (h : BackB e B l a w) (hb : Below w.heap.size w w') : BackB e B l a w' := ⟨h.1, h.2.belowB hb (Nat.le_refl _)⟩
/-- append of a row, an operation of an open region (whoever guards it). -/
theorem wp_appG {α : Type} {E : RowK α} {P : Program} {w : World} {o : Oper} {a : Act} {K : Act → World → Prop} {Q : Exit → Act → World → Prop}
    (s x : Operand) (t : TypeId) (ho : o.op = .call { callee := .builtin .append, args := #[s, x], argTypes := #[t, t] })
    (e : TypeId) (bytes : Nat) (ht : P.underlying t = some (.slice e)) (hk : KindOf P e E bytes)
    (base B : Nat) (v vx : Value) (l m : List α) (hs : a.eval s = v) (hown : OwnE E e w base v l) (hx : a.eval x = vx) (hr : RdE E B w vx m)
    (hlen : (l.length + m.length) * bytes ≤ 140737488355328) (h63 : l.length + m.length ≤ 9223372036854775807) (hbase : base ≤ w.heap.size)
    (h : ∀ v' w', OwnE E e w' base v' (l ++ m) → Below base w w' → w.grownBy w' v.ownBlock → K (a.put o.dst v') w') : Oper.wp P o a w K Q := by
  obtain ⟨i, z, hi, hz, hsize, hby, hzs⟩ := hk
  obtain ⟨A, c, hv, hc, hm, hn, hrr⟩ := hr
  cases A with
  | none =>
    have h0 : c = 0 := hn rfl
    have h1 : m.length = 0 := by omega
    have h2 : m = [] := List.eq_nil_of_length_eq_zero h1
    subst h0 h2
    have hrun := run_append_owned_none (P := P) (w := w) base t o.type e i E.k ht hi v l.length (rowsE E l) hown
    unfold Oper.wp execOp
    simp only [ho, resolve, invoke, builtin, Sem.run_bind, Sem.run_pure, Result.andThen_ok, List.map_toArray, List.map_cons, List.map_nil, hs, hx, hv, List.length_nil, hrun]
    exact h v w (by rw [List.append_nil]; exact hown) (Below.refl _ _) ⟨rfl, rfl, rfl, Nat.le_refl _, fun _ _ _ => rfl⟩
  | some ad =>
    obtain ⟨v', w', hrun, g1, g2, _⟩ := run_append_own (P := P) w base t o.type e i z E.k bytes ht hi hz hsize hby hzs E.pos v l.length (rowsE E l) hown ad m.length c (rowsE E m) (rowsE_length E m) (hrr ad rfl).2 (rowsE_cell E m) (by unfold maxLen; omega) hlen hbase
    unfold Oper.wp execOp
    simp only [ho, resolve, invoke, builtin, Sem.run_bind, Sem.run_pure, Result.andThen_ok, List.map_toArray, List.map_cons, List.map_nil, hs, hx, hv, hrun]
    refine h v' w' ?_ (OwnE.grown hown g2 hbase) g2
    unfold OwnE
    rw [List.length_append, rowsE_append]
    exact g1
end Go.Proofs.Yteckenlbelgknaa
