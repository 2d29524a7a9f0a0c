/-
  Texts IH R6 R7 R8 R9 RX.
-/
import Derived.Deep.MidRow
import Derived.BigFrame
import Derived.Test.YtdihngkdhanhkaaGreatDoorZ02
import Derived.Test.YtdihngkdhanhkaaGreatDoorZ11
import Derived.Test.YtdihngkdhanhkaaGreatDoorZ12
import Derived.Test.YtdihngkdhanhkaaGreatDoorZ17
namespace Go.Proofs.YtdihngkdhanhkaaGreatDoor
open Go.RowKit

/-- The cells from j on are written over. -/
def putL : List Value → Nat → List Value → List Value
  | cs, _, [] => cs
  | cs, j, v :: r => putL (cs.set j v) (j + 1) r
theorem Blk.puts {g : Nat} {u : TypeId} : ∀ (vs : List Value) (j : Nat) (w : World) (cs : List Value), Blk w g cs u → Blk (w.setCells g j vs) g (putL cs j vs) u
  | [], _, _, _, h => h
  | v :: r, j, _, _, h => Blk.puts r (j + 1) _ _ (h.set j v)
theorem Blk.thereP {w : World} {g : Nat} {cs : List Value} {u : TypeId} (h : Blk w g cs u) (j n : Nat) (hj : j + n ≤ cs.length) : w.there g j n := fun i hi => by
  rw [h.cell (j + i), List.getElem?_eq_getElem (show j + i < cs.length by omega)]
  exact ⟨rfl, h.frozen (j + i)⟩
theorem wpList_store_part {P : Program} {w : World} {ops : Array Oper} {rest : List Oper} {o : Oper} {a : Act} {Q : Exit → Act → World → Prop} (hg : o.guard = none) (t : TypeId) (x y : Operand) (ho : o.op = .store t x y) (g j : Nat) (cs vs : List Value) (u : TypeId)
    (hx : a.eval x = .pointer (some ⟨g, j, none⟩)) (hy : a.eval y = .agg vs.toArray) (hb : Blk w g cs u) (hi : (P.info? t).map (·.size) = some vs.length) (hj : j + vs.length ≤ cs.length) (h1 : vs.toArray.all (·.oneCell') = true)
    (h : ∀ w', Blk w' g (putL cs j vs) u → w'.heap.size = w.heap.size → Below g w w' → (∀ k, k ≠ g → w'.heap[k]? = w.heap[k]?) → wpList P ops Q rest (a.put o.dst undef) w') : wpList P ops Q (o :: rest) a w := by
  refine wpList_store_mid hg t x y ho g j vs.toArray hx hy (by simpa using hb.thereP j vs.length hj) (by simpa using hi) h1 ?_
  exact h _ (Blk.puts vs j w cs hb) (setCells_sizeE g vs j w) (below_setCellsE (Nat.le_refl g) vs j w (Below.refl g w)) (fun k hne => setCells_otherE g vs j w k hne)
theorem wpList_load_part {P : Program} {w : World} {ops : Array Oper} {rest : List Oper} {o : Oper} {a : Act} {Q : Exit → Act → World → Prop} (hg : o.guard = none) (t : TypeId) (x : Operand) (ho : o.op = .load t x) (g j : Nat) (cs vs : List Value) (u : TypeId)
    (hx : a.eval x = .pointer (some ⟨g, j, none⟩)) (hb : Blk w g cs u) (hv : (cs.drop j).take vs.length = vs) {d : TypeDesc} (hu : P.underlying t = some d) (hd : d.isRow = true) (hi : (P.info? t).map (·.size) = some vs.length)
    (h : wpList P ops Q rest (a.put o.dst (.agg vs.toArray)) w) : wpList P ops Q (o :: rest) a w := by
  refine wpList_load_mid hg t x ho g j hx vs d (fun i v hv2 => ?_) hu hd hi h
  rw [hb.cell (j + i), ← List.getElem?_drop]
  rw [← hv] at hv2
  rw [List.getElem?_take] at hv2
  split at hv2
  · exact hv2
  · cases hv2
end Go.Proofs.YtdihngkdhanhkaaGreatDoor
namespace Go.Proofs.YtdihngkdhanhkaaGreatDoor
open Go.RowKit

theorem AnyTill.of_any {P : Program} {md : Region.Mode} {ops : Array Oper} {Q : Exit → Act → World → Prop} {m : Nat} : ∀ (n : Nat) (listed : Array Bool) (a : Act) (w : World), wpAny P md ops Q n listed a w → AnyTill P md ops Q (fun _ => True) m n listed a w
  | 0, _, _, _, h => h
  | n + 1, _, _, _, h => ⟨h.1, fun i hi => wpOp_mono (fun a' w' h' => ⟨.inr trivial, AnyTill.of_any n _ a' w' h'⟩) (h.2 i hi)⟩
section
variable {P : Program} {l : List Oper} {Q : Exit → Act → World → Prop} {F : (Nat → Value) → Act} {Φ : Nat → Value → World → Prop} {w0 : World}
end
end Go.Proofs.YtdihngkdhanhkaaGreatDoor
namespace Go.Proofs.YtdihngkdhanhkaaGreatDoor
open Go.RowKit

/-- What is done by the time that number p can be: what it waits for. -/
def lstF (l : List Oper) (p : Nat) : Array Bool := ((List.range l.length).map fun j => (depsOf l p).contains j).toArray
theorem lstF_at (l : List Oper) (p j : Nat) (hj : j < l.length) (h : j ∉ depsOf l p) : (lstF l p).getD j true = false := by
  unfold lstF
  simp [hj, h]
def lateF (l : List Oper) (m : Nat) (pu : List Nat) : Bool :=
  decide (m ≤ l.length) && (pu.all fun p => decide (p < m) && Region.free .any l.toArray (lstF l p) p) && (List.range l.length).all fun j =>
    if j < m then ((l[j]?).map fun o => o.after.all fun e => !Region.binds .any e || decide (e.on < j)).getD false
    else (List.range m).all fun k => (clos l l.length (depsOf l j)).contains k || (pu.contains k && (depsOf l k).all fun q => (clos l l.length (depsOf l j)).contains q)

section
variable {P : Program} {l : List Oper} {Q : Exit → Act → World → Prop} {F : (Nat → Value) → Act} {Φ : Nat → Value → World → Prop} {w0 : World}
/-- An operation that reads no memory: its value hangs on what it waits for alone. -/
def PureAt (P : Program) (l : List Oper) (F : (Nat → Value) → Act) (Φ : Nat → Value → World → Prop) (p : Nat) : Prop :=
  ∀ op, l[p]? = some op → ∀ x w, (∀ k, waitsB .any l.toArray p k = true → Φ k (x k) w) → Region.wanted op (yielded l.toArray (F x).tmps) = true ∧ ∃ v, (∀ w', (execOp (F x).eval op).run P w' = .ok (.value v) w') ∧ Φ p v w
theorem rely_anyF (m : Nat) (pu : List Nat) (hlate : lateF l m pu = true) (hsel : Region.noSelect l.toArray = true) (hs : StepsAt P l Q F Φ w0 m l 0) (hpu : ∀ p ∈ pu, PureAt P l F Φ p)
    (hend : ∀ x w, Below w0.heap.size w0 w → (∀ j, j < m → Φ j (x j) w) → wpAny P .any l.toArray (NoPanic Q) (l.length - m) (listedAt l.length m) (F x) w) :
    ∀ (n : Nat) (listed : Array Bool) (u : List Nat) (x : Nat → Value) (w : World), listed.size = l.length → (∀ k, m ≤ k → k < l.length → listed.getD k true = false) → (∀ j, j < m → listed.getD j false = false → j ∈ u) →
      l.length - m + u.length ≤ n → Below w0.heap.size w0 w → (∀ j, j < m → listed.getD j false = true → Φ j (x j) w) → (∀ j, j < m → listed.getD j false = true → ∀ k, k ∈ depsOf l j → listed.getD k false = true) → wpAny P .any l.toArray (NoPanic Q) n listed (F x) w := by
  simp only [lateF, Bool.and_eq_true, decide_eq_true_eq, List.all_eq_true, List.mem_range] at hlate
  obtain ⟨⟨hml, hpf⟩, hla⟩ := hlate
  intro n
  induction n with
  | zero =>
    intro listed u x w hsz hlo hu hn hb hp hcl
    have hall : ∀ j, j < m → listed.getD j false = true := fun j hj => by
      cases hq : listed.getD j false
      · have := List.length_pos_of_mem (hu j hj hq); omega
      · rfl
    have hl : listed = listedAt l.length m := by
      refine Array.ext (by simp [listedAt, hsz]; omega) (fun i h1 h2 => ?_)
      rcases Nat.lt_or_ge i m with h | h
      · have := hall i h
        simp [h1] at this
        simp [listedAt, h, this]
      · have := hlo i h (by omega)
        simp [h1] at this
        simp [listedAt, List.getElem_append, Nat.not_lt.2 h, this]
    subst hl
    exact wpAny_le (by omega) (hend x w hb (fun j hj => hp j hj (hall j hj)))
  | succ n ih =>
    intro listed u x w hsz hlo hu hn hb hp hcl
    have hun : ∀ j, j < m → listed.getD j false = false → listed.getD j true = false := fun j hj h => by
      have : j < listed.size := by omega
      simp [this] at h ⊢
      exact h
    -- what is known behind one of them
    have hnext : ∀ i oi v w', i < m → l[i]? = some oi → listed.getD i false = false → (∀ k, k ∈ depsOf l i → listed.getD k false = true) → Below w.heap.size w w' → Φ i v w' → wpAny P .any l.toArray (NoPanic Q) n (listed.setIfInBounds i true) ((F x).put oi.dst v) w' := by
      intro i oi v w' him hoi' hif hia hb' hv
      have hsi := StepsAt.get m l 0 hs i oi him hoi'
      rw [Nat.zero_add] at hsi
      rw [hsi.put]
      refine ih (listed.setIfInBounds i true) (u.erase i) (upd x i v) w' (by simp [hsz]) (fun k h1 h2 => ?_) (fun j hj hjf => ?_) ?_ (hb.trans (hb'.mono hb.size)) (fun j hj hjl => ?_) (fun j hj hjl k hk => ?_)
      · rw [getD_set_ne true (by omega)]; exact hlo k h1 h2
      · have hne : i ≠ j := fun e => by
          subst e
          simp [show i < listed.size by omega] at hjf
        rw [getD_set_ne false hne] at hjf
        exact (List.mem_erase_of_ne (Ne.symm hne)).2 (hu j hj hjf)
      · have := hu i him hif
        rw [List.length_erase_of_mem this]
        have := List.length_pos_of_mem this
        omega
      · rcases Nat.decEq i j with hne | rfl
        · rw [getD_set_ne false hne] at hjl
          rw [upd_ne _ _ _ _ (Ne.symm hne)]
          obtain ⟨oj, hoj⟩ : ∃ o, l[j]? = some o := ⟨l[j]'(by omega), by simp⟩
          have hsj := StepsAt.get m l 0 hs j oj hj hoj
          rw [Nat.zero_add] at hsj
          exact hsj.keep _ _ _ (hp j hj hjl) hb'
        · rw [upd_same]; exact hv
      · refine getD_set_true ?_
        rcases Nat.decEq i j with hne | rfl
        · rw [getD_set_ne false hne] at hjl
          exact hcl j hj hjl k hk
        · exact hia k hk
    have hwb : ∀ i oi, i < m → l[i]? = some oi → (∀ e ∈ oi.after, Region.binds .any e = true → listed.getD e.on false = true) → ∀ k, waitsB .any l.toArray i k = true → Φ k (x k) w := by
      intro i oi him hoi' hia k hk
      obtain ⟨e, he, hbd, hon⟩ := waits_of hoi' hk
      have h2 := hia e he hbd
      rw [hon] at h2
      have hki : k < i := by
        have h1 := hla i (by omega)
        rw [if_pos him, hoi'] at h1
        simp only [Option.map_some, Option.getD_some, Array.all_eq_true_iff_forall_mem] at h1
        have h3 := h1 e he
        simp [hbd] at h3
        omega
      exact hp k (by omega) h2
    by_cases hpx : ∃ p, p ∈ pu ∧ listed.getD p false = false ∧ p ∈ Region.ready .any l.toArray listed
    · obtain ⟨p, hp1, hp2, hp3⟩ := hpx
      have hpm : p < m := (hpf p hp1).1
      obtain ⟨hiu, oi, hoi, hia⟩ := mem_ready.1 hp3
      have hoi' : l[p]? = some oi := by simpa using hoi
      obtain ⟨hwt, v, hv, hΦ⟩ := hpu p hp1 oi hoi' x w (hwb p oi hpm hoi' hia)
      refine AnyTill.any (m := l.length) (S := fun _ => True) _ _ _ _ ?_
      refine AnyTill.firstFree hoi hsel (by omega) (fun _ _ _ h => h) n listed (F x) w (fun j oj hj hne hjl hw => ?_) hp3 (.inl ⟨hwt, fun w' _ => hv w'⟩) (.inr trivial) (AnyTill.of_any _ _ _ _ (hnext p oi v w hpm hoi' hp2 (fun k hk => ?_) (Below.refl _ _) hΦ))
      · refine Region.free_spec hoi (hpf p hp1).2 j oj hj hne ?_ hw
        have hjl2 : j < l.length := by
          have := (Array.getElem?_eq_some_iff.1 hj).1
          simpa using this
        refine lstF_at l p j hjl2 (fun hjd => ?_)
        obtain ⟨e, he, hbd, hon⟩ := deps_mem hoi' hjd
        have h9 := hia e he hbd
        rw [hon] at h9
        have h8 : j < listed.size := by omega
        simp [h8] at hjl h9
        rw [h9] at hjl; cases hjl
      · obtain ⟨e, he, hbd, hon⟩ := deps_mem hoi' hk
        rw [← hon]; exact hia e he hbd
    by_cases hex : ∃ j, j < m ∧ listed.getD j false = false
    · obtain ⟨j0, hj0, hf0, hlt0⟩ := least_false _ m hex
      obtain ⟨o0, ho0⟩ : ∃ o, l[j0]? = some o := ⟨l[j0]'(by omega), by simp⟩
      have hr0 : j0 ∈ Region.ready .any l.toArray listed := by
        refine mem_ready.2 ⟨hun j0 hj0 hf0, o0, by simpa using ho0, fun e he hbd => hlt0 e.on ?_⟩
        have h1 := hla j0 (by omega)
        rw [if_pos hj0, ho0] at h1
        simp only [Option.map_some, Option.getD_some, Array.all_eq_true_iff_forall_mem] at h1
        have h2 := h1 e he
        simp [hbd] at h2
        exact h2
      refine ⟨fun h => absurd hr0 (by rw [h]; exact List.not_mem_nil), fun i hi => ?_⟩
      obtain ⟨hiu, oi, hoi, hia⟩ := mem_ready.1 hi
      have hoi' : l[i]? = some oi := by simpa using hoi
      have hil : i < l.length := (List.getElem?_eq_some_iff.1 hoi').1
      have him : i < m := by
        rcases Nat.lt_or_ge i m with h | h
        · exact h
        · have h1 := hla i hil
          rw [if_neg (Nat.not_lt.2 h)] at h1
          simp only [List.all_eq_true, List.mem_range, Bool.or_eq_true, Bool.and_eq_true, List.contains_iff_mem] at h1
          have hdi : ∀ k, k ∈ depsOf l i → listed.getD k false = true := fun k hk => by
            obtain ⟨e, he, hbd, hon⟩ := deps_mem hoi' hk
            rw [← hon]; exact hia e he hbd
          have hlt : ∀ k, listed.getD k false = true → k < m := fun k hk => by
            rcases Nat.lt_or_ge k m with h2 | h2
            · exact h2
            · rcases Nat.lt_or_ge k l.length with h3 | h3
              · have h4 := hlo k h2 h3
                have h5 : k < listed.size := by omega
                simp [h5] at hk h4
                rw [h4] at hk; cases hk
              · have h5 : ¬ k < listed.size := by omega
                simp [h5] at hk
          have hcs := clos_listed l (fun k => listed.getD k false = true) (fun j hj k hk => hcl j (hlt j hj) hj k hk) l.length (depsOf l i) hdi
          rcases h1 j0 hj0 with h2 | ⟨h2, h3⟩
          · have h4 := hcs j0 h2
            rw [hf0] at h4
            cases h4
          · exact absurd ⟨j0, h2, hf0, hr0⟩ hpx
      have hsi := StepsAt.get m l 0 hs i oi him hoi'
      rw [Nat.zero_add] at hsi
      have hif : listed.getD i false = false := by
        have : i < listed.size := by omega
        simp [this] at hiu ⊢
        exact hiu
      refine wpOp_mono (fun a' w' hk => ?_) (hsi.step x w hb (hwb i oi him hoi' hia))
      obtain ⟨v, rfl, hb', hv⟩ := hk
      refine hnext i oi v w' him hoi' hif (fun k hk => ?_) hb' hv
      obtain ⟨e, he, hbd, hon⟩ := deps_mem hoi' hk
      rw [← hon]; exact hia e he hbd
    · have hall : ∀ j, j < m → listed.getD j false = true := fun j hj => by
        cases hq : listed.getD j false
        · exact absurd ⟨j, hj, hq⟩ hex
        · rfl
      have hl : listed = listedAt l.length m := by
        refine Array.ext (by simp [listedAt, hsz]; omega) (fun i h1 h2 => ?_)
        rcases Nat.lt_or_ge i m with h | h
        · have := hall i h
          simp [h1] at this
          simp [listedAt, h, this]
        · have := hlo i h (by omega)
          simp [h1] at this
          simp [listedAt, List.getElem_append, Nat.not_lt.2 h, this]
      subst hl
      exact wpAny_le (by omega) (hend x w hb (fun j hj => hp j hj (hall j hj)))

/-- The rule. -/
theorem wp_region_relyF (pu : List Nat) (m d : Nat) (F : (Nat → Value) → Act) (Φ : Nat → Value → World → Prop) {id : Nat} {a : Act} (hN : l.length = m + d) (ha : ∃ x0, a = F x0) (hm : P.follows .mixedOrders = true) (hlate : lateF l m pu = true) (hsel : Region.noSelect l.toArray = true) (hpu : ∀ p ∈ pu, PureAt P l F Φ p) (hs : StepsAt P l Q F Φ w0 m l 0)
    (hend : ∀ x w, Below w0.heap.size w0 w → (∀ j, j < m → Φ j (x j) w) → wpAny P .any l.toArray (NoPanic Q) d (listedAt (m + d) m) (F x) w) : (Code.region id l.toArray true).wp P Q a w0 := by
  obtain ⟨x0, rfl⟩ := ha
  refine wp_region_noPanic (wp_region_any hm ?_)
  refine rely_anyF m pu hlate hsel hs hpu (fun x w h1 h2 => ?_) _ _ (List.range m) x0 _ (by simp) (fun k _ h => by simp [h]) (fun j hj _ => List.mem_range.2 hj) (by simp; omega) (Below.refl _ _).drew (fun j hj h => ?_) (fun j hj h => ?_)
  · rw [hN, Nat.add_sub_cancel_left]
    exact hend x w h1 h2
  · have : j < l.length := by omega
    simp [this] at h
  · have : j < l.length := by omega
    simp [this] at h
end
end Go.Proofs.YtdihngkdhanhkaaGreatDoor
namespace Go.Proofs.YtdihngkdhanhkaaGreatDoor
open Go.RowKit

section
variable {P : Program} {l : List Oper} {Q : Exit → Act → World → Prop} {F : (Nat → Value) → Act} {Φ : Nat → (Nat → Value) → World → Prop} {S : Nat → (Nat → Value) → World → World → Prop} {sp : List Nat} {x0 : Nat → Value} {w0 : World}
/-- What operation i does to memory. -/
def effX (sp : List Nat) (S : Nat → (Nat → Value) → World → World → Prop) (i : Nat) (x : Nat → Value) (w w' : World) : Prop := if sp.contains i = true then S i x w w' else Below w.heap.size w w'
structure StepX (P : Program) (l : List Oper) (Q : Exit → Act → World → Prop) (F : (Nat → Value) → Act) (Φ : Nat → (Nat → Value) → World → Prop) (S : Nat → (Nat → Value) → World → World → Prop) (sp : List Nat) (x0 : Nat → Value) (w0 : World) (j : Nat) (o : Oper) : Prop where
  keep : ∀ x i v w w', i ≠ j → i ∉ clos l l.length (depsOf l j) → Φ j x w → effX sp S i x w w' → Φ i (upd x i v) w' → Φ j (upd x i v) w'
  put : ∀ x v, (F x).put o.dst v = F (upd x j v)
  step : ∀ x w, Below w0.heap.size w0 w → x j = x0 j → (∀ k, waitsB .any l.toArray j k = true → Φ k x w) →
    wpOp P l.toArray (NoPanic Q) j (fun a' w' => ∃ v, a' = (F x).put o.dst v ∧ Below w0.heap.size w w' ∧ effX sp S j x w w' ∧ Φ j (upd x j v) w') (F x) w
def StepsX (P : Program) (l : List Oper) (Q : Exit → Act → World → Prop) (F : (Nat → Value) → Act) (Φ : Nat → (Nat → Value) → World → Prop) (S : Nat → (Nat → Value) → World → World → Prop) (sp : List Nat) (x0 : Nat → Value) (w0 : World) : Nat → List Oper → Nat → Prop
  | 0, _, _ => True
  | _ + 1, [], _ => True
  | n + 1, o :: r, j => StepX P l Q F Φ S sp x0 w0 j o ∧ StepsX P l Q F Φ S sp x0 w0 n r (j + 1)
theorem StepsX.done {r : List Oper} {j : Nat} : StepsX P l Q F Φ S sp x0 w0 0 r j := trivial
theorem StepsX.get : ∀ (n : Nat) (r : List Oper) (j : Nat), StepsX P l Q F Φ S sp x0 w0 n r j → ∀ i o, i < n → r[i]? = some o → StepX P l Q F Φ S sp x0 w0 (j + i) o
  | 0, _, _, _, i, _, hi, _ => by omega
  | n + 1, [], _, _, i, _, _, ho => by simp at ho
  | n + 1, o :: r, j, h, 0, o', _, ho => by simp at ho; subst ho; exact h.1
  | n + 1, o :: r, j, h, i + 1, o', hi, ho => by
    have := StepsX.get n r (j + 1) h.2 i o' (by omega) (by simpa using ho)
    rwa [show j + 1 + i = j + (i + 1) by omega] at this
/-- An operation whose predicate is any. -/
theorem StepsX.cons (j : Nat) {n : Nat} {o : Oper} {r : List Oper} (hk : ∀ x i v w w', i ≠ j → i ∉ clos l l.length (depsOf l j) → Φ j x w → effX sp S i x w w' → Φ i (upd x i v) w' → Φ j (upd x i v) w') (hp : ∀ x v, (F x).put o.dst v = F (upd x j v)) (ho : l[j]? = some o) (hw : o.guard = none)
    (h : ∀ x w, Below w0.heap.size w0 w → x j = x0 j → (∀ k, waitsB .any l.toArray j k = true → Φ k x w) → ∀ K : Act → World → Prop, Shut (∀ v w', Below w0.heap.size w w' → effX sp S j x w w' → Φ j (upd x j v) w' → K ((F x).put o.dst v) w') → Oper.wp P o (F x) w K (NoPanic Q))
    (hr : StepsX P l Q F Φ S sp x0 w0 n r (j + 1)) : StepsX P l Q F Φ S sp x0 w0 (n + 1) (o :: r) j := by
  refine ⟨⟨hk, hp, fun x w hb hx hd => ?_⟩, hr⟩
  unfold wpOp
  rw [show l.toArray[j]? = some o by simpa using ho]
  have hwt : Region.wanted o (yielded l.toArray (F x).tmps) = true := by simp [Region.wanted, hw]
  simp only [hwt, if_true]
  exact .inl (h x w hb hx hd _ fun v w' h1 h2 h3 => ⟨v, rfl, h1, h2, h3⟩)
/-- An operation whose value, and its memory, are kept under growth and under S. -/
theorem StepsX.row (j : Nat) (φ : Value → World → Prop) {n : Nat} {o : Oper} {r : List Oper} (hφ : Φ j = fun x w => φ (x j) w) (hjp : sp.contains j = false) (hk1 : ∀ v w w', φ v w → Below w.heap.size w w' → φ v w') (hk2 : ∀ i v x w w', sp.contains i = true → φ v w → S i x w w' → φ v w')
    (hp : ∀ x v, (F x).put o.dst v = F (upd x j v)) (ho : l[j]? = some o) (hw : o.guard = none)
    (h : ∀ x w, Below w0.heap.size w0 w → (∀ k, waitsB .any l.toArray j k = true → Φ k x w) → ∀ K : Act → World → Prop, Shut (∀ v w', Below w.heap.size w w' → φ v w' → K ((F x).put o.dst v) w') → Oper.wp P o (F x) w K (NoPanic Q))
    (hr : StepsX P l Q F Φ S sp x0 w0 n r (j + 1)) : StepsX P l Q F Φ S sp x0 w0 (n + 1) (o :: r) j := by
  refine StepsX.cons j (fun x i v w w' hij _ h1 h2 _ => ?_) hp ho hw (fun x w hb _ hd K hK => h x w hb hd K fun v w' h1 h2 => hK.out v w' (h1.mono hb.size) ?_ ?_) hr
  · rw [hφ] at h1 ⊢
    show φ (upd x i v j) w'
    rw [upd_ne _ _ _ _ (Ne.symm hij)]
    unfold effX at h2
    split at h2
    · rename_i hsp
      exact hk2 _ _ _ _ _ hsp h1 h2
    · exact hk1 _ _ _ h1 h2
  · unfold effX
    rw [if_neg (by rw [hjp]; simp)]
    exact h1
  · rw [hφ]
    show φ (upd x j v j) w'
    rw [upd_same]
    exact h2
/-- An operation whose value is known. -/
theorem StepsX.val (j : Nat) (v : Value) {n : Nat} {o : Oper} {r : List Oper} (hφ : Φ j = fun x w => eqV v (x j) w) (hjp : sp.contains j = false) (hp : ∀ x v, (F x).put o.dst v = F (upd x j v)) (ho : l[j]? = some o) (hw : o.guard = none)
    (h : ∀ x w, Below w0.heap.size w0 w → (∀ k, waitsB .any l.toArray j k = true → Φ k x w) → (execOp (F x).eval o).run P w = .ok (.value v) w)
    (hr : StepsX P l Q F Φ S sp x0 w0 n r (j + 1)) : StepsX P l Q F Φ S sp x0 w0 (n + 1) (o :: r) j := by
  refine StepsX.row j (eqV v) hφ hjp (fun _ _ _ h _ => h) (fun _ _ _ _ _ _ h _ => h) hp ho hw (fun x w hb hd K hK => ?_) hr
  unfold Oper.wp
  rw [h x w hb hd]
  exact hK.out v w (Below.refl _ _) rfl
end
end Go.Proofs.YtdihngkdhanhkaaGreatDoor
namespace Go.Proofs.YtdihngkdhanhkaaGreatDoor
open Go.RowKit

end Go.Proofs.YtdihngkdhanhkaaGreatDoor
namespace Go.Proofs.YtdihngkdhanhkaaGreatDoor
open Go.RowKit

section
variable {P : Program} {l : List Oper} {Q : Exit → Act → World → Prop} {F : (Nat → Value) → Act} {Φ : Nat → (Nat → Value) → World → Prop} {S : Nat → (Nat → Value) → World → World → Prop} {sp : List Nat} {x0 : Nat → Value} {w0 : World}
structure StepZ (m : Nat) (P : Program) (l : List Oper) (Q : Exit → Act → World → Prop) (F : (Nat → Value) → Act) (Φ : Nat → (Nat → Value) → World → Prop) (S : Nat → (Nat → Value) → World → World → Prop) (sp : List Nat) (x0 : Nat → Value) (w0 : World) (j : Nat) (o : Oper) : Prop where
  keep : ∀ x i v w w', i ≠ j → i ∉ clos l l.length (depsOf l j) → Φ j x w → effX sp S i x w w' → Φ i (upd x i v) w' → Φ j (upd x i v) w'
  put : ∀ x v, (F x).put o.dst v = F (upd x j v)
  step : ∀ x w, Below w0.heap.size w0 w → x j = x0 j → (∀ k, waitsB .any l.toArray j k = true → Φ k x w) → (∀ k, k < m → x k = x0 k ∨ Φ k x w) →
    wpOp P l.toArray (NoPanic Q) j (fun a' w' => ∃ v, a' = (F x).put o.dst v ∧ Below w0.heap.size w w' ∧ effX sp S j x w w' ∧ Φ j (upd x j v) w') (F x) w
def StepsZ (m : Nat) (P : Program) (l : List Oper) (Q : Exit → Act → World → Prop) (F : (Nat → Value) → Act) (Φ : Nat → (Nat → Value) → World → Prop) (S : Nat → (Nat → Value) → World → World → Prop) (sp : List Nat) (x0 : Nat → Value) (w0 : World) : Nat → List Oper → Nat → Prop
  | 0, _, _ => True
  | _ + 1, [], _ => True
  | n + 1, o :: r, j => StepZ m P l Q F Φ S sp x0 w0 j o ∧ StepsZ m P l Q F Φ S sp x0 w0 n r (j + 1)
theorem StepsZ.done {m : Nat} {r : List Oper} {j : Nat} : StepsZ m P l Q F Φ S sp x0 w0 0 r j := trivial
theorem StepsZ.get {m : Nat} : ∀ (n : Nat) (r : List Oper) (j : Nat), StepsZ m P l Q F Φ S sp x0 w0 n r j → ∀ i o, i < n → r[i]? = some o → StepZ m P l Q F Φ S sp x0 w0 (j + i) o
  | 0, _, _, _, i, _, hi, _ => by omega
  | n + 1, [], _, _, i, _, _, ho => by simp at ho
  | n + 1, o :: r, j, h, 0, o', _, ho => by simp at ho; subst ho; exact h.1
  | n + 1, o :: r, j, h, i + 1, o', hi, ho => by
    have := StepsZ.get n r (j + 1) h.2 i o' (by omega) (by simpa using ho)
    rwa [show j + 1 + i = j + (i + 1) by omega] at this
/-- An operation whose predicate is any. -/
theorem StepsZ.cons {m : Nat} (j : Nat) {n : Nat} {o : Oper} {r : List Oper} (hk : ∀ x i v w w', i ≠ j → i ∉ clos l l.length (depsOf l j) → Φ j x w → effX sp S i x w w' → Φ i (upd x i v) w' → Φ j (upd x i v) w') (hp : ∀ x v, (F x).put o.dst v = F (upd x j v)) (ho : l[j]? = some o) (hw : o.guard = none)
    (h : ∀ x w, Below w0.heap.size w0 w → x j = x0 j → (∀ k, waitsB .any l.toArray j k = true → Φ k x w) → (∀ k, k < m → x k = x0 k ∨ Φ k x w) → ∀ K : Act → World → Prop, Shut (∀ v w', Below w0.heap.size w w' → effX sp S j x w w' → Φ j (upd x j v) w' → K ((F x).put o.dst v) w') → Oper.wp P o (F x) w K (NoPanic Q))
    (hr : StepsZ m P l Q F Φ S sp x0 w0 n r (j + 1)) : StepsZ m P l Q F Φ S sp x0 w0 (n + 1) (o :: r) j := by
  refine ⟨⟨hk, hp, fun x w hb hx hd hs9 => ?_⟩, hr⟩
  unfold wpOp
  rw [show l.toArray[j]? = some o by simpa using ho]
  have hwt : Region.wanted o (yielded l.toArray (F x).tmps) = true := by simp [Region.wanted, hw]
  simp only [hwt, if_true]
  exact .inl (h x w hb hx hd hs9 _ fun v w' h1 h2 h3 => ⟨v, rfl, h1, h2, h3⟩)
/-- An operation whose value is known. -/
theorem StepsZ.val {m : Nat} (j : Nat) (v : Value) {n : Nat} {o : Oper} {r : List Oper} (hφ : Φ j = fun x w => eqV v (x j) w) (hjp : sp.contains j = false) (hp : ∀ x v, (F x).put o.dst v = F (upd x j v)) (ho : l[j]? = some o) (hw : o.guard = none)
    (h : ∀ x w, Below w0.heap.size w0 w → (∀ k, waitsB .any l.toArray j k = true → Φ k x w) → (execOp (F x).eval o).run P w = .ok (.value v) w)
    (hr : StepsZ m P l Q F Φ S sp x0 w0 n r (j + 1)) : StepsZ m P l Q F Φ S sp x0 w0 (n + 1) (o :: r) j := by
  refine StepsZ.cons j (fun x i v' w w' hij _ h1 _ _ => ?_) hp ho hw (fun x w hb _ hd _ K hK => ?_) hr
  · rw [hφ] at h1 ⊢
    show eqV v (upd x i v' j) w'
    rw [upd_ne _ _ _ _ (Ne.symm hij)]
    exact h1
  · unfold Oper.wp
    rw [h x w hb hd]
    refine hK.out v w (Below.refl _ _) ?_ ?_
    · unfold effX
      rw [if_neg (by rw [hjp]; simp)]
      exact Below.refl _ _
    · rw [hφ]
      show eqV v (upd x j v j) w
      rw [upd_same]
      rfl
theorem StepsZ.skip {m : Nat} (j : Nat) {n : Nat} {o : Oper} {r : List Oper} (hφ : Φ j = fun x w => eqV undef (x j) w) (hjp : sp.contains j = false) (hp : ∀ x v, (F x).put o.dst v = F (upd x j v)) (ho : l[j]? = some o)
    (hw : ∀ x w, (∀ k, waitsB .any l.toArray j k = true → Φ k x w) → Region.wanted o (yielded l.toArray (F x).tmps) = false)
    (hr : StepsZ m P l Q F Φ S sp x0 w0 n r (j + 1)) : StepsZ m P l Q F Φ S sp x0 w0 (n + 1) (o :: r) j := by
  refine ⟨⟨fun x i v w w' hij _ h1 _ _ => ?_, hp, fun x w hb hx hd hs9 => ?_⟩, hr⟩
  · rw [hφ] at h1 ⊢
    show eqV undef (upd x i v j) w'
    rw [upd_ne _ _ _ _ (Ne.symm hij)]
    exact h1
  · unfold wpOp
    rw [show l.toArray[j]? = some o by simpa using ho]
    simp only [hw x w hd, Bool.false_eq_true, if_false]
    refine ⟨undef, rfl, Below.refl _ _, ?_, ?_⟩
    · unfold effX
      rw [if_neg (by rw [hjp]; simp)]
      exact Below.refl _ _
    · rw [hφ]
      show eqV undef (upd x j undef j) w
      rw [upd_same]
      rfl
end
/-- Bytes as rows. -/
def U8K : RowK UInt8 := { enc := fun b => [.int .u8 (b.toNat : Int)], k := 1, d := 0, len := fun _ => rfl, one := fun _ u hu => by simp only [List.mem_cons, List.not_mem_nil, or_false] at hu; subst hu; rfl, pos := by decide }
theorem rowsU8 (l : List UInt8) : rowsE U8K l = bys l := by
  unfold rowsE bys
  induction l with
  | nil => rfl
  | cons b r ih =>
    rw [List.flatMap_cons, ih]
    rfl
theorem Own.toE {e : TypeId} {w : World} {B : Nat} {v : Value} {l : List UInt8} (h : Own e w B v l) : OwnE U8K e w B v l := by
  unfold OwnE
  rw [rowsU8]
  exact h
theorem Rd.toE {B : Nat} {w : World} {v : Value} {l : List UInt8} (h : Rd B w v l) : RdE U8K B w v l := by
  obtain ⟨A, c, hv, hc, hm, hn, hr⟩ := h
  refine ⟨A, c, hv, hc, hm, hn, fun a ha => ⟨(hr a ha).1, fun j u hu => ?_⟩⟩
  rw [rowsU8] at hu
  have hj : j < l.length := by
    have := (List.getElem?_eq_some_iff.1 hu).1
    simpa [bys] using this
  rw [(hr a ha).2 j hj]
  simp [bys, hj] at hu
  rw [← hu]
theorem Own.belowB {e : TypeId} {w w' : World} {base B : Nat} {v : Value} {l : List UInt8} (h : Own e w base v l) (hb : Below B w w') (hB : w.heap.size ≤ B) : Own e w' base v l := by
  refine ⟨h.1, ?_⟩
  rcases h.2 with hn | ⟨g, cap, cur, rfl, hg0, hg, r⟩
  · exact .inl hn
  · have hlt : g < w.heap.size := (Array.getElem?_eq_some_iff.1 hg).1
    exact .inr ⟨g, cap, cur, rfl, hg0, by rw [hb.block g (by omega)]; exact hg, r⟩
/-- The bytes that an append gave. -/
def BackB (e : TypeId) (B : Nat) (l : List UInt8) (a : Value) (w : World) : Prop := (∃ A n c, a = .slice A n c) ∧ Own e w B a l
theorem BackB.keep {e : TypeId} {B : Nat} {l : List UInt8} {a : Value} {w w' : World} (h : BackB e B l a w) (hb : Below w.heap.size w w') : BackB e B l a w' := ⟨h.1, h.2.belowB hb (Nat.le_refl _)⟩
end Go.Proofs.YtdihngkdhanhkaaGreatDoor
