/-
  A region whose order is left open and whose last operation (number m) waits for all others, of no program: a condition S on the world holds behind every operation but that last one, so what yields its value in every world that meets S may be taken first, also where the last operation writes what the region reads.
-/
import Derived.Deep.RegionHeld3
import Derived.Deep.RegionLawGrows
import Derived.Test.YtejeefkoalbcmaaArr
namespace Go.Proofs.Ytejeefkoalbcmaa
open Go.RowKit
section
variable {P : Program} {ops : Array Oper} {Q : Exit → Act → World → Prop} {md : Region.Mode} {S : World → Prop} {m : Nat}

/-- Whatever order is picked from here on; S holds behind each operation till number m has come up. -/
def AnyTill (P : Program) (md : Region.Mode) (ops : Array Oper) (Q : Exit → Act → World → Prop) (S : World → Prop) (m : Nat) : Nat → Array Bool → Act → World → Prop
  | 0, listed, a, w => Region.ready md ops listed = [] ∧ Q .normal a w
  | n + 1, listed, a, w => (Region.ready md ops listed = [] → Q .normal a w) ∧
      ∀ i ∈ Region.ready md ops listed, wpOp P ops Q i (fun a' w' => ((listed.setIfInBounds i true).getD m false = true ∨ S w') ∧ AnyTill P md ops Q S m n (listed.setIfInBounds i true) a' w') a w

theorem AnyTill.any : ∀ (n : Nat) (listed : Array Bool) (a : Act) (w : World), AnyTill P md ops Q S m n listed a w → wpAny P md ops Q n listed a w
  | 0, _, _, _, h => h
  | n + 1, _, _, _, h => ⟨h.1, fun i hi => wpOp_mono (fun a' w' h' => AnyTill.any n _ a' w' h'.2) (h.2 i hi)⟩

/-- Does number m wait for number i? -/
def waitsB (md : Region.Mode) (ops : Array Oper) (m i : Nat) : Bool := match ops[m]? with
  | some o => o.after.any fun e => Region.binds md e && e.on == i
  | none => true

theorem listed_both {listed : Array Bool} {i : Nat} (hu : listed.getD i true = false) (hl : listed.getD i false = true) : False := by
  rcases Nat.lt_or_ge i listed.size with h' | h'
  · simp [h'] at hu hl; rw [hu] at hl; cases hl
  · simp [Array.getElem?_eq_none h'] at hl

theorem not_ready_of_waits {i : Nat} {listed : Array Bool} (hw : waitsB md ops m i = true) (hu : listed.getD i true = false) : m ∉ Region.ready md ops listed := fun hr => by
  obtain ⟨_, o, ho, hall⟩ := mem_ready.1 hr
  unfold waitsB at hw
  rw [ho] at hw
  obtain ⟨e, he, hb⟩ := Array.any_eq_true'.1 hw
  simp only [Bool.and_eq_true, beq_iff_eq] at hb
  have h1 := hall e he hb.1
  rw [hb.2] at h1
  exact listed_both hu h1

/-- What may come up and is not number i does not wait for number i. -/
theorem ready_not_after {i : Nat} {oj : Oper} {listed : Array Bool} (hiu : listed.getD i true = false) (hja : ∀ e ∈ oj.after, Region.binds md e = true → listed.getD e.on false = true) :
    ∀ e ∈ oj.after, Region.binds md e = true → e.on ≠ i := fun e he hb heq => by
  have h1 := hja e he hb
  rw [heq] at h1
  exact listed_both hiu h1

/-- An operation that yields its value wherever S holds may be taken first, if number m waits for it. -/
theorem AnyTill.first {i : Nat} {oi : Oper} {v : Value} (hi : ops[i]? = some oi) (hsel : Region.noSelect ops = true) (hw : waitsB md ops m i = true)
    (hQ : ∀ c a w, Q (.panic c) (a.put oi.dst v) w → Q (.panic c) a w) : ∀ (n : Nat) (listed : Array Bool) (a : Act) (w : World), listed.getD m false = false →
      (∀ j oj, ops[j]? = some oj → j ≠ i → listed.getD j true = false → (∀ e ∈ oj.after, Region.binds md e = true → e.on ≠ i) → oi.apart ops oj = true) →
      i ∈ Region.ready md ops listed → YieldsIf P ops S oi v a → S w →
      AnyTill P md ops Q S m n (listed.setIfInBounds i true) (a.put oi.dst v) w → AnyTill P md ops Q S m (n + 1) listed a w := by
  intro n
  induction n with
  | zero =>
    intro listed a w _ _ hr hy hS H
    refine ⟨fun h => absurd hr (by rw [h]; exact List.not_mem_nil), fun j hj => ?_⟩
    rcases Nat.decEq j i with hne | rfl
    · have hj' := ready_mono hj hne
      rw [H.1] at hj'
      exact absurd hj' List.not_mem_nil
    · exact hy.wpOp hi hS ⟨.inr hS, H⟩
  | succ n ih =>
    intro listed a w hml hfree hr hy hS H
    refine ⟨fun h => absurd hr (by rw [h]; exact List.not_mem_nil), fun j hj => ?_⟩
    rcases Nat.decEq j i with hne | rfl
    · obtain ⟨hju, oj, hoj, hja⟩ := mem_ready.1 hj
      have hiu := (mem_ready.1 hr).1
      have hjm : j ≠ m := fun e => not_ready_of_waits hw hiu (e ▸ hj)
      have him : i ≠ m := fun e => not_ready_of_waits hw hiu (e ▸ hr)
      have hsp := Region.noSelect_spec hsel
      have hstep := wpOp_putIf hoj (hfree j oj hoj hne hju (ready_not_after hiu hja)) (fun cs b => hsp i oi cs b hi) (fun cs b => hsp j oj cs b hoj) hQ hy (H.2 j (ready_mono hj hne))
      refine wpOp_mono (fun a' w' hk => ?_) hstep
      have hS' : S w' := hk.2.1.resolve_left (by rw [getD_set_ne false hjm, getD_set_ne false him, hml]; decide)
      refine ⟨.inr hS', ih (listed.setIfInBounds j true) a' w' (by rw [getD_set_ne false hjm]; exact hml) (fun k ok hok hki hku hkn => hfree k ok hok hki ?_ hkn) (ready_mono hr (Ne.symm hne)) hk.1 hS' ?_⟩
      · rcases Nat.decEq j k with hjk | rfl
        · rw [getD_set_ne true hjk] at hku; exact hku
        · exact hju
      · rw [Array.setIfInBounds_comm _ _ hne]
        exact hk.2.2
    · exact hy.wpOp hi hS ⟨.inr hS, H⟩

/-- An operation that yields its value in every world may be taken first. -/
theorem AnyTill.firstFree {i : Nat} {oi : Oper} {v : Value} (hi : ops[i]? = some oi) (hsel : Region.noSelect ops = true) (him : i ≠ m)
    (hQ : ∀ c a w, Q (.panic c) (a.put oi.dst v) w → Q (.panic c) a w) : ∀ (n : Nat) (listed : Array Bool) (a : Act) (w : World),
      (∀ j oj, ops[j]? = some oj → j ≠ i → listed.getD j true = false → (∀ e ∈ oj.after, Region.binds md e = true → e.on ≠ i) → oi.apart ops oj = true) →
      i ∈ Region.ready md ops listed → YieldsIf P ops (fun _ => True) oi v a → (listed.getD m false = true ∨ S w) →
      AnyTill P md ops Q S m n (listed.setIfInBounds i true) (a.put oi.dst v) w → AnyTill P md ops Q S m (n + 1) listed a w := by
  intro n
  induction n with
  | zero =>
    intro listed a w _ hr hy hS H
    refine ⟨fun h => absurd hr (by rw [h]; exact List.not_mem_nil), fun j hj => ?_⟩
    rcases Nat.decEq j i with hne | rfl
    · have hj' := ready_mono hj hne
      rw [H.1] at hj'
      exact absurd hj' List.not_mem_nil
    · exact hy.wpOp hi trivial ⟨by rw [getD_set_ne false him]; exact hS, H⟩
  | succ n ih =>
    intro listed a w hfree hr hy hS H
    refine ⟨fun h => absurd hr (by rw [h]; exact List.not_mem_nil), fun j hj => ?_⟩
    rcases Nat.decEq j i with hne | rfl
    · obtain ⟨hju, oj, hoj, hja⟩ := mem_ready.1 hj
      have hiu := (mem_ready.1 hr).1
      have hsp := Region.noSelect_spec hsel
      have hstep := wpOp_putIf hoj (hfree j oj hoj hne hju (ready_not_after hiu hja)) (fun cs b => hsp i oi cs b hi) (fun cs b => hsp j oj cs b hoj) hQ hy (H.2 j (ready_mono hj hne))
      refine wpOp_mono (fun a' w' hk => ?_) hstep
      have hS' : (listed.setIfInBounds j true).getD m false = true ∨ S w' := by
        have h := hk.2.1
        rw [Array.setIfInBounds_comm _ _ (Ne.symm hne), getD_set_ne false him] at h
        exact h
      refine ⟨hS', ih (listed.setIfInBounds j true) a' w' (fun k ok hok hki hku hkn => hfree k ok hok hki ?_ hkn) (ready_mono hr (Ne.symm hne)) hk.1 hS' ?_⟩
      · rcases Nat.decEq j k with hjk | rfl
        · rw [getD_set_ne true hjk] at hku; exact hku
        · exact hju
      · rw [Array.setIfInBounds_comm _ _ hne]
        exact hk.2.2
    · exact hy.wpOp hi trivial ⟨by rw [getD_set_ne false him]; exact hS, H⟩

/-- The first law, its conditions as closed facts. -/
theorem AnyTill.take {l : List Oper} {i : Nat} {oi : Oper} {v : Value} {n : Nat} {listed : Array Bool} {a : Act} {w : World} (hi : l[i]? = some oi) (hsel : Region.noSelect l.toArray = true) (hw : (waitsB md l.toArray m i && !listed.getD m false) = true)
    (hf : Region.free md l.toArray listed i = true) (hr : (Region.ready md l.toArray listed).contains i = true) (hQ : ∀ c a w, Q (.panic c) (a.put oi.dst v) w → Q (.panic c) a w)
    (hwt : Region.wanted oi (yielded l.toArray a.tmps) = true) (hy : ∀ w, S w → (execOp a.eval oi).run P w = .ok (.value v) w) (hS : S w)
    (h : AnyTill P md l.toArray Q S m n (listed.setIfInBounds i true) (a.put oi.dst v) w) : AnyTill P md l.toArray Q S m (n + 1) listed a w := by
  simp only [Bool.and_eq_true, Bool.not_eq_true'] at hw
  exact AnyTill.first (by simpa using hi) hsel hw.1 hQ n listed a w hw.2 (Region.free_spec (by simpa using hi) hf) (by simpa using hr) (.inl ⟨hwt, hy⟩) hS h

/-- The second law, its conditions as closed facts. -/
theorem AnyTill.free {l : List Oper} {i : Nat} {oi : Oper} {v : Value} {n : Nat} {listed : Array Bool} {a : Act} {w : World} (hi : l[i]? = some oi) (hsel : Region.noSelect l.toArray = true) (him : (i != m) = true)
    (hf : Region.free md l.toArray listed i = true) (hr : (Region.ready md l.toArray listed).contains i = true) (hQ : ∀ c a w, Q (.panic c) (a.put oi.dst v) w → Q (.panic c) a w)
    (hwt : Region.wanted oi (yielded l.toArray a.tmps) = true) (hy : ∀ w, (execOp a.eval oi).run P w = .ok (.value v) w) (hS : S w)
    (h : AnyTill P md l.toArray Q S m n (listed.setIfInBounds i true) (a.put oi.dst v) w) : AnyTill P md l.toArray Q S m (n + 1) listed a w :=
  AnyTill.firstFree (by simpa using hi) hsel (by simpa using him) hQ n listed a w (Region.free_spec (by simpa using hi) hf) (by simpa using hr) (.inl ⟨hwt, fun w _ => hy w⟩) (.inr hS) h

/-- One operation alone may come up. -/
theorem AnyTill.one {l : List Oper} {i : Nat} {o : Oper} {n : Nat} {listed : Array Bool} {a : Act} {w : World} (hr : Region.ready md l.toArray listed = [i]) (ho : l[i]? = some o) (hwt : Region.wanted o (yielded l.toArray a.tmps) = true)
    (h : ∀ K : Act → World → Prop, Shut (∀ a' w', ((listed.setIfInBounds i true).getD m false = true ∨ S w') → AnyTill P md l.toArray Q S m n (listed.setIfInBounds i true) a' w' → K a' w') → Oper.wp P o a w K Q) : AnyTill P md l.toArray Q S m (n + 1) listed a w := by
  refine ⟨fun h0 => (by rw [hr] at h0; cases h0), fun j hj => ?_⟩
  rw [hr, List.mem_singleton] at hj
  subst hj
  unfold wpOp
  rw [show l.toArray[j]? = some o by simpa using ho]
  simp only [hwt, if_true]
  exact .inl (h _ fun a' w' h1 h2 => ⟨h1, h2⟩)

/-- Two operations may come up. -/
theorem AnyTill.two {l : List Oper} {i j : Nat} {o o' : Oper} {n : Nat} {listed : Array Bool} {a : Act} {w : World} (hr : Region.ready md l.toArray listed = [i, j]) (ho : l[i]? = some o) (ho' : l[j]? = some o')
    (hwt : Region.wanted o (yielded l.toArray a.tmps) = true) (hwt' : Region.wanted o' (yielded l.toArray a.tmps) = true)
    (h : ∀ K : Act → World → Prop, Shut (∀ a' w', ((listed.setIfInBounds i true).getD m false = true ∨ S w') → AnyTill P md l.toArray Q S m n (listed.setIfInBounds i true) a' w' → K a' w') → Oper.wp P o a w K Q)
    (h' : ∀ K : Act → World → Prop, Shut (∀ a' w', ((listed.setIfInBounds j true).getD m false = true ∨ S w') → AnyTill P md l.toArray Q S m n (listed.setIfInBounds j true) a' w' → K a' w') → Oper.wp P o' a w K Q) : AnyTill P md l.toArray Q S m (n + 1) listed a w := by
  refine ⟨fun h0 => (by rw [hr] at h0; cases h0), fun k hk => ?_⟩
  rw [hr] at hk
  simp only [List.mem_cons, List.not_mem_nil, or_false] at hk
  rcases hk with rfl | rfl
  · unfold wpOp
    rw [show l.toArray[k]? = some o by simpa using ho]
    simp only [hwt, if_true]
    exact .inl (h _ fun a' w' h1 h2 => ⟨h1, h2⟩)
  · unfold wpOp
    rw [show l.toArray[k]? = some o' by simpa using ho']
    simp only [hwt', if_true]
    exact .inl (h' _ fun a' w' h1 h2 => ⟨h1, h2⟩)

/-- A new variable, as one step. -/
theorem wp_alloc_blk {o : Oper} {a : Act} {w : World} {K : Act → World → Prop} (t : TypeId) (ho : o.op = .alloc t) (z : List Value) (hz : (P.info? t).map (·.zero) = some (some (.agg z.toArray)))
    (h : ∀ w1, Blk w1 w.heap.size z t → w1.heap.size = w.heap.size + 1 → Below w.heap.size w w1 → K (a.put o.dst (.pointer (some ⟨w.heap.size, 0, none⟩))) w1) : o.wp P a w K Q := by
  have hzero : (zeroValue t).run P w = .ok (.agg z.toArray) w := by
    cases hq : P.info? t with
    | none => simp [hq] at hz
    | some i => simp [hq] at hz; simp [zeroValue, typeInfo, hq, hz]
  unfold Oper.wp execOp
  simp only [ho, Sem.run_bind, Instr.alloc, hzero, newVar, newRow, run_newObj_alloc, Sem.run_pure, Result.andThen_ok]
  exact h _ (heap_alloc_new w _) (by simp) ((Below.refl _ _).alloc (Nat.le_refl _) _)

/-- All have come up. -/
theorem AnyTill.done {listed : Array Bool} {a : Act} {w : World} (hr : Region.ready md ops listed = []) (h : Q .normal a w) : AnyTill P md ops Q S m 0 listed a w := ⟨hr, h⟩

/-- The beginning. -/
theorem wp_region_till (N m : Nat) (S : World → Prop) {id : Nat} {a : Act} {w : World} (hm : P.follows .mixedOrders = true) (hN : ops.size = N)
    (h : AnyTill P .any ops (NoPanic Q) S m N (Array.replicate N false) a w.drew) : (Code.region id ops true).wp P Q a w := by
  subst hN
  exact wp_region_noPanic (wp_region_any hm (AnyTill.any _ _ _ _ h))

/-- A whole array is read. -/
theorem run_load_blk {o : Oper} {a : Act} {w : World} (t : TypeId) (x : Operand) (ho : o.op = .load t x) (g : Nat) (hx : a.eval x = .pointer (some ⟨g, 0, none⟩)) (cs : List Value) (u : TypeId) (hb : Blk w g cs u)
    (n : Nat) (e : TypeId) (hu : P.underlying t = some (.array n e)) (hi : (P.info? t).map (·.size) = some cs.length) : (execOp a.eval o).run P w = .ok (.value (.agg cs.toArray)) w := by
  unfold execOp
  simp only [ho, hx, Instr.loadAt, Instr.sureAddr, Sem.run_bind, Sem.run_pure, Result.andThen_ok, run_loadVar_row w g u t cs.toArray (0, 0) _ hb hu rfl (by simpa using hi)]
/-- append of some bytes onto a slice that has no spare capacity: the bytes lie in new memory. -/
theorem wp_grow {o : Oper} {a : Act} {w : World} {K : Act → World → Prop} (hg : o.guard = none) (s x : Operand) (t : TypeId) (ho : o.op = .call { callee := .builtin .append, args := #[s, x], argTypes := #[t, t] })
    (e : TypeId) (i : TypeInfo) (ht : P.underlying t = some (.slice e)) (hi : P.info? e = some i) (hz : i.zero = some (.int .u8 0)) (hsize : i.size = 1) (hby : i.bytes = 1)
    (B B2 : Nat) (A : Option Addr) (n : Nat) (v2 : Value) (l l2 : List UInt8) (hs : a.eval s = .slice A n n) (hr : Rd B w (.slice A n n) l) (hx : a.eval x = v2) (hr2 : Rd B2 w v2 l2) (h2 : 0 < l2.length) (hlen : l.length + l2.length ≤ 140737488355328)
    (h : ∀ v' w', Own e w' w.heap.size v' (l ++ l2) → Below w.heap.size w w' → K (a.put o.dst v') w') : o.wp P a w K Q := by
  obtain ⟨A', c', hv, hc, hm, hn, hcell⟩ := hr
  injection hv with e1 e2 e3
  subst e1 e2 e3
  obtain ⟨A2, c2, rfl, hc2, hm2, hn2, hcell2⟩ := hr2
  obtain ⟨ad, rfl⟩ : ∃ ad, A2 = some ad := by
    cases A2 with
    | none => have := hn2 rfl; omega
    | some ad => exact ⟨ad, rfl⟩
  have hstep := step_append_grows (P := P) (ops := #[]) (o := o) (a := a) (w := w) (K := K) (Q := Q) (E := True) hg s x t ho e i (.int .u8 0) 1 1 ht hi hz hsize hby rfl (by decide)
    A l.length l.length (bys l) hs (fun hnone => ⟨hn hnone, hn hnone⟩) (by rw [bys_length, Nat.mul_one]) (fun b hb j u hu => by obtain ⟨hj, rfl⟩ := bys_at l j u hu; exact (hcell b hb).2 j hj)
    ad l2.length c2 (bys l2) hx (by rw [bys_length, Nat.mul_one]) (fun j u hu => by obtain ⟨hj, rfl⟩ := bys_at l2 j u hu; exact (hcell2 ad rfl).2 j hj) (bys_one l2) (by omega) (by unfold maxLen; omega) (by omega)
    (fun v' w' r1 r2 => h v' w' (by unfold Own; rw [List.length_append, bys_append]; exact r1) ((Below.refl _ _).grown r2 (Nat.le_refl _) (fun k hk => by cases hk)))
  have hw : Region.wanted o (yielded #[] a.tmps) = true := by simp [Region.wanted, hg]
  rw [if_pos hw] at hstep
  exact hstep
/-- A whole array is written. -/
theorem wp_store_blk {o : Oper} {a : Act} {w : World} {K : Act → World → Prop} (t : TypeId) (x y : Operand) (ho : o.op = .store t x y) (g : Nat) (cs old : List Value) (u : TypeId) (hx : a.eval x = .pointer (some ⟨g, 0, none⟩)) (hy : a.eval y = .agg cs.toArray)
    (hb : Blk w g old u) (hi : (P.info? t).map (·.size) = some cs.length) (hl : old.length = cs.length) (h1 : cs.toArray.all (·.oneCell') = true)
    (h : K (a.put o.dst undef) (w.setRow g cs.toArray)) : o.wp P a w K Q :=
  wp_store_row t x y ho g cs.toArray hx hy u old.toArray hb (by simpa using hi) (by simpa using hl) h1 h
end
end Go.Proofs.Ytejeefkoalbcmaa
