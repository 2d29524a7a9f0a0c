/-
  Texts RY RT IT IN.
-/
import Derived.Test.YtdihngkdhanhkaaGreatDoorZ12
import Derived.Test.YtdihngkdhanhkaaGreatDoorZ13
import Derived.Test.YtdihngkdhanhkaaGreatDoorZ14
import Derived.Test.YtdihngkdhanhkaaGreatDoorZ16
import Derived.Test.YtdihngkdhanhkaaGreatDoorZ18
namespace Go.Proofs.YtdihngkdhanhkaaGreatDoor
open Go.RowKit

section
variable {P : Program} {l : List Oper} {Q : Exit → Act → World → Prop} {F : (Nat → Value) → Act} {Φ : Nat → (Nat → Value) → World → Prop} {S : Nat → (Nat → Value) → World → World → Prop} {sp : List Nat} {x0 : Nat → Value} {I : World → Prop}
structure StepY (m : Nat) (P : Program) (l : List Oper) (Q : Exit → Act → World → Prop) (F : (Nat → Value) → Act) (Φ : Nat → (Nat → Value) → World → Prop) (S : Nat → (Nat → Value) → World → World → Prop) (sp : List Nat) (x0 : Nat → Value) (I : World → Prop) (j : Nat) (o : Oper) : Prop where
  keep : ∀ x i v w w', i ≠ j → i ∉ clos l l.length (depsOf l j) → Φ j x w → effX sp S i x w w' → Φ i (upd x i v) w' → Φ j (upd x i v) w'
  put : ∀ x v, (F x).put o.dst v = F (upd x j v)
  step : ∀ x w, I w → x j = x0 j → (∀ k, waitsB .any l.toArray j k = true → Φ k x w) → (∀ k, k < m → x k = x0 k ∨ Φ k x w) →
    wpOp P l.toArray (NoPanic Q) j (fun a' w' => ∃ v, a' = (F x).put o.dst v ∧ I w' ∧ effX sp S j x w w' ∧ Φ j (upd x j v) w') (F x) w
def StepsY (m : Nat) (P : Program) (l : List Oper) (Q : Exit → Act → World → Prop) (F : (Nat → Value) → Act) (Φ : Nat → (Nat → Value) → World → Prop) (S : Nat → (Nat → Value) → World → World → Prop) (sp : List Nat) (x0 : Nat → Value) (I : World → Prop) : Nat → List Oper → Nat → Prop
  | 0, _, _ => True
  | _ + 1, [], _ => True
  | n + 1, o :: r, j => StepY m P l Q F Φ S sp x0 I j o ∧ StepsY m P l Q F Φ S sp x0 I n r (j + 1)
theorem StepsY.done {m : Nat} {r : List Oper} {j : Nat} : StepsY m P l Q F Φ S sp x0 I 0 r j := trivial
theorem StepsY.get {m : Nat} : ∀ (n : Nat) (r : List Oper) (j : Nat), StepsY m P l Q F Φ S sp x0 I n r j → ∀ i o, i < n → r[i]? = some o → StepY m P l Q F Φ S sp x0 I (j + i) o
  | 0, _, _, _, i, _, hi, _ => by omega
  | n + 1, [], _, _, i, _, _, ho => by simp at ho
  | n + 1, o :: r, j, h, 0, o', _, ho => by simp at ho; subst ho; exact h.1
  | n + 1, o :: r, j, h, i + 1, o', hi, ho => by
    have := StepsY.get n r (j + 1) h.2 i o' (by omega) (by simpa using ho)
    rwa [show j + 1 + i = j + (i + 1) by omega] at this
/-- An operation whose predicate is any. -/
theorem StepsY.cons {m : Nat} (j : Nat) {n : Nat} {o : Oper} {r : List Oper} (hk : ∀ x i v w w', i ≠ j → i ∉ clos l l.length (depsOf l j) → Φ j x w → effX sp S i x w w' → Φ i (upd x i v) w' → Φ j (upd x i v) w') (hp : ∀ x v, (F x).put o.dst v = F (upd x j v)) (ho : l[j]? = some o) (hw : o.guard = none)
    (h : ∀ x w, I w → x j = x0 j → (∀ k, waitsB .any l.toArray j k = true → Φ k x w) → (∀ k, k < m → x k = x0 k ∨ Φ k x w) → ∀ K : Act → World → Prop, Shut (∀ v w', I w' → effX sp S j x w w' → Φ j (upd x j v) w' → K ((F x).put o.dst v) w') → Oper.wp P o (F x) w K (NoPanic Q))
    (hr : StepsY m P l Q F Φ S sp x0 I n r (j + 1)) : StepsY m P l Q F Φ S sp x0 I (n + 1) (o :: r) j := by
  refine ⟨⟨hk, hp, fun x w hb hx hd hs9 => ?_⟩, hr⟩
  unfold wpOp
  rw [show l.toArray[j]? = some o by simpa using ho]
  have hwt : Region.wanted o (yielded l.toArray (F x).tmps) = true := by simp [Region.wanted, hw]
  simp only [hwt, if_true]
  exact .inl (h x w hb hx hd hs9 _ fun v w' h1 h2 h3 => ⟨v, rfl, h1, h2, h3⟩)
/-- An operation whose value is known. -/
theorem StepsY.val {m : Nat} (j : Nat) (v : Value) {n : Nat} {o : Oper} {r : List Oper} (hφ : Φ j = fun x w => eqV v (x j) w) (hjp : sp.contains j = false) (hp : ∀ x v, (F x).put o.dst v = F (upd x j v)) (ho : l[j]? = some o) (hw : o.guard = none)
    (h : ∀ x w, I w → (∀ k, waitsB .any l.toArray j k = true → Φ k x w) → (execOp (F x).eval o).run P w = .ok (.value v) w)
    (hr : StepsY m P l Q F Φ S sp x0 I n r (j + 1)) : StepsY m P l Q F Φ S sp x0 I (n + 1) (o :: r) j := by
  refine StepsY.cons j (fun x i v' w w' hij _ h1 _ _ => ?_) hp ho hw (fun x w hb _ hd _ K hK => ?_) hr
  · rw [hφ] at h1 ⊢
    show eqV v (upd x i v' j) w'
    rw [upd_ne _ _ _ _ (Ne.symm hij)]
    exact h1
  · unfold Oper.wp
    rw [h x w hb hd]
    refine hK.out v w hb ?_ ?_
    · unfold effX
      rw [if_neg (by rw [hjp]; simp)]
      exact Below.refl _ _
    · rw [hφ]
      show eqV v (upd x j v j) w
      rw [upd_same]
      rfl
theorem StepsY.skip {m : Nat} (j : Nat) {n : Nat} {o : Oper} {r : List Oper} (hφ : Φ j = fun x w => eqV undef (x j) w) (hjp : sp.contains j = false) (hp : ∀ x v, (F x).put o.dst v = F (upd x j v)) (ho : l[j]? = some o)
    (hw : ∀ x w, (∀ k, waitsB .any l.toArray j k = true → Φ k x w) → Region.wanted o (yielded l.toArray (F x).tmps) = false)
    (hr : StepsY m P l Q F Φ S sp x0 I n r (j + 1)) : StepsY m P l Q F Φ S sp x0 I (n + 1) (o :: r) j := by
  refine ⟨⟨fun x i v w w' hij _ h1 _ _ => ?_, hp, fun x w hb hx hd hs9 => ?_⟩, hr⟩
  · rw [hφ] at h1 ⊢
    show eqV undef (upd x i v j) w'
    rw [upd_ne _ _ _ _ (Ne.symm hij)]
    exact h1
  · unfold wpOp
    rw [show l.toArray[j]? = some o by simpa using ho]
    simp only [hw x w hd, Bool.false_eq_true, if_false]
    refine ⟨undef, rfl, hb, ?_, ?_⟩
    · unfold effX
      rw [if_neg (by rw [hjp]; simp)]
      exact Below.refl _ _
    · rw [hφ]
      show eqV undef (upd x j undef j) w
      rw [upd_same]
      rfl
end
end Go.Proofs.YtdihngkdhanhkaaGreatDoor
namespace Go.Proofs.YtdihngkdhanhkaaGreatDoor
open Go.RowKit

theorem mem_at {α : Type} {L : List α} (n : Nat) {p : α} (h : L[n]? = some p) : p ∈ L := List.mem_of_getElem? h
/-- What is known of the slots that were written. -/
def Knows (x : Nat → Value) (L : List (Nat × Value)) : Prop := ∀ p ∈ L, x p.1 = p.2
theorem Knows.nil (x : Nat → Value) : Knows x [] := fun _ h => by cases h
theorem Knows.at_ {x : Nat → Value} {L : List (Nat × Value)} (h : Knows x L) (n : Nat) {k : Nat} {v : Value} (e : L[n]? = some (k, v)) : x k = v := h (k, v) (mem_at n e)
theorem Knows.add {x : Nat → Value} {L : List (Nat × Value)} (h : Knows x L) (i : Nat) (v : Value) (hi : (L.all fun p => p.1 != i) = true) : Knows (upd x i v) ((i, v) :: L) := by
  intro p hp
  rcases List.mem_cons.1 hp with rfl | hp
  · exact upd_same _ _ _
  · have := (List.all_eq_true.1 hi) p hp
    rw [upd_ne _ _ _ _ (by simpa using this)]
    exact h p hp

/-- The operation writes these cells, from j on, of block g. -/
def StoresTo (P : Program) (o : Oper) (a : Act) (g j : Nat) (vs : List Value) : Prop :=
  ∃ t x y, o.op = .store t x y ∧ o.guard = none ∧ o.dst = none ∧ a.eval x = .pointer (some ⟨g, j, none⟩) ∧ (a.eval y = .agg vs.toArray ∨ vs = [a.eval y]) ∧ (P.info? t).map (·.size) = some vs.length ∧ vs.toArray.all (·.oneCell') = true
section
variable {P : Program} {l : List Oper} {Q : Exit → Act → World → Prop} {md : Region.Mode} {S : World → Prop} {m : Nat} {F : (Nat → Value) → Act}
theorem wp_storesTo {o : Oper} {a : Act} {w : World} {K : Act → World → Prop} {g j : Nat} {cs vs : List Value} {u : TypeId} (h : StoresTo P o a g j vs) (hb : Blk w g cs u) (hj : j + vs.length ≤ cs.length)
    (hk : ∀ w', Blk w' g (putL cs j vs) u → w'.heap.size = w.heap.size → Below g w w' → (∀ k, k ≠ g → w'.heap[k]? = w.heap[k]?) → K a w') : Oper.wp P o a w K Q := by
  obtain ⟨t, x, y, ho, _, hd, hx, hy, hi, h1⟩ := h
  have hput : a.put o.dst undef = a := by rw [hd]; rfl
  rcases hy with hy | hy
  · refine wp_store_mid t x y ho g j vs.toArray hx hy (by simpa using hb.thereP j vs.length hj) (by simpa using hi) h1 ?_
    rw [hput, List.toList_toArray]
    exact hk _ (Blk.puts vs j w cs hb) (setCells_sizeE g vs j w) (below_setCellsE (Nat.le_refl g) vs j w (Below.refl g w)) (fun k hne => setCells_otherE g vs j w k hne)
  · rw [hy] at hi hj h1 hk
    have h2 : (a.eval y).oneCell' = true := by simpa using h1
    unfold Oper.wp execOp
    simp only [ho, hx, Instr.storeAt, Instr.sureAddr, Sem.run_bind, Sem.run_pure, Result.andThen_ok, run_storeVar_cell w g j u t cs _ hb hi hj h2]
    have hput2 : a.put o.dst undef = a := hput
    refine cast (congrArg (fun q => K q _) hput2.symm) (hk _ (Blk.puts [a.eval y] j w cs hb) (setCells_sizeE g [a.eval y] j w) (below_setCellsE (Nat.le_refl g) [a.eval y] j w (Below.refl g w)) (fun k hne => setCells_otherE g [a.eval y] j w k hne))
theorem wanted_none {o : Oper} {ys : Nat → Option Bool} (h : o.guard = none) : Region.wanted o ys = true := by simp [Region.wanted, h]

/-- The beginning. -/
theorem wp_region_tillK (N : Nat) (F : (Nat → Value) → Act) (x0 : Nat → Value) (S : World → Prop) {id : Nat} {a : Act} {w : World} (ha : a = F x0) (hN : l.length = N) (hm : P.follows .mixedOrders = true)
    (h : ∀ x, Knows x [] → AnyTill P .any l.toArray (NoPanic Q) S N N (Array.replicate N false) (F x) w.drew) : (Code.region id l.toArray true).wp P Q a w := by
  rw [ha]
  exact wp_region_till N N S hm (by simpa using hN) (h x0 (Knows.nil _))
/-- An operation that yields its value wherever S holds is taken first. -/
theorem AnyTill.takeK {x : Nat → Value} {L : List (Nat × Value)} (i : Nat) (v : Value) {oi : Oper} {n : Nat} {listed : Array Bool} {w : World} (hi : l[i]? = some oi) (hsel : Region.noSelect l.toArray = true) (hm : (l[m]?).isNone = true) (hml : listed.getD m false = false)
    (hf : Region.free md l.toArray listed i = true) (hr : (Region.ready md l.toArray listed).contains i = true) {G : (Nat → Value) → Act} (hF : Hid (F = G)) (hg : Region.wanted oi (yielded l.toArray (G x).tmps) = true) (hp : ∀ x v, (G x).put oi.dst v = G (upd x i v)) (hL : Knows x L) (hi2 : (L.all fun p => p.1 != i) = true)
    (hy : ∀ w, S w → (execOp (G x).eval oi).run P w = .ok (.value v) w) (hS : S w)
    (h : ∀ x', Knows x' ((i, v) :: L) → AnyTill P md l.toArray (NoPanic Q) S m n (listed.setIfInBounds i true) (F x') w) : AnyTill P md l.toArray (NoPanic Q) S m (n + 1) listed (F x) w := by
  obtain rfl := hF.out
  have hw : waitsB md l.toArray m i = true := by
    unfold waitsB
    rw [show l.toArray[m]? = none by simpa using hm]
  refine AnyTill.take hi hsel (by rw [hw, hml]; rfl) hf hr (fun _ _ _ h => (h : False).elim) hg hy hS ?_
  rw [hp]
  exact h _ (hL.add i v hi2)
/-- An operation that is not wanted. -/
theorem AnyTill.skipK {x : Nat → Value} {L : List (Nat × Value)} (i : Nat) {oi : Oper} {n : Nat} {listed : Array Bool} {w : World} (hi : l[i]? = some oi) (hsel : Region.noSelect l.toArray = true) (hm : (l[m]?).isNone = true) (hml : listed.getD m false = false)
    (hf : Region.free md l.toArray listed i = true) (hr : (Region.ready md l.toArray listed).contains i = true) {G : (Nat → Value) → Act} (hF : Hid (F = G)) (hg : Region.wanted oi (yielded l.toArray (G x).tmps) = false) (hp : ∀ x v, (G x).put oi.dst v = G (upd x i v)) (hL : Knows x L) (hi2 : (L.all fun p => p.1 != i) = true) (hS : S w)
    (h : ∀ x', Knows x' ((i, undef) :: L) → AnyTill P md l.toArray (NoPanic Q) S m n (listed.setIfInBounds i true) (F x') w) : AnyTill P md l.toArray (NoPanic Q) S m (n + 1) listed (F x) w := by
  obtain rfl := hF.out
  have hw : waitsB md l.toArray m i = true := by
    unfold waitsB
    rw [show l.toArray[m]? = none by simpa using hm]
  refine AnyTill.first (by simpa using hi) hsel hw (fun _ _ _ h => (h : False).elim) n listed (F x) w hml (Region.free_spec (by simpa using hi) hf) (by simpa using hr) (v := undef) (.inr ⟨hg, rfl⟩) hS ?_
  rw [hp]
  exact h _ (hL.add i undef hi2)
/-- An operation that comes up alone. -/
theorem AnyTill.oneK {x : Nat → Value} {L : List (Nat × Value)} (i : Nat) {o : Oper} {n : Nat} {listed : Array Bool} {w : World} (hr : Region.ready md l.toArray listed = [i]) (ho : l[i]? = some o) {G : (Nat → Value) → Act} (hF : Hid (F = G)) (hg : Region.wanted o (yielded l.toArray (G x).tmps) = true) (hp : ∀ x v, (G x).put o.dst v = G (upd x i v)) (hL : Knows x L) (hi2 : (L.all fun p => p.1 != i) = true)
    (h : ∀ K : Act → World → Prop, Shut (∀ v w', S w' → (∀ x', Knows x' ((i, v) :: L) → AnyTill P md l.toArray (NoPanic Q) S m n (listed.setIfInBounds i true) (F x') w') → K ((G x).put o.dst v) w') → Oper.wp P o (G x) w K (NoPanic Q)) : AnyTill P md l.toArray (NoPanic Q) S m (n + 1) listed (F x) w := by
  obtain rfl := hF.out
  refine AnyTill.one hr ho hg (fun K hK => h K fun v w' h1 h2 => hK.out _ _ (.inr h1) ?_)
  rw [hp]
  exact h2 _ (hL.add i v hi2)
/-- A store that comes up alone. -/
theorem AnyTill.store1 (i : Nat) {x : Nat → Value} {o : Oper} {n : Nat} {listed : Array Bool} {w : World} (hr : Region.ready md l.toArray listed = [i]) (ho : l[i]? = some o) {g a : Nat} {cs vs : List Value} {u : TypeId} {G : (Nat → Value) → Act} (hF : Hid (F = G)) (h1 : StoresTo P o (G x) g a vs) (hb : Blk w g cs u) (l1 : a + vs.length ≤ cs.length)
    (hS : ∀ w', w'.heap.size = w.heap.size → (∀ k, k ≠ g → w'.heap[k]? = w.heap[k]?) → S w')
    (h : ∀ w', Blk w' g (putL cs a vs) u → w'.heap.size = w.heap.size → Below g w w' → (∀ k, k ≠ g → w'.heap[k]? = w.heap[k]?) → AnyTill P md l.toArray Q S m n (listed.setIfInBounds i true) (F x) w') : AnyTill P md l.toArray Q S m (n + 1) listed (F x) w := by
  obtain rfl := hF.out
  have hg : o.guard = none := by obtain ⟨_, _, _, _, h, _⟩ := h1; exact h
  refine AnyTill.one hr ho (wanted_none hg) (fun K hK => wp_storesTo h1 hb l1 fun w' b1 b2 b3 b4 => hK.out _ _ (.inr (hS w' b2 b4)) (h w' b1 b2 b3 b4))
end
end Go.Proofs.YtdihngkdhanhkaaGreatDoor
namespace Go.Proofs.YtdihngkdhanhkaaGreatDoor
open Go.RowKit

/-- A turn's cells: a realm's, a reply's, the changes. -/
def tnc (t : Int) (vN vS vW vL : Value) (x : Rp) (nv vC : Value) : List Value := [vN, .int .i64 t, vS, vW, vL, .int .i64 (pC x), .int .i64 (pQ x), .int .i64 (pE x), txt (pV x), .int .i64 (pR x), nv, vC]
theorem tnc_all (t : Int) (x : Rp) (A0 A1 A2 A3 A4 A5 : Option Addr) (n0 n1 n2 n3 n4 n5 c0 c1 c2 c3 c4 c5 : Nat) : (tnc t (.slice A0 n0 c0) (.slice A1 n1 c1) (.slice A2 n2 c2) (.slice A3 n3 c3) x (.slice A4 n4 c4) (.slice A5 n5 c5)).toArray.all (·.oneCell') = true := by
  rw [Array.all_eq_true_iff_forall_mem]
  intro v hv
  simp only [tnc, List.mem_toArray, List.mem_cons, List.not_mem_nil, or_false] at hv
  rcases hv with rfl | rfl | rfl | rfl | rfl | rfl | rfl | rfl | rfl | rfl | rfl | rfl <;> rfl
theorem szTn : (Tryz.prog.info? 189).map (·.size) = some 12 := by kernel_rfl
theorem zeroTn : (Tryz.prog.info? 189).map (·.zero) = some (some (.agg (tnc 0 (.slice none 0 0) (.slice none 0 0) (.slice none 0 0) (.slice none 0 0) rp0 (.slice none 0 0) (.slice none 0 0)).toArray)) := by kernel_rfl
theorem rowShT : ∃ d, Tryz.prog.underlying 24 = some d ∧ d.isRow = true := ⟨_, Tryz.underlying24, rfl⟩
theorem szShT : (Tryz.prog.info? 24).map (·.size) = some 1 := by kernel_rfl
theorem rowBkT : ∃ d, Tryz.prog.underlying 27 = some d ∧ d.isRow = true := ⟨_, Tryz.underlying27, rfl⟩
theorem szBkT : (Tryz.prog.info? 27).map (·.size) = some 2 := by kernel_rfl
theorem rowTaT : ∃ d, Tryz.prog.underlying 30 = some d ∧ d.isRow = true := ⟨_, Tryz.underlying30, rfl⟩
theorem szTaT : (Tryz.prog.info? 30).map (·.size) = some 1 := by kernel_rfl
theorem rowRpT : ∃ d, Tryz.prog.underlying 57 = some d ∧ d.isRow = true := ⟨_, Tryz.underlying57, rfl⟩
theorem szRpT : (Tryz.prog.info? 57).map (·.size) = some 6 := by kernel_rfl
theorem zeroRpT : (Tryz.prog.info? 57).map (·.zero) = some (some (.agg (rpc rp0 (.slice none 0 0)).toArray)) := by kernel_rfl
theorem szErT : (Tryz.prog.info? 54).map (·.size) = some 1 := by kernel_rfl
theorem szInT : (Tryz.prog.info? 3).map (·.size) = some 1 := by kernel_rfl
theorem szStT : (Tryz.prog.info? 9).map (·.size) = some 1 := by kernel_rfl
theorem szNaT : (Tryz.prog.info? 55).map (·.size) = some 1 := by kernel_rfl
theorem szChT : (Tryz.prog.info? 187).map (·.size) = some 1 := by kernel_rfl
theorem rowOrT : ∃ d, Tryz.prog.underlying 35 = some d ∧ d.isRow = true := ⟨_, Tryz.underlying35, rfl⟩
theorem szOrT : (Tryz.prog.info? 35).map (·.size) = some 8 := by kernel_rfl
/-- The types whose blocks a turn writes. -/
def TT (e : TypeId) : Prop := e = 189 ∨ e = 96
theorem TT_nd : ¬ TT 91 := by unfold TT; decide
theorem TT_se : ¬ TT 105 := by unfold TT; decide
theorem TT_wa : ¬ TT 94 := by unfold TT; decide
theorem TT_rp : ¬ TT 57 := by unfold TT; decide
theorem TT_st : ¬ TT 9 := by unfold TT; decide
theorem TT_or : ¬ TT 35 := by unfold TT; decide
theorem Blk.keepT {T : TypeId → Prop} {b g : Nat} {w w' : World} {cs : List Value} {t : TypeId} (h : Blk w g cs t) (hk : Keep T b w w') (hT : ¬ T t) : Blk w' g cs t := h.same (hk.other g _ _ _ h hT)
/-- A turn's rows: given, below a, or of one's own. -/
structure TnF (a b : Nat) (w : World) (vN vS vW vL nv : Value) (r : Rm) (x : Rp) : Prop where
  n : GoE NdK 91 a w vN (mN r)
  s : GoE SeK 105 a w vS (mS r)
  t : GoE WaK 94 a w vW (mW r)
  l : GoRp 57 9 a w vL (mL r)
  x : GoE StK 9 a w nv (pN x)
  ab : a ≤ b
theorem TnF.keep {a b : Nat} {w w' : World} {vN vS vW vL nv : Value} {r : Rm} {x : Rp} (h : TnF a b w vN vS vW vL nv r x) (hk : Keep TT b w w') : TnF a b w' vN vS vW vL nv r x :=
  ⟨h.n.keep hk TT_nd h.ab, h.s.keep hk TT_se h.ab, h.t.keep hk TT_wa h.ab, h.l.keep hk TT_rp TT_st h.ab, h.x.keep hk TT_st h.ab, h.ab⟩
/-- A turn in block g: its rows were given, below a, or are of one's own; its changes are of one's own, from b on. -/
def TnP (a b g : Nat) (w : World) (r : Rm) (x : Rp) (cs : List Ch) : Prop :=
  ∃ vN vS vW vL nv vC, Blk w g (tnc (mT r) vN vS vW vL x nv vC) 189 ∧ TnF a b w vN vS vW vL nv r x ∧ OwnE ChK 96 w b vC cs ∧ b ≤ g
/-- Below b nothing has changed, nor has what a turn does not write. -/
structure Kp (b : Nat) (w w' : World) : Prop where
  bel : Below b w w'
  k : Keep TT b w w'
theorem Kp.trans {b : Nat} {w w' w'' : World} (h : Kp b w w') (h' : Kp b w' w'') : Kp b w w'' := ⟨h.bel.trans h'.bel, h.k.trans h'.k⟩
theorem Kp.of {b : Nat} {w w' : World} (hb : Below w.heap.size w w') (hs : b ≤ w.heap.size) : Kp b w w' := ⟨hb.mono hs, .of hb hs⟩
theorem Kp.store {b g : Nat} {w w' : World} {cs : List Value} (hx : Blk w g cs 189) (hg : b ≤ g) (hs : w'.heap.size = w.heap.size) (hb : Below g w w') (ho : ∀ k, k ≠ g → w'.heap[k]? = w.heap[k]?) : Kp b w w' := ⟨hb.mono hg, .store hx (.inl rfl) hg hs ho⟩
theorem Kp.le {b : Nat} {w w' : World} (h : Kp b w w') : b ≤ w'.heap.size := Nat.le_trans h.k.le h.k.size
/-- The call answers nothing and leaves such a turn. -/
def TnQ (a b g : Nat) (r : Rm) (x : Rp) (cs : List Ch) (w : World) (e : Ending) (w' : World) : Prop := (∃ v, e = .returned v) ∧ TnP a b g w' r x cs ∧ Kp b w w'
theorem wp_load_part {P : Program} {w : World} {o : Oper} {a : Act} {K : Act → World → Prop} {Q : Exit → Act → World → Prop} (t : TypeId) (x : Operand) (ho : o.op = .load t x) (g j : Nat) (cs vs : List Value) (u : TypeId)
    (hx : a.eval x = .pointer (some ⟨g, j, none⟩)) (hb : Blk w g cs u) (hv : (cs.drop j).take vs.length = vs) {d : TypeDesc} (hu : P.underlying t = some d) (hd : d.isRow = true) (hi : (P.info? t).map (·.size) = some vs.length)
    (h : K (a.put o.dst (.agg vs.toArray)) w) : Oper.wp P o a w K Q := by
  refine wp_load_mid t x ho g j hx vs d (fun i v hv2 => ?_) hu hd hi h
  rw [hb.cell (j + i), ← List.getElem?_drop]
  rw [← hv] at hv2
  rw [List.getElem?_take] at hv2
  split at hv2
  · exact hv2
  · cases hv2
theorem run_load_part {P : Program} {w : World} {o : Oper} {a : Act} (t : TypeId) (x : Operand) (ho : o.op = .load t x) (g j : Nat) (cs vs : List Value) (u : TypeId)
    (hx : a.eval x = .pointer (some ⟨g, j, none⟩)) (hb : Blk w g cs u) (hv : (cs.drop j).take vs.length = vs) {d : TypeDesc} (hu : P.underlying t = some d) (hd : d.isRow = true) (hi : (P.info? t).map (·.size) = some vs.length) : (execOp a.eval o).run P w = .ok (.value (.agg vs.toArray)) w := by
  unfold execOp
  simp only [ho, hx, Instr.loadAt, Instr.sureAddr, Sem.run_bind, Sem.run_pure, Result.andThen_ok]
  rw [run_loadVar_mid w g j t vs d (fun i v hv2 => ?_) hu hd hi]
  · rfl
  · rw [hb.cell (j + i), ← List.getElem?_drop]
    rw [← hv] at hv2
    rw [List.getElem?_take] at hv2
    split at hv2
    · exact hv2
    · cases hv2
/-- A new box, as a value. -/
def NewBx (t : TypeId) (cs : List Value) (B : Nat) (u : Value) (w : World) : Prop := ∃ g, u = .pointer (some ⟨g, 0, none⟩) ∧ Blk w g cs t ∧ B ≤ g
theorem NewBx.keep {t : TypeId} {cs : List Value} {B : Nat} {u : Value} {w w' : World} (h : NewBx t cs B u w) (hb : Below w.heap.size w w') : NewBx t cs B u w' := by
  obtain ⟨g, h1, h2, h3⟩ := h
  exact ⟨g, h1, h2.below hb h2.lt, h3⟩
theorem TnP.keep {a b g : Nat} {w w' : World} {r : Rm} {x : Rp} {cs : List Ch} (h : TnP a b g w r x cs) (hb : Below w.heap.size w w') (hs : b ≤ w.heap.size) : TnP a b g w' r x cs := by
  obtain ⟨vN, vS, vW, vL, nv, vC, hX, hF, hC, hbg⟩ := h
  exact ⟨vN, vS, vW, vL, nv, vC, hX.below hb hX.lt, hF.keep (.of hb hs), hC.below hb (Nat.le_refl _), hbg⟩
theorem OwnE.shape {α : Type} {E : RowK α} {e : TypeId} {w : World} {b : Nat} {v : Value} {l : List α} (h : OwnE E e w b v l) : ∃ A c, v = .slice A l.length c := by
  obtain ⟨A, c, hv, _⟩ := h.rd.shape
  exact ⟨A, c, hv⟩
end Go.Proofs.YtdihngkdhanhkaaGreatDoor
namespace Go.Proofs.YtdihngkdhanhkaaGreatDoor
open Go.RowKit

set_option maxRecDepth 100000 in
set_option maxHeartbeats 2000000 in
theorem rpFn_any (x : RpV) (c : Int) (w : World) : Calls Tryz.prog 93 #[.agg #[.int .i64 x.1, .int .i64 x.2.1, .int .i64 x.2.2.1, txt x.2.2.2.1, .int .i64 x.2.2.2.2.1, slv x.2.2.2.2.2], .int .i64 c] w (One (.int .i64 (cmpI x.1 c)) w) := by
  go_enter Tryz.func93, Tryz.ntmps93
  go_wp2_with (refine wpList_box_blk rfl 57 _ rfl (rvc x) rfl ?_)
  intro w1 b1 b2 b3
  have c0 := b1.at_ 0 _ rfl
  have hs1 : w.heap.size ≤ w1.heap.size := by omega
  have HB := Lib.hid b3
  obtain ⟨g, hg⟩ : ∃ g, w.heap.size = g := ⟨_, rfl⟩
  rw [hg] at c0 ⊢
  clear b1 b2 b3
  go_wp2_with fail
  refine (cmpI_any x.1 c w1).mono ?_
  rintro e w2 ⟨rfl, hb⟩
  have HB2 := Lib.hid (HB.out.trans (hb.mono hs1))
  clear hb c0
  go_wp2
  go_ret
  exact ⟨rfl, HB2.out⟩
theorem cmpI_neg (x y : Int) : cmpI x y < 0 ↔ x < y := by
  unfold cmpI
  constructor
  · intro h
    split at h
    · assumption
    · split at h <;> omega
  · intro h
    rw [if_pos h]; decide
theorem cmpI_zero (x y : Int) : cmpI x y = 0 ↔ x = y := by
  unfold cmpI
  constructor
  · intro h
    split at h
    · omega
    · split at h <;> omega
  · intro h
    rw [if_neg (by omega), if_neg (by omega)]
theorem lastR_is (l : List Rp) (c : Int) (h : AscR l) : (lastR l c).2 = (decide (posR l c < l.length) && decide (pC (l.getD (posR l c) rp0) = c)) := by
  rw [lastR_pos l c h]
  by_cases h1 : posR l c < l.length ∧ pC (l.getD (posR l c) rp0) = c
  · rw [if_pos h1, decide_eq_true h1.1, decide_eq_true h1.2]
    rfl
  · rw [if_neg h1]
    by_cases h2 : posR l c < l.length
    · rw [decide_eq_true h2, decide_eq_false (fun h3 => h1 ⟨h2, h3⟩)]
      rfl
    · rw [decide_eq_false h2]
      rfl
set_option maxRecDepth 100000 in
set_option maxHeartbeats 2000000 in
theorem rpFind_any (l : List Rp) (ss : List SlT) (hs : ss.length = l.length) (c : Int) (v : Value) (w : World) (hr : RdE RvK w.heap.size w v (rvs l ss)) (hl : l.length ≤ 1000) (ho : AscR l) : Calls Tryz.prog 57 #[v, .int .i64 c] w (One (.tuple #[.int .i64 ((posR l c : Nat) : Int), .bool (lastR l c).2]) w) := by
  have hn := rvs_len hs
  have HR := Lib.hid hr
  have HL : Hid ((rvs l ss).length ≤ 100000) := by
    show _ ≤ _
    omega
  have HO := Lib.hid ho
  have hat : ∀ i, i < l.length → ((rvs l ss).getD i rv0).1 = pC (l.getD i rp0) := fun i hi => by rw [rvs_at hs i hi]; rfl
  have HAT := Lib.hid hat
  have hpl : posR l c ≤ (rvs l ss).length := by rw [hn]; exact posR_le l c
  have HE : Hid ((decide (posR l c < (rvs l ss).length) && decide (cmpI ((rvs l ss).getD (posR l c) rv0).1 c = 0)) = (lastR l c).2) := by
    show _ = _
    rw [lastR_is l c ho, hn]
    by_cases h2 : posR l c < l.length
    · rw [decide_eq_true h2, hat _ h2]
      simp only [Bool.true_and, decide_eq_decide]
      exact cmpI_zero _ _
    · rw [decide_eq_false h2]
      rfl
  have HN := Lib.hid hn
  have HP := Lib.hid hpl
  obtain ⟨H, hH⟩ : ∃ H, (lastR l c).2 = H := ⟨_, rfl⟩
  rw [hH] at HE ⊢
  clear hr hl ho hH hn hat hpl
  go_enter Tryz.func57, Tryz.ntmps57
  go_wp2_with fail
  refine (bin_anyRv (rvs l ss) (.int .i64 c) (posR l c) 93 #[] (fun x => cmpI x.1 c) v w HR.out HL.out HP.out (fun args w => enters_of Tryz.func93 (by kernel_rfl) rfl args w) (fun i hi => ?_) (fun i W hi hW => rpFn_any _ c W)).mono ?_
  · rw [HN.out] at hi
    rw [← posR_at l c HO.out i hi, ← HAT.out i hi]
    exact cmpI_neg _ _
  rintro e w2 ⟨rfl, hb⟩
  rw [HE.out]
  have HB := Lib.hid hb
  clear hb
  go_wp2
  go_ret2
  exact ⟨rfl, HB.out⟩
/-- The call answers the reply with names of its own. -/
def DetR (x : Rp) (w : World) (e : Ending) (w' : World) : Prop := ∃ nv, e = .returned (.agg (rpc x nv).toArray) ∧ OwnE StK 9 w' w.heap.size nv (pN x) ∧ Below w.heap.size w w'
set_option maxRecDepth 100000 in
set_option maxHeartbeats 4000000 in
theorem detRp_any (x : Rp) (nv : Value) (w : World) (hx : RdE StK w.heap.size w nv (pN x)) (hl : (pN x).length ≤ 100000) : Calls Tryz.prog 40 #[.agg (rpc x nv).toArray] w (DetR x w) := by
  obtain ⟨A, cp, rfl, hc, hm⟩ := hx.shape
  obtain ⟨n, hn⟩ : ∃ n, (pN x).length = n := ⟨_, rfl⟩
  rw [hn] at hx ⊢
  have HX := Lib.hid hx
  have HL := Lib.hid hl
  obtain ⟨d30, hu30, hd30⟩ := rowRpT
  clear hx hl hn hc hm
  go_enter Tryz.func40, Tryz.ntmps40
  go_wp2_with (refine wpList_box_blk rfl 57 _ rfl (rpc x (.slice A n cp)) rfl ?_)
  intro w1 b1 b2 b3
  go_wp2_with (refine wpList_alloc_blk rfl 57 rfl (rpc rp0 (.slice none 0 0)) (by kernel_rfl) ?_)
  intro w2 a1 a2 a3
  obtain ⟨g0, hg0⟩ : ∃ g, w.heap.size = g := ⟨_, rfl⟩
  obtain ⟨g1, hg1⟩ : ∃ g, w.heap.size + 1 = g := ⟨_, rfl⟩
  have X0 := Lib.hid (b1.below a3 (by omega))
  have X1 := Lib.hid a1
  have HB := Lib.hid (b3.trans (a3.mono (by omega)))
  have HX2 := Lib.hid ((HX.out.below HB.out).more HB.out.size)
  have hg01 : g0 < g1 := by omega
  have hg2 : g1 < w2.heap.size := by omega
  rw [hg1] at X1 ⊢
  rw [hg0] at X0 ⊢
  have HG0 := Lib.hid hg0
  have c5 := X0.out.at_ 5 _ rfl
  clear b1 b2 b3 a1 a2 a3 HX hg0 hg1
  go_wp2_with fail
  refine (clone_anySt (pN x) (.slice A n cp) w2 HX2.out HL.out).mono ?_
  rintro e w3 ⟨u, rfl, ho, hb⟩
  obtain ⟨Au, cu, hu, -, -⟩ := ho.rd.shape
  obtain ⟨nu, hnu⟩ : ∃ q, (pN x).length = q := ⟨_, rfl⟩
  rw [hnu] at hu
  subst hu
  have X03 := Lib.hid (X0.out.below hb (by omega))
  have X13 := Lib.hid (X1.out.below hb (by omega))
  have HO := Lib.hid ho
  have HB3 := Lib.hid (HB.out.trans (hb.mono HB.out.size))
  have hs3 : w2.heap.size ≤ w3.heap.size := hb.size
  clear ho hb hnu X0 X1 HX2 c5
  go_wp2_with (refine wpList_store_fld rfl 55 _ _ rfl g0 5 (rpc x (.slice A n cp)) (.slice Au nu cu) 57 rfl rfl X03.out szNaT (by show 5 < 6; decide) rfl ?_)
  intro w4 e1 e2 e3 e4
  have X04 : Hid (Blk w4 g0 (rpc x (.slice Au nu cu)) 57) := e1
  have X14 := Lib.hid (X13.out.same (e4 g1 (by omega)))
  have HO4 := Lib.hid (HO.out.keep (T := fun t => t = 57) (.store (b := 0) X03.out rfl (Nat.zero_le _) e2 e4) (by decide))
  have HB4 : Hid (Below g0 w w4) := by
    have h := HB3.out
    rw [HG0.out] at h
    exact h.trans e3
  clear e1 e2 e3 e4 X03 X13 HO HB3
  go_wp2_with (first | refine wpList_load_part rfl 57 _ rfl g0 0 (rpc x (.slice Au nu cu)) (rpc x (.slice Au nu cu)) 57 rfl X04.out rfl hu30 hd30 szRpT ?_ | refine wpList_store_to rfl 57 _ _ rfl g1 (rpc x (.slice Au nu cu)) (rpc rp0 (.slice none 0 0)) 57 rfl rfl X14.out szRpT rfl (rpc_allM _ _ _ _) ?_)
  intro w5 e1 e2 e3 e4
  go_wp2
  refine bodyPost_ret (v := .agg (rpc x (.slice Au nu cu)).toArray) ?_ rfl ?_
  · exact ret_blkUL rfl _ _ g1 57 (rpc x (.slice Au nu cu)) rfl e1 d30 hu30 hd30 szRpT
  · refine ⟨_, rfl, ?_, ?_⟩
    · have h := HO4.out.keep (T := fun t => t = 57) (.store (b := 0) X14.out rfl (Nat.zero_le _) e2 e4) (by decide)
      rw [HG0.out]
      exact h.base (by omega)
    · rw [HG0.out]
      exact HB4.out.trans (e3.mono (by omega))
end Go.Proofs.YtdihngkdhanhkaaGreatDoor
