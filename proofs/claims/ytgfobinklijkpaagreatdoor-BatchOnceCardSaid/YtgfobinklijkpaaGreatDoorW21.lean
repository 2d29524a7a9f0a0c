/-
  Texts IH RY RT IT.
-/
import Derived.Deep.MidRow
import Derived.Test.YtgfobinklijkpaaGreatDoorW12
import Derived.Test.YtgfobinklijkpaaGreatDoorW14
import Derived.Test.YtgfobinklijkpaaGreatDoorW18
import Derived.Test.YtgfobinklijkpaaGreatDoorW20
namespace Go.Proofs.YtgfobinklijkpaaGreatDoor
set_option maxRecDepth 100000
set_option maxHeartbeats 16000000
open Go.RowKit
def putL : List Value → Nat → List Value → List Value
 | cs, _, [] => cs
 | cs, j, v :: r => putL (cs.set j v) (j + 1) r
theorem Blk.puts {g : Nat} {u : TypeId} : ∀ (vs : List Value) (j : Nat) (w : World) (cs : List Value), Blk w g cs u → Blk (w.setCells g j vs) g (putL cs j vs) u
 | [], _, _, _, h => h
 | v :: r, j, _, _, h => Blk.puts r (j + 1) _ _ (h.set j v)
theorem Blk.thereP {w : World} {g : Nat} {cs : List Value} {u : TypeId} (h : Blk w g cs u) (j n : Nat) (hj : j + n ≤ cs.length) : w.there g j n := fun i hi => by
 rw [h.cell (j + i), List.getElem?_eq_getElem (show j + i < cs.length by omega)]
 exact ⟨rfl, h.frozen (j + i)⟩
theorem wpList_store_part {P : Program} {w : World} {ops : Array Oper} {rest : List Oper} {o : Oper} {a : Act} {Q : Exit → Act → World → Prop} (hg : o.guard = none) (t : TypeId) (x y : Operand) (ho : o.op = .store t x y) (g j : Nat) (cs vs : List Value) (u : TypeId)
 (hx : a.eval x = .pointer (some ⟨g, j, none⟩)) (hy : a.eval y = .agg vs.toArray) (hb : Blk w g cs u) (hi : (P.info? t).map (·.size) = some vs.length) (hj : j + vs.length ≤ cs.length) (h1 : vs.toArray.all (·.oneCell') = true)
 (h : ∀ w', Blk w' g (putL cs j vs) u → w'.heap.size = w.heap.size → Below g w w' → (∀ k, k ≠ g → w'.heap[k]? = w.heap[k]?) → wpList P ops Q rest (a.put o.dst undef) w') : wpList P ops Q (o :: rest) a w := by
 refine wpList_store_mid hg t x y ho g j vs.toArray hx hy (by simpa using hb.thereP j vs.length hj) (by simpa using hi) h1 ?_
 exact h _ (Blk.puts vs j w cs hb) (setCells_sizeE g vs j w) (below_setCellsE (Nat.le_refl g) vs j w (Below.refl g w)) (fun k hne => setCells_otherE g vs j w k hne)
theorem wpList_load_part {P : Program} {w : World} {ops : Array Oper} {rest : List Oper} {o : Oper} {a : Act} {Q : Exit → Act → World → Prop} (hg : o.guard = none) (t : TypeId) (x : Operand) (ho : o.op = .load t x) (g j : Nat) (cs vs : List Value) (u : TypeId)
 (hx : a.eval x = .pointer (some ⟨g, j, none⟩)) (hb : Blk w g cs u) (hv : (cs.drop j).take vs.length = vs) {d : TypeDesc} (hu : P.underlying t = some d) (hd : d.isRow = true) (hi : (P.info? t).map (·.size) = some vs.length)
 (h : wpList P ops Q rest (a.put o.dst (.agg vs.toArray)) w) : wpList P ops Q (o :: rest) a w := by
 refine wpList_load_mid hg t x ho g j hx vs d (fun i v hv2 => ?_) hu hd hi h
 rw [hb.cell (j + i), ← List.getElem?_drop]
 rw [← hv] at hv2
 rw [List.getElem?_take] at hv2
 split at hv2
 ·exact hv2
 ·cases hv2
section
variable {P : Program} {l : List Oper} {Q : Exit → Act → World → Prop} {F : (Nat → Value) → Act} {Φ : Nat → (Nat → Value) → World → Prop} {S : Nat → (Nat → Value) → World → World → Prop} {sp : List Nat} {x0 : Nat → Value} {I : World → Prop}
structure StepY (m : Nat) (P : Program) (l : List Oper) (Q : Exit → Act → World → Prop) (F : (Nat → Value) → Act) (Φ : Nat → (Nat → Value) → World → Prop) (S : Nat → (Nat → Value) → World → World → Prop) (sp : List Nat) (x0 : Nat → Value) (I : World → Prop) (j : Nat) (o : Oper) : Prop where
 keep : ∀ x i v w w', i ≠ j → i ∉ clos l l.length (depsOf l j) → Φ j x w → effX sp S i x w w' → Φ i (upd x i v) w' → Φ j (upd x i v) w'
 put : ∀ x v, (F x).put o.dst v = F (upd x j v)
 step : ∀ x w, I w → x j = x0 j → (∀ k, waitsB .any l.toArray j k = true → Φ k x w) → (∀ k, k < m → x k = x0 k ∨ Φ k x w) →
  wpOp P l.toArray (NoPanic Q) j (fun a' w' => ∃ v, a' = (F x).put o.dst v ∧ I w' ∧ effX sp S j x w w' ∧ Φ j (upd x j v) w') (F x) w
def StepsY (m : Nat) (P : Program) (l : List Oper) (Q : Exit → Act → World → Prop) (F : (Nat → Value) → Act) (Φ : Nat → (Nat → Value) → World → Prop) (S : Nat → (Nat → Value) → World → World → Prop) (sp : List Nat) (x0 : Nat → Value) (I : World → Prop) : Nat → List Oper → Nat → Prop
 | 0, _, _ => True
 | _ + 1, [], _ => True
 | n + 1, o :: r, j => StepY m P l Q F Φ S sp x0 I j o ∧ StepsY m P l Q F Φ S sp x0 I n r (j + 1)
theorem StepsY.done {m : Nat} {r : List Oper} {j : Nat} : StepsY m P l Q F Φ S sp x0 I 0 r j := trivial
theorem StepsY.get {m : Nat} : ∀ (n : Nat) (r : List Oper) (j : Nat), StepsY m P l Q F Φ S sp x0 I n r j → ∀ i o, i < n → r[i]? = some o → StepY m P l Q F Φ S sp x0 I (j + i) o
 | 0, _, _, _, i, _, hi, _ => by omega
 | n + 1, [], _, _, i, _, _, ho => by simp at ho
 | n + 1, o :: r, j, h, 0, o', _, ho => by simp at ho; subst ho; exact h.1
 | n + 1, o :: r, j, h, i + 1, o', hi, ho => by
   have := StepsY.get n r (j + 1) h.2 i o' (by omega) (by simpa using ho)
   rwa [show j + 1 + i = j + (i + 1) by omega] at this
theorem StepsY.cons {m : Nat} (j : Nat) {n : Nat} {o : Oper} {r : List Oper} (hk : ∀ x i v w w', i ≠ j → i ∉ clos l l.length (depsOf l j) → Φ j x w → effX sp S i x w w' → Φ i (upd x i v) w' → Φ j (upd x i v) w') (hp : ∀ x v, (F x).put o.dst v = F (upd x j v)) (ho : l[j]? = some o) (hw : o.guard = none)
 (h : ∀ x w, I w → x j = x0 j → (∀ k, waitsB .any l.toArray j k = true → Φ k x w) → (∀ k, k < m → x k = x0 k ∨ Φ k x w) → ∀ K : Act → World → Prop, Shut (∀ v w', I w' → effX sp S j x w w' → Φ j (upd x j v) w' → K ((F x).put o.dst v) w') → Oper.wp P o (F x) w K (NoPanic Q))
 (hr : StepsY m P l Q F Φ S sp x0 I n r (j + 1)) : StepsY m P l Q F Φ S sp x0 I (n + 1) (o :: r) j := by
 refine ⟨⟨hk, hp, fun x w hb hx hd hs9 => ?_⟩, hr⟩
 unfold wpOp
 rw [show l.toArray[j]? = some o by simpa using ho]
 have hwt : Region.wanted o (yielded l.toArray (F x).tmps) = true := by simp [Region.wanted, hw]
 simp only [hwt, if_true]
 exact .inl (h x w hb hx hd hs9 _ fun v w' h1 h2 h3 => ⟨v, rfl, h1, h2, h3⟩)
theorem StepsY.val {m : Nat} (j : Nat) (v : Value) {n : Nat} {o : Oper} {r : List Oper} (hφ : Φ j = fun x w => eqV v (x j) w) (hjp : sp.contains j = false) (hp : ∀ x v, (F x).put o.dst v = F (upd x j v)) (ho : l[j]? = some o) (hw : o.guard = none)
 (h : ∀ x w, I w → (∀ k, waitsB .any l.toArray j k = true → Φ k x w) → (execOp (F x).eval o).run P w = .ok (.value v) w)
 (hr : StepsY m P l Q F Φ S sp x0 I n r (j + 1)) : StepsY m P l Q F Φ S sp x0 I (n + 1) (o :: r) j := by
 refine StepsY.cons j (fun x i v' w w' hij _ h1 _ _ => ?_) hp ho hw (fun x w hb _ hd _ K hK => ?_) hr
 ·rw [hφ] at h1 ⊢
  show eqV v (upd x i v' j) w'
  rw [upd_ne _ _ _ _ (Ne.symm hij)]
  exact h1
 ·unfold Oper.wp
  rw [h x w hb hd]
  refine hK.out v w hb ?_ ?_
  ·unfold effX
   rw [if_neg (by rw [hjp]; simp)]
   exact Below.refl _ _
  ·rw [hφ]
   show eqV v (upd x j v j) w
   rw [upd_same]
   rfl
theorem rely_anyY (m : Nat) (pu : List Nat) (hlate : lateF l m pu = true) (hsel : Region.noSelect l.toArray = true) (hs : StepsY m P l Q F Φ S sp x0 I m l 0) (hpu : ∀ p ∈ pu, PureX P l F Φ p ∧ sp.contains p = false)
 (hend : ∀ x w, I w → (∀ j, j < m → Φ j x w) → wpAny P .any l.toArray (NoPanic Q) (l.length - m) (listedAt l.length m) (F x) w) :
 ∀ (n : Nat) (listed : Array Bool) (u : List Nat) (x : Nat → Value) (w : World), listed.size = l.length → (∀ k, m ≤ k → k < l.length → listed.getD k true = false) → (∀ j, j < m → listed.getD j false = false → j ∈ u) →
   l.length - m + u.length ≤ n → I w → (∀ j, j < m → listed.getD j false = true → Φ j x w) → (∀ j, j < m → listed.getD j false = true → ∀ k, k ∈ depsOf l j → listed.getD k false = true) → (∀ j, j < m → listed.getD j false = false → x j = x0 j) → wpAny P .any l.toArray (NoPanic Q) n listed (F x) w := by
 simp only [lateF, Bool.and_eq_true, decide_eq_true_eq, List.all_eq_true, List.mem_range] at hlate
 obtain ⟨⟨hml, hpf⟩, hla⟩ := hlate
 intro n
 induction n with
 | zero =>
   intro listed u x w hsz hlo hu hn hb hp hcl hx0
   have hall : ∀ j, j < m → listed.getD j false = true := fun j hj => by
    cases hq : listed.getD j false
    ·have := List.length_pos_of_mem (hu j hj hq); omega
    ·rfl
   have hl : listed = listedAt l.length m := by
    refine Array.ext (by simp [listedAt, hsz]; omega) (fun i h1 h2 => ?_)
    rcases Nat.lt_or_ge i m with h | h
    ·have := hall i h
     simp [h1] at this
     simp [listedAt, h, this]
    ·have := hlo i h (by omega)
     simp [h1] at this
     simp [listedAt, List.getElem_append, Nat.not_lt.2 h, this]
   subst hl
   exact wpAny_le (by omega) (hend x w hb (fun j hj => hp j hj (hall j hj)))
 | succ n ih =>
   intro listed u x w hsz hlo hu hn hb hp hcl hx0
   have hun : ∀ j, j < m → listed.getD j false = false → listed.getD j true = false := fun j hj h => by
    have : j < listed.size := by omega
    simp [this] at h ⊢
    exact h
   have hnext : ∀ i oi v w', i < m → l[i]? = some oi → listed.getD i false = false → (∀ k, k ∈ depsOf l i → listed.getD k false = true) → I w' → effX sp S i x w w' → Φ i (upd x i v) w' → wpAny P .any l.toArray (NoPanic Q) n (listed.setIfInBounds i true) ((F x).put oi.dst v) w' := by
    intro i oi v w' him hoi' hif hia hb' heff hv
    have hsi := StepsY.get m l 0 hs i oi him hoi'
    rw [Nat.zero_add] at hsi
    rw [hsi.put]
    refine ih (listed.setIfInBounds i true) (u.erase i) (upd x i v) w' (by simp [hsz]) (fun k h1 h2 => ?_) (fun j hj hjf => ?_) ?_ hb' (fun j hj hjl => ?_) (fun j hj hjl k hk => ?_) (fun j hj hjf => ?_)
    ·rw [getD_set_ne true (by omega)]; exact hlo k h1 h2
    ·have hne : i ≠ j := fun e => by
      subst e
      simp [show i < listed.size by omega] at hjf
     rw [getD_set_ne false hne] at hjf
     exact (List.mem_erase_of_ne (Ne.symm hne)).2 (hu j hj hjf)
    ·have := hu i him hif
     rw [List.length_erase_of_mem this]
     have := List.length_pos_of_mem this
     omega
    ·rcases Nat.decEq i j with hne | rfl
     ·rw [getD_set_ne false hne] at hjl
      obtain ⟨oj, hoj⟩ : ∃ o, l[j]? = some o := ⟨l[j]'(by omega), by simp⟩
      have hsj := StepsY.get m l 0 hs j oj hj hoj
      rw [Nat.zero_add] at hsj
      refine hsj.keep _ _ _ _ _ hne (fun hdi => ?_) (hp j hj hjl) heff hv
      have hlt : ∀ k, listed.getD k false = true → k < m := fun k hk => by
       rcases Nat.lt_or_ge k m with h2 | h2
       ·exact h2
       ·rcases Nat.lt_or_ge k l.length with h3 | h3
        ·have h4 := hlo k h2 h3
         have h5 : k < listed.size := by omega
         simp [h5] at hk h4
         rw [h4] at hk; cases hk
        ·have h5 : ¬ k < listed.size := by omega
         simp [h5] at hk
      have h7 := clos_listed l (fun k => listed.getD k false = true) (fun q hq k hk => hcl q (hlt q hq) hq k hk) l.length (depsOf l j) (fun k hk => hcl j hj hjl k hk) i hdi
      rw [hif] at h7
      cases h7
     ·exact hv
    ·refine getD_set_true ?_
     rcases Nat.decEq i j with hne | rfl
     ·rw [getD_set_ne false hne] at hjl
      exact hcl j hj hjl k hk
     ·exact hia k hk
    ·have hne : i ≠ j := fun e => by
      subst e
      simp [show i < listed.size by omega] at hjf
     rw [getD_set_ne false hne] at hjf
     rw [upd_ne _ _ _ _ (Ne.symm hne)]
     exact hx0 j hj hjf
   have hwb : ∀ i oi, i < m → l[i]? = some oi → (∀ e ∈ oi.after, Region.binds .any e = true → listed.getD e.on false = true) → ∀ k, waitsB .any l.toArray i k = true → Φ k x w := by
    intro i oi him hoi' hia k hk
    obtain ⟨e, he, hbd, hon⟩ := waits_of hoi' hk
    have h2 := hia e he hbd
    rw [hon] at h2
    have hki : k < i := by
     have h1 := hla i (by omega)
     rw [if_pos him, hoi'] at h1
     simp only [Option.map_some, Option.getD_some, Array.all_eq_true_iff_forall_mem] at h1
     have h3 := h1 e he
     simp [hbd] at h3
     omega
    exact hp k (by omega) h2
   by_cases hpx : ∃ p, p ∈ pu ∧ listed.getD p false = false ∧ p ∈ Region.ready .any l.toArray listed
   ·obtain ⟨p, hp1, hp2, hp3⟩ := hpx
    have hpm : p < m := (hpf p hp1).1
    obtain ⟨hiu, oi, hoi, hia⟩ := mem_ready.1 hp3
    have hoi' : l[p]? = some oi := by simpa using hoi
    obtain ⟨hpx, hpn⟩ := hpu p hp1
    obtain ⟨hwt, v, hv, hΦ⟩ := hpx oi hoi' x w (hwb p oi hpm hoi' hia)
    refine AnyTill.any (m := l.length) (S := fun _ => True) _ _ _ _ ?_
    refine AnyTill.firstFree hoi hsel (by omega) (fun _ _ _ h => h) n listed (F x) w (fun j oj hj hne hjl hw => ?_) hp3 (.inl ⟨hwt, fun w' _ => hv w'⟩) (.inr trivial) (AnyTill.of_any _ _ _ _ (hnext p oi v w hpm hoi' hp2 (fun k hk => ?_) hb (by unfold effX; rw [if_neg (by rw [hpn]; simp)]; exact Below.refl _ _) hΦ))
    ·refine Region.free_spec hoi (hpf p hp1).2 j oj hj hne ?_ hw
     have hjl2 : j < l.length := by
      have := (Array.getElem?_eq_some_iff.1 hj).1
      simpa using this
     refine lstF_at l p j hjl2 (fun hjd => ?_)
     obtain ⟨e, he, hbd, hon⟩ := deps_mem hoi' hjd
     have h9 := hia e he hbd
     rw [hon] at h9
     have h8 : j < listed.size := by omega
     simp [h8] at hjl h9
     rw [h9] at hjl; cases hjl
    ·obtain ⟨e, he, hbd, hon⟩ := deps_mem hoi' hk
     rw [← hon]; exact hia e he hbd
   by_cases hex : ∃ j, j < m ∧ listed.getD j false = false
   ·obtain ⟨j0, hj0, hf0, hlt0⟩ := least_false _ m hex
    obtain ⟨o0, ho0⟩ : ∃ o, l[j0]? = some o := ⟨l[j0]'(by omega), by simp⟩
    have hr0 : j0 ∈ Region.ready .any l.toArray listed := by
     refine mem_ready.2 ⟨hun j0 hj0 hf0, o0, by simpa using ho0, fun e he hbd => hlt0 e.on ?_⟩
     have h1 := hla j0 (by omega)
     rw [if_pos hj0, ho0] at h1
     simp only [Option.map_some, Option.getD_some, Array.all_eq_true_iff_forall_mem] at h1
     have h2 := h1 e he
     simp [hbd] at h2
     exact h2
    refine ⟨fun h => absurd hr0 (by rw [h]; exact List.not_mem_nil), fun i hi => ?_⟩
    obtain ⟨hiu, oi, hoi, hia⟩ := mem_ready.1 hi
    have hoi' : l[i]? = some oi := by simpa using hoi
    have hil : i < l.length := (List.getElem?_eq_some_iff.1 hoi').1
    have him : i < m := by
     rcases Nat.lt_or_ge i m with h | h
     ·exact h
     ·have h1 := hla i hil
      rw [if_neg (Nat.not_lt.2 h)] at h1
      simp only [List.all_eq_true, List.mem_range, Bool.or_eq_true, Bool.and_eq_true, List.contains_iff_mem] at h1
      have hdi : ∀ k, k ∈ depsOf l i → listed.getD k false = true := fun k hk => by
       obtain ⟨e, he, hbd, hon⟩ := deps_mem hoi' hk
       rw [← hon]; exact hia e he hbd
      have hlt : ∀ k, listed.getD k false = true → k < m := fun k hk => by
       rcases Nat.lt_or_ge k m with h2 | h2
       ·exact h2
       ·rcases Nat.lt_or_ge k l.length with h3 | h3
        ·have h4 := hlo k h2 h3
         have h5 : k < listed.size := by omega
         simp [h5] at hk h4
         rw [h4] at hk; cases hk
        ·have h5 : ¬ k < listed.size := by omega
         simp [h5] at hk
      have hcs := clos_listed l (fun k => listed.getD k false = true) (fun j hj k hk => hcl j (hlt j hj) hj k hk) l.length (depsOf l i) hdi
      rcases h1 j0 hj0 with h2 | ⟨h2, h3⟩
      ·have h4 := hcs j0 h2
       rw [hf0] at h4
       cases h4
      ·exact absurd ⟨j0, h2, hf0, hr0⟩ hpx
    have hsi := StepsY.get m l 0 hs i oi him hoi'
    rw [Nat.zero_add] at hsi
    have hif : listed.getD i false = false := by
     have : i < listed.size := by omega
     simp [this] at hiu ⊢
     exact hiu
    refine wpOp_mono (fun a' w' hk => ?_) (hsi.step x w hb (hx0 i him hif) (hwb i oi him hoi' hia) (fun k hk => by
     cases hq : listed.getD k false
     ·exact .inl (hx0 k hk hq)
     ·exact .inr (hp k hk hq)))
    obtain ⟨v, rfl, hb', heff, hv⟩ := hk
    refine hnext i oi v w' him hoi' hif (fun k hk => ?_) hb' heff hv
    obtain ⟨e, he, hbd, hon⟩ := deps_mem hoi' hk
    rw [← hon]; exact hia e he hbd
   ·have hall : ∀ j, j < m → listed.getD j false = true := fun j hj => by
     cases hq : listed.getD j false
     ·exact absurd ⟨j, hj, hq⟩ hex
     ·rfl
    have hl : listed = listedAt l.length m := by
     refine Array.ext (by simp [listedAt, hsz]; omega) (fun i h1 h2 => ?_)
     rcases Nat.lt_or_ge i m with h | h
     ·have := hall i h
      simp [h1] at this
      simp [listedAt, h, this]
     ·have := hlo i h (by omega)
      simp [h1] at this
      simp [listedAt, List.getElem_append, Nat.not_lt.2 h, this]
    subst hl
    exact wpAny_le (by omega) (hend x w hb (fun j hj => hp j hj (hall j hj)))
theorem wp_region_relyY {w0 : World} (I : World → Prop) (hI0 : I w0.drew) (pu sp : List Nat) (S : Nat → (Nat → Value) → World → World → Prop) (x0 : Nat → Value) (m d : Nat) (F : (Nat → Value) → Act) (Φ : Nat → (Nat → Value) → World → Prop) {id : Nat} {a : Act} (hN : l.length = m + d) (ha : a = F x0) (hm : P.follows .mixedOrders = true) (hlate : lateF l m pu = true) (hsel : Region.noSelect l.toArray = true) (hpu : ∀ p ∈ pu, PureX P l F Φ p ∧ sp.contains p = false) (hs : StepsY m P l Q F Φ S sp x0 I m l 0)
 (hend : ∀ x w, I w → (∀ j, j < m → Φ j x w) → wpAny P .any l.toArray (NoPanic Q) d (listedAt (m + d) m) (F x) w) : (Code.region id l.toArray true).wp P Q a w0 := by
 subst ha
 refine wp_region_noPanic (wp_region_any hm ?_)
 refine rely_anyY m pu hlate hsel hs hpu (fun x w h1 h2 => ?_) _ _ (List.range m) x0 _ (by simp) (fun k _ h => by simp [h]) (fun j hj _ => List.mem_range.2 hj) (by simp; omega) hI0 (fun j hj h => ?_) (fun j hj h => ?_) (fun _ _ _ => rfl)
 ·rw [hN, Nat.add_sub_cancel_left]
  exact hend x w h1 h2
 ·have : j < l.length := by omega
  simp [this] at h
 ·have : j < l.length := by omega
  simp [this] at h
end
theorem mem_at {α : Type} {L : List α} (n : Nat) {p : α} (h : L[n]? = some p) : p ∈ L := List.mem_of_getElem? h
def Knows (x : Nat → Value) (L : List (Nat × Value)) : Prop := ∀ p ∈ L, x p.1 = p.2
theorem Knows.nil (x : Nat → Value) : Knows x [] := fun _ h => by cases h
theorem Knows.at_ {x : Nat → Value} {L : List (Nat × Value)} (h : Knows x L) (n : Nat) {k : Nat} {v : Value} (e : L[n]? = some (k, v)) : x k = v := h (k, v) (mem_at n e)
theorem Knows.add {x : Nat → Value} {L : List (Nat × Value)} (h : Knows x L) (i : Nat) (v : Value) (hi : (L.all fun p => p.1 != i) = true) : Knows (upd x i v) ((i, v) :: L) := by
 intro p hp
 rcases List.mem_cons.1 hp with rfl | hp
 ·exact upd_same _ _ _
 ·have := (List.all_eq_true.1 hi) p hp
  rw [upd_ne _ _ _ _ (by simpa using this)]
  exact h p hp
def StoresTo (P : Program) (o : Oper) (a : Act) (g j : Nat) (vs : List Value) : Prop :=
 ∃ t x y, o.op = .store t x y ∧ o.guard = none ∧ o.dst = none ∧ a.eval x = .pointer (some ⟨g, j, none⟩) ∧ (a.eval y = .agg vs.toArray ∨ vs = [a.eval y]) ∧ (P.info? t).map (·.size) = some vs.length ∧ vs.toArray.all (·.oneCell') = true
section
variable {P : Program} {l : List Oper} {Q : Exit → Act → World → Prop} {md : Region.Mode} {S : World → Prop} {m : Nat} {F : (Nat → Value) → Act}
theorem wp_storesTo {o : Oper} {a : Act} {w : World} {K : Act → World → Prop} {g j : Nat} {cs vs : List Value} {u : TypeId} (h : StoresTo P o a g j vs) (hb : Blk w g cs u) (hj : j + vs.length ≤ cs.length)
 (hk : ∀ w', Blk w' g (putL cs j vs) u → w'.heap.size = w.heap.size → Below g w w' → (∀ k, k ≠ g → w'.heap[k]? = w.heap[k]?) → K a w') : Oper.wp P o a w K Q := by
 obtain ⟨t, x, y, ho, _, hd, hx, hy, hi, h1⟩ := h
 have hput : a.put o.dst undef = a := by rw [hd]; rfl
 rcases hy with hy | hy
 ·refine wp_store_mid t x y ho g j vs.toArray hx hy (by simpa using hb.thereP j vs.length hj) (by simpa using hi) h1 ?_
  rw [hput, List.toList_toArray]
  exact hk _ (Blk.puts vs j w cs hb) (setCells_sizeE g vs j w) (below_setCellsE (Nat.le_refl g) vs j w (Below.refl g w)) (fun k hne => setCells_otherE g vs j w k hne)
 ·rw [hy] at hi hj h1 hk
  have h2 : (a.eval y).oneCell' = true := by simpa using h1
  unfold Oper.wp execOp
  simp only [ho, hx, Instr.storeAt, Instr.sureAddr, Sem.run_bind, Sem.run_pure, Result.andThen_ok, run_storeVar_cell w g j u t cs _ hb hi hj h2]
  have hput2 : a.put o.dst undef = a := hput
  refine cast (congrArg (fun q => K q _) hput2.symm) (hk _ (Blk.puts [a.eval y] j w cs hb) (setCells_sizeE g [a.eval y] j w) (below_setCellsE (Nat.le_refl g) [a.eval y] j w (Below.refl g w)) (fun k hne => setCells_otherE g [a.eval y] j w k hne))
theorem wanted_none {o : Oper} {ys : Nat → Option Bool} (h : o.guard = none) : Region.wanted o ys = true := by simp [Region.wanted, h]
theorem wp_region_tillK (N : Nat) (F : (Nat → Value) → Act) (x0 : Nat → Value) (S : World → Prop) {id : Nat} {a : Act} {w : World} (ha : a = F x0) (hN : l.length = N) (hm : P.follows .mixedOrders = true)
 (h : ∀ x, Knows x [] → AnyTill P .any l.toArray (NoPanic Q) S N N (Array.replicate N false) (F x) w.drew) : (Code.region id l.toArray true).wp P Q a w := by
 rw [ha]
 exact wp_region_till N N S hm (by simpa using hN) (h x0 (Knows.nil _))
theorem AnyTill.takeK {x : Nat → Value} {L : List (Nat × Value)} (i : Nat) (v : Value) {oi : Oper} {n : Nat} {listed : Array Bool} {w : World} (hi : l[i]? = some oi) (hsel : Region.noSelect l.toArray = true) (hm : (l[m]?).isNone = true) (hml : listed.getD m false = false)
 (hf : Region.free md l.toArray listed i = true) (hr : (Region.ready md l.toArray listed).contains i = true) {G : (Nat → Value) → Act} (hF : Hid (F = G)) (hg : Region.wanted oi (yielded l.toArray (G x).tmps) = true) (hp : ∀ x v, (G x).put oi.dst v = G (upd x i v)) (hL : Knows x L) (hi2 : (L.all fun p => p.1 != i) = true)
 (hy : ∀ w, S w → (execOp (G x).eval oi).run P w = .ok (.value v) w) (hS : S w)
 (h : ∀ x', Knows x' ((i, v) :: L) → AnyTill P md l.toArray (NoPanic Q) S m n (listed.setIfInBounds i true) (F x') w) : AnyTill P md l.toArray (NoPanic Q) S m (n + 1) listed (F x) w := by
 obtain rfl := hF.out
 have hw : waitsB md l.toArray m i = true := by
  unfold waitsB
  rw [show l.toArray[m]? = none by simpa using hm]
 refine AnyTill.take hi hsel (by rw [hw, hml]; rfl) hf hr (fun _ _ _ h => (h : False).elim) hg hy hS ?_
 rw [hp]
 exact h _ (hL.add i v hi2)
theorem AnyTill.skipK {x : Nat → Value} {L : List (Nat × Value)} (i : Nat) {oi : Oper} {n : Nat} {listed : Array Bool} {w : World} (hi : l[i]? = some oi) (hsel : Region.noSelect l.toArray = true) (hm : (l[m]?).isNone = true) (hml : listed.getD m false = false)
 (hf : Region.free md l.toArray listed i = true) (hr : (Region.ready md l.toArray listed).contains i = true) {G : (Nat → Value) → Act} (hF : Hid (F = G)) (hg : Region.wanted oi (yielded l.toArray (G x).tmps) = false) (hp : ∀ x v, (G x).put oi.dst v = G (upd x i v)) (hL : Knows x L) (hi2 : (L.all fun p => p.1 != i) = true) (hS : S w)
 (h : ∀ x', Knows x' ((i, undef) :: L) → AnyTill P md l.toArray (NoPanic Q) S m n (listed.setIfInBounds i true) (F x') w) : AnyTill P md l.toArray (NoPanic Q) S m (n + 1) listed (F x) w := by
 obtain rfl := hF.out
 have hw : waitsB md l.toArray m i = true := by
  unfold waitsB
  rw [show l.toArray[m]? = none by simpa using hm]
 refine AnyTill.first (by simpa using hi) hsel hw (fun _ _ _ h => (h : False).elim) n listed (F x) w hml (Region.free_spec (by simpa using hi) hf) (by simpa using hr) (v := undef) (.inr ⟨hg, rfl⟩) hS ?_
 rw [hp]
 exact h _ (hL.add i undef hi2)
theorem AnyTill.oneK {x : Nat → Value} {L : List (Nat × Value)} (i : Nat) {o : Oper} {n : Nat} {listed : Array Bool} {w : World} (hr : Region.ready md l.toArray listed = [i]) (ho : l[i]? = some o) {G : (Nat → Value) → Act} (hF : Hid (F = G)) (hg : Region.wanted o (yielded l.toArray (G x).tmps) = true) (hp : ∀ x v, (G x).put o.dst v = G (upd x i v)) (hL : Knows x L) (hi2 : (L.all fun p => p.1 != i) = true)
 (h : ∀ K : Act → World → Prop, Shut (∀ v w', S w' → (∀ x', Knows x' ((i, v) :: L) → AnyTill P md l.toArray (NoPanic Q) S m n (listed.setIfInBounds i true) (F x') w') → K ((G x).put o.dst v) w') → Oper.wp P o (G x) w K (NoPanic Q)) : AnyTill P md l.toArray (NoPanic Q) S m (n + 1) listed (F x) w := by
 obtain rfl := hF.out
 refine AnyTill.one hr ho hg (fun K hK => h K fun v w' h1 h2 => hK.out _ _ (.inr h1) ?_)
 rw [hp]
 exact h2 _ (hL.add i v hi2)
theorem AnyTill.store1 (i : Nat) {x : Nat → Value} {o : Oper} {n : Nat} {listed : Array Bool} {w : World} (hr : Region.ready md l.toArray listed = [i]) (ho : l[i]? = some o) {g a : Nat} {cs vs : List Value} {u : TypeId} {G : (Nat → Value) → Act} (hF : Hid (F = G)) (h1 : StoresTo P o (G x) g a vs) (hb : Blk w g cs u) (l1 : a + vs.length ≤ cs.length)
 (hS : ∀ w', w'.heap.size = w.heap.size → (∀ k, k ≠ g → w'.heap[k]? = w.heap[k]?) → S w')
 (h : ∀ w', Blk w' g (putL cs a vs) u → w'.heap.size = w.heap.size → Below g w w' → (∀ k, k ≠ g → w'.heap[k]? = w.heap[k]?) → AnyTill P md l.toArray Q S m n (listed.setIfInBounds i true) (F x) w') : AnyTill P md l.toArray Q S m (n + 1) listed (F x) w := by
 obtain rfl := hF.out
 have hg : o.guard = none := by obtain ⟨_, _, _, _, h, _⟩ := h1; exact h
 refine AnyTill.one hr ho (wanted_none hg) (fun K hK => wp_storesTo h1 hb l1 fun w' b1 b2 b3 b4 => hK.out _ _ (.inr (hS w' b2 b4)) (h w' b1 b2 b3 b4))
end
theorem AnyTill.tk {P : Program} {l : List Oper} {Q : Exit → Act → World → Prop} {md : Region.Mode} {S : World → Prop} {m : Nat} {F : (Nat → Value) → Act} {x : Nat → Value} {L : List (Nat × Value)} (i : Nat) (v : Value) {oi : Oper} {n : Nat} {listed : Array Bool} {w : World} {G : (Nat → Value) → Act} (hg : Region.wanted oi (yielded l.toArray (G x).tmps) = true) (hF : Hid (F = G)) (hL : Knows x L)
 (hy : ∀ w, S w → (execOp (G x).eval oi).run P w = .ok (.value v) w) (hS : S w)
 (h : ∀ x', Knows x' ((i, v) :: L) → AnyTill P md l.toArray (NoPanic Q) S m n (listed.setIfInBounds i true) (F x') w)
 (hi : l[i]? = some oi := by rfl) (hsel : Region.noSelect l.toArray = true := by kernel_rfl) (hm : (l[m]?).isNone = true := by rfl) (hml : listed.getD m false = false := by rfl) (hf : Region.free md l.toArray listed i = true := by kernel_rfl) (hr : (Region.ready md l.toArray listed).contains i = true := by kernel_rfl) (hp : ∀ x v, (G x).put oi.dst v = G (upd x i v) := by exact fun _ _ => rfl) (hi2 : (L.all fun p => p.1 != i) = true := by rfl) : AnyTill P md l.toArray (NoPanic Q) S m (n + 1) listed (F x) w :=
 AnyTill.takeK i v hi hsel hm hml hf hr hF hg hp hL hi2 hy hS h
def tnc (t : Int) (vN vS vW vL : Value) (x : Rp) (nv vC : Value) : List Value := [vN, .int .i64 t, vS, vW, vL, .int .i64 (pC x), .int .i64 (pQ x), .int .i64 (pE x), txt (pV x), .int .i64 (pR x), nv, vC]
theorem tnc_all (t : Int) (x : Rp) (A0 A1 A2 A3 A4 A5 : Option Addr) (n0 n1 n2 n3 n4 n5 c0 c1 c2 c3 c4 c5 : Nat) : (tnc t (.slice A0 n0 c0) (.slice A1 n1 c1) (.slice A2 n2 c2) (.slice A3 n3 c3) x (.slice A4 n4 c4) (.slice A5 n5 c5)).toArray.all (·.oneCell') = true := by
 rw [Array.all_eq_true_iff_forall_mem]
 intro v hv
 simp only [tnc, List.mem_toArray, List.mem_cons, List.not_mem_nil, or_false] at hv
 rcases hv with rfl | rfl | rfl | rfl | rfl | rfl | rfl | rfl | rfl | rfl | rfl | rfl <;> rfl
theorem szTn : (Tryz.prog.info? 206).map (·.size) = some 12 := by kernel_rfl
theorem zeroTn : (Tryz.prog.info? 206).map (·.zero) = some (some (.agg (tnc 0 (.slice none 0 0) (.slice none 0 0) (.slice none 0 0) (.slice none 0 0) rp0 (.slice none 0 0) (.slice none 0 0)).toArray)) := by kernel_rfl
theorem rowShT : ∃ d, Tryz.prog.underlying 41 = some d ∧ d.isRow = true := ⟨_, Tryz.underlying41, rfl⟩
theorem szShT : (Tryz.prog.info? 41).map (·.size) = some 1 := by kernel_rfl
theorem rowBkT : ∃ d, Tryz.prog.underlying 44 = some d ∧ d.isRow = true := ⟨_, Tryz.underlying44, rfl⟩
theorem szBkT : (Tryz.prog.info? 44).map (·.size) = some 2 := by kernel_rfl
theorem rowTaT : ∃ d, Tryz.prog.underlying 47 = some d ∧ d.isRow = true := ⟨_, Tryz.underlying47, rfl⟩
theorem szTaT : (Tryz.prog.info? 47).map (·.size) = some 1 := by kernel_rfl
theorem rowRpT : ∃ d, Tryz.prog.underlying 79 = some d ∧ d.isRow = true := ⟨_, Tryz.underlying79, rfl⟩
theorem szRpT : (Tryz.prog.info? 79).map (·.size) = some 6 := by kernel_rfl
theorem zeroRpT : (Tryz.prog.info? 79).map (·.zero) = some (some (.agg (rpc rp0 (.slice none 0 0)).toArray)) := by kernel_rfl
theorem szErT : (Tryz.prog.info? 25).map (·.size) = some 1 := by kernel_rfl
theorem szInT : (Tryz.prog.info? 3).map (·.size) = some 1 := by kernel_rfl
theorem szStT : (Tryz.prog.info? 9).map (·.size) = some 1 := by kernel_rfl
theorem szNaT : (Tryz.prog.info? 77).map (·.size) = some 1 := by kernel_rfl
theorem szChT : (Tryz.prog.info? 204).map (·.size) = some 1 := by kernel_rfl
theorem rowOrT : ∃ d, Tryz.prog.underlying 86 = some d ∧ d.isRow = true := ⟨_, Tryz.underlying86, rfl⟩
theorem szOrT : (Tryz.prog.info? 86).map (·.size) = some 8 := by kernel_rfl
def TT (e : TypeId) : Prop := e = 206 ∨ e = 235
theorem TT_nd : ¬ TT 157 := by unfold TT; decide
theorem TT_se : ¬ TT 160 := by unfold TT; decide
theorem TT_wa : ¬ TT 163 := by unfold TT; decide
theorem TT_rp : ¬ TT 79 := by unfold TT; decide
theorem TT_st : ¬ TT 9 := by unfold TT; decide
theorem TT_or : ¬ TT 86 := by unfold TT; decide
theorem Blk.keepT {T : TypeId → Prop} {b g : Nat} {w w' : World} {cs : List Value} {t : TypeId} (h : Blk w g cs t) (hk : Keep T b w w') (hT : ¬ T t) : Blk w' g cs t := h.same (hk.other g _ _ _ h hT)
structure TnF (a b : Nat) (w : World) (vN vS vW vL nv : Value) (r : Rm) (x : Rp) : Prop where
 n : GoE NdK 157 a w vN (mN r)
 s : GoE SeK 160 a w vS (mS r)
 t : GoE WaK 163 a w vW (mW r)
 l : GoRp 79 9 a w vL (mL r)
 x : GoE StK 9 a w nv (pN x)
 ab : a ≤ b
theorem TnF.keep {a b : Nat} {w w' : World} {vN vS vW vL nv : Value} {r : Rm} {x : Rp} (h : TnF a b w vN vS vW vL nv r x) (hk : Keep TT b w w') : TnF a b w' vN vS vW vL nv r x :=
 ⟨h.n.keep hk TT_nd h.ab, h.s.keep hk TT_se h.ab, h.t.keep hk TT_wa h.ab, h.l.keep hk TT_rp TT_st h.ab, h.x.keep hk TT_st h.ab, h.ab⟩
def TnP (a b g : Nat) (w : World) (r : Rm) (x : Rp) (cs : List Ch) : Prop :=
 ∃ vN vS vW vL nv vC, Blk w g (tnc (mT r) vN vS vW vL x nv vC) 206 ∧ TnF a b w vN vS vW vL nv r x ∧ OwnE ChK 235 w b vC cs ∧ b ≤ g
structure Kp (b : Nat) (w w' : World) : Prop where
 bel : Below b w w'
 k : Keep TT b w w'
theorem Kp.trans {b : Nat} {w w' w'' : World} (h : Kp b w w') (h' : Kp b w' w'') : Kp b w w'' := ⟨h.bel.trans h'.bel, h.k.trans h'.k⟩
theorem Kp.of {b : Nat} {w w' : World} (hb : Below w.heap.size w w') (hs : b ≤ w.heap.size) : Kp b w w' := ⟨hb.mono hs, .of hb hs⟩
theorem Kp.store {b g : Nat} {w w' : World} {cs : List Value} (hx : Blk w g cs 206) (hg : b ≤ g) (hs : w'.heap.size = w.heap.size) (hb : Below g w w') (ho : ∀ k, k ≠ g → w'.heap[k]? = w.heap[k]?) : Kp b w w' := ⟨hb.mono hg, .store hx (.inl rfl) hg hs ho⟩
theorem Kp.le {b : Nat} {w w' : World} (h : Kp b w w') : b ≤ w'.heap.size := Nat.le_trans h.k.le h.k.size
def TnQ (a b g : Nat) (r : Rm) (x : Rp) (cs : List Ch) (w : World) (e : Ending) (w' : World) : Prop := (∃ v, e = .returned v) ∧ TnP a b g w' r x cs ∧ Kp b w w'
theorem wp_load_part {P : Program} {w : World} {o : Oper} {a : Act} {K : Act → World → Prop} {Q : Exit → Act → World → Prop} (t : TypeId) (x : Operand) (ho : o.op = .load t x) (g j : Nat) (cs vs : List Value) (u : TypeId)
 (hx : a.eval x = .pointer (some ⟨g, j, none⟩)) (hb : Blk w g cs u) (hv : (cs.drop j).take vs.length = vs) {d : TypeDesc} (hu : P.underlying t = some d) (hd : d.isRow = true) (hi : (P.info? t).map (·.size) = some vs.length)
 (h : K (a.put o.dst (.agg vs.toArray)) w) : Oper.wp P o a w K Q := by
 refine wp_load_mid t x ho g j hx vs d (fun i v hv2 => ?_) hu hd hi h
 rw [hb.cell (j + i), ← List.getElem?_drop]
 rw [← hv] at hv2
 rw [List.getElem?_take] at hv2
 split at hv2
 ·exact hv2
 ·cases hv2
theorem run_load_part {P : Program} {w : World} {o : Oper} {a : Act} (t : TypeId) (x : Operand) (ho : o.op = .load t x) (g j : Nat) (cs vs : List Value) (u : TypeId)
 (hx : a.eval x = .pointer (some ⟨g, j, none⟩)) (hb : Blk w g cs u) (hv : (cs.drop j).take vs.length = vs) {d : TypeDesc} (hu : P.underlying t = some d) (hd : d.isRow = true) (hi : (P.info? t).map (·.size) = some vs.length) : (execOp a.eval o).run P w = .ok (.value (.agg vs.toArray)) w := by
 unfold execOp
 simp only [ho, hx, Instr.loadAt, Instr.sureAddr, Sem.run_bind, Sem.run_pure, Result.andThen_ok]
 rw [run_loadVar_mid w g j t vs d (fun i v hv2 => ?_) hu hd hi]
 ·rfl
 ·rw [hb.cell (j + i), ← List.getElem?_drop]
  rw [← hv] at hv2
  rw [List.getElem?_take] at hv2
  split at hv2
  ·exact hv2
  ·cases hv2
def NewBx (t : TypeId) (cs : List Value) (B : Nat) (u : Value) (w : World) : Prop := ∃ g, u = .pointer (some ⟨g, 0, none⟩) ∧ Blk w g cs t ∧ B ≤ g
theorem NewBx.keep {t : TypeId} {cs : List Value} {B : Nat} {u : Value} {w w' : World} (h : NewBx t cs B u w) (hb : Below w.heap.size w w') : NewBx t cs B u w' := by
 obtain ⟨g, h1, h2, h3⟩ := h
 exact ⟨g, h1, h2.below hb h2.lt, h3⟩
theorem TnP.keep {a b g : Nat} {w w' : World} {r : Rm} {x : Rp} {cs : List Ch} (h : TnP a b g w r x cs) (hb : Below w.heap.size w w') (hs : b ≤ w.heap.size) : TnP a b g w' r x cs := by
 obtain ⟨vN, vS, vW, vL, nv, vC, hX, hF, hC, hbg⟩ := h
 exact ⟨vN, vS, vW, vL, nv, vC, hX.below hb hX.lt, hF.keep (.of hb hs), hC.below hb (Nat.le_refl _), hbg⟩
theorem OwnE.shape {α : Type} {E : RowK α} {e : TypeId} {w : World} {b : Nat} {v : Value} {l : List α} (h : OwnE E e w b v l) : ∃ A c, v = .slice A l.length c := by
 obtain ⟨A, c, hv, _⟩ := h.rd.shape
 exact ⟨A, c, hv⟩
end Go.Proofs.YtgfobinklijkpaaGreatDoor
