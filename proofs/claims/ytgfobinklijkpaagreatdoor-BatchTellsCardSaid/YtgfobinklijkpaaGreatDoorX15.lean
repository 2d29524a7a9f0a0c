/-
  Texts NU RY NV NW.
-/
import Derived.Test.YtgfobinklijkpaaGreatDoorX01
import Derived.Test.YtgfobinklijkpaaGreatDoorX13
import Derived.Test.YtgfobinklijkpaaGreatDoorX14
namespace Go.Proofs.YtgfobinklijkpaaGreatDoor
set_option maxRecDepth 100000
set_option maxHeartbeats 16000000
open Go.RowKit
section
variable {P : Program} {l : List Oper} {Q : Exit → Act → World → Prop} {F : (Nat → Value) → Act} {Φ : Nat → (Nat → Value) → World → Prop} {S : Nat → (Nat → Value) → World → World → Prop} {sp : List Nat} {x0 : Nat → Value} {I : World → Prop}
structure StepY (m : Nat) (P : Program) (l : List Oper) (Q : Exit → Act → World → Prop) (F : (Nat → Value) → Act) (Φ : Nat → (Nat → Value) → World → Prop) (S : Nat → (Nat → Value) → World → World → Prop) (sp : List Nat) (x0 : Nat → Value) (I : World → Prop) (j : Nat) (o : Oper) : Prop where
 keep : ∀ x i v w w', i ≠ j → i ∉ clos l l.length (depsOf l j) → Φ j x w → effX sp S i x w w' → Φ i (upd x i v) w' → Φ j (upd x i v) w'
 put : ∀ x v, (F x).put o.dst v = F (upd x j v)
 step : ∀ x w, I w → x j = x0 j → (∀ k, waitsB .any l.toArray j k = true → Φ k x w) → (∀ k, k < m → x k = x0 k ∨ Φ k x w) →
  wpOp P l.toArray (NoPanic Q) j (fun a' w' => ∃ v, a' = (F x).put o.dst v ∧ I w' ∧ effX sp S j x w w' ∧ Φ j (upd x j v) w') (F x) w
def StepsY (m : Nat) (P : Program) (l : List Oper) (Q : Exit → Act → World → Prop) (F : (Nat → Value) → Act) (Φ : Nat → (Nat → Value) → World → Prop) (S : Nat → (Nat → Value) → World → World → Prop) (sp : List Nat) (x0 : Nat → Value) (I : World → Prop) : Nat → List Oper → Nat → Prop
 | 0, _, _ => True
 | _ + 1, [], _ => True
 | n + 1, o :: r, j => StepY m P l Q F Φ S sp x0 I j o ∧ StepsY m P l Q F Φ S sp x0 I n r (j + 1)
theorem StepsY.done {m : Nat} {r : List Oper} {j : Nat} : StepsY m P l Q F Φ S sp x0 I 0 r j := trivial
theorem StepsY.get {m : Nat} : ∀ (n : Nat) (r : List Oper) (j : Nat), StepsY m P l Q F Φ S sp x0 I n r j → ∀ i o, i < n → r[i]? = some o → StepY m P l Q F Φ S sp x0 I (j + i) o
 | 0, _, _, _, i, _, hi, _ => by omega
 | n + 1, [], _, _, i, _, _, ho => by simp at ho
 | n + 1, o :: r, j, h, 0, o', _, ho => by simp at ho; subst ho; exact h.1
 | n + 1, o :: r, j, h, i + 1, o', hi, ho => by
   have := StepsY.get n r (j + 1) h.2 i o' (by omega) (by simpa using ho)
   rwa [show j + 1 + i = j + (i + 1) by omega] at this
theorem StepsY.cons {m : Nat} (j : Nat) {n : Nat} {o : Oper} {r : List Oper} (hk : ∀ x i v w w', i ≠ j → i ∉ clos l l.length (depsOf l j) → Φ j x w → effX sp S i x w w' → Φ i (upd x i v) w' → Φ j (upd x i v) w') (hp : ∀ x v, (F x).put o.dst v = F (upd x j v)) (ho : l[j]? = some o) (hw : o.guard = none)
 (h : ∀ x w, I w → x j = x0 j → (∀ k, waitsB .any l.toArray j k = true → Φ k x w) → (∀ k, k < m → x k = x0 k ∨ Φ k x w) → ∀ K : Act → World → Prop, Shut (∀ v w', I w' → effX sp S j x w w' → Φ j (upd x j v) w' → K ((F x).put o.dst v) w') → Oper.wp P o (F x) w K (NoPanic Q))
 (hr : StepsY m P l Q F Φ S sp x0 I n r (j + 1)) : StepsY m P l Q F Φ S sp x0 I (n + 1) (o :: r) j := by
 refine ⟨⟨hk, hp, fun x w hb hx hd hs9 => ?_⟩, hr⟩
 unfold wpOp
 rw [show l.toArray[j]? = some o by simpa using ho]
 have hwt : Region.wanted o (yielded l.toArray (F x).tmps) = true := by simp [Region.wanted, hw]
 simp only [hwt, if_true]
 exact .inl (h x w hb hx hd hs9 _ fun v w' h1 h2 h3 => ⟨v, rfl, h1, h2, h3⟩)
theorem StepsY.val {m : Nat} (j : Nat) (v : Value) {n : Nat} {o : Oper} {r : List Oper} (hφ : Φ j = fun x w => eqV v (x j) w) (hjp : sp.contains j = false) (hp : ∀ x v, (F x).put o.dst v = F (upd x j v)) (ho : l[j]? = some o) (hw : o.guard = none)
 (h : ∀ x w, I w → (∀ k, waitsB .any l.toArray j k = true → Φ k x w) → (execOp (F x).eval o).run P w = .ok (.value v) w)
 (hr : StepsY m P l Q F Φ S sp x0 I n r (j + 1)) : StepsY m P l Q F Φ S sp x0 I (n + 1) (o :: r) j := by
 refine StepsY.cons j (fun x i v' w w' hij _ h1 _ _ => ?_) hp ho hw (fun x w hb _ hd _ K hK => ?_) hr
 ·rw [hφ] at h1 ⊢
  show eqV v (upd x i v' j) w'
  rw [upd_ne _ _ _ _ (Ne.symm hij)]
  exact h1
 ·unfold Oper.wp
  rw [h x w hb hd]
  refine hK.out v w hb ?_ ?_
  ·unfold effX
   rw [if_neg (by rw [hjp]; simp)]
   exact Below.refl _ _
  ·rw [hφ]
   show eqV v (upd x j v j) w
   rw [upd_same]
   rfl
theorem StepsY.skip {m : Nat} (j : Nat) {n : Nat} {o : Oper} {r : List Oper} (hφ : Φ j = fun x w => eqV undef (x j) w) (hjp : sp.contains j = false) (hp : ∀ x v, (F x).put o.dst v = F (upd x j v)) (ho : l[j]? = some o)
 (hw : ∀ x w, (∀ k, waitsB .any l.toArray j k = true → Φ k x w) → Region.wanted o (yielded l.toArray (F x).tmps) = false)
 (hr : StepsY m P l Q F Φ S sp x0 I n r (j + 1)) : StepsY m P l Q F Φ S sp x0 I (n + 1) (o :: r) j := by
 refine ⟨⟨fun x i v w w' hij _ h1 _ _ => ?_, hp, fun x w hb hx hd hs9 => ?_⟩, hr⟩
 ·rw [hφ] at h1 ⊢
  show eqV undef (upd x i v j) w'
  rw [upd_ne _ _ _ _ (Ne.symm hij)]
  exact h1
 ·unfold wpOp
  rw [show l.toArray[j]? = some o by simpa using ho]
  simp only [hw x w hd, Bool.false_eq_true, if_false]
  refine ⟨undef, rfl, hb, ?_, ?_⟩
  ·unfold effX
   rw [if_neg (by rw [hjp]; simp)]
   exact Below.refl _ _
  ·rw [hφ]
   show eqV undef (upd x j undef j) w
   rw [upd_same]
   rfl
theorem rely_anyY (m : Nat) (pu : List Nat) (hlate : lateF l m pu = true) (hsel : Region.noSelect l.toArray = true) (hs : StepsY m P l Q F Φ S sp x0 I m l 0) (hpu : ∀ p ∈ pu, PureX P l F Φ p ∧ sp.contains p = false)
 (hend : ∀ x w, I w → (∀ j, j < m → Φ j x w) → wpAny P .any l.toArray (NoPanic Q) (l.length - m) (listedAt l.length m) (F x) w) :
 ∀ (n : Nat) (listed : Array Bool) (u : List Nat) (x : Nat → Value) (w : World), listed.size = l.length → (∀ k, m ≤ k → k < l.length → listed.getD k true = false) → (∀ j, j < m → listed.getD j false = false → j ∈ u) →
   l.length - m + u.length ≤ n → I w → (∀ j, j < m → listed.getD j false = true → Φ j x w) → (∀ j, j < m → listed.getD j false = true → ∀ k, k ∈ depsOf l j → listed.getD k false = true) → (∀ j, j < m → listed.getD j false = false → x j = x0 j) → wpAny P .any l.toArray (NoPanic Q) n listed (F x) w := by
 simp only [lateF, Bool.and_eq_true, decide_eq_true_eq, List.all_eq_true, List.mem_range] at hlate
 obtain ⟨⟨hml, hpf⟩, hla⟩ := hlate
 intro n
 induction n with
 | zero =>
   intro listed u x w hsz hlo hu hn hb hp hcl hx0
   have hall : ∀ j, j < m → listed.getD j false = true := fun j hj => by
    cases hq : listed.getD j false
    ·have := List.length_pos_of_mem (hu j hj hq); omega
    ·rfl
   have hl : listed = listedAt l.length m := by
    refine Array.ext (by simp [listedAt, hsz]; omega) (fun i h1 h2 => ?_)
    rcases Nat.lt_or_ge i m with h | h
    ·have := hall i h
     simp [h1] at this
     simp [listedAt, h, this]
    ·have := hlo i h (by omega)
     simp [h1] at this
     simp [listedAt, List.getElem_append, Nat.not_lt.2 h, this]
   subst hl
   exact wpAny_le (by omega) (hend x w hb (fun j hj => hp j hj (hall j hj)))
 | succ n ih =>
   intro listed u x w hsz hlo hu hn hb hp hcl hx0
   have hun : ∀ j, j < m → listed.getD j false = false → listed.getD j true = false := fun j hj h => by
    have : j < listed.size := by omega
    simp [this] at h ⊢
    exact h
   have hnext : ∀ i oi v w', i < m → l[i]? = some oi → listed.getD i false = false → (∀ k, k ∈ depsOf l i → listed.getD k false = true) → I w' → effX sp S i x w w' → Φ i (upd x i v) w' → wpAny P .any l.toArray (NoPanic Q) n (listed.setIfInBounds i true) ((F x).put oi.dst v) w' := by
    intro i oi v w' him hoi' hif hia hb' heff hv
    have hsi := StepsY.get m l 0 hs i oi him hoi'
    rw [Nat.zero_add] at hsi
    rw [hsi.put]
    refine ih (listed.setIfInBounds i true) (u.erase i) (upd x i v) w' (by simp [hsz]) (fun k h1 h2 => ?_) (fun j hj hjf => ?_) ?_ hb' (fun j hj hjl => ?_) (fun j hj hjl k hk => ?_) (fun j hj hjf => ?_)
    ·rw [getD_set_ne true (by omega)]; exact hlo k h1 h2
    ·have hne : i ≠ j := fun e => by
      subst e
      simp [show i < listed.size by omega] at hjf
     rw [getD_set_ne false hne] at hjf
     exact (List.mem_erase_of_ne (Ne.symm hne)).2 (hu j hj hjf)
    ·have := hu i him hif
     rw [List.length_erase_of_mem this]
     have := List.length_pos_of_mem this
     omega
    ·rcases Nat.decEq i j with hne | rfl
     ·rw [getD_set_ne false hne] at hjl
      obtain ⟨oj, hoj⟩ : ∃ o, l[j]? = some o := ⟨l[j]'(by omega), by simp⟩
      have hsj := StepsY.get m l 0 hs j oj hj hoj
      rw [Nat.zero_add] at hsj
      refine hsj.keep _ _ _ _ _ hne (fun hdi => ?_) (hp j hj hjl) heff hv
      have hlt : ∀ k, listed.getD k false = true → k < m := fun k hk => by
       rcases Nat.lt_or_ge k m with h2 | h2
       ·exact h2
       ·rcases Nat.lt_or_ge k l.length with h3 | h3
        ·have h4 := hlo k h2 h3
         have h5 : k < listed.size := by omega
         simp [h5] at hk h4
         rw [h4] at hk; cases hk
        ·have h5 : ¬ k < listed.size := by omega
         simp [h5] at hk
      have h7 := clos_listed l (fun k => listed.getD k false = true) (fun q hq k hk => hcl q (hlt q hq) hq k hk) l.length (depsOf l j) (fun k hk => hcl j hj hjl k hk) i hdi
      rw [hif] at h7
      cases h7
     ·exact hv
    ·refine getD_set_true ?_
     rcases Nat.decEq i j with hne | rfl
     ·rw [getD_set_ne false hne] at hjl
      exact hcl j hj hjl k hk
     ·exact hia k hk
    ·have hne : i ≠ j := fun e => by
      subst e
      simp [show i < listed.size by omega] at hjf
     rw [getD_set_ne false hne] at hjf
     rw [upd_ne _ _ _ _ (Ne.symm hne)]
     exact hx0 j hj hjf
   have hwb : ∀ i oi, i < m → l[i]? = some oi → (∀ e ∈ oi.after, Region.binds .any e = true → listed.getD e.on false = true) → ∀ k, waitsB .any l.toArray i k = true → Φ k x w := by
    intro i oi him hoi' hia k hk
    obtain ⟨e, he, hbd, hon⟩ := waits_of hoi' hk
    have h2 := hia e he hbd
    rw [hon] at h2
    have hki : k < i := by
     have h1 := hla i (by omega)
     rw [if_pos him, hoi'] at h1
     simp only [Option.map_some, Option.getD_some, Array.all_eq_true_iff_forall_mem] at h1
     have h3 := h1 e he
     simp [hbd] at h3
     omega
    exact hp k (by omega) h2
   by_cases hpx : ∃ p, p ∈ pu ∧ listed.getD p false = false ∧ p ∈ Region.ready .any l.toArray listed
   ·obtain ⟨p, hp1, hp2, hp3⟩ := hpx
    have hpm : p < m := (hpf p hp1).1
    obtain ⟨hiu, oi, hoi, hia⟩ := mem_ready.1 hp3
    have hoi' : l[p]? = some oi := by simpa using hoi
    obtain ⟨hpx, hpn⟩ := hpu p hp1
    obtain ⟨hwt, v, hv, hΦ⟩ := hpx oi hoi' x w (hwb p oi hpm hoi' hia)
    refine AnyTill.any (m := l.length) (S := fun _ => True) _ _ _ _ ?_
    refine AnyTill.firstFree hoi hsel (by omega) (fun _ _ _ h => h) n listed (F x) w (fun j oj hj hne hjl hw => ?_) hp3 (.inl ⟨hwt, fun w' _ => hv w'⟩) (.inr trivial) (AnyTill.of_any _ _ _ _ (hnext p oi v w hpm hoi' hp2 (fun k hk => ?_) hb (by unfold effX; rw [if_neg (by rw [hpn]; simp)]; exact Below.refl _ _) hΦ))
    ·refine Region.free_spec hoi (hpf p hp1).2 j oj hj hne ?_ hw
     have hjl2 : j < l.length := by
      have := (Array.getElem?_eq_some_iff.1 hj).1
      simpa using this
     refine lstF_at l p j hjl2 (fun hjd => ?_)
     obtain ⟨e, he, hbd, hon⟩ := deps_mem hoi' hjd
     have h9 := hia e he hbd
     rw [hon] at h9
     have h8 : j < listed.size := by omega
     simp [h8] at hjl h9
     rw [h9] at hjl; cases hjl
    ·obtain ⟨e, he, hbd, hon⟩ := deps_mem hoi' hk
     rw [← hon]; exact hia e he hbd
   by_cases hex : ∃ j, j < m ∧ listed.getD j false = false
   ·obtain ⟨j0, hj0, hf0, hlt0⟩ := least_false _ m hex
    obtain ⟨o0, ho0⟩ : ∃ o, l[j0]? = some o := ⟨l[j0]'(by omega), by simp⟩
    have hr0 : j0 ∈ Region.ready .any l.toArray listed := by
     refine mem_ready.2 ⟨hun j0 hj0 hf0, o0, by simpa using ho0, fun e he hbd => hlt0 e.on ?_⟩
     have h1 := hla j0 (by omega)
     rw [if_pos hj0, ho0] at h1
     simp only [Option.map_some, Option.getD_some, Array.all_eq_true_iff_forall_mem] at h1
     have h2 := h1 e he
     simp [hbd] at h2
     exact h2
    refine ⟨fun h => absurd hr0 (by rw [h]; exact List.not_mem_nil), fun i hi => ?_⟩
    obtain ⟨hiu, oi, hoi, hia⟩ := mem_ready.1 hi
    have hoi' : l[i]? = some oi := by simpa using hoi
    have hil : i < l.length := (List.getElem?_eq_some_iff.1 hoi').1
    have him : i < m := by
     rcases Nat.lt_or_ge i m with h | h
     ·exact h
     ·have h1 := hla i hil
      rw [if_neg (Nat.not_lt.2 h)] at h1
      simp only [List.all_eq_true, List.mem_range, Bool.or_eq_true, Bool.and_eq_true, List.contains_iff_mem] at h1
      have hdi : ∀ k, k ∈ depsOf l i → listed.getD k false = true := fun k hk => by
       obtain ⟨e, he, hbd, hon⟩ := deps_mem hoi' hk
       rw [← hon]; exact hia e he hbd
      have hlt : ∀ k, listed.getD k false = true → k < m := fun k hk => by
       rcases Nat.lt_or_ge k m with h2 | h2
       ·exact h2
       ·rcases Nat.lt_or_ge k l.length with h3 | h3
        ·have h4 := hlo k h2 h3
         have h5 : k < listed.size := by omega
         simp [h5] at hk h4
         rw [h4] at hk; cases hk
        ·have h5 : ¬ k < listed.size := by omega
         simp [h5] at hk
      have hcs := clos_listed l (fun k => listed.getD k false = true) (fun j hj k hk => hcl j (hlt j hj) hj k hk) l.length (depsOf l i) hdi
      rcases h1 j0 hj0 with h2 | ⟨h2, h3⟩
      ·have h4 := hcs j0 h2
       rw [hf0] at h4
       cases h4
      ·exact absurd ⟨j0, h2, hf0, hr0⟩ hpx
    have hsi := StepsY.get m l 0 hs i oi him hoi'
    rw [Nat.zero_add] at hsi
    have hif : listed.getD i false = false := by
     have : i < listed.size := by omega
     simp [this] at hiu ⊢
     exact hiu
    refine wpOp_mono (fun a' w' hk => ?_) (hsi.step x w hb (hx0 i him hif) (hwb i oi him hoi' hia) (fun k hk => by
     cases hq : listed.getD k false
     ·exact .inl (hx0 k hk hq)
     ·exact .inr (hp k hk hq)))
    obtain ⟨v, rfl, hb', heff, hv⟩ := hk
    refine hnext i oi v w' him hoi' hif (fun k hk => ?_) hb' heff hv
    obtain ⟨e, he, hbd, hon⟩ := deps_mem hoi' hk
    rw [← hon]; exact hia e he hbd
   ·have hall : ∀ j, j < m → listed.getD j false = true := fun j hj => by
     cases hq : listed.getD j false
     ·exact absurd ⟨j, hj, hq⟩ hex
     ·rfl
    have hl : listed = listedAt l.length m := by
     refine Array.ext (by simp [listedAt, hsz]; omega) (fun i h1 h2 => ?_)
     rcases Nat.lt_or_ge i m with h | h
     ·have := hall i h
      simp [h1] at this
      simp [listedAt, h, this]
     ·have := hlo i h (by omega)
      simp [h1] at this
      simp [listedAt, List.getElem_append, Nat.not_lt.2 h, this]
    subst hl
    exact wpAny_le (by omega) (hend x w hb (fun j hj => hp j hj (hall j hj)))
theorem wp_region_relyY {w0 : World} (I : World → Prop) (hI0 : I w0.drew) (pu sp : List Nat) (S : Nat → (Nat → Value) → World → World → Prop) (x0 : Nat → Value) (m d : Nat) (F : (Nat → Value) → Act) (Φ : Nat → (Nat → Value) → World → Prop) {id : Nat} {a : Act} (hN : l.length = m + d) (ha : a = F x0) (hm : P.follows .mixedOrders = true) (hlate : lateF l m pu = true) (hsel : Region.noSelect l.toArray = true) (hpu : ∀ p ∈ pu, PureX P l F Φ p ∧ sp.contains p = false) (hs : StepsY m P l Q F Φ S sp x0 I m l 0)
 (hend : ∀ x w, I w → (∀ j, j < m → Φ j x w) → wpAny P .any l.toArray (NoPanic Q) d (listedAt (m + d) m) (F x) w) : (Code.region id l.toArray true).wp P Q a w0 := by
 subst ha
 refine wp_region_noPanic (wp_region_any hm ?_)
 refine rely_anyY m pu hlate hsel hs hpu (fun x w h1 h2 => ?_) _ _ (List.range m) x0 _ (by simp) (fun k _ h => by simp [h]) (fun j hj _ => List.mem_range.2 hj) (by simp; omega) hI0 (fun j hj h => ?_) (fun j hj h => ?_) (fun _ _ _ => rfl)
 ·rw [hN, Nat.add_sub_cancel_left]
  exact hend x w h1 h2
 ·have : j < l.length := by omega
  simp [this] at h
 ·have : j < l.length := by omega
  simp [this] at h
end
theorem szSl1 : (Tryz.prog.info? 92).map (·.size) = some 1 := by kernel_rfl
theorem szErr1 : (Tryz.prog.info? 25).map (·.size) = some 1 := by kernel_rfl
theorem Own.storedB {e : TypeId} {w w' : World} {base g : Nat} {v : Value} {l : List UInt8} (h : Own e w base v l) (hg : g < base) (ho : ∀ k, k ≠ g → w'.heap[k]? = w.heap[k]?) : Own e w' base v l := by
 refine ⟨h.1, ?_⟩
 rcases h.2 with hn | ⟨q, cap, cur, rfl, hg0, hg', r⟩
 ·exact .inl hn
 ·exact .inr ⟨q, cap, cur, rfl, hg0, by rw [ho q (by omega)]; exact hg', r⟩
theorem Own.one {e : TypeId} {w : World} {base : Nat} {v : Value} {l : List UInt8} (h : Own e w base v l) : v.oneCell' = true := by
 obtain ⟨A, n, c, rfl⟩ := h.isSlice
 rfl
def PSt (g : Nat) (s : List UInt8 × Nat) (w : World) : Prop := ∃ v, Blk w g [v, .int .i64 (s.2 : Int)] 139 ∧ Own 5 w (g + 1) v s.1
def stN (s : List UInt8 × Nat) : Int × List UInt8 × Nat := if s.2 = 0 then (zag (takeN s.1).1, (takeN s.1).2) else (0, s)
def stS (m : Int) (s : List UInt8 × Nat) : List UInt8 × List UInt8 × Nat := if s.2 = 0 then takeS s.1 m else ([], s)
theorem partN_zero (g : Nat) (v : Value) (l : List UInt8) (w : World) (hg : Blk w g [v, .int .i64 0] 139) (hr : Rd w.heap.size w v l) (hl : l.length ≤ 1000000) :
 Calls Tryz.prog 75 #[.pointer (some ⟨g, 0, none⟩)] w (fun e w' => ∃ v', e = .returned (.int .i64 (zag (takeN l).1)) ∧ Blk w' g [v', .int .i64 ((takeN l).2.2 : Int)] 139 ∧ Own 5 w' (g + 1) v' (takeN l).2.1 ∧ Below g w w') := by
 obtain ⟨A, c, rfl, -, -⟩ := hr.shape
 have X := lhd hg
 have HR := lhd hr
 have HL := lhd hl
 have hlt := hg.lt
 clear hr hl hg
 go_enter Tryz.func75, Tryz.ntmps75
 have c0 := X.out.at_ 0 _ rfl
 have c1 := X.out.at_ 1 _ rfl
 go_wp2_with fail
 refine (takeInt_any (.slice A l.length c) l w HR.out (by have := HL.out; omega)).mono ?_
 rintro e w1 ⟨vr, rfl, hown, hb⟩
 obtain ⟨T, hT⟩ : ∃ T, takeN l = T := ⟨_, rfl⟩
 have HT := lhd hT
 rw [hT] at hown ⊢
 obtain ⟨t0, t1, t2⟩ := T
 dsimp only at hown ⊢
 have X1 := lhd (X.out.below hb hlt)
 have HB := lhd (hb.mono (Nat.le_of_lt hlt))
 have HO := lhd (hown.base (base' := g + 1) hlt)
 have h1 := hown.one
 clear hT hb hown c0 c1 X
 go_wp2_with (refine wpList_store_fld rfl 92 _ _ rfl g 0 [.slice A l.length c, .int .i64 0] vr 139 rfl rfl X1.out szSl1 (by show 0 < 2; decide) h1 ?_)
 intro w2 e1 e2 e3 e4
 have X2 := lhd e1
 have HB2 := lhd (HB.out.trans e3)
 have HO2 := lhd (HO.out.storedB (Nat.lt_succ_self g) e4)
 clear e1 e2 e3 e4 X1 HB HO h1
 go_wp2_with (refine wpList_store_fld rfl 25 _ _ rfl g 1 [vr, .int .i64 0] (.int .i64 (t2 : Int)) 139 rfl rfl X2.out szErr1 (by show 1 < 2; decide) rfl ?_)
 intro w3 e1 e2 e3 e4
 have X3 := lhd e1
 have HB3 := lhd (HB2.out.trans e3)
 have HO3 := lhd (HO2.out.storedB (Nat.lt_succ_self g) e4)
 clear e1 e2 e3 e4 X2 HB2 HO2
 go_wp2
 go_ret
 rw [HT.out]
 exact ⟨vr, rfl, X3.out, HO3.out, HB3.out⟩
theorem partN_err (g : Nat) (v : Value) (f : Nat) (w : World) (hg : Blk w g [v, .int .i64 (f : Int)] 139) (hf : f ≠ 0) :
 Calls Tryz.prog 75 #[.pointer (some ⟨g, 0, none⟩)] w (One (.int .i64 0) w) := by
 have hne : ((f : Int) == 0) = false := by rw [beq_eq_false_iff_ne]; omega
 have c1 := hg.at_ 1 _ rfl
 clear hg hf
 go_enter Tryz.func75, Tryz.ntmps75
 go_wp2
 go_ret
 exact ⟨rfl, Below.refl _ _⟩
theorem partN_any (g : Nat) (s : List UInt8 × Nat) (w : World) (h : PSt g s w) (hl : s.1.length ≤ 1000000) :
 Calls Tryz.prog 75 #[.pointer (some ⟨g, 0, none⟩)] w (fun e w' => e = .returned (.int .i64 (stN s).1) ∧ PSt g (stN s).2 w' ∧ Below g w w') := by
 obtain ⟨v, h1, h2⟩ := h
 obtain ⟨l, f⟩ := s
 by_cases hf : f = 0
 ·subst hf
  refine (partN_zero g v l w h1 h2.rd hl).mono ?_
  rintro e w' ⟨v', rfl, hx, ho, hb⟩
  unfold stN
  rw [if_pos rfl]
  exact ⟨rfl, ⟨v', hx, ho⟩, hb⟩
 ·refine (partN_err g v f w h1 hf).mono ?_
  rintro e w' ⟨rfl, hb⟩
  unfold stN
  rw [if_neg hf]
  exact ⟨rfl, ⟨v, h1.below hb h1.lt, h2.below hb (Nat.le_refl _)⟩, hb.mono (Nat.le_of_lt h1.lt)⟩
theorem partS_zero (g : Nat) (v : Value) (l : List UInt8) (m : Int) (m0 : -9223372036854775808 ≤ m) (m1 : m ≤ 9223372036854775807) (w : World) (hg : Blk w g [v, .int .i64 0] 139) (hr : Rd w.heap.size w v l) (hl : l.length ≤ 1000000) :
 Calls Tryz.prog 76 #[.pointer (some ⟨g, 0, none⟩), .int .i64 m] w (fun e w' => ∃ v', e = .returned (txt (takeS l m).1) ∧ Blk w' g [v', .int .i64 ((takeS l m).2.2 : Int)] 139 ∧ Own 5 w' (g + 1) v' (takeS l m).2.1 ∧ Below g w w') := by
 obtain ⟨A, c, rfl, -, -⟩ := hr.shape
 have X := lhd hg
 have HR := lhd hr
 have HL := lhd hl
 have hlt := hg.lt
 clear hr hl hg
 go_enter Tryz.func76, Tryz.ntmps76
 have c0 := X.out.at_ 0 _ rfl
 have c1 := X.out.at_ 1 _ rfl
 go_wp2_with fail
 refine (takeText_any (.slice A l.length c) l m w HR.out m0 m1 (by have := HL.out; omega)).mono ?_
 rintro e w1 ⟨vr, rfl, hown, hb⟩
 obtain ⟨T, hT⟩ : ∃ T, takeS l m = T := ⟨_, rfl⟩
 have HT := lhd hT
 rw [hT] at hown ⊢
 obtain ⟨t0, t1, t2⟩ := T
 dsimp only at hown ⊢
 have X1 := lhd (X.out.below hb hlt)
 have HB := lhd (hb.mono (Nat.le_of_lt hlt))
 have HO := lhd (hown.base (base' := g + 1) hlt)
 have h1 := hown.one
 clear hT hb hown c0 c1 X
 go_wp2_with (refine wpList_store_fld rfl 92 _ _ rfl g 0 [.slice A l.length c, .int .i64 0] vr 139 rfl rfl X1.out szSl1 (by show 0 < 2; decide) h1 ?_)
 intro w2 e1 e2 e3 e4
 have X2 := lhd e1
 have HB2 := lhd (HB.out.trans e3)
 have HO2 := lhd (HO.out.storedB (Nat.lt_succ_self g) e4)
 clear e1 e2 e3 e4 X1 HB HO h1
 go_wp2_with (refine wpList_store_fld rfl 25 _ _ rfl g 1 [vr, .int .i64 0] (.int .i64 (t2 : Int)) 139 rfl rfl X2.out szErr1 (by show 1 < 2; decide) rfl ?_)
 intro w3 e1 e2 e3 e4
 have X3 := lhd e1
 have HB3 := lhd (HB2.out.trans e3)
 have HO3 := lhd (HO2.out.storedB (Nat.lt_succ_self g) e4)
 clear e1 e2 e3 e4 X2 HB2 HO2
 go_wp2
 go_ret
 rw [HT.out]
 exact ⟨vr, rfl, X3.out, HO3.out, HB3.out⟩
theorem partS_err (g : Nat) (v : Value) (f : Nat) (m : Int) (w : World) (hg : Blk w g [v, .int .i64 (f : Int)] 139) (hf : f ≠ 0) :
 Calls Tryz.prog 76 #[.pointer (some ⟨g, 0, none⟩), .int .i64 m] w (One (txt []) w) := by
 have hne : ((f : Int) == 0) = false := by rw [beq_eq_false_iff_ne]; omega
 have c1 := hg.at_ 1 _ rfl
 clear hg hf
 go_enter Tryz.func76, Tryz.ntmps76
 go_wp2
 go_ret
 exact ⟨rfl, Below.refl _ _⟩
theorem partS_any (g : Nat) (s : List UInt8 × Nat) (m : Int) (m0 : -9223372036854775808 ≤ m) (m1 : m ≤ 9223372036854775807) (w : World) (h : PSt g s w) (hl : s.1.length ≤ 1000000) :
 Calls Tryz.prog 76 #[.pointer (some ⟨g, 0, none⟩), .int .i64 m] w (fun e w' => e = .returned (txt (stS m s).1) ∧ PSt g (stS m s).2 w' ∧ Below g w w') := by
 obtain ⟨v, h1, h2⟩ := h
 obtain ⟨l, f⟩ := s
 by_cases hf : f = 0
 ·subst hf
  refine (partS_zero g v l m m0 m1 w h1 h2.rd hl).mono ?_
  rintro e w' ⟨v', rfl, hx, ho, hb⟩
  unfold stS
  rw [if_pos rfl]
  exact ⟨rfl, ⟨v', hx, ho⟩, hb⟩
 ·refine (partS_err g v f m w h1 hf).mono ?_
  rintro e w' ⟨rfl, hb⟩
  unfold stS
  rw [if_neg hf]
  exact ⟨rfl, ⟨v, h1.below hb h1.lt, h2.below hb (Nat.le_refl _)⟩, hb.mono (Nat.le_of_lt h1.lt)⟩
def numsOf : Nat → List UInt8 × Nat → List Int × List UInt8 × Nat
 | 0, s => ([], s)
 | k + 1, s => ((stN s).1 :: (numsOf k (stN s).2).1, (numsOf k (stN s).2).2)
theorem stN_err {l : List UInt8} {f : Nat} (h : f ≠ 0) : stN (l, f) = (0, l, f) := by
 unfold stN
 rw [if_neg h]
theorem numsOf_err (k : Nat) (l : List UInt8) (f : Nat) (h : f ≠ 0) : (numsOf k (l, f)).2 = (l, f) := by
 induction k with
 | zero => rfl
 | succ k ih => rw [numsOf, stN_err h]; exact ih
theorem nums_bad (k : Nat) : ∀ l : List UInt8, (takeIs k l).2.2 ≠ 0 → (numsOf k (l, 0)).2.2 = (takeIs k l).2.2 := by
 induction k with
 | zero => intro l h; exact absurd rfl h
 | succ k ih =>
   intro l h
   rw [numsOf]
   have e : stN (l, 0) = (zag (takeN l).1, (takeN l).2) := by unfold stN; rw [if_pos rfl]
   rw [e]
   show (numsOf k (takeN l).2).2.2 = _
   obtain ⟨n, r, f, hT⟩ : ∃ a b c, takeN l = (a, b, c) := ⟨_, _, _, rfl⟩
   unfold takeIs at h ⊢
   rw [hT] at h ⊢
   dsimp only at h ⊢
   by_cases hf : f = 0
   ·subst hf
    rw [if_neg (by simp)] at h ⊢
    by_cases h2 : (takeIs k r).2.2 = 0
    ·rw [if_neg (by simpa using h2)] at h
     exact absurd rfl h
    ·rw [if_pos h2]
     exact ih r h2
   ·rw [if_pos hf, numsOf_err k r f hf]
theorem nums_good (k : Nat) : ∀ l : List UInt8, (takeIs k l).2.2 = 0 → numsOf k (l, 0) = takeIs k l := by
 induction k with
 | zero => intro l _; rfl
 | succ k ih =>
   intro l h
   rw [numsOf]
   have e : stN (l, 0) = (zag (takeN l).1, (takeN l).2) := by unfold stN; rw [if_pos rfl]
   rw [e]
   dsimp only
   obtain ⟨n, r, f, hT⟩ : ∃ a b c, takeN l = (a, b, c) := ⟨_, _, _, rfl⟩
   unfold takeIs at h ⊢
   rw [hT] at h ⊢
   dsimp only at h ⊢
   by_cases hf : f = 0
   ·subst hf
    rw [if_neg (by simp)] at h ⊢
    by_cases h2 : (takeIs k r).2.2 = 0
    ·have e2 : (takeIs k r).2 = ((takeIs k r).2.1, 0) := by rw [← h2]
     rw [if_neg (by simpa using h2), ih r h2, e2]
    ·rw [if_pos h2] at h
     exact absurd h h2
   ·rw [if_pos hf] at h
    exact absurd h hf
theorem stS_err {l : List UInt8} {f : Nat} (m : Int) (h : f ≠ 0) : stS m (l, f) = ([], l, f) := by
 unfold stS
 rw [if_neg h]
theorem stS_ok (l : List UInt8) (m : Int) : stS m (l, 0) = takeS l m := by
 unfold stS
 rw [if_pos rfl]
theorem takeO_st (l : List UInt8) {ns : List Int} {s6 s7 s8 : List UInt8 × Nat} {p q : List UInt8} (h6 : numsOf 6 (l, 0) = (ns, s6)) (h7 : stS 100 s6 = (p, s7)) (h8 : stS 1000 s7 = (q, s8)) :
 takeO l = if s8.2 ≠ 0 then (or0, [], s8.2) else if mayO (ofTaken ns p q) = true then (ofTaken ns p q, s8.1, 0) else (or0, [], 3) := by
 obtain ⟨r6, f6⟩ := s6
 obtain ⟨r7, f7⟩ := s7
 obtain ⟨r8, f8⟩ := s8
 by_cases e6 : (takeIs 6 l).2.2 = 0
 ·have h := nums_good 6 l e6
  rw [h6] at h
  rw [← h] at e6
  dsimp only at e6
  subst e6
  rw [stS_ok] at h7
  by_cases e7 : f7 = 0
  ·subst e7
   rw [stS_ok] at h8
   by_cases e8 : f8 = 0
   ·subst e8
    rw [if_neg (by simp)]
    exact takeO_4 h.symm h7 h8
   ·rw [if_pos e8]
    exact takeO_3 h.symm h7 h8 e8
  ·rw [stS_err _ e7] at h8
   injection h8 with _ h8
   injection h8 with _ h8
   subst h8
   rw [if_pos e7]
   exact takeO_2 h.symm h7 e7
 ·have h := nums_bad 6 l e6
  rw [h6] at h
  dsimp only at h
  have e6' : f6 ≠ 0 := by rw [h]; exact e6
  rw [stS_err _ e6'] at h7
  injection h7 with _ h7
  injection h7 with _ h7
  subst h7
  rw [stS_err _ e6'] at h8
  injection h8 with _ h8
  injection h8 with _ h8
  subst h8
  rw [if_pos e6', h]
  exact takeO_1 (l := l) (ns := (takeIs 6 l).1) (r1 := (takeIs 6 l).2.1) rfl e6
theorem stN_len (s : List UInt8 × Nat) : (stN s).2.1.length ≤ s.1.length := by
 unfold stN
 split
 ·exact takeN_rest s.1
 ·exact Nat.le_refl _
theorem stS_len (m : Int) (s : List UInt8 × Nat) : (stS m s).2.1.length ≤ s.1.length := by
 unfold stS
 split
 ·exact takeS_rest s.1 m
 ·exact Nat.le_refl _
end Go.Proofs.YtgfobinklijkpaaGreatDoor
