/-
  Texts R7 R8 R9 RX NK RS NM.
-/
import Derived.Test.YtgfobinklijkpaaGreatDoorV01
import Derived.BigFrame
import Derived.Lib.AppendZeros
import Derived.Test.YtgfobinklijkpaaGreatDoorV07
import Derived.Test.YtgfobinklijkpaaGreatDoorV08
import Derived.Test.YtgfobinklijkpaaGreatDoorV09
namespace Go.Proofs.YtgfobinklijkpaaGreatDoor
set_option maxRecDepth 100000
set_option maxHeartbeats 16000000
open Go.RowKit
def lstF (l : List Oper) (p : Nat) : Array Bool := ((List.range l.length).map fun j => (depsOf l p).contains j).toArray
theorem lstF_at (l : List Oper) (p j : Nat) (hj : j < l.length) (h : j ∉ depsOf l p) : (lstF l p).getD j true = false := by
 unfold lstF
 simp [hj, h]
def lateF (l : List Oper) (m : Nat) (pu : List Nat) : Bool :=
 decide (m ≤ l.length) && (pu.all fun p => decide (p < m) && Region.free .any l.toArray (lstF l p) p) && (List.range l.length).all fun j =>
  if j < m then ((l[j]?).map fun o => o.after.all fun e => !Region.binds .any e || decide (e.on < j)).getD false
  else (List.range m).all fun k => (clos l l.length (depsOf l j)).contains k || (pu.contains k && (depsOf l k).all fun q => (clos l l.length (depsOf l j)).contains q)
section
variable {P : Program} {l : List Oper} {Q : Exit → Act → World → Prop} {F : (Nat → Value) → Act} {Φ : Nat → Value → World → Prop} {w0 : World}
def PureAt (P : Program) (l : List Oper) (F : (Nat → Value) → Act) (Φ : Nat → Value → World → Prop) (p : Nat) : Prop :=
 ∀ op, l[p]? = some op → ∀ x w, (∀ k, waitsB .any l.toArray p k = true → Φ k (x k) w) → Region.wanted op (yielded l.toArray (F x).tmps) = true ∧ ∃ v, (∀ w', (execOp (F x).eval op).run P w' = .ok (.value v) w') ∧ Φ p v w
theorem rely_anyF (m : Nat) (pu : List Nat) (hlate : lateF l m pu = true) (hsel : Region.noSelect l.toArray = true) (hs : StepsAt P l Q F Φ w0 m l 0) (hpu : ∀ p ∈ pu, PureAt P l F Φ p)
 (hend : ∀ x w, Below w0.heap.size w0 w → (∀ j, j < m → Φ j (x j) w) → wpAny P .any l.toArray (NoPanic Q) (l.length - m) (listedAt l.length m) (F x) w) :
 ∀ (n : Nat) (listed : Array Bool) (u : List Nat) (x : Nat → Value) (w : World), listed.size = l.length → (∀ k, m ≤ k → k < l.length → listed.getD k true = false) → (∀ j, j < m → listed.getD j false = false → j ∈ u) →
   l.length - m + u.length ≤ n → Below w0.heap.size w0 w → (∀ j, j < m → listed.getD j false = true → Φ j (x j) w) → (∀ j, j < m → listed.getD j false = true → ∀ k, k ∈ depsOf l j → listed.getD k false = true) → wpAny P .any l.toArray (NoPanic Q) n listed (F x) w := by
 simp only [lateF, Bool.and_eq_true, decide_eq_true_eq, List.all_eq_true, List.mem_range] at hlate
 obtain ⟨⟨hml, hpf⟩, hla⟩ := hlate
 intro n
 induction n with
 | zero =>
   intro listed u x w hsz hlo hu hn hb hp hcl
   have hall : ∀ j, j < m → listed.getD j false = true := fun j hj => by
    cases hq : listed.getD j false
    ·have := List.length_pos_of_mem (hu j hj hq); omega
    ·rfl
   have hl : listed = listedAt l.length m := by
    refine Array.ext (by simp [listedAt, hsz]; omega) (fun i h1 h2 => ?_)
    rcases Nat.lt_or_ge i m with h | h
    ·have := hall i h
     simp [h1] at this
     simp [listedAt, h, this]
    ·have := hlo i h (by omega)
     simp [h1] at this
     simp [listedAt, List.getElem_append, Nat.not_lt.2 h, this]
   subst hl
   exact wpAny_le (by omega) (hend x w hb (fun j hj => hp j hj (hall j hj)))
 | succ n ih =>
   intro listed u x w hsz hlo hu hn hb hp hcl
   have hun : ∀ j, j < m → listed.getD j false = false → listed.getD j true = false := fun j hj h => by
    have : j < listed.size := by omega
    simp [this] at h ⊢
    exact h
   have hnext : ∀ i oi v w', i < m → l[i]? = some oi → listed.getD i false = false → (∀ k, k ∈ depsOf l i → listed.getD k false = true) → Below w.heap.size w w' → Φ i v w' → wpAny P .any l.toArray (NoPanic Q) n (listed.setIfInBounds i true) ((F x).put oi.dst v) w' := by
    intro i oi v w' him hoi' hif hia hb' hv
    have hsi := StepsAt.get m l 0 hs i oi him hoi'
    rw [Nat.zero_add] at hsi
    rw [hsi.put]
    refine ih (listed.setIfInBounds i true) (u.erase i) (upd x i v) w' (by simp [hsz]) (fun k h1 h2 => ?_) (fun j hj hjf => ?_) ?_ (hb.trans (hb'.mono hb.size)) (fun j hj hjl => ?_) (fun j hj hjl k hk => ?_)
    ·rw [getD_set_ne true (by omega)]; exact hlo k h1 h2
    ·have hne : i ≠ j := fun e => by
      subst e
      simp [show i < listed.size by omega] at hjf
     rw [getD_set_ne false hne] at hjf
     exact (List.mem_erase_of_ne (Ne.symm hne)).2 (hu j hj hjf)
    ·have := hu i him hif
     rw [List.length_erase_of_mem this]
     have := List.length_pos_of_mem this
     omega
    ·rcases Nat.decEq i j with hne | rfl
     ·rw [getD_set_ne false hne] at hjl
      rw [upd_ne _ _ _ _ (Ne.symm hne)]
      obtain ⟨oj, hoj⟩ : ∃ o, l[j]? = some o := ⟨l[j]'(by omega), by simp⟩
      have hsj := StepsAt.get m l 0 hs j oj hj hoj
      rw [Nat.zero_add] at hsj
      exact hsj.keep _ _ _ (hp j hj hjl) hb'
     ·rw [upd_same]; exact hv
    ·refine getD_set_true ?_
     rcases Nat.decEq i j with hne | rfl
     ·rw [getD_set_ne false hne] at hjl
      exact hcl j hj hjl k hk
     ·exact hia k hk
   have hwb : ∀ i oi, i < m → l[i]? = some oi → (∀ e ∈ oi.after, Region.binds .any e = true → listed.getD e.on false = true) → ∀ k, waitsB .any l.toArray i k = true → Φ k (x k) w := by
    intro i oi him hoi' hia k hk
    obtain ⟨e, he, hbd, hon⟩ := waits_of hoi' hk
    have h2 := hia e he hbd
    rw [hon] at h2
    have hki : k < i := by
     have h1 := hla i (by omega)
     rw [if_pos him, hoi'] at h1
     simp only [Option.map_some, Option.getD_some, Array.all_eq_true_iff_forall_mem] at h1
     have h3 := h1 e he
     simp [hbd] at h3
     omega
    exact hp k (by omega) h2
   by_cases hpx : ∃ p, p ∈ pu ∧ listed.getD p false = false ∧ p ∈ Region.ready .any l.toArray listed
   ·obtain ⟨p, hp1, hp2, hp3⟩ := hpx
    have hpm : p < m := (hpf p hp1).1
    obtain ⟨hiu, oi, hoi, hia⟩ := mem_ready.1 hp3
    have hoi' : l[p]? = some oi := by simpa using hoi
    obtain ⟨hwt, v, hv, hΦ⟩ := hpu p hp1 oi hoi' x w (hwb p oi hpm hoi' hia)
    refine AnyTill.any (m := l.length) (S := fun _ => True) _ _ _ _ ?_
    refine AnyTill.firstFree hoi hsel (by omega) (fun _ _ _ h => h) n listed (F x) w (fun j oj hj hne hjl hw => ?_) hp3 (.inl ⟨hwt, fun w' _ => hv w'⟩) (.inr trivial) (AnyTill.of_any _ _ _ _ (hnext p oi v w hpm hoi' hp2 (fun k hk => ?_) (Below.refl _ _) hΦ))
    ·refine Region.free_spec hoi (hpf p hp1).2 j oj hj hne ?_ hw
     have hjl2 : j < l.length := by
      have := (Array.getElem?_eq_some_iff.1 hj).1
      simpa using this
     refine lstF_at l p j hjl2 (fun hjd => ?_)
     obtain ⟨e, he, hbd, hon⟩ := deps_mem hoi' hjd
     have h9 := hia e he hbd
     rw [hon] at h9
     have h8 : j < listed.size := by omega
     simp [h8] at hjl h9
     rw [h9] at hjl; cases hjl
    ·obtain ⟨e, he, hbd, hon⟩ := deps_mem hoi' hk
     rw [← hon]; exact hia e he hbd
   by_cases hex : ∃ j, j < m ∧ listed.getD j false = false
   ·obtain ⟨j0, hj0, hf0, hlt0⟩ := least_false _ m hex
    obtain ⟨o0, ho0⟩ : ∃ o, l[j0]? = some o := ⟨l[j0]'(by omega), by simp⟩
    have hr0 : j0 ∈ Region.ready .any l.toArray listed := by
     refine mem_ready.2 ⟨hun j0 hj0 hf0, o0, by simpa using ho0, fun e he hbd => hlt0 e.on ?_⟩
     have h1 := hla j0 (by omega)
     rw [if_pos hj0, ho0] at h1
     simp only [Option.map_some, Option.getD_some, Array.all_eq_true_iff_forall_mem] at h1
     have h2 := h1 e he
     simp [hbd] at h2
     exact h2
    refine ⟨fun h => absurd hr0 (by rw [h]; exact List.not_mem_nil), fun i hi => ?_⟩
    obtain ⟨hiu, oi, hoi, hia⟩ := mem_ready.1 hi
    have hoi' : l[i]? = some oi := by simpa using hoi
    have hil : i < l.length := (List.getElem?_eq_some_iff.1 hoi').1
    have him : i < m := by
     rcases Nat.lt_or_ge i m with h | h
     ·exact h
     ·have h1 := hla i hil
      rw [if_neg (Nat.not_lt.2 h)] at h1
      simp only [List.all_eq_true, List.mem_range, Bool.or_eq_true, Bool.and_eq_true, List.contains_iff_mem] at h1
      have hdi : ∀ k, k ∈ depsOf l i → listed.getD k false = true := fun k hk => by
       obtain ⟨e, he, hbd, hon⟩ := deps_mem hoi' hk
       rw [← hon]; exact hia e he hbd
      have hlt : ∀ k, listed.getD k false = true → k < m := fun k hk => by
       rcases Nat.lt_or_ge k m with h2 | h2
       ·exact h2
       ·rcases Nat.lt_or_ge k l.length with h3 | h3
        ·have h4 := hlo k h2 h3
         have h5 : k < listed.size := by omega
         simp [h5] at hk h4
         rw [h4] at hk; cases hk
        ·have h5 : ¬ k < listed.size := by omega
         simp [h5] at hk
      have hcs := clos_listed l (fun k => listed.getD k false = true) (fun j hj k hk => hcl j (hlt j hj) hj k hk) l.length (depsOf l i) hdi
      rcases h1 j0 hj0 with h2 | ⟨h2, h3⟩
      ·have h4 := hcs j0 h2
       rw [hf0] at h4
       cases h4
      ·exact absurd ⟨j0, h2, hf0, hr0⟩ hpx
    have hsi := StepsAt.get m l 0 hs i oi him hoi'
    rw [Nat.zero_add] at hsi
    have hif : listed.getD i false = false := by
     have : i < listed.size := by omega
     simp [this] at hiu ⊢
     exact hiu
    refine wpOp_mono (fun a' w' hk => ?_) (hsi.step x w hb (hwb i oi him hoi' hia))
    obtain ⟨v, rfl, hb', hv⟩ := hk
    refine hnext i oi v w' him hoi' hif (fun k hk => ?_) hb' hv
    obtain ⟨e, he, hbd, hon⟩ := deps_mem hoi' hk
    rw [← hon]; exact hia e he hbd
   ·have hall : ∀ j, j < m → listed.getD j false = true := fun j hj => by
     cases hq : listed.getD j false
     ·exact absurd ⟨j, hj, hq⟩ hex
     ·rfl
    have hl : listed = listedAt l.length m := by
     refine Array.ext (by simp [listedAt, hsz]; omega) (fun i h1 h2 => ?_)
     rcases Nat.lt_or_ge i m with h | h
     ·have := hall i h
      simp [h1] at this
      simp [listedAt, h, this]
     ·have := hlo i h (by omega)
      simp [h1] at this
      simp [listedAt, List.getElem_append, Nat.not_lt.2 h, this]
    subst hl
    exact wpAny_le (by omega) (hend x w hb (fun j hj => hp j hj (hall j hj)))
theorem wp_region_relyF (pu : List Nat) (m d : Nat) (F : (Nat → Value) → Act) (Φ : Nat → Value → World → Prop) {id : Nat} {a : Act} (hN : l.length = m + d) (ha : ∃ x0, a = F x0) (hm : P.follows .mixedOrders = true) (hlate : lateF l m pu = true) (hsel : Region.noSelect l.toArray = true) (hpu : ∀ p ∈ pu, PureAt P l F Φ p) (hs : StepsAt P l Q F Φ w0 m l 0)
 (hend : ∀ x w, Below w0.heap.size w0 w → (∀ j, j < m → Φ j (x j) w) → wpAny P .any l.toArray (NoPanic Q) d (listedAt (m + d) m) (F x) w) : (Code.region id l.toArray true).wp P Q a w0 := by
 obtain ⟨x0, rfl⟩ := ha
 refine wp_region_noPanic (wp_region_any hm ?_)
 refine rely_anyF m pu hlate hsel hs hpu (fun x w h1 h2 => ?_) _ _ (List.range m) x0 _ (by simp) (fun k _ h => by simp [h]) (fun j hj _ => List.mem_range.2 hj) (by simp; omega) (Below.refl _ _).drew (fun j hj h => ?_) (fun j hj h => ?_)
 ·rw [hN, Nat.add_sub_cancel_left]
  exact hend x w h1 h2
 ·have : j < l.length := by omega
  simp [this] at h
 ·have : j < l.length := by omega
  simp [this] at h
end
section
variable {P : Program} {l : List Oper} {Q : Exit → Act → World → Prop} {F : (Nat → Value) → Act} {Φ : Nat → (Nat → Value) → World → Prop} {S : Nat → (Nat → Value) → World → World → Prop} {sp : List Nat} {x0 : Nat → Value} {w0 : World}
def effX (sp : List Nat) (S : Nat → (Nat → Value) → World → World → Prop) (i : Nat) (x : Nat → Value) (w w' : World) : Prop := if sp.contains i = true then S i x w w' else Below w.heap.size w w'
def PureX (P : Program) (l : List Oper) (F : (Nat → Value) → Act) (Φ : Nat → (Nat → Value) → World → Prop) (p : Nat) : Prop :=
 ∀ op, l[p]? = some op → ∀ x w, (∀ k, waitsB .any l.toArray p k = true → Φ k x w) → Region.wanted op (yielded l.toArray (F x).tmps) = true ∧ ∃ v, (∀ w', (execOp (F x).eval op).run P w' = .ok (.value v) w') ∧ Φ p (upd x p v) w
end
section
variable {P : Program} {l : List Oper} {Q : Exit → Act → World → Prop} {F : (Nat → Value) → Act} {Φ : Nat → (Nat → Value) → World → Prop} {S : Nat → (Nat → Value) → World → World → Prop} {sp : List Nat} {x0 : Nat → Value} {w0 : World}
end
def U8K : RowK UInt8 := { enc := fun b => [.int .u8 (b.toNat : Int)], k := 1, d := 0, len := fun _ => rfl, one := fun _ u hu => by simp only [List.mem_cons, List.not_mem_nil, or_false] at hu; subst hu; rfl, pos := by decide }
theorem rowsU8 (l : List UInt8) : rowsE U8K l = bys l := by
 unfold rowsE bys
 induction l with
 | nil => rfl
 | cons b r ih =>
   rw [List.flatMap_cons, ih]
   rfl
theorem OwnE.toB {e : TypeId} {w : World} {B : Nat} {v : Value} {l : List UInt8} (h : OwnE U8K e w B v l) : Own e w B v l := by
 unfold OwnE at h
 rw [rowsU8] at h
 exact h
theorem Own.isSlice {e : TypeId} {w : World} {B : Nat} {v : Value} {l : List UInt8} (h : Own e w B v l) : ∃ A n c, v = .slice A n c := by
 obtain ⟨A, c, hv, -, -⟩ := h.rd.shape
 exact ⟨A, _, c, hv⟩
theorem Own.belowB {e : TypeId} {w w' : World} {base B : Nat} {v : Value} {l : List UInt8} (h : Own e w base v l) (hb : Below B w w') (hB : w.heap.size ≤ B) : Own e w' base v l := by
 refine ⟨h.1, ?_⟩
 rcases h.2 with hn | ⟨g, cap, cur, rfl, hg0, hg, r⟩
 ·exact .inl hn
 ·have hlt : g < w.heap.size := (Array.getElem?_eq_some_iff.1 hg).1
  exact .inr ⟨g, cap, cur, rfl, hg0, by rw [hb.block g (by omega)]; exact hg, r⟩
theorem grow_nil (n : Nat) (w : World) (hn : n ≤ 10000000) : Calls Tryz.prog 109 #[.slice none 0 0, .int .i64 (n : Int)] w (Gives w.heap.size [] w) := by
 obtain ⟨i0, hi, hz0, hz1, hz2⟩ := info_parts info5
 go_enter Tryz.func109, Tryz.ntmps109
 by_cases h0 : n = 0
 ·subst h0
  go_wp2
  go_ret
  exact ⟨_, rfl, Own.nil _ _ _, Below.refl _ _⟩
 have hp : 0 < n := by omega
 have hp2 : (0 : Int) < (n : Int) := by omega
 have hrz := fun ty => Lib.run_append_nil_zeros (P := Tryz.prog) w 92 3 ty 5 i0 (.int .u8 0) .i64 .i64 Tryz.underlying92 Tryz.underlying3 hi hz0 n hp (by rw [hz1]; decide) (by omega) (by rw [hz2]; omega)
 obtain ⟨G, hG⟩ : ∃ G, grownCap w n 0 5 = G := ⟨_, rfl⟩
 have hG1 : n ≤ G := by rw [← hG]; exact grownCap_ge w _ _ _
 have hG2 : G ≤ maxLen := by rw [← hG]; exact grownCap_le_maxLen w _ _ _ (by unfold maxLen; omega)
 rw [hG] at hrz
 obtain ⟨ROW, hROW⟩ : ∃ R : Array Value, Builtin.zeroCells (Value.int .u8 0).cells n ++ Builtin.zeroCells (Value.int .u8 0).cells (G - n) = R := ⟨_, rfl⟩
 rw [hROW] at hrz
 have hRl : ROW.toList.length = G := by
  rw [← hROW]
  simp only [Array.toList_append, List.length_append, Array.length_toList, size_zeroCells]
  show n * 1 + (G - n) * 1 = G
  omega
 obtain ⟨N, hN⟩ : ∃ N, w.heap.size = N := ⟨_, rfl⟩
 obtain ⟨V, hV⟩ : ∃ V, w.drew.alloc (.cells ROW 5) = V := ⟨_, rfl⟩
 have hbN : Blk V N ROW.toList 5 := by
  rw [← hN, ← hV]
  exact heap_alloc_new w.drew (.cells ROW 5)
 have hWV : Below N w V := by
  rw [← hV]
  exact ((Below.refl N w).drew).alloc (by show N ≤ w.heap.size; omega) _
 rw [hN, hV] at hrz
 have HO : Hid (Own 5 V N (.slice (some ⟨N, 0, none⟩) 0 G) []) := by
  refine OwnE.toB (OwnE.of (E := U8K) (l := []) ROW.toList hbN (Nat.le_refl _) (Nat.zero_le _) hG2 ?_ ?_)
  ·rw [hRl]; exact (Nat.mul_one G).symm
  ·rfl
 have HWV := lhd hWV
 have HRZ := lhd hrz
 have HG2 := lhd hG2
 clear hRl hbN hWV hrz hROW hV hG hz0 hz1 hz2 hi hG2
 go_wp2_with (at_builtin; refine Lib.wpList_append_run _ rfl _ _ _ _ rfl _ _ rfl rfl _ _ (HRZ.out _) ?_)
 go_wp2
 go_ret
 refine ⟨_, rfl, ?_, ?_⟩
 ·rw [hN]; exact HO.out
 ·rw [hN]; exact HWV.out
abbrev SlT := Option Addr × Nat × Nat
def slv (s : SlT) : Value := .slice s.1 s.2.1 s.2.2
def sl0 : SlT := (none, 0, 0)
def SlK : RowK SlT := { enc := fun s => [slv s], k := 1, d := sl0, len := fun _ => rfl, one := fun _ u hu => by simp only [List.mem_cons, List.not_mem_nil, or_false] at hu; subst hu; rfl, pos := by decide }
theorem RdE.atSl {B : Nat} {w : World} {A : Option Addr} {n c : Nat} {l : List SlT} (h : RdE SlK B w (.slice A n c) l) (j : Nat) (hj : j < l.length) :
 ∃ a, A = some a ∧ w.cell? (a.add j) = some (slv (l.getD j sl0)) := by
 obtain ⟨a, ha, hc⟩ := h.cells j hj
 have h0 := hc 0 (by decide)
 rw [show j * SlK.k = j from Nat.mul_one j] at h0
 exact ⟨a, ha, h0⟩
theorem flat_take (ls : List (List UInt8)) (i : Nat) (hi : i < ls.length) : (ls.take (i + 1)).flatten = (ls.take i).flatten ++ ls.getD i [] := by
 rw [List.take_succ_eq_append_getElem hi, List.flatten_append, List.getD_eq_getElem?_getD, List.getElem?_eq_getElem hi]
 simp
theorem flat_le (ls : List (List UInt8)) (i : Nat) : (ls.take i).flatten.length ≤ ls.flatten.length := by
 have h : ls.flatten = (ls.take i).flatten ++ (ls.drop i).flatten := by rw [← List.flatten_append, List.take_append_drop]
 rw [h, List.length_append]
 omega
theorem concat_any (vs : List SlT) (ls : List (List UInt8)) (v : Value) (w : World) (hv : RdE SlK w.heap.size w v vs) (he : vs.length = ls.length)
 (hr : ∀ j, j < ls.length → Rd w.heap.size w (slv (vs.getD j sl0)) (ls.getD j [])) (hl : ls.flatten.length ≤ 10000000) (hn : ls.length ≤ 100) :
 Calls Tryz.prog 65 #[v] w (Gives w.heap.size ls.flatten w) := by
 obtain ⟨i0, hI, hz0, hz1, hz2⟩ := info_parts info5
 obtain ⟨A, c, rfl, hc, hm⟩ := hv.shape
 obtain ⟨n, hn2⟩ : ∃ n, ls.length = n := ⟨_, rfl⟩
 rw [he, hn2] at hv hc ⊢
 rw [hn2] at hr hn
 have HV := lhd hv
 have HR := lhd hr
 have HN := lhd hn2
 have HE : Hid (vs.length = n) := he.trans hn2
 obtain ⟨T, hT⟩ : ∃ T, ls.flatten.length = T := ⟨_, rfl⟩
 rw [hT] at hl
 have HT := lhd hT
 unfold maxLen at hm
 clear hv hr hn2 hT he
 go_enter Tryz.func65, Tryz.ntmps65
 go_wp2
 go_loopw [3, 11] (fun s x wr => ∃ (i m : Nat), i ≤ n ∧ x = .int .i64 (i : Int) ∧ s = .int .i64 (m : Int) ∧ Hid (m = (ls.take i).flatten.length) ∧ Hid (m ≤ T) ∧ Hid (Below w.heap.size w wr)) (fun _ x _ => n - (intOf x).toNat)
 case atStart => exact ⟨0, 0, by omega, rfl, rfl, rfl, Nat.zero_le _, Below.refl _ _⟩
 case round =>
  obtain ⟨i, m, hi, rfl, rfl, HM, HMT, HB⟩ := hrel
  have hsz := HB.out.size
  by_cases hi2 : i < n
  ·have zi : (i : Int) < (n : Int) := by omega
   obtain ⟨a, hA, c0⟩ := (HV.out.below HB.out).atSl i (by rw [HE.out]; exact hi2)
   subst hA
   obtain ⟨A9, c9, hs9, hc9, hm9⟩ := (HR.out i hi2).shape
   obtain ⟨k9, hk9⟩ : ∃ k, (ls.getD i []).length = k := ⟨_, rfl⟩
   rw [hs9, hk9] at c0
   have h1 : m + k9 = (ls.take (i + 1)).flatten.length := by
    rw [flat_take ls i (by rw [HN.out]; exact hi2), List.length_append, hk9, HM.out]
   have h2 : m + k9 ≤ T := by rw [h1, ← HT.out]; exact flat_le ls (i + 1)
   have H1 := lhd h1
   have hp : (0 : Int) ≤ (m : Int) + (k9 : Int) := by omega
   have hp2 : ¬ ((m : Int) + (k9 : Int) < 0) := by omega
   clear hs9 hc9 hm9 hk9 h1 HM
   go_wp2
   go_roundw
   case rel => exact ⟨i + 1, m + k9, by omega, by go_num, by go_num, H1, h2, HB⟩
   case measure => first | (simp [intOf]; done) | (simp [intOf]; omega)
  ·obtain rfl : i = n := by omega
   have hmT := HMT.out
   have hm0 : (0 : Int) ≤ (m : Int) := by omega
   go_wp2_with fail
   refine (grow_nil m wr (by omega)).mono ?_
   rintro e w3 ⟨v3, rfl, hown3, hb3⟩
   have HO3 : Hid (Own 5 w3 w.heap.size v3 []) := hown3.base hsz
   have HB3 : Hid (Below w.heap.size w w3) := HB.out.trans (hb3.mono hsz)
   clear hown3 hb3 HB HM
   go_wp2
   go_loopw [6, 27] (fun o x wq => ∃ (j : Nat), j ≤ i ∧ x = .int .i64 (j : Int) ∧ Hid (Own 5 wq w.heap.size o (ls.take j).flatten) ∧ Hid (Below w.heap.size w wq)) (fun _ x _ => i - (intOf x).toNat)
   case atStart => exact ⟨0, by omega, rfl, HO3, HB3⟩
   case round =>
    obtain ⟨j, hj, rfl, HO, HB⟩ := hrel
    have hsq := HB.out.size
    by_cases hj2 : j < i
    ·have zj : (j : Int) < (i : Int) := by omega
     obtain ⟨a, hA, c0⟩ := (HV.out.below HB.out).atSl j (by rw [HE.out]; exact hj2)
     subst hA
     have HR9 := lhd ((HR.out j hj2).below HB.out)
     have h2 : (ls.take j).flatten.length + (ls.getD j []).length ≤ T := by
      rw [← List.length_append, ← flat_take ls j (by rw [HN.out]; exact hj2), ← HT.out]
      exact flat_le ls (j + 1)
     have H2 := lhd h2
     have HF := lhd (flat_take ls j (by rw [HN.out]; exact hj2))
     obtain ⟨A9, c9, hs9, hc9, hm9⟩ := (HR.out j hj2).shape
     obtain ⟨l9, hl9⟩ : ∃ k, ls.getD j [] = k := ⟨_, rfl⟩
     rw [hs9] at c0 HR9
     rw [hl9] at HR9 H2 HF c0
     clear hs9 hc9 hm9 hl9 h2
     go_wp2_with (at_builtin; refine wpList_app rfl _ _ 92 rfl 5 i0 Tryz.underlying92 hI hz0 hz1 hz2 w.heap.size w.heap.size _ _ (ls.take j).flatten l9 rfl HO.out rfl HR9.out ?c1 hsq ?_)
     case c1 => have := H2.out; omega
     intro v' w5 h5 hb5
     have HO5 : Hid (Own 5 w5 w.heap.size v' (ls.take (j + 1)).flatten) := by
      show Own _ _ _ _ _
      rw [HF.out]
      exact h5
     have HB5 := lhd (HB.out.trans hb5)
     clear h5 hb5
     go_wp2
     go_roundw
     case rel => exact ⟨j + 1, by omega, by go_num, HO5, HB5⟩
     case measure => first | (simp [intOf]; done) | (simp [intOf]; omega)
    ·obtain rfl : j = i := by omega
     go_wp2
     go_ret
     refine ⟨_, rfl, ?_, HB.out⟩
     have h := HO.out
     rw [← HN.out, List.take_length] at h
     exact h
theorem numbers_any (v : Value) (ns : List Int) (w : World) (hv : RdE InK w.heap.size w v ns) (hf : ∀ n ∈ ns, fit64 n) (hn : ns.length ≤ 100) :
 Calls Tryz.prog 66 #[v] w (Gives w.heap.size (encIs ns) w) := by
 obtain ⟨A, c, rfl, hc, hm⟩ := hv.shape
 obtain ⟨n, hn2⟩ : ∃ n, ns.length = n := ⟨_, rfl⟩
 rw [hn2] at hv hc hn ⊢
 have HV := lhd hv
 have HF := lhd hf
 have HN := lhd hn2
 unfold maxLen at hm
 clear hv hf hn2
 go_enter Tryz.func66, Tryz.ntmps66
 go_wp2
 go_loopw [3, 8] (fun o x wr => ∃ (i : Nat), i ≤ n ∧ x = .int .i64 (i : Int) ∧ Hid (Own 5 wr w.heap.size o (encIs (ns.take i))) ∧ Hid (Below w.heap.size w wr)) (fun _ x _ => n - (intOf x).toNat)
 case atStart => exact ⟨0, by omega, rfl, Own.nil _ _ _, Below.refl _ _⟩
 case round =>
  obtain ⟨i, hi, rfl, HO, HB⟩ := hrel
  have hsz := HB.out.size
  by_cases hi2 : i < n
  ·have zi : (i : Int) < (n : Int) := by omega
   obtain ⟨a, hA, c0⟩ := (HV.out.below HB.out).at1 i (by rw [HN.out]; exact hi2)
   subst hA
   have hlt : i < ns.length := by rw [HN.out]; exact hi2
   obtain ⟨n9, hn9⟩ : ∃ x, ns.getD i 0 = x := ⟨_, rfl⟩
   have HT := lhd (encIs_take ns i hlt)
   have HF9 : Hid (fit64 n9) := by
    show fit64 _
    rw [← hn9, List.getD_eq_getElem?_getD, List.getElem?_eq_getElem hlt]
    exact HF.out _ (List.getElem_mem _)
   rw [hn9] at c0 HT
   have HLL : Hid ((encIs (ns.take i)).length ≤ 900) := by
    show _ ≤ _
    have h1 := encIs_len (ns.take i)
    have h2 := List.length_take_le i ns
    omega
   clear hn9
   go_wp2_with fail
   refine (int_any u3 (encIs (ns.take i)) n9 wr HO.out.rd HF9.out.1 HF9.out.2 (by have := HLL.out; omega)).mono ?_
   rintro e w3 ⟨v3, rfl, hown, hb⟩
   have HO3 : Hid (Own 5 w3 w.heap.size v3 (encIs (ns.take (i + 1)))) := by
    show Own _ _ _ _ _
    rw [HT.out]
    exact hown.base hsz
   have HB3 := lhd (HB.out.trans (hb.mono hsz))
   clear hown hb
   go_wp2
   go_roundw
   case rel => exact ⟨i + 1, by omega, by go_num, HO3, HB3⟩
   case measure => first | (simp [intOf]; done) | (simp [intOf]; omega)
  ·obtain rfl : i = n := by omega
   go_wp2
   go_ret
   refine ⟨_, rfl, ?_, HB.out⟩
   have h := HO.out
   rw [← HN.out, List.take_length] at h
   exact h
end Go.Proofs.YtgfobinklijkpaaGreatDoor
