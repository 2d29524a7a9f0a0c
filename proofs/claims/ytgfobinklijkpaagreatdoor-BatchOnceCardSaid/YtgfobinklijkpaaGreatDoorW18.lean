/-
  Texts JM IB NF NG NH R6 R7 R8 R9 RX NK.
-/
import Derived.Test.YtgfobinklijkpaaGreatDoorW01
import Derived.Shelf.Abstract
import Derived.BigFrame
import Derived.Lib.AppendZeros
import Derived.Test.YtgfobinklijkpaaGreatDoorW02
import Derived.Test.YtgfobinklijkpaaGreatDoorW06
import Derived.Test.YtgfobinklijkpaaGreatDoorW12
import Derived.Test.YtgfobinklijkpaaGreatDoorW13
import Derived.Test.YtgfobinklijkpaaGreatDoorW14
import Derived.Test.YtgfobinklijkpaaGreatDoorW17
namespace Go.Proofs.YtgfobinklijkpaaGreatDoor
set_option maxRecDepth 100000
set_option maxHeartbeats 16000000
open Go.RowKit
def posS (l : List Se) (id : Int) : Nat := l.findIdx fun x => decide (id ≤ sI x)
theorem posS_le (l : List Se) (id : Int) : posS l id ≤ l.length := List.findIdx_le_length
theorem posS_at (l : List Se) (id : Int) (h : ordS l) (i : Nat) (hi : i < l.length) : sI (l.getD i se0) < id ↔ i < posS l id := by
 have e : ∀ j (hj : j < l.length), l.getD j se0 = l[j] := fun j hj => by rw [List.getD_eq_getElem?_getD, List.getElem?_eq_getElem hj]; rfl
 by_cases hk : i < posS l id
 ·refine iff_of_true ?_ hk
  have := List.not_of_lt_findIdx (p := fun x : Se => decide (id ≤ sI x)) (xs := l) (i := i) (by unfold posS at hk; omega)
  rw [e i hi]
  simpa using this
 ·refine iff_of_false ?_ hk
  have hlt : posS l id < l.length := by omega
  have h0 : id ≤ sI (l.getD (posS l id) se0) := by
   rw [e _ hlt]
   have := List.findIdx_getElem (p := fun x : Se => decide (id ≤ sI x)) (xs := l) (w := hlt)
   unfold posS
   simpa using this
  by_cases heq : posS l id = i
  ·rw [← heq]; omega
  ·have := ordS_at l h (posS l id) i (by omega) hi
   omega
theorem pos_has (l : List Se) (id : Int) (h : ordS l) : (decide (posS l id < l.length) && decide (sI (l.getD (posS l id) se0) - id = 0)) = hasSe l id := by
 cases hH : hasSe l id
 ·rw [hasSe_not] at hH
  by_cases hlt : posS l id < l.length
  ·have := hH _ (getD_memS l _ hlt)
   rw [decide_eq_true hlt, decide_eq_false (by omega)]
   rfl
  ·rw [decide_eq_false hlt]; rfl
 ·obtain ⟨x, hx, rfl⟩ := (hasS_iff l id).1 hH
  obtain ⟨i, hi, rfl⟩ := mem_getDS l x hx
  have h1 : ¬ i < posS l (sI (l.getD i se0)) := fun h2 => by have := (posS_at l _ h i hi).2 h2; omega
  have h2 : posS l (sI (l.getD i se0)) = i := by
   by_cases h3 : posS l (sI (l.getD i se0)) = i
   ·exact h3
   ·have h4 := posS_at l (sI (l.getD i se0)) h (posS l (sI (l.getD i se0))) (by omega)
    have h5 := ordS_at l h (posS l (sI (l.getD i se0))) i (by omega) hi
    have h6 := h4.1 h5
    omega
  rw [h2, decide_eq_true hi, decide_eq_true (by omega)]
  rfl
theorem pos_is (l : List Se) (id : Int) (h : ordS l) (hH : hasSe l id = true) : posS l id < l.length ∧ sI (l.getD (posS l id) se0) = id := by
 have := pos_has l id h
 rw [hH, Bool.and_eq_true, decide_eq_true_eq, decide_eq_true_eq] at this
 exact ⟨this.1, by omega⟩
theorem ordS_tail (x : Se) (r : List Se) (h : ordS (x :: r)) : ordS r ∧ ∀ y ∈ r, sI x < sI y := ⟨(List.pairwise_cons.1 h).2, (List.pairwise_cons.1 h).1⟩
theorem insS_pos (n : Se) : ∀ l : List Se, hasSe l (sI n) = false → insS n l = insE l n (posS l (sI n))
 | [], _ => rfl
 | x :: r, h => by
   have hh := (hasSe_not _ _).1 h
   have hx : sI x ≠ sI n := hh x (List.mem_cons_self ..)
   have hr : hasSe r (sI n) = false := (hasSe_not _ _).2 fun y hy => hh y (List.mem_cons_of_mem _ hy)
   unfold insS posS insE
   rw [List.findIdx_cons]
   by_cases hlt : sI n < sI x
   ·rw [if_pos hlt, decide_eq_true (show sI n ≤ sI x by omega)]
    rfl
   ·rw [if_neg hlt, decide_eq_false (show ¬ sI n ≤ sI x by omega), insS_pos n r hr]
    rfl
theorem closeS_pos (l : List Se) (id : Int) (h : ordS l) (hH : hasSe l id = true) : closeS l id = l.eraseIdx (posS l id) := by
 induction l with
 | nil => simp [hasSe] at hH
 | cons x r ih =>
   obtain ⟨h1, h2⟩ := ordS_tail x r h
   unfold posS closeS at *
   rw [List.findIdx_cons]
   by_cases hx : sI x = id
   ·rw [decide_eq_true (show id ≤ sI x by omega), List.filter_cons_of_neg (by simp [hx])]
    simp only [cond_true, List.eraseIdx_cons_zero]
    rw [List.filter_eq_self]
    intro y hy
    have := h2 y hy
    simp; omega
   ·obtain ⟨y, hy, e⟩ := (hasS_iff _ _).1 hH
    have hyr : y ∈ r := by
     rcases List.mem_cons.1 hy with rfl | hy
     ·exact absurd e hx
     ·exact hy
    have := h2 y hyr
    rw [decide_eq_false (show ¬ id ≤ sI x by omega), List.filter_cons_of_pos (by simp [hx]), ih h1 ((hasS_iff _ _).2 ⟨y, hyr, e⟩)]
    simp
theorem touchS_pos (t : Int) (l : List Se) (id : Int) (h : ordS l) (hH : hasSe l id = true) : touchS t l id = l.set (posS l id) (sI (l.getD (posS l id) se0), sP (l.getD (posS l id) se0), t + sP (l.getD (posS l id) se0)) := by
 obtain ⟨h1, h2⟩ := pos_is l id h hH
 refine List.ext_getElem (by unfold touchS; simp) fun j ha hb => ?_
 unfold touchS at ha ⊢
 rw [List.length_map] at ha
 have e : ∀ j (hj : j < l.length), l.getD j se0 = l[j] := fun j hj => by rw [List.getD_eq_getElem?_getD, List.getElem?_eq_getElem hj]; rfl
 rw [List.getElem_map, List.getElem_set]
 unfold touch1
 by_cases hj : posS l id = j
 ·subst hj
  rw [if_pos rfl, ← e _ h1, if_pos h2]
 ·rw [if_neg hj, if_neg]
  rw [← e j ha]
  intro hc
  have hi := ordS_same l h (l.getD j se0) (l.getD (posS l id) se0) (getD_memS l j ha) (getD_memS l _ h1) (by rw [hc, h2])
  rcases Nat.lt_or_gt_of_ne hj with h3 | h3
  ·have := ordS_at l h _ _ h3 ha; rw [hi] at this; omega
  ·have := ordS_at l h _ _ h3 h1; rw [hi] at this; omega
def cmpI (x y : Int) : Int := if x < y then -1 else if y < x then 1 else 0
theorem nanI_any (x : Int) (w : World) : Calls Tryz.prog 138 #[.int .i64 x] w (One (.bool false) w) := by
 go_enter Tryz.func138, Tryz.ntmps138
 go_wp2
 go_ret
 exact ⟨by simp, Below.refl _ _⟩
theorem cmpI_any (x y : Int) (w : World) : Calls Tryz.prog 103 #[.int .i64 x, .int .i64 y] w (One (.int .i64 (cmpI x y)) w) := by
 go_enter Tryz.func103, Tryz.ntmps103
 go_wp2_with fail
 refine (nanI_any x w).mono ?_
 rintro e w1 ⟨rfl, hb1⟩
 go_wp2_with fail
 refine (nanI_any y w1).mono ?_
 rintro e w2 ⟨rfl, hb2⟩
 have HB := lhd (hb1.trans (hb2.mono hb1.size))
 clear hb1 hb2
 by_cases h1 : x < y
 ·have HE : Hid (cmpI x y = -1) := by show _ = _; unfold cmpI; rw [if_pos h1]
  go_wp2
  go_ret
  exact ⟨by rw [HE.out]; rfl, HB.out⟩
 ·by_cases h2 : y < x
  ·have HE : Hid (cmpI x y = 1) := by show _ = _; unfold cmpI; rw [if_neg h1, if_pos h2]
   go_wp2
   go_ret
   exact ⟨by rw [HE.out]; rfl, HB.out⟩
  ·have HE : Hid (cmpI x y = 0) := by show _ = _; unfold cmpI; rw [if_neg h1, if_neg h2]
   go_wp2
   go_ret
   exact ⟨by rw [HE.out]; rfl, HB.out⟩
theorem isSpan_any (z : Int) (w : World) : Calls Tryz.prog 221 #[.int .i64 z] w (One (.bool (decide (1 ≤ z) && decide (z ≤ 1000))) w) := by
 go_enter Tryz.func221, Tryz.ntmps221
 by_cases h1 : 1 ≤ z
 ·go_wp2
  go_ret
  exact ⟨by rw [decide_eq_true h1]; rfl, Below.refl _ _⟩
 ·go_wp2
  go_ret
  exact ⟨by rw [decide_eq_false (show ¬ 1 ≤ z by omega)]; rfl, Below.refl _ _⟩
theorem findFn_any (x : Se) (id : Int) (w : World) : Calls Tryz.prog 232 #[.agg #[.int .i64 (sI x), .int .i64 (sP x), .int .i64 (sU x)], .int .i64 id] w (One (.int .i64 (cmpI (sI x) id)) w) := by
 go_enter Tryz.func232, Tryz.ntmps232
 go_wp2_with (refine wpList_box_blk rfl 160 _ rfl (sec x) rfl ?_)
 intro w1 b1 b2 b3
 have c0 := b1.at_ 0 _ rfl
 have hs1 : w.heap.size ≤ w1.heap.size := by omega
 have HB := lhd b3
 obtain ⟨g, hg⟩ : ∃ g, w.heap.size = g := ⟨_, rfl⟩
 rw [hg] at c0 ⊢
 clear b1 b2 b3
 go_wp2_with fail
 refine (cmpI_any (sI x) id w1).mono ?_
 rintro e w2 ⟨rfl, hb⟩
 have HB2 := lhd (HB.out.trans (hb.mono hs1))
 clear hb c0
 go_wp2
 go_ret
 exact ⟨rfl, HB2.out⟩
theorem find_any (l : List Se) (id : Int) (v : Value) (w : World) (hr : RdE SeK w.heap.size w v l) (hl : l.length ≤ 100000) (ho : ordS l) : Calls Tryz.prog 203 #[v, .int .i64 id] w (One (.tuple #[.int .i64 ((posS l id : Nat) : Int), .bool (hasSe l id)]) w) := by
 have HR := lhd hr
 have HL := lhd hl
 have HO := lhd ho
 have HE : Hid ((decide (posS l id < l.length) && decide (cmpI (sI (l.getD (posS l id) se0)) id = 0)) = hasSe l id) := by
  show _ = _
  rw [← pos_has l id ho]
  congr 2
  unfold cmpI
  simp only [eq_iff_iff]
  constructor
  ·intro h
   split at h
   ·omega
   ·split at h
    ·omega
    ·omega
  ·intro h
   rw [if_neg (by omega), if_neg (by omega)]
 obtain ⟨H, hH⟩ : ∃ H, hasSe l id = H := ⟨_, rfl⟩
 rw [hH] at HE ⊢
 clear hr hl ho hH
 go_enter Tryz.func203, Tryz.ntmps203
 go_wp2_with fail
 refine (bin_anySe l (.int .i64 id) (posS l id) 232 #[] (fun x => cmpI (sI x) id) v w HR.out HL.out (posS_le l id) (fun args w => enters_of Tryz.func232 (by kernel_rfl) rfl args w) (fun i hi => ?_) (fun i W hi hW => findFn_any _ id W)).mono ?_
 ·rw [← posS_at l id HO.out i hi]
  show cmpI _ _ < 0 ↔ _
  unfold cmpI
  constructor
  ·intro h
   split at h
   ·assumption
   ·split at h <;> omega
  ·intro h
   rw [if_pos h]; decide
 rintro e w2 ⟨rfl, hb⟩
 rw [HE.out]
 have HB := lhd hb
 clear hb
 go_wp2
 go_ret2
 exact ⟨rfl, HB.out⟩
theorem bkHas_any (t : Int) (l : List Se) (id : Int) (v : Value) (w : World) (hr : RdE SeK w.heap.size w v l) (hR : RightB t l) : Calls Tryz.prog 175 #[.agg #[.int .i64 t, v], .int .i64 id] w (One (.bool (hasSe l id)) w) := by
 have HR := lhd hr
 have HO := lhd hR
 clear hr hR
 go_enter Tryz.func175, Tryz.ntmps175
 go_wp2_with (refine wpList_box_blk rfl 44 _ rfl [.int .i64 t, v] rfl ?_)
 intro w1 b1 b2 b3
 have hs1 : w.heap.size ≤ w1.heap.size := by omega
 have HR1 := lhd ((HR.out.below b3).more hs1)
 have HB := lhd b3
 have c1 := b1.at_ 1 _ rfl
 obtain ⟨g, hg⟩ : ∃ g, w.heap.size = g := ⟨_, rfl⟩
 rw [hg] at c1 ⊢
 clear b1 b2 b3 HR
 go_wp2_with fail
 refine (find_any l id v w1 HR1.out (by have := HO.out.few; omega) HO.out.order).mono ?_
 rintro e w2 ⟨rfl, hb⟩
 have HB2 := lhd (HB.out.trans (hb.mono hs1))
 clear hb c1
 go_wp2
 go_ret
 exact ⟨rfl, HB2.out⟩
theorem rpc_allM (x : Rp) (A : Option Addr) (n c : Nat) : (rpc x (.slice A n c)).toArray.all (·.oneCell') = true := by
 rw [Array.all_eq_true_iff_forall_mem]
 intro v hv
 simp only [rpc, List.mem_toArray, List.mem_cons, List.not_mem_nil, or_false] at hv
 rcases hv with rfl | rfl | rfl | rfl | rfl | rfl <;> rfl
theorem ret_blk3O {P : Program} {fn : Func} {p u v : Tmp} {ty : TypeId} (h : fn.results = #[.cell p ty, .tmp u, .tmp v]) (tmps : Array Value) (w : World) (g : Nat) (t : TypeId) (cs : List Value) (x y : Value)
 (hp : tmps.getD p undef = .pointer (some ⟨g, 0, none⟩)) (hx : tmps.getD u undef = x) (hy : tmps.getD v undef = y) (hb : Blk w g cs t) (d : TypeDesc) (hu : P.underlying ty = some d) (hd : d.isRow = true) (hi : (P.info? ty).map (·.size) = some cs.length) :
 (results fn tmps).run P w = .ok (.tuple #[.agg cs.toArray, x, y]) w := by
 have hl := run_loadVar_row w g t ty cs.toArray (0, 0) d hb hu (by cases d <;> first | rfl | cases hd) (by simpa using hi)
 have hp' : tmps[p]?.getD undef = .pointer (some ⟨g, 0, none⟩) := by simpa using hp
 have hx' : tmps[u]?.getD undef = x := by simpa using hx
 have hy' : tmps[v]?.getD undef = y := by simpa using hy
 simp [results, h, Result.andThen, hp', hx', hy', asAddr, hl]
theorem takeO_1 {l r1 : List UInt8} {ns : List Int} {e1 : Nat} (h : takeIs 6 l = (ns, r1, e1)) (he : e1 ≠ 0) : takeO l = (or0, [], e1) := by
 unfold takeO
 rw [h, if_pos he]
theorem takeO_2 {l r1 r2 p : List UInt8} {ns : List Int} {e2 : Nat} (h : takeIs 6 l = (ns, r1, 0)) (h2 : takeS r1 100 = (p, r2, e2)) (he : e2 ≠ 0) : takeO l = (or0, [], e2) := by
 unfold takeO
 rw [h]
 simp only [h2]
 rw [if_neg (by simp), if_pos he]
theorem takeO_3 {l r1 r2 r3 p q : List UInt8} {ns : List Int} {e3 : Nat} (h : takeIs 6 l = (ns, r1, 0)) (h2 : takeS r1 100 = (p, r2, 0)) (h3 : takeS r2 1000 = (q, r3, e3)) (he : e3 ≠ 0) : takeO l = (or0, [], e3) := by
 unfold takeO
 rw [h]
 simp only [h2, h3]
 rw [if_neg (by simp), if_neg (by simp), if_pos he]
theorem takeO_4 {l r1 r2 r3 p q : List UInt8} {ns : List Int} (h : takeIs 6 l = (ns, r1, 0)) (h2 : takeS r1 100 = (p, r2, 0)) (h3 : takeS r2 1000 = (q, r3, 0)) : takeO l = if mayO (ofTaken ns p q) = true then (ofTaken ns p q, r3, 0) else (or0, [], 3) := by
 unfold takeO
 rw [h]
 simp only [h2, h3]
 rw [if_neg (by simp), if_neg (by simp), if_neg (by simp)]
 cases mayO (ofTaken ns p q) <;> simp
theorem AnyTill.of_any {P : Program} {md : Region.Mode} {ops : Array Oper} {Q : Exit → Act → World → Prop} {m : Nat} : ∀ (n : Nat) (listed : Array Bool) (a : Act) (w : World), wpAny P md ops Q n listed a w → AnyTill P md ops Q (fun _ => True) m n listed a w
 | 0, _, _, _, h => h
 | n + 1, _, _, _, h => ⟨h.1, fun i hi => wpOp_mono (fun a' w' h' => ⟨.inr trivial, AnyTill.of_any n _ a' w' h'⟩) (h.2 i hi)⟩
section
variable {P : Program} {l : List Oper} {Q : Exit → Act → World → Prop} {F : (Nat → Value) → Act} {Φ : Nat → Value → World → Prop} {w0 : World}
end
def lstF (l : List Oper) (p : Nat) : Array Bool := ((List.range l.length).map fun j => (depsOf l p).contains j).toArray
theorem lstF_at (l : List Oper) (p j : Nat) (hj : j < l.length) (h : j ∉ depsOf l p) : (lstF l p).getD j true = false := by
 unfold lstF
 simp [hj, h]
def lateF (l : List Oper) (m : Nat) (pu : List Nat) : Bool :=
 decide (m ≤ l.length) && (pu.all fun p => decide (p < m) && Region.free .any l.toArray (lstF l p) p) && (List.range l.length).all fun j =>
  if j < m then ((l[j]?).map fun o => o.after.all fun e => !Region.binds .any e || decide (e.on < j)).getD false
  else (List.range m).all fun k => (clos l l.length (depsOf l j)).contains k || (pu.contains k && (depsOf l k).all fun q => (clos l l.length (depsOf l j)).contains q)
section
variable {P : Program} {l : List Oper} {Q : Exit → Act → World → Prop} {F : (Nat → Value) → Act} {Φ : Nat → Value → World → Prop} {w0 : World}
def PureAt (P : Program) (l : List Oper) (F : (Nat → Value) → Act) (Φ : Nat → Value → World → Prop) (p : Nat) : Prop :=
 ∀ op, l[p]? = some op → ∀ x w, (∀ k, waitsB .any l.toArray p k = true → Φ k (x k) w) → Region.wanted op (yielded l.toArray (F x).tmps) = true ∧ ∃ v, (∀ w', (execOp (F x).eval op).run P w' = .ok (.value v) w') ∧ Φ p v w
theorem rely_anyF (m : Nat) (pu : List Nat) (hlate : lateF l m pu = true) (hsel : Region.noSelect l.toArray = true) (hs : StepsAt P l Q F Φ w0 m l 0) (hpu : ∀ p ∈ pu, PureAt P l F Φ p)
 (hend : ∀ x w, Below w0.heap.size w0 w → (∀ j, j < m → Φ j (x j) w) → wpAny P .any l.toArray (NoPanic Q) (l.length - m) (listedAt l.length m) (F x) w) :
 ∀ (n : Nat) (listed : Array Bool) (u : List Nat) (x : Nat → Value) (w : World), listed.size = l.length → (∀ k, m ≤ k → k < l.length → listed.getD k true = false) → (∀ j, j < m → listed.getD j false = false → j ∈ u) →
   l.length - m + u.length ≤ n → Below w0.heap.size w0 w → (∀ j, j < m → listed.getD j false = true → Φ j (x j) w) → (∀ j, j < m → listed.getD j false = true → ∀ k, k ∈ depsOf l j → listed.getD k false = true) → wpAny P .any l.toArray (NoPanic Q) n listed (F x) w := by
 simp only [lateF, Bool.and_eq_true, decide_eq_true_eq, List.all_eq_true, List.mem_range] at hlate
 obtain ⟨⟨hml, hpf⟩, hla⟩ := hlate
 intro n
 induction n with
 | zero =>
   intro listed u x w hsz hlo hu hn hb hp hcl
   have hall : ∀ j, j < m → listed.getD j false = true := fun j hj => by
    cases hq : listed.getD j false
    ·have := List.length_pos_of_mem (hu j hj hq); omega
    ·rfl
   have hl : listed = listedAt l.length m := by
    refine Array.ext (by simp [listedAt, hsz]; omega) (fun i h1 h2 => ?_)
    rcases Nat.lt_or_ge i m with h | h
    ·have := hall i h
     simp [h1] at this
     simp [listedAt, h, this]
    ·have := hlo i h (by omega)
     simp [h1] at this
     simp [listedAt, List.getElem_append, Nat.not_lt.2 h, this]
   subst hl
   exact wpAny_le (by omega) (hend x w hb (fun j hj => hp j hj (hall j hj)))
 | succ n ih =>
   intro listed u x w hsz hlo hu hn hb hp hcl
   have hun : ∀ j, j < m → listed.getD j false = false → listed.getD j true = false := fun j hj h => by
    have : j < listed.size := by omega
    simp [this] at h ⊢
    exact h
   have hnext : ∀ i oi v w', i < m → l[i]? = some oi → listed.getD i false = false → (∀ k, k ∈ depsOf l i → listed.getD k false = true) → Below w.heap.size w w' → Φ i v w' → wpAny P .any l.toArray (NoPanic Q) n (listed.setIfInBounds i true) ((F x).put oi.dst v) w' := by
    intro i oi v w' him hoi' hif hia hb' hv
    have hsi := StepsAt.get m l 0 hs i oi him hoi'
    rw [Nat.zero_add] at hsi
    rw [hsi.put]
    refine ih (listed.setIfInBounds i true) (u.erase i) (upd x i v) w' (by simp [hsz]) (fun k h1 h2 => ?_) (fun j hj hjf => ?_) ?_ (hb.trans (hb'.mono hb.size)) (fun j hj hjl => ?_) (fun j hj hjl k hk => ?_)
    ·rw [getD_set_ne true (by omega)]; exact hlo k h1 h2
    ·have hne : i ≠ j := fun e => by
      subst e
      simp [show i < listed.size by omega] at hjf
     rw [getD_set_ne false hne] at hjf
     exact (List.mem_erase_of_ne (Ne.symm hne)).2 (hu j hj hjf)
    ·have := hu i him hif
     rw [List.length_erase_of_mem this]
     have := List.length_pos_of_mem this
     omega
    ·rcases Nat.decEq i j with hne | rfl
     ·rw [getD_set_ne false hne] at hjl
      rw [upd_ne _ _ _ _ (Ne.symm hne)]
      obtain ⟨oj, hoj⟩ : ∃ o, l[j]? = some o := ⟨l[j]'(by omega), by simp⟩
      have hsj := StepsAt.get m l 0 hs j oj hj hoj
      rw [Nat.zero_add] at hsj
      exact hsj.keep _ _ _ (hp j hj hjl) hb'
     ·rw [upd_same]; exact hv
    ·refine getD_set_true ?_
     rcases Nat.decEq i j with hne | rfl
     ·rw [getD_set_ne false hne] at hjl
      exact hcl j hj hjl k hk
     ·exact hia k hk
   have hwb : ∀ i oi, i < m → l[i]? = some oi → (∀ e ∈ oi.after, Region.binds .any e = true → listed.getD e.on false = true) → ∀ k, waitsB .any l.toArray i k = true → Φ k (x k) w := by
    intro i oi him hoi' hia k hk
    obtain ⟨e, he, hbd, hon⟩ := waits_of hoi' hk
    have h2 := hia e he hbd
    rw [hon] at h2
    have hki : k < i := by
     have h1 := hla i (by omega)
     rw [if_pos him, hoi'] at h1
     simp only [Option.map_some, Option.getD_some, Array.all_eq_true_iff_forall_mem] at h1
     have h3 := h1 e he
     simp [hbd] at h3
     omega
    exact hp k (by omega) h2
   by_cases hpx : ∃ p, p ∈ pu ∧ listed.getD p false = false ∧ p ∈ Region.ready .any l.toArray listed
   ·obtain ⟨p, hp1, hp2, hp3⟩ := hpx
    have hpm : p < m := (hpf p hp1).1
    obtain ⟨hiu, oi, hoi, hia⟩ := mem_ready.1 hp3
    have hoi' : l[p]? = some oi := by simpa using hoi
    obtain ⟨hwt, v, hv, hΦ⟩ := hpu p hp1 oi hoi' x w (hwb p oi hpm hoi' hia)
    refine AnyTill.any (m := l.length) (S := fun _ => True) _ _ _ _ ?_
    refine AnyTill.firstFree hoi hsel (by omega) (fun _ _ _ h => h) n listed (F x) w (fun j oj hj hne hjl hw => ?_) hp3 (.inl ⟨hwt, fun w' _ => hv w'⟩) (.inr trivial) (AnyTill.of_any _ _ _ _ (hnext p oi v w hpm hoi' hp2 (fun k hk => ?_) (Below.refl _ _) hΦ))
    ·refine Region.free_spec hoi (hpf p hp1).2 j oj hj hne ?_ hw
     have hjl2 : j < l.length := by
      have := (Array.getElem?_eq_some_iff.1 hj).1
      simpa using this
     refine lstF_at l p j hjl2 (fun hjd => ?_)
     obtain ⟨e, he, hbd, hon⟩ := deps_mem hoi' hjd
     have h9 := hia e he hbd
     rw [hon] at h9
     have h8 : j < listed.size := by omega
     simp [h8] at hjl h9
     rw [h9] at hjl; cases hjl
    ·obtain ⟨e, he, hbd, hon⟩ := deps_mem hoi' hk
     rw [← hon]; exact hia e he hbd
   by_cases hex : ∃ j, j < m ∧ listed.getD j false = false
   ·obtain ⟨j0, hj0, hf0, hlt0⟩ := least_false _ m hex
    obtain ⟨o0, ho0⟩ : ∃ o, l[j0]? = some o := ⟨l[j0]'(by omega), by simp⟩
    have hr0 : j0 ∈ Region.ready .any l.toArray listed := by
     refine mem_ready.2 ⟨hun j0 hj0 hf0, o0, by simpa using ho0, fun e he hbd => hlt0 e.on ?_⟩
     have h1 := hla j0 (by omega)
     rw [if_pos hj0, ho0] at h1
     simp only [Option.map_some, Option.getD_some, Array.all_eq_true_iff_forall_mem] at h1
     have h2 := h1 e he
     simp [hbd] at h2
     exact h2
    refine ⟨fun h => absurd hr0 (by rw [h]; exact List.not_mem_nil), fun i hi => ?_⟩
    obtain ⟨hiu, oi, hoi, hia⟩ := mem_ready.1 hi
    have hoi' : l[i]? = some oi := by simpa using hoi
    have hil : i < l.length := (List.getElem?_eq_some_iff.1 hoi').1
    have him : i < m := by
     rcases Nat.lt_or_ge i m with h | h
     ·exact h
     ·have h1 := hla i hil
      rw [if_neg (Nat.not_lt.2 h)] at h1
      simp only [List.all_eq_true, List.mem_range, Bool.or_eq_true, Bool.and_eq_true, List.contains_iff_mem] at h1
      have hdi : ∀ k, k ∈ depsOf l i → listed.getD k false = true := fun k hk => by
       obtain ⟨e, he, hbd, hon⟩ := deps_mem hoi' hk
       rw [← hon]; exact hia e he hbd
      have hlt : ∀ k, listed.getD k false = true → k < m := fun k hk => by
       rcases Nat.lt_or_ge k m with h2 | h2
       ·exact h2
       ·rcases Nat.lt_or_ge k l.length with h3 | h3
        ·have h4 := hlo k h2 h3
         have h5 : k < listed.size := by omega
         simp [h5] at hk h4
         rw [h4] at hk; cases hk
        ·have h5 : ¬ k < listed.size := by omega
         simp [h5] at hk
      have hcs := clos_listed l (fun k => listed.getD k false = true) (fun j hj k hk => hcl j (hlt j hj) hj k hk) l.length (depsOf l i) hdi
      rcases h1 j0 hj0 with h2 | ⟨h2, h3⟩
      ·have h4 := hcs j0 h2
       rw [hf0] at h4
       cases h4
      ·exact absurd ⟨j0, h2, hf0, hr0⟩ hpx
    have hsi := StepsAt.get m l 0 hs i oi him hoi'
    rw [Nat.zero_add] at hsi
    have hif : listed.getD i false = false := by
     have : i < listed.size := by omega
     simp [this] at hiu ⊢
     exact hiu
    refine wpOp_mono (fun a' w' hk => ?_) (hsi.step x w hb (hwb i oi him hoi' hia))
    obtain ⟨v, rfl, hb', hv⟩ := hk
    refine hnext i oi v w' him hoi' hif (fun k hk => ?_) hb' hv
    obtain ⟨e, he, hbd, hon⟩ := deps_mem hoi' hk
    rw [← hon]; exact hia e he hbd
   ·have hall : ∀ j, j < m → listed.getD j false = true := fun j hj => by
     cases hq : listed.getD j false
     ·exact absurd ⟨j, hj, hq⟩ hex
     ·rfl
    have hl : listed = listedAt l.length m := by
     refine Array.ext (by simp [listedAt, hsz]; omega) (fun i h1 h2 => ?_)
     rcases Nat.lt_or_ge i m with h | h
     ·have := hall i h
      simp [h1] at this
      simp [listedAt, h, this]
     ·have := hlo i h (by omega)
      simp [h1] at this
      simp [listedAt, List.getElem_append, Nat.not_lt.2 h, this]
    subst hl
    exact wpAny_le (by omega) (hend x w hb (fun j hj => hp j hj (hall j hj)))
theorem wp_region_relyF (pu : List Nat) (m d : Nat) (F : (Nat → Value) → Act) (Φ : Nat → Value → World → Prop) {id : Nat} {a : Act} (hN : l.length = m + d) (ha : ∃ x0, a = F x0) (hm : P.follows .mixedOrders = true) (hlate : lateF l m pu = true) (hsel : Region.noSelect l.toArray = true) (hpu : ∀ p ∈ pu, PureAt P l F Φ p) (hs : StepsAt P l Q F Φ w0 m l 0)
 (hend : ∀ x w, Below w0.heap.size w0 w → (∀ j, j < m → Φ j (x j) w) → wpAny P .any l.toArray (NoPanic Q) d (listedAt (m + d) m) (F x) w) : (Code.region id l.toArray true).wp P Q a w0 := by
 obtain ⟨x0, rfl⟩ := ha
 refine wp_region_noPanic (wp_region_any hm ?_)
 refine rely_anyF m pu hlate hsel hs hpu (fun x w h1 h2 => ?_) _ _ (List.range m) x0 _ (by simp) (fun k _ h => by simp [h]) (fun j hj _ => List.mem_range.2 hj) (by simp; omega) (Below.refl _ _).drew (fun j hj h => ?_) (fun j hj h => ?_)
 ·rw [hN, Nat.add_sub_cancel_left]
  exact hend x w h1 h2
 ·have : j < l.length := by omega
  simp [this] at h
 ·have : j < l.length := by omega
  simp [this] at h
end
section
variable {P : Program} {l : List Oper} {Q : Exit → Act → World → Prop} {F : (Nat → Value) → Act} {Φ : Nat → (Nat → Value) → World → Prop} {S : Nat → (Nat → Value) → World → World → Prop} {sp : List Nat} {x0 : Nat → Value} {w0 : World}
def effX (sp : List Nat) (S : Nat → (Nat → Value) → World → World → Prop) (i : Nat) (x : Nat → Value) (w w' : World) : Prop := if sp.contains i = true then S i x w w' else Below w.heap.size w w'
def PureX (P : Program) (l : List Oper) (F : (Nat → Value) → Act) (Φ : Nat → (Nat → Value) → World → Prop) (p : Nat) : Prop :=
 ∀ op, l[p]? = some op → ∀ x w, (∀ k, waitsB .any l.toArray p k = true → Φ k x w) → Region.wanted op (yielded l.toArray (F x).tmps) = true ∧ ∃ v, (∀ w', (execOp (F x).eval op).run P w' = .ok (.value v) w') ∧ Φ p (upd x p v) w
end
section
variable {P : Program} {l : List Oper} {Q : Exit → Act → World → Prop} {F : (Nat → Value) → Act} {Φ : Nat → (Nat → Value) → World → Prop} {S : Nat → (Nat → Value) → World → World → Prop} {sp : List Nat} {x0 : Nat → Value} {w0 : World}
end
def U8K : RowK UInt8 := { enc := fun b => [.int .u8 (b.toNat : Int)], k := 1, d := 0, len := fun _ => rfl, one := fun _ u hu => by simp only [List.mem_cons, List.not_mem_nil, or_false] at hu; subst hu; rfl, pos := by decide }
theorem rowsU8 (l : List UInt8) : rowsE U8K l = bys l := by
 unfold rowsE bys
 induction l with
 | nil => rfl
 | cons b r ih =>
   rw [List.flatMap_cons, ih]
   rfl
theorem OwnE.toB {e : TypeId} {w : World} {B : Nat} {v : Value} {l : List UInt8} (h : OwnE U8K e w B v l) : Own e w B v l := by
 unfold OwnE at h
 rw [rowsU8] at h
 exact h
theorem Own.isSlice {e : TypeId} {w : World} {B : Nat} {v : Value} {l : List UInt8} (h : Own e w B v l) : ∃ A n c, v = .slice A n c := by
 obtain ⟨A, c, hv, -, -⟩ := h.rd.shape
 exact ⟨A, _, c, hv⟩
theorem Own.belowB {e : TypeId} {w w' : World} {base B : Nat} {v : Value} {l : List UInt8} (h : Own e w base v l) (hb : Below B w w') (hB : w.heap.size ≤ B) : Own e w' base v l := by
 refine ⟨h.1, ?_⟩
 rcases h.2 with hn | ⟨g, cap, cur, rfl, hg0, hg, r⟩
 ·exact .inl hn
 ·have hlt : g < w.heap.size := (Array.getElem?_eq_some_iff.1 hg).1
  exact .inr ⟨g, cap, cur, rfl, hg0, by rw [hb.block g (by omega)]; exact hg, r⟩
theorem grow_nil (n : Nat) (w : World) (hn : n ≤ 10000000) : Calls Tryz.prog 109 #[.slice none 0 0, .int .i64 (n : Int)] w (Gives w.heap.size [] w) := by
 obtain ⟨i0, hi, hz0, hz1, hz2⟩ := info_parts info5
 go_enter Tryz.func109, Tryz.ntmps109
 by_cases h0 : n = 0
 ·subst h0
  go_wp2
  go_ret
  exact ⟨_, rfl, Own.nil _ _ _, Below.refl _ _⟩
 have hp : 0 < n := by omega
 have hp2 : (0 : Int) < (n : Int) := by omega
 have hrz := fun ty => Lib.run_append_nil_zeros (P := Tryz.prog) w 92 3 ty 5 i0 (.int .u8 0) .i64 .i64 Tryz.underlying92 Tryz.underlying3 hi hz0 n hp (by rw [hz1]; decide) (by omega) (by rw [hz2]; omega)
 obtain ⟨G, hG⟩ : ∃ G, grownCap w n 0 5 = G := ⟨_, rfl⟩
 have hG1 : n ≤ G := by rw [← hG]; exact grownCap_ge w _ _ _
 have hG2 : G ≤ maxLen := by rw [← hG]; exact grownCap_le_maxLen w _ _ _ (by unfold maxLen; omega)
 rw [hG] at hrz
 obtain ⟨ROW, hROW⟩ : ∃ R : Array Value, Builtin.zeroCells (Value.int .u8 0).cells n ++ Builtin.zeroCells (Value.int .u8 0).cells (G - n) = R := ⟨_, rfl⟩
 rw [hROW] at hrz
 have hRl : ROW.toList.length = G := by
  rw [← hROW]
  simp only [Array.toList_append, List.length_append, Array.length_toList, size_zeroCells]
  show n * 1 + (G - n) * 1 = G
  omega
 obtain ⟨N, hN⟩ : ∃ N, w.heap.size = N := ⟨_, rfl⟩
 obtain ⟨V, hV⟩ : ∃ V, w.drew.alloc (.cells ROW 5) = V := ⟨_, rfl⟩
 have hbN : Blk V N ROW.toList 5 := by
  rw [← hN, ← hV]
  exact heap_alloc_new w.drew (.cells ROW 5)
 have hWV : Below N w V := by
  rw [← hV]
  exact ((Below.refl N w).drew).alloc (by show N ≤ w.heap.size; omega) _
 rw [hN, hV] at hrz
 have HO : Hid (Own 5 V N (.slice (some ⟨N, 0, none⟩) 0 G) []) := by
  refine OwnE.toB (OwnE.of (E := U8K) (l := []) ROW.toList hbN (Nat.le_refl _) (Nat.zero_le _) hG2 ?_ ?_)
  ·rw [hRl]; exact (Nat.mul_one G).symm
  ·rfl
 have HWV := lhd hWV
 have HRZ := lhd hrz
 have HG2 := lhd hG2
 clear hRl hbN hWV hrz hROW hV hG hz0 hz1 hz2 hi hG2
 go_wp2_with (at_builtin; refine Lib.wpList_append_run _ rfl _ _ _ _ rfl _ _ rfl rfl _ _ (HRZ.out _) ?_)
 go_wp2
 go_ret
 refine ⟨_, rfl, ?_, ?_⟩
 ·rw [hN]; exact HO.out
 ·rw [hN]; exact HWV.out
end Go.Proofs.YtgfobinklijkpaaGreatDoor
