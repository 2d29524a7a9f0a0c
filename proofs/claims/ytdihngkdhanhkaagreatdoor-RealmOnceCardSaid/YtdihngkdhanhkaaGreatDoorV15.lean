/-
  Texts JM IB.
-/
import Derived.Test.YtdihngkdhanhkaaGreatDoorV01
import Derived.Shelf.Abstract
import Derived.Test.YtdihngkdhanhkaaGreatDoorV11
import Derived.Test.YtdihngkdhanhkaaGreatDoorV14
namespace Go.Proofs.YtdihngkdhanhkaaGreatDoor
set_option maxRecDepth 100000
set_option maxHeartbeats 16000000
open Go.RowKit
def posS (l : List Se) (id : Int) : Nat := l.findIdx fun x => decide (id ≤ sI x)
theorem posS_le (l : List Se) (id : Int) : posS l id ≤ l.length := List.findIdx_le_length
theorem posS_at (l : List Se) (id : Int) (h : ordS l) (i : Nat) (hi : i < l.length) : sI (l.getD i se0) < id ↔ i < posS l id := by
 have e : ∀ j (hj : j < l.length), l.getD j se0 = l[j] := fun j hj => by rw [List.getD_eq_getElem?_getD, List.getElem?_eq_getElem hj]; rfl
 by_cases hk : i < posS l id
 ·refine iff_of_true ?_ hk
  have := List.not_of_lt_findIdx (p := fun x : Se => decide (id ≤ sI x)) (xs := l) (i := i) (by unfold posS at hk; omega)
  rw [e i hi]
  simpa using this
 ·refine iff_of_false ?_ hk
  have hlt : posS l id < l.length := by omega
  have h0 : id ≤ sI (l.getD (posS l id) se0) := by
   rw [e _ hlt]
   have := List.findIdx_getElem (p := fun x : Se => decide (id ≤ sI x)) (xs := l) (w := hlt)
   unfold posS
   simpa using this
  by_cases heq : posS l id = i
  ·rw [← heq]; omega
  ·have := ordS_at l h (posS l id) i (by omega) hi
   omega
theorem pos_has (l : List Se) (id : Int) (h : ordS l) : (decide (posS l id < l.length) && decide (sI (l.getD (posS l id) se0) - id = 0)) = hasSe l id := by
 cases hH : hasSe l id
 ·rw [hasSe_not] at hH
  by_cases hlt : posS l id < l.length
  ·have := hH _ (getD_memS l _ hlt)
   rw [decide_eq_true hlt, decide_eq_false (by omega)]
   rfl
  ·rw [decide_eq_false hlt]; rfl
 ·obtain ⟨x, hx, rfl⟩ := (hasS_iff l id).1 hH
  obtain ⟨i, hi, rfl⟩ := mem_getDS l x hx
  have h1 : ¬ i < posS l (sI (l.getD i se0)) := fun h2 => by have := (posS_at l _ h i hi).2 h2; omega
  have h2 : posS l (sI (l.getD i se0)) = i := by
   by_cases h3 : posS l (sI (l.getD i se0)) = i
   ·exact h3
   ·have h4 := posS_at l (sI (l.getD i se0)) h (posS l (sI (l.getD i se0))) (by omega)
    have h5 := ordS_at l h (posS l (sI (l.getD i se0))) i (by omega) hi
    have h6 := h4.1 h5
    omega
  rw [h2, decide_eq_true hi, decide_eq_true (by omega)]
  rfl
theorem pos_is (l : List Se) (id : Int) (h : ordS l) (hH : hasSe l id = true) : posS l id < l.length ∧ sI (l.getD (posS l id) se0) = id := by
 have := pos_has l id h
 rw [hH, Bool.and_eq_true, decide_eq_true_eq, decide_eq_true_eq] at this
 exact ⟨this.1, by omega⟩
theorem ordS_tail (x : Se) (r : List Se) (h : ordS (x :: r)) : ordS r ∧ ∀ y ∈ r, sI x < sI y := ⟨(List.pairwise_cons.1 h).2, (List.pairwise_cons.1 h).1⟩
theorem insS_pos (n : Se) : ∀ l : List Se, hasSe l (sI n) = false → insS n l = insE l n (posS l (sI n))
 | [], _ => rfl
 | x :: r, h => by
   have hh := (hasSe_not _ _).1 h
   have hx : sI x ≠ sI n := hh x (List.mem_cons_self ..)
   have hr : hasSe r (sI n) = false := (hasSe_not _ _).2 fun y hy => hh y (List.mem_cons_of_mem _ hy)
   unfold insS posS insE
   rw [List.findIdx_cons]
   by_cases hlt : sI n < sI x
   ·rw [if_pos hlt, decide_eq_true (show sI n ≤ sI x by omega)]
    rfl
   ·rw [if_neg hlt, decide_eq_false (show ¬ sI n ≤ sI x by omega), insS_pos n r hr]
    rfl
theorem closeS_pos (l : List Se) (id : Int) (h : ordS l) (hH : hasSe l id = true) : closeS l id = l.eraseIdx (posS l id) := by
 induction l with
 | nil => simp [hasSe] at hH
 | cons x r ih =>
   obtain ⟨h1, h2⟩ := ordS_tail x r h
   unfold posS closeS at *
   rw [List.findIdx_cons]
   by_cases hx : sI x = id
   ·rw [decide_eq_true (show id ≤ sI x by omega), List.filter_cons_of_neg (by simp [hx])]
    simp only [cond_true, List.eraseIdx_cons_zero]
    rw [List.filter_eq_self]
    intro y hy
    have := h2 y hy
    simp; omega
   ·obtain ⟨y, hy, e⟩ := (hasS_iff _ _).1 hH
    have hyr : y ∈ r := by
     rcases List.mem_cons.1 hy with rfl | hy
     ·exact absurd e hx
     ·exact hy
    have := h2 y hyr
    rw [decide_eq_false (show ¬ id ≤ sI x by omega), List.filter_cons_of_pos (by simp [hx]), ih h1 ((hasS_iff _ _).2 ⟨y, hyr, e⟩)]
    simp
theorem touchS_pos (t : Int) (l : List Se) (id : Int) (h : ordS l) (hH : hasSe l id = true) : touchS t l id = l.set (posS l id) (sI (l.getD (posS l id) se0), sP (l.getD (posS l id) se0), t + sP (l.getD (posS l id) se0)) := by
 obtain ⟨h1, h2⟩ := pos_is l id h hH
 refine List.ext_getElem (by unfold touchS; simp) fun j ha hb => ?_
 unfold touchS at ha ⊢
 rw [List.length_map] at ha
 have e : ∀ j (hj : j < l.length), l.getD j se0 = l[j] := fun j hj => by rw [List.getD_eq_getElem?_getD, List.getElem?_eq_getElem hj]; rfl
 rw [List.getElem_map, List.getElem_set]
 unfold touch1
 by_cases hj : posS l id = j
 ·subst hj
  rw [if_pos rfl, ← e _ h1, if_pos h2]
 ·rw [if_neg hj, if_neg]
  rw [← e j ha]
  intro hc
  have hi := ordS_same l h (l.getD j se0) (l.getD (posS l id) se0) (getD_memS l j ha) (getD_memS l _ h1) (by rw [hc, h2])
  rcases Nat.lt_or_gt_of_ne hj with h3 | h3
  ·have := ordS_at l h _ _ h3 ha; rw [hi] at this; omega
  ·have := ordS_at l h _ _ h3 h1; rw [hi] at this; omega
def cmpI (x y : Int) : Int := if x < y then -1 else if y < x then 1 else 0
theorem nanI_any (x : Int) (w : World) : Calls Tryz.prog 121 #[.int .i64 x] w (One (.bool false) w) := by
 go_enter Tryz.func121, Tryz.ntmps121
 go_wp2
 go_ret
 exact ⟨by simp, Below.refl _ _⟩
theorem cmpI_any (x y : Int) (w : World) : Calls Tryz.prog 94 #[.int .i64 x, .int .i64 y] w (One (.int .i64 (cmpI x y)) w) := by
 go_enter Tryz.func94, Tryz.ntmps94
 go_wp2_with fail
 refine (nanI_any x w).mono ?_
 rintro e w1 ⟨rfl, hb1⟩
 go_wp2_with fail
 refine (nanI_any y w1).mono ?_
 rintro e w2 ⟨rfl, hb2⟩
 have HB := lhd (hb1.trans (hb2.mono hb1.size))
 clear hb1 hb2
 by_cases h1 : x < y
 ·have HE : Hid (cmpI x y = -1) := by show _ = _; unfold cmpI; rw [if_pos h1]
  go_wp2
  go_ret
  exact ⟨by rw [HE.out]; rfl, HB.out⟩
 ·by_cases h2 : y < x
  ·have HE : Hid (cmpI x y = 1) := by show _ = _; unfold cmpI; rw [if_neg h1, if_pos h2]
   go_wp2
   go_ret
   exact ⟨by rw [HE.out]; rfl, HB.out⟩
  ·have HE : Hid (cmpI x y = 0) := by show _ = _; unfold cmpI; rw [if_neg h1, if_neg h2]
   go_wp2
   go_ret
   exact ⟨by rw [HE.out]; rfl, HB.out⟩
theorem isSpan_any (z : Int) (w : World) : Calls Tryz.prog 99 #[.int .i64 z] w (One (.bool (decide (1 ≤ z) && decide (z ≤ 1000))) w) := by
 go_enter Tryz.func99, Tryz.ntmps99
 by_cases h1 : 1 ≤ z
 ·go_wp2
  go_ret
  exact ⟨by rw [decide_eq_true h1]; rfl, Below.refl _ _⟩
 ·go_wp2
  go_ret
  exact ⟨by rw [decide_eq_false (show ¬ 1 ≤ z by omega)]; rfl, Below.refl _ _⟩
theorem findFn_any (x : Se) (id : Int) (w : World) : Calls Tryz.prog 96 #[.agg #[.int .i64 (sI x), .int .i64 (sP x), .int .i64 (sU x)], .int .i64 id] w (One (.int .i64 (cmpI (sI x) id)) w) := by
 go_enter Tryz.func96, Tryz.ntmps96
 go_wp2_with (refine wpList_box_blk rfl 105 _ rfl (sec x) rfl ?_)
 intro w1 b1 b2 b3
 have c0 := b1.at_ 0 _ rfl
 have hs1 : w.heap.size ≤ w1.heap.size := by omega
 have HB := lhd b3
 obtain ⟨g, hg⟩ : ∃ g, w.heap.size = g := ⟨_, rfl⟩
 rw [hg] at c0 ⊢
 clear b1 b2 b3
 go_wp2_with fail
 refine (cmpI_any (sI x) id w1).mono ?_
 rintro e w2 ⟨rfl, hb⟩
 have HB2 := lhd (HB.out.trans (hb.mono hs1))
 clear hb c0
 go_wp2
 go_ret
 exact ⟨rfl, HB2.out⟩
theorem find_any (l : List Se) (id : Int) (v : Value) (w : World) (hr : RdE SeK w.heap.size w v l) (hl : l.length ≤ 100000) (ho : ordS l) : Calls Tryz.prog 58 #[v, .int .i64 id] w (One (.tuple #[.int .i64 ((posS l id : Nat) : Int), .bool (hasSe l id)]) w) := by
 have HR := lhd hr
 have HL := lhd hl
 have HO := lhd ho
 have HE : Hid ((decide (posS l id < l.length) && decide (cmpI (sI (l.getD (posS l id) se0)) id = 0)) = hasSe l id) := by
  show _ = _
  rw [← pos_has l id ho]
  congr 2
  unfold cmpI
  simp only [eq_iff_iff]
  constructor
  ·intro h
   split at h
   ·omega
   ·split at h
    ·omega
    ·omega
  ·intro h
   rw [if_neg (by omega), if_neg (by omega)]
 obtain ⟨H, hH⟩ : ∃ H, hasSe l id = H := ⟨_, rfl⟩
 rw [hH] at HE ⊢
 clear hr hl ho hH
 go_enter Tryz.func58, Tryz.ntmps58
 go_wp2_with fail
 refine (bin_anySe l (.int .i64 id) (posS l id) 96 #[] (fun x => cmpI (sI x) id) v w HR.out HL.out (posS_le l id) (fun args w => enters_of Tryz.func96 (by kernel_rfl) rfl args w) (fun i hi => ?_) (fun i W hi hW => findFn_any _ id W)).mono ?_
 ·rw [← posS_at l id HO.out i hi]
  show cmpI _ _ < 0 ↔ _
  unfold cmpI
  constructor
  ·intro h
   split at h
   ·assumption
   ·split at h <;> omega
  ·intro h
   rw [if_pos h]; decide
 rintro e w2 ⟨rfl, hb⟩
 rw [HE.out]
 have HB := lhd hb
 clear hb
 go_wp2
 go_ret2
 exact ⟨rfl, HB.out⟩
theorem bkHas_any (t : Int) (l : List Se) (id : Int) (v : Value) (w : World) (hr : RdE SeK w.heap.size w v l) (hR : RightB t l) : Calls Tryz.prog 32 #[.agg #[.int .i64 t, v], .int .i64 id] w (One (.bool (hasSe l id)) w) := by
 have HR := lhd hr
 have HO := lhd hR
 clear hr hR
 go_enter Tryz.func32, Tryz.ntmps32
 go_wp2_with (refine wpList_box_blk rfl 27 _ rfl [.int .i64 t, v] rfl ?_)
 intro w1 b1 b2 b3
 have hs1 : w.heap.size ≤ w1.heap.size := by omega
 have HR1 := lhd ((HR.out.below b3).more hs1)
 have HB := lhd b3
 have c1 := b1.at_ 1 _ rfl
 obtain ⟨g, hg⟩ : ∃ g, w.heap.size = g := ⟨_, rfl⟩
 rw [hg] at c1 ⊢
 clear b1 b2 b3 HR
 go_wp2_with fail
 refine (find_any l id v w1 HR1.out (by have := HO.out.few; omega) HO.out.order).mono ?_
 rintro e w2 ⟨rfl, hb⟩
 have HB2 := lhd (HB.out.trans (hb.mono hs1))
 clear hb c1
 go_wp2
 go_ret
 exact ⟨rfl, HB2.out⟩
theorem szRpRm : (Tryz.prog.info? 61).map (·.size) = some 6 := by kernel_rfl
theorem zeroRpRm : (Tryz.prog.info? 61).map (·.zero) = some (some (.agg (rpc rp0 (.slice none 0 0)).toArray)) := by kernel_rfl
theorem rpc_allM (x : Rp) (A : Option Addr) (n c : Nat) : (rpc x (.slice A n c)).toArray.all (·.oneCell') = true := by
 rw [Array.all_eq_true_iff_forall_mem]
 intro v hv
 simp only [rpc, List.mem_toArray, List.mem_cons, List.not_mem_nil, or_false] at hv
 rcases hv with rfl | rfl | rfl | rfl | rfl | rfl <;> rfl
end Go.Proofs.YtdihngkdhanhkaaGreatDoor
