/-
  Texts JL0 JL1 JL2 JL3 JM IB IN K4 H4 H5.
-/
import Derived.Test.YtgfobinklijkpaaGreatDoorX01
import Derived.Shelf.Abstract
import Derived.Test.YtgfobinklijkpaaGreatDoorX08
import Derived.Test.YtgfobinklijkpaaGreatDoorX12
import Derived.Test.YtgfobinklijkpaaGreatDoorX21
import Derived.Test.YtgfobinklijkpaaGreatDoorX22
import Derived.Test.YtgfobinklijkpaaGreatDoorX23
namespace Go.Proofs.YtgfobinklijkpaaGreatDoor
set_option maxRecDepth 100000
set_option maxHeartbeats 16000000
open Go.RowKit
abbrev zSe : Value := .agg (sec se0).toArray
theorem infoQSe : (Tryz.prog.info? 160).map (fun i => (i.zero, i.size, i.bytes)) = some (some zSe, 3, 24) := by kernel_rfl
theorem infoPSe : ∃ i, Tryz.prog.info? 160 = some i ∧ i.zero = some zSe ∧ i.size = 3 ∧ i.bytes = 24 := by
 have h := infoQSe
 cases hi : Tryz.prog.info? 160 with
 | none => rw [hi] at h; simp at h
 | some i =>
   rw [hi] at h
   simp at h
   exact ⟨i, rfl, h.1, h.2.1, h.2.2⟩
theorem kindPSe : KindOf Tryz.prog 160 SeK 24 := kind_of (z := zSe) (by kernel_rfl) rfl
theorem clone_anySe (l : List Se) (v : Value) (w : World) (hr : RdE SeK w.heap.size w v l) (hl : l.length ≤ 100000) : Calls Tryz.prog 87 #[v] w (OwnsE SeK 160 l w) := by
 obtain ⟨i1, hJ, hy0, hy1, hy2⟩ := infoPSe
 obtain ⟨A, cp, rfl, hc, hm⟩ := hr.shape
 unfold maxLen at hm
 cases A with
 | none =>
   obtain ⟨A', c', hv, _, _, hn, _⟩ := hr
   injection hv with q1 q2 q3
   subst q1 q3
   have h0 := hn rfl
   have h1 : l = [] := List.eq_nil_of_length_eq_zero (by omega)
   subst h1
   subst h0
   have he : ∀ w, (binOp .eql 42 (.slice none 0 0) (.slice none 0 0)).run Tryz.prog w = .ok (.bool true) w := fun _ => rfl
   go_enter Tryz.func87, Tryz.ntmps87
   go_wp2
   go_ret
   exact ⟨_, rfl, OwnE.nil _ _ _, Below.refl _ _⟩
 | some a =>
   have HR := lhd hr
   have HL := lhd hl
   obtain ⟨n, hn⟩ : ∃ n, l.length = n := ⟨_, rfl⟩
   rw [hn] at HR hc ⊢
   clear hr hl hn
   have he : ∀ w, (binOp .eql 42 (.slice (some a) n cp) (.slice none 0 0)).run Tryz.prog w = .ok (.bool false) w := fun _ => rfl
   have HO : Hid (OwnE SeK 160 (w.alloc (.cells #[] 160)) w.heap.size (.slice (some ⟨w.heap.size, 0, none⟩) 0 0) []) := OwnE.empty (E := SeK) 160 w w.heap.size (Nat.le_refl _)
   have HA : Hid (Below w.heap.size w (w.alloc (.cells #[] 160))) := (Below.refl _ _).alloc (Nat.le_refl _) _
   have HR2 := lhd (HR.out.below HA.out)
   go_enter Tryz.func87, Tryz.ntmps87
   go_wp2_with (at_builtin; refine wpList_appF (E := SeK) rfl _ _ 42 rfl 160 24 Tryz.underlying42 kindPSe w.heap.size _ _ _ [] l rfl HO.out rfl HR2.out ?d1 ?d2 ?d3 ?_)
   case d1 => have := HL.out; simp; omega
   case d2 => have := HL.out; simp; omega
   case d3 => simp
   intro v' w' h1 h2 h3
   have H1 := lhd h1
   have H2 := lhd (HA.out.trans h2)
   clear h1 h2 h3
   go_wp2
   go_ret
   exact ⟨_, rfl, H1.out, H2.out⟩
theorem bin_anySe (l : List Se) (tv : Value) (m f : Nat) (lb : Array Value) (q : Se → Int) (v : Value) (w : World) (hr : RdE SeK w.heap.size w v l) (hl : l.length ≤ 100000) (hm0 : m ≤ l.length) (ef : ∀ args w, (callFunc f args).run Tryz.prog w = .ok (.enter f args) w)
 (hq : ∀ i, i < l.length → (q (l.getD i se0) < 0 ↔ i < m)) (hp : ∀ i W, i < l.length → Below w.heap.size w W → Calls Tryz.prog f (#[.agg #[.int .i64 (sI (l.getD i se0)), .int .i64 (sP (l.getD i se0)), .int .i64 (sU (l.getD i se0))], tv] ++ lb) W (One (.int .i64 (q (l.getD i se0))) W)) :
 Calls Tryz.prog 231 #[v, tv, .func (.func f) #[] lb] w (One (.tuple #[.int .i64 (m : Int), .bool (decide (m < l.length) && decide (q (l.getD m se0) = 0))]) w) := by
 obtain ⟨A, cp, rfl, hc, hm⟩ := hr.shape
 unfold maxLen at hm
 obtain ⟨n, hn⟩ : ∃ n, l.length = n := ⟨_, rfl⟩
 have HN := lhd hn
 have HR := lhd hr
 have HL := lhd hl
 have HQ := lhd hq
 have HP := lhd hp
 obtain ⟨R, hR⟩ : ∃ R, (decide (m < l.length) && decide (q (l.getD m se0) = 0)) = R := ⟨_, rfl⟩
 have HRR := lhd hR
 rw [hR]
 rw [hn] at HR HL HQ HP HRR hc hm0 ⊢
 have hl' := HL.out
 clear hr hl hq hp hn hR
 go_enter Tryz.func231, Tryz.ntmps231
 go_wp2
 go_loopw [9, 10] (fun x y wr => ∃ lo hi : Nat, x = .int .i64 (lo : Int) ∧ y = .int .i64 (hi : Int) ∧ lo ≤ m ∧ m ≤ hi ∧ hi ≤ n ∧ Hid (Below w.heap.size w wr)) (fun x y _ => (intOf y).toNat - (intOf x).toNat)
 case atStart => exact ⟨0, n, rfl, rfl, by omega, hm0, Nat.le_refl _, Below.refl _ _⟩
 case round =>
  obtain ⟨lo, hi, rfl, rfl, h1, h2, h3, HW⟩ := hrel
  by_cases hlt : lo < hi
  ·have hltz : (lo : Int) < (hi : Int) := by omega
   obtain ⟨k, hk⟩ : ∃ k, (lo + hi) / 2 = k := ⟨_, rfl⟩
   have hkn : k < n := by omega
   have hkz : ((lo : Int) + (hi : Int)) / 2 = (k : Int) := by omega
   have hknz : (k : Int) < (n : Int) := by omega
   obtain ⟨a, hA, c0, c1, c2⟩ := (HR.out.below HW.out).at3 k (by rw [HN.out]; exact hkn)
   subst hA
   have hcq := HQ.out k hkn
   have hcc := HP.out k wr hkn HW.out
   obtain ⟨x, hx⟩ : ∃ x, l.getD k se0 = x := ⟨_, rfl⟩
   rw [hx] at c0 c1 c2 hcq hcc
   obtain ⟨z, hz⟩ : ∃ z, q x = z := ⟨_, rfl⟩
   rw [hz] at hcq hcc
   have HC := lhd hcc
   have HCQ := lhd hcq
   have HK := lhd hk
   clear hcc hx hz hcq hk
   by_cases hzn : z < 0
   ·have hkm : k < m := HCQ.out.1 hzn
    go_wp2_with (refine HC.out.mono ?_; rintro e w2 ⟨rfl, hb⟩)
    go_roundw
    case rel => exact ⟨k + 1, hi, by go_num, rfl, by omega, h2, h3, HW.out.trans (hb.mono HW.out.size)⟩
    case measure => have := HK.out; simp [intOf]; omega
   ·have hkm : ¬ k < m := fun h => hzn (HCQ.out.2 h)
    go_wp2_with (refine HC.out.mono ?_; rintro e w2 ⟨rfl, hb⟩)
    go_roundw
    case rel => exact ⟨lo, k, rfl, rfl, h1, by omega, by omega, HW.out.trans (hb.mono HW.out.size)⟩
    case measure => have := HK.out; simp [intOf]; omega
  ·have hE : lo = m := by omega
   have hE2 : m = hi := by omega
   subst hE
   subst hE2
   by_cases hmn : lo < n
   ·have hmz : (lo : Int) < (n : Int) := by omega
    obtain ⟨a, hA, c0, c1, c2⟩ := (HR.out.below HW.out).at3 lo (by rw [HN.out]; exact hmn)
    subst hA
    have hcc := HP.out lo wr hmn HW.out
    obtain ⟨x, hx⟩ : ∃ x, l.getD lo se0 = x := ⟨_, rfl⟩
    have hrr := HRR.out
    rw [hx] at c0 c1 c2 hcc hrr
    obtain ⟨z, hz⟩ : ∃ z, q x = z := ⟨_, rfl⟩
    rw [hz] at hcc hrr
    rw [decide_eq_true hmn, Bool.true_and] at hrr
    have HC := lhd hcc
    have HE := lhd hrr
    clear hcc hx hz hrr
    go_wp2_with (refine HC.out.mono ?_; rintro e w2 ⟨rfl, hb⟩)
    have HB2 := lhd (HW.out.trans (hb.mono HW.out.size))
    clear hb
    go_wp2
    go_ret2
    exact ⟨by rw [← HE.out]; rfl, HB2.out⟩
   ·have hrr := HRR.out
    rw [decide_eq_false hmn, Bool.false_and] at hrr
    have HE := lhd hrr
    clear hrr
    have hmz : ¬ (lo : Int) < (n : Int) := by omega
    go_wp2
    go_ret2
    exact ⟨by rw [← HE.out]; rfl, HW.out⟩
def posS (l : List Se) (id : Int) : Nat := l.findIdx fun x => decide (id ≤ sI x)
theorem posS_le (l : List Se) (id : Int) : posS l id ≤ l.length := List.findIdx_le_length
theorem posS_at (l : List Se) (id : Int) (h : ordS l) (i : Nat) (hi : i < l.length) : sI (l.getD i se0) < id ↔ i < posS l id := by
 have e : ∀ j (hj : j < l.length), l.getD j se0 = l[j] := fun j hj => by rw [List.getD_eq_getElem?_getD, List.getElem?_eq_getElem hj]; rfl
 by_cases hk : i < posS l id
 ·refine iff_of_true ?_ hk
  have := List.not_of_lt_findIdx (p := fun x : Se => decide (id ≤ sI x)) (xs := l) (i := i) (by unfold posS at hk; omega)
  rw [e i hi]
  simpa using this
 ·refine iff_of_false ?_ hk
  have hlt : posS l id < l.length := by omega
  have h0 : id ≤ sI (l.getD (posS l id) se0) := by
   rw [e _ hlt]
   have := List.findIdx_getElem (p := fun x : Se => decide (id ≤ sI x)) (xs := l) (w := hlt)
   unfold posS
   simpa using this
  by_cases heq : posS l id = i
  ·rw [← heq]; omega
  ·have := ordS_at l h (posS l id) i (by omega) hi
   omega
theorem pos_has (l : List Se) (id : Int) (h : ordS l) : (decide (posS l id < l.length) && decide (sI (l.getD (posS l id) se0) - id = 0)) = hasSe l id := by
 cases hH : hasSe l id
 ·rw [hasSe_not] at hH
  by_cases hlt : posS l id < l.length
  ·have := hH _ (getD_memS l _ hlt)
   rw [decide_eq_true hlt, decide_eq_false (by omega)]
   rfl
  ·rw [decide_eq_false hlt]; rfl
 ·obtain ⟨x, hx, rfl⟩ := (hasS_iff l id).1 hH
  obtain ⟨i, hi, rfl⟩ := mem_getDS l x hx
  have h1 : ¬ i < posS l (sI (l.getD i se0)) := fun h2 => by have := (posS_at l _ h i hi).2 h2; omega
  have h2 : posS l (sI (l.getD i se0)) = i := by
   by_cases h3 : posS l (sI (l.getD i se0)) = i
   ·exact h3
   ·have h4 := posS_at l (sI (l.getD i se0)) h (posS l (sI (l.getD i se0))) (by omega)
    have h5 := ordS_at l h (posS l (sI (l.getD i se0))) i (by omega) hi
    have h6 := h4.1 h5
    omega
  rw [h2, decide_eq_true hi, decide_eq_true (by omega)]
  rfl
def cmpI (x y : Int) : Int := if x < y then -1 else if y < x then 1 else 0
theorem nanI_any (x : Int) (w : World) : Calls Tryz.prog 138 #[.int .i64 x] w (One (.bool false) w) := by
 go_enter Tryz.func138, Tryz.ntmps138
 go_wp2
 go_ret
 exact ⟨by simp, Below.refl _ _⟩
theorem cmpI_any (x y : Int) (w : World) : Calls Tryz.prog 103 #[.int .i64 x, .int .i64 y] w (One (.int .i64 (cmpI x y)) w) := by
 go_enter Tryz.func103, Tryz.ntmps103
 go_wp2_with fail
 refine (nanI_any x w).mono ?_
 rintro e w1 ⟨rfl, hb1⟩
 go_wp2_with fail
 refine (nanI_any y w1).mono ?_
 rintro e w2 ⟨rfl, hb2⟩
 have HB := lhd (hb1.trans (hb2.mono hb1.size))
 clear hb1 hb2
 by_cases h1 : x < y
 ·have HE : Hid (cmpI x y = -1) := by show _ = _; unfold cmpI; rw [if_pos h1]
  go_wp2
  go_ret
  exact ⟨by rw [HE.out]; rfl, HB.out⟩
 ·by_cases h2 : y < x
  ·have HE : Hid (cmpI x y = 1) := by show _ = _; unfold cmpI; rw [if_neg h1, if_pos h2]
   go_wp2
   go_ret
   exact ⟨by rw [HE.out]; rfl, HB.out⟩
  ·have HE : Hid (cmpI x y = 0) := by show _ = _; unfold cmpI; rw [if_neg h1, if_neg h2]
   go_wp2
   go_ret
   exact ⟨by rw [HE.out]; rfl, HB.out⟩
theorem findFn_any (x : Se) (id : Int) (w : World) : Calls Tryz.prog 232 #[.agg #[.int .i64 (sI x), .int .i64 (sP x), .int .i64 (sU x)], .int .i64 id] w (One (.int .i64 (cmpI (sI x) id)) w) := by
 go_enter Tryz.func232, Tryz.ntmps232
 go_wp2_with (refine wpList_box_blk rfl 160 _ rfl (sec x) rfl ?_)
 intro w1 b1 b2 b3
 have c0 := b1.at_ 0 _ rfl
 have hs1 : w.heap.size ≤ w1.heap.size := by omega
 have HB := lhd b3
 obtain ⟨g, hg⟩ : ∃ g, w.heap.size = g := ⟨_, rfl⟩
 rw [hg] at c0 ⊢
 clear b1 b2 b3
 go_wp2_with fail
 refine (cmpI_any (sI x) id w1).mono ?_
 rintro e w2 ⟨rfl, hb⟩
 have HB2 := lhd (HB.out.trans (hb.mono hs1))
 clear hb c0
 go_wp2
 go_ret
 exact ⟨rfl, HB2.out⟩
theorem find_any (l : List Se) (id : Int) (v : Value) (w : World) (hr : RdE SeK w.heap.size w v l) (hl : l.length ≤ 100000) (ho : ordS l) : Calls Tryz.prog 203 #[v, .int .i64 id] w (One (.tuple #[.int .i64 ((posS l id : Nat) : Int), .bool (hasSe l id)]) w) := by
 have HR := lhd hr
 have HL := lhd hl
 have HO := lhd ho
 have HE : Hid ((decide (posS l id < l.length) && decide (cmpI (sI (l.getD (posS l id) se0)) id = 0)) = hasSe l id) := by
  show _ = _
  rw [← pos_has l id ho]
  congr 2
  unfold cmpI
  simp only [eq_iff_iff]
  constructor
  ·intro h
   split at h
   ·omega
   ·split at h
    ·omega
    ·omega
  ·intro h
   rw [if_neg (by omega), if_neg (by omega)]
 obtain ⟨H, hH⟩ : ∃ H, hasSe l id = H := ⟨_, rfl⟩
 rw [hH] at HE ⊢
 clear hr hl ho hH
 go_enter Tryz.func203, Tryz.ntmps203
 go_wp2_with fail
 refine (bin_anySe l (.int .i64 id) (posS l id) 232 #[] (fun x => cmpI (sI x) id) v w HR.out HL.out (posS_le l id) (fun args w => enters_of Tryz.func232 (by kernel_rfl) rfl args w) (fun i hi => ?_) (fun i W hi hW => findFn_any _ id W)).mono ?_
 ·rw [← posS_at l id HO.out i hi]
  show cmpI _ _ < 0 ↔ _
  unfold cmpI
  constructor
  ·intro h
   split at h
   ·assumption
   ·split at h <;> omega
  ·intro h
   rw [if_pos h]; decide
 rintro e w2 ⟨rfl, hb⟩
 rw [HE.out]
 have HB := lhd hb
 clear hb
 go_wp2
 go_ret2
 exact ⟨rfl, HB.out⟩
theorem bkHas_any (t : Int) (l : List Se) (id : Int) (v : Value) (w : World) (hr : RdE SeK w.heap.size w v l) (hR : RightB t l) : Calls Tryz.prog 175 #[.agg #[.int .i64 t, v], .int .i64 id] w (One (.bool (hasSe l id)) w) := by
 have HR := lhd hr
 have HO := lhd hR
 clear hr hR
 go_enter Tryz.func175, Tryz.ntmps175
 go_wp2_with (refine wpList_box_blk rfl 44 _ rfl [.int .i64 t, v] rfl ?_)
 intro w1 b1 b2 b3
 have hs1 : w.heap.size ≤ w1.heap.size := by omega
 have HR1 := lhd ((HR.out.below b3).more hs1)
 have HB := lhd b3
 have c1 := b1.at_ 1 _ rfl
 obtain ⟨g, hg⟩ : ∃ g, w.heap.size = g := ⟨_, rfl⟩
 rw [hg] at c1 ⊢
 clear b1 b2 b3 HR
 go_wp2_with fail
 refine (find_any l id v w1 HR1.out (by have := HO.out.few; omega) HO.out.order).mono ?_
 rintro e w2 ⟨rfl, hb⟩
 have HB2 := lhd (HB.out.trans (hb.mono hs1))
 clear hb c1
 go_wp2
 go_ret
 exact ⟨rfl, HB2.out⟩
theorem rpc_allM (x : Rp) (A : Option Addr) (n c : Nat) : (rpc x (.slice A n c)).toArray.all (·.oneCell') = true := by
 rw [Array.all_eq_true_iff_forall_mem]
 intro v hv
 simp only [rpc, List.mem_toArray, List.mem_cons, List.not_mem_nil, or_false] at hv
 rcases hv with rfl | rfl | rfl | rfl | rfl | rfl <;> rfl
theorem rpFn_any (x : RpV) (c : Int) (w : World) : Calls Tryz.prog 102 #[.agg #[.int .i64 x.1, .int .i64 x.2.1, .int .i64 x.2.2.1, txt x.2.2.2.1, .int .i64 x.2.2.2.2.1, slv x.2.2.2.2.2], .int .i64 c] w (One (.int .i64 (cmpI x.1 c)) w) := by
 go_enter Tryz.func102, Tryz.ntmps102
 go_wp2_with (refine wpList_box_blk rfl 79 _ rfl (rvc x) rfl ?_)
 intro w1 b1 b2 b3
 have c0 := b1.at_ 0 _ rfl
 have hs1 : w.heap.size ≤ w1.heap.size := by omega
 have HB := lhd b3
 obtain ⟨g, hg⟩ : ∃ g, w.heap.size = g := ⟨_, rfl⟩
 rw [hg] at c0 ⊢
 clear b1 b2 b3
 go_wp2_with fail
 refine (cmpI_any x.1 c w1).mono ?_
 rintro e w2 ⟨rfl, hb⟩
 have HB2 := lhd (HB.out.trans (hb.mono hs1))
 clear hb c0
 go_wp2
 go_ret
 exact ⟨rfl, HB2.out⟩
theorem cmpI_neg (x y : Int) : cmpI x y < 0 ↔ x < y := by
 unfold cmpI
 constructor
 ·intro h
  split at h
  ·assumption
  ·split at h <;> omega
 ·intro h
  rw [if_pos h]; decide
theorem cmpI_zero (x y : Int) : cmpI x y = 0 ↔ x = y := by
 unfold cmpI
 constructor
 ·intro h
  split at h
  ·omega
  ·split at h <;> omega
 ·intro h
  rw [if_neg (by omega), if_neg (by omega)]
theorem lastR_is (l : List Rp) (c : Int) (h : AscR l) : (lastR l c).2 = (decide (posR l c < l.length) && decide (pC (l.getD (posR l c) rp0) = c)) := by
 rw [lastR_pos l c h]
 by_cases h1 : posR l c < l.length ∧ pC (l.getD (posR l c) rp0) = c
 ·rw [if_pos h1, decide_eq_true h1.1, decide_eq_true h1.2]
  rfl
 ·rw [if_neg h1]
  by_cases h2 : posR l c < l.length
  ·rw [decide_eq_true h2, decide_eq_false (fun h3 => h1 ⟨h2, h3⟩)]
   rfl
  ·rw [decide_eq_false h2]
   rfl
theorem rpFind_any (l : List Rp) (ss : List SlT) (hs : ss.length = l.length) (c : Int) (v : Value) (w : World) (hr : RdE RvK w.heap.size w v (rvs l ss)) (hl : l.length ≤ 1000) (ho : AscR l) : Calls Tryz.prog 55 #[v, .int .i64 c] w (One (.tuple #[.int .i64 ((posR l c : Nat) : Int), .bool (lastR l c).2]) w) := by
 have hn := rvs_len hs
 have HR := lhd hr
 have HL : Hid ((rvs l ss).length ≤ 100000) := by
  show _ ≤ _
  omega
 have HO := lhd ho
 have hat : ∀ i, i < l.length → ((rvs l ss).getD i rv0).1 = pC (l.getD i rp0) := fun i hi => by rw [rvs_at hs i hi]; rfl
 have HAT := lhd hat
 have hpl : posR l c ≤ (rvs l ss).length := by rw [hn]; exact posR_le l c
 have HE : Hid ((decide (posR l c < (rvs l ss).length) && decide (cmpI ((rvs l ss).getD (posR l c) rv0).1 c = 0)) = (lastR l c).2) := by
  show _ = _
  rw [lastR_is l c ho, hn]
  by_cases h2 : posR l c < l.length
  ·rw [decide_eq_true h2, hat _ h2]
   simp only [Bool.true_and, decide_eq_decide]
   exact cmpI_zero _ _
  ·rw [decide_eq_false h2]
   rfl
 have HN := lhd hn
 have HP := lhd hpl
 obtain ⟨H, hH⟩ : ∃ H, (lastR l c).2 = H := ⟨_, rfl⟩
 rw [hH] at HE ⊢
 clear hr hl ho hH hn hat hpl
 go_enter Tryz.func55, Tryz.ntmps55
 go_wp2_with fail
 refine (bin_anyRv (rvs l ss) (.int .i64 c) (posR l c) 102 #[] (fun x => cmpI x.1 c) v w HR.out HL.out HP.out (fun args w => enters_of Tryz.func102 (by kernel_rfl) rfl args w) (fun i hi => ?_) (fun i W hi hW => rpFn_any _ c W)).mono ?_
 ·rw [HN.out] at hi
  rw [← posR_at l c HO.out i hi, ← HAT.out i hi]
  exact cmpI_neg _ _
 rintro e w2 ⟨rfl, hb⟩
 rw [HE.out]
 have HB := lhd hb
 clear hb
 go_wp2
 go_ret2
 exact ⟨rfl, HB.out⟩
def DetR (x : Rp) (w : World) (e : Ending) (w' : World) : Prop := ∃ nv, e = .returned (.agg (rpc x nv).toArray) ∧ OwnE StK 9 w' w.heap.size nv (pN x) ∧ Below w.heap.size w w'
theorem detRp_any (x : Rp) (nv : Value) (w : World) (hx : RdE StK w.heap.size w nv (pN x)) (hl : (pN x).length ≤ 100000) : Calls Tryz.prog 43 #[.agg (rpc x nv).toArray] w (DetR x w) := by
 obtain ⟨A, cp, rfl, hc, hm⟩ := hx.shape
 obtain ⟨n, hn⟩ : ∃ n, (pN x).length = n := ⟨_, rfl⟩
 rw [hn] at hx ⊢
 have HX := lhd hx
 have HL := lhd hl
 obtain ⟨d30, hu30, hd30⟩ := rowRpT
 clear hx hl hn hc hm
 go_enter Tryz.func43, Tryz.ntmps43
 go_wp2_with (refine wpList_box_blk rfl 79 _ rfl (rpc x (.slice A n cp)) rfl ?_)
 intro w1 b1 b2 b3
 go_wp2_with (refine wpList_alloc_blk rfl 79 rfl (rpc rp0 (.slice none 0 0)) (by kernel_rfl) ?_)
 intro w2 a1 a2 a3
 obtain ⟨g0, hg0⟩ : ∃ g, w.heap.size = g := ⟨_, rfl⟩
 obtain ⟨g1, hg1⟩ : ∃ g, w.heap.size + 1 = g := ⟨_, rfl⟩
 have X0 := lhd (b1.below a3 (by omega))
 have X1 := lhd a1
 have HB := lhd (b3.trans (a3.mono (by omega)))
 have HX2 := lhd ((HX.out.below HB.out).more HB.out.size)
 have hg01 : g0 < g1 := by omega
 have hg2 : g1 < w2.heap.size := by omega
 rw [hg1] at X1 ⊢
 rw [hg0] at X0 ⊢
 have HG0 := lhd hg0
 have c5 := X0.out.at_ 5 _ rfl
 clear b1 b2 b3 a1 a2 a3 HX hg0 hg1
 go_wp2_with fail
 refine (clone_anySt (pN x) (.slice A n cp) w2 HX2.out HL.out).mono ?_
 rintro e w3 ⟨u, rfl, ho, hb⟩
 obtain ⟨Au, cu, hu, -, -⟩ := ho.rd.shape
 obtain ⟨nu, hnu⟩ : ∃ q, (pN x).length = q := ⟨_, rfl⟩
 rw [hnu] at hu
 subst hu
 have X03 := lhd (X0.out.below hb (by omega))
 have X13 := lhd (X1.out.below hb (by omega))
 have HO := lhd ho
 have HB3 := lhd (HB.out.trans (hb.mono HB.out.size))
 have hs3 : w2.heap.size ≤ w3.heap.size := hb.size
 clear ho hb hnu X0 X1 HX2 c5
 go_wp2_with (refine wpList_store_fld rfl 77 _ _ rfl g0 5 (rpc x (.slice A n cp)) (.slice Au nu cu) 79 rfl rfl X03.out szNaT (by show 5 < 6; decide) rfl ?_)
 intro w4 e1 e2 e3 e4
 have X04 : Hid (Blk w4 g0 (rpc x (.slice Au nu cu)) 79) := e1
 have X14 := lhd (X13.out.same (e4 g1 (by omega)))
 have HO4 := lhd (HO.out.keep (T := fun t => t = 79) (.store (b := 0) X03.out rfl (Nat.zero_le _) e2 e4) (by decide))
 have HB4 : Hid (Below g0 w w4) := by
  have h := HB3.out
  rw [HG0.out] at h
  exact h.trans e3
 clear e1 e2 e3 e4 X03 X13 HO HB3
 go_wp2_with (first | refine wpList_load_part rfl 79 _ rfl g0 0 (rpc x (.slice Au nu cu)) (rpc x (.slice Au nu cu)) 79 rfl X04.out rfl hu30 hd30 szRpT ?_ | refine wpList_store_to rfl 79 _ _ rfl g1 (rpc x (.slice Au nu cu)) (rpc rp0 (.slice none 0 0)) 79 rfl rfl X14.out szRpT rfl (rpc_allM _ _ _ _) ?_)
 intro w5 e1 e2 e3 e4
 go_wp2
 refine bodyPost_ret (v := .agg (rpc x (.slice Au nu cu)).toArray) ?_ rfl ?_
 ·exact ret_blkUL rfl _ _ g1 79 (rpc x (.slice Au nu cu)) rfl e1 d30 hu30 hd30 szRpT
 ·refine ⟨_, rfl, ?_, ?_⟩
  ·have h := HO4.out.keep (T := fun t => t = 79) (.store (b := 0) X14.out rfl (Nat.zero_le _) e2 e4) (by decide)
   rw [HG0.out]
   exact h.base (by omega)
  ·rw [HG0.out]
   exact HB4.out.trans (e3.mono (by omega))
def SeenO (e es : TypeId) (b base : Nat) (w : World) (v : Value) (l : List Rp) : Prop :=
 ∃ ss : List SlT, ss.length = l.length ∧ OwnE RvK e w base v (rvs l ss) ∧ ∀ j, j < l.length → GoE StK es b w (slv (ss.getD j sl0)) (pN (l.getD j rp0))
theorem SeenO.go {e es : TypeId} {b base : Nat} {w : World} {v : Value} {l : List Rp} (h : SeenO e es b base w v l) (hb : b ≤ base) : GoRp e es b w v l := by
 obtain ⟨ss, h1, h2, h3⟩ := h
 exact ⟨ss, h1, .own h2 hb, h3⟩
theorem SeenO.below {e es : TypeId} {b base : Nat} {w w' : World} {v : Value} {l : List Rp} (h : SeenO e es b base w v l) (hb : Below w.heap.size w w') (hs : b ≤ w.heap.size) : SeenO e es b base w' v l := by
 obtain ⟨ss, h1, h2, h3⟩ := h
 exact ⟨ss, h1, h2.below hb (Nat.le_refl _), fun j hj => (h3 j hj).below hb hs⟩
theorem rvs_ins {l : List Rp} {ss : List SlT} (h : ss.length = l.length) (x : Rp) (s : SlT) (m : Nat) (hm : m ≤ l.length) : insE (rvs l ss) (rpv x s) m = rvs (insE l x m) (insE ss s m) := by
 have e1 : l = l.take m ++ l.drop m := (List.take_append_drop m l).symm
 have e2 : ss = ss.take m ++ ss.drop m := (List.take_append_drop m ss).symm
 have hl : (ss.take m).length = (l.take m).length := by simp [h]
 have e3 : rvs l ss = rvs (l.take m) (ss.take m) ++ rvs (l.drop m) (ss.drop m) := by rw [← rvs_append hl, ← e1, ← e2]
 have hk : (rvs (l.take m) (ss.take m)).length = m := by rw [rvs_len hl, List.length_take]; omega
 unfold insE
 rw [e3, List.take_left' hk, List.drop_left' hk, rvs_append hl]
 rfl
theorem rvs_set {l : List Rp} {ss : List SlT} (x : Rp) (s : SlT) (m : Nat) : (rvs l ss).set m (rpv x s) = rvs (l.set m x) (ss.set m s) := by
 unfold rvs
 induction l generalizing ss m with
 | nil => simp
 | cons y r ih =>
   cases ss with
   | nil => simp
   | cons t u =>
     cases m with
     | zero => rfl
     | succ m => simp only [List.zipWith_cons_cons, List.set_cons_succ, ih]
theorem names_ins {P : SlT → List ByteArray → Prop} {l : List Rp} {ss : List SlT} (h : ss.length = l.length) (x : Rp) (s : SlT) (m : Nat) (hm : m ≤ l.length) (hP : ∀ j, j < l.length → P (ss.getD j sl0) (pN (l.getD j rp0))) (hx : P s (pN x)) :
 ∀ j, j < (insE l x m).length → P ((insE ss s m).getD j sl0) (pN ((insE l x m).getD j rp0)) := by
 intro j hj
 rw [insE_len l x m hm] at hj
 have hts : (ss.take m).length = m := by rw [List.length_take]; omega
 have htl : (l.take m).length = m := by rw [List.length_take]; omega
 have key : ∀ {α : Type} (a : List α) (y d : α), m ≤ a.length → (insE a y m).getD j d = if j < m then a.getD j d else if j = m then y else a.getD (j - 1) d := by
  intro α a y d hma
  have hta : (a.take m).length = m := by rw [List.length_take]; omega
  unfold insE
  simp only [List.getD_eq_getElem?_getD]
  by_cases h1 : j < m
  ·rw [if_pos h1, List.getElem?_append_left (by omega), List.getElem?_take, if_pos h1]
  ·rw [if_neg h1, List.getElem?_append_right (by omega), hta]
   by_cases h2 : j = m
   ·rw [if_pos h2, h2, Nat.sub_self]
    rfl
   ·rw [if_neg h2, show j - m = (j - 1 - m) + 1 by omega, List.getElem?_cons_succ, List.getElem?_drop, show m + (j - 1 - m) = j - 1 by omega]
 rw [key ss s sl0 (by omega), key l x rp0 hm]
 by_cases h1 : j < m
 ·rw [if_pos h1, if_pos h1]
  exact hP j (by omega)
 ·rw [if_neg h1, if_neg h1]
  by_cases h2 : j = m
  ·rw [if_pos h2, if_pos h2]
   exact hx
  ·rw [if_neg h2, if_neg h2]
   exact hP (j - 1) (by omega)
theorem names_set {P : SlT → List ByteArray → Prop} {l : List Rp} {ss : List SlT} (h : ss.length = l.length) (x : Rp) (s : SlT) (m : Nat) (hP : ∀ j, j < l.length → P (ss.getD j sl0) (pN (l.getD j rp0))) (hx : P s (pN x)) :
 ∀ j, j < (l.set m x).length → P ((ss.set m s).getD j sl0) (pN ((l.set m x).getD j rp0)) := by
 intro j hj
 rw [List.length_set] at hj
 by_cases h1 : m = j
 ·subst h1
  rw [List.getD_eq_getElem?_getD, List.getD_eq_getElem?_getD, List.getElem?_set_self (by omega), List.getElem?_set_self hj]
  exact hx
 ·rw [List.getD_eq_getElem?_getD, List.getD_eq_getElem?_getD, List.getElem?_set_ne h1, List.getElem?_set_ne h1, ← List.getD_eq_getElem?_getD, ← List.getD_eq_getElem?_getD]
  exact hP j hj
def WithR (b : Nat) (l : List Rp) (w : World) (e : Ending) (w' : World) : Prop := ∃ u, e = .returned u ∧ SeenO 79 9 b w.heap.size w' u l ∧ Below w.heap.size w w'
theorem withRp_any (b : Nat) (l : List Rp) (x : Rp) (v nv : Value) (w : World) (hg : GoRp 79 9 b w v l) (hx : GoE StK 9 b w nv (pN x)) (hl : l.length ≤ 1000) (ho : AscR l) (hb : b ≤ w.heap.size) :
 Calls Tryz.prog 126 #[v, .agg (rpc x nv).toArray] w (WithR b (seenR x false l) w) := by
 obtain ⟨ss, hs, hv, hn⟩ := hg
 obtain ⟨Ax, cx, hvx, -, -⟩ := hx.1.shape
 obtain ⟨nx, hnx⟩ : ∃ n, (pN x).length = n := ⟨_, rfl⟩
 rw [hnx] at hvx
 subst hvx
 have HS := lhd hs
 have HV := lhd hv
 have HNS := lhd hn
 have HX := lhd hx
 have HL := lhd hl
 have HA := lhd ho
 have HBW := lhd hb
 obtain ⟨d30, hu30, hd30⟩ := rowRpT
 clear hs hv hn hx hl ho hb hnx
 go_enter Tryz.func126, Tryz.ntmps126
 go_wp2_with (refine wpList_box_blk rfl 79 _ rfl (rpc x (.slice Ax nx cx)) rfl ?_)
 intro w1 b1 b2 b3
 obtain ⟨g0, hg0⟩ : ∃ g, w.heap.size = g := ⟨_, rfl⟩
 have X1 := lhd b1
 have E1 := lhd b3
 have HV1 := lhd ((HV.out.1.below b3).more b3.size)
 have hlt1 := b1.lt
 have hs1 := lhd b3.size
 rw [hg0] at X1 hlt1 ⊢
 have HG0 := lhd hg0
 clear b1 b2 b3 hg0
 go_wp2_with fail
 refine (clone_anyRv (rvs l ss) v w1 HV1.out (by rw [rvs_len HS.out]; have := HL.out; omega)).mono ?_
 rintro e w2 ⟨u, rfl, hou, hb2⟩
 have hshape := hou.shape
 obtain ⟨Au, cu, hu⟩ := hshape
 obtain ⟨nu, hnu⟩ : ∃ n, (rvs l ss).length = n := ⟨_, rfl⟩
 rw [hnu] at hu
 subst hu
 have HNU : Hid (nu = l.length) := by
  show _ = _
  rw [← hnu, rvs_len HS.out]
 have HO := lhd (hou.base hs1.out)
 have X2 := lhd (X1.out.below hb2 hlt1)
 have E2 := lhd (E1.out.trans (hb2.mono hs1.out))
 have hs2 := lhd (Nat.le_trans hs1.out hb2.size)
 have hne : Hid ((Value.slice Au nu cu).ownBlock ≠ some g0) := by
  show _ ≠ _
  intro he
  rcases hou.2 with ⟨hz, _⟩ | ⟨g', cap, cur, hz, hz2, _⟩
  ·rw [hz] at he
   cases he
  ·rw [hz] at he
   injection he with he
   have he2 : g' = g0 := he
   omega
 have hlt2 := X2.out.lt
 have c0 := X2.out.at_ 0 _ rfl
 clear hou hb2 hnu X1 E1 HV1 hlt1 hs1
 go_wp2_with fail
 refine (rpFind_any l ss HS.out (pC x) (.slice Au nu cu) w2 HO.out.rd HL.out HA.out).mono ?_
 rintro e w3 ⟨rfl, hb3⟩
 obtain ⟨p, hp⟩ : ∃ p, posR l (pC x) = p := ⟨_, rfl⟩
 have HPL : Hid (p ≤ l.length) := by rw [← hp]; exact posR_le _ _
 have HSE : Hid (seenR x false l = if (lastR l (pC x)).2 = true then l.set p x else insE l x p) := by
  show _ = _
  have hq := lastR_is l (pC x) HA.out
  rw [hp] at hq
  rw [seenR_pos x l HA.out, hp]
  by_cases hc : p < l.length ∧ pC (l.getD p rp0) = pC x
  ·rw [if_pos hc, if_pos (by rw [hq, decide_eq_true hc.1, decide_eq_true hc.2]; rfl)]
  ·rw [if_neg hc, if_neg]
   intro h9
   rw [hq, Bool.and_eq_true, decide_eq_true_eq, decide_eq_true_eq] at h9
   exact hc h9
 have HLP : Hid ((lastR l (pC x)).2 = true → p < l.length) := by
  intro h
  rw [lastR_is l _ HA.out, hp, Bool.and_eq_true, decide_eq_true_eq] at h
  exact h.1
 rw [hp]
 have HO3 := lhd (HO.out.below hb3 (Nat.le_refl _))
 have X3 := lhd (X2.out.below hb3 hlt2)
 have E3 := lhd (E2.out.trans (hb3.mono hs2.out))
 have hs3 := lhd (Nat.le_trans hs2.out hb3.size)
 have hlt3 := X3.out.lt
 clear hp hb3 c0 HO X2 E2 hs2 hlt2
 cases hF : (lastR l (pC x)).2 with
 | false =>
   rw [hF] at HSE HLP
   have HW0 : Hid (w3.alloc (.cells (rpc x (.slice Ax nx cx)).toArray 79) = w3.alloc (.cells (rpc x (.slice Ax nx cx)).toArray 79)) := lhd rfl
   have HB0 := lhd ((Below.refl w3.heap.size w3).alloc (Nat.le_refl _) (.cells (rpc x (.slice Ax nx cx)).toArray 79))
   have HVB := lhd (heap_alloc_new w3 (.cells (rpc x (.slice Ax nx cx)).toArray 79))
   have HO4 := lhd (HO3.out.below HB0.out (Nat.le_refl _))
   have hne3 : Hid ((Value.slice Au nu cu).ownBlock ≠ some w3.heap.size) := by
    show _ ≠ _
    intro he
    rcases HO3.out.2 with ⟨hz, _⟩ | ⟨g', cap, cur, hz, _, hz3, _⟩
    ·rw [hz] at he
     cases he
    ·rw [hz] at he
     injection he with he
     have he2 : g' = w3.heap.size := he
     have := (Array.getElem?_eq_some_iff.1 hz3).1
     omega
   clear HW0 hF
   go_wp2_with (first | refine wpList_load_part rfl 79 _ rfl g0 0 (rpc x (.slice Ax nx cx)) [.int .i64 (pC x), .int .i64 (pQ x), .int .i64 (pE x), txt (pV x), .int .i64 (pR x), .slice Ax nx cx] 79 rfl X3.out rfl hu30 hd30 szRpT ?_ | fail)
   change Calls Tryz.prog _ _ (w3.alloc (.cells (rpc x (.slice Ax nx cx)).toArray 79)) _
   obtain ⟨gv, hgv⟩ : ∃ q, w3.heap.size = q := ⟨_, rfl⟩
   obtain ⟨w4, hw4⟩ : ∃ q, w3.alloc (.cells (rpc x (.slice Ax nx cx)).toArray 79) = q := ⟨_, rfl⟩
   have HB4 := lhd HB0.out
   rw [hw4] at HB4 HVB HO4 ⊢
   have hgv3 := lhd hgv
   rw [hgv] at HVB hne3 ⊢
   clear hw4 hgv HB0
   have hs4 := lhd (Nat.le_trans hs3.out HB4.out.size)
   refine (insE_anyRv (rvs l ss) (rpv x (Ax, nx, cx)) p w.heap.size gv (.slice Au nu cu) w4 hs4.out HO4.out (by rw [rvs_len HS.out]; have := HL.out; omega) HVB.out hne3.out (by rw [rvs_len HS.out]; exact HPL.out)).mono ?_
   rintro e w5 ⟨u, rfl, hou, hb5, _⟩
   have E5 := lhd ((E3.out.trans (HB4.out.mono hs3.out)).trans hb5)
   have HO5 := lhd hou
   clear hou hb5 HB4 HVB HO4 hne3 HO3 hne E3 X3
   go_wp2
   go_ret
   refine ⟨_, rfl, ?_, E5.out⟩
   rw [HSE.out, if_neg (by decide)]
   refine ⟨insE ss (Ax, nx, cx) p, ?_, ?_, ?_⟩
   ·rw [insE_len ss _ p (by rw [HS.out]; exact HPL.out), insE_len l _ p HPL.out, HS.out]
   ·rw [← rvs_ins HS.out x (Ax, nx, cx) p HPL.out]
    exact HO5.out
   ·exact names_ins (P := fun s ns => GoE StK 9 b w5 (slv s) ns) HS.out x (Ax, nx, cx) p HPL.out (fun j hj => (HNS.out j hj).below E5.out HBW.out) (HX.out.below E5.out HBW.out)
 | true =>
   rw [hF] at HSE HLP
   have hpl : p < l.length := HLP.out rfl
   have hpn : p < nu := by rw [HNU.out]; exact hpl
   have hpz : (p : Int) < (nu : Int) := by omega
   obtain ⟨ga, ca, hga, -, hgb, hgl⟩ := HO3.out.inBlock (by rw [rvs_len HS.out]; omega)
   injection hga with h1 h2 h3
   subst h1
   clear h2 h3 hF
   have HST := lhd (HO3.out.stored p (by rw [rvs_len HS.out]; exact hpl) (rpv x (Ax, nx, cx)))
   have hgg : ga ≠ g0 := by
    intro he
    subst he
    exact hne.out rfl
   have HPL2 := lhd hpl
   clear hpl
   go_wp2_with (first | refine wpList_load_part rfl 79 _ rfl g0 0 (rpc x (.slice Ax nx cx)) (rpc x (.slice Ax nx cx)) 79 rfl X3.out rfl hu30 hd30 szRpT ?_ | refine wpList_store_mid rfl 79 _ _ rfl ga (p * 6) (rpc x (.slice Ax nx cx)).toArray rfl rfl HST.out.2.1 szRpT (rpc_allM _ _ _ _) ?_)
   have HO9 : Hid (OwnE RvK 79 (w3.setCells ga (p * 6) (rpc x (.slice Ax nx cx))) w.heap.size (.slice (some ⟨ga, 0, none⟩) nu cu) ((rvs l ss).set p (rpv x (Ax, nx, cx)))) := HST.out.1
   have E9 : Hid (Below w.heap.size w (w3.setCells ga (p * 6) (rpc x (.slice Ax nx cx)))) := E3.out.trans HST.out.2.2
   go_ret
   refine ⟨_, rfl, ?_, E9.out⟩
   rw [HSE.out, if_pos trivial]
   refine ⟨ss.set p (Ax, nx, cx), ?_, ?_, ?_⟩
   ·rw [List.length_set, List.length_set, HS.out]
   ·rw [← rvs_set]
    exact HO9.out
   ·exact names_set (P := fun s ns => GoE StK 9 b (w3.setCells ga (p * 6) (rpc x (.slice Ax nx cx))) (slv s) ns) HS.out x (Ax, nx, cx) p (fun j hj => (HNS.out j hj).below E9.out HBW.out) (HX.out.below E9.out HBW.out)
def atI (l : List Nd) (p : List UInt8) : Int := if hasN l p = true then (placeN l p : Int) else -1
def ndv (x : Nd) : Value := .agg (ndc x).toArray
def Gets (x : Nd) (f : Nat) (w : World) (e : Ending) (w' : World) : Prop := e = .returned (.tuple #[ndv x, .int .i64 (f : Int)]) ∧ Below w.heap.size w w'
theorem atI_or (l : List Nd) (p : List UInt8) : (hasN l p = true ∧ atI l p = (placeN l p : Int) ∧ placeN l p < l.length) ∨ (hasN l p = false ∧ atI l p = -1) := by
 unfold atI
 cases h : hasN l p
 ·right; simp
 ·left
  unfold hasN at h
  simpa using h
theorem get_not (l : List Nd) (p : List UInt8) (h : rightB p = false) : getE l p = 13 ∧ getS l p = nd0 := by simp [getE, getS, h]
theorem get_none (l : List Nd) (p : List UInt8) (h : rightB p = true) (h2 : hasN l p = false) : getE l p = 6 ∧ getS l p = nd0 := by simp [getE, getS, h, h2]
theorem get_yes (l : List Nd) (p : List UInt8) (h : rightB p = true) (h2 : hasN l p = true) : getE l p = 0 ∧ getS l p = l.getD (placeN l p) nd0 := by simp [getE, getS, h, h2, nodeN]
theorem ndc_one (x : Nd) : (ndc x).toArray.all (·.oneCell') = true := by
 rw [Array.all_eq_true_iff_forall_mem]
 intro v hv
 exact nds_cell [x] v (by rw [nds_one]; simpa using hv)
end Go.Proofs.YtgfobinklijkpaaGreatDoor
