/-
  Texts IN K4 H4 H5 G1 G2.
-/
import Derived.Test.YtgfobinklijkpaaGreatDoorW01
import Derived.Shelf.Abstract
import Derived.Test.YtgfobinklijkpaaGreatDoorW11
import Derived.Test.YtgfobinklijkpaaGreatDoorW14
import Derived.Test.YtgfobinklijkpaaGreatDoorW15
import Derived.Test.YtgfobinklijkpaaGreatDoorW18
import Derived.Test.YtgfobinklijkpaaGreatDoorW21
namespace Go.Proofs.YtgfobinklijkpaaGreatDoor
set_option maxRecDepth 100000
set_option maxHeartbeats 16000000
open Go.RowKit
theorem rpFn_any (x : RpV) (c : Int) (w : World) : Calls Tryz.prog 102 #[.agg #[.int .i64 x.1, .int .i64 x.2.1, .int .i64 x.2.2.1, txt x.2.2.2.1, .int .i64 x.2.2.2.2.1, slv x.2.2.2.2.2], .int .i64 c] w (One (.int .i64 (cmpI x.1 c)) w) := by
 go_enter Tryz.func102, Tryz.ntmps102
 go_wp2_with (refine wpList_box_blk rfl 79 _ rfl (rvc x) rfl ?_)
 intro w1 b1 b2 b3
 have c0 := b1.at_ 0 _ rfl
 have hs1 : w.heap.size ≤ w1.heap.size := by omega
 have HB := lhd b3
 obtain ⟨g, hg⟩ : ∃ g, w.heap.size = g := ⟨_, rfl⟩
 rw [hg] at c0 ⊢
 clear b1 b2 b3
 go_wp2_with fail
 refine (cmpI_any x.1 c w1).mono ?_
 rintro e w2 ⟨rfl, hb⟩
 have HB2 := lhd (HB.out.trans (hb.mono hs1))
 clear hb c0
 go_wp2
 go_ret
 exact ⟨rfl, HB2.out⟩
theorem cmpI_neg (x y : Int) : cmpI x y < 0 ↔ x < y := by
 unfold cmpI
 constructor
 ·intro h
  split at h
  ·assumption
  ·split at h <;> omega
 ·intro h
  rw [if_pos h]; decide
theorem cmpI_zero (x y : Int) : cmpI x y = 0 ↔ x = y := by
 unfold cmpI
 constructor
 ·intro h
  split at h
  ·omega
  ·split at h <;> omega
 ·intro h
  rw [if_neg (by omega), if_neg (by omega)]
theorem lastR_is (l : List Rp) (c : Int) (h : AscR l) : (lastR l c).2 = (decide (posR l c < l.length) && decide (pC (l.getD (posR l c) rp0) = c)) := by
 rw [lastR_pos l c h]
 by_cases h1 : posR l c < l.length ∧ pC (l.getD (posR l c) rp0) = c
 ·rw [if_pos h1, decide_eq_true h1.1, decide_eq_true h1.2]
  rfl
 ·rw [if_neg h1]
  by_cases h2 : posR l c < l.length
  ·rw [decide_eq_true h2, decide_eq_false (fun h3 => h1 ⟨h2, h3⟩)]
   rfl
  ·rw [decide_eq_false h2]
   rfl
theorem rpFind_any (l : List Rp) (ss : List SlT) (hs : ss.length = l.length) (c : Int) (v : Value) (w : World) (hr : RdE RvK w.heap.size w v (rvs l ss)) (hl : l.length ≤ 1000) (ho : AscR l) : Calls Tryz.prog 55 #[v, .int .i64 c] w (One (.tuple #[.int .i64 ((posR l c : Nat) : Int), .bool (lastR l c).2]) w) := by
 have hn := rvs_len hs
 have HR := lhd hr
 have HL : Hid ((rvs l ss).length ≤ 100000) := by
  show _ ≤ _
  omega
 have HO := lhd ho
 have hat : ∀ i, i < l.length → ((rvs l ss).getD i rv0).1 = pC (l.getD i rp0) := fun i hi => by rw [rvs_at hs i hi]; rfl
 have HAT := lhd hat
 have hpl : posR l c ≤ (rvs l ss).length := by rw [hn]; exact posR_le l c
 have HE : Hid ((decide (posR l c < (rvs l ss).length) && decide (cmpI ((rvs l ss).getD (posR l c) rv0).1 c = 0)) = (lastR l c).2) := by
  show _ = _
  rw [lastR_is l c ho, hn]
  by_cases h2 : posR l c < l.length
  ·rw [decide_eq_true h2, hat _ h2]
   simp only [Bool.true_and, decide_eq_decide]
   exact cmpI_zero _ _
  ·rw [decide_eq_false h2]
   rfl
 have HN := lhd hn
 have HP := lhd hpl
 obtain ⟨H, hH⟩ : ∃ H, (lastR l c).2 = H := ⟨_, rfl⟩
 rw [hH] at HE ⊢
 clear hr hl ho hH hn hat hpl
 go_enter Tryz.func55, Tryz.ntmps55
 go_wp2_with fail
 refine (bin_anyRv (rvs l ss) (.int .i64 c) (posR l c) 102 #[] (fun x => cmpI x.1 c) v w HR.out HL.out HP.out (fun args w => enters_of Tryz.func102 (by kernel_rfl) rfl args w) (fun i hi => ?_) (fun i W hi hW => rpFn_any _ c W)).mono ?_
 ·rw [HN.out] at hi
  rw [← posR_at l c HO.out i hi, ← HAT.out i hi]
  exact cmpI_neg _ _
 rintro e w2 ⟨rfl, hb⟩
 rw [HE.out]
 have HB := lhd hb
 clear hb
 go_wp2
 go_ret2
 exact ⟨rfl, HB.out⟩
def DetR (x : Rp) (w : World) (e : Ending) (w' : World) : Prop := ∃ nv, e = .returned (.agg (rpc x nv).toArray) ∧ OwnE StK 9 w' w.heap.size nv (pN x) ∧ Below w.heap.size w w'
theorem detRp_any (x : Rp) (nv : Value) (w : World) (hx : RdE StK w.heap.size w nv (pN x)) (hl : (pN x).length ≤ 100000) : Calls Tryz.prog 43 #[.agg (rpc x nv).toArray] w (DetR x w) := by
 obtain ⟨A, cp, rfl, hc, hm⟩ := hx.shape
 obtain ⟨n, hn⟩ : ∃ n, (pN x).length = n := ⟨_, rfl⟩
 rw [hn] at hx ⊢
 have HX := lhd hx
 have HL := lhd hl
 obtain ⟨d30, hu30, hd30⟩ := rowRpT
 clear hx hl hn hc hm
 go_enter Tryz.func43, Tryz.ntmps43
 go_wp2_with (refine wpList_box_blk rfl 79 _ rfl (rpc x (.slice A n cp)) rfl ?_)
 intro w1 b1 b2 b3
 go_wp2_with (refine wpList_alloc_blk rfl 79 rfl (rpc rp0 (.slice none 0 0)) (by kernel_rfl) ?_)
 intro w2 a1 a2 a3
 obtain ⟨g0, hg0⟩ : ∃ g, w.heap.size = g := ⟨_, rfl⟩
 obtain ⟨g1, hg1⟩ : ∃ g, w.heap.size + 1 = g := ⟨_, rfl⟩
 have X0 := lhd (b1.below a3 (by omega))
 have X1 := lhd a1
 have HB := lhd (b3.trans (a3.mono (by omega)))
 have HX2 := lhd ((HX.out.below HB.out).more HB.out.size)
 have hg01 : g0 < g1 := by omega
 have hg2 : g1 < w2.heap.size := by omega
 rw [hg1] at X1 ⊢
 rw [hg0] at X0 ⊢
 have HG0 := lhd hg0
 have c5 := X0.out.at_ 5 _ rfl
 clear b1 b2 b3 a1 a2 a3 HX hg0 hg1
 go_wp2_with fail
 refine (clone_anySt (pN x) (.slice A n cp) w2 HX2.out HL.out).mono ?_
 rintro e w3 ⟨u, rfl, ho, hb⟩
 obtain ⟨Au, cu, hu, -, -⟩ := ho.rd.shape
 obtain ⟨nu, hnu⟩ : ∃ q, (pN x).length = q := ⟨_, rfl⟩
 rw [hnu] at hu
 subst hu
 have X03 := lhd (X0.out.below hb (by omega))
 have X13 := lhd (X1.out.below hb (by omega))
 have HO := lhd ho
 have HB3 := lhd (HB.out.trans (hb.mono HB.out.size))
 have hs3 : w2.heap.size ≤ w3.heap.size := hb.size
 clear ho hb hnu X0 X1 HX2 c5
 go_wp2_with (refine wpList_store_fld rfl 77 _ _ rfl g0 5 (rpc x (.slice A n cp)) (.slice Au nu cu) 79 rfl rfl X03.out szNaT (by show 5 < 6; decide) rfl ?_)
 intro w4 e1 e2 e3 e4
 have X04 : Hid (Blk w4 g0 (rpc x (.slice Au nu cu)) 79) := e1
 have X14 := lhd (X13.out.same (e4 g1 (by omega)))
 have HO4 := lhd (HO.out.keep (T := fun t => t = 79) (.store (b := 0) X03.out rfl (Nat.zero_le _) e2 e4) (by decide))
 have HB4 : Hid (Below g0 w w4) := by
  have h := HB3.out
  rw [HG0.out] at h
  exact h.trans e3
 clear e1 e2 e3 e4 X03 X13 HO HB3
 go_wp2_with (first | refine wpList_load_part rfl 79 _ rfl g0 0 (rpc x (.slice Au nu cu)) (rpc x (.slice Au nu cu)) 79 rfl X04.out rfl hu30 hd30 szRpT ?_ | refine wpList_store_to rfl 79 _ _ rfl g1 (rpc x (.slice Au nu cu)) (rpc rp0 (.slice none 0 0)) 79 rfl rfl X14.out szRpT rfl (rpc_allM _ _ _ _) ?_)
 intro w5 e1 e2 e3 e4
 go_wp2
 refine bodyPost_ret (v := .agg (rpc x (.slice Au nu cu)).toArray) ?_ rfl ?_
 ·exact ret_blkUL rfl _ _ g1 79 (rpc x (.slice Au nu cu)) rfl e1 d30 hu30 hd30 szRpT
 ·refine ⟨_, rfl, ?_, ?_⟩
  ·have h := HO4.out.keep (T := fun t => t = 79) (.store (b := 0) X14.out rfl (Nat.zero_le _) e2 e4) (by decide)
   rw [HG0.out]
   exact h.base (by omega)
  ·rw [HG0.out]
   exact HB4.out.trans (e3.mono (by omega))
def SeenO (e es : TypeId) (b base : Nat) (w : World) (v : Value) (l : List Rp) : Prop :=
 ∃ ss : List SlT, ss.length = l.length ∧ OwnE RvK e w base v (rvs l ss) ∧ ∀ j, j < l.length → GoE StK es b w (slv (ss.getD j sl0)) (pN (l.getD j rp0))
theorem SeenO.go {e es : TypeId} {b base : Nat} {w : World} {v : Value} {l : List Rp} (h : SeenO e es b base w v l) (hb : b ≤ base) : GoRp e es b w v l := by
 obtain ⟨ss, h1, h2, h3⟩ := h
 exact ⟨ss, h1, .own h2 hb, h3⟩
theorem SeenO.below {e es : TypeId} {b base : Nat} {w w' : World} {v : Value} {l : List Rp} (h : SeenO e es b base w v l) (hb : Below w.heap.size w w') (hs : b ≤ w.heap.size) : SeenO e es b base w' v l := by
 obtain ⟨ss, h1, h2, h3⟩ := h
 exact ⟨ss, h1, h2.below hb (Nat.le_refl _), fun j hj => (h3 j hj).below hb hs⟩
theorem rvs_ins {l : List Rp} {ss : List SlT} (h : ss.length = l.length) (x : Rp) (s : SlT) (m : Nat) (hm : m ≤ l.length) : insE (rvs l ss) (rpv x s) m = rvs (insE l x m) (insE ss s m) := by
 have e1 : l = l.take m ++ l.drop m := (List.take_append_drop m l).symm
 have e2 : ss = ss.take m ++ ss.drop m := (List.take_append_drop m ss).symm
 have hl : (ss.take m).length = (l.take m).length := by simp [h]
 have e3 : rvs l ss = rvs (l.take m) (ss.take m) ++ rvs (l.drop m) (ss.drop m) := by rw [← rvs_append hl, ← e1, ← e2]
 have hk : (rvs (l.take m) (ss.take m)).length = m := by rw [rvs_len hl, List.length_take]; omega
 unfold insE
 rw [e3, List.take_left' hk, List.drop_left' hk, rvs_append hl]
 rfl
theorem rvs_set {l : List Rp} {ss : List SlT} (x : Rp) (s : SlT) (m : Nat) : (rvs l ss).set m (rpv x s) = rvs (l.set m x) (ss.set m s) := by
 unfold rvs
 induction l generalizing ss m with
 | nil => simp
 | cons y r ih =>
   cases ss with
   | nil => simp
   | cons t u =>
     cases m with
     | zero => rfl
     | succ m => simp only [List.zipWith_cons_cons, List.set_cons_succ, ih]
theorem names_ins {P : SlT → List ByteArray → Prop} {l : List Rp} {ss : List SlT} (h : ss.length = l.length) (x : Rp) (s : SlT) (m : Nat) (hm : m ≤ l.length) (hP : ∀ j, j < l.length → P (ss.getD j sl0) (pN (l.getD j rp0))) (hx : P s (pN x)) :
 ∀ j, j < (insE l x m).length → P ((insE ss s m).getD j sl0) (pN ((insE l x m).getD j rp0)) := by
 intro j hj
 rw [insE_len l x m hm] at hj
 have hts : (ss.take m).length = m := by rw [List.length_take]; omega
 have htl : (l.take m).length = m := by rw [List.length_take]; omega
 have key : ∀ {α : Type} (a : List α) (y d : α), m ≤ a.length → (insE a y m).getD j d = if j < m then a.getD j d else if j = m then y else a.getD (j - 1) d := by
  intro α a y d hma
  have hta : (a.take m).length = m := by rw [List.length_take]; omega
  unfold insE
  simp only [List.getD_eq_getElem?_getD]
  by_cases h1 : j < m
  ·rw [if_pos h1, List.getElem?_append_left (by omega), List.getElem?_take, if_pos h1]
  ·rw [if_neg h1, List.getElem?_append_right (by omega), hta]
   by_cases h2 : j = m
   ·rw [if_pos h2, h2, Nat.sub_self]
    rfl
   ·rw [if_neg h2, show j - m = (j - 1 - m) + 1 by omega, List.getElem?_cons_succ, List.getElem?_drop, show m + (j - 1 - m) = j - 1 by omega]
 rw [key ss s sl0 (by omega), key l x rp0 hm]
 by_cases h1 : j < m
 ·rw [if_pos h1, if_pos h1]
  exact hP j (by omega)
 ·rw [if_neg h1, if_neg h1]
  by_cases h2 : j = m
  ·rw [if_pos h2, if_pos h2]
   exact hx
  ·rw [if_neg h2, if_neg h2]
   exact hP (j - 1) (by omega)
theorem names_set {P : SlT → List ByteArray → Prop} {l : List Rp} {ss : List SlT} (h : ss.length = l.length) (x : Rp) (s : SlT) (m : Nat) (hP : ∀ j, j < l.length → P (ss.getD j sl0) (pN (l.getD j rp0))) (hx : P s (pN x)) :
 ∀ j, j < (l.set m x).length → P ((ss.set m s).getD j sl0) (pN ((l.set m x).getD j rp0)) := by
 intro j hj
 rw [List.length_set] at hj
 by_cases h1 : m = j
 ·subst h1
  rw [List.getD_eq_getElem?_getD, List.getD_eq_getElem?_getD, List.getElem?_set_self (by omega), List.getElem?_set_self hj]
  exact hx
 ·rw [List.getD_eq_getElem?_getD, List.getD_eq_getElem?_getD, List.getElem?_set_ne h1, List.getElem?_set_ne h1, ← List.getD_eq_getElem?_getD, ← List.getD_eq_getElem?_getD]
  exact hP j hj
def WithR (b : Nat) (l : List Rp) (w : World) (e : Ending) (w' : World) : Prop := ∃ u, e = .returned u ∧ SeenO 79 9 b w.heap.size w' u l ∧ Below w.heap.size w w'
theorem withRp_any (b : Nat) (l : List Rp) (x : Rp) (v nv : Value) (w : World) (hg : GoRp 79 9 b w v l) (hx : GoE StK 9 b w nv (pN x)) (hl : l.length ≤ 1000) (ho : AscR l) (hb : b ≤ w.heap.size) :
 Calls Tryz.prog 126 #[v, .agg (rpc x nv).toArray] w (WithR b (seenR x false l) w) := by
 obtain ⟨ss, hs, hv, hn⟩ := hg
 obtain ⟨Ax, cx, hvx, -, -⟩ := hx.1.shape
 obtain ⟨nx, hnx⟩ : ∃ n, (pN x).length = n := ⟨_, rfl⟩
 rw [hnx] at hvx
 subst hvx
 have HS := lhd hs
 have HV := lhd hv
 have HNS := lhd hn
 have HX := lhd hx
 have HL := lhd hl
 have HA := lhd ho
 have HBW := lhd hb
 obtain ⟨d30, hu30, hd30⟩ := rowRpT
 clear hs hv hn hx hl ho hb hnx
 go_enter Tryz.func126, Tryz.ntmps126
 go_wp2_with (refine wpList_box_blk rfl 79 _ rfl (rpc x (.slice Ax nx cx)) rfl ?_)
 intro w1 b1 b2 b3
 obtain ⟨g0, hg0⟩ : ∃ g, w.heap.size = g := ⟨_, rfl⟩
 have X1 := lhd b1
 have E1 := lhd b3
 have HV1 := lhd ((HV.out.1.below b3).more b3.size)
 have hlt1 := b1.lt
 have hs1 := lhd b3.size
 rw [hg0] at X1 hlt1 ⊢
 have HG0 := lhd hg0
 clear b1 b2 b3 hg0
 go_wp2_with fail
 refine (clone_anyRv (rvs l ss) v w1 HV1.out (by rw [rvs_len HS.out]; have := HL.out; omega)).mono ?_
 rintro e w2 ⟨u, rfl, hou, hb2⟩
 have hshape := hou.shape
 obtain ⟨Au, cu, hu⟩ := hshape
 obtain ⟨nu, hnu⟩ : ∃ n, (rvs l ss).length = n := ⟨_, rfl⟩
 rw [hnu] at hu
 subst hu
 have HNU : Hid (nu = l.length) := by
  show _ = _
  rw [← hnu, rvs_len HS.out]
 have HO := lhd (hou.base hs1.out)
 have X2 := lhd (X1.out.below hb2 hlt1)
 have E2 := lhd (E1.out.trans (hb2.mono hs1.out))
 have hs2 := lhd (Nat.le_trans hs1.out hb2.size)
 have hne : Hid ((Value.slice Au nu cu).ownBlock ≠ some g0) := by
  show _ ≠ _
  intro he
  rcases hou.2 with ⟨hz, _⟩ | ⟨g', cap, cur, hz, hz2, _⟩
  ·rw [hz] at he
   cases he
  ·rw [hz] at he
   injection he with he
   have he2 : g' = g0 := he
   omega
 have hlt2 := X2.out.lt
 have c0 := X2.out.at_ 0 _ rfl
 clear hou hb2 hnu X1 E1 HV1 hlt1 hs1
 go_wp2_with fail
 refine (rpFind_any l ss HS.out (pC x) (.slice Au nu cu) w2 HO.out.rd HL.out HA.out).mono ?_
 rintro e w3 ⟨rfl, hb3⟩
 obtain ⟨p, hp⟩ : ∃ p, posR l (pC x) = p := ⟨_, rfl⟩
 have HPL : Hid (p ≤ l.length) := by rw [← hp]; exact posR_le _ _
 have HSE : Hid (seenR x false l = if (lastR l (pC x)).2 = true then l.set p x else insE l x p) := by
  show _ = _
  have hq := lastR_is l (pC x) HA.out
  rw [hp] at hq
  rw [seenR_pos x l HA.out, hp]
  by_cases hc : p < l.length ∧ pC (l.getD p rp0) = pC x
  ·rw [if_pos hc, if_pos (by rw [hq, decide_eq_true hc.1, decide_eq_true hc.2]; rfl)]
  ·rw [if_neg hc, if_neg]
   intro h9
   rw [hq, Bool.and_eq_true, decide_eq_true_eq, decide_eq_true_eq] at h9
   exact hc h9
 have HLP : Hid ((lastR l (pC x)).2 = true → p < l.length) := by
  intro h
  rw [lastR_is l _ HA.out, hp, Bool.and_eq_true, decide_eq_true_eq] at h
  exact h.1
 rw [hp]
 have HO3 := lhd (HO.out.below hb3 (Nat.le_refl _))
 have X3 := lhd (X2.out.below hb3 hlt2)
 have E3 := lhd (E2.out.trans (hb3.mono hs2.out))
 have hs3 := lhd (Nat.le_trans hs2.out hb3.size)
 have hlt3 := X3.out.lt
 clear hp hb3 c0 HO X2 E2 hs2 hlt2
 cases hF : (lastR l (pC x)).2 with
 | false =>
   rw [hF] at HSE HLP
   have HW0 : Hid (w3.alloc (.cells (rpc x (.slice Ax nx cx)).toArray 79) = w3.alloc (.cells (rpc x (.slice Ax nx cx)).toArray 79)) := lhd rfl
   have HB0 := lhd ((Below.refl w3.heap.size w3).alloc (Nat.le_refl _) (.cells (rpc x (.slice Ax nx cx)).toArray 79))
   have HVB := lhd (heap_alloc_new w3 (.cells (rpc x (.slice Ax nx cx)).toArray 79))
   have HO4 := lhd (HO3.out.below HB0.out (Nat.le_refl _))
   have hne3 : Hid ((Value.slice Au nu cu).ownBlock ≠ some w3.heap.size) := by
    show _ ≠ _
    intro he
    rcases HO3.out.2 with ⟨hz, _⟩ | ⟨g', cap, cur, hz, _, hz3, _⟩
    ·rw [hz] at he
     cases he
    ·rw [hz] at he
     injection he with he
     have he2 : g' = w3.heap.size := he
     have := (Array.getElem?_eq_some_iff.1 hz3).1
     omega
   clear HW0 hF
   go_wp2_with (first | refine wpList_load_part rfl 79 _ rfl g0 0 (rpc x (.slice Ax nx cx)) [.int .i64 (pC x), .int .i64 (pQ x), .int .i64 (pE x), txt (pV x), .int .i64 (pR x), .slice Ax nx cx] 79 rfl X3.out rfl hu30 hd30 szRpT ?_ | fail)
   change Calls Tryz.prog _ _ (w3.alloc (.cells (rpc x (.slice Ax nx cx)).toArray 79)) _
   obtain ⟨gv, hgv⟩ : ∃ q, w3.heap.size = q := ⟨_, rfl⟩
   obtain ⟨w4, hw4⟩ : ∃ q, w3.alloc (.cells (rpc x (.slice Ax nx cx)).toArray 79) = q := ⟨_, rfl⟩
   have HB4 := lhd HB0.out
   rw [hw4] at HB4 HVB HO4 ⊢
   have hgv3 := lhd hgv
   rw [hgv] at HVB hne3 ⊢
   clear hw4 hgv HB0
   have hs4 := lhd (Nat.le_trans hs3.out HB4.out.size)
   refine (insE_anyRv (rvs l ss) (rpv x (Ax, nx, cx)) p w.heap.size gv (.slice Au nu cu) w4 hs4.out HO4.out (by rw [rvs_len HS.out]; have := HL.out; omega) HVB.out hne3.out (by rw [rvs_len HS.out]; exact HPL.out)).mono ?_
   rintro e w5 ⟨u, rfl, hou, hb5, _⟩
   have E5 := lhd ((E3.out.trans (HB4.out.mono hs3.out)).trans hb5)
   have HO5 := lhd hou
   clear hou hb5 HB4 HVB HO4 hne3 HO3 hne E3 X3
   go_wp2
   go_ret
   refine ⟨_, rfl, ?_, E5.out⟩
   rw [HSE.out, if_neg (by decide)]
   refine ⟨insE ss (Ax, nx, cx) p, ?_, ?_, ?_⟩
   ·rw [insE_len ss _ p (by rw [HS.out]; exact HPL.out), insE_len l _ p HPL.out, HS.out]
   ·rw [← rvs_ins HS.out x (Ax, nx, cx) p HPL.out]
    exact HO5.out
   ·exact names_ins (P := fun s ns => GoE StK 9 b w5 (slv s) ns) HS.out x (Ax, nx, cx) p HPL.out (fun j hj => (HNS.out j hj).below E5.out HBW.out) (HX.out.below E5.out HBW.out)
 | true =>
   rw [hF] at HSE HLP
   have hpl : p < l.length := HLP.out rfl
   have hpn : p < nu := by rw [HNU.out]; exact hpl
   have hpz : (p : Int) < (nu : Int) := by omega
   obtain ⟨ga, ca, hga, -, hgb, hgl⟩ := HO3.out.inBlock (by rw [rvs_len HS.out]; omega)
   injection hga with h1 h2 h3
   subst h1
   clear h2 h3 hF
   have HST := lhd (HO3.out.stored p (by rw [rvs_len HS.out]; exact hpl) (rpv x (Ax, nx, cx)))
   have hgg : ga ≠ g0 := by
    intro he
    subst he
    exact hne.out rfl
   have HPL2 := lhd hpl
   clear hpl
   go_wp2_with (first | refine wpList_load_part rfl 79 _ rfl g0 0 (rpc x (.slice Ax nx cx)) (rpc x (.slice Ax nx cx)) 79 rfl X3.out rfl hu30 hd30 szRpT ?_ | refine wpList_store_mid rfl 79 _ _ rfl ga (p * 6) (rpc x (.slice Ax nx cx)).toArray rfl rfl HST.out.2.1 szRpT (rpc_allM _ _ _ _) ?_)
   have HO9 : Hid (OwnE RvK 79 (w3.setCells ga (p * 6) (rpc x (.slice Ax nx cx))) w.heap.size (.slice (some ⟨ga, 0, none⟩) nu cu) ((rvs l ss).set p (rpv x (Ax, nx, cx)))) := HST.out.1
   have E9 : Hid (Below w.heap.size w (w3.setCells ga (p * 6) (rpc x (.slice Ax nx cx)))) := E3.out.trans HST.out.2.2
   go_ret
   refine ⟨_, rfl, ?_, E9.out⟩
   rw [HSE.out, if_pos trivial]
   refine ⟨ss.set p (Ax, nx, cx), ?_, ?_, ?_⟩
   ·rw [List.length_set, List.length_set, HS.out]
   ·rw [← rvs_set]
    exact HO9.out
   ·exact names_set (P := fun s ns => GoE StK 9 b (w3.setCells ga (p * 6) (rpc x (.slice Ax nx cx))) (slv s) ns) HS.out x (Ax, nx, cx) p (fun j hj => (HNS.out j hj).below E9.out HBW.out) (HX.out.below E9.out HBW.out)
def atI (l : List Nd) (p : List UInt8) : Int := if hasN l p = true then (placeN l p : Int) else -1
def ndv (x : Nd) : Value := .agg (ndc x).toArray
def Gets (x : Nd) (f : Nat) (w : World) (e : Ending) (w' : World) : Prop := e = .returned (.tuple #[ndv x, .int .i64 (f : Int)]) ∧ Below w.heap.size w w'
theorem atI_or (l : List Nd) (p : List UInt8) : (hasN l p = true ∧ atI l p = (placeN l p : Int) ∧ placeN l p < l.length) ∨ (hasN l p = false ∧ atI l p = -1) := by
 unfold atI
 cases h : hasN l p
 ·right; simp
 ·left
  unfold hasN at h
  simpa using h
theorem get_not (l : List Nd) (p : List UInt8) (h : rightB p = false) : getE l p = 13 ∧ getS l p = nd0 := by simp [getE, getS, h]
theorem get_none (l : List Nd) (p : List UInt8) (h : rightB p = true) (h2 : hasN l p = false) : getE l p = 6 ∧ getS l p = nd0 := by simp [getE, getS, h, h2]
theorem get_yes (l : List Nd) (p : List UInt8) (h : rightB p = true) (h2 : hasN l p = true) : getE l p = 0 ∧ getS l p = l.getD (placeN l p) nd0 := by simp [getE, getS, h, h2, nodeN]
theorem ndc_one (x : Nd) : (ndc x).toArray.all (·.oneCell') = true := by
 rw [Array.all_eq_true_iff_forall_mem]
 intro v hv
 exact nds_cell [x] v (by rw [nds_one]; simpa using hv)
def firstI (l : List Nd) (q : Nd → Bool) : Int := if l.findIdx q < l.length then (l.findIdx q : Int) else -1
theorem findIdx_here (q : Nd → Bool) : ∀ (l : List Nd) (i : Nat), i < l.length → q (l.getD i nd0) = true → (∀ j, j < i → q (l.getD j nd0) = false) → l.findIdx q = i
 | [], i, h, _, _ => by simp at h
 | x :: r, 0, _, h1, _ => by
   have : q x = true := by simpa using h1
   simp [List.findIdx_cons, this]
 | x :: r, i + 1, h, h1, h2 => by
   have h0 : q x = false := by simpa using h2 0 (by omega)
   rw [List.findIdx_cons, h0]
   have := findIdx_here q r i (by simpa using h) (by simpa using h1) (fun j hj => by simpa using h2 (j + 1) (by omega))
   simp [this]
theorem findIdx_none (q : Nd → Bool) : ∀ (l : List Nd), (∀ j, j < l.length → q (l.getD j nd0) = false) → l.findIdx q = l.length
 | [], _ => rfl
 | x :: r, h => by
   have h0 : q x = false := by simpa using h 0 (by simp)
   rw [List.findIdx_cons, h0]
   have := findIdx_none q r (fun j hj => by simpa using h (j + 1) (by simpa using hj))
   simp [this]
theorem firstI_here (l : List Nd) (q : Nd → Bool) (i : Nat) (hi : i < l.length) (h : q (l.getD i nd0) = true) (hf : ∀ j, j < i → q (l.getD j nd0) = false) : firstI l q = (i : Int) := by
 unfold firstI
 rw [findIdx_here q l i hi h hf, if_pos hi]
theorem firstI_none (l : List Nd) (q : Nd → Bool) (h : ∀ j, j < l.length → q (l.getD j nd0) = false) : firstI l q = -1 := by
 unfold firstI
 rw [findIdx_none q l h, if_neg (by omega)]
theorem firstI_or (l : List Nd) (q : Nd → Bool) : (l.any q = true ∧ ∃ k : Nat, firstI l q = (k : Int) ∧ k < l.length) ∨ (l.any q = false ∧ firstI l q = -1) := by
 unfold firstI
 by_cases h : l.findIdx q < l.length
 ·left
  rw [if_pos h]
  refine ⟨?_, _, rfl, h⟩
  rw [List.any_eq_true]
  exact ⟨l[l.findIdx q], List.getElem_mem _, List.findIdx_getElem (w := h)⟩
 ·right
  rw [if_neg h]
  refine ⟨?_, rfl⟩
  have h2 : l.findIdx q = l.length := Nat.le_antisymm List.findIdx_le_length (by omega)
  rw [List.findIdx_eq_length] at h2
  rw [List.any_eq_false]
  intro x hx
  rw [h2 x hx]
  simp
theorem placeN_find (p : List UInt8) : ∀ l : List Nd, placeN l p = l.findIdx fun x => nP x == p
 | [] => rfl
 | x :: r => by
   unfold placeN
   rw [List.findIdx_cons]
   by_cases h : nP x = p
   ·rw [if_pos h]; simp [h]
   ·rw [if_neg h, placeN_find p r]
    have : (nP x == p) = false := by simpa using h
    rw [this]; rfl
theorem firstI_at (l : List Nd) (p : List UInt8) : firstI l (fun x => nP x == p) = atI l p := by
 unfold firstI atI hasN
 rw [placeN_find p l]
 by_cases h : (l.findIdx fun x => nP x == p) < l.length
 ·rw [if_pos h, if_pos (by simpa using h)]
 ·rw [if_neg h, if_neg (by simpa using h)]
theorem ixFunc_any (l : List Nd) (v : Value) (f : Nat) (lb : Array Value) (q : Nd → Bool) (w : World) (hr : RdNd w.heap.size w v l) (ef : ∀ args w, (callFunc f args).run Tryz.prog w = .ok (.enter f args) w)
 (hp : ∀ x W, Below w.heap.size w W → Calls Tryz.prog f (#[ndv x] ++ lb) W (One (.bool (q x)) W)) :
 Calls Tryz.prog 238 #[v, .func (.func f) #[] lb] w (One (.int .i64 (firstI l q)) w) := by
 obtain ⟨A, cp, rfl, hc, hm⟩ := hr.shape
 unfold maxLen at hm
 obtain ⟨n, hn⟩ : ∃ n, l.length = n := ⟨_, rfl⟩
 have HN := lhd hn
 have HR := lhd hr
 have HP := lhd hp
 rw [hn] at hc HR ⊢
 clear hr hn hp
 obtain ⟨g, hg⟩ : ∃ g, w.heap.size = g := ⟨_, rfl⟩
 have HG := lhd hg
 go_enter Tryz.func238, Tryz.ntmps238
 go_wp2
 go_loopw [5, 8] (fun o x wr => ∃ i : Nat, i ≤ n ∧ x = .int .i64 (i : Int) ∧ Hid (∀ j, j < i → q (l.getD j nd0) = false) ∧ Hid (Below g w wr)) (fun _ x _ => n - (intOf x).toNat)
 case atStart => exact ⟨0, by omega, rfl, (fun j hj => by omega), Below.refl _ _⟩
 case round =>
  obtain ⟨i, hi, rfl, HA, HW⟩ := hrel
  by_cases hi2 : i < n
  ·have zi : (i : Int) < (n : Int) := by omega
   obtain ⟨a, hA, c0, c1, c2, c3⟩ := (HR.out.below (by rw [HG.out]; exact HW.out)).at_ i (by rw [HN.out]; exact hi2)
   subst hA
   obtain ⟨x, hx⟩ : ∃ x, l.getD i nd0 = x := ⟨_, rfl⟩
   rw [hx] at c0 c1 c2 c3
   have HX := lhd hx
   clear hx
   go_wp2_with fail
   refine (HP.out x wr (by rw [HG.out]; exact HW.out)).mono ?_
   rintro e w2 ⟨rfl, hb⟩
   have hsz := HW.out.size
   have HW2 := lhd (HW.out.trans (hb.mono (by rw [HG.out] at hsz; omega)))
   clear hb c0 c1 c2 c3
   cases hq : q x
   ·have HA2 : Hid (∀ j, j < i + 1 → q (l.getD j nd0) = false) := by
     intro j hj
     by_cases h : j < i
     ·exact HA.out j h
     ·have : j = i := by omega
      subst this
      rw [HX.out]; exact hq
    clear hq
    go_wp2
    go_roundw
    case rel => exact ⟨i + 1, by omega, by go_num, HA2, HW2⟩
    case measure => simp [intOf]; omega
   ·have HE := lhd (firstI_here l q i (by rw [HN.out]; exact hi2) (by rw [HX.out]; exact hq) HA.out)
    clear hq
    go_wp2
    go_ret
    exact ⟨by rw [HE.out]; rfl, by rw [HG.out]; exact HW2.out⟩
  ·have hE : i = n := by omega
   subst hE
   have HE := lhd (firstI_none l q (by rw [HN.out]; exact HA.out))
   go_wp2
   go_ret
   exact ⟨by rw [HE.out]; rfl, by rw [HG.out]; exact HW.out⟩
theorem anyFunc_any (l : List Nd) (v : Value) (f : Nat) (lb : Array Value) (q : Nd → Bool) (w : World) (hr : RdNd w.heap.size w v l) (ef : ∀ args w, (callFunc f args).run Tryz.prog w = .ok (.enter f args) w)
 (hp : ∀ x W, Below w.heap.size w W → Calls Tryz.prog f (#[ndv x] ++ lb) W (One (.bool (q x)) W)) :
 Calls Tryz.prog 215 #[v, .func (.func f) #[] lb] w (One (.bool (l.any q)) w) := by
 have HC := lhd (ixFunc_any l v f lb q w hr ef hp)
 clear hr hp ef
 go_enter Tryz.func215, Tryz.ntmps215
 go_wp2_with fail
 refine HC.out.mono ?_
 rintro e w1 ⟨rfl, hb⟩
 have HB := lhd hb
 clear hb
 rcases firstI_or l q with ⟨h1, k, h2, _⟩ | ⟨h1, h2⟩
 ·have HF := lhd h1
  rw [h2]
  have h3 : (0 : Int) ≤ (k : Int) := by omega
  clear h1 h2
  go_wp2
  go_ret
  exact ⟨by rw [HF.out]; rfl, HB.out⟩
 ·have HF := lhd h1
  rw [h2]
  clear h1 h2
  go_wp2
  go_ret
  exact ⟨by rw [HF.out]; rfl, HB.out⟩
theorem ixFn_any (x : Nd) (p : List UInt8) (g : Nat) (w : World) (hg : g < w.heap.size) (hc : w.cell? ⟨g, 0, none⟩ = some (txt p)) : Calls Tryz.prog 239 #[ndv x, .pointer (some ⟨g, 0, none⟩)] w (One (.bool (nP x == p)) w) := by
 obtain ⟨a, b, c, d⟩ := x
 show Calls Tryz.prog _ #[.agg #[txt a, txt b, .int .i64 c, .int .i64 d], _] w (One (.bool (a == p)) w)
 go_enter Tryz.func239, Tryz.ntmps239
 go_wp2_with (refine wpList_box_blk rfl 157 _ rfl [txt a, txt b, .int .i64 c, .int .i64 d] rfl ?_)
 intro w1 b1 b2 b3
 have HB := lhd b3
 have c0 := b1.cell 0
 have c1 : w1.cell? ⟨g, 0, none⟩ = some (txt p) := (b3.cell hg).trans hc
 obtain ⟨k, hk⟩ : ∃ k, w.heap.size = k := ⟨_, rfl⟩
 rw [hk] at c0 ⊢
 clear b1 b2 b3 hk hc hg
 obtain ⟨B, hB⟩ : ∃ B, (a == p) = B := ⟨_, rfl⟩
 have HF := lhd hB
 go_wp2
 go_ret
 exact ⟨by rw [HF.out]; rfl, HB.out⟩
theorem shIndex_any (l : List Nd) (p : List UInt8) (v : Value) (w : World) (hr : RdNd w.heap.size w v l) : Calls Tryz.prog 210 #[v, txt p] w (One (.int .i64 (atI l p)) w) := by
 have hmf : ∀ (fn : Fn) (first cap : Array Value) (w : World), (Instr.makeFunc fn first cap).run Tryz.prog w = .ok (.func fn first cap) w := fun _ _ _ _ => rfl
 have ef : ∀ args w, (callFunc 239 args).run Tryz.prog w = .ok (.enter 239 args) w := fun args w => enters_of Tryz.func239 (by kernel_rfl) rfl args w
 have HR := lhd hr
 have HE := lhd ef
 clear hr ef
 go_enter Tryz.func210, Tryz.ntmps210
 go_wp2_with (refine wpList_box_one rfl 9 _ rfl (txt p) rfl rfl ?_)
 intro w1 b1 b2 b3
 have HB := lhd b3
 have c0 := lhd (b1.cell 0)
 have hk1 : w.heap.size < w1.heap.size := by omega
 have HR1 := lhd ((HR.out.below b3).more (show w.heap.size ≤ w1.heap.size by omega))
 obtain ⟨k, hk⟩ : ∃ k, w.heap.size = k := ⟨_, rfl⟩
 have HK := lhd hk
 rw [hk] at c0 hk1 ⊢
 clear b1 b2 b3 hk HR
 go_wp2_with fail
 refine (ixFunc_any l v 239 #[.pointer (some ⟨k, 0, none⟩)] (fun x => nP x == p) w1 HR1.out HE.out (fun x W hW => ixFn_any x p k W (Nat.lt_of_lt_of_le hk1 hW.size) ((hW.cell hk1).trans c0.out))).mono ?_
 rintro e w2 ⟨rfl, hb⟩
 have HB2 := lhd (HB.out.trans (hb.mono (by rw [HK.out]; omega)))
 clear hb
 rw [firstI_at]
 go_wp2
 go_ret
 exact ⟨rfl, by rw [HK.out] at *; exact HB2.out⟩
theorem rowPN : ∃ d, Tryz.prog.underlying 157 = some d ∧ d.isRow = true := ⟨_, Tryz.underlying157, rfl⟩
theorem sPN : (Tryz.prog.info? 157).map (·.size) = some 4 := by kernel_rfl
theorem zPN : (Tryz.prog.info? 157).map (·.zero) = some (some (.agg (ndc nd0).toArray)) := by kernel_rfl
theorem rowPS : ∃ d, Tryz.prog.underlying 41 = some d ∧ d.isRow = true := ⟨_, Tryz.underlying41, rfl⟩
theorem sPS : (Tryz.prog.info? 41).map (·.size) = some 1 := by kernel_rfl
theorem zPS : (Tryz.prog.info? 41).map (·.zero) = some (some (.agg [Value.slice none 0 0].toArray)) := by kernel_rfl
def verB (z r : Int) : Bool := (z == -1) || (z == r)
theorem shOf_any (x : Nd) (z : Int) (w : World) : Calls Tryz.prog 212 #[ndv x, .int .i64 z] w (One (.bool (verB z (nR x))) w) := by
 obtain ⟨a, b, c, d⟩ := x
 show Calls Tryz.prog _ #[.agg #[txt a, txt b, .int .i64 c, .int .i64 d], _] w (One (.bool (verB z c)) w)
 go_enter Tryz.func212, Tryz.ntmps212
 go_wp2_with (refine wpList_box_blk rfl 157 _ rfl [txt a, txt b, .int .i64 c, .int .i64 d] rfl ?_)
 intro w1 b1 b2 b3
 have HB := lhd b3
 have c2 := b1.at_ 2 _ rfl
 obtain ⟨k, hk⟩ : ∃ k, w.heap.size = k := ⟨_, rfl⟩
 rw [hk] at c2 ⊢
 clear b1 b2 b3 hk
 by_cases h1 : z = -1
 ·have hz : (z == -1) = true := by simpa using h1
  have HF : Hid (verB z c = true) := by
   show _ = _
   unfold verB
   rw [hz]; rfl
  clear h1
  go_wp2
  go_ret
  exact ⟨by rw [HF.out]; rfl, HB.out⟩
 ·have hz : (z == -1) = false := by simpa using h1
  clear h1
  cases h2 : (z == c)
  ·have HF : Hid (verB z c = false) := by
    show _ = _
    unfold verB
    rw [hz, h2]; rfl
   go_wp2
   go_ret
   exact ⟨by rw [HF.out]; rfl, HB.out⟩
  ·have HF : Hid (verB z c = true) := by
    show _ = _
    unfold verB
    rw [hz, h2]; rfl
   go_wp2
   go_ret
   exact ⟨by rw [HF.out]; rfl, HB.out⟩
theorem shGet_any (l : List Nd) (p : List UInt8) (v : Value) (w : World) (hr : RdNd w.heap.size w v l) : Calls Tryz.prog 178 #[.agg #[v], txt p] w (Gets (getS l p) (getE l p) w) := by
 obtain ⟨A, cp, rfl, hc, hm⟩ := hr.shape
 unfold maxLen at hm
 obtain ⟨n, hn⟩ : ∃ n, l.length = n := ⟨_, rfl⟩
 have HN := lhd hn
 have HR := lhd hr
 rw [hn] at hc HR ⊢
 clear hr hn
 obtain ⟨d56, hu56, hd56⟩ := rowPN
 have HU := lhd hu56
 have HD := lhd hd56
 clear hu56 hd56
 go_enter Tryz.func178, Tryz.ntmps178
 go_wp2_with (refine wpList_box_blk rfl 41 _ rfl [.slice A n cp] rfl ?_)
 intro w1 b1 b2 b3
 go_wp2_with (refine wpList_alloc_blk rfl 157 rfl (ndc nd0) zPN ?_)
 intro w2 a1 a2 a3
 obtain ⟨g0, hg0⟩ : ∃ g, w.heap.size = g := ⟨_, rfl⟩
 obtain ⟨g1, hg1⟩ : ∃ g, w.heap.size + 1 = g := ⟨_, rfl⟩
 have hg01 : g0 < g1 := by omega
 have hw2 : w.heap.size ≤ w2.heap.size := by omega
 have hg2 : g1 < w2.heap.size := by omega
 have X0 := lhd (b1.below a3 (by omega))
 have X1 := lhd a1
 have HB := lhd (b3.trans (a3.mono (by omega)))
 have HR2 := lhd (HR.out.below HB.out)
 rw [hg1] at X1 ⊢
 rw [hg0] at X0 ⊢
 clear b1 b2 b3 a1 a2 a3 HR hg1
 go_wp2_with fail
 refine (pxRight_any p w2).mono ?_
 rintro e w3 ⟨rfl, hb⟩
 have hs3 := hb.size
 have Y0 := lhd (X0.out.below hb (by omega))
 have Y1 := lhd (X1.out.below hb (by omega))
 have HB3 := lhd (HB.out.trans (hb.mono (by omega)))
 have HR3 := lhd ((HR2.out.below (hb.mono hw2)).more (show w.heap.size ≤ w3.heap.size by omega))
 clear hb X0 X1 HB HR2
 cases hR : rightB p
 ·have HG := lhd (get_not l p hR)
  clear hR
  go_wp2_with (refine wpList_store_blk rfl 157 _ _ rfl g1 (ndc nd0) (ndc nd0) 157 rfl rfl Y1.out sPN rfl (ndc_one _) ?_)
  refine bodyPost_ret (v := .tuple #[.agg (ndc nd0).toArray, .int .i64 13]) ?_ rfl ?_
  ·exact ret_blk2U rfl _ _ g1 157 (ndc nd0) _ rfl rfl Y1.out.setRow d56 HU.out HD.out sPN
  ·rw [HG.out.1, HG.out.2]
   exact ⟨rfl, below_setRow' HB3.out (by omega) _⟩
 ·have HR4 := lhd hR
  have cs := Y0.out.cell 0
  clear hR
  go_wp2_with fail
  refine (shIndex_any l p _ w3 HR3.out).mono ?_
  rintro e w4 ⟨rfl, hb⟩
  have hs4 := hb.size
  have Z0 := lhd (Y0.out.below hb (by omega))
  have Z1 := lhd (Y1.out.below hb (by omega))
  have HB4 := lhd (HB3.out.trans (hb.mono (by omega)))
  have HR5 := lhd (HR3.out.below hb)
  clear hb Y0 Y1 HB3 HR3 cs
  rcases atI_or l p with ⟨h1, h2, h3⟩ | ⟨h1, h2⟩
  ·have HG := lhd (get_yes l p HR4.out h1)
   rw [h2]
   obtain ⟨i, hi⟩ : ∃ i, placeN l p = i := ⟨_, rfl⟩
   rw [hi] at HG h3 ⊢
   rw [HN.out] at h3
   have zi : (i : Int) < (n : Int) := by omega
   obtain ⟨a, hA, c0, c1, c2, c3⟩ := HR5.out.at_ i (by rw [HN.out]; exact h3)
   subst hA
   obtain ⟨x, hx⟩ : ∃ x, l.getD i nd0 = x := ⟨_, rfl⟩
   rw [hx] at c0 c1 c2 c3 HG
   have cs := Z0.out.cell 0
   clear h1 h2 hi hx HR5 HR4
   go_wp2_with (refine wpList_store_blk rfl 157 _ _ rfl g1 (ndc x) (ndc nd0) 157 rfl rfl Z1.out sPN rfl (ndc_one _) ?_)
   refine bodyPost_ret (v := .tuple #[.agg (ndc x).toArray, .int .i64 0]) ?_ rfl ?_
   ·exact ret_blk2U rfl _ _ g1 157 (ndc x) _ rfl rfl Z1.out.setRow d56 HU.out HD.out sPN
   ·rw [HG.out.1, HG.out.2]
    exact ⟨rfl, below_setRow' HB4.out (by omega) _⟩
  ·have HG := lhd (get_none l p HR4.out h1)
   rw [h2]
   clear h1 h2 HR5 HR4
   go_wp2_with (refine wpList_store_blk rfl 157 _ _ rfl g1 (ndc nd0) (ndc nd0) 157 rfl rfl Z1.out sPN rfl (ndc_one _) ?_)
   refine bodyPost_ret (v := .tuple #[.agg (ndc nd0).toArray, .int .i64 6]) ?_ rfl ?_
   ·exact ret_blk2U rfl _ _ g1 157 (ndc nd0) _ rfl rfl Z1.out.setRow d56 HU.out HD.out sPN
   ·rw [HG.out.1, HG.out.2]
    exact ⟨rfl, below_setRow' HB4.out (by omega) _⟩
end Go.Proofs.YtgfobinklijkpaaGreatDoor
