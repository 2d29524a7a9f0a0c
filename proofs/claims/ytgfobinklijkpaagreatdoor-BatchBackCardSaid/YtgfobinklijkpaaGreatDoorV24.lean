/-
  Texts G1 G2 H6 H7 H8 H9 HB HC HD HE HF G4.
-/
import Derived.Test.YtgfobinklijkpaaGreatDoorV01
import Derived.Shelf.Abstract
import Derived.Laws.StructEq
import Derived.Lib.Strings
import Derived.Test.YtgfobinklijkpaaGreatDoorV07
import Derived.Test.YtgfobinklijkpaaGreatDoorV23
namespace Go.Proofs.YtgfobinklijkpaaGreatDoor
set_option maxRecDepth 100000
set_option maxHeartbeats 16000000
open Go.RowKit
def firstI (l : List Nd) (q : Nd → Bool) : Int := if l.findIdx q < l.length then (l.findIdx q : Int) else -1
theorem findIdx_here (q : Nd → Bool) : ∀ (l : List Nd) (i : Nat), i < l.length → q (l.getD i nd0) = true → (∀ j, j < i → q (l.getD j nd0) = false) → l.findIdx q = i
 | [], i, h, _, _ => by simp at h
 | x :: r, 0, _, h1, _ => by
   have : q x = true := by simpa using h1
   simp [List.findIdx_cons, this]
 | x :: r, i + 1, h, h1, h2 => by
   have h0 : q x = false := by simpa using h2 0 (by omega)
   rw [List.findIdx_cons, h0]
   have := findIdx_here q r i (by simpa using h) (by simpa using h1) (fun j hj => by simpa using h2 (j + 1) (by omega))
   simp [this]
theorem findIdx_none (q : Nd → Bool) : ∀ (l : List Nd), (∀ j, j < l.length → q (l.getD j nd0) = false) → l.findIdx q = l.length
 | [], _ => rfl
 | x :: r, h => by
   have h0 : q x = false := by simpa using h 0 (by simp)
   rw [List.findIdx_cons, h0]
   have := findIdx_none q r (fun j hj => by simpa using h (j + 1) (by simpa using hj))
   simp [this]
theorem firstI_here (l : List Nd) (q : Nd → Bool) (i : Nat) (hi : i < l.length) (h : q (l.getD i nd0) = true) (hf : ∀ j, j < i → q (l.getD j nd0) = false) : firstI l q = (i : Int) := by
 unfold firstI
 rw [findIdx_here q l i hi h hf, if_pos hi]
theorem firstI_none (l : List Nd) (q : Nd → Bool) (h : ∀ j, j < l.length → q (l.getD j nd0) = false) : firstI l q = -1 := by
 unfold firstI
 rw [findIdx_none q l h, if_neg (by omega)]
theorem firstI_or (l : List Nd) (q : Nd → Bool) : (l.any q = true ∧ ∃ k : Nat, firstI l q = (k : Int) ∧ k < l.length) ∨ (l.any q = false ∧ firstI l q = -1) := by
 unfold firstI
 by_cases h : l.findIdx q < l.length
 ·left
  rw [if_pos h]
  refine ⟨?_, _, rfl, h⟩
  rw [List.any_eq_true]
  exact ⟨l[l.findIdx q], List.getElem_mem _, List.findIdx_getElem (w := h)⟩
 ·right
  rw [if_neg h]
  refine ⟨?_, rfl⟩
  have h2 : l.findIdx q = l.length := Nat.le_antisymm List.findIdx_le_length (by omega)
  rw [List.findIdx_eq_length] at h2
  rw [List.any_eq_false]
  intro x hx
  rw [h2 x hx]
  simp
theorem placeN_find (p : List UInt8) : ∀ l : List Nd, placeN l p = l.findIdx fun x => nP x == p
 | [] => rfl
 | x :: r => by
   unfold placeN
   rw [List.findIdx_cons]
   by_cases h : nP x = p
   ·rw [if_pos h]; simp [h]
   ·rw [if_neg h, placeN_find p r]
    have : (nP x == p) = false := by simpa using h
    rw [this]; rfl
theorem firstI_at (l : List Nd) (p : List UInt8) : firstI l (fun x => nP x == p) = atI l p := by
 unfold firstI atI hasN
 rw [placeN_find p l]
 by_cases h : (l.findIdx fun x => nP x == p) < l.length
 ·rw [if_pos h, if_pos (by simpa using h)]
 ·rw [if_neg h, if_neg (by simpa using h)]
theorem ixFunc_any (l : List Nd) (v : Value) (f : Nat) (lb : Array Value) (q : Nd → Bool) (w : World) (hr : RdNd w.heap.size w v l) (ef : ∀ args w, (callFunc f args).run Tryz.prog w = .ok (.enter f args) w)
 (hp : ∀ x W, Below w.heap.size w W → Calls Tryz.prog f (#[ndv x] ++ lb) W (One (.bool (q x)) W)) :
 Calls Tryz.prog 238 #[v, .func (.func f) #[] lb] w (One (.int .i64 (firstI l q)) w) := by
 obtain ⟨A, cp, rfl, hc, hm⟩ := hr.shape
 unfold maxLen at hm
 obtain ⟨n, hn⟩ : ∃ n, l.length = n := ⟨_, rfl⟩
 have HN := lhd hn
 have HR := lhd hr
 have HP := lhd hp
 rw [hn] at hc HR ⊢
 clear hr hn hp
 obtain ⟨g, hg⟩ : ∃ g, w.heap.size = g := ⟨_, rfl⟩
 have HG := lhd hg
 go_enter Tryz.func238, Tryz.ntmps238
 go_wp2
 go_loopw [5, 8] (fun o x wr => ∃ i : Nat, i ≤ n ∧ x = .int .i64 (i : Int) ∧ Hid (∀ j, j < i → q (l.getD j nd0) = false) ∧ Hid (Below g w wr)) (fun _ x _ => n - (intOf x).toNat)
 case atStart => exact ⟨0, by omega, rfl, (fun j hj => by omega), Below.refl _ _⟩
 case round =>
  obtain ⟨i, hi, rfl, HA, HW⟩ := hrel
  by_cases hi2 : i < n
  ·have zi : (i : Int) < (n : Int) := by omega
   obtain ⟨a, hA, c0, c1, c2, c3⟩ := (HR.out.below (by rw [HG.out]; exact HW.out)).at_ i (by rw [HN.out]; exact hi2)
   subst hA
   obtain ⟨x, hx⟩ : ∃ x, l.getD i nd0 = x := ⟨_, rfl⟩
   rw [hx] at c0 c1 c2 c3
   have HX := lhd hx
   clear hx
   go_wp2_with fail
   refine (HP.out x wr (by rw [HG.out]; exact HW.out)).mono ?_
   rintro e w2 ⟨rfl, hb⟩
   have hsz := HW.out.size
   have HW2 := lhd (HW.out.trans (hb.mono (by rw [HG.out] at hsz; omega)))
   clear hb c0 c1 c2 c3
   cases hq : q x
   ·have HA2 : Hid (∀ j, j < i + 1 → q (l.getD j nd0) = false) := by
     intro j hj
     by_cases h : j < i
     ·exact HA.out j h
     ·have : j = i := by omega
      subst this
      rw [HX.out]; exact hq
    clear hq
    go_wp2
    go_roundw
    case rel => exact ⟨i + 1, by omega, by go_num, HA2, HW2⟩
    case measure => simp [intOf]; omega
   ·have HE := lhd (firstI_here l q i (by rw [HN.out]; exact hi2) (by rw [HX.out]; exact hq) HA.out)
    clear hq
    go_wp2
    go_ret
    exact ⟨by rw [HE.out]; rfl, by rw [HG.out]; exact HW2.out⟩
  ·have hE : i = n := by omega
   subst hE
   have HE := lhd (firstI_none l q (by rw [HN.out]; exact HA.out))
   go_wp2
   go_ret
   exact ⟨by rw [HE.out]; rfl, by rw [HG.out]; exact HW.out⟩
theorem anyFunc_any (l : List Nd) (v : Value) (f : Nat) (lb : Array Value) (q : Nd → Bool) (w : World) (hr : RdNd w.heap.size w v l) (ef : ∀ args w, (callFunc f args).run Tryz.prog w = .ok (.enter f args) w)
 (hp : ∀ x W, Below w.heap.size w W → Calls Tryz.prog f (#[ndv x] ++ lb) W (One (.bool (q x)) W)) :
 Calls Tryz.prog 215 #[v, .func (.func f) #[] lb] w (One (.bool (l.any q)) w) := by
 have HC := lhd (ixFunc_any l v f lb q w hr ef hp)
 clear hr hp ef
 go_enter Tryz.func215, Tryz.ntmps215
 go_wp2_with fail
 refine HC.out.mono ?_
 rintro e w1 ⟨rfl, hb⟩
 have HB := lhd hb
 clear hb
 rcases firstI_or l q with ⟨h1, k, h2, _⟩ | ⟨h1, h2⟩
 ·have HF := lhd h1
  rw [h2]
  have h3 : (0 : Int) ≤ (k : Int) := by omega
  clear h1 h2
  go_wp2
  go_ret
  exact ⟨by rw [HF.out]; rfl, HB.out⟩
 ·have HF := lhd h1
  rw [h2]
  clear h1 h2
  go_wp2
  go_ret
  exact ⟨by rw [HF.out]; rfl, HB.out⟩
theorem ixFn_any (x : Nd) (p : List UInt8) (g : Nat) (w : World) (hg : g < w.heap.size) (hc : w.cell? ⟨g, 0, none⟩ = some (txt p)) : Calls Tryz.prog 239 #[ndv x, .pointer (some ⟨g, 0, none⟩)] w (One (.bool (nP x == p)) w) := by
 obtain ⟨a, b, c, d⟩ := x
 show Calls Tryz.prog _ #[.agg #[txt a, txt b, .int .i64 c, .int .i64 d], _] w (One (.bool (a == p)) w)
 go_enter Tryz.func239, Tryz.ntmps239
 go_wp2_with (refine wpList_box_blk rfl 157 _ rfl [txt a, txt b, .int .i64 c, .int .i64 d] rfl ?_)
 intro w1 b1 b2 b3
 have HB := lhd b3
 have c0 := b1.cell 0
 have c1 : w1.cell? ⟨g, 0, none⟩ = some (txt p) := (b3.cell hg).trans hc
 obtain ⟨k, hk⟩ : ∃ k, w.heap.size = k := ⟨_, rfl⟩
 rw [hk] at c0 ⊢
 clear b1 b2 b3 hk hc hg
 obtain ⟨B, hB⟩ : ∃ B, (a == p) = B := ⟨_, rfl⟩
 have HF := lhd hB
 go_wp2
 go_ret
 exact ⟨by rw [HF.out]; rfl, HB.out⟩
theorem shIndex_any (l : List Nd) (p : List UInt8) (v : Value) (w : World) (hr : RdNd w.heap.size w v l) : Calls Tryz.prog 210 #[v, txt p] w (One (.int .i64 (atI l p)) w) := by
 have hmf : ∀ (fn : Fn) (first cap : Array Value) (w : World), (Instr.makeFunc fn first cap).run Tryz.prog w = .ok (.func fn first cap) w := fun _ _ _ _ => rfl
 have ef : ∀ args w, (callFunc 239 args).run Tryz.prog w = .ok (.enter 239 args) w := fun args w => enters_of Tryz.func239 (by kernel_rfl) rfl args w
 have HR := lhd hr
 have HE := lhd ef
 clear hr ef
 go_enter Tryz.func210, Tryz.ntmps210
 go_wp2_with (refine wpList_box_one rfl 9 _ rfl (txt p) rfl rfl ?_)
 intro w1 b1 b2 b3
 have HB := lhd b3
 have c0 := lhd (b1.cell 0)
 have hk1 : w.heap.size < w1.heap.size := by omega
 have HR1 := lhd ((HR.out.below b3).more (show w.heap.size ≤ w1.heap.size by omega))
 obtain ⟨k, hk⟩ : ∃ k, w.heap.size = k := ⟨_, rfl⟩
 have HK := lhd hk
 rw [hk] at c0 hk1 ⊢
 clear b1 b2 b3 hk HR
 go_wp2_with fail
 refine (ixFunc_any l v 239 #[.pointer (some ⟨k, 0, none⟩)] (fun x => nP x == p) w1 HR1.out HE.out (fun x W hW => ixFn_any x p k W (Nat.lt_of_lt_of_le hk1 hW.size) ((hW.cell hk1).trans c0.out))).mono ?_
 rintro e w2 ⟨rfl, hb⟩
 have HB2 := lhd (HB.out.trans (hb.mono (by rw [HK.out]; omega)))
 clear hb
 rw [firstI_at]
 go_wp2
 go_ret
 exact ⟨rfl, by rw [HK.out] at *; exact HB2.out⟩
theorem rowPN : ∃ d, Tryz.prog.underlying 157 = some d ∧ d.isRow = true := ⟨_, Tryz.underlying157, rfl⟩
theorem sPN : (Tryz.prog.info? 157).map (·.size) = some 4 := by kernel_rfl
theorem zPN : (Tryz.prog.info? 157).map (·.zero) = some (some (.agg (ndc nd0).toArray)) := by kernel_rfl
theorem rowPS : ∃ d, Tryz.prog.underlying 41 = some d ∧ d.isRow = true := ⟨_, Tryz.underlying41, rfl⟩
theorem sPS : (Tryz.prog.info? 41).map (·.size) = some 1 := by kernel_rfl
theorem zPS : (Tryz.prog.info? 41).map (·.zero) = some (some (.agg [Value.slice none 0 0].toArray)) := by kernel_rfl
def verB (z r : Int) : Bool := (z == -1) || (z == r)
theorem shOf_any (x : Nd) (z : Int) (w : World) : Calls Tryz.prog 212 #[ndv x, .int .i64 z] w (One (.bool (verB z (nR x))) w) := by
 obtain ⟨a, b, c, d⟩ := x
 show Calls Tryz.prog _ #[.agg #[txt a, txt b, .int .i64 c, .int .i64 d], _] w (One (.bool (verB z c)) w)
 go_enter Tryz.func212, Tryz.ntmps212
 go_wp2_with (refine wpList_box_blk rfl 157 _ rfl [txt a, txt b, .int .i64 c, .int .i64 d] rfl ?_)
 intro w1 b1 b2 b3
 have HB := lhd b3
 have c2 := b1.at_ 2 _ rfl
 obtain ⟨k, hk⟩ : ∃ k, w.heap.size = k := ⟨_, rfl⟩
 rw [hk] at c2 ⊢
 clear b1 b2 b3 hk
 by_cases h1 : z = -1
 ·have hz : (z == -1) = true := by simpa using h1
  have HF : Hid (verB z c = true) := by
   show _ = _
   unfold verB
   rw [hz]; rfl
  clear h1
  go_wp2
  go_ret
  exact ⟨by rw [HF.out]; rfl, HB.out⟩
 ·have hz : (z == -1) = false := by simpa using h1
  clear h1
  cases h2 : (z == c)
  ·have HF : Hid (verB z c = false) := by
    show _ = _
    unfold verB
    rw [hz, h2]; rfl
   go_wp2
   go_ret
   exact ⟨by rw [HF.out]; rfl, HB.out⟩
  ·have HF : Hid (verB z c = true) := by
    show _ = _
    unfold verB
    rw [hz, h2]; rfl
   go_wp2
   go_ret
   exact ⟨by rw [HF.out]; rfl, HB.out⟩
theorem shGet_any (l : List Nd) (p : List UInt8) (v : Value) (w : World) (hr : RdNd w.heap.size w v l) : Calls Tryz.prog 178 #[.agg #[v], txt p] w (Gets (getS l p) (getE l p) w) := by
 obtain ⟨A, cp, rfl, hc, hm⟩ := hr.shape
 unfold maxLen at hm
 obtain ⟨n, hn⟩ : ∃ n, l.length = n := ⟨_, rfl⟩
 have HN := lhd hn
 have HR := lhd hr
 rw [hn] at hc HR ⊢
 clear hr hn
 obtain ⟨d56, hu56, hd56⟩ := rowPN
 have HU := lhd hu56
 have HD := lhd hd56
 clear hu56 hd56
 go_enter Tryz.func178, Tryz.ntmps178
 go_wp2_with (refine wpList_box_blk rfl 41 _ rfl [.slice A n cp] rfl ?_)
 intro w1 b1 b2 b3
 go_wp2_with (refine wpList_alloc_blk rfl 157 rfl (ndc nd0) zPN ?_)
 intro w2 a1 a2 a3
 obtain ⟨g0, hg0⟩ : ∃ g, w.heap.size = g := ⟨_, rfl⟩
 obtain ⟨g1, hg1⟩ : ∃ g, w.heap.size + 1 = g := ⟨_, rfl⟩
 have hg01 : g0 < g1 := by omega
 have hw2 : w.heap.size ≤ w2.heap.size := by omega
 have hg2 : g1 < w2.heap.size := by omega
 have X0 := lhd (b1.below a3 (by omega))
 have X1 := lhd a1
 have HB := lhd (b3.trans (a3.mono (by omega)))
 have HR2 := lhd (HR.out.below HB.out)
 rw [hg1] at X1 ⊢
 rw [hg0] at X0 ⊢
 clear b1 b2 b3 a1 a2 a3 HR hg1
 go_wp2_with fail
 refine (pxRight_any p w2).mono ?_
 rintro e w3 ⟨rfl, hb⟩
 have hs3 := hb.size
 have Y0 := lhd (X0.out.below hb (by omega))
 have Y1 := lhd (X1.out.below hb (by omega))
 have HB3 := lhd (HB.out.trans (hb.mono (by omega)))
 have HR3 := lhd ((HR2.out.below (hb.mono hw2)).more (show w.heap.size ≤ w3.heap.size by omega))
 clear hb X0 X1 HB HR2
 cases hR : rightB p
 ·have HG := lhd (get_not l p hR)
  clear hR
  go_wp2_with (refine wpList_store_blk rfl 157 _ _ rfl g1 (ndc nd0) (ndc nd0) 157 rfl rfl Y1.out sPN rfl (ndc_one _) ?_)
  refine bodyPost_ret (v := .tuple #[.agg (ndc nd0).toArray, .int .i64 13]) ?_ rfl ?_
  ·exact ret_blk2U rfl _ _ g1 157 (ndc nd0) _ rfl rfl Y1.out.setRow d56 HU.out HD.out sPN
  ·rw [HG.out.1, HG.out.2]
   exact ⟨rfl, below_setRow' HB3.out (by omega) _⟩
 ·have HR4 := lhd hR
  have cs := Y0.out.cell 0
  clear hR
  go_wp2_with fail
  refine (shIndex_any l p _ w3 HR3.out).mono ?_
  rintro e w4 ⟨rfl, hb⟩
  have hs4 := hb.size
  have Z0 := lhd (Y0.out.below hb (by omega))
  have Z1 := lhd (Y1.out.below hb (by omega))
  have HB4 := lhd (HB3.out.trans (hb.mono (by omega)))
  have HR5 := lhd (HR3.out.below hb)
  clear hb Y0 Y1 HB3 HR3 cs
  rcases atI_or l p with ⟨h1, h2, h3⟩ | ⟨h1, h2⟩
  ·have HG := lhd (get_yes l p HR4.out h1)
   rw [h2]
   obtain ⟨i, hi⟩ : ∃ i, placeN l p = i := ⟨_, rfl⟩
   rw [hi] at HG h3 ⊢
   rw [HN.out] at h3
   have zi : (i : Int) < (n : Int) := by omega
   obtain ⟨a, hA, c0, c1, c2, c3⟩ := HR5.out.at_ i (by rw [HN.out]; exact h3)
   subst hA
   obtain ⟨x, hx⟩ : ∃ x, l.getD i nd0 = x := ⟨_, rfl⟩
   rw [hx] at c0 c1 c2 c3 HG
   have cs := Z0.out.cell 0
   clear h1 h2 hi hx HR5 HR4
   go_wp2_with (refine wpList_store_blk rfl 157 _ _ rfl g1 (ndc x) (ndc nd0) 157 rfl rfl Z1.out sPN rfl (ndc_one _) ?_)
   refine bodyPost_ret (v := .tuple #[.agg (ndc x).toArray, .int .i64 0]) ?_ rfl ?_
   ·exact ret_blk2U rfl _ _ g1 157 (ndc x) _ rfl rfl Z1.out.setRow d56 HU.out HD.out sPN
   ·rw [HG.out.1, HG.out.2]
    exact ⟨rfl, below_setRow' HB4.out (by omega) _⟩
  ·have HG := lhd (get_none l p HR4.out h1)
   rw [h2]
   clear h1 h2 HR5 HR4
   go_wp2_with (refine wpList_store_blk rfl 157 _ _ rfl g1 (ndc nd0) (ndc nd0) 157 rfl rfl Z1.out sPN rfl (ndc_one _) ?_)
   refine bodyPost_ret (v := .tuple #[.agg (ndc nd0).toArray, .int .i64 6]) ?_ rfl ?_
   ·exact ret_blk2U rfl _ _ g1 157 (ndc nd0) _ rfl rfl Z1.out.setRow d56 HU.out HD.out sPN
   ·rw [HG.out.1, HG.out.2]
    exact ⟨rfl, below_setRow' HB4.out (by omega) _⟩
theorem kidsN_snoc (l : List Nd) (p : List UInt8) (i : Nat) (hi : i < l.length) :
 kidsN (l.take (i + 1)) p = kidsN (l.take i) p ++ (if kidN p (l.getD i nd0) = true then [lastN (nP (l.getD i nd0))] else []) := by
 have e : l.take (i + 1) = l.take i ++ [l.getD i nd0] := by
  rw [List.take_add_one, List.getD_eq_getElem?_getD, List.getElem?_eq_getElem hi]
  rfl
 rw [e]
 obtain ⟨y, hy⟩ : ∃ y, l.getD i nd0 = y := ⟨_, rfl⟩
 rw [hy]
 unfold kidsN
 rw [List.filter_append, List.map_append]
 congr 1
 cases h : kidN p y <;> simp [h]
theorem kidsN_len (l : List Nd) (p : List UInt8) : (kidsN l p).length ≤ l.length := by
 unfold kidsN
 rw [List.length_map]
 exact List.length_filter_le _ _
theorem kidN_right (p : List UInt8) (x : Nd) (h : kidN p x = true) : rightB (nP x) = true ∧ parentE (nP x) = 0 ∧ parentS (nP x) = p := by
 unfold kidN at h
 simp only [Bool.and_eq_true, decide_eq_true_eq] at h
 refine ⟨?_, h.1, h.2⟩
 cases hr : rightB (nP x)
 ·have := (parent_not (nP x) hr).2
  rw [h.1] at this; cases this
 ·rfl
theorem list_not (l : List Nd) (p : List UInt8) (h : getE l p ≠ 0) : listS l p = [] := by unfold listS; rw [if_neg h]
theorem list_yes (l : List Nd) (p : List UInt8) (h : getE l p = 0) : listS l p = kidsN l p := by unfold listS; rw [if_pos h]
theorem dropS_snoc (l : List Nd) (o : Int) (i : Nat) (hi : i < l.length) : dropS (l.take (i + 1)) o = dropS (l.take i) o ++ (if ownB o (l.getD i nd0) = true then [] else [l.getD i nd0]) ∧
 goneN (l.take (i + 1)) o = goneN (l.take i) o ++ (if ownB o (l.getD i nd0) = true then [nP (l.getD i nd0)] else []) := by
 have e : l.take (i + 1) = l.take i ++ [l.getD i nd0] := by
  rw [List.take_add_one, List.getD_eq_getElem?_getD, List.getElem?_eq_getElem hi]
  rfl
 rw [e]
 obtain ⟨y, hy⟩ : ∃ y, l.getD i nd0 = y := ⟨_, rfl⟩
 rw [hy]
 unfold dropS goneN
 rw [List.filter_append, List.filter_append, List.map_append]
 cases h : ownB o y <;> simp [h]
theorem dropS_len (l : List Nd) (o : Int) : (dropS l o).length ≤ l.length := List.length_filter_le _ _
theorem goneN_len (l : List Nd) (o : Int) : (goneN l o).length ≤ l.length := by
 unfold goneN
 rw [List.length_map]
 exact List.length_filter_le _ _
theorem wpList_app1Sg {P : Program} {w : World} {ops : Array Oper} {rest : List Oper} {o : Oper} {a : Act} {Q : Exit → Act → World → Prop}
 (hgd : o.guard = none) (s x : Operand) (t : TypeId) (ho : o.op = .call { callee := .builtin .append, args := #[s, x], argTypes := #[t, t] })
 (e : TypeId) (i : TypeInfo) (ht : P.underlying t = some (.slice e)) (hi : P.info? e = some i) (hz : i.zero = some (.string ⟨#[]⟩)) (hsize : i.size = 1) (hby : i.bytes = 16)
 (base : Nat) (v : Value) (l : List ByteArray) (b : ByteArray) (ad : Addr) (hs : a.eval s = v) (hown : OwnS e w base v l) (hx : a.eval x = .slice (some ad) 1 1) (hc : w.cell? ad = some (.string b))
 (hlen : l.length ≤ 1099511627776) (hbase : base ≤ w.heap.size)
 (h : ∀ v' w', OwnS e w' base v' (l ++ [b]) → Below base w w' → w.grownBy w' v.ownBlock → wpList P ops Q rest (a.put o.dst v') w') : wpList P ops Q (o :: rest) a w := by
 have h63 : l.length + 1 ≤ maxLen := by unfold maxLen; omega
 refine wpList_append_own w hgd s x t ho base e i (.string ⟨#[]⟩) 1 16 ht hi hz hsize hby rfl (by decide) v l.length (strs l) hs hown ad 1 1 [.string b] hx rfl ?_ ?_ h63 (by omega) hbase ?_
 ·intro j u hu
  have hadd : ad.add 0 = ad := by simp [Addr.add]
  match j, hu with
  | 0, hu =>
    simp at hu
    subst hu
    rw [hadd]
    exact hc
 ·intro u hu
  simp at hu
  subst hu
  rfl
 ·intro v' w' h1 h2 _
  refine h v' w' ?_ (OwnS.grown hown h2 hbase) h2
  unfold OwnS
  rw [List.length_append, strs_append]
  exact h1
theorem RdNd.one (w : World) (e : TypeId) (x : Nd) : RdNd (w.heap.size + 1) (w.alloc (.cells (ndc x).toArray e)) (.slice (some ⟨w.heap.size, 0, none⟩) 1 1) [x] := by
 refine ⟨some ⟨w.heap.size, 0, none⟩, 1, rfl, Nat.le_refl _, by decide, fun h => (by cases h), fun a ha => ?_⟩
 cases ha
 refine ⟨fun _ => Nat.lt_succ_self _, fun j u hu => ?_⟩
 rw [nds_one] at hu
 have hb : Blk (w.alloc (.cells (ndc x).toArray e)) w.heap.size (ndc x) e := heap_alloc_new w _
 have hadd : (⟨w.heap.size, 0, none⟩ : Addr).add j = ⟨w.heap.size, j, none⟩ := by unfold Addr.add; split <;> simp_all
 rw [hadd]
 exact (hb.cell j).trans hu
def DropsO (en es : TypeId) (l : List Nd) (g : List (List UInt8)) (w : World) (e : Ending) (w' : World) : Prop :=
 ∃ v u, e = .returned (.tuple #[.agg #[v], u]) ∧ OwnNd en w' w.heap.size v l ∧ OwnS es w' w.heap.size u (bas g) ∧ Below w.heap.size w w'
section
variable {P : Program} (w : World)
end
def ShelvesE (en : TypeId) (v0 : Value) (l : List Nd) (f : Nat) (w : World) (e : Ending) (w' : World) : Prop := ∃ v, e = .returned (.tuple #[.agg #[v], .int .i64 (f : Int)]) ∧ RdNd w'.heap.size w' v l ∧ (v = v0 ∨ OwnNd en w' w.heap.size v l) ∧ Below w.heap.size w w'
theorem create_err (l : List Nd) (p v : List UInt8) (o : Int) (f : Nat) (h : createE l p v o = f) (h0 : f ≠ 0) : createE l p v o = f ∧ createS l p v o = l := by
 refine ⟨h, ?_⟩
 unfold createS
 rw [if_neg (by rw [h]; exact h0)]
theorem create_ok (l : List Nd) (p v : List UInt8) (o : Int) (h : createE l p v o = 0) : createE l p v o = 0 ∧ createS l p v o = insN (p, v, 0, o) l := by
 refine ⟨h, ?_⟩
 unfold createS
 rw [if_pos h]
theorem del_err (l : List Nd) (p : List UInt8) (ver : Int) (f : Nat) (h : delE l p ver = f) (h0 : f ≠ 0) : delE l p ver = f ∧ delS l p ver = l := by
 refine ⟨h, ?_⟩
 unfold delS
 rw [if_neg (by rw [h]; exact h0)]
theorem del_ok (l : List Nd) (p : List UInt8) (ver : Int) (h : delE l p ver = 0) : delE l p ver = 0 ∧ delS l p ver = l.take (placeN l p) ++ l.drop (placeN l p + 1) := by
 refine ⟨h, ?_⟩
 unfold delS
 rw [if_pos h, List.eraseIdx_eq_take_drop_succ]
def rootN : Nd := ([47], [], 0, 0)
theorem shNew_own (w : World) : Calls Tryz.prog 45 #[] w (fun e w' => ∃ v, e = .returned (.agg #[v]) ∧ RdNd w'.heap.size w' v [rootN] ∧ (∀ a n c, v = .slice (some a) n c → w.heap.size ≤ a.block) ∧ Below w.heap.size w w') := by
 obtain ⟨d30, hu30, hd30⟩ := rowPS
 have HU := lhd hu30
 have HD := lhd hd30
 clear hu30 hd30
 go_enter Tryz.func45, Tryz.ntmps45
 go_wp2_with (refine wpList_alloc_blk rfl 41 rfl [.slice none 0 0] zPS ?_)
 intro w1 a1 a2 a3
 obtain ⟨g0, hg0⟩ : ∃ g, w.heap.size = g := ⟨_, rfl⟩
 obtain ⟨G, hG⟩ : ∃ G, w1.heap.size = G := ⟨_, rfl⟩
 have X0 := lhd a1
 have HB := lhd a3
 have hg0G : g0 < G := by omega
 have hwG : w.heap.size ≤ G := by omega
 have R0 : Hid (RdNd (G + 1) (w1.alloc (.cells (ndc rootN).toArray 157)) (.slice (some ⟨G, 0, none⟩) 1 1) [rootN]) := by
  show RdNd _ _ _ _
  have h := RdNd.one w1 157 rootN
  rw [hG] at h
  exact h
 have X1 : Hid (Blk (w1.alloc (.cells (ndc rootN).toArray 157)) g0 [.slice none 0 0] 41) := by
  show Blk _ _ _ _
  rw [← hg0]
  exact X0.out.alloc _
 have HW : Hid (Below G w1 (w1.alloc (.cells (ndc rootN).toArray 157))) := (Below.refl _ _).alloc (by omega) _
 have hsz : (w1.alloc (.cells (ndc rootN).toArray 157)).heap.size = G + 1 := by simp; omega
 have HSZ := lhd hsz
 rw [hg0]
 clear a1 a2 a3 X0 hsz
 go_wp2_with (refine wpList_store_to rfl 41 _ _ rfl g0 [.slice (some ⟨G, 0, none⟩) 1 1] [.slice none 0 0] 41 rfl rfl X1.out sPS rfl (slice_one _ _ _) ?_)
 intro w2 e1 e2 e3 e4
 go_wp2
 refine bodyPost_ret (v := .agg [Value.slice (some ⟨G, 0, none⟩) 1 1].toArray) ?_ rfl ?_
 ·exact ret_blkUL rfl _ _ g0 41 [.slice (some ⟨G, 0, none⟩) 1 1] rfl e1 d30 HU.out HD.out sPS
 ·have hb : Below w.heap.size w w2 := HB.out.trans ((HW.out.mono hwG).trans (e3.mono (by omega)))
  refine ⟨_, rfl, ?_, fun a n c hv => by injection hv with hv; injection hv with hv; subst hv; exact hwG, hb⟩
  obtain ⟨A', c', hv, hc, hm, hn, hr⟩ := R0.out
  refine ⟨A', c', hv, hc, hm, hn, fun a ha => ⟨fun h0 => ?_, fun j u hu => ?_⟩⟩
  ·have := (hr a ha).1 h0
   rw [e2]
   exact this
  ·rw [← (hr a ha).2 j u hu]
   refine World.cell?_of_block (e4 _ ?_)
   have h1 : a = ⟨G, 0, none⟩ := by
    rw [ha] at hv
    injection hv with hv
    injection hv with hv
    exact hv.symm
   rw [h1, addr_block]
   show G ≠ g0
   omega
theorem infoPN : (Tryz.prog.info? 157).map (fun i => (i.zero, i.size, i.bytes)) = some (some ndz, 4, 48) := by kernel_rfl
theorem info_partsPN : ∃ i, Tryz.prog.info? 157 = some i ∧ i.zero = some ndz ∧ i.size = 4 ∧ i.bytes = 48 := by
 have h := infoPN
 cases hi : Tryz.prog.info? 157 with
 | none => rw [hi] at h; simp at h
 | some i =>
   rw [hi] at h
   simp at h
   exact ⟨i, rfl, h.1, h.2.1, h.2.2⟩
theorem shDrop_own (l : List Nd) (z : Int) (v : Value) (w : World) (hr : RdNd w.heap.size w v l) (hl : l.length ≤ 100000) : Calls Tryz.prog 224 #[.agg #[v], .int .i64 z] w (DropsO 157 9 (dropS l z) (goneN l z) w) := by
 obtain ⟨A, cp, rfl, hc, hm⟩ := hr.shape
 unfold maxLen at hm
 obtain ⟨i0, hI, hz0, hz1, hz2⟩ := info_partsStr
 obtain ⟨i1, hJ, hy0, hy1, hy2⟩ := info_partsPN
 obtain ⟨n, hn⟩ : ∃ n, l.length = n := ⟨_, rfl⟩
 have HN := lhd hn
 have HR := lhd hr
 rw [hn] at hc HR hl ⊢
 have HL := lhd hl
 clear hr hn hl
 go_enter Tryz.func224, Tryz.ntmps224
 go_wp2_with (refine wpList_box_blk rfl 41 _ rfl [.slice A n cp] rfl ?_)
 intro w1 b1 b2 b3
 go_wp2_with (refine wpList_alloc_blk rfl 41 rfl [.slice none 0 0] zPS ?_)
 intro w2 a1 a2 a3
 obtain ⟨g0, hg0⟩ : ∃ g, w.heap.size = g := ⟨_, rfl⟩
 obtain ⟨g1, hg1⟩ : ∃ g, w.heap.size + 1 = g := ⟨_, rfl⟩
 obtain ⟨G, hG⟩ : ∃ G, w2.heap.size = G := ⟨_, rfl⟩
 have X0 := lhd (b1.below a3 (by omega))
 have X1 := lhd a1
 have HB := lhd (b3.trans (a3.mono (by omega)))
 have hwG : w.heap.size ≤ G := by omega
 have h0G : g0 < G := by omega
 have h1G : g1 < G := by omega
 have hw1 : w.heap.size ≤ g1 := by omega
 rw [hg1] at X1 ⊢
 rw [hg0] at X0 ⊢
 have ca := X0.out.cell 0
 clear b1 b2 b3 a1 a2 a3 hg1
 have HG := lhd hG
 go_wp2
 go_loopw [6, 7, 13] (fun o u x wr => ∃ i : Nat, i ≤ n ∧ x = .int .i64 (i : Int) ∧ Hid (OwnNd 157 wr G o (dropS (l.take i) z)) ∧ Hid (OwnS 9 wr G u (bas (goneN (l.take i) z))) ∧ Hid (Below G w2 wr)) (fun _ _ x _ => n - (intOf x).toNat)
 case atStart => exact ⟨0, by omega, rfl, OwnNd.nil _ _ _, OwnS.nil _ _ _, Below.refl _ _⟩
 case round =>
  obtain ⟨i, hi, rfl, HO, HS, HW⟩ := hrel
  have hwr := HW.out.size
  rw [hG] at hwr
  clear ca
  have ca := (X0.out.below HW.out h0G).cell 0
  by_cases hi2 : i < n
  ·have zi : (i : Int) < (n : Int) := by omega
   obtain ⟨a, hA, c0, c1, c2, c3⟩ := (HR.out.below (HB.out.trans (HW.out.mono hwG))).at_ i (by rw [HN.out]; exact hi2)
   subst hA
   have HT := lhd (dropS_snoc l z i (by rw [HN.out]; exact hi2))
   have HKL := lhd (Nat.le_trans (dropS_len (l.take i) z) (List.length_take_le i l))
   have HGL := lhd (Nat.le_trans (goneN_len (l.take i) z) (List.length_take_le i l))
   obtain ⟨x, hx⟩ : ∃ x, l.getD i nd0 = x := ⟨_, rfl⟩
   rw [hx] at c0 c1 c2 c3 HT
   clear hx
   go_wp2_with (refine wpList_alloc_blk rfl 157 rfl (ndc nd0) zPN ?_)
   intro wa a1 a2 a3
   obtain ⟨gA, hgA⟩ : ∃ g, wr.heap.size = g := ⟨_, rfl⟩
   have A1 := lhd a1
   have HOa := lhd (HO.out.below a3 (Nat.le_refl _))
   have HSa := lhd (HS.out.below a3 (Nat.le_refl _))
   have HWa := lhd (HW.out.trans (a3.mono hwr))
   have hne := World.ownsRow.lt HO.out
   have hnf := World.ownsRow.lt HS.out
   rw [hgA] at A1 hwr hne hnf ⊢
   have HNE := lhd hne
   have HNF := lhd hnf
   clear a1 a3 HO HS HW c0 c1 c2 c3 ca hgA hne hnf
   go_wp2_with (refine wpList_store_to rfl 157 _ _ rfl gA (ndc x) (ndc nd0) 157 rfl rfl A1.out sPN rfl (ndc_one _) ?_)
   intro wb e1 e2 e3 e4
   have HO : Hid (OwnNd 157 wb G u6 (dropS (l.take i) z)) := by
    refine ownsRow_but HOa.out (fun e => ?_) e4
    have := (HNE.out gA e).2
    omega
   have HS : Hid (OwnS 9 wb G u7 (bas (goneN (l.take i) z))) := by
    refine ownsRow_but HSa.out (fun e => ?_) e4
    have := (HNF.out gA e).2
    omega
   have HW := lhd (HWa.out.trans (e3.mono hwr))
   have d0 := e1.at_ 0 _ rfl
   have d1 := e1.at_ 1 _ rfl
   have d2 := e1.at_ 2 _ rfl
   have d3 := e1.at_ 3 _ rfl
   have hsb : gA < wb.heap.size := e1.lt
   have hGb : G ≤ wb.heap.size := by omega
   clear e1 e2 e3 e4 a2 A1 HOa HSa HWa
   cases ho : ownB z x
   ·have HT2 : Hid (dropS (l.take (i + 1)) z = dropS (l.take i) z ++ [x] ∧ goneN (l.take (i + 1)) z = goneN (l.take i) z) := by
     show _ ∧ _
     rw [HT.out.1, HT.out.2, ho]; simp
    have HO4 : Hid (OwnNd 157 (wb.alloc (.cells (ndc x).toArray 157)) G u6 (dropS (l.take i) z)) := HO.out.alloc _
    have HS4 : Hid (OwnS 9 (wb.alloc (.cells (ndc x).toArray 157)) G u7 (bas (goneN (l.take i) z))) := HS.out.alloc _
    have HW4 : Hid (Below G w2 (wb.alloc (.cells (ndc x).toArray 157))) := HW.out.alloc hGb _
    have HF : Hid ((0 < z ∧ ((nO x == z) = false)) ∨ ¬ 0 < z) := by
     show _ ∨ _
     unfold ownB at ho
     by_cases hz : 0 < z
     ·left
      simp [hz] at ho
      exact ⟨hz, by simpa using ho⟩
     ·exact .inr hz
    clear ho
    rcases HF.out with ⟨hz, hzo⟩ | hz
    all_goals
     go_wp2_with (at_builtin; refine wpList_appNd rfl _ _ 39 rfl 157 i1 Tryz.underlying39 hJ hy0 hy1 hy2 G _ _ _ (dropS (l.take i) z) [x] rfl HO4.out rfl (RdNd.one wb 157 x) ?d1 ?d2 ?_)
     case d1 => have := HKL.out; have := HL.out; simp; omega
     case d2 => first | omega | (simp; omega)
     intro v5 w5 h5 hb5 hg5
     have HO5 : Hid (OwnNd 157 w5 G v5 (dropS (l.take (i + 1)) z)) := by
      show OwnNd _ _ _ _ _
      rw [HT2.out.1]
      exact h5
     have HS5 : Hid (OwnS 9 w5 G u7 (bas (goneN (l.take (i + 1)) z))) := by
      show OwnS _ _ _ _ _
      rw [HT2.out.2]
      exact ownsRow_other (by decide) HS4.out HO4.out hg5
     have HW5 : Hid (Below G w2 w5) := HW4.out.trans hb5
     clear h5 hb5 hg5
     go_wp2
     go_roundw
     case rel => exact ⟨i + 1, by omega, by go_num, HO5, HS5, HW5⟩
     case measure => simp [intOf]; omega
   ·have HT2 : Hid (dropS (l.take (i + 1)) z = dropS (l.take i) z ∧ goneN (l.take (i + 1)) z = goneN (l.take i) z ++ [nP x]) := by
     show _ ∧ _
     rw [HT.out.1, HT.out.2, ho]; simp
    have HO4 : Hid (OwnNd 157 (wb.alloc (.cells #[.string ⟨(nP x).toArray⟩] 9)) G u6 (dropS (l.take i) z)) := HO.out.alloc _
    have HS4 : Hid (OwnS 9 (wb.alloc (.cells #[.string ⟨(nP x).toArray⟩] 9)) G u7 (bas (goneN (l.take i) z))) := HS.out.alloc _
    have HW4 : Hid (Below G w2 (wb.alloc (.cells #[.string ⟨(nP x).toArray⟩] 9))) := HW.out.alloc hGb _
    unfold ownB at ho
    simp only [Bool.and_eq_true, decide_eq_true_eq] at ho
    obtain ⟨hz, hzo⟩ := ho
    rw [hzo] at d3
    have hzz : (z == z) = true := by simp
    clear hzo
    go_wp2_with (at_builtin; refine wpList_app1Sg rfl _ _ 77 rfl 9 i0 Tryz.underlying77 hI hz0 hz1 hz2 G _ (bas (goneN (l.take i) z)) ⟨(nP x).toArray⟩ ⟨wb.heap.size, 0, none⟩ rfl HS4.out rfl ?d1 ?d2 ?d3 ?_)
    case d1 => simp
    case d2 => rw [bas_length]; have := HGL.out; have := HL.out; omega
    case d3 => simp; omega
    intro v5 w5 h5 hb5 hg5
    rw [← bas_snoc] at h5
    have HS5 : Hid (OwnS 9 w5 G v5 (bas (goneN (l.take (i + 1)) z))) := by
     show OwnS _ _ _ _ _
     rw [HT2.out.2]
     exact h5
    have HO5 : Hid (OwnNd 157 w5 G u6 (dropS (l.take (i + 1)) z)) := by
     show OwnNd _ _ _ _ _
     rw [HT2.out.1]
     exact ownsRow_other (by decide) HO4.out HS4.out hg5
    have HW5 : Hid (Below G w2 w5) := HW4.out.trans hb5
    clear h5 hb5 hg5
    go_wp2
    go_roundw
    case rel => exact ⟨i + 1, by omega, by go_num, HO5, HS5, HW5⟩
    case measure => simp [intOf]; omega
  ·have hE : i = n := by omega
   subst hE
   have HF : Hid (l.take i = l) := List.take_of_length_le (by rw [HN.out]; exact Nat.le_refl _)
   rw [HF.out] at HO HS
   obtain ⟨Ao, co, ho, hoc, -⟩ := HO.out.rd.shape
   subst ho
   have X1r := lhd (X1.out.below HW.out h1G)
   obtain ⟨d30, hu30, hd30⟩ := rowPS
   have HU := lhd hu30
   have HD := lhd hd30
   clear hu30 hd30
   go_wp2_with (refine wpList_store_to rfl 41 _ _ rfl g1 [.slice Ao (dropS l z).length co] [.slice none 0 0] 41 rfl rfl X1r.out sPS rfl ?_ ?_)
   ·exact slice_one _ _ _
   ·intro w5 e1 e2 e3 e4
    go_wp2
    refine bodyPost_ret (v := .tuple #[.agg [Value.slice Ao (dropS l z).length co].toArray, u7]) ?_ rfl ?_
    ·exact ret_blk2U rfl _ _ g1 41 [.slice Ao (dropS l z).length co] _ rfl rfl e1 d30 HU.out HD.out sPS
    ·have hO : ∀ k, G ≤ k → w5.heap[k]? = wr.heap[k]? := fun k hk => e4 k (by omega)
     exact ⟨_, _, rfl, OwnNd.base (ownsRow_same HO.out hO) hwG, OwnS.base (ownsRow_same HS.out hO) hwG, HB.out.trans ((HW.out.mono hwG).trans (e3.mono hw1))⟩
end Go.Proofs.YtgfobinklijkpaaGreatDoor
