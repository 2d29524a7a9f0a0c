/-
  Texts G1 G2 H6 H7 H8 H9 HB HC HD HE HF G4 G3 G5 G6.
-/
import Derived.Test.YtgfobinklijkpaaGreatDoorX01
import Derived.Shelf.Abstract
import Derived.Laws.StructEq
import Derived.Lib.Strings
import Derived.Test.YtgfobinklijkpaaGreatDoorX07
import Derived.Test.YtgfobinklijkpaaGreatDoorX08
import Derived.Test.YtgfobinklijkpaaGreatDoorX24
namespace Go.Proofs.YtgfobinklijkpaaGreatDoor
set_option maxRecDepth 100000
set_option maxHeartbeats 16000000
open Go.RowKit
def firstI (l : List Nd) (q : Nd → Bool) : Int := if l.findIdx q < l.length then (l.findIdx q : Int) else -1
theorem findIdx_here (q : Nd → Bool) : ∀ (l : List Nd) (i : Nat), i < l.length → q (l.getD i nd0) = true → (∀ j, j < i → q (l.getD j nd0) = false) → l.findIdx q = i
 | [], i, h, _, _ => by simp at h
 | x :: r, 0, _, h1, _ => by
   have : q x = true := by simpa using h1
   simp [List.findIdx_cons, this]
 | x :: r, i + 1, h, h1, h2 => by
   have h0 : q x = false := by simpa using h2 0 (by omega)
   rw [List.findIdx_cons, h0]
   have := findIdx_here q r i (by simpa using h) (by simpa using h1) (fun j hj => by simpa using h2 (j + 1) (by omega))
   simp [this]
theorem findIdx_none (q : Nd → Bool) : ∀ (l : List Nd), (∀ j, j < l.length → q (l.getD j nd0) = false) → l.findIdx q = l.length
 | [], _ => rfl
 | x :: r, h => by
   have h0 : q x = false := by simpa using h 0 (by simp)
   rw [List.findIdx_cons, h0]
   have := findIdx_none q r (fun j hj => by simpa using h (j + 1) (by simpa using hj))
   simp [this]
theorem firstI_here (l : List Nd) (q : Nd → Bool) (i : Nat) (hi : i < l.length) (h : q (l.getD i nd0) = true) (hf : ∀ j, j < i → q (l.getD j nd0) = false) : firstI l q = (i : Int) := by
 unfold firstI
 rw [findIdx_here q l i hi h hf, if_pos hi]
theorem firstI_none (l : List Nd) (q : Nd → Bool) (h : ∀ j, j < l.length → q (l.getD j nd0) = false) : firstI l q = -1 := by
 unfold firstI
 rw [findIdx_none q l h, if_neg (by omega)]
theorem placeN_find (p : List UInt8) : ∀ l : List Nd, placeN l p = l.findIdx fun x => nP x == p
 | [] => rfl
 | x :: r => by
   unfold placeN
   rw [List.findIdx_cons]
   by_cases h : nP x = p
   ·rw [if_pos h]; simp [h]
   ·rw [if_neg h, placeN_find p r]
    have : (nP x == p) = false := by simpa using h
    rw [this]; rfl
theorem firstI_at (l : List Nd) (p : List UInt8) : firstI l (fun x => nP x == p) = atI l p := by
 unfold firstI atI hasN
 rw [placeN_find p l]
 by_cases h : (l.findIdx fun x => nP x == p) < l.length
 ·rw [if_pos h, if_pos (by simpa using h)]
 ·rw [if_neg h, if_neg (by simpa using h)]
theorem ixFunc_any (l : List Nd) (v : Value) (f : Nat) (lb : Array Value) (q : Nd → Bool) (w : World) (hr : RdNd w.heap.size w v l) (ef : ∀ args w, (callFunc f args).run Tryz.prog w = .ok (.enter f args) w)
 (hp : ∀ x W, Below w.heap.size w W → Calls Tryz.prog f (#[ndv x] ++ lb) W (One (.bool (q x)) W)) :
 Calls Tryz.prog 238 #[v, .func (.func f) #[] lb] w (One (.int .i64 (firstI l q)) w) := by
 obtain ⟨A, cp, rfl, hc, hm⟩ := hr.shape
 unfold maxLen at hm
 obtain ⟨n, hn⟩ : ∃ n, l.length = n := ⟨_, rfl⟩
 have HN := lhd hn
 have HR := lhd hr
 have HP := lhd hp
 rw [hn] at hc HR ⊢
 clear hr hn hp
 obtain ⟨g, hg⟩ : ∃ g, w.heap.size = g := ⟨_, rfl⟩
 have HG := lhd hg
 go_enter Tryz.func238, Tryz.ntmps238
 go_wp2
 go_loopw [5, 8] (fun o x wr => ∃ i : Nat, i ≤ n ∧ x = .int .i64 (i : Int) ∧ Hid (∀ j, j < i → q (l.getD j nd0) = false) ∧ Hid (Below g w wr)) (fun _ x _ => n - (intOf x).toNat)
 case atStart => exact ⟨0, by omega, rfl, (fun j hj => by omega), Below.refl _ _⟩
 case round =>
  obtain ⟨i, hi, rfl, HA, HW⟩ := hrel
  by_cases hi2 : i < n
  ·have zi : (i : Int) < (n : Int) := by omega
   obtain ⟨a, hA, c0, c1, c2, c3⟩ := (HR.out.below (by rw [HG.out]; exact HW.out)).at_ i (by rw [HN.out]; exact hi2)
   subst hA
   obtain ⟨x, hx⟩ : ∃ x, l.getD i nd0 = x := ⟨_, rfl⟩
   rw [hx] at c0 c1 c2 c3
   have HX := lhd hx
   clear hx
   go_wp2_with fail
   refine (HP.out x wr (by rw [HG.out]; exact HW.out)).mono ?_
   rintro e w2 ⟨rfl, hb⟩
   have hsz := HW.out.size
   have HW2 := lhd (HW.out.trans (hb.mono (by rw [HG.out] at hsz; omega)))
   clear hb c0 c1 c2 c3
   cases hq : q x
   ·have HA2 : Hid (∀ j, j < i + 1 → q (l.getD j nd0) = false) := by
     intro j hj
     by_cases h : j < i
     ·exact HA.out j h
     ·have : j = i := by omega
      subst this
      rw [HX.out]; exact hq
    clear hq
    go_wp2
    go_roundw
    case rel => exact ⟨i + 1, by omega, by go_num, HA2, HW2⟩
    case measure => simp [intOf]; omega
   ·have HE := lhd (firstI_here l q i (by rw [HN.out]; exact hi2) (by rw [HX.out]; exact hq) HA.out)
    clear hq
    go_wp2
    go_ret
    exact ⟨by rw [HE.out]; rfl, by rw [HG.out]; exact HW2.out⟩
  ·have hE : i = n := by omega
   subst hE
   have HE := lhd (firstI_none l q (by rw [HN.out]; exact HA.out))
   go_wp2
   go_ret
   exact ⟨by rw [HE.out]; rfl, by rw [HG.out]; exact HW.out⟩
theorem ixFn_any (x : Nd) (p : List UInt8) (g : Nat) (w : World) (hg : g < w.heap.size) (hc : w.cell? ⟨g, 0, none⟩ = some (txt p)) : Calls Tryz.prog 239 #[ndv x, .pointer (some ⟨g, 0, none⟩)] w (One (.bool (nP x == p)) w) := by
 obtain ⟨a, b, c, d⟩ := x
 show Calls Tryz.prog _ #[.agg #[txt a, txt b, .int .i64 c, .int .i64 d], _] w (One (.bool (a == p)) w)
 go_enter Tryz.func239, Tryz.ntmps239
 go_wp2_with (refine wpList_box_blk rfl 157 _ rfl [txt a, txt b, .int .i64 c, .int .i64 d] rfl ?_)
 intro w1 b1 b2 b3
 have HB := lhd b3
 have c0 := b1.cell 0
 have c1 : w1.cell? ⟨g, 0, none⟩ = some (txt p) := (b3.cell hg).trans hc
 obtain ⟨k, hk⟩ : ∃ k, w.heap.size = k := ⟨_, rfl⟩
 rw [hk] at c0 ⊢
 clear b1 b2 b3 hk hc hg
 obtain ⟨B, hB⟩ : ∃ B, (a == p) = B := ⟨_, rfl⟩
 have HF := lhd hB
 go_wp2
 go_ret
 exact ⟨by rw [HF.out]; rfl, HB.out⟩
theorem shIndex_any (l : List Nd) (p : List UInt8) (v : Value) (w : World) (hr : RdNd w.heap.size w v l) : Calls Tryz.prog 210 #[v, txt p] w (One (.int .i64 (atI l p)) w) := by
 have hmf : ∀ (fn : Fn) (first cap : Array Value) (w : World), (Instr.makeFunc fn first cap).run Tryz.prog w = .ok (.func fn first cap) w := fun _ _ _ _ => rfl
 have ef : ∀ args w, (callFunc 239 args).run Tryz.prog w = .ok (.enter 239 args) w := fun args w => enters_of Tryz.func239 (by kernel_rfl) rfl args w
 have HR := lhd hr
 have HE := lhd ef
 clear hr ef
 go_enter Tryz.func210, Tryz.ntmps210
 go_wp2_with (refine wpList_box_one rfl 9 _ rfl (txt p) rfl rfl ?_)
 intro w1 b1 b2 b3
 have HB := lhd b3
 have c0 := lhd (b1.cell 0)
 have hk1 : w.heap.size < w1.heap.size := by omega
 have HR1 := lhd ((HR.out.below b3).more (show w.heap.size ≤ w1.heap.size by omega))
 obtain ⟨k, hk⟩ : ∃ k, w.heap.size = k := ⟨_, rfl⟩
 have HK := lhd hk
 rw [hk] at c0 hk1 ⊢
 clear b1 b2 b3 hk HR
 go_wp2_with fail
 refine (ixFunc_any l v 239 #[.pointer (some ⟨k, 0, none⟩)] (fun x => nP x == p) w1 HR1.out HE.out (fun x W hW => ixFn_any x p k W (Nat.lt_of_lt_of_le hk1 hW.size) ((hW.cell hk1).trans c0.out))).mono ?_
 rintro e w2 ⟨rfl, hb⟩
 have HB2 := lhd (HB.out.trans (hb.mono (by rw [HK.out]; omega)))
 clear hb
 rw [firstI_at]
 go_wp2
 go_ret
 exact ⟨rfl, by rw [HK.out] at *; exact HB2.out⟩
theorem rowPN : ∃ d, Tryz.prog.underlying 157 = some d ∧ d.isRow = true := ⟨_, Tryz.underlying157, rfl⟩
theorem sPN : (Tryz.prog.info? 157).map (·.size) = some 4 := by kernel_rfl
theorem zPN : (Tryz.prog.info? 157).map (·.zero) = some (some (.agg (ndc nd0).toArray)) := by kernel_rfl
theorem rowPS : ∃ d, Tryz.prog.underlying 41 = some d ∧ d.isRow = true := ⟨_, Tryz.underlying41, rfl⟩
theorem sPS : (Tryz.prog.info? 41).map (·.size) = some 1 := by kernel_rfl
theorem zPS : (Tryz.prog.info? 41).map (·.zero) = some (some (.agg [Value.slice none 0 0].toArray)) := by kernel_rfl
theorem shGet_any (l : List Nd) (p : List UInt8) (v : Value) (w : World) (hr : RdNd w.heap.size w v l) : Calls Tryz.prog 178 #[.agg #[v], txt p] w (Gets (getS l p) (getE l p) w) := by
 obtain ⟨A, cp, rfl, hc, hm⟩ := hr.shape
 unfold maxLen at hm
 obtain ⟨n, hn⟩ : ∃ n, l.length = n := ⟨_, rfl⟩
 have HN := lhd hn
 have HR := lhd hr
 rw [hn] at hc HR ⊢
 clear hr hn
 obtain ⟨d56, hu56, hd56⟩ := rowPN
 have HU := lhd hu56
 have HD := lhd hd56
 clear hu56 hd56
 go_enter Tryz.func178, Tryz.ntmps178
 go_wp2_with (refine wpList_box_blk rfl 41 _ rfl [.slice A n cp] rfl ?_)
 intro w1 b1 b2 b3
 go_wp2_with (refine wpList_alloc_blk rfl 157 rfl (ndc nd0) zPN ?_)
 intro w2 a1 a2 a3
 obtain ⟨g0, hg0⟩ : ∃ g, w.heap.size = g := ⟨_, rfl⟩
 obtain ⟨g1, hg1⟩ : ∃ g, w.heap.size + 1 = g := ⟨_, rfl⟩
 have hg01 : g0 < g1 := by omega
 have hw2 : w.heap.size ≤ w2.heap.size := by omega
 have hg2 : g1 < w2.heap.size := by omega
 have X0 := lhd (b1.below a3 (by omega))
 have X1 := lhd a1
 have HB := lhd (b3.trans (a3.mono (by omega)))
 have HR2 := lhd (HR.out.below HB.out)
 rw [hg1] at X1 ⊢
 rw [hg0] at X0 ⊢
 clear b1 b2 b3 a1 a2 a3 HR hg1
 go_wp2_with fail
 refine (pxRight_any p w2).mono ?_
 rintro e w3 ⟨rfl, hb⟩
 have hs3 := hb.size
 have Y0 := lhd (X0.out.below hb (by omega))
 have Y1 := lhd (X1.out.below hb (by omega))
 have HB3 := lhd (HB.out.trans (hb.mono (by omega)))
 have HR3 := lhd ((HR2.out.below (hb.mono hw2)).more (show w.heap.size ≤ w3.heap.size by omega))
 clear hb X0 X1 HB HR2
 cases hR : rightB p
 ·have HG := lhd (get_not l p hR)
  clear hR
  go_wp2_with (refine wpList_store_blk rfl 157 _ _ rfl g1 (ndc nd0) (ndc nd0) 157 rfl rfl Y1.out sPN rfl (ndc_one _) ?_)
  refine bodyPost_ret (v := .tuple #[.agg (ndc nd0).toArray, .int .i64 13]) ?_ rfl ?_
  ·exact ret_blk2U rfl _ _ g1 157 (ndc nd0) _ rfl rfl Y1.out.setRow d56 HU.out HD.out sPN
  ·rw [HG.out.1, HG.out.2]
   exact ⟨rfl, below_setRow' HB3.out (by omega) _⟩
 ·have HR4 := lhd hR
  have cs := Y0.out.cell 0
  clear hR
  go_wp2_with fail
  refine (shIndex_any l p _ w3 HR3.out).mono ?_
  rintro e w4 ⟨rfl, hb⟩
  have hs4 := hb.size
  have Z0 := lhd (Y0.out.below hb (by omega))
  have Z1 := lhd (Y1.out.below hb (by omega))
  have HB4 := lhd (HB3.out.trans (hb.mono (by omega)))
  have HR5 := lhd (HR3.out.below hb)
  clear hb Y0 Y1 HB3 HR3 cs
  rcases atI_or l p with ⟨h1, h2, h3⟩ | ⟨h1, h2⟩
  ·have HG := lhd (get_yes l p HR4.out h1)
   rw [h2]
   obtain ⟨i, hi⟩ : ∃ i, placeN l p = i := ⟨_, rfl⟩
   rw [hi] at HG h3 ⊢
   rw [HN.out] at h3
   have zi : (i : Int) < (n : Int) := by omega
   obtain ⟨a, hA, c0, c1, c2, c3⟩ := HR5.out.at_ i (by rw [HN.out]; exact h3)
   subst hA
   obtain ⟨x, hx⟩ : ∃ x, l.getD i nd0 = x := ⟨_, rfl⟩
   rw [hx] at c0 c1 c2 c3 HG
   have cs := Z0.out.cell 0
   clear h1 h2 hi hx HR5 HR4
   go_wp2_with (refine wpList_store_blk rfl 157 _ _ rfl g1 (ndc x) (ndc nd0) 157 rfl rfl Z1.out sPN rfl (ndc_one _) ?_)
   refine bodyPost_ret (v := .tuple #[.agg (ndc x).toArray, .int .i64 0]) ?_ rfl ?_
   ·exact ret_blk2U rfl _ _ g1 157 (ndc x) _ rfl rfl Z1.out.setRow d56 HU.out HD.out sPN
   ·rw [HG.out.1, HG.out.2]
    exact ⟨rfl, below_setRow' HB4.out (by omega) _⟩
  ·have HG := lhd (get_none l p HR4.out h1)
   rw [h2]
   clear h1 h2 HR5 HR4
   go_wp2_with (refine wpList_store_blk rfl 157 _ _ rfl g1 (ndc nd0) (ndc nd0) 157 rfl rfl Z1.out sPN rfl (ndc_one _) ?_)
   refine bodyPost_ret (v := .tuple #[.agg (ndc nd0).toArray, .int .i64 6]) ?_ rfl ?_
   ·exact ret_blk2U rfl _ _ g1 157 (ndc nd0) _ rfl rfl Z1.out.setRow d56 HU.out HD.out sPN
   ·rw [HG.out.1, HG.out.2]
    exact ⟨rfl, below_setRow' HB4.out (by omega) _⟩
theorem RdNd.one (w : World) (e : TypeId) (x : Nd) : RdNd (w.heap.size + 1) (w.alloc (.cells (ndc x).toArray e)) (.slice (some ⟨w.heap.size, 0, none⟩) 1 1) [x] := by
 refine ⟨some ⟨w.heap.size, 0, none⟩, 1, rfl, Nat.le_refl _, by decide, fun h => (by cases h), fun a ha => ?_⟩
 cases ha
 refine ⟨fun _ => Nat.lt_succ_self _, fun j u hu => ?_⟩
 rw [nds_one] at hu
 have hb : Blk (w.alloc (.cells (ndc x).toArray e)) w.heap.size (ndc x) e := heap_alloc_new w _
 have hadd : (⟨w.heap.size, 0, none⟩ : Addr).add j = ⟨w.heap.size, j, none⟩ := by unfold Addr.add; split <;> simp_all
 rw [hadd]
 exact (hb.cell j).trans hu
section
variable {P : Program} (w : World)
end
def ShelvesE (en : TypeId) (v0 : Value) (l : List Nd) (f : Nat) (w : World) (e : Ending) (w' : World) : Prop := ∃ v, e = .returned (.tuple #[.agg #[v], .int .i64 (f : Int)]) ∧ RdNd w'.heap.size w' v l ∧ (v = v0 ∨ OwnNd en w' w.heap.size v l) ∧ Below w.heap.size w w'
theorem create_err (l : List Nd) (p v : List UInt8) (o : Int) (f : Nat) (h : createE l p v o = f) (h0 : f ≠ 0) : createE l p v o = f ∧ createS l p v o = l := by
 refine ⟨h, ?_⟩
 unfold createS
 rw [if_neg (by rw [h]; exact h0)]
theorem create_ok (l : List Nd) (p v : List UInt8) (o : Int) (h : createE l p v o = 0) : createE l p v o = 0 ∧ createS l p v o = insN (p, v, 0, o) l := by
 refine ⟨h, ?_⟩
 unfold createS
 rw [if_pos h]
def CrSt (G gN : Nat) (w0 wr : World) (o : Value) (out : List Nd) (nd : Nd) : Prop :=
 OwnNd 173 wr G o out ∧ Blk wr gN (ndc nd) 173 ∧ o.ownBlock ≠ some gN ∧ Below G w0 wr ∧ G ≤ wr.heap.size
theorem CrSt.below {G gN : Nat} {w0 wr w' : World} {o : Value} {out : List Nd} {nd : Nd} (h : CrSt G gN w0 wr o out nd) (hb : Below wr.heap.size wr w') : CrSt G gN w0 w' o out nd := by
 obtain ⟨h1, h2, h3, h4, h5⟩ := h
 exact ⟨h1.below hb (Nat.le_refl _), h2.below hb h2.lt, h3, h4.trans (hb.mono h5), Nat.le_trans h5 hb.size⟩
theorem RdNd.take {B : Nat} {w : World} {A : Option Addr} {n c : Nat} {l : List Nd} (h : RdNd B w (.slice A n c) l) (k : Nat) (hk : k ≤ n) : RdNd B w (.slice A k c) (l.take k) := by
 obtain ⟨A', c', hv, hc, hm, hn, hr⟩ := h
 injection hv with h1 h2 h3
 subst h1 h2 h3
 have hl : (l.take k).length = k := by simp; omega
 refine ⟨A, c, by rw [hl], by rw [hl]; omega, hm, hn, fun a ha => ⟨fun h0 => (hr a ha).1 (by omega), fun j u hu => (hr a ha).2 j u ?_⟩⟩
 have e : nds l = nds (l.take k) ++ nds (l.drop k) := by rw [← nds_append, List.take_append_drop]
 have hj := (List.getElem?_eq_some_iff.1 hu).1
 rw [e, List.getElem?_append_left hj]
 exact hu
theorem RdNd.drop {B : Nat} {w : World} {a : Addr} {n c : Nat} {l : List Nd} (h : RdNd B w (.slice (some a) n c) l) (k : Nat) (hk : k ≤ n) : RdNd B w (.slice (if c = k then some a else some (a.add (k * 4))) (n - k) (c - k)) (l.drop k) := by
 obtain ⟨A', c', hv, hc, hm, hn, hr⟩ := h
 injection hv with h1 h2 h3
 subst h1 h2 h3
 have hl : (l.drop k).length = l.length - k := List.length_drop
 refine ⟨_, c - k, by rw [hl], by omega, by omega, fun hnone => ?_, fun x hx => ⟨fun h0 => ?_, fun j u hu => ?_⟩⟩
 ·split at hnone <;> cases hnone
 ·have h1 := (hr a rfl).1 (by rw [hl] at h0; omega)
  split at hx
  ·injection hx with hx; rw [← hx]; exact h1
  ·injection hx with hx; rw [← hx, addr_block]; exact h1
 ·have hj := (List.getElem?_eq_some_iff.1 hu).1
  rw [nds_length, hl] at hj
  split at hx
  ·omega
  ·injection hx with hx
   rw [← hx, Addr.add_add, show k * 4 = 4 * k from Nat.mul_comm _ _]
   refine (hr a rfl).2 (4 * k + j) u ?_
   have e : nds l = nds (l.take k) ++ nds (l.drop k) := by rw [← nds_append, List.take_append_drop]
   have e2 : (nds (l.take k)).length = 4 * k := by rw [nds_length]; simp; omega
   rw [e, List.getElem?_append_right (by omega), e2, Nat.add_sub_cancel_left]
   exact hu
def rootN : Nd := ([47], [], 0, 0)
theorem shNew_own (w : World) : Calls Tryz.prog 45 #[] w (fun e w' => ∃ v, e = .returned (.agg #[v]) ∧ RdNd w'.heap.size w' v [rootN] ∧ (∀ a n c, v = .slice (some a) n c → w.heap.size ≤ a.block) ∧ Below w.heap.size w w') := by
 obtain ⟨d30, hu30, hd30⟩ := rowPS
 have HU := lhd hu30
 have HD := lhd hd30
 clear hu30 hd30
 go_enter Tryz.func45, Tryz.ntmps45
 go_wp2_with (refine wpList_alloc_blk rfl 41 rfl [.slice none 0 0] zPS ?_)
 intro w1 a1 a2 a3
 obtain ⟨g0, hg0⟩ : ∃ g, w.heap.size = g := ⟨_, rfl⟩
 obtain ⟨G, hG⟩ : ∃ G, w1.heap.size = G := ⟨_, rfl⟩
 have X0 := lhd a1
 have HB := lhd a3
 have hg0G : g0 < G := by omega
 have hwG : w.heap.size ≤ G := by omega
 have R0 : Hid (RdNd (G + 1) (w1.alloc (.cells (ndc rootN).toArray 157)) (.slice (some ⟨G, 0, none⟩) 1 1) [rootN]) := by
  show RdNd _ _ _ _
  have h := RdNd.one w1 157 rootN
  rw [hG] at h
  exact h
 have X1 : Hid (Blk (w1.alloc (.cells (ndc rootN).toArray 157)) g0 [.slice none 0 0] 41) := by
  show Blk _ _ _ _
  rw [← hg0]
  exact X0.out.alloc _
 have HW : Hid (Below G w1 (w1.alloc (.cells (ndc rootN).toArray 157))) := (Below.refl _ _).alloc (by omega) _
 have hsz : (w1.alloc (.cells (ndc rootN).toArray 157)).heap.size = G + 1 := by simp; omega
 have HSZ := lhd hsz
 rw [hg0]
 clear a1 a2 a3 X0 hsz
 go_wp2_with (refine wpList_store_to rfl 41 _ _ rfl g0 [.slice (some ⟨G, 0, none⟩) 1 1] [.slice none 0 0] 41 rfl rfl X1.out sPS rfl (slice_one _ _ _) ?_)
 intro w2 e1 e2 e3 e4
 go_wp2
 refine bodyPost_ret (v := .agg [Value.slice (some ⟨G, 0, none⟩) 1 1].toArray) ?_ rfl ?_
 ·exact ret_blkUL rfl _ _ g0 41 [.slice (some ⟨G, 0, none⟩) 1 1] rfl e1 d30 HU.out HD.out sPS
 ·have hb : Below w.heap.size w w2 := HB.out.trans ((HW.out.mono hwG).trans (e3.mono (by omega)))
  refine ⟨_, rfl, ?_, fun a n c hv => by injection hv with hv; injection hv with hv; subst hv; exact hwG, hb⟩
  obtain ⟨A', c', hv, hc, hm, hn, hr⟩ := R0.out
  refine ⟨A', c', hv, hc, hm, hn, fun a ha => ⟨fun h0 => ?_, fun j u hu => ?_⟩⟩
  ·have := (hr a ha).1 h0
   rw [e2]
   exact this
  ·rw [← (hr a ha).2 j u hu]
   refine World.cell?_of_block (e4 _ ?_)
   have h1 : a = ⟨G, 0, none⟩ := by
    rw [ha] at hv
    injection hv with hv
    injection hv with hv
    exact hv.symm
   rw [h1, addr_block]
   show G ≠ g0
   omega
theorem infoPN : (Tryz.prog.info? 157).map (fun i => (i.zero, i.size, i.bytes)) = some (some ndz, 4, 48) := by kernel_rfl
theorem info_partsPN : ∃ i, Tryz.prog.info? 157 = some i ∧ i.zero = some ndz ∧ i.size = 4 ∧ i.bytes = 48 := by
 have h := infoPN
 cases hi : Tryz.prog.info? 157 with
 | none => rw [hi] at h; simp at h
 | some i =>
   rw [hi] at h
   simp at h
   exact ⟨i, rfl, h.1, h.2.1, h.2.2⟩
def vacE (l : List Nd) (p : List UInt8) : Nat :=
 if getE l p = 0 then 7 else if getE l p ≠ 6 then getE l p else if parentE p ≠ 0 then parentE p else if getE l (parentS p) ≠ 0 then getE l (parentS p) else if nO (getS l (parentS p)) ≠ 0 then 10 else 0
def crF (l : List Nd) (p v : List UInt8) (o : Int) : Nat := if vacE l p ≠ 0 then vacE l p else if 1000 < v.length then 5 else if o < 0 then 1 else if 200 ≤ l.length then 9 else 0
theorem root_in (l : List Nd) (h : rightN l = true) : hasN l [47] = true := by
 have h2 := (rightN_iff l).1 h
 rw [hasN_iff]
 cases l with
 | nil => exact absurd rfl h2.some
 | cons x r => exact ⟨x, by simp, by simpa using h2.root⟩
theorem parent_up (p : List UInt8) (h : rightB p = true) (h2 : p ≠ [47]) : parentE p = 0 ∧ rightB (parentS p) = true ∧ aheadB (parentS p) p = true := by
 have hc : cutL p ≠ [] := fun e => h2 ((cut_root p (right_slash p h)).1 e)
 obtain ⟨h100, hall, hs, h8⟩ := rightB_len p h
 have hj := joinL_cut p
 have R : ∀ k, rightB (madeL ((cutL p).take k)) = true ∧ cutL (madeL ((cutL p).take k)) = (cutL p).take k := fun k =>
  ⟨right_made _ (all_take _ _ hall) (by simp; omega) (Nat.le_trans (joinL_take _ _) (by omega)), cut_made _ (all_take _ _ hall)⟩
 obtain ⟨e1, e2⟩ := parent_yes p h hc
 refine ⟨e2, by rw [e1]; exact (R _).1, ?_⟩
 rw [e1]
 unfold aheadB
 rw [(R _).1, (R _).2, h]
 have key : ∀ (a : List (List UInt8)), a ≠ [] → aheadL (a.take (a.length - 1)) a = true := by
  intro a ha
  induction a with
  | nil => exact absurd rfl ha
  | cons x r ih =>
    cases r with
    | nil => rfl
    | cons y r =>
      have e : (x :: y :: r).take ((x :: y :: r).length - 1) = x :: (y :: r).take ((y :: r).length - 1) := by simp
      rw [e, aheadL, if_pos rfl]
      exact ih (by simp)
 rw [key _ hc]
 rfl
theorem crF_eq (l : List Nd) (p v : List UInt8) (o : Int) (h : rightN l = true) : crF l p v o = createE l p v o := by
 unfold crF createE vacE
 cases hR : rightB p
 ·simp [getE, hR]
 ·cases hH : hasN l p
  ·have h47 : p ≠ [47] := by
    rintro rfl
    rw [root_in l h] at hH
    cases hH
   obtain ⟨hP, hPR, -⟩ := parent_up p hR h47
   have hG : getE l p = 6 := by simp [getE, hR, hH]
   rw [hG, hP]
   cases hU : hasN l (parentS p)
   ·have : getE l (parentS p) = 6 := by simp [getE, hPR, hU]
    rw [this]; simp
   ·have e1 : getE l (parentS p) = 0 := by simp [getE, hPR, hU]
    have e2 : getS l (parentS p) = nodeN l (parentS p) := by simp [getS, e1]
    rw [e1, e2]
    by_cases hO : nO (nodeN l (parentS p)) = 0
    ·simp [hO]
    ·simp [hO]
  ·simp [getE, hR, hH]
theorem shVacant_any (l : List Nd) (p : List UInt8) (v : Value) (w : World) (hr : RdNd w.heap.size w v l) : Calls Tryz.prog 205 #[.agg #[v], txt p] w (One (.int .i64 (vacE l p)) w) := by
 have HR0 := lhd hr
 clear hr
 go_enter Tryz.func205, Tryz.ntmps205
 go_wp2_with (refine wpList_box_blk rfl 41 _ rfl [v] rfl ?_)
 intro W0 b1 b2 b3
 obtain ⟨g0, hg0⟩ : ∃ g, w.heap.size = g := ⟨_, rfl⟩
 have HR := lhd ((HR0.out.below b3).more (show w.heap.size ≤ W0.heap.size by omega))
 have HB0 := lhd b3
 have hw0 : w.heap.size ≤ W0.heap.size := by omega
 have hg1 : g0 < W0.heap.size := by omega
 have C0 := lhd (b1.cell 0)
 rw [hg0] at C0 ⊢
 have HB := lhd (Below.refl W0.heap.size W0)
 have ca := C0.out
 clear b1 b2 b3 hg0 HR0
 go_wp2_with fail
 refine (shGet_any l p _ W0 ((HR.out.below HB.out).more HB.out.size)).mono ?_
 rintro e W0a ⟨rfl, hb⟩
 have HBa := lhd (HB.out.trans (hb.mono HB.out.size))
 clear hb ca
 go_wp2_with (refine wpList_alloc_blk rfl 157 rfl (ndc nd0) zPN ?_)
 intro W0b a1 a2 a3
 obtain ⟨g2, hg⟩ : ∃ g, W0a.heap.size = g := ⟨_, rfl⟩
 have A2 := lhd a1
 have hBg2 : W0.heap.size ≤ g2 := by have := HBa.out.size; omega
 have HBb := lhd (HBa.out.trans (a3.mono HBa.out.size))
 rw [hg] at A2 ⊢
 clear a1 a2 a3 hg
 obtain ⟨f2, hf⟩ : ∃ f, getE l p = f := ⟨_, rfl⟩
 have HF2 := lhd hf
 obtain ⟨x2, hx⟩ : ∃ x, getS l p = x := ⟨_, rfl⟩
 have HX2 := lhd hx
 rw [hx, hf]
 clear hx hf
 go_wp2_with (refine wpList_store_to rfl 157 _ _ rfl g2 (ndc x2) (ndc nd0) 157 rfl rfl A2.out sPN rfl (ndc_one _) ?_)
 intro W0c c1 c2 c3 c4
 have Y2 := lhd c1
 have HBc := lhd (HBb.out.trans (c3.mono hBg2))
 clear c1 c2 c3 c4 A2
 by_cases h0 : f2 = 0
 ·have HE : Hid (vacE l p = 7) := by
   show _ = _
   unfold vacE
   rw [HF2.out, if_pos h0]
  subst h0
  go_wp2
  go_ret
  exact ⟨by rw [HE.out]; rfl, HB0.out.trans (HBc.out.mono hw0)⟩
 by_cases h6 : f2 = 6
 rotate_left
 ·have HE : Hid (vacE l p = f2) := by
   show _ = _
   unfold vacE
   rw [HF2.out, if_neg h0, if_pos h6]
  have z0 : ((f2 : Int) == 0) = false := by rw [beq_eq_false_iff_ne]; omega
  have z1 : ((f2 : Int) != 6) = true := by rw [bne_iff_ne]; omega
  clear h0 h6
  go_wp2
  go_ret
  exact ⟨by rw [HE.out]; rfl, HB0.out.trans (HBc.out.mono hw0)⟩
 subst h6
 clear h0
 have HV : Hid (vacE l p = if parentE p ≠ 0 then parentE p else if getE l (parentS p) ≠ 0 then getE l (parentS p) else if nO (getS l (parentS p)) ≠ 0 then 10 else 0) := by
  show _ = _
  unfold vacE
  rw [HF2.out]
  rfl
 go_wp2_with fail
 refine (pxParent_any p W0c).mono ?_
 rintro e W1 ⟨rfl, hb⟩
 have HD := lhd (HBc.out.trans (hb.mono HBc.out.size))
 clear hb HBa HBb HBc Y2
 obtain ⟨pe, hpe⟩ : ∃ f, parentE p = f := ⟨_, rfl⟩
 obtain ⟨up, hup⟩ : ∃ f, parentS p = f := ⟨_, rfl⟩
 rw [hpe, hup] at HV
 rw [hpe, hup]
 clear hpe hup
 by_cases h0 : pe = 0
 rotate_left
 ·have HE : Hid (vacE l p = pe) := by
   show _ = _
   rw [HV.out, if_pos h0]
  have z0 : ((pe : Int) != 0) = true := by rw [bne_iff_ne]; omega
  clear h0
  go_wp2
  go_ret
  exact ⟨by rw [HE.out]; rfl, HB0.out.trans (HD.out.mono hw0)⟩
 subst h0
 have ca := (HD.out.cell hg1).trans C0.out
 go_wp2_with fail
 refine (shGet_any l up _ W1 ((HR.out.below HD.out).more HD.out.size)).mono ?_
 rintro e W1a ⟨rfl, hb⟩
 have HDa := lhd (HD.out.trans (hb.mono HD.out.size))
 clear hb ca
 go_wp2_with (refine wpList_alloc_blk rfl 157 rfl (ndc nd0) zPN ?_)
 intro W1b a1 a2 a3
 obtain ⟨g3, hg⟩ : ∃ g, W1a.heap.size = g := ⟨_, rfl⟩
 have A3 := lhd a1
 have hBg3 : W0.heap.size ≤ g3 := by have := HDa.out.size; omega
 have HDb := lhd (HDa.out.trans (a3.mono HDa.out.size))
 rw [hg] at A3 ⊢
 clear a1 a2 a3 hg
 obtain ⟨f3, hf⟩ : ∃ f, getE l up = f := ⟨_, rfl⟩
 have HF3 := lhd hf
 obtain ⟨x3, hx⟩ : ∃ x, getS l up = x := ⟨_, rfl⟩
 have HX3 := lhd hx
 rw [hx, hf]
 clear hx hf
 go_wp2_with (refine wpList_store_to rfl 157 _ _ rfl g3 (ndc x3) (ndc nd0) 157 rfl rfl A3.out sPN rfl (ndc_one _) ?_)
 intro W1c c1 c2 c3 c4
 have Y3 := lhd c1
 have HDc := lhd (HDb.out.trans (c3.mono hBg3))
 clear c1 c2 c3 c4 A3
 by_cases h0 : f3 = 0
 rotate_left
 ·have HE : Hid (vacE l p = f3) := by
   show _ = _
   rw [HV.out, if_neg (by simp), HF3.out, if_pos h0]
  have z0 : ((f3 : Int) != 0) = true := by rw [bne_iff_ne]; omega
  clear h0
  go_wp2
  go_ret
  exact ⟨by rw [HE.out]; rfl, HB0.out.trans (HDc.out.mono hw0)⟩
 subst h0
 have d3 := Y3.out.at_ 3 _ rfl
 obtain ⟨o, ho⟩ : ∃ o, nO x3 = o := ⟨_, rfl⟩
 rw [ho] at d3
 by_cases hz : o = 0
 ·have HE : Hid (vacE l p = 0) := by
   show _ = _
   rw [HV.out, if_neg (by simp), HF3.out, if_neg (by simp), HX3.out, ho, if_neg (by simp [hz])]
  have z0 : (o != 0) = false := by simpa using hz
  clear hz ho
  go_wp2
  go_ret
  exact ⟨by rw [HE.out]; rfl, HB0.out.trans (HDc.out.mono hw0)⟩
 ·have HE : Hid (vacE l p = 10) := by
   show _ = _
   rw [HV.out, if_neg (by simp), HF3.out, if_neg (by simp), HX3.out, ho, if_pos hz]
  have z0 : (o != 0) = true := by simpa using hz
  clear hz ho
  go_wp2
  go_ret
  exact ⟨by rw [HE.out]; rfl, HB0.out.trans (HDc.out.mono hw0)⟩
theorem crFn_any (l : List Nd) (p vl : List UInt8) (z : Int) (v : Value) (gs gp gv go : Nat) (W0 : World) (hr : RdNd W0.heap.size W0 v l) (h1 : gs < W0.heap.size) (_h2 : gp < W0.heap.size) (h3 : gv < W0.heap.size) (h4 : go < W0.heap.size)
 (c1 : W0.cell? ⟨gs, 0, none⟩ = some v) (c2 : W0.cell? ⟨gp, 0, none⟩ = some (txt p)) (c3 : W0.cell? ⟨gv, 0, none⟩ = some (txt vl)) (c4 : W0.cell? ⟨go, 0, none⟩ = some (.int .i64 z)) :
 Calls Tryz.prog 204 #[.pointer (some ⟨gs, 0, none⟩), .pointer (some ⟨gp, 0, none⟩), .pointer (some ⟨gv, 0, none⟩), .pointer (some ⟨go, 0, none⟩)] W0 (One (.int .i64 (crF l p vl z)) W0) := by
 obtain ⟨A, cp, rfl, hc, hm⟩ := hr.shape
 unfold maxLen at hm
 obtain ⟨n, hn⟩ : ∃ n, l.length = n := ⟨_, rfl⟩
 have HN := lhd hn
 have HR := lhd hr
 rw [hn] at hc HR c1
 obtain ⟨m, hmm⟩ : ∃ m, vl.length = m := ⟨_, rfl⟩
 have hsz : (⟨vl.toArray⟩ : ByteArray).size = m := hmm
 have HM := lhd hmm
 clear hr hn hmm
 have K1 := lhd c1
 have K3 := lhd c3
 have K4 := lhd c4
 clear c3 c4
 go_enter Tryz.func204, Tryz.ntmps204
 go_wp2_with fail
 refine (shVacant_any l p _ W0 HR.out).mono ?_
 rintro e W1 ⟨rfl, hb⟩
 have HB := lhd hb
 clear hb c1 c2
 have HV : Hid (crF l p vl z = if vacE l p ≠ 0 then vacE l p else if 1000 < m then 5 else if z < 0 then 1 else if 200 ≤ n then 9 else 0) := by
  show _ = _
  unfold crF
  rw [HM.out, HN.out]
 obtain ⟨f, hf⟩ : ∃ f, vacE l p = f := ⟨_, rfl⟩
 rw [hf] at HV
 rw [hf]
 clear hf
 have c1 := (HB.out.cell h1).trans K1.out
 have c3 := (HB.out.cell h3).trans K3.out
 have c4 := (HB.out.cell h4).trans K4.out
 by_cases h0 : f = 0
 rotate_left
 ·have HE : Hid (crF l p vl z = f) := by
   show _ = _
   rw [HV.out, if_pos h0]
  have z0 : ((f : Int) != 0) = true := by rw [bne_iff_ne]; omega
  clear h0
  go_wp2
  go_ret
  exact ⟨by rw [HE.out]; rfl, HB.out⟩
 subst h0
 by_cases h5 : 1000 < m
 ·have HE : Hid (crF l p vl z = 5) := by
   show _ = _
   rw [HV.out, if_neg (by simp), if_pos h5]
  have z5 : (1000 : Int) < (m : Int) := by omega
  clear h5
  go_wp2
  go_ret
  exact ⟨by rw [HE.out]; rfl, HB.out⟩
 have z5 : ¬ (1000 : Int) < (m : Int) := by omega
 by_cases h6 : z < 0
 ·have HE : Hid (crF l p vl z = 1) := by
   show _ = _
   rw [HV.out, if_neg (by simp), if_neg h5, if_pos h6]
  clear h5
  go_wp2
  go_ret
  exact ⟨by rw [HE.out]; rfl, HB.out⟩
 by_cases h7 : 200 ≤ n
 ·have HE : Hid (crF l p vl z = 9) := by
   show _ = _
   rw [HV.out, if_neg (by simp), if_neg h5, if_neg h6, if_pos h7]
  have z7 : (200 : Int) ≤ (n : Int) := by omega
  clear h5 h7
  go_wp2
  go_ret
  exact ⟨by rw [HE.out]; rfl, HB.out⟩
 ·have HE : Hid (crF l p vl z = 0) := by
   show _ = _
   rw [HV.out, if_neg (by simp), if_neg h5, if_neg h6, if_neg h7]
  have z7 : ¬ (200 : Int) ≤ (n : Int) := by omega
  clear h5 h7
  go_wp2
  go_ret
  exact ⟨by rw [HE.out]; rfl, HB.out⟩
def KidP (p : List UInt8) (u : Value) (w : World) : Prop := ∃ g, u = .func (.func 240) #[] #[.pointer (some ⟨g, 0, none⟩)] ∧ g < w.heap.size ∧ w.cell? ⟨g, 0, none⟩ = some (txt p)
theorem KidP.keep {p : List UInt8} {u : Value} {w w' : World} (h : KidP p u w) (hb : Below w.heap.size w w') : KidP p u w' := by
 obtain ⟨g, h1, h2, h3⟩ := h
 exact ⟨g, h1, Nat.lt_of_lt_of_le h2 hb.size, (hb.cell h2).trans h3⟩
end Go.Proofs.YtgfobinklijkpaaGreatDoor
