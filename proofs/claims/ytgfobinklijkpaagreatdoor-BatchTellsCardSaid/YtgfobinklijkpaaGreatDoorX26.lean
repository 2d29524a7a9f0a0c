/-
  Texts G7 HH RC4 HG HI G8 G9 GA GB GC.
-/
import Derived.Test.YtgfobinklijkpaaGreatDoorX01
import Derived.Deep.MidRow
import Derived.Deep.RegionLaw
import Derived.Lib.Overlaps
import Derived.Lib.AppendZerosOnto
import Derived.Test.YtgfobinklijkpaaGreatDoorX04
import Derived.Test.YtgfobinklijkpaaGreatDoorX07
import Derived.Test.YtgfobinklijkpaaGreatDoorX25
namespace Go.Proofs.YtgfobinklijkpaaGreatDoor
set_option maxRecDepth 100000
set_option maxHeartbeats 16000000
open Go.RowKit
def OwnsN (l : List Nd) (w : World) (e : Ending) (w' : World) : Prop := ∃ u, e = .returned u ∧ OwnNd 157 w' w.heap.size u l ∧ Below w.heap.size w w'
theorem clone_any (l : List Nd) (v : Value) (w : World) (hr : RdNd w.heap.size w v l) (hl : l.length ≤ 100000) : Calls Tryz.prog 86 #[v] w (OwnsN l w) := by
 obtain ⟨i1, hJ, hy0, hy1, hy2⟩ := info_partsPN
 obtain ⟨A, cp, rfl, hc, hm⟩ := hr.shape
 unfold maxLen at hm
 cases A with
 | none =>
   obtain ⟨A', c', hv, _, _, hn, _⟩ := hr
   injection hv with q1 q2 q3
   subst q1 q3
   have h0 := hn rfl
   have h1 : l = [] := List.eq_nil_of_length_eq_zero (by omega)
   subst h1
   subst h0
   have he : ∀ w, (binOp .eql 39 (.slice none 0 0) (.slice none 0 0)).run Tryz.prog w = .ok (.bool true) w := fun _ => rfl
   go_enter Tryz.func86, Tryz.ntmps86
   go_wp2
   go_ret
   exact ⟨_, rfl, OwnNd.nil _ _ _, Below.refl _ _⟩
 | some a =>
   have HR := lhd hr
   have HL := lhd hl
   obtain ⟨n, hn⟩ : ∃ n, l.length = n := ⟨_, rfl⟩
   rw [hn] at HR hc ⊢
   clear hr hl hn
   have he : ∀ w, (binOp .eql 39 (.slice (some a) n cp) (.slice none 0 0)).run Tryz.prog w = .ok (.bool false) w := fun _ => rfl
   have HO : Hid (OwnNd 157 (w.alloc (.cells #[] 157)) w.heap.size (.slice (some ⟨w.heap.size, 0, none⟩) 0 0) []) := OwnNd.empty 157 w w.heap.size (Nat.le_refl _)
   have HA : Hid (Below w.heap.size w (w.alloc (.cells #[] 157))) := (Below.refl _ _).alloc (Nat.le_refl _) _
   have HR2 := lhd (HR.out.below HA.out)
   go_enter Tryz.func86, Tryz.ntmps86
   go_wp2_with (at_builtin; refine wpList_appNd rfl _ _ 39 rfl 157 i1 Tryz.underlying39 hJ hy0 hy1 hy2 w.heap.size _ _ _ [] l rfl HO.out rfl HR2.out ?d1 ?d2 ?_)
   case d1 => have := HL.out; simp; omega
   case d2 => simp
   intro v' w' h1 h2 h3
   have H1 := lhd h1
   have H2 := lhd (HA.out.trans h2)
   clear h1 h2 h3
   go_wp2
   go_ret
   exact ⟨_, rfl, H1.out, H2.out⟩
def ShelvesO (l : List Nd) (f : Nat) (w : World) (e : Ending) (w' : World) : Prop := ∃ v, e = .returned (.tuple #[.agg #[v], .int .i64 (f : Int)]) ∧ OwnNd 157 w' w.heap.size v l ∧ Below w.heap.size w w'
def EditsTo (base : Nat) (l' : List Nd) (W : World) (e : Ending) (w' : World) : Prop := ∃ u, e = .returned u ∧ OwnNd 157 w' base u l' ∧ Below base W w'
theorem shChange_any (l l' l9 : List Nd) (v : Value) (f1 f2 : Nat) (lb1 lb2 : Array Value) (F : Nat) (w : World) (hr : RdNd w.heap.size w v l) (hl : l.length ≤ 100000)
 (e1 : ∀ args w, (callFunc f1 args).run Tryz.prog w = .ok (.enter f1 args) w) (e2 : ∀ args w, (callFunc f2 args).run Tryz.prog w = .ok (.enter f2 args) w)
 (h1 : ∀ W, Below w.heap.size w W → Calls Tryz.prog f1 lb1 W (One (.int .i64 (F : Int)) W))
 (h2 : F = 0 → ∀ base u W, w.heap.size ≤ base → base ≤ W.heap.size → Below w.heap.size w W → OwnNd 157 W base u l → Calls Tryz.prog f2 (#[u] ++ lb2) W (EditsTo base l' W)) (q1 : F = 0 → l9 = l') (q2 : F ≠ 0 → l9 = l) :
 Calls Tryz.prog 206 #[.agg #[v], .func (.func f1) #[] lb1, .func (.func f2) #[] lb2] w (ShelvesO l9 F w) := by
 obtain ⟨d30, hu30, hd30⟩ := rowPS
 have HU := lhd hu30
 have HD := lhd hd30
 have HR := lhd hr
 have HL := lhd hl
 have H1 := lhd h1
 have H2 := lhd h2
 have Q1 := lhd q1
 have Q2 := lhd q2
 clear hr hl h1 h2 hu30 hd30 q1 q2
 go_enter Tryz.func206, Tryz.ntmps206
 go_wp2_with (refine wpList_box_blk rfl 41 _ rfl [v] rfl ?_)
 intro w1 b1 b2 b3
 go_wp2_with (refine wpList_alloc_blk rfl 41 rfl [.slice none 0 0] zPS ?_)
 intro w2 a1 a2 a3
 obtain ⟨g0, hg0⟩ : ∃ g, w.heap.size = g := ⟨_, rfl⟩
 obtain ⟨g1, hg1⟩ : ∃ g, w.heap.size + 1 = g := ⟨_, rfl⟩
 have X0 := lhd (b1.below a3 (by omega))
 have X1 := lhd a1
 have HB := lhd (b3.trans (a3.mono (by omega)))
 have hg02 : g0 < w2.heap.size := by omega
 have hg12 : g1 < w2.heap.size := by omega
 have hw1 : w.heap.size ≤ g1 := by omega
 rw [hg1] at X1 ⊢
 rw [hg0] at X0 ⊢
 have ca := X0.out.cell 0
 clear b1 b2 b3 a1 a2 a3 hg0 hg1
 go_wp2_with fail
 refine (clone_any l v w2 ((HR.out.below HB.out).more HB.out.size) HL.out).mono ?_
 rintro e w3 ⟨u, rfl, ho, hb⟩
 have HO := lhd ho
 have HC := lhd hb
 clear ho hb ca
 obtain ⟨A, c, rfl, -, -⟩ := HO.out.rd.shape
 go_wp2_with fail
 refine (H1.out w3 (HB.out.trans (HC.out.mono HB.out.size))).mono ?_
 rintro e w4 ⟨rfl, hb⟩
 have HO4 := lhd (HO.out.below hb (Nat.le_refl _))
 have HC4 := lhd (HC.out.trans (hb.mono HC.out.size))
 clear hb HO HC
 by_cases hF : F = 0
 ·have HE := lhd (H2.out hF)
  have HQ := lhd (Q1.out hF)
  subst hF
  clear H1 H2 Q1 Q2
  go_wp2_with fail
  refine (HE.out w2.heap.size _ w4 HB.out.size HC4.out.size (HB.out.trans (HC4.out.mono HB.out.size)) HO4.out).mono ?_
  rintro e w5 ⟨u, rfl, ho, hb⟩
  have HO5 := lhd ho
  have HC5 := lhd (HC4.out.trans hb)
  clear ho hb HO4 HC4
  obtain ⟨A5, c5, hq, -, -⟩ := HO5.out.rd.shape
  obtain ⟨n5, hn5⟩ : ∃ n, l'.length = n := ⟨_, rfl⟩
  rw [hn5] at hq
  subst hq
  clear hn5
  have X1c := lhd (X1.out.below HC5.out hg12)
  go_wp2_with (refine wpList_store_to rfl 41 _ _ rfl g1 [.slice A5 n5 c5] [.slice none 0 0] 41 rfl rfl X1c.out sPS rfl (slice_one _ _ _) ?_)
  intro w9 e1 e2 e3 e4
  go_wp2
  refine bodyPost_ret (v := .tuple #[.agg [Value.slice A5 n5 c5].toArray, .int .i64 0]) ?_ rfl ?_
  ·exact ret_blk2U rfl _ _ g1 41 [.slice A5 n5 c5] _ rfl rfl e1 d30 HU.out HD.out sPS
  ·rw [HQ.out]
   exact ⟨_, rfl, OwnNd.base (ownsRow_same HO5.out (fun k hk => e4 k (by omega))) HB.out.size, HB.out.trans ((HC5.out.mono HB.out.size).trans (e3.mono hw1))⟩
 ·have HQ := lhd (Q2.out hF)
  clear H1 H2 Q1 Q2
  have z0 : ((F : Int) != 0) = true := by rw [bne_iff_ne]; omega
  have X1c := lhd (X1.out.below HC4.out hg12)
  obtain ⟨n, hn⟩ : ∃ n, l.length = n := ⟨_, rfl⟩
  rw [hn] at HO4 ⊢
  clear hF hn
  go_wp2_with (refine wpList_store_to rfl 41 _ _ rfl g1 [.slice A n c] [.slice none 0 0] 41 rfl rfl X1c.out sPS rfl (slice_one _ _ _) ?_)
  intro w9 e1 e2 e3 e4
  go_wp2
  refine bodyPost_ret (v := .tuple #[.agg [Value.slice A n c].toArray, .int .i64 (F : Int)]) ?_ rfl ?_
  ·exact ret_blk2U rfl _ _ g1 41 [.slice A n c] _ rfl rfl e1 d30 HU.out HD.out sPS
  ·rw [HQ.out]
   exact ⟨_, rfl, OwnNd.base (ownsRow_same HO4.out (fun k hk => e4 k (by omega))) HB.out.size, HB.out.trans ((HC4.out.mono HB.out.size).trans (e3.mono hw1))⟩
theorem nds_cut (l : List Nd) (i : Nat) (hi : i < l.length) : (nds l).take (i * 4) = nds (l.take i) ∧ (nds l).drop (i * 4 + 4) = nds (l.drop (i + 1)) := by
 have e : l = l.take i ++ (l[i] :: l.drop (i + 1)) := by
  rw [← List.drop_eq_getElem_cons hi, List.take_append_drop]
 have e1 : nds l = nds (l.take i) ++ (ndc l[i] ++ nds (l.drop (i + 1))) := by
  have h := congrArg nds e
  rw [nds_append, show l[i] :: l.drop (i + 1) = [l[i]] ++ l.drop (i + 1) from rfl, nds_append, nds_one] at h
  exact h
 have hl : (nds (l.take i)).length = i * 4 := by
  rw [nds_length, List.length_take, Nat.min_eq_left (by omega)]
  omega
 rw [e1]
 refine ⟨List.take_left' hl, ?_⟩
 rw [← List.drop_drop, List.drop_left' hl]
 exact List.drop_left' rfl
theorem nds_set (l : List Nd) (i : Nat) (x : Nd) (hi : i < l.length) : nds (l.set i x) = (nds l).take (i * 4) ++ (ndc x ++ (nds l).drop (i * 4 + 4)) := by
 rw [(nds_cut l i hi).1, (nds_cut l i hi).2, List.set_eq_take_append_cons_drop, if_pos hi, nds_append, show x :: l.drop (i + 1) = [x] ++ l.drop (i + 1) from rfl, nds_append, nds_one]
theorem below_setCells {B g : Nat} (hBg : B ≤ g) {w0 : World} : ∀ (vs : List Value) (o : Nat) (w : World), Below B w0 w → Below B w0 (w.setCells g o vs)
 | [], _, _, h => h
 | v :: r, o, w, h => below_setCells hBg r (o + 1) (w.setCell ⟨g, o, none⟩ v) (h.setCell hBg v)
theorem OwnNd.inBlock {e : TypeId} {w : World} {base : Nat} {v : Value} {l : List Nd} (h : OwnNd e w base v l) (hn : 0 < l.length) : ∃ g cap, v = .slice (some ⟨g, 0, none⟩) l.length cap ∧ l.length ≤ cap ∧ base ≤ g ∧ g < w.heap.size := by
 rcases h.2 with ⟨_, h1⟩ | ⟨g, cap, cur, h1, h2, h3, h4, _⟩
 ·omega
 ·exact ⟨g, cap, h1, h4, h2, (Array.getElem?_eq_some_iff.1 h3).1⟩
theorem OwnNd.block {e : TypeId} {w : World} {base n cap g : Nat} {l : List Nd} (h : OwnNd e w base (.slice (some ⟨g, 0, none⟩) n cap) l) : ∃ cur : Array Value, Blk w g cur.toList e ∧ base ≤ g ∧ l.length ≤ cap ∧ cap ≤ maxLen ∧ cur.size = cap * 4 ∧ cur.toList.take (l.length * 4) = nds l ∧ n = l.length := by
 rcases h.2 with ⟨h1, _⟩ | ⟨g', cap', cur, h1, h2, h3, h4, h5, h6, h7⟩
 ·simp at h1
 ·injection h1 with h1 hn hc
  injection h1 with h1
  injection h1 with h1
  subst h1 hc
  refine ⟨cur, ?_, h2, h4, h5, h6, h7, hn⟩
  unfold Blk
  simpa using h3
theorem take_mid (A X B C : List Value) (m n : Nat) (hA : A = C.take m) (hB : B = C.drop (m + X.length)) (hm : m + X.length ≤ n) (hC : n ≤ C.length) : (A ++ (X ++ B)).take n = (C.take n).take m ++ (X ++ (C.take n).drop (m + X.length)) := by
 have hAl : A.length = m := by rw [hA, List.length_take]; omega
 rw [List.take_append, List.take_append, hAl, List.take_of_length_le (by omega), List.take_of_length_le (by omega), hA, List.take_take, Nat.min_eq_left (by omega), hB, List.drop_take, Nat.sub_sub]
theorem OwnNd.stored {e : TypeId} {w : World} {base n cap g : Nat} {l : List Nd} (h : OwnNd e w base (.slice (some ⟨g, 0, none⟩) n cap) l) (i : Nat) (hi : i < l.length) (x : Nd) :
 OwnNd e (w.setCells g (i * 4) (ndc x)) base (.slice (some ⟨g, 0, none⟩) n cap) (l.set i x) ∧ w.there g (i * 4) 4 ∧ Below base w (w.setCells g (i * 4) (ndc x)) := by
 obtain ⟨cur, hb, h2, h4, h5, h6, h7, hn⟩ := h.block
 have hcl : cur.toList.length = cap * 4 := by rw [Array.length_toList, h6]
 have hx : (ndc x).length = 4 := rfl
 have hs := hb.setCells (ndc x) (i * 4) (by rw [hcl, hx]; omega)
 refine ⟨⟨?_, .inr ⟨g, cap, (cur.toList.take (i * 4) ++ (ndc x ++ cur.toList.drop (i * 4 + (ndc x).length))).toArray, ?_, h2, hs, ?_, h5, ?_, ?_⟩⟩, ?_, ?_⟩
 ·rw [nds_length]; omega
 ·rw [List.length_set, hn]
 ·rw [List.length_set]; exact h4
 ·simp only [List.size_toArray, List.length_append, List.length_take, List.length_drop, hcl, hx]
  omega
 ·rw [List.length_set, nds_set l i x hi, ← h7]
  exact take_mid _ (ndc x) _ cur.toList (i * 4) (l.length * 4) rfl rfl (by rw [hx]; omega) (by rw [hcl]; omega)
 ·intro j hj
  have hlt : i * 4 + j < cur.toList.length := by rw [hcl]; omega
  exact ⟨by rw [hb.cell, List.getElem?_eq_getElem hlt]; rfl, hb.frozen _⟩
 ·exact below_setCells h2 _ _ _ (Below.refl _ _)
section
variable {P : Program} {l : List Oper} {Q : Exit → Act → World → Prop} {F : (Nat → Value) → Act} {Φ : Nat → Value → World → Prop} {w0 : World}
end
theorem OwnNd.of {e : TypeId} {w : World} {base g cap : Nat} {l : List Nd} (cur : List Value) (hb : Blk w g cur e) (h2 : base ≤ g) (h4 : l.length ≤ cap) (h5 : cap ≤ maxLen) (h6 : cur.length = cap * 4) (h7 : cur.take (l.length * 4) = nds l) :
 OwnNd e w base (.slice (some ⟨g, 0, none⟩) l.length cap) l := by
 refine ⟨?_, .inr ⟨g, cap, cur.toArray, rfl, h2, hb, h4, h5, ?_, ?_⟩⟩
 ·rw [nds_length]; omega
 ·simpa using h6
 ·simpa using h7
theorem take_set (A : List Value) (j n : Nat) (v : Value) : (A.set j v).take n = (A.take n).set j v := by
 refine List.ext_getElem (by simp) fun i h1 h2 => ?_
 simp [List.getElem_set]
theorem written_len (C z : List Value) (k : Nat) (hk : k + z.length ≤ C.length) : (C.take k ++ (z ++ C.drop (k + z.length))).length = C.length := by
 simp only [List.length_append, List.length_take, List.length_drop]
 omega
theorem written_more (C z : List Value) (k : Nat) (hk : k + z.length ≤ C.length) : (C.take k ++ (z ++ C.drop (k + z.length))).take (k + z.length) = C.take k ++ z := by
 rw [← List.append_assoc, List.take_left']
 rw [List.length_append, List.length_take]
 omega
theorem search_any (n m f : Nat) (lb : Array Value) (q : Nat → Bool) (w : World) (hn : n ≤ 100000) (hm : m ≤ n) (ef : ∀ args w, (callFunc f args).run Tryz.prog w = .ok (.enter f args) w)
 (hq : ∀ i, i < n → q i = decide (m ≤ i)) (hp : ∀ i W, i < n → Below w.heap.size w W → Calls Tryz.prog f (#[.int .i64 (i : Int)] ++ lb) W (One (.bool (q i)) W)) :
 Calls Tryz.prog 235 #[.int .i64 (n : Int), .func (.func f) #[] lb] w (One (.int .i64 (m : Int)) w) := by
 have HQ := lhd hq
 have HP := lhd hp
 clear hq hp
 go_enter Tryz.func235, Tryz.ntmps235
 go_wp2
 go_loopw [5, 6] (fun x y wr => ∃ lo hi : Nat, x = .int .i64 (lo : Int) ∧ y = .int .i64 (hi : Int) ∧ lo ≤ m ∧ m ≤ hi ∧ hi ≤ n ∧ Hid (Below w.heap.size w wr)) (fun x y _ => (intOf y).toNat - (intOf x).toNat)
 case atStart => exact ⟨0, n, rfl, rfl, by omega, hm, Nat.le_refl _, Below.refl _ _⟩
 case round =>
  obtain ⟨lo, hi, rfl, rfl, h1, h2, h3, HW⟩ := hrel
  by_cases hlt : lo < hi
  ·have hltz : (lo : Int) < (hi : Int) := by omega
   have hc := HP.out ((lo + hi) / 2) wr (by omega) HW.out
   rw [HQ.out _ (by omega)] at hc
   rw [show (((lo + hi) / 2 : Nat) : Int) = ((lo : Int) + (hi : Int)) / 2 by omega] at hc
   by_cases hk : m ≤ (lo + hi) / 2
   ·rw [decide_eq_true hk] at hc
    have HC := lhd hc
    clear hc
    go_wp2_with (refine HC.out.mono ?_; rintro e w2 ⟨rfl, hb⟩)
    go_roundw
    case rel => exact ⟨lo, (lo + hi) / 2, rfl, by rw [show (((lo + hi) / 2 : Nat) : Int) = ((lo : Int) + (hi : Int)) / 2 by omega], h1, hk, by omega, HW.out.trans (hb.mono HW.out.size)⟩
    case measure => simp [intOf]; omega
   ·rw [decide_eq_false hk] at hc
    have HC := lhd hc
    clear hc
    go_wp2_with (refine HC.out.mono ?_; rintro e w2 ⟨rfl, hb⟩)
    go_roundw
    case rel => exact ⟨(lo + hi) / 2 + 1, hi, by rw [show (((lo + hi) / 2 + 1 : Nat) : Int) = ((lo : Int) + (hi : Int)) / 2 + 1 by omega], rfl, by omega, h2, h3, HW.out.trans (hb.mono HW.out.size)⟩
    case measure => simp [intOf]; omega
  ·have hE : lo = m := by omega
   have hE2 : hi = m := by omega
   subst hE
   subst hE2
   go_wp2
   go_ret
   exact ⟨rfl, HW.out⟩
def posN (l : List Nd) (p : List UInt8) : Nat := l.findIdx fun x => aheadB p (nP x)
theorem posN_le (l : List Nd) (p : List UInt8) : posN l p ≤ l.length := List.findIdx_le_length
theorem posN_at (l : List Nd) (p : List UInt8) (h : inOrder l) (i : Nat) (hi : i < l.length) : aheadB p (nP (l.getD i nd0)) = decide (posN l p ≤ i) := by
 have e : ∀ j (hj : j < l.length), l.getD j nd0 = l[j] := fun j hj => by rw [List.getD_eq_getElem?_getD, List.getElem?_eq_getElem hj]; rfl
 by_cases hk : posN l p ≤ i
 ·rw [decide_eq_true hk]
  have hlt : posN l p < l.length := by omega
  have h0 : aheadB p (nP (l.getD (posN l p) nd0)) = true := by
   rw [e _ hlt]
   exact List.findIdx_getElem (w := hlt)
  by_cases heq : posN l p = i
  ·rw [← heq]; exact h0
  ·exact ahead_tr _ _ _ h0 (inOrder_at l h (posN l p) i (by omega) hi)
 ·rw [decide_eq_false hk, e i hi]
  have := List.not_of_lt_findIdx (p := fun x : Nd => aheadB p (nP x)) (xs := l) (i := i) (by unfold posN at hk; omega)
  simpa using this
theorem insN_pos (n : Nd) : ∀ l : List Nd, insN n l = l.take (posN l (nP n)) ++ n :: l.drop (posN l (nP n))
 | [] => rfl
 | x :: r => by
   unfold insN posN
   rw [List.findIdx_cons]
   cases h : aheadB (nP n) (nP x)
   ·rw [if_neg (by simp)]
    have := insN_pos n r
    unfold posN at this
    simp only [cond_false, List.take_succ_cons, List.drop_succ_cons, List.cons_append]
    rw [← this]
   ·simp
theorem aheadPx (p q : List UInt8) (b : Bool) (h : aheadB p q = b) (w : World) : Calls Tryz.prog 237 #[txt p, txt q] w (One (.bool b) w) := by
 rw [← h]
 exact pxAhead_any p q w
theorem plFn_any (l : List Nd) (p : List UInt8) (v : Value) (i gp gl : Nat) (W : World) (hr : RdNd W.heap.size W v l) (hi : i < l.length) (h1 : gp < W.heap.size) (h2 : gl < W.heap.size)
 (c1 : W.cell? ⟨gp, 0, none⟩ = some (txt p)) (c2 : W.cell? ⟨gl, 0, none⟩ = some v) :
 Calls Tryz.prog 236 #[.int .i64 (i : Int), .pointer (some ⟨gp, 0, none⟩), .pointer (some ⟨gl, 0, none⟩)] W (One (.bool (aheadB p (nP (l.getD i nd0)))) W) := by
 obtain ⟨A, cp, rfl, hc, hm⟩ := hr.shape
 unfold maxLen at hm
 obtain ⟨n, hn⟩ : ∃ n, l.length = n := ⟨_, rfl⟩
 have HN := lhd hn
 have HR := lhd hr
 rw [hn] at hc HR hi c2
 have zi : (i : Int) < (n : Int) := by omega
 obtain ⟨a, hA, -⟩ := hr.at_ i (by omega)
 subst hA
 have C1 := lhd c1
 have C2 := lhd c2
 obtain ⟨y, hx⟩ : ∃ y, nP (l.getD i nd0) = y := ⟨_, rfl⟩
 have HX := lhd hx
 rw [hx]
 clear hr hn c1 c2 hx
 go_enter Tryz.func236, Tryz.ntmps236
 go_wp2
 obtain ⟨B, hB⟩ : ∃ B, aheadB p y = B := ⟨_, rfl⟩
 have HBB := lhd hB
 clear hB
 refine wp_region_rely2 8 0 (fun x => ⟨#[.int IntKind.i64 ↑i, .pointer (some { block := gp, off := 0 }), .pointer (some { block := gl, off := 0 }), undef, x 7, x 0, x 1, x 2, x 3, x 4, x 5, x 6], []⟩) (fun jj => ([eqV (txt p), eqV (.slice (some a) n cp), eqV (.int IntKind.i64 ↑i), eqV (.pointer (some (a.add (i * 4)))), eqV (.pointer (some (a.add (i * 4)))), eqV (txt y), (eqV (.bool B)), eqV (.bool B)] : List (Value → World → Prop)).getD jj (fun _ _ => True)) rfl ⟨fun kk => [_, _, _, _, _, _, _, _].getD kk undef, rfl⟩ (by kernel_rfl) (by kernel_rfl) ?steps ?fin
 case steps =>
  refine StepsAt.val 0 (txt p) rfl (fun _ _ => rfl) rfl rfl (fun x wx hb hd => ?_) ?_
  ·have cc := (hb.cell h1).trans C1.out
   (go_simp; try rfl)
  refine StepsAt.val 1 (.slice (some a) n cp) rfl (fun _ _ => rfl) rfl rfl (fun x wx hb hd => ?_) ?_
  ·have cc := (hb.cell h2).trans C2.out
   (go_simp; try rfl)
  refine StepsAt.val 2 (.int IntKind.i64 ↑i) rfl (fun _ _ => rfl) rfl rfl (fun x wx hb hd => ?_) ?_
  ·(go_simp; try rfl)
  refine StepsAt.val 3 (.pointer (some (a.add (i * 4)))) rfl (fun _ _ => rfl) rfl rfl (fun x wx hb hd => ?_) ?_
  ·have h1 : x 1 = .slice (some a) n cp := hd 1 (by kernel_rfl)
   have h2 : x 2 = .int IntKind.i64 ↑i := hd 2 (by kernel_rfl)
   rw [h1, h2]
   (go_simp; try rfl)
  refine StepsAt.val 4 (.pointer (some (a.add (i * 4)))) rfl (fun _ _ => rfl) rfl rfl (fun x wx hb hd => ?_) ?_
  ·have h3 : x 3 = .pointer (some (a.add (i * 4))) := hd 3 (by kernel_rfl)
   rw [h3]
   (go_simp; try rfl)
  refine StepsAt.val 5 (txt y) rfl (fun _ _ => rfl) rfl rfl (fun x wx hb hd => ?_) ?_
  ·have h4 : x 4 = .pointer (some (a.add (i * 4))) := hd 4 (by kernel_rfl)
   obtain ⟨a9, hA9, cc, -⟩ := (HR.out.below hb).at_ i (by rw [HN.out]; exact hi)
   obtain rfl : a = a9 := Option.some.inj hA9
   rw [HX.out] at cc
   rw [h4]
   (go_simp; try rfl)
  refine StepsAt.cons 6 (fun _ _ _ h hb => h) (fun _ _ => rfl) rfl rfl (fun x wx hb hd K hK => ?_) ?_
  ·have h0 : Hid (x 0 = txt p) := hd 0 (by kernel_rfl)
   have h5 : Hid (x 5 = txt y) := hd 5 (by kernel_rfl)
   go_simp
   refine calls_args (args2 := #[txt p, txt y]) (by rw [h0.out, h5.out]) ?_
   refine (aheadPx p y B HBB.out _).mono ?_
   rintro e w99 ⟨rfl, hb99⟩
   exact hK.out _ _ hb99 rfl
  refine StepsAt.val 7 (.bool B) rfl (fun _ _ => rfl) rfl rfl (fun x wx hb hd => ?_) ?_
  ·have h6 : x 6 = .bool B := hd 6 (by kernel_rfl)
   rw [h6]
   (go_simp; try rfl)
  exact StepsAt.done
 case fin =>
  intro x wx hb hd
  have hx0 : x 0 = txt p := hd 0 (by omega)
  have hx1 : x 1 = .slice (some a) n cp := hd 1 (by omega)
  have hx2 : x 2 = .int IntKind.i64 ↑i := hd 2 (by omega)
  have hx3 : x 3 = .pointer (some (a.add (i * 4))) := hd 3 (by omega)
  have hx4 : x 4 = .pointer (some (a.add (i * 4))) := hd 4 (by omega)
  have hx5 : x 5 = txt y := hd 5 (by omega)
  have hx6 : x 6 = .bool B := hd 6 (by omega)
  have hx7 : x 7 = .bool B := hd 7 (by omega)
  refine AnyTill.any (S := fun _ => True) (m := 8) _ _ _ _ ?_
  refine AnyTill.done (by kernel_rfl) ?_
  refine NoPanic.normal ?_
  try dsimp only
  rw [hx0, hx1, hx2, hx3, hx4, hx5, hx6, hx7]
  have HW := lhd hb
  clear hx0 hx1 hx2 hx3 hx4 hx5 hx6 hx7 hd hb
  go_wp2
  go_ret
  exact ⟨by rw [HBB.out]; rfl, HW.out⟩
theorem shPlace_any (l : List Nd) (p : List UInt8) (v : Value) (w : World) (hr : RdNd w.heap.size w v l) (hl : l.length ≤ 100000) (ho : inOrder l) : Calls Tryz.prog 209 #[v, txt p] w (One (.int .i64 ((posN l p : Nat) : Int)) w) := by
 have hmf : ∀ (fn : Fn) (first cap : Array Value) (w : World), (Instr.makeFunc fn first cap).run Tryz.prog w = .ok (.func fn first cap) w := fun _ _ _ _ => rfl
 obtain ⟨A, cp, rfl, hc, hm⟩ := hr.shape
 unfold maxLen at hm
 have HR := lhd hr
 have HL := lhd hl
 have HO := lhd ho
 obtain ⟨n, hn⟩ : ∃ n, l.length = n := ⟨_, rfl⟩
 have HN := lhd hn
 rw [hn] at HR HL hc ⊢
 clear hr hl ho hn
 go_enter Tryz.func209, Tryz.ntmps209
 go_wp2_with (refine wpList_box_one rfl 39 _ rfl (.slice A n cp) rfl rfl ?_)
 intro w1 b1 b2 b3
 go_wp2_with (refine wpList_box_one rfl 9 _ rfl (txt p) rfl rfl ?_)
 intro w2 a1 a2 a3
 obtain ⟨g0, hg0⟩ : ∃ g, w.heap.size = g := ⟨_, rfl⟩
 obtain ⟨g1, hg1⟩ : ∃ g, w.heap.size + 1 = g := ⟨_, rfl⟩
 have X0 := lhd (b1.below a3 (by omega))
 have X1 := lhd a1
 have HB := lhd (b3.trans (a3.mono (by omega)))
 have h02 : g0 < w2.heap.size := by omega
 have h12 : g1 < w2.heap.size := by omega
 rw [hg1] at X1 ⊢
 rw [hg0] at X0 ⊢
 have ca := X0.out.cell 0
 clear b1 b2 b3 a1 a2 a3 hg0 hg1
 go_wp2_with fail
 refine (search_any n (posN l p) 236 #[.pointer (some ⟨g1, 0, none⟩), .pointer (some ⟨g0, 0, none⟩)] (fun i => aheadB p (nP (l.getD i nd0))) w2 HL.out (by rw [← HN.out]; exact posN_le l p) (fun args w => enters_of Tryz.func236 (by kernel_rfl) rfl args w)
  (fun i hi => posN_at l p HO.out i (by rw [HN.out]; exact hi)) (fun i W hi hW => ?_)).mono ?_
 ·refine plFn_any l p _ i g1 g0 W ((HR.out.below (HB.out.trans (hW.mono HB.out.size))).more (HB.out.trans (hW.mono HB.out.size)).size) (by rw [HN.out]; exact hi) (Nat.lt_of_lt_of_le h12 hW.size) (Nat.lt_of_lt_of_le h02 hW.size) ((hW.cell h12).trans (X1.out.cell 0)) ((hW.cell h02).trans (X0.out.cell 0))
 rintro e w3 ⟨rfl, hb⟩
 have HB3 := lhd (HB.out.trans (hb.mono HB.out.size))
 clear hb ca
 go_wp2
 go_ret
 exact ⟨rfl, HB3.out⟩
theorem run_copy_nds {P : Program} (w : World) (dT sT ty elem : TypeId) (b o dLen dCap : Nat) (a : Addr) (sLen sCap : Nat) (cs : List Value)
 (hu : P.underlying dT = some (.slice elem)) (hs : (P.info? elem).map (·.size) = some 4) (hn : cs.length = Nat.min sLen dLen * 4)
 (hsrc : ∀ j v, cs[j]? = some v → w.cell? (a.add j) = some v) (hc : ∀ j, j < cs.length → (w.cell? ⟨b, o + j, none⟩).isSome = true ∧ w.frozen? ⟨b, o + j, none⟩ = false) (h1 : ∀ v ∈ cs, v.oneCell' = true) :
 (Builtin.copy_ #[dT, sT] ty #[.slice (some ⟨b, o, none⟩) dLen dCap, .slice (some a) sLen sCap]).run P w = .ok (goInt (Nat.min sLen dLen)) (w.setCells b o cs) := by
 have hl := run_loadCells_list (P := P) w a cs hsrc
 have hst := run_storeCells_cells (P := P) b o cs 0 w (fun j hj => (hc j hj).1) (fun j hj => (hc j hj).2) h1
 rw [Nat.add_zero] at hst
 cases hq : P.info? elem with
 | none => simp [hq] at hs
 | some i =>
   have hi : i.size = 4 := by simpa [hq] using hs
   rw [hn] at hl
   simp [Builtin.copy_, run_underlying hu, Builtin.lenOf, Builtin.firstCells, sizeOf, typeInfo, hq, hi, hl, hst]
theorem wpList_copy_run {P : Program} {w : World} {ops : Array Oper} {rest : List Oper} {o : Oper} {a : Act} {Q : Exit → Act → World → Prop} (hgd : o.guard = none) (d s : Operand) (t t' : TypeId)
 (ho : o.op = .call { callee := .builtin .copy, args := #[d, s], argTypes := #[t, t'] }) (v u : Value) (hd : a.eval d = v) (hs : a.eval s = u) {v' : Value} {w' : World} (hr : (Builtin.copy_ #[t, t'] o.type #[v, u]).run P w = .ok v' w')
 (h : wpList P ops Q rest (a.put o.dst v') w') : wpList P ops Q (o :: rest) a w := by
 refine wpList_plain hgd fun K hK => ?_
 unfold Oper.wp execOp
 simp only [ho, resolve, invoke, builtin, Sem.run_bind, Sem.run_pure, Result.andThen_ok, List.map_toArray, List.map_cons, List.map_nil, hd, hs, hr]
 exact hK _ _ h
theorem step_copy_run {P : Program} {ops : Array Oper} {o : Oper} {a : Act} {w : World} {K : Act → World → Prop} {Q : Exit → Act → World → Prop} {E : Prop}
 (hg : o.guard = none) (d x : Operand) (dT sT : TypeId) (hop : o.op = Op.call { callee := Callee.builtin Builtin.copy, args := #[d, x], argTypes := #[dT, sT] })
 (v u : Value) (hd : a.eval d = v) (hx : a.eval x = u) {v' : Value} {w' : World} (hr : (Builtin.copy_ #[dT, sT] o.type #[v, u]).run P w = .ok v' w') (hK : K (a.put o.dst v') w') :
 if Region.wanted o (yielded ops a.tmps) = true then Oper.wp P o a w K Q else E := by
 have hw : Region.wanted o (yielded ops a.tmps) = true := by simp [Region.wanted, hg]
 rw [if_pos hw]
 unfold Oper.wp
 simp [execOp, hop, resolve, invoke, builtin, hd, hx, hr, Result.andThen]
 exact hK
theorem RdNd.ofBlk {w : World} {g : Nat} {x : Nd} {e : TypeId} (h : Blk w g (ndc x) e) : RdNd (g + 1) w (.slice (some ⟨g, 0, none⟩) 1 1) [x] := by
 refine ⟨some ⟨g, 0, none⟩, 1, rfl, Nat.le_refl _, by decide, fun h => (by cases h), fun a ha => ?_⟩
 cases ha
 refine ⟨fun _ => Nat.lt_succ_self _, fun j u hu => ?_⟩
 rw [nds_one] at hu
 have hadd : (⟨g, 0, none⟩ : Addr).add j = ⟨g, j, none⟩ := by unfold Addr.add; split <;> simp_all
 rw [hadd]
 exact (h.cell j).trans hu
theorem nds_ins (l : List Nd) (x : Nd) (m : Nat) : nds (l.take m ++ x :: l.drop m) = nds (l.take m) ++ (ndc x ++ nds (l.drop m)) := by
 rw [nds_append, show x :: l.drop m = [x] ++ l.drop m from rfl, nds_append, nds_one]
theorem ins_len (l : List Nd) (x : Nd) (m : Nat) (hm : m ≤ l.length) : (l.take m ++ x :: l.drop m).length = l.length + 1 := by
 simp only [List.length_append, List.length_take, List.length_cons, List.length_drop]
 omega
theorem take3 (A B D : List Value) (k : Nat) : (A ++ (B ++ D)).take (A.length + B.length + k) = A ++ (B ++ D.take k) := by
 rw [← List.append_assoc, show A.length + B.length = (A ++ B).length by simp, List.take_length_add_append, List.append_assoc]
theorem ins_row1 (C : List Value) (l : List Nd) (x : Nd) (m cap : Nat) (hC : C.length = cap * 4) (hr : l.length + 1 ≤ cap) (hm : m ≤ l.length) (h : C.take (m * 4) = nds (l.take m)) (C1 C2 : List Value)
 (e1 : C1 = C.take (m * 4) ++ (ndc x ++ C.drop (m * 4 + (ndc x).length))) (e2 : C2 = C1.take ((m + 1) * 4) ++ (nds (l.drop m) ++ C1.drop ((m + 1) * 4 + (nds (l.drop m)).length))) :
 C1.length = cap * 4 ∧ C2.length = cap * 4 ∧ C2.take ((l.length + 1) * 4) = nds (l.take m ++ x :: l.drop m) := by
 have hx : (ndc x).length = 4 := rfl
 have hd : (nds (l.drop m)).length = (l.length - m) * 4 := by rw [nds_length, List.length_drop]; omega
 have l1 : C1.length = cap * 4 := by rw [e1, written_len C (ndc x) (m * 4) (by rw [hx, hC]; omega), hC]
 have l2 : C2.length = cap * 4 := by rw [e2, written_len C1 _ ((m + 1) * 4) (by rw [hd, l1]; omega), l1]
 refine ⟨l1, l2, ?_⟩
 have t1 := written_more C (ndc x) (m * 4) (by rw [hx, hC]; omega)
 rw [← e1, hx, show m * 4 + 4 = (m + 1) * 4 by omega, h] at t1
 have t2 := written_more C1 (nds (l.drop m)) ((m + 1) * 4) (by rw [hd, l1]; omega)
 rw [← e2, hd, t1, show (m + 1) * 4 + (l.length - m) * 4 = (l.length + 1) * 4 by omega] at t2
 rw [t2, nds_ins, List.append_assoc]
theorem ins_row2 (C : List Value) (l : List Nd) (x : Nd) (m cap : Nat) (hC : C.length = cap * 4) (hr : l.length + 1 ≤ cap) (hm : m ≤ l.length) (h : C.take (m * 4) = nds (l.take m)) (C1 C2 : List Value)
 (e1 : C1 = C.take ((m + 1) * 4) ++ (nds (l.drop m) ++ C.drop ((m + 1) * 4 + (nds (l.drop m)).length))) (e2 : C2 = C1.take (m * 4) ++ (ndc x ++ C1.drop (m * 4 + (ndc x).length))) :
 C1.length = cap * 4 ∧ C2.length = cap * 4 ∧ C2.take ((l.length + 1) * 4) = nds (l.take m ++ x :: l.drop m) := by
 have hx : (ndc x).length = 4 := rfl
 have hd : (nds (l.drop m)).length = (l.length - m) * 4 := by rw [nds_length, List.length_drop]; omega
 have l1 : C1.length = cap * 4 := by rw [e1, written_len C _ ((m + 1) * 4) (by rw [hd, hC]; omega), hC]
 have l2 : C2.length = cap * 4 := by rw [e2, written_len C1 (ndc x) (m * 4) (by rw [hx, l1]; omega), l1]
 refine ⟨l1, l2, ?_⟩
 have t1 := written_more C (nds (l.drop m)) ((m + 1) * 4) (by rw [hd, hC]; omega)
 rw [← e1, hd] at t1
 have t0 : C1.take (m * 4) = nds (l.take m) := by
  have := congrArg (List.take (m * 4)) t1
  rw [List.take_take, Nat.min_eq_left (by omega), List.take_append_of_le_length (by rw [List.length_take]; omega), List.take_take, Nat.min_eq_left (by omega), h] at this
  exact this
 have t3 : (C1.drop (m * 4 + 4)).take ((l.length - m) * 4) = nds (l.drop m) := by
  have := congrArg (List.drop ((m + 1) * 4)) t1
  rw [List.drop_take, List.drop_left' (by rw [List.length_take]; omega)] at this
  rw [show (m + 1) * 4 + (l.length - m) * 4 - (m + 1) * 4 = (l.length - m) * 4 by omega, show (m + 1) * 4 = m * 4 + 4 by omega] at this
  exact this
 rw [e2, t0, nds_ins, hx]
 have hl0 : (nds (l.take m)).length = m * 4 := by rw [nds_length, List.length_take]; omega
 rw [show (l.length + 1) * 4 = (nds (l.take m)).length + (ndc x).length + (l.length - m) * 4 by rw [hl0, hx]; omega, take3, t3]
def insAt (l : List Nd) (x : Nd) (m : Nat) : List Nd := l.take m ++ x :: l.drop m
theorem insEnd_any (l : List Nd) (x : Nd) (base gv : Nat) (u : Value) (W : World) (hB : base ≤ W.heap.size) (ho : OwnNd 157 W base u l) (hl : l.length ≤ 100000) (hv : Blk W gv (ndc x) 157) :
 Calls Tryz.prog 208 #[u, .int .i64 (l.length : Int), .slice (some ⟨gv, 0, none⟩) 1 1] W (EditsTo base (insAt l x l.length) W) := by
 obtain ⟨i1, hJ, hy0, hy1, hy2⟩ := info_partsPN
 obtain ⟨A, cp, rfl, hc, hm⟩ := ho.rd.shape
 unfold maxLen at hm
 have HO := lhd ho
 have HL := lhd hl
 have HV := lhd hv
 have hR := RdNd.ofBlk hv
 have HR := lhd hR
 have HE : Hid (insAt l x l.length = l ++ [x]) := by
  show _ = _
  unfold insAt
  rw [List.take_length, List.drop_length]
 obtain ⟨n, hn⟩ : ∃ n, l.length = n := ⟨_, rfl⟩
 have HN := lhd hn
 obtain ⟨L, hL⟩ : ∃ L, insAt l x l.length = L := ⟨_, rfl⟩
 rw [hL] at HE ⊢
 rw [hn] at HO HL hc ⊢
 clear ho hl hv hR hn hL
 go_enter Tryz.func208, Tryz.ntmps208
 go_wp2_with (at_builtin; refine wpList_appNd rfl _ _ 39 rfl 157 i1 Tryz.underlying39 hJ hy0 hy1 hy2 base _ _ _ l [x] rfl HO.out rfl HR.out (by have := HL.out; have := HN.out; simp; omega) hB ?_)
 all_goals
  intro v' w' h1 h2 h3
  have H1 := lhd h1
  have H2 := lhd h2
  clear h1 h2 h3
  go_wp2
  go_ret
  rw [HE.out]
  exact ⟨_, rfl, H1.out, H2.out⟩
end Go.Proofs.YtgfobinklijkpaaGreatDoor
