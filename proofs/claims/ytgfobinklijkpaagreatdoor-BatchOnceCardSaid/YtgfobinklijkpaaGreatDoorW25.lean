/-
  Texts G7 HH RC4 HG HI G8.
-/
import Derived.Test.YtgfobinklijkpaaGreatDoorW01
import Derived.Deep.MidRow
import Derived.Test.YtgfobinklijkpaaGreatDoorW03
import Derived.Test.YtgfobinklijkpaaGreatDoorW06
import Derived.Test.YtgfobinklijkpaaGreatDoorW23
import Derived.Test.YtgfobinklijkpaaGreatDoorW24
namespace Go.Proofs.YtgfobinklijkpaaGreatDoor
set_option maxRecDepth 100000
set_option maxHeartbeats 16000000
open Go.RowKit
def OwnsN (l : List Nd) (w : World) (e : Ending) (w' : World) : Prop := ∃ u, e = .returned u ∧ OwnNd 157 w' w.heap.size u l ∧ Below w.heap.size w w'
theorem clone_any (l : List Nd) (v : Value) (w : World) (hr : RdNd w.heap.size w v l) (hl : l.length ≤ 100000) : Calls Tryz.prog 86 #[v] w (OwnsN l w) := by
 obtain ⟨i1, hJ, hy0, hy1, hy2⟩ := info_partsPN
 obtain ⟨A, cp, rfl, hc, hm⟩ := hr.shape
 unfold maxLen at hm
 cases A with
 | none =>
   obtain ⟨A', c', hv, _, _, hn, _⟩ := hr
   injection hv with q1 q2 q3
   subst q1 q3
   have h0 := hn rfl
   have h1 : l = [] := List.eq_nil_of_length_eq_zero (by omega)
   subst h1
   subst h0
   have he : ∀ w, (binOp .eql 39 (.slice none 0 0) (.slice none 0 0)).run Tryz.prog w = .ok (.bool true) w := fun _ => rfl
   go_enter Tryz.func86, Tryz.ntmps86
   go_wp2
   go_ret
   exact ⟨_, rfl, OwnNd.nil _ _ _, Below.refl _ _⟩
 | some a =>
   have HR := lhd hr
   have HL := lhd hl
   obtain ⟨n, hn⟩ : ∃ n, l.length = n := ⟨_, rfl⟩
   rw [hn] at HR hc ⊢
   clear hr hl hn
   have he : ∀ w, (binOp .eql 39 (.slice (some a) n cp) (.slice none 0 0)).run Tryz.prog w = .ok (.bool false) w := fun _ => rfl
   have HO : Hid (OwnNd 157 (w.alloc (.cells #[] 157)) w.heap.size (.slice (some ⟨w.heap.size, 0, none⟩) 0 0) []) := OwnNd.empty 157 w w.heap.size (Nat.le_refl _)
   have HA : Hid (Below w.heap.size w (w.alloc (.cells #[] 157))) := (Below.refl _ _).alloc (Nat.le_refl _) _
   have HR2 := lhd (HR.out.below HA.out)
   go_enter Tryz.func86, Tryz.ntmps86
   go_wp2_with (at_builtin; refine wpList_appNd rfl _ _ 39 rfl 157 i1 Tryz.underlying39 hJ hy0 hy1 hy2 w.heap.size _ _ _ [] l rfl HO.out rfl HR2.out ?d1 ?d2 ?_)
   case d1 => have := HL.out; simp; omega
   case d2 => simp
   intro v' w' h1 h2 h3
   have H1 := lhd h1
   have H2 := lhd (HA.out.trans h2)
   clear h1 h2 h3
   go_wp2
   go_ret
   exact ⟨_, rfl, H1.out, H2.out⟩
def ShelvesO (l : List Nd) (f : Nat) (w : World) (e : Ending) (w' : World) : Prop := ∃ v, e = .returned (.tuple #[.agg #[v], .int .i64 (f : Int)]) ∧ OwnNd 157 w' w.heap.size v l ∧ Below w.heap.size w w'
def EditsTo (base : Nat) (l' : List Nd) (W : World) (e : Ending) (w' : World) : Prop := ∃ u, e = .returned u ∧ OwnNd 157 w' base u l' ∧ Below base W w'
theorem shChange_any (l l' l9 : List Nd) (v : Value) (f1 f2 : Nat) (lb1 lb2 : Array Value) (F : Nat) (w : World) (hr : RdNd w.heap.size w v l) (hl : l.length ≤ 100000)
 (e1 : ∀ args w, (callFunc f1 args).run Tryz.prog w = .ok (.enter f1 args) w) (e2 : ∀ args w, (callFunc f2 args).run Tryz.prog w = .ok (.enter f2 args) w)
 (h1 : ∀ W, Below w.heap.size w W → Calls Tryz.prog f1 lb1 W (One (.int .i64 (F : Int)) W))
 (h2 : F = 0 → ∀ base u W, w.heap.size ≤ base → base ≤ W.heap.size → Below w.heap.size w W → OwnNd 157 W base u l → Calls Tryz.prog f2 (#[u] ++ lb2) W (EditsTo base l' W)) (q1 : F = 0 → l9 = l') (q2 : F ≠ 0 → l9 = l) :
 Calls Tryz.prog 206 #[.agg #[v], .func (.func f1) #[] lb1, .func (.func f2) #[] lb2] w (ShelvesO l9 F w) := by
 obtain ⟨d30, hu30, hd30⟩ := rowPS
 have HU := lhd hu30
 have HD := lhd hd30
 have HR := lhd hr
 have HL := lhd hl
 have H1 := lhd h1
 have H2 := lhd h2
 have Q1 := lhd q1
 have Q2 := lhd q2
 clear hr hl h1 h2 hu30 hd30 q1 q2
 go_enter Tryz.func206, Tryz.ntmps206
 go_wp2_with (refine wpList_box_blk rfl 41 _ rfl [v] rfl ?_)
 intro w1 b1 b2 b3
 go_wp2_with (refine wpList_alloc_blk rfl 41 rfl [.slice none 0 0] zPS ?_)
 intro w2 a1 a2 a3
 obtain ⟨g0, hg0⟩ : ∃ g, w.heap.size = g := ⟨_, rfl⟩
 obtain ⟨g1, hg1⟩ : ∃ g, w.heap.size + 1 = g := ⟨_, rfl⟩
 have X0 := lhd (b1.below a3 (by omega))
 have X1 := lhd a1
 have HB := lhd (b3.trans (a3.mono (by omega)))
 have hg02 : g0 < w2.heap.size := by omega
 have hg12 : g1 < w2.heap.size := by omega
 have hw1 : w.heap.size ≤ g1 := by omega
 rw [hg1] at X1 ⊢
 rw [hg0] at X0 ⊢
 have ca := X0.out.cell 0
 clear b1 b2 b3 a1 a2 a3 hg0 hg1
 go_wp2_with fail
 refine (clone_any l v w2 ((HR.out.below HB.out).more HB.out.size) HL.out).mono ?_
 rintro e w3 ⟨u, rfl, ho, hb⟩
 have HO := lhd ho
 have HC := lhd hb
 clear ho hb ca
 obtain ⟨A, c, rfl, -, -⟩ := HO.out.rd.shape
 go_wp2_with fail
 refine (H1.out w3 (HB.out.trans (HC.out.mono HB.out.size))).mono ?_
 rintro e w4 ⟨rfl, hb⟩
 have HO4 := lhd (HO.out.below hb (Nat.le_refl _))
 have HC4 := lhd (HC.out.trans (hb.mono HC.out.size))
 clear hb HO HC
 by_cases hF : F = 0
 ·have HE := lhd (H2.out hF)
  have HQ := lhd (Q1.out hF)
  subst hF
  clear H1 H2 Q1 Q2
  go_wp2_with fail
  refine (HE.out w2.heap.size _ w4 HB.out.size HC4.out.size (HB.out.trans (HC4.out.mono HB.out.size)) HO4.out).mono ?_
  rintro e w5 ⟨u, rfl, ho, hb⟩
  have HO5 := lhd ho
  have HC5 := lhd (HC4.out.trans hb)
  clear ho hb HO4 HC4
  obtain ⟨A5, c5, hq, -, -⟩ := HO5.out.rd.shape
  obtain ⟨n5, hn5⟩ : ∃ n, l'.length = n := ⟨_, rfl⟩
  rw [hn5] at hq
  subst hq
  clear hn5
  have X1c := lhd (X1.out.below HC5.out hg12)
  go_wp2_with (refine wpList_store_to rfl 41 _ _ rfl g1 [.slice A5 n5 c5] [.slice none 0 0] 41 rfl rfl X1c.out sPS rfl (slice_one _ _ _) ?_)
  intro w9 e1 e2 e3 e4
  go_wp2
  refine bodyPost_ret (v := .tuple #[.agg [Value.slice A5 n5 c5].toArray, .int .i64 0]) ?_ rfl ?_
  ·exact ret_blk2U rfl _ _ g1 41 [.slice A5 n5 c5] _ rfl rfl e1 d30 HU.out HD.out sPS
  ·rw [HQ.out]
   exact ⟨_, rfl, OwnNd.base (ownsRow_same HO5.out (fun k hk => e4 k (by omega))) HB.out.size, HB.out.trans ((HC5.out.mono HB.out.size).trans (e3.mono hw1))⟩
 ·have HQ := lhd (Q2.out hF)
  clear H1 H2 Q1 Q2
  have z0 : ((F : Int) != 0) = true := by rw [bne_iff_ne]; omega
  have X1c := lhd (X1.out.below HC4.out hg12)
  obtain ⟨n, hn⟩ : ∃ n, l.length = n := ⟨_, rfl⟩
  rw [hn] at HO4 ⊢
  clear hF hn
  go_wp2_with (refine wpList_store_to rfl 41 _ _ rfl g1 [.slice A n c] [.slice none 0 0] 41 rfl rfl X1c.out sPS rfl (slice_one _ _ _) ?_)
  intro w9 e1 e2 e3 e4
  go_wp2
  refine bodyPost_ret (v := .tuple #[.agg [Value.slice A n c].toArray, .int .i64 (F : Int)]) ?_ rfl ?_
  ·exact ret_blk2U rfl _ _ g1 41 [.slice A n c] _ rfl rfl e1 d30 HU.out HD.out sPS
  ·rw [HQ.out]
   exact ⟨_, rfl, OwnNd.base (ownsRow_same HO4.out (fun k hk => e4 k (by omega))) HB.out.size, HB.out.trans ((HC4.out.mono HB.out.size).trans (e3.mono hw1))⟩
theorem nds_cut (l : List Nd) (i : Nat) (hi : i < l.length) : (nds l).take (i * 4) = nds (l.take i) ∧ (nds l).drop (i * 4 + 4) = nds (l.drop (i + 1)) := by
 have e : l = l.take i ++ (l[i] :: l.drop (i + 1)) := by
  rw [← List.drop_eq_getElem_cons hi, List.take_append_drop]
 have e1 : nds l = nds (l.take i) ++ (ndc l[i] ++ nds (l.drop (i + 1))) := by
  have h := congrArg nds e
  rw [nds_append, show l[i] :: l.drop (i + 1) = [l[i]] ++ l.drop (i + 1) from rfl, nds_append, nds_one] at h
  exact h
 have hl : (nds (l.take i)).length = i * 4 := by
  rw [nds_length, List.length_take, Nat.min_eq_left (by omega)]
  omega
 rw [e1]
 refine ⟨List.take_left' hl, ?_⟩
 rw [← List.drop_drop, List.drop_left' hl]
 exact List.drop_left' rfl
theorem nds_set (l : List Nd) (i : Nat) (x : Nd) (hi : i < l.length) : nds (l.set i x) = (nds l).take (i * 4) ++ (ndc x ++ (nds l).drop (i * 4 + 4)) := by
 rw [(nds_cut l i hi).1, (nds_cut l i hi).2, List.set_eq_take_append_cons_drop, if_pos hi, nds_append, show x :: l.drop (i + 1) = [x] ++ l.drop (i + 1) from rfl, nds_append, nds_one]
theorem below_setCells {B g : Nat} (hBg : B ≤ g) {w0 : World} : ∀ (vs : List Value) (o : Nat) (w : World), Below B w0 w → Below B w0 (w.setCells g o vs)
 | [], _, _, h => h
 | v :: r, o, w, h => below_setCells hBg r (o + 1) (w.setCell ⟨g, o, none⟩ v) (h.setCell hBg v)
theorem OwnNd.inBlock {e : TypeId} {w : World} {base : Nat} {v : Value} {l : List Nd} (h : OwnNd e w base v l) (hn : 0 < l.length) : ∃ g cap, v = .slice (some ⟨g, 0, none⟩) l.length cap ∧ l.length ≤ cap ∧ base ≤ g ∧ g < w.heap.size := by
 rcases h.2 with ⟨_, h1⟩ | ⟨g, cap, cur, h1, h2, h3, h4, _⟩
 ·omega
 ·exact ⟨g, cap, h1, h4, h2, (Array.getElem?_eq_some_iff.1 h3).1⟩
theorem OwnNd.block {e : TypeId} {w : World} {base n cap g : Nat} {l : List Nd} (h : OwnNd e w base (.slice (some ⟨g, 0, none⟩) n cap) l) : ∃ cur : Array Value, Blk w g cur.toList e ∧ base ≤ g ∧ l.length ≤ cap ∧ cap ≤ maxLen ∧ cur.size = cap * 4 ∧ cur.toList.take (l.length * 4) = nds l ∧ n = l.length := by
 rcases h.2 with ⟨h1, _⟩ | ⟨g', cap', cur, h1, h2, h3, h4, h5, h6, h7⟩
 ·simp at h1
 ·injection h1 with h1 hn hc
  injection h1 with h1
  injection h1 with h1
  subst h1 hc
  refine ⟨cur, ?_, h2, h4, h5, h6, h7, hn⟩
  unfold Blk
  simpa using h3
section
variable {P : Program} {l : List Oper} {Q : Exit → Act → World → Prop} {F : (Nat → Value) → Act} {Φ : Nat → Value → World → Prop} {w0 : World}
end
theorem set_err (l : List Nd) (p v : List UInt8) (ver : Int) (f : Nat) (h : setE l p v ver = f) (h0 : f ≠ 0) : setE l p v ver = f ∧ setS l p v ver = l := by
 refine ⟨h, ?_⟩
 unfold setS
 rw [if_neg (by rw [h]; exact h0)]
theorem set_ok (l : List Nd) (p v : List UInt8) (ver : Int) (h : setE l p v ver = 0) : setE l p v ver = 0 ∧ setS l p v ver = l.set (placeN l p) (p, v, IntKind.i64.wrap (nR (nodeN l p) + 1), nO (nodeN l p)) := by
 refine ⟨h, ?_⟩
 unfold setS
 rw [if_pos h]
theorem OwnNd.of {e : TypeId} {w : World} {base g cap : Nat} {l : List Nd} (cur : List Value) (hb : Blk w g cur e) (h2 : base ≤ g) (h4 : l.length ≤ cap) (h5 : cap ≤ maxLen) (h6 : cur.length = cap * 4) (h7 : cur.take (l.length * 4) = nds l) :
 OwnNd e w base (.slice (some ⟨g, 0, none⟩) l.length cap) l := by
 refine ⟨?_, .inr ⟨g, cap, cur.toArray, rfl, h2, hb, h4, h5, ?_, ?_⟩⟩
 ·rw [nds_length]; omega
 ·simpa using h6
 ·simpa using h7
theorem nds_setk (l : List Nd) (i k : Nat) (v : Value) (y : Nd) (hi : i < l.length) (hk : k < 4) (hy : ndc y = (ndc (l.getD i nd0)).set k v) : (nds l).set (i * 4 + k) v = nds (l.set i y) := by
 rw [nds_set l i y hi, hy]
 have e1 : nds l = (nds l).take (i * 4) ++ (ndc (l.getD i nd0) ++ (nds l).drop (i * 4 + 4)) := by
  have h := nds_set l i (l.getD i nd0) hi
  rw [← h]
  congr 1
  refine List.ext_getElem (by simp) fun j h1 h2 => ?_
  rw [List.getElem_set]
  split
  ·rename_i hij
   subst hij
   rw [List.getD_eq_getElem?_getD, List.getElem?_eq_getElem hi]
   rfl
  ·rfl
 have hl : ((nds l).take (i * 4)).length = i * 4 := by
  rw [List.length_take, nds_length]
  omega
 have hx : (ndc (l.getD i nd0)).length = 4 := rfl
 conv => lhs; rw [e1]
 rw [List.set_append, if_neg (by omega), List.set_append, if_pos (by rw [hl, hx]; omega), hl, show i * 4 + k - i * 4 = k by omega]
theorem wrap64_eq (z : Int) : wrap64 z = IntKind.i64.wrap z := by
 unfold wrap64
 rw [IntKind.wrap_i64]
theorem getD_set (l : List Nd) (i : Nat) (y : Nd) (hi : i < l.length) : (l.set i y).getD i nd0 = y := by
 rw [List.getD_eq_getElem?_getD, List.getElem?_set_self hi]
 rfl
theorem take_set (A : List Value) (j n : Nat) (v : Value) : (A.set j v).take n = (A.take n).set j v := by
 refine List.ext_getElem (by simp) fun i h1 h2 => ?_
 simp [List.getElem_set]
theorem OwnNd.cellK {e : TypeId} {w : World} {base n cap g : Nat} {l : List Nd} (h : OwnNd e w base (.slice (some ⟨g, 0, none⟩) n cap) l) (i k : Nat) (hi : i < l.length) (hk : k < 4) :
 w.cell? ⟨g, i * 4 + k, none⟩ = some ((ndc (l.getD i nd0)).getD k undef) ∧ w.frozen? ⟨g, i * 4 + k, none⟩ = false := by
 obtain ⟨cur, hb, h2, h4, h5, h6, h7, hn⟩ := h.block
 refine ⟨?_, hb.frozen _⟩
 have hr := h.rd
 subst hn
 have := hr.node i hi k _ (ndc_get _ k hk)
 rw [Addr.add_add] at this
 have hadd : (⟨g, 0, none⟩ : Addr).add (i * 4 + k) = ⟨g, i * 4 + k, none⟩ := by unfold Addr.add; split <;> simp_all
 rw [hadd] at this
 exact this
theorem OwnNd.storedK {e : TypeId} {w : World} {base n cap g : Nat} {l : List Nd} (h : OwnNd e w base (.slice (some ⟨g, 0, none⟩) n cap) l) (i k : Nat) (hi : i < l.length) (hk : k < 4) (v : Value) (y : Nd) (hy : ndc y = (ndc (l.getD i nd0)).set k v) :
 OwnNd e (w.setCell ⟨g, i * 4 + k, none⟩ v) base (.slice (some ⟨g, 0, none⟩) n cap) (l.set i y) ∧ Below base w (w.setCell ⟨g, i * 4 + k, none⟩ v) := by
 obtain ⟨cur, hb, h2, h4, h5, h6, h7, hn⟩ := h.block
 have hcl : cur.toList.length = cap * 4 := by rw [Array.length_toList, h6]
 refine ⟨?_, (Below.refl _ _).setCell h2 _⟩
 ·have := OwnNd.of (e := e) (base := base) (cap := cap) (l := l.set i y) (cur.toList.set (i * 4 + k) v) (hb.set (i * 4 + k) v) h2 (by rw [List.length_set]; exact h4) h5 (by rw [List.length_set]; exact hcl)
   (by rw [List.length_set, take_set _ _ _ _, h7]; exact nds_setk l i k v y hi hk hy)
  rw [List.length_set, ← hn] at this
  exact this
theorem setEd_any (l : List Nd) (p vl : List UInt8) (i base : Nat) (u : Value) (gp gv : Nat) (W : World) (hB : base ≤ W.heap.size) (ho : OwnNd 157 W base u l) (hA : atI l p = (i : Int)) (hi : i < l.length) (_b1 : gp < base) (b2 : gv < base)
 (c1 : W.cell? ⟨gp, 0, none⟩ = some (txt p)) (c2 : W.cell? ⟨gv, 0, none⟩ = some (txt vl)) :
 Calls Tryz.prog 213 #[u, .pointer (some ⟨gp, 0, none⟩), .pointer (some ⟨gv, 0, none⟩)] W (EditsTo base (l.set i (nP (l.getD i nd0), vl, IntKind.i64.wrap (nR (l.getD i nd0) + 1), nO (l.getD i nd0))) W) := by
 obtain ⟨g, cap, rfl, hcap, hbg, hgW⟩ := ho.inBlock (by omega)
 obtain ⟨n, hn⟩ : ∃ n, l.length = n := ⟨_, rfl⟩
 have HN := lhd hn
 have HO := lhd ho
 have HAI := lhd hA
 have K2 := lhd c2
 have hcm : cap ≤ maxLen := by
  obtain ⟨_, _, _, _, h5, _⟩ := ho.block
  exact h5
 unfold maxLen at hcm
 rw [hn] at hcap hi HO ⊢
 have zi : (i : Int) < (n : Int) := by omega
 clear ho hA hn c2
 obtain ⟨y, hy⟩ : ∃ y, l.getD i nd0 = y := ⟨_, rfl⟩
 have HY := lhd hy
 rw [hy]
 clear hy
 go_enter Tryz.func213, Tryz.ntmps213
 go_wp2_with fail
 refine (shIndex_any l p _ W HO.out.rd).mono ?_
 rintro e W1 ⟨rfl, hb⟩
 rw [HAI.out]
 have HO1 := lhd (HO.out.below hb (Nat.le_refl _))
 have HB := lhd (hb.mono hB)
 clear hb c1 HO
 have c2 := (HB.out.cell b2).trans K2.out
 have d1 := HO1.out.storedK i 1 (by rw [HN.out]; exact hi) (by decide) (txt vl) (nP y, vl, nR y, nO y) (by rw [HY.out]; rfl)
 have d2 := d1.1.storedK i 2 (by rw [List.length_set, HN.out]; exact hi) (by decide) (.int .i64 (wrap64 (nR y + 1))) (nP y, vl, wrap64 (nR y + 1), nO y) (by rw [getD_set l i _ (by rw [HN.out]; exact hi)]; rfl)
 rw [List.set_set] at d2
 have D1 := lhd d1.2
 have D2 := lhd d2
 obtain ⟨e1, e2⟩ := HO1.out.cellK i 1 (by rw [HN.out]; exact hi) (by decide)
 obtain ⟨e3, e4⟩ := HO1.out.cellK i 2 (by rw [HN.out]; exact hi) (by decide)
 clear d1 d2
 rw [HY.out] at e1 e3
 change W1.cell? ⟨g, i * 4 + 1, none⟩ = some (txt (nV y)) at e1
 change W1.cell? ⟨g, i * 4 + 2, none⟩ = some (.int .i64 (nR y)) at e3
 go_wp2
 go_ret
 refine ⟨_, rfl, ?_, (HB.out.trans D1.out).trans D2.out.2⟩
 rw [← wrap64_eq]
 exact D2.out.1
theorem set_place (l : List Nd) (p v : List UInt8) (z : Int) (h : setE l p v z = 0) : atI l p = (placeN l p : Int) ∧ placeN l p < l.length ∧ nP (l.getD (placeN l p) nd0) = p := by
 have h0 : getE l p = 0 := by
  unfold setE at h
  by_cases h0 : getE l p = 0
  ·exact h0
  ·rw [if_pos h0] at h
   exact h
 have hH : hasN l p = true := by
  unfold getE at h0
  cases hH : hasN l p
  ·rw [hH] at h0
   split at h0 <;> simp at h0
  ·rfl
 have hlt : placeN l p < l.length := by
  unfold hasN at hH
  simpa using hH
 refine ⟨?_, hlt, (placeN_at l p hlt).1⟩
 unfold atI
 rw [hH]
 rfl
theorem shSet_own (l : List Nd) (p vl : List UInt8) (z : Int) (v : Value) (w : World) (hr : RdNd w.heap.size w v l) (hl : l.length ≤ 100000) (hR : rightN l = true) : Calls Tryz.prog 179 #[.agg #[v], txt p, txt vl, .int .i64 z] w (ShelvesE 157 v (setS l p vl z) (setE l p vl z) w) := by
 have hmf : ∀ (fn : Fn) (first cap : Array Value) (w : World), (Instr.makeFunc fn first cap).run Tryz.prog w = .ok (.func fn first cap) w := fun _ _ _ _ => rfl
 obtain ⟨d30, hu30, hd30⟩ := rowPS
 have HU := lhd hu30
 have HD := lhd hd30
 have HR := lhd hr
 have HL := lhd hl
 have HRT := lhd hR
 clear hR
 clear hr hl hu30 hd30
 go_enter Tryz.func179, Tryz.ntmps179
 go_wp2_with (refine wpList_box_blk rfl 41 _ rfl [v] rfl ?_)
 intro w1 b0 s0 l0
 go_wp2_with (refine wpList_box_one rfl 9 _ rfl (txt p) rfl rfl ?_)
 intro w2 b1 s1 l1
 go_wp2_with (refine wpList_box_one rfl 9 _ rfl (txt vl) rfl rfl ?_)
 intro w3 b2 s2 l2
 go_wp2_with (refine wpList_box_one rfl 3 _ rfl (.int .i64 z) rfl rfl ?_)
 intro w4 b3 s3 l3
 go_wp2_with (refine wpList_alloc_blk rfl 41 rfl [.slice none 0 0] zPS ?_)
 intro W b4 s4 l4
 obtain ⟨g0, hg0⟩ : ∃ g, w.heap.size = g := ⟨_, rfl⟩
 obtain ⟨g1, hg1⟩ : ∃ g, w.heap.size + 1 = g := ⟨_, rfl⟩
 obtain ⟨g2, hg2⟩ : ∃ g, w.heap.size + 1 + 1 = g := ⟨_, rfl⟩
 obtain ⟨g3, hg3⟩ : ∃ g, w.heap.size + 1 + 1 + 1 = g := ⟨_, rfl⟩
 obtain ⟨g4, hg4⟩ : ∃ g, w.heap.size + 1 + 1 + 1 + 1 = g := ⟨_, rfl⟩
 have z1 : w1.heap.size = w.heap.size + 1 := by omega
 have z2 : w2.heap.size = w.heap.size + 2 := by omega
 have z3 : w3.heap.size = w.heap.size + 3 := by omega
 have z4 : w4.heap.size = w.heap.size + 4 := by omega
 have zW : W.heap.size = w.heap.size + 5 := by omega
 have x0 := ((((b0.below l1 (by omega)).below l2 (by omega)).below l3 (by omega)).below l4 (by omega))
 have x1 := (((b1.below l2 (by omega)).below l3 (by omega)).below l4 (by omega))
 have x2 := ((b2.below l3 (by omega)).below l4 (by omega))
 have x3 := (b3.below l4 (by omega))
 have x4 := b4
 have hB : Below w.heap.size w W := ((((l0.trans (l1.mono (by omega))).trans (l2.mono (by omega))).trans (l3.mono (by omega))).trans (l4.mono (by omega)))
 rw [hg4] at x4 ⊢
 rw [hg3] at x3 ⊢
 rw [hg2] at x2 ⊢
 rw [hg1] at x1 ⊢
 rw [hg0] at x0 ⊢
 have X0 := lhd x0
 have X1 := lhd x1
 have X2 := lhd x2
 have X3 := lhd x3
 have X4 := lhd x4
 have HB := lhd hB
 have hgW : g4 < W.heap.size := by omega
 have hW0 : g0 < W.heap.size := by omega
 have hW1 : g1 < W.heap.size := by omega
 have hW2 : g2 < W.heap.size := by omega
 have hW3 : g3 < W.heap.size := by omega
 have hwg : w.heap.size ≤ g4 := by omega
 clear b0 s0 l0 x0 b1 s1 l1 x1 b2 s2 l2 x2 b3 s3 l3 x3 b4 s4 l4 x4 hB zW z1 z2 z3 z4 hg0 hg1 hg2 hg3 hg4
 have C0 := lhd (X0.out.cell 0)
 have C1 := lhd (X1.out.cell 0)
 have C2 := lhd (X2.out.cell 0)
 have C3 := lhd (X3.out.cell 0)
 have HRW : Hid (RdNd W.heap.size W v l) := (HR.out.below HB.out).more HB.out.size
 have ca := C0.out
 go_wp2_with fail
 refine (shChange_any l (l.set (placeN l p) (p, vl, IntKind.i64.wrap (nR (nodeN l p) + 1), nO (nodeN l p))) (setS l p vl z) v 211 213 #[.pointer (some ⟨g0, 0, none⟩), .pointer (some ⟨g1, 0, none⟩), .pointer (some ⟨g3, 0, none⟩), .pointer (some ⟨g2, 0, none⟩)] #[.pointer (some ⟨g1, 0, none⟩), .pointer (some ⟨g2, 0, none⟩)] (setE l p vl z) W HRW.out HL.out (fun args w => enters_of Tryz.func211 (by kernel_rfl) rfl args w) (fun args w => enters_of Tryz.func213 (by kernel_rfl) rfl args w) ?h1 ?h2 ?q1 ?q2).mono ?_
 case h1 =>
  intro W1 hW
  have h := setFn_any l p vl z v g0 g1 g3 g2 W1 ((HRW.out.below hW).more hW.size) (Nat.lt_of_lt_of_le hW0 hW.size) (Nat.lt_of_lt_of_le hW1 hW.size) (Nat.lt_of_lt_of_le hW3 hW.size) (Nat.lt_of_lt_of_le hW2 hW.size)
   ((hW.cell hW0).trans C0.out) ((hW.cell hW1).trans C1.out) ((hW.cell hW3).trans C3.out) ((hW.cell hW2).trans C2.out)
  rw [setF_eq l p vl z HRT.out] at h
  exact h
 case h2 =>
  intro hF base u W1 hb1 hb2 hW ho
  obtain ⟨hA, hi, hp⟩ := set_place l p vl z hF
  have h := setEd_any l p vl (placeN l p) base u g1 g2 W1 hb2 ho hA hi (Nat.lt_of_lt_of_le hW1 hb1) (Nat.lt_of_lt_of_le hW2 hb1) ((hW.cell hW1).trans C1.out) ((hW.cell hW2).trans C2.out)
  rw [hp] at h
  exact h
 case q1 => exact fun h => (set_ok l p vl z h).2
 case q2 => exact fun h => (set_err l p vl z _ rfl h).2
 rintro e w6 ⟨u, rfl, ho, hb⟩
 have HO := lhd ho
 have HB6 := lhd (HB.out.trans (hb.mono HB.out.size))
 have X6 := lhd (X4.out.below hb hgW)
 obtain ⟨A, c, rfl, -, -⟩ := ho.rd.shape
 obtain ⟨F, hF⟩ : ∃ F, (setE l p vl z) = F := ⟨_, rfl⟩
 have HF := lhd hF
 obtain ⟨l9, hl9⟩ : ∃ q, (setS l p vl z) = q := ⟨_, rfl⟩
 have HL9 := lhd hl9
 obtain ⟨n9, hn9⟩ : ∃ q, l9.length = q := ⟨_, rfl⟩
 rw [hl9, hn9] at HO
 rw [hl9, hn9, hF]
 clear ho hb ca hF hl9 hn9
 go_wp2_with (refine wpList_store_to rfl 41 _ _ rfl g4 [.slice A n9 c] [.slice none 0 0] 41 rfl rfl X6.out sPS rfl (slice_one _ _ _) ?_)
 intro w9 e1 e2 e3 e4
 go_wp2
 refine bodyPost_ret (v := .tuple #[.agg [Value.slice A n9 c].toArray, .int .i64 (F : Int)]) ?_ rfl ?_
 ·exact ret_blk2U rfl _ _ g4 41 [.slice A n9 c] _ rfl rfl e1 d30 HU.out HD.out sPS
 ·rw [HF.out, HL9.out]
  have hq := ownsRow_same HO.out (fun k hk => e4 k (by omega))
  exact ⟨_, rfl, OwnNd.rd hq, .inr (OwnNd.base hq (by first | exact Nat.le_refl _ | assumption | omega)), HB6.out.trans (e3.mono hwg)⟩
end Go.Proofs.YtgfobinklijkpaaGreatDoor
