/-
  Texts G7 HH RC4.
-/
import Derived.Test.YtdihngkdhanhkaaGreatDoorV01
import Derived.Deep.MidRow
import Derived.Test.YtdihngkdhanhkaaGreatDoorV03
import Derived.Test.YtdihngkdhanhkaaGreatDoorV19
import Derived.Test.YtdihngkdhanhkaaGreatDoorV20
namespace Go.Proofs.YtdihngkdhanhkaaGreatDoor
set_option maxRecDepth 100000
set_option maxHeartbeats 16000000
open Go.RowKit
def OwnsN (l : List Nd) (w : World) (e : Ending) (w' : World) : Prop := ∃ u, e = .returned u ∧ OwnNd 91 w' w.heap.size u l ∧ Below w.heap.size w w'
theorem clone_any (l : List Nd) (v : Value) (w : World) (hr : RdNd w.heap.size w v l) (hl : l.length ≤ 100000) : Calls Tryz.prog 70 #[v] w (OwnsN l w) := by
 obtain ⟨i1, hJ, hy0, hy1, hy2⟩ := info_partsPN
 obtain ⟨A, cp, rfl, hc, hm⟩ := hr.shape
 unfold maxLen at hm
 cases A with
 | none =>
   obtain ⟨A', c', hv, _, _, hn, _⟩ := hr
   injection hv with q1 q2 q3
   subst q1 q3
   have h0 := hn rfl
   have h1 : l = [] := List.eq_nil_of_length_eq_zero (by omega)
   subst h1
   subst h0
   have he : ∀ w, (binOp .eql 22 (.slice none 0 0) (.slice none 0 0)).run Tryz.prog w = .ok (.bool true) w := fun _ => rfl
   go_enter Tryz.func70, Tryz.ntmps70
   go_wp2
   go_ret
   exact ⟨_, rfl, OwnNd.nil _ _ _, Below.refl _ _⟩
 | some a =>
   have HR := lhd hr
   have HL := lhd hl
   obtain ⟨n, hn⟩ : ∃ n, l.length = n := ⟨_, rfl⟩
   rw [hn] at HR hc ⊢
   clear hr hl hn
   have he : ∀ w, (binOp .eql 22 (.slice (some a) n cp) (.slice none 0 0)).run Tryz.prog w = .ok (.bool false) w := fun _ => rfl
   have HO : Hid (OwnNd 91 (w.alloc (.cells #[] 91)) w.heap.size (.slice (some ⟨w.heap.size, 0, none⟩) 0 0) []) := OwnNd.empty 91 w w.heap.size (Nat.le_refl _)
   have HA : Hid (Below w.heap.size w (w.alloc (.cells #[] 91))) := (Below.refl _ _).alloc (Nat.le_refl _) _
   have HR2 := lhd (HR.out.below HA.out)
   go_enter Tryz.func70, Tryz.ntmps70
   go_wp2_with (at_builtin; refine wpList_appNd rfl _ _ 22 rfl 91 i1 Tryz.underlying22 hJ hy0 hy1 hy2 w.heap.size _ _ _ [] l rfl HO.out rfl HR2.out ?d1 ?d2 ?_)
   case d1 => have := HL.out; simp; omega
   case d2 => simp
   intro v' w' h1 h2 h3
   have H1 := lhd h1
   have H2 := lhd (HA.out.trans h2)
   clear h1 h2 h3
   go_wp2
   go_ret
   exact ⟨_, rfl, H1.out, H2.out⟩
def ShelvesO (l : List Nd) (f : Nat) (w : World) (e : Ending) (w' : World) : Prop := ∃ v, e = .returned (.tuple #[.agg #[v], .int .i64 (f : Int)]) ∧ OwnNd 91 w' w.heap.size v l ∧ Below w.heap.size w w'
def EditsTo (base : Nat) (l' : List Nd) (W : World) (e : Ending) (w' : World) : Prop := ∃ u, e = .returned u ∧ OwnNd 91 w' base u l' ∧ Below base W w'
theorem shChange_any (l l' l9 : List Nd) (v : Value) (f1 f2 : Nat) (lb1 lb2 : Array Value) (F : Nat) (w : World) (hr : RdNd w.heap.size w v l) (hl : l.length ≤ 100000)
 (e1 : ∀ args w, (callFunc f1 args).run Tryz.prog w = .ok (.enter f1 args) w) (e2 : ∀ args w, (callFunc f2 args).run Tryz.prog w = .ok (.enter f2 args) w)
 (h1 : ∀ W, Below w.heap.size w W → Calls Tryz.prog f1 lb1 W (One (.int .i64 (F : Int)) W))
 (h2 : F = 0 → ∀ base u W, w.heap.size ≤ base → base ≤ W.heap.size → Below w.heap.size w W → OwnNd 91 W base u l → Calls Tryz.prog f2 (#[u] ++ lb2) W (EditsTo base l' W)) (q1 : F = 0 → l9 = l') (q2 : F ≠ 0 → l9 = l) :
 Calls Tryz.prog 181 #[.agg #[v], .func (.func f1) #[] lb1, .func (.func f2) #[] lb2] w (ShelvesO l9 F w) := by
 obtain ⟨d30, hu30, hd30⟩ := rowPS
 have HU := lhd hu30
 have HD := lhd hd30
 have HR := lhd hr
 have HL := lhd hl
 have H1 := lhd h1
 have H2 := lhd h2
 have Q1 := lhd q1
 have Q2 := lhd q2
 clear hr hl h1 h2 hu30 hd30 q1 q2
 go_enter Tryz.func181, Tryz.ntmps181
 go_wp2_with (refine wpList_box_blk rfl 24 _ rfl [v] rfl ?_)
 intro w1 b1 b2 b3
 go_wp2_with (refine wpList_alloc_blk rfl 24 rfl [.slice none 0 0] zPS ?_)
 intro w2 a1 a2 a3
 obtain ⟨g0, hg0⟩ : ∃ g, w.heap.size = g := ⟨_, rfl⟩
 obtain ⟨g1, hg1⟩ : ∃ g, w.heap.size + 1 = g := ⟨_, rfl⟩
 have X0 := lhd (b1.below a3 (by omega))
 have X1 := lhd a1
 have HB := lhd (b3.trans (a3.mono (by omega)))
 have hg02 : g0 < w2.heap.size := by omega
 have hg12 : g1 < w2.heap.size := by omega
 have hw1 : w.heap.size ≤ g1 := by omega
 rw [hg1] at X1 ⊢
 rw [hg0] at X0 ⊢
 have ca := X0.out.cell 0
 clear b1 b2 b3 a1 a2 a3 hg0 hg1
 go_wp2_with fail
 refine (clone_any l v w2 ((HR.out.below HB.out).more HB.out.size) HL.out).mono ?_
 rintro e w3 ⟨u, rfl, ho, hb⟩
 have HO := lhd ho
 have HC := lhd hb
 clear ho hb ca
 obtain ⟨A, c, rfl, -, -⟩ := HO.out.rd.shape
 go_wp2_with fail
 refine (H1.out w3 (HB.out.trans (HC.out.mono HB.out.size))).mono ?_
 rintro e w4 ⟨rfl, hb⟩
 have HO4 := lhd (HO.out.below hb (Nat.le_refl _))
 have HC4 := lhd (HC.out.trans (hb.mono HC.out.size))
 clear hb HO HC
 by_cases hF : F = 0
 ·have HE := lhd (H2.out hF)
  have HQ := lhd (Q1.out hF)
  subst hF
  clear H1 H2 Q1 Q2
  go_wp2_with fail
  refine (HE.out w2.heap.size _ w4 HB.out.size HC4.out.size (HB.out.trans (HC4.out.mono HB.out.size)) HO4.out).mono ?_
  rintro e w5 ⟨u, rfl, ho, hb⟩
  have HO5 := lhd ho
  have HC5 := lhd (HC4.out.trans hb)
  clear ho hb HO4 HC4
  obtain ⟨A5, c5, hq, -, -⟩ := HO5.out.rd.shape
  obtain ⟨n5, hn5⟩ : ∃ n, l'.length = n := ⟨_, rfl⟩
  rw [hn5] at hq
  subst hq
  clear hn5
  have X1c := lhd (X1.out.below HC5.out hg12)
  go_wp2_with (refine wpList_store_to rfl 24 _ _ rfl g1 [.slice A5 n5 c5] [.slice none 0 0] 24 rfl rfl X1c.out sPS rfl (slice_one _ _ _) ?_)
  intro w9 e1 e2 e3 e4
  go_wp2
  refine bodyPost_ret (v := .tuple #[.agg [Value.slice A5 n5 c5].toArray, .int .i64 0]) ?_ rfl ?_
  ·exact ret_blk2U rfl _ _ g1 24 [.slice A5 n5 c5] _ rfl rfl e1 d30 HU.out HD.out sPS
  ·rw [HQ.out]
   exact ⟨_, rfl, OwnNd.base (ownsRow_same HO5.out (fun k hk => e4 k (by omega))) HB.out.size, HB.out.trans ((HC5.out.mono HB.out.size).trans (e3.mono hw1))⟩
 ·have HQ := lhd (Q2.out hF)
  clear H1 H2 Q1 Q2
  have z0 : ((F : Int) != 0) = true := by rw [bne_iff_ne]; omega
  have X1c := lhd (X1.out.below HC4.out hg12)
  obtain ⟨n, hn⟩ : ∃ n, l.length = n := ⟨_, rfl⟩
  rw [hn] at HO4 ⊢
  clear hF hn
  go_wp2_with (refine wpList_store_to rfl 24 _ _ rfl g1 [.slice A n c] [.slice none 0 0] 24 rfl rfl X1c.out sPS rfl (slice_one _ _ _) ?_)
  intro w9 e1 e2 e3 e4
  go_wp2
  refine bodyPost_ret (v := .tuple #[.agg [Value.slice A n c].toArray, .int .i64 (F : Int)]) ?_ rfl ?_
  ·exact ret_blk2U rfl _ _ g1 24 [.slice A n c] _ rfl rfl e1 d30 HU.out HD.out sPS
  ·rw [HQ.out]
   exact ⟨_, rfl, OwnNd.base (ownsRow_same HO4.out (fun k hk => e4 k (by omega))) HB.out.size, HB.out.trans ((HC4.out.mono HB.out.size).trans (e3.mono hw1))⟩
theorem nds_cut (l : List Nd) (i : Nat) (hi : i < l.length) : (nds l).take (i * 4) = nds (l.take i) ∧ (nds l).drop (i * 4 + 4) = nds (l.drop (i + 1)) := by
 have e : l = l.take i ++ (l[i] :: l.drop (i + 1)) := by
  rw [← List.drop_eq_getElem_cons hi, List.take_append_drop]
 have e1 : nds l = nds (l.take i) ++ (ndc l[i] ++ nds (l.drop (i + 1))) := by
  have h := congrArg nds e
  rw [nds_append, show l[i] :: l.drop (i + 1) = [l[i]] ++ l.drop (i + 1) from rfl, nds_append, nds_one] at h
  exact h
 have hl : (nds (l.take i)).length = i * 4 := by
  rw [nds_length, List.length_take, Nat.min_eq_left (by omega)]
  omega
 rw [e1]
 refine ⟨List.take_left' hl, ?_⟩
 rw [← List.drop_drop, List.drop_left' hl]
 exact List.drop_left' rfl
theorem nds_set (l : List Nd) (i : Nat) (x : Nd) (hi : i < l.length) : nds (l.set i x) = (nds l).take (i * 4) ++ (ndc x ++ (nds l).drop (i * 4 + 4)) := by
 rw [(nds_cut l i hi).1, (nds_cut l i hi).2, List.set_eq_take_append_cons_drop, if_pos hi, nds_append, show x :: l.drop (i + 1) = [x] ++ l.drop (i + 1) from rfl, nds_append, nds_one]
theorem below_setCells {B g : Nat} (hBg : B ≤ g) {w0 : World} : ∀ (vs : List Value) (o : Nat) (w : World), Below B w0 w → Below B w0 (w.setCells g o vs)
 | [], _, _, h => h
 | v :: r, o, w, h => below_setCells hBg r (o + 1) (w.setCell ⟨g, o, none⟩ v) (h.setCell hBg v)
theorem OwnNd.inBlock {e : TypeId} {w : World} {base : Nat} {v : Value} {l : List Nd} (h : OwnNd e w base v l) (hn : 0 < l.length) : ∃ g cap, v = .slice (some ⟨g, 0, none⟩) l.length cap ∧ l.length ≤ cap ∧ base ≤ g ∧ g < w.heap.size := by
 rcases h.2 with ⟨_, h1⟩ | ⟨g, cap, cur, h1, h2, h3, h4, _⟩
 ·omega
 ·exact ⟨g, cap, h1, h4, h2, (Array.getElem?_eq_some_iff.1 h3).1⟩
theorem OwnNd.block {e : TypeId} {w : World} {base n cap g : Nat} {l : List Nd} (h : OwnNd e w base (.slice (some ⟨g, 0, none⟩) n cap) l) : ∃ cur : Array Value, Blk w g cur.toList e ∧ base ≤ g ∧ l.length ≤ cap ∧ cap ≤ maxLen ∧ cur.size = cap * 4 ∧ cur.toList.take (l.length * 4) = nds l ∧ n = l.length := by
 rcases h.2 with ⟨h1, _⟩ | ⟨g', cap', cur, h1, h2, h3, h4, h5, h6, h7⟩
 ·simp at h1
 ·injection h1 with h1 hn hc
  injection h1 with h1
  injection h1 with h1
  subst h1 hc
  refine ⟨cur, ?_, h2, h4, h5, h6, h7, hn⟩
  unfold Blk
  simpa using h3
section
variable {P : Program} {l : List Oper} {Q : Exit → Act → World → Prop} {F : (Nat → Value) → Act} {Φ : Nat → Value → World → Prop} {w0 : World}
theorem StepsAt.condV (j : Nat) (c : Bool) (v : Value) {n : Nat} {o : Oper} {r : List Oper} (hΦ : Φ j = eqV (if c = true then v else undef)) (hp : ∀ x v, (F x).put o.dst v = F (upd x j v)) (ho : l[j]? = some o)
 (hw : ∀ x w, (∀ k, waitsB .any l.toArray j k = true → Φ k (x k) w) → Region.wanted o (yielded l.toArray (F x).tmps) = c)
 (h : c = true → ∀ x w, Below w0.heap.size w0 w → (∀ k, waitsB .any l.toArray j k = true → Φ k (x k) w) → (execOp (F x).eval o).run P w = .ok (.value v) w)
 (hr : StepsAt P l Q F Φ w0 n r (j + 1)) : StepsAt P l Q F Φ w0 (n + 1) (o :: r) j := by
 cases c with
 | true => exact StepsAt.valG j v (by rw [hΦ, if_pos rfl]) hp ho hw (h rfl) hr
 | false => exact StepsAt.skip j (by rw [hΦ, if_neg (by decide)]) hp ho hw hr
theorem StepsAt.condC (j : Nat) (c : Bool) (v : Value) {n : Nat} {o : Oper} {r : List Oper} (hΦ : Φ j = eqV (if c = true then v else undef)) (hp : ∀ x v, (F x).put o.dst v = F (upd x j v)) (ho : l[j]? = some o)
 (hw : ∀ x w, (∀ k, waitsB .any l.toArray j k = true → Φ k (x k) w) → Region.wanted o (yielded l.toArray (F x).tmps) = c)
 (h : c = true → ∀ x w, Below w0.heap.size w0 w → (∀ k, waitsB .any l.toArray j k = true → Φ k (x k) w) → ∀ K : Act → World → Prop, Shut (∀ u w', Below w.heap.size w w' → u = v → K ((F x).put o.dst u) w') → Oper.wp P o (F x) w K (NoPanic Q))
 (hr : StepsAt P l Q F Φ w0 n r (j + 1)) : StepsAt P l Q F Φ w0 (n + 1) (o :: r) j := by
 cases c with
 | true =>
   have e : Φ j = eqV v := by rw [hΦ, if_pos rfl]
   exact StepsAt.consG j (fun u w w' h1 _ => by rw [e] at h1 ⊢; exact h1) hp ho hw (fun x w hb hd K hK => h rfl x w hb hd K fun u w' h1 h2 => hK.out u w' h1 (by rw [e]; exact h2)) hr
 | false => exact StepsAt.skip j (by rw [hΦ, if_neg (by decide)]) hp ho hw hr
end
end Go.Proofs.YtdihngkdhanhkaaGreatDoor
