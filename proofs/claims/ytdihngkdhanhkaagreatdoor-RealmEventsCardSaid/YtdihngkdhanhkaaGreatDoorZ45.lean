/-
  Texts KD KE.
-/
import Derived.Test.YtdihngkdhanhkaaGreatDoorZ18
import Derived.Test.YtdihngkdhanhkaaGreatDoorZ20
import Derived.Test.YtdihngkdhanhkaaGreatDoorZ21
import Derived.Test.YtdihngkdhanhkaaGreatDoorZ28
import Derived.Test.YtdihngkdhanhkaaGreatDoorZ43
import Derived.Test.YtdihngkdhanhkaaGreatDoorZ44
namespace Go.Proofs.YtdihngkdhanhkaaGreatDoor
open Go.RowKit

set_option maxRecDepth 100000 in
set_option maxHeartbeats 8000000 in
theorem eqFn_yes (l : List Rp) (v u : Value) (w : World) (hr : RdRp w.heap.size w v l) (hr2 : RdRp w.heap.size w u l) (hnm : NamesR l) : Calls Tryz.prog 54 #[v, u, .func (.func 55) #[] #[]] w (One (.bool true) w) := by
  have ef : ∀ args w, (callFunc 55 args).run Tryz.prog w = .ok (.enter 55 args) w := fun args w => enters_of Tryz.func55 (by kernel_rfl) rfl args w
  obtain ⟨ss, hs, hv, hn⟩ := hr
  obtain ⟨st, ht, hu, hm⟩ := hr2
  obtain ⟨A, c, hq, hc, hm1⟩ := hv.shape
  obtain ⟨A2, c2, hq2, hc2, hm2⟩ := hu.shape
  unfold maxLen at hm1 hm2
  rw [rvs_len hs] at hq hc
  rw [rvs_len ht] at hq2 hc2
  obtain ⟨n, hnl⟩ : ∃ n, l.length = n := ⟨_, rfl⟩
  have HS := Lib.hid hs
  have HT := Lib.hid ht
  have HV := Lib.hid hv
  have HU := Lib.hid hu
  have HN := Lib.hid hn
  have HM := Lib.hid hm
  have HL := Lib.hid hnl
  have HNM := Lib.hid hnm
  rw [hnl] at hq hc hq2 hc2
  subst hq hq2
  obtain ⟨dP, huP, hdP⟩ := rowRpT
  have HE := Lib.hid ef
  clear hs ht hv hu hn hm hnl hnm ef
  go_enter Tryz.func54, Tryz.ntmps54
  have HB0 := Lib.hid (Below.refl w.heap.size w)
  go_wp2
  go_loopw [17] (fun x wr => ∃ k : Nat, k ≤ n ∧ x = .int .i64 (k : Int) ∧ Hid (Below w.heap.size w wr)) (fun x _ => n - (intOf x).toNat)
  case atStart => exact ⟨0, Nat.zero_le _, rfl, HB0⟩
  case round =>
    obtain ⟨k, hk, rfl, HB⟩ := hrel
    by_cases hk2 : k < n
    · have zk : (k : Int) < (n : Int) := by omega
      have hkl : k < l.length := by rw [HL.out]; exact hk2
      have hws := HB.out.size
      have hrv := (HV.out.below HB.out).more hws
      have hru := (HU.out.below HB.out).more hws
      obtain ⟨a, hA, -⟩ := hrv.cells k (by rw [rvs_len HS.out]; exact hkl)
      obtain ⟨b, hA2, -⟩ := hru.cells k (by rw [rvs_len HT.out]; exact hkl)
      subst hA hA2
      obtain ⟨sx, hsx⟩ : ∃ q, ss.getD k sl0 = q := ⟨_, rfl⟩
      obtain ⟨tx, htx⟩ : ∃ q, st.getD k sl0 = q := ⟨_, rfl⟩
      have hmem : l.getD k rp0 ∈ l := by
        rw [List.getD_eq_getElem?_getD, List.getElem?_eq_getElem hkl]
        exact List.getElem_mem hkl
      have hxf := HNM.out _ hmem
      obtain ⟨x, hx⟩ : ∃ q, l.getD k rp0 = q := ⟨_, rfl⟩
      have hnd : ∀ j v, (rpc x (slv sx))[j]? = some v → wr.cell? ((a.add (k * 6)).add j) = some v := by
        intro j v hv
        refine hrv.node k (by rw [rvs_len HS.out]; exact hkl) j v ?_
        show (rvc ((rvs l ss).getD k rv0))[j]? = some v
        rw [rvs_at HS.out k hkl, hx, hsx]
        exact hv
      have hnf : ∀ W, RdE RvK wr.heap.size W (.slice (some b) n c2) (rvs l st) → ∀ j v, (rpc x (slv tx))[j]? = some v → W.cell? ((b.add (k * 6)).add j) = some v := by
        intro W hW j v hv
        refine hW.node k (by rw [rvs_len HT.out]; exact hkl) j v ?_
        show (rvc ((rvs l st).getD k rv0))[j]? = some v
        rw [rvs_at HT.out k hkl, hx, htx]
        exact hv
      have HNF := Lib.hid hnf
      have HRU := Lib.hid hru
      have hxn : RdS wr.heap.size wr (slv sx) (pN x) := by
        have h := ((HN.out k hkl).toE.below HB.out).more hws
        rw [hsx, hx] at h
        exact RdS.ofE h
      have hyn : RdS wr.heap.size wr (slv tx) (pN x) := by
        have h := ((HM.out k hkl).toE.below HB.out).more hws
        rw [htx, hx] at h
        exact RdS.ofE h
      rw [hx] at hxf
      have HXN := Lib.hid hxn
      have HYN := Lib.hid hyn
      have HXF := Lib.hid hxf
      obtain ⟨An, nn, cn, hsv⟩ : ∃ A n c, slv sx = .slice A n c := ⟨_, _, _, rfl⟩
      obtain ⟨Am, nm, cm, hsu⟩ : ∃ A n c, slv tx = .slice A n c := ⟨_, _, _, rfl⟩
      rw [hsv] at hnd HXN
      rw [hsu] at HNF HYN
      clear hnf hxn hyn hrv hru hmem hxf hsx htx hsv hsu hkl hx
      go_wp2_with (first | refine wpList_load_rowE rfl 57 _ rfl (a.add (k * 6)) (by first | rfl | (simp [Act.eval, Act.put, Addr.add])) (rpc x (.slice An nn cn)) hnd dP huP hdP szRpT ?_ | refine wpList_alloc_blk rfl 57 rfl (rpc rp0 (.slice none 0 0)) zeroRpT ?_)
      intro wa a1 a2 a3
      obtain ⟨g1, hg1⟩ : ∃ g, wr.heap.size = g := ⟨_, rfl⟩
      have A1 := Lib.hid a1
      have BA := Lib.hid a3
      rw [hg1] at A1 BA ⊢
      have HG1 := Lib.hid hg1
      clear a1 a2 a3 hg1
      go_wp2_with (refine wpList_store_to rfl 57 _ _ rfl g1 (rpc x (.slice An nn cn)) (rpc rp0 (.slice none 0 0)) 57 rfl rfl A1.out szRpT rfl (rpc_allM _ _ _ _) ?_)
      intro wb e1 e2 e3 e4
      have P1 := Lib.hid e1
      have BB : Hid (Below wr.heap.size wr wb) := Lib.hid (by rw [HG1.out]; exact BA.out.trans e3)
      have hnb := HNF.out wb (HRU.out.below BB.out)
      clear e1 e2 e3 e4 A1 BA hnd HG1
      go_wp2_with (first | refine wpList_load_rowE rfl 57 _ rfl (b.add (k * 6)) (by first | rfl | (simp [Act.eval, Act.put, Addr.add])) (rpc x (.slice Am nm cm)) hnb dP huP hdP szRpT ?_ | refine wpList_alloc_blk rfl 57 rfl (rpc rp0 (.slice none 0 0)) zeroRpT ?_)
      intro wc a1 a2 a3
      obtain ⟨g2, hg2⟩ : ∃ g, wb.heap.size = g := ⟨_, rfl⟩
      have A1 := Lib.hid a1
      have P1c := Lib.hid (P1.out.below a3 P1.out.lt)
      have hne : g1 ≠ g2 := by have := P1.out.lt; omega
      have BC := Lib.hid a3
      rw [hg2] at A1 BC ⊢
      have HG2 := Lib.hid hg2
      clear a1 a2 a3 hg2 hnb P1
      go_wp2_with (refine wpList_store_to rfl 57 _ _ rfl g2 (rpc x (.slice Am nm cm)) (rpc rp0 (.slice none 0 0)) 57 rfl rfl A1.out szRpT rfl (rpc_allM _ _ _ _) ?_)
      intro wd e1 e2 e3 e4
      have P2 := Lib.hid e1
      have P1d := Lib.hid (P1c.out.same (e4 g1 hne))
      have BD : Hid (Below wr.heap.size wr wd) := Lib.hid (BB.out.trans ((show Below wb.heap.size wb wd by rw [HG2.out]; exact BC.out.trans e3).mono BB.out.size))
      clear e1 e2 e3 e4 A1 BC BB P1c HG2
      have HBd := Lib.hid (HB.out.trans (BD.out.mono hws))
      have hsd := BD.out.size
      go_wp2_with (first | refine wpList_load_part rfl 57 _ rfl g1 0 (rpc x (.slice An nn cn)) (rpc x (.slice An nn cn)) 57 rfl P1d.out rfl huP hdP szRpT ?_ | refine wpList_load_part rfl 57 _ rfl g2 0 (rpc x (.slice Am nm cm)) (rpc x (.slice Am nm cm)) 57 rfl P2.out rfl huP hdP szRpT ?_ | fail)
      have hcl := orSame_any x (pR x) (.slice An nn cn) (.slice Am nm cm) wd (RdS.ofE ((HXN.out.toE.below BD.out).more hsd)) (RdS.ofE ((HYN.out.toE.below BD.out).more hsd)) (by have := HXF.out; omega)
      have HCL := Lib.hid hcl
      clear hcl
      refine HCL.out.mono ?_
      rintro e we ⟨rfl, hb⟩
      rw [decide_eq_true rfl]
      have HBe := Lib.hid (HBd.out.trans (hb.mono (by omega)))
      clear hb
      go_wp2
      go_roundw
      case rel => exact ⟨k + 1, by omega, by go_num, HBe⟩
      case measure => simp [intOf]; omega
    · have zk : ¬ (k : Int) < (n : Int) := by omega
      go_wp2
      go_ret
      exact ⟨rfl, HB.out⟩
set_option maxRecDepth 100000 in
set_option maxHeartbeats 8000000 in
theorem rmSame_yes (r : Rm) (vN vS vW vL uN uS uW uL : Value) (w : World) (hr : RdRm w.heap.size w vN vS vW vL r) (hr2 : RdRm w.heap.size w uN uS uW uL r) (hR : RightR r) (hnm : NamesR (mL r)) : Calls Tryz.prog 29 #[.agg (rmc (mT r) vN vS vW vL).toArray, .agg (rmc (mT r) uN uS uW uL).toArray] w (One (.bool true) w) := by
  have HRD := Lib.hid hr
  have HRD2 := Lib.hid hr2
  have HR := Lib.hid hR
  have HNM := Lib.hid hnm
  clear hr hr2 hR hnm
  obtain ⟨dN, huN, hdN⟩ := rowShT
  obtain ⟨dB, huB, hdB⟩ := rowBkT
  obtain ⟨dW, huW, hdW⟩ := rowTaT
  go_enter Tryz.func29, Tryz.ntmps29
  go_wp2_with (refine wpList_box_blk rfl 33 _ rfl (rmc (mT r) vN vS vW vL) rfl ?_)
  intro w1 b1 b2 b3
  go_wp2_with (refine wpList_box_blk rfl 33 _ rfl (rmc (mT r) uN uS uW uL) rfl ?_)
  intro w2 d1 d2 d3
  obtain ⟨g, hg⟩ : ∃ g, w.heap.size = g := ⟨_, rfl⟩
  obtain ⟨h, hh⟩ : ∃ g, w.heap.size + 1 = g := ⟨_, rfl⟩
  have X := Lib.hid (b1.below d3 (by omega))
  have Y := Lib.hid d1
  have HB := Lib.hid (b3.trans (d3.mono (by omega)))
  have hs : w.heap.size ≤ w2.heap.size := by omega
  rw [hh] at Y ⊢
  rw [hg] at X ⊢
  clear b1 b2 b3 d1 d2 d3 hg hh
  have c4 := X.out.at_ 4 _ rfl
  go_wp2_with (first | refine wpList_load_part rfl 24 _ rfl g 0 (rmc (mT r) vN vS vW vL) [vN] 33 rfl X.out rfl huN hdN szShT ?_ | refine wpList_load_part rfl 24 _ rfl h 0 (rmc (mT r) uN uS uW uL) [uN] 33 rfl Y.out rfl huN hdN szShT ?_ | fail)
  refine (shSame_any (mN r) (mN r) vN uN w2 (RdNd.ofE ((HRD.out.n.toE.below HB.out).more hs)) (RdNd.ofE ((HRD2.out.n.toE.below HB.out).more hs))).mono ?_
  rintro e w3 ⟨rfl, hb⟩
  rw [decide_eq_true rfl]
  have X3 := Lib.hid (X.out.below hb X.out.lt)
  have Y3 := Lib.hid (Y.out.below hb Y.out.lt)
  have HB3 := Lib.hid (HB.out.trans (hb.mono hs))
  have hs3 : w.heap.size ≤ w3.heap.size := Nat.le_trans hs hb.size
  clear c4 X Y HB hs hb
  have c4 := X3.out.at_ 4 _ rfl
  go_wp2_with (first | refine wpList_load_partG (by rfl) 27 _ rfl g 1 (rmc (mT r) vN vS vW vL) [.int .i64 (mT r), vS] 33 rfl X3.out rfl huB hdB szBkT ?_ | refine wpList_load_partG (by rfl) 27 _ rfl h 1 (rmc (mT r) uN uS uW uL) [.int .i64 (mT r), uS] 33 rfl Y3.out rfl huB hdB szBkT ?_ | fail)
  refine (bkSame_anyL (mT r) (mT r) (mS r) (mS r) vS uS w3 ((HRD.out.s.below HB3.out).more hs3) ((HRD2.out.s.below HB3.out).more hs3) (Nat.le_trans HR.out.b.few (by decide)) (Nat.le_trans HR.out.b.few (by decide))).mono ?_
  rintro e w4 ⟨rfl, hb⟩
  rw [show sameB (mT r) (mT r) (mS r) (mS r) = true by simp [sameB]]
  have X4 := Lib.hid (X3.out.below hb X3.out.lt)
  have Y4 := Lib.hid (Y3.out.below hb Y3.out.lt)
  have HB4 := Lib.hid (HB3.out.trans (hb.mono hs3))
  have hs4 : w.heap.size ≤ w4.heap.size := Nat.le_trans hs3 hb.size
  clear c4 X3 Y3 HB3 hs3 hb
  have c4 := X4.out.at_ 4 _ rfl
  go_wp2_with (first | refine wpList_load_partG (by rfl) 30 _ rfl g 3 (rmc (mT r) vN vS vW vL) [vW] 33 rfl X4.out rfl huW hdW szTaT ?_ | refine wpList_load_partG (by rfl) 30 _ rfl h 3 (rmc (mT r) uN uS uW uL) [uW] 33 rfl Y4.out rfl huW hdW szTaT ?_ | fail)
  refine (waSame_anyL (mW r) (mW r) vW uW w4 ((HRD.out.t.below HB4.out).more hs4) ((HRD2.out.t.below HB4.out).more hs4) (Nat.le_trans HR.out.w.few (by decide)) (Nat.le_trans HR.out.w.few (by decide))).mono ?_
  rintro e w5 ⟨rfl, hb⟩
  rw [decide_eq_true rfl]
  have X5 := Lib.hid (X4.out.below hb X4.out.lt)
  have Y5 := Lib.hid (Y4.out.below hb Y4.out.lt)
  have HB5 := Lib.hid (HB4.out.trans (hb.mono hs4))
  have hs5 : w.heap.size ≤ w5.heap.size := Nat.le_trans hs4 hb.size
  clear c4 X4 Y4 HB4 hs4 hb
  have c4 := X5.out.at_ 4 _ rfl
  have c9 := Y5.out.at_ 4 _ rfl
  go_wp2_with fail
  refine (eqFn_yes (mL r) vL uL w5 ((HRD.out.l.below HB5.out).more hs5) ((HRD2.out.l.below HB5.out).more hs5) HNM.out).mono ?_
  rintro e w6 ⟨rfl, hb⟩
  have HB6 := Lib.hid (HB5.out.trans (hb.mono hs5))
  clear c4 c9 X5 Y5 HB5 hb
  go_wp2
  go_ret
  exact ⟨rfl, HB6.out⟩
end Go.Proofs.YtdihngkdhanhkaaGreatDoor
namespace Go.Proofs.YtdihngkdhanhkaaGreatDoor
open Go.RowKit

/-- What is done by the time: looked for a few steps deep. -/
def lateFd (d : Nat) (l : List Oper) (m : Nat) (pu : List Nat) : Bool :=
  decide (m ≤ l.length) && (pu.all fun p => decide (p < m) && Region.free .any l.toArray (lstF l p) p) && (List.range l.length).all fun j =>
    if j < m then ((l[j]?).map fun o => o.after.all fun e => !Region.binds .any e || decide (e.on < j)).getD false
    else (List.range m).all fun k => (clos l d (depsOf l j)).contains k || (pu.contains k && (depsOf l k).all fun q => (clos l d (depsOf l j)).contains q)
theorem clos_sub (l : List Oper) : ∀ (n : Nat) (S T : List Nat), (∀ x ∈ S, x ∈ T) → ∀ x ∈ clos l n S, x ∈ clos l n T
  | 0, _, _, h => h
  | n + 1, S, T, h => clos_sub l n _ _ fun x hx => by
    rw [List.mem_append, List.mem_flatMap] at hx ⊢
    rcases hx with hx | ⟨a, ha, hx⟩
    · exact .inl (h x hx)
    · exact .inr ⟨a, h a ha, hx⟩
theorem clos_add (l : List Oper) (d : Nat) (S : List Nat) (x : Nat) (h : x ∈ clos l d S) : ∀ n : Nat, x ∈ clos l (d + n) S
  | 0 => h
  | n + 1 => clos_sub l (d + n) _ _ (fun _ hy => List.mem_append.2 (.inl hy)) x (clos_add l d S x h n)
theorem lateF_of (d : Nat) {l : List Oper} {m : Nat} {pu : List Nat} (hd : d ≤ l.length) (h : lateFd d l m pu = true) : lateF l m pu = true := by
  have key : ∀ (S : List Nat) (k : Nat), (clos l d S).contains k = true → (clos l l.length S).contains k = true := by
    intro S k hk
    rw [List.contains_iff_mem] at hk ⊢
    have := clos_add l d S k hk (l.length - d)
    rwa [Nat.add_sub_cancel' hd] at this
  unfold lateFd at h
  unfold lateF
  rw [Bool.and_eq_true] at h ⊢
  refine ⟨h.1, ?_⟩
  have h2 := h.2
  rw [List.all_eq_true] at h2 ⊢
  intro j hj
  have h3 := h2 j hj
  by_cases hm : j < m
  · rw [if_pos hm] at h3 ⊢
    exact h3
  · rw [if_neg hm] at h3 ⊢
    rw [List.all_eq_true] at h3 ⊢
    intro k hk
    have h4 := h3 k hk
    rw [Bool.or_eq_true, Bool.and_eq_true, List.all_eq_true] at h4 ⊢
    rcases h4 with h4 | ⟨h4, h5⟩
    · exact .inl (key _ _ h4)
    · exact .inr ⟨h4, fun q hq => key _ _ (h5 q hq)⟩
section
variable {P : Program} {l : List Oper} {Q : Exit → Act → World → Prop} {F : (Nat → Value) → Act} {Φ : Nat → Value → World → Prop} {w0 : World}
/-- An operation that reads no memory of its own accord: its value is of a kind. -/
theorem StepsAt.rel (j : Nat) {n : Nat} {o : Oper} {r : List Oper} (hk : ∀ v w w', Φ j v w → Below w.heap.size w w' → Φ j v w') (hp : ∀ x v, (F x).put o.dst v = F (upd x j v)) (ho : l[j]? = some o) (hg : o.guard = none)
    (h : ∀ x w, Below w0.heap.size w0 w → (∀ k, waitsB .any l.toArray j k = true → Φ k (x k) w) → ∃ v, (execOp (F x).eval o).run P w = .ok (.value v) w ∧ Φ j v w)
    (hr : StepsAt P l Q F Φ w0 n r (j + 1)) : StepsAt P l Q F Φ w0 (n + 1) (o :: r) j := by
  refine StepsAt.cons j hk hp hg ho (fun x w hb hd K hK => ?_) hr
  obtain ⟨v, h1, h2⟩ := h x w hb hd
  unfold Oper.wp
  rw [h1]
  exact hK.out v w (Below.refl _ _) h2
end
/-- A realm of one's own from B on, a reply, events, as values. -/
def RmV (B : Nat) (r : Rm) (v : Value) (w : World) : Prop := ∃ vN vS vW vL, v = .agg (rmc (mT r) vN vS vW vL).toArray ∧ OwnRm B w vN vS vW vL r
def RpO (B : Nat) (x : Rp) (v : Value) (w : World) : Prop := ∃ nv, v = .agg (rpc x nv).toArray ∧ OwnE StK 9 w B nv (pN x)
def AppV (B : Nat) (y : Rm × Rp × List Ev) (v : Value) (w : World) : Prop :=
  ∃ a b c, v = .tuple #[a, b, c] ∧ RmV B y.1 a w ∧ RpO B y.2.1 b w ∧ EvO B w c y.2.2
/-- A realm that is read, as a value. -/
def RmR (r : Rm) (v : Value) (w : World) : Prop := ∃ vN vS vW vL, v = .agg (rmc (mT r) vN vS vW vL).toArray ∧ RdRm w.heap.size w vN vS vW vL r
theorem RdRm.belowM {w w' : World} {vN vS vW vL : Value} {r : Rm} (h : RdRm w.heap.size w vN vS vW vL r) (hb : Below w.heap.size w w') : RdRm w'.heap.size w' vN vS vW vL r :=
  ⟨RdNd.ofE ((h.n.toE.below hb).more hb.size), (h.s.below hb).more hb.size, (h.t.below hb).more hb.size, (h.l.below hb).more hb.size⟩
theorem RmV.keep {B : Nat} {r : Rm} {v : Value} {w w' : World} (h : RmV B r v w) (hb : Below w.heap.size w w') : RmV B r v w' := by
  obtain ⟨vN, vS, vW, vL, h1, h2⟩ := h
  exact ⟨vN, vS, vW, vL, h1, h2.below hb⟩
theorem RpO.keep {B : Nat} {x : Rp} {v : Value} {w w' : World} (h : RpO B x v w) (hb : Below w.heap.size w w') : RpO B x v w' := by
  obtain ⟨nv, h1, h2⟩ := h
  exact ⟨nv, h1, h2.below hb (Nat.le_refl _)⟩
theorem AppV.keep {B : Nat} {y : Rm × Rp × List Ev} {v : Value} {w w' : World} (h : AppV B y v w) (hb : Below w.heap.size w w') : AppV B y v w' := by
  obtain ⟨a, b, c, h1, h2, h3, h4⟩ := h
  exact ⟨a, b, c, h1, h2.keep hb, h3.keep hb, h4.below hb⟩
theorem RmR.keep {r : Rm} {v : Value} {w w' : World} (h : RmR r v w) (hb : Below w.heap.size w w') : RmR r v w' := by
  obtain ⟨vN, vS, vW, vL, h1, h2⟩ := h
  exact ⟨vN, vS, vW, vL, h1, h2.belowM hb⟩
theorem AppO.val {y : Rm × Rp × List Ev} {w : World} {B : Nat} (hB : B ≤ w.heap.size) {e : Ending} {w' : World} (h : AppO y w e w') : ∃ v, e = .returned v ∧ AppV B y v w' ∧ Below w.heap.size w w' := by
  obtain ⟨vN, vS, vW, vL, nv, vE, h1, h2, h3, h4, h5⟩ := h
  exact ⟨_, h1, ⟨_, _, _, rfl, ⟨_, _, _, _, rfl, h2.base hB⟩, ⟨_, rfl, h3.base hB⟩, h4.imp id fun h => h.base hB⟩, h5⟩
theorem OwnRm.keepR {b d : Nat} {w w' : World} {vN vS vW vL : Value} {r : Rm} (h : OwnRm b w vN vS vW vL r) (hk : Keep (fun e => e = 33) d w w') : OwnRm b w' vN vS vW vL r := by
  obtain ⟨h1, h2, h3, ss, h4, h5, h6⟩ := h
  exact ⟨h1.keep hk (by decide), h2.keep hk (by decide), h3.keep hk (by decide), ss, h4, h5.keep hk (by decide), fun j hj => (h6 j hj).keep hk (by decide)⟩
/-- A new box for a reply is no row of replies. -/
theorem OwnRm.storeP {B g : Nat} {w w' : World} {vN vS vW vL : Value} {r : Rm} {cs : List Value} (h : OwnRm B w vN vS vW vL r) (hR : ∀ x ∈ mL r, 1 ≤ pQ x) (hx : Blk w g (rpc rp0 (.slice none 0 0)) 57) (hB : B ≤ g) (hs : w'.heap.size = w.heap.size) (ho : ∀ k, k ≠ g → w'.heap[k]? = w.heap[k]?) (hn : Blk w' g cs 57) (hcs : cs.length = 6) : OwnRm B w' vN vS vW vL r := by
  have hk : Keep (fun e => e = 57) B w w' := Keep.store hx rfl hB hs ho
  obtain ⟨ss, h1, h2, h3⟩ := h.l
  refine ⟨h.n.keep hk (by decide), h.s.keep hk (by decide), h.t.keep hk (by decide), ss, h1, ?_, fun j hj => (h3 j hj).keep hk (by decide)⟩
  rcases Nat.eq_zero_or_pos (mL r).length with h0 | h0
  · refine ⟨h2.1, ?_⟩
    rcases h2.2 with hq | ⟨g', cap, cur, hv, hg0, hg1, hc1, hc2, hc3, hc4⟩
    · exact .inl hq
    · by_cases he : g' = g
      · subst he
        have hb := hx
        unfold Blk at hb hn
        rw [hg1] at hb
        injection hb with hb
        injection hb with hb _ _
        refine .inr ⟨g', cap, cs.toArray, hv, hg0, hn, hc1, hc2, ?_, ?_⟩
        · have h6 : cur.size = 6 := by rw [hb]; rfl
          rw [← hc3, h6]
          simpa using hcs
        · have hz : rvs (mL r) ss = [] := List.eq_nil_of_length_eq_zero (by rw [rvs_len h1]; exact h0)
          rw [hz]
          simp [rowsE]
      · exact .inr ⟨g', cap, cur, hv, hg0, by rw [ho g' he]; exact hg1, hc1, hc2, hc3, hc4⟩
  · have hl0 : 0 < (rvs (mL r) ss).length := by rw [rvs_len h1]; exact h0
    obtain ⟨g', cap, hv', _, hBg, hlt⟩ := h2.inBlock hl0
    have hne : g' ≠ g := by
      intro he
      subst he
      have hrd := h2.rd
      rw [hv'] at hrd
      have hc := hrd.node 0 hl0 1 (.int .i64 (pQ ((mL r).getD 0 rp0))) (by
        show (rvc ((rvs (mL r) ss).getD 0 rv0))[1]? = _
        rw [rvs_at h1 0 h0]
        rfl)
      have hc2 : w.cell? ⟨g', 1, none⟩ = some (.int .i64 0) := (hx.cell 1).trans rfl
      have hc3 : w.cell? ⟨g', 1, none⟩ = some (.int .i64 (pQ ((mL r).getD 0 rp0))) := hc
      rw [hc2] at hc3
      injection hc3 with hc3
      injection hc3 with _ hc3
      have hm : (mL r).getD 0 rp0 ∈ mL r := by
        rw [List.getD_eq_getElem?_getD, List.getElem?_eq_getElem h0]
        exact List.getElem_mem h0
      have := hR _ hm
      omega
    refine ownsRow_but h2 ?_ ho
    rw [hv']
    intro he
    injection he with he
    exact hne he
end Go.Proofs.YtdihngkdhanhkaaGreatDoor
