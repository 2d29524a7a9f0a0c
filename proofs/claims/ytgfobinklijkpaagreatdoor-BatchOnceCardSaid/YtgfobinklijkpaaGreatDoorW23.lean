/-
  Texts H6 H7 H8 H9 HB HC HD HE HF G4.
-/
import Derived.Test.YtgfobinklijkpaaGreatDoorW01
import Derived.Laws.StructEq
import Derived.Lib.Strings
import Derived.Test.YtgfobinklijkpaaGreatDoorW11
import Derived.Test.YtgfobinklijkpaaGreatDoorW22
namespace Go.Proofs.YtgfobinklijkpaaGreatDoor
set_option maxRecDepth 100000
set_option maxHeartbeats 16000000
open Go.RowKit
theorem same_at (l m : List Nd) (i : Nat) (h : l.getD i nd0 ≠ m.getD i nd0) : decide (l = m) = false := by
 rw [decide_eq_false_iff_not]
 rintro rfl
 exact h rfl
theorem same_all (l m : List Nd) (hl : l.length = m.length) (h : ∀ i, i < l.length → l.getD i nd0 = m.getD i nd0) : decide (l = m) = true := by
 rw [decide_eq_true_eq]
 refine List.ext_getElem hl fun i h1 h2 => ?_
 have := h i h1
 rw [List.getD_eq_getElem?_getD, List.getD_eq_getElem?_getD, List.getElem?_eq_getElem h1, List.getElem?_eq_getElem h2] at this
 exact this
theorem same_len (l m : List Nd) (hl : l.length ≠ m.length) : decide (l = m) = false := by
 rw [decide_eq_false_iff_not]
 rintro rfl
 exact hl rfl
theorem toList_txt (l : List UInt8) : (⟨l.toArray⟩ : ByteArray).toList = l := by rw [Lib.toList_data]
theorem eqFields_nd (d : Nat) (x y : Nd) (w : World) (fs : List Field) (h : fs.map (fun f => (f.name == "_", f.type, f.offset)) = [(false, 9, 0), (false, 9, 1), (false, 3, 2), (false, 3, 3)]) :
 (Op.eqFields (d + 1) (ndc x).toArray (ndc y).toArray fs).run Tryz.prog w = .ok (decide (x = y)) w := by
 obtain ⟨f0, f1, f2, f3, rfl⟩ : ∃ f0 f1 f2 f3, fs = [f0, f1, f2, f3] := by
  have hl := congrArg List.length h
  rw [List.length_map] at hl
  match fs, hl with
  | [f0, f1, f2, f3], _ => exact ⟨f0, f1, f2, f3, rfl⟩
 simp only [List.map_cons, List.map_nil, List.cons.injEq, Prod.mk.injEq, and_true] at h
 obtain ⟨⟨n0, t0, o0⟩, ⟨n1, t1, o1⟩, ⟨n2, t2, o2⟩, ⟨n3, t3, o3⟩⟩ := h
 have m0 : f0.name ≠ "_" := by simpa using n0
 have m1 : f1.name ≠ "_" := by simpa using n1
 have m2 : f2.name ≠ "_" := by simpa using n2
 have m3 : f3.name ≠ "_" := by simpa using n3
 have p0 : ∀ z : Nd, (part f0.type (ndc z).toArray f0.offset).run Tryz.prog w = .ok (txt (nP z)) w := fun z => by rw [t0, o0]; exact run_part_cell _ _ _ _ Tryz.isAgg9 rfl w
 have p1 : ∀ z : Nd, (part f1.type (ndc z).toArray f1.offset).run Tryz.prog w = .ok (txt (nV z)) w := fun z => by rw [t1, o1]; exact run_part_cell _ _ _ _ Tryz.isAgg9 rfl w
 have p2 : ∀ z : Nd, (part f2.type (ndc z).toArray f2.offset).run Tryz.prog w = .ok (.int .i64 (nR z)) w := fun z => by rw [t2, o2]; exact run_part_cell _ _ _ _ Tryz.isAgg3 rfl w
 have p3 : ∀ z : Nd, (part f3.type (ndc z).toArray f3.offset).run Tryz.prog w = .ok (.int .i64 (nO z)) w := fun z => by rw [t3, o3]; exact run_part_cell _ _ _ _ Tryz.isAgg3 rfl w
 have e0 : (Op.equalIn (d + 1) f0.type (txt (nP x)) (txt (nP y))).run Tryz.prog w = .ok (nP x == nP y) w := by rw [t0, run_equalIn_string w d _ _ _ Tryz.underlying9, toList_txt, toList_txt]
 have e1 : (Op.equalIn (d + 1) f1.type (txt (nV x)) (txt (nV y))).run Tryz.prog w = .ok (nV x == nV y) w := by rw [t1, run_equalIn_string w d _ _ _ Tryz.underlying9, toList_txt, toList_txt]
 have e2 : (Op.equalIn (d + 1) f2.type (.int .i64 (nR x)) (.int .i64 (nR y))).run Tryz.prog w = .ok (nR x == nR y) w := by rw [t2, run_equalIn_int w d _ _ _ _ _ Tryz.underlying3]
 have e3 : (Op.equalIn (d + 1) f3.type (.int .i64 (nO x)) (.int .i64 (nO y))).run Tryz.prog w = .ok (nO x == nO y) w := by rw [t3, run_equalIn_int w d _ _ _ _ _ Tryz.underlying3]
 obtain ⟨a, b, c, e⟩ := x
 obtain ⟨a', b', c', e'⟩ := y
 simp only [Op.eqFields, if_pos m0, if_pos m1, if_pos m2, if_pos m3, Sem.run_bind, p0, p1, p2, p3, e0, e1, e2, e3, Result.andThen_ok, Sem.run_ite, Sem.run_pure]
 by_cases h0 : a = a' <;> by_cases h1 : b = b' <;> by_cases h2 : c = c' <;> by_cases h3 : e = e' <;> simp [h0, h1, h2, h3]
theorem kidsN_snoc (l : List Nd) (p : List UInt8) (i : Nat) (hi : i < l.length) :
 kidsN (l.take (i + 1)) p = kidsN (l.take i) p ++ (if kidN p (l.getD i nd0) = true then [lastN (nP (l.getD i nd0))] else []) := by
 have e : l.take (i + 1) = l.take i ++ [l.getD i nd0] := by
  rw [List.take_add_one, List.getD_eq_getElem?_getD, List.getElem?_eq_getElem hi]
  rfl
 rw [e]
 obtain ⟨y, hy⟩ : ∃ y, l.getD i nd0 = y := ⟨_, rfl⟩
 rw [hy]
 unfold kidsN
 rw [List.filter_append, List.map_append]
 congr 1
 cases h : kidN p y <;> simp [h]
theorem kidsN_len (l : List Nd) (p : List UInt8) : (kidsN l p).length ≤ l.length := by
 unfold kidsN
 rw [List.length_map]
 exact List.length_filter_le _ _
theorem kidN_right (p : List UInt8) (x : Nd) (h : kidN p x = true) : rightB (nP x) = true ∧ parentE (nP x) = 0 ∧ parentS (nP x) = p := by
 unfold kidN at h
 simp only [Bool.and_eq_true, decide_eq_true_eq] at h
 refine ⟨?_, h.1, h.2⟩
 cases hr : rightB (nP x)
 ·have := (parent_not (nP x) hr).2
  rw [h.1] at this; cases this
 ·rfl
theorem list_not (l : List Nd) (p : List UInt8) (h : getE l p ≠ 0) : listS l p = [] := by unfold listS; rw [if_neg h]
theorem list_yes (l : List Nd) (p : List UInt8) (h : getE l p = 0) : listS l p = kidsN l p := by unfold listS; rw [if_pos h]
theorem dropS_snoc (l : List Nd) (o : Int) (i : Nat) (hi : i < l.length) : dropS (l.take (i + 1)) o = dropS (l.take i) o ++ (if ownB o (l.getD i nd0) = true then [] else [l.getD i nd0]) ∧
 goneN (l.take (i + 1)) o = goneN (l.take i) o ++ (if ownB o (l.getD i nd0) = true then [nP (l.getD i nd0)] else []) := by
 have e : l.take (i + 1) = l.take i ++ [l.getD i nd0] := by
  rw [List.take_add_one, List.getD_eq_getElem?_getD, List.getElem?_eq_getElem hi]
  rfl
 rw [e]
 obtain ⟨y, hy⟩ : ∃ y, l.getD i nd0 = y := ⟨_, rfl⟩
 rw [hy]
 unfold dropS goneN
 rw [List.filter_append, List.filter_append, List.map_append]
 cases h : ownB o y <;> simp [h]
theorem dropS_len (l : List Nd) (o : Int) : (dropS l o).length ≤ l.length := List.length_filter_le _ _
theorem goneN_len (l : List Nd) (o : Int) : (goneN l o).length ≤ l.length := by
 unfold goneN
 rw [List.length_map]
 exact List.length_filter_le _ _
theorem wpList_app1Sg {P : Program} {w : World} {ops : Array Oper} {rest : List Oper} {o : Oper} {a : Act} {Q : Exit → Act → World → Prop}
 (hgd : o.guard = none) (s x : Operand) (t : TypeId) (ho : o.op = .call { callee := .builtin .append, args := #[s, x], argTypes := #[t, t] })
 (e : TypeId) (i : TypeInfo) (ht : P.underlying t = some (.slice e)) (hi : P.info? e = some i) (hz : i.zero = some (.string ⟨#[]⟩)) (hsize : i.size = 1) (hby : i.bytes = 16)
 (base : Nat) (v : Value) (l : List ByteArray) (b : ByteArray) (ad : Addr) (hs : a.eval s = v) (hown : OwnS e w base v l) (hx : a.eval x = .slice (some ad) 1 1) (hc : w.cell? ad = some (.string b))
 (hlen : l.length ≤ 1099511627776) (hbase : base ≤ w.heap.size)
 (h : ∀ v' w', OwnS e w' base v' (l ++ [b]) → Below base w w' → w.grownBy w' v.ownBlock → wpList P ops Q rest (a.put o.dst v') w') : wpList P ops Q (o :: rest) a w := by
 have h63 : l.length + 1 ≤ maxLen := by unfold maxLen; omega
 refine wpList_append_own w hgd s x t ho base e i (.string ⟨#[]⟩) 1 16 ht hi hz hsize hby rfl (by decide) v l.length (strs l) hs hown ad 1 1 [.string b] hx rfl ?_ ?_ h63 (by omega) hbase ?_
 ·intro j u hu
  have hadd : ad.add 0 = ad := by simp [Addr.add]
  match j, hu with
  | 0, hu =>
    simp at hu
    subst hu
    rw [hadd]
    exact hc
 ·intro u hu
  simp at hu
  subst hu
  rfl
 ·intro v' w' h1 h2 _
  refine h v' w' ?_ (OwnS.grown hown h2 hbase) h2
  unfold OwnS
  rw [List.length_append, strs_append]
  exact h1
theorem RdNd.one (w : World) (e : TypeId) (x : Nd) : RdNd (w.heap.size + 1) (w.alloc (.cells (ndc x).toArray e)) (.slice (some ⟨w.heap.size, 0, none⟩) 1 1) [x] := by
 refine ⟨some ⟨w.heap.size, 0, none⟩, 1, rfl, Nat.le_refl _, by decide, fun h => (by cases h), fun a ha => ?_⟩
 cases ha
 refine ⟨fun _ => Nat.lt_succ_self _, fun j u hu => ?_⟩
 rw [nds_one] at hu
 have hb : Blk (w.alloc (.cells (ndc x).toArray e)) w.heap.size (ndc x) e := heap_alloc_new w _
 have hadd : (⟨w.heap.size, 0, none⟩ : Addr).add j = ⟨w.heap.size, j, none⟩ := by unfold Addr.add; split <;> simp_all
 rw [hadd]
 exact (hb.cell j).trans hu
def DropsO (en es : TypeId) (l : List Nd) (g : List (List UInt8)) (w : World) (e : Ending) (w' : World) : Prop :=
 ∃ v u, e = .returned (.tuple #[.agg #[v], u]) ∧ OwnNd en w' w.heap.size v l ∧ OwnS es w' w.heap.size u (bas g) ∧ Below w.heap.size w w'
section
variable {P : Program} (w : World)
end
def ShelvesE (en : TypeId) (v0 : Value) (l : List Nd) (f : Nat) (w : World) (e : Ending) (w' : World) : Prop := ∃ v, e = .returned (.tuple #[.agg #[v], .int .i64 (f : Int)]) ∧ RdNd w'.heap.size w' v l ∧ (v = v0 ∨ OwnNd en w' w.heap.size v l) ∧ Below w.heap.size w w'
theorem create_err (l : List Nd) (p v : List UInt8) (o : Int) (f : Nat) (h : createE l p v o = f) (h0 : f ≠ 0) : createE l p v o = f ∧ createS l p v o = l := by
 refine ⟨h, ?_⟩
 unfold createS
 rw [if_neg (by rw [h]; exact h0)]
theorem create_ok (l : List Nd) (p v : List UInt8) (o : Int) (h : createE l p v o = 0) : createE l p v o = 0 ∧ createS l p v o = insN (p, v, 0, o) l := by
 refine ⟨h, ?_⟩
 unfold createS
 rw [if_pos h]
theorem del_err (l : List Nd) (p : List UInt8) (ver : Int) (f : Nat) (h : delE l p ver = f) (h0 : f ≠ 0) : delE l p ver = f ∧ delS l p ver = l := by
 refine ⟨h, ?_⟩
 unfold delS
 rw [if_neg (by rw [h]; exact h0)]
theorem del_ok (l : List Nd) (p : List UInt8) (ver : Int) (h : delE l p ver = 0) : delE l p ver = 0 ∧ delS l p ver = l.take (placeN l p) ++ l.drop (placeN l p + 1) := by
 refine ⟨h, ?_⟩
 unfold delS
 rw [if_pos h, List.eraseIdx_eq_take_drop_succ]
def rootN : Nd := ([47], [], 0, 0)
theorem shNew_own (w : World) : Calls Tryz.prog 45 #[] w (fun e w' => ∃ v, e = .returned (.agg #[v]) ∧ RdNd w'.heap.size w' v [rootN] ∧ (∀ a n c, v = .slice (some a) n c → w.heap.size ≤ a.block) ∧ Below w.heap.size w w') := by
 obtain ⟨d30, hu30, hd30⟩ := rowPS
 have HU := lhd hu30
 have HD := lhd hd30
 clear hu30 hd30
 go_enter Tryz.func45, Tryz.ntmps45
 go_wp2_with (refine wpList_alloc_blk rfl 41 rfl [.slice none 0 0] zPS ?_)
 intro w1 a1 a2 a3
 obtain ⟨g0, hg0⟩ : ∃ g, w.heap.size = g := ⟨_, rfl⟩
 obtain ⟨G, hG⟩ : ∃ G, w1.heap.size = G := ⟨_, rfl⟩
 have X0 := lhd a1
 have HB := lhd a3
 have hg0G : g0 < G := by omega
 have hwG : w.heap.size ≤ G := by omega
 have R0 : Hid (RdNd (G + 1) (w1.alloc (.cells (ndc rootN).toArray 157)) (.slice (some ⟨G, 0, none⟩) 1 1) [rootN]) := by
  show RdNd _ _ _ _
  have h := RdNd.one w1 157 rootN
  rw [hG] at h
  exact h
 have X1 : Hid (Blk (w1.alloc (.cells (ndc rootN).toArray 157)) g0 [.slice none 0 0] 41) := by
  show Blk _ _ _ _
  rw [← hg0]
  exact X0.out.alloc _
 have HW : Hid (Below G w1 (w1.alloc (.cells (ndc rootN).toArray 157))) := (Below.refl _ _).alloc (by omega) _
 have hsz : (w1.alloc (.cells (ndc rootN).toArray 157)).heap.size = G + 1 := by simp; omega
 have HSZ := lhd hsz
 rw [hg0]
 clear a1 a2 a3 X0 hsz
 go_wp2_with (refine wpList_store_to rfl 41 _ _ rfl g0 [.slice (some ⟨G, 0, none⟩) 1 1] [.slice none 0 0] 41 rfl rfl X1.out sPS rfl (slice_one _ _ _) ?_)
 intro w2 e1 e2 e3 e4
 go_wp2
 refine bodyPost_ret (v := .agg [Value.slice (some ⟨G, 0, none⟩) 1 1].toArray) ?_ rfl ?_
 ·exact ret_blkUL rfl _ _ g0 41 [.slice (some ⟨G, 0, none⟩) 1 1] rfl e1 d30 HU.out HD.out sPS
 ·have hb : Below w.heap.size w w2 := HB.out.trans ((HW.out.mono hwG).trans (e3.mono (by omega)))
  refine ⟨_, rfl, ?_, fun a n c hv => by injection hv with hv; injection hv with hv; subst hv; exact hwG, hb⟩
  obtain ⟨A', c', hv, hc, hm, hn, hr⟩ := R0.out
  refine ⟨A', c', hv, hc, hm, hn, fun a ha => ⟨fun h0 => ?_, fun j u hu => ?_⟩⟩
  ·have := (hr a ha).1 h0
   rw [e2]
   exact this
  ·rw [← (hr a ha).2 j u hu]
   refine World.cell?_of_block (e4 _ ?_)
   have h1 : a = ⟨G, 0, none⟩ := by
    rw [ha] at hv
    injection hv with hv
    injection hv with hv
    exact hv.symm
   rw [h1, addr_block]
   show G ≠ g0
   omega
theorem fNodeP : (Tryz.prog.fieldsOf 157).toList.map (fun f => (f.name == "_", f.type, f.offset)) = [(false, 9, 0), (false, 9, 1), (false, 3, 2), (false, 3, 3)] := by kernel_rfl
theorem uNodeP : Tryz.prog.underlying 157 = some (.struct (Tryz.prog.fieldsOf 157)) := by kernel_rfl
theorem run_neq_ndP (x y : Nd) (w : World) : (binOp .neq 157 (.agg #[txt (nP x), txt (nV x), .int .i64 (nR x), .int .i64 (nO x)]) (.agg #[txt (nP y), txt (nV y), .int .i64 (nR y), .int .i64 (nO y)])).run Tryz.prog w = .ok (.bool (!decide (x = y))) w := by
 rw [run_neq_struct, run_equalIn_struct w 9999 _ _ _ uNodeP (by kernel_rfl), show (#[txt (nP x), txt (nV x), .int .i64 (nR x), .int .i64 (nO x)] : Array Value) = (ndc x).toArray from rfl, show (#[txt (nP y), txt (nV y), .int .i64 (nR y), .int .i64 (nO y)] : Array Value) = (ndc y).toArray from rfl, eqFields_nd 9998 x y w _ fNodeP]
 rfl
theorem eqFunc_any (l m : List Nd) (v u : Value) (w : World) (hr : RdNd w.heap.size w v l) (hr2 : RdNd w.heap.size w u m) : Calls Tryz.prog 104 #[v, u] w (One (.bool (decide (l = m))) w) := by
 obtain ⟨A, cp, rfl, hc, hm⟩ := hr.shape
 obtain ⟨A2, cp2, rfl, hc2, hm2⟩ := hr2.shape
 unfold maxLen at hm hm2
 obtain ⟨n, hn⟩ : ∃ n, l.length = n := ⟨_, rfl⟩
 obtain ⟨k, hk⟩ : ∃ n, m.length = n := ⟨_, rfl⟩
 have HN := lhd hn
 have HK := lhd hk
 have HRa := lhd hr
 have HRb := lhd hr2
 rw [hn] at hc HRa ⊢
 rw [hk] at hc2 HRb ⊢
 clear hr hn hr2 hk
 go_enter Tryz.func104, Tryz.ntmps104
 by_cases hnk : n = k
 ·subst hnk
  go_wp2
  go_loopw [5, 13] (fun _ x wr => ∃ i : Nat, i ≤ n ∧ x = .int .i64 (i : Int) ∧ Hid (∀ j, j < i → l.getD j nd0 = m.getD j nd0) ∧ Hid (Below w.heap.size w wr)) (fun _ x _ => n - (intOf x).toNat)
  case atStart => exact ⟨0, by omega, rfl, fun j hj => by omega, Below.refl _ _⟩
  case round =>
   obtain ⟨i, hi, rfl, HA, HD⟩ := hrel
   by_cases hi2 : i < n
   ·have zi : (i : Int) < (n : Int) := by omega
    obtain ⟨a, hA, c0, c1, c2, c3⟩ := (HRa.out.below HD.out).at_ i (by rw [HN.out]; exact hi2)
    obtain ⟨b, hA2, d0, d1, d2, d3⟩ := (HRb.out.below HD.out).at_ i (by rw [HK.out]; exact hi2)
    subst hA hA2
    obtain ⟨x, hx⟩ : ∃ x, l.getD i nd0 = x := ⟨_, rfl⟩
    obtain ⟨y, hy⟩ : ∃ y, m.getD i nd0 = y := ⟨_, rfl⟩
    rw [hx] at c0 c1 c2 c3
    rw [hy] at d0 d1 d2 d3
    have hne := run_neq_ndP x y
    obtain ⟨B, hB⟩ : ∃ B, decide (x = y) = B := ⟨_, rfl⟩
    rw [hB] at hne
    go_wp2
    refine wp_region_quiet_lit (by kernel_rfl) (by kernel_rfl) ?_
    repeat (first | go_big_quiet_step (fail) | quiet_step (fail))
    refine wpQuiet_nil ?_
    intro _ hw'
    obtain ⟨nq, hw''⟩ := hw'
    subst hw''
    have HD2 : Hid (Below w.heap.size w (wr.drewN nq)) := Below.drewN' HD.out
    cases B
    ·have HF := lhd (same_at l m i (by rw [hx, hy]; simpa using hB))
     clear hne
     go_wp2
     go_ret
     exact ⟨by rw [HF.out]; rfl, HD2.out⟩
    ·have HA2 : Hid (∀ j, j < i + 1 → l.getD j nd0 = m.getD j nd0) := by
      intro j hj
      by_cases h : j < i
      ·exact HA.out j h
      ·have : j = i := by omega
       subst this
       rw [hx, hy]
       simpa using hB
     clear hne
     go_wp2
     go_roundw
     case rel => exact ⟨i + 1, by omega, by go_num, HA2, HD2⟩
     case measure => simp [intOf]; omega
   ·have hE : i = n := by omega
    subst hE
    have HF := lhd (same_all l m (by rw [HN.out, HK.out]) (by rw [HN.out]; exact HA.out))
    go_wp2
    go_ret
    exact ⟨by rw [HF.out]; rfl, HD.out⟩
 ·have hz : ¬ (n : Int) = (k : Int) := by omega
  have hzb : ((n : Int) != (k : Int)) = true := by
   rw [bne_iff_ne]; exact hz
  have hzb2 : ((n : Int) == (k : Int)) = false := by
   rw [beq_eq_false_iff_ne]; exact hz
  have HF := lhd (same_len l m (by rw [HN.out, HK.out]; exact hnk))
  clear hnk
  go_wp2
  go_ret
  exact ⟨by rw [HF.out]; rfl, Below.refl _ _⟩
theorem shSame_any (l m : List Nd) (v u : Value) (w : World) (hr : RdNd w.heap.size w v l) (hr2 : RdNd w.heap.size w u m) : Calls Tryz.prog 57 #[.agg #[v], .agg #[u]] w (One (.bool (decide (l = m))) w) := by
 have HR := lhd hr
 have HR2 := lhd hr2
 clear hr hr2
 go_enter Tryz.func57, Tryz.ntmps57
 go_wp2_with (refine wpList_box_blk rfl 41 _ rfl [v] rfl ?_)
 intro w1 b1 b2 b3
 go_wp2_with (refine wpList_box_blk rfl 41 _ rfl [u] rfl ?_)
 intro w2 a1 a2 a3
 obtain ⟨g0, hg0⟩ : ∃ g, w.heap.size = g := ⟨_, rfl⟩
 obtain ⟨g1, hg1⟩ : ∃ g, w.heap.size + 1 = g := ⟨_, rfl⟩
 have X0 := lhd (b1.below a3 (by omega))
 have HB := lhd (b3.trans (a3.mono (by omega)))
 have hw2 : w.heap.size ≤ w2.heap.size := by omega
 have HRa := lhd ((HR.out.below HB.out).more hw2)
 have HRb := lhd ((HR2.out.below HB.out).more hw2)
 have X1 := lhd a1
 rw [hg1] at X1 ⊢
 rw [hg0] at X0 ⊢
 have ca := X0.out.cell 0
 have cb := X1.out.cell 0
 clear b1 b2 b3 a1 a2 a3 HR HR2
 go_wp2_with fail
 refine (eqFunc_any l m v u w2 HRa.out HRb.out).mono ?_
 rintro e w3 ⟨rfl, hb⟩
 have HB3 := lhd (HB.out.trans (hb.mono hw2))
 clear hb ca cb
 go_wp2
 go_ret
 exact ⟨rfl, HB3.out⟩
theorem infoPN : (Tryz.prog.info? 157).map (fun i => (i.zero, i.size, i.bytes)) = some (some ndz, 4, 48) := by kernel_rfl
theorem info_partsPN : ∃ i, Tryz.prog.info? 157 = some i ∧ i.zero = some ndz ∧ i.size = 4 ∧ i.bytes = 48 := by
 have h := infoPN
 cases hi : Tryz.prog.info? 157 with
 | none => rw [hi] at h; simp at h
 | some i =>
   rw [hi] at h
   simp at h
   exact ⟨i, rfl, h.1, h.2.1, h.2.2⟩
theorem shDrop_own (l : List Nd) (z : Int) (v : Value) (w : World) (hr : RdNd w.heap.size w v l) (hl : l.length ≤ 100000) : Calls Tryz.prog 224 #[.agg #[v], .int .i64 z] w (DropsO 157 9 (dropS l z) (goneN l z) w) := by
 obtain ⟨A, cp, rfl, hc, hm⟩ := hr.shape
 unfold maxLen at hm
 obtain ⟨i0, hI, hz0, hz1, hz2⟩ := info_partsStr
 obtain ⟨i1, hJ, hy0, hy1, hy2⟩ := info_partsPN
 obtain ⟨n, hn⟩ : ∃ n, l.length = n := ⟨_, rfl⟩
 have HN := lhd hn
 have HR := lhd hr
 rw [hn] at hc HR hl ⊢
 have HL := lhd hl
 clear hr hn hl
 go_enter Tryz.func224, Tryz.ntmps224
 go_wp2_with (refine wpList_box_blk rfl 41 _ rfl [.slice A n cp] rfl ?_)
 intro w1 b1 b2 b3
 go_wp2_with (refine wpList_alloc_blk rfl 41 rfl [.slice none 0 0] zPS ?_)
 intro w2 a1 a2 a3
 obtain ⟨g0, hg0⟩ : ∃ g, w.heap.size = g := ⟨_, rfl⟩
 obtain ⟨g1, hg1⟩ : ∃ g, w.heap.size + 1 = g := ⟨_, rfl⟩
 obtain ⟨G, hG⟩ : ∃ G, w2.heap.size = G := ⟨_, rfl⟩
 have X0 := lhd (b1.below a3 (by omega))
 have X1 := lhd a1
 have HB := lhd (b3.trans (a3.mono (by omega)))
 have hwG : w.heap.size ≤ G := by omega
 have h0G : g0 < G := by omega
 have h1G : g1 < G := by omega
 have hw1 : w.heap.size ≤ g1 := by omega
 rw [hg1] at X1 ⊢
 rw [hg0] at X0 ⊢
 have ca := X0.out.cell 0
 clear b1 b2 b3 a1 a2 a3 hg1
 have HG := lhd hG
 go_wp2
 go_loopw [6, 7, 13] (fun o u x wr => ∃ i : Nat, i ≤ n ∧ x = .int .i64 (i : Int) ∧ Hid (OwnNd 157 wr G o (dropS (l.take i) z)) ∧ Hid (OwnS 9 wr G u (bas (goneN (l.take i) z))) ∧ Hid (Below G w2 wr)) (fun _ _ x _ => n - (intOf x).toNat)
 case atStart => exact ⟨0, by omega, rfl, OwnNd.nil _ _ _, OwnS.nil _ _ _, Below.refl _ _⟩
 case round =>
  obtain ⟨i, hi, rfl, HO, HS, HW⟩ := hrel
  have hwr := HW.out.size
  rw [hG] at hwr
  clear ca
  have ca := (X0.out.below HW.out h0G).cell 0
  by_cases hi2 : i < n
  ·have zi : (i : Int) < (n : Int) := by omega
   obtain ⟨a, hA, c0, c1, c2, c3⟩ := (HR.out.below (HB.out.trans (HW.out.mono hwG))).at_ i (by rw [HN.out]; exact hi2)
   subst hA
   have HT := lhd (dropS_snoc l z i (by rw [HN.out]; exact hi2))
   have HKL := lhd (Nat.le_trans (dropS_len (l.take i) z) (List.length_take_le i l))
   have HGL := lhd (Nat.le_trans (goneN_len (l.take i) z) (List.length_take_le i l))
   obtain ⟨x, hx⟩ : ∃ x, l.getD i nd0 = x := ⟨_, rfl⟩
   rw [hx] at c0 c1 c2 c3 HT
   clear hx
   go_wp2_with (refine wpList_alloc_blk rfl 157 rfl (ndc nd0) zPN ?_)
   intro wa a1 a2 a3
   obtain ⟨gA, hgA⟩ : ∃ g, wr.heap.size = g := ⟨_, rfl⟩
   have A1 := lhd a1
   have HOa := lhd (HO.out.below a3 (Nat.le_refl _))
   have HSa := lhd (HS.out.below a3 (Nat.le_refl _))
   have HWa := lhd (HW.out.trans (a3.mono hwr))
   have hne := World.ownsRow.lt HO.out
   have hnf := World.ownsRow.lt HS.out
   rw [hgA] at A1 hwr hne hnf ⊢
   have HNE := lhd hne
   have HNF := lhd hnf
   clear a1 a3 HO HS HW c0 c1 c2 c3 ca hgA hne hnf
   go_wp2_with (refine wpList_store_to rfl 157 _ _ rfl gA (ndc x) (ndc nd0) 157 rfl rfl A1.out sPN rfl (ndc_one _) ?_)
   intro wb e1 e2 e3 e4
   have HO : Hid (OwnNd 157 wb G u6 (dropS (l.take i) z)) := by
    refine ownsRow_but HOa.out (fun e => ?_) e4
    have := (HNE.out gA e).2
    omega
   have HS : Hid (OwnS 9 wb G u7 (bas (goneN (l.take i) z))) := by
    refine ownsRow_but HSa.out (fun e => ?_) e4
    have := (HNF.out gA e).2
    omega
   have HW := lhd (HWa.out.trans (e3.mono hwr))
   have d0 := e1.at_ 0 _ rfl
   have d1 := e1.at_ 1 _ rfl
   have d2 := e1.at_ 2 _ rfl
   have d3 := e1.at_ 3 _ rfl
   have hsb : gA < wb.heap.size := e1.lt
   have hGb : G ≤ wb.heap.size := by omega
   clear e1 e2 e3 e4 a2 A1 HOa HSa HWa
   cases ho : ownB z x
   ·have HT2 : Hid (dropS (l.take (i + 1)) z = dropS (l.take i) z ++ [x] ∧ goneN (l.take (i + 1)) z = goneN (l.take i) z) := by
     show _ ∧ _
     rw [HT.out.1, HT.out.2, ho]; simp
    have HO4 : Hid (OwnNd 157 (wb.alloc (.cells (ndc x).toArray 157)) G u6 (dropS (l.take i) z)) := HO.out.alloc _
    have HS4 : Hid (OwnS 9 (wb.alloc (.cells (ndc x).toArray 157)) G u7 (bas (goneN (l.take i) z))) := HS.out.alloc _
    have HW4 : Hid (Below G w2 (wb.alloc (.cells (ndc x).toArray 157))) := HW.out.alloc hGb _
    have HF : Hid ((0 < z ∧ ((nO x == z) = false)) ∨ ¬ 0 < z) := by
     show _ ∨ _
     unfold ownB at ho
     by_cases hz : 0 < z
     ·left
      simp [hz] at ho
      exact ⟨hz, by simpa using ho⟩
     ·exact .inr hz
    clear ho
    rcases HF.out with ⟨hz, hzo⟩ | hz
    all_goals
     go_wp2_with (at_builtin; refine wpList_appNd rfl _ _ 39 rfl 157 i1 Tryz.underlying39 hJ hy0 hy1 hy2 G _ _ _ (dropS (l.take i) z) [x] rfl HO4.out rfl (RdNd.one wb 157 x) ?d1 ?d2 ?_)
     case d1 => have := HKL.out; have := HL.out; simp; omega
     case d2 => first | omega | (simp; omega)
     intro v5 w5 h5 hb5 hg5
     have HO5 : Hid (OwnNd 157 w5 G v5 (dropS (l.take (i + 1)) z)) := by
      show OwnNd _ _ _ _ _
      rw [HT2.out.1]
      exact h5
     have HS5 : Hid (OwnS 9 w5 G u7 (bas (goneN (l.take (i + 1)) z))) := by
      show OwnS _ _ _ _ _
      rw [HT2.out.2]
      exact ownsRow_other (by decide) HS4.out HO4.out hg5
     have HW5 : Hid (Below G w2 w5) := HW4.out.trans hb5
     clear h5 hb5 hg5
     go_wp2
     go_roundw
     case rel => exact ⟨i + 1, by omega, by go_num, HO5, HS5, HW5⟩
     case measure => simp [intOf]; omega
   ·have HT2 : Hid (dropS (l.take (i + 1)) z = dropS (l.take i) z ∧ goneN (l.take (i + 1)) z = goneN (l.take i) z ++ [nP x]) := by
     show _ ∧ _
     rw [HT.out.1, HT.out.2, ho]; simp
    have HO4 : Hid (OwnNd 157 (wb.alloc (.cells #[.string ⟨(nP x).toArray⟩] 9)) G u6 (dropS (l.take i) z)) := HO.out.alloc _
    have HS4 : Hid (OwnS 9 (wb.alloc (.cells #[.string ⟨(nP x).toArray⟩] 9)) G u7 (bas (goneN (l.take i) z))) := HS.out.alloc _
    have HW4 : Hid (Below G w2 (wb.alloc (.cells #[.string ⟨(nP x).toArray⟩] 9))) := HW.out.alloc hGb _
    unfold ownB at ho
    simp only [Bool.and_eq_true, decide_eq_true_eq] at ho
    obtain ⟨hz, hzo⟩ := ho
    rw [hzo] at d3
    have hzz : (z == z) = true := by simp
    clear hzo
    go_wp2_with (at_builtin; refine wpList_app1Sg rfl _ _ 77 rfl 9 i0 Tryz.underlying77 hI hz0 hz1 hz2 G _ (bas (goneN (l.take i) z)) ⟨(nP x).toArray⟩ ⟨wb.heap.size, 0, none⟩ rfl HS4.out rfl ?d1 ?d2 ?d3 ?_)
    case d1 => simp
    case d2 => rw [bas_length]; have := HGL.out; have := HL.out; omega
    case d3 => simp; omega
    intro v5 w5 h5 hb5 hg5
    rw [← bas_snoc] at h5
    have HS5 : Hid (OwnS 9 w5 G v5 (bas (goneN (l.take (i + 1)) z))) := by
     show OwnS _ _ _ _ _
     rw [HT2.out.2]
     exact h5
    have HO5 : Hid (OwnNd 157 w5 G u6 (dropS (l.take (i + 1)) z)) := by
     show OwnNd _ _ _ _ _
     rw [HT2.out.1]
     exact ownsRow_other (by decide) HO4.out HS4.out hg5
    have HW5 : Hid (Below G w2 w5) := HW4.out.trans hb5
    clear h5 hb5 hg5
    go_wp2
    go_roundw
    case rel => exact ⟨i + 1, by omega, by go_num, HO5, HS5, HW5⟩
    case measure => simp [intOf]; omega
  ·have hE : i = n := by omega
   subst hE
   have HF : Hid (l.take i = l) := List.take_of_length_le (by rw [HN.out]; exact Nat.le_refl _)
   rw [HF.out] at HO HS
   obtain ⟨Ao, co, ho, hoc, -⟩ := HO.out.rd.shape
   subst ho
   have X1r := lhd (X1.out.below HW.out h1G)
   obtain ⟨d30, hu30, hd30⟩ := rowPS
   have HU := lhd hu30
   have HD := lhd hd30
   clear hu30 hd30
   go_wp2_with (refine wpList_store_to rfl 41 _ _ rfl g1 [.slice Ao (dropS l z).length co] [.slice none 0 0] 41 rfl rfl X1r.out sPS rfl ?_ ?_)
   ·exact slice_one _ _ _
   ·intro w5 e1 e2 e3 e4
    go_wp2
    refine bodyPost_ret (v := .tuple #[.agg [Value.slice Ao (dropS l z).length co].toArray, u7]) ?_ rfl ?_
    ·exact ret_blk2U rfl _ _ g1 41 [.slice Ao (dropS l z).length co] _ rfl rfl e1 d30 HU.out HD.out sPS
    ·have hO : ∀ k, G ≤ k → w5.heap[k]? = wr.heap[k]? := fun k hk => e4 k (by omega)
     exact ⟨_, _, rfl, OwnNd.base (ownsRow_same HO.out hO) hwG, OwnS.base (ownsRow_same HS.out hO) hwG, HB.out.trans ((HW.out.mono hwG).trans (e3.mono hw1))⟩
end Go.Proofs.YtgfobinklijkpaaGreatDoor
