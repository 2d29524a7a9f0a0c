/-
  Texts HI G8 G9 GA.
-/
import Derived.Test.YtdihngkdhanhkaaGreatDoorV01
import Derived.Deep.RegionLaw
import Derived.Test.YtdihngkdhanhkaaGreatDoorV21
import Derived.Test.YtdihngkdhanhkaaGreatDoorV22
namespace Go.Proofs.YtdihngkdhanhkaaGreatDoor
set_option maxRecDepth 100000
set_option maxHeartbeats 16000000
open Go.RowKit
theorem set_err (l : List Nd) (p v : List UInt8) (ver : Int) (f : Nat) (h : setE l p v ver = f) (h0 : f ≠ 0) : setE l p v ver = f ∧ setS l p v ver = l := by
 refine ⟨h, ?_⟩
 unfold setS
 rw [if_neg (by rw [h]; exact h0)]
theorem set_ok (l : List Nd) (p v : List UInt8) (ver : Int) (h : setE l p v ver = 0) : setE l p v ver = 0 ∧ setS l p v ver = l.set (placeN l p) (p, v, IntKind.i64.wrap (nR (nodeN l p) + 1), nO (nodeN l p)) := by
 refine ⟨h, ?_⟩
 unfold setS
 rw [if_pos h]
theorem OwnNd.of {e : TypeId} {w : World} {base g cap : Nat} {l : List Nd} (cur : List Value) (hb : Blk w g cur e) (h2 : base ≤ g) (h4 : l.length ≤ cap) (h5 : cap ≤ maxLen) (h6 : cur.length = cap * 4) (h7 : cur.take (l.length * 4) = nds l) :
 OwnNd e w base (.slice (some ⟨g, 0, none⟩) l.length cap) l := by
 refine ⟨?_, .inr ⟨g, cap, cur.toArray, rfl, h2, hb, h4, h5, ?_, ?_⟩⟩
 ·rw [nds_length]; omega
 ·simpa using h6
 ·simpa using h7
theorem nds_setk (l : List Nd) (i k : Nat) (v : Value) (y : Nd) (hi : i < l.length) (hk : k < 4) (hy : ndc y = (ndc (l.getD i nd0)).set k v) : (nds l).set (i * 4 + k) v = nds (l.set i y) := by
 rw [nds_set l i y hi, hy]
 have e1 : nds l = (nds l).take (i * 4) ++ (ndc (l.getD i nd0) ++ (nds l).drop (i * 4 + 4)) := by
  have h := nds_set l i (l.getD i nd0) hi
  rw [← h]
  congr 1
  refine List.ext_getElem (by simp) fun j h1 h2 => ?_
  rw [List.getElem_set]
  split
  ·rename_i hij
   subst hij
   rw [List.getD_eq_getElem?_getD, List.getElem?_eq_getElem hi]
   rfl
  ·rfl
 have hl : ((nds l).take (i * 4)).length = i * 4 := by
  rw [List.length_take, nds_length]
  omega
 have hx : (ndc (l.getD i nd0)).length = 4 := rfl
 conv => lhs; rw [e1]
 rw [List.set_append, if_neg (by omega), List.set_append, if_pos (by rw [hl, hx]; omega), hl, show i * 4 + k - i * 4 = k by omega]
theorem wrap64_eq (z : Int) : wrap64 z = IntKind.i64.wrap z := by
 unfold wrap64
 rw [IntKind.wrap_i64]
theorem getD_set (l : List Nd) (i : Nat) (y : Nd) (hi : i < l.length) : (l.set i y).getD i nd0 = y := by
 rw [List.getD_eq_getElem?_getD, List.getElem?_set_self hi]
 rfl
theorem take_set (A : List Value) (j n : Nat) (v : Value) : (A.set j v).take n = (A.take n).set j v := by
 refine List.ext_getElem (by simp) fun i h1 h2 => ?_
 simp [List.getElem_set]
theorem OwnNd.cellK {e : TypeId} {w : World} {base n cap g : Nat} {l : List Nd} (h : OwnNd e w base (.slice (some ⟨g, 0, none⟩) n cap) l) (i k : Nat) (hi : i < l.length) (hk : k < 4) :
 w.cell? ⟨g, i * 4 + k, none⟩ = some ((ndc (l.getD i nd0)).getD k undef) ∧ w.frozen? ⟨g, i * 4 + k, none⟩ = false := by
 obtain ⟨cur, hb, h2, h4, h5, h6, h7, hn⟩ := h.block
 refine ⟨?_, hb.frozen _⟩
 have hr := h.rd
 subst hn
 have := hr.node i hi k _ (ndc_get _ k hk)
 rw [Addr.add_add] at this
 have hadd : (⟨g, 0, none⟩ : Addr).add (i * 4 + k) = ⟨g, i * 4 + k, none⟩ := by unfold Addr.add; split <;> simp_all
 rw [hadd] at this
 exact this
theorem OwnNd.storedK {e : TypeId} {w : World} {base n cap g : Nat} {l : List Nd} (h : OwnNd e w base (.slice (some ⟨g, 0, none⟩) n cap) l) (i k : Nat) (hi : i < l.length) (hk : k < 4) (v : Value) (y : Nd) (hy : ndc y = (ndc (l.getD i nd0)).set k v) :
 OwnNd e (w.setCell ⟨g, i * 4 + k, none⟩ v) base (.slice (some ⟨g, 0, none⟩) n cap) (l.set i y) ∧ Below base w (w.setCell ⟨g, i * 4 + k, none⟩ v) := by
 obtain ⟨cur, hb, h2, h4, h5, h6, h7, hn⟩ := h.block
 have hcl : cur.toList.length = cap * 4 := by rw [Array.length_toList, h6]
 refine ⟨?_, (Below.refl _ _).setCell h2 _⟩
 ·have := OwnNd.of (e := e) (base := base) (cap := cap) (l := l.set i y) (cur.toList.set (i * 4 + k) v) (hb.set (i * 4 + k) v) h2 (by rw [List.length_set]; exact h4) h5 (by rw [List.length_set]; exact hcl)
   (by rw [List.length_set, take_set _ _ _ _, h7]; exact nds_setk l i k v y hi hk hy)
  rw [List.length_set, ← hn] at this
  exact this
theorem setEd_any (l : List Nd) (p vl : List UInt8) (i base : Nat) (u : Value) (gp gv : Nat) (W : World) (hB : base ≤ W.heap.size) (ho : OwnNd 91 W base u l) (hA : atI l p = (i : Int)) (hi : i < l.length) (_b1 : gp < base) (b2 : gv < base)
 (c1 : W.cell? ⟨gp, 0, none⟩ = some (txt p)) (c2 : W.cell? ⟨gv, 0, none⟩ = some (txt vl)) :
 Calls Tryz.prog 187 #[u, .pointer (some ⟨gp, 0, none⟩), .pointer (some ⟨gv, 0, none⟩)] W (EditsTo base (l.set i (nP (l.getD i nd0), vl, IntKind.i64.wrap (nR (l.getD i nd0) + 1), nO (l.getD i nd0))) W) := by
 obtain ⟨g, cap, rfl, hcap, hbg, hgW⟩ := ho.inBlock (by omega)
 obtain ⟨n, hn⟩ : ∃ n, l.length = n := ⟨_, rfl⟩
 have HN := lhd hn
 have HO := lhd ho
 have HAI := lhd hA
 have K2 := lhd c2
 have hcm : cap ≤ maxLen := by
  obtain ⟨_, _, _, _, h5, _⟩ := ho.block
  exact h5
 unfold maxLen at hcm
 rw [hn] at hcap hi HO ⊢
 have zi : (i : Int) < (n : Int) := by omega
 clear ho hA hn c2
 obtain ⟨y, hy⟩ : ∃ y, l.getD i nd0 = y := ⟨_, rfl⟩
 have HY := lhd hy
 rw [hy]
 clear hy
 go_enter Tryz.func187, Tryz.ntmps187
 go_wp2_with fail
 refine (shIndex_any l p _ W HO.out.rd).mono ?_
 rintro e W1 ⟨rfl, hb⟩
 rw [HAI.out]
 have HO1 := lhd (HO.out.below hb (Nat.le_refl _))
 have HB := lhd (hb.mono hB)
 clear hb c1 HO
 have c2 := (HB.out.cell b2).trans K2.out
 have d1 := HO1.out.storedK i 1 (by rw [HN.out]; exact hi) (by decide) (txt vl) (nP y, vl, nR y, nO y) (by rw [HY.out]; rfl)
 have d2 := d1.1.storedK i 2 (by rw [List.length_set, HN.out]; exact hi) (by decide) (.int .i64 (wrap64 (nR y + 1))) (nP y, vl, wrap64 (nR y + 1), nO y) (by rw [getD_set l i _ (by rw [HN.out]; exact hi)]; rfl)
 rw [List.set_set] at d2
 have D1 := lhd d1.2
 have D2 := lhd d2
 obtain ⟨e1, e2⟩ := HO1.out.cellK i 1 (by rw [HN.out]; exact hi) (by decide)
 obtain ⟨e3, e4⟩ := HO1.out.cellK i 2 (by rw [HN.out]; exact hi) (by decide)
 clear d1 d2
 rw [HY.out] at e1 e3
 change W1.cell? ⟨g, i * 4 + 1, none⟩ = some (txt (nV y)) at e1
 change W1.cell? ⟨g, i * 4 + 2, none⟩ = some (.int .i64 (nR y)) at e3
 go_wp2
 go_ret
 refine ⟨_, rfl, ?_, (HB.out.trans D1.out).trans D2.out.2⟩
 rw [← wrap64_eq]
 exact D2.out.1
theorem set_place (l : List Nd) (p v : List UInt8) (z : Int) (h : setE l p v z = 0) : atI l p = (placeN l p : Int) ∧ placeN l p < l.length ∧ nP (l.getD (placeN l p) nd0) = p := by
 have h0 : getE l p = 0 := by
  unfold setE at h
  by_cases h0 : getE l p = 0
  ·exact h0
  ·rw [if_pos h0] at h
   exact h
 have hH : hasN l p = true := by
  unfold getE at h0
  cases hH : hasN l p
  ·rw [hH] at h0
   split at h0 <;> simp at h0
  ·rfl
 have hlt : placeN l p < l.length := by
  unfold hasN at hH
  simpa using hH
 refine ⟨?_, hlt, (placeN_at l p hlt).1⟩
 unfold atI
 rw [hH]
 rfl
theorem shSet_own (l : List Nd) (p vl : List UInt8) (z : Int) (v : Value) (w : World) (hr : RdNd w.heap.size w v l) (hl : l.length ≤ 100000) (hR : rightN l = true) : Calls Tryz.prog 160 #[.agg #[v], txt p, txt vl, .int .i64 z] w (ShelvesE 91 v (setS l p vl z) (setE l p vl z) w) := by
 have hmf : ∀ (fn : Fn) (first cap : Array Value) (w : World), (Instr.makeFunc fn first cap).run Tryz.prog w = .ok (.func fn first cap) w := fun _ _ _ _ => rfl
 obtain ⟨d30, hu30, hd30⟩ := rowPS
 have HU := lhd hu30
 have HD := lhd hd30
 have HR := lhd hr
 have HL := lhd hl
 have HRT := lhd hR
 clear hR
 clear hr hl hu30 hd30
 go_enter Tryz.func160, Tryz.ntmps160
 go_wp2_with (refine wpList_box_blk rfl 24 _ rfl [v] rfl ?_)
 intro w1 b0 s0 l0
 go_wp2_with (refine wpList_box_one rfl 9 _ rfl (txt p) rfl rfl ?_)
 intro w2 b1 s1 l1
 go_wp2_with (refine wpList_box_one rfl 9 _ rfl (txt vl) rfl rfl ?_)
 intro w3 b2 s2 l2
 go_wp2_with (refine wpList_box_one rfl 3 _ rfl (.int .i64 z) rfl rfl ?_)
 intro w4 b3 s3 l3
 go_wp2_with (refine wpList_alloc_blk rfl 24 rfl [.slice none 0 0] zPS ?_)
 intro W b4 s4 l4
 obtain ⟨g0, hg0⟩ : ∃ g, w.heap.size = g := ⟨_, rfl⟩
 obtain ⟨g1, hg1⟩ : ∃ g, w.heap.size + 1 = g := ⟨_, rfl⟩
 obtain ⟨g2, hg2⟩ : ∃ g, w.heap.size + 1 + 1 = g := ⟨_, rfl⟩
 obtain ⟨g3, hg3⟩ : ∃ g, w.heap.size + 1 + 1 + 1 = g := ⟨_, rfl⟩
 obtain ⟨g4, hg4⟩ : ∃ g, w.heap.size + 1 + 1 + 1 + 1 = g := ⟨_, rfl⟩
 have z1 : w1.heap.size = w.heap.size + 1 := by omega
 have z2 : w2.heap.size = w.heap.size + 2 := by omega
 have z3 : w3.heap.size = w.heap.size + 3 := by omega
 have z4 : w4.heap.size = w.heap.size + 4 := by omega
 have zW : W.heap.size = w.heap.size + 5 := by omega
 have x0 := ((((b0.below l1 (by omega)).below l2 (by omega)).below l3 (by omega)).below l4 (by omega))
 have x1 := (((b1.below l2 (by omega)).below l3 (by omega)).below l4 (by omega))
 have x2 := ((b2.below l3 (by omega)).below l4 (by omega))
 have x3 := (b3.below l4 (by omega))
 have x4 := b4
 have hB : Below w.heap.size w W := ((((l0.trans (l1.mono (by omega))).trans (l2.mono (by omega))).trans (l3.mono (by omega))).trans (l4.mono (by omega)))
 rw [hg4] at x4 ⊢
 rw [hg3] at x3 ⊢
 rw [hg2] at x2 ⊢
 rw [hg1] at x1 ⊢
 rw [hg0] at x0 ⊢
 have X0 := lhd x0
 have X1 := lhd x1
 have X2 := lhd x2
 have X3 := lhd x3
 have X4 := lhd x4
 have HB := lhd hB
 have hgW : g4 < W.heap.size := by omega
 have hW0 : g0 < W.heap.size := by omega
 have hW1 : g1 < W.heap.size := by omega
 have hW2 : g2 < W.heap.size := by omega
 have hW3 : g3 < W.heap.size := by omega
 have hwg : w.heap.size ≤ g4 := by omega
 clear b0 s0 l0 x0 b1 s1 l1 x1 b2 s2 l2 x2 b3 s3 l3 x3 b4 s4 l4 x4 hB zW z1 z2 z3 z4 hg0 hg1 hg2 hg3 hg4
 have C0 := lhd (X0.out.cell 0)
 have C1 := lhd (X1.out.cell 0)
 have C2 := lhd (X2.out.cell 0)
 have C3 := lhd (X3.out.cell 0)
 have HRW : Hid (RdNd W.heap.size W v l) := (HR.out.below HB.out).more HB.out.size
 have ca := C0.out
 go_wp2_with fail
 refine (shChange_any l (l.set (placeN l p) (p, vl, IntKind.i64.wrap (nR (nodeN l p) + 1), nO (nodeN l p))) (setS l p vl z) v 185 187 #[.pointer (some ⟨g0, 0, none⟩), .pointer (some ⟨g1, 0, none⟩), .pointer (some ⟨g3, 0, none⟩), .pointer (some ⟨g2, 0, none⟩)] #[.pointer (some ⟨g1, 0, none⟩), .pointer (some ⟨g2, 0, none⟩)] (setE l p vl z) W HRW.out HL.out (fun args w => enters_of Tryz.func185 (by kernel_rfl) rfl args w) (fun args w => enters_of Tryz.func187 (by kernel_rfl) rfl args w) ?h1 ?h2 ?q1 ?q2).mono ?_
 case h1 =>
  intro W1 hW
  have h := setFn_any l p vl z v g0 g1 g3 g2 W1 ((HRW.out.below hW).more hW.size) (Nat.lt_of_lt_of_le hW0 hW.size) (Nat.lt_of_lt_of_le hW1 hW.size) (Nat.lt_of_lt_of_le hW3 hW.size) (Nat.lt_of_lt_of_le hW2 hW.size)
   ((hW.cell hW0).trans C0.out) ((hW.cell hW1).trans C1.out) ((hW.cell hW3).trans C3.out) ((hW.cell hW2).trans C2.out)
  rw [setF_eq l p vl z HRT.out] at h
  exact h
 case h2 =>
  intro hF base u W1 hb1 hb2 hW ho
  obtain ⟨hA, hi, hp⟩ := set_place l p vl z hF
  have h := setEd_any l p vl (placeN l p) base u g1 g2 W1 hb2 ho hA hi (Nat.lt_of_lt_of_le hW1 hb1) (Nat.lt_of_lt_of_le hW2 hb1) ((hW.cell hW1).trans C1.out) ((hW.cell hW2).trans C2.out)
  rw [hp] at h
  exact h
 case q1 => exact fun h => (set_ok l p vl z h).2
 case q2 => exact fun h => (set_err l p vl z _ rfl h).2
 rintro e w6 ⟨u, rfl, ho, hb⟩
 have HO := lhd ho
 have HB6 := lhd (HB.out.trans (hb.mono HB.out.size))
 have X6 := lhd (X4.out.below hb hgW)
 obtain ⟨A, c, rfl, -, -⟩ := ho.rd.shape
 obtain ⟨F, hF⟩ : ∃ F, (setE l p vl z) = F := ⟨_, rfl⟩
 have HF := lhd hF
 obtain ⟨l9, hl9⟩ : ∃ q, (setS l p vl z) = q := ⟨_, rfl⟩
 have HL9 := lhd hl9
 obtain ⟨n9, hn9⟩ : ∃ q, l9.length = q := ⟨_, rfl⟩
 rw [hl9, hn9] at HO
 rw [hl9, hn9, hF]
 clear ho hb ca hF hl9 hn9
 go_wp2_with (refine wpList_store_to rfl 24 _ _ rfl g4 [.slice A n9 c] [.slice none 0 0] 24 rfl rfl X6.out sPS rfl (slice_one _ _ _) ?_)
 intro w9 e1 e2 e3 e4
 go_wp2
 refine bodyPost_ret (v := .tuple #[.agg [Value.slice A n9 c].toArray, .int .i64 (F : Int)]) ?_ rfl ?_
 ·exact ret_blk2U rfl _ _ g4 24 [.slice A n9 c] _ rfl rfl e1 d30 HU.out HD.out sPS
 ·rw [HF.out, HL9.out]
  have hq := ownsRow_same HO.out (fun k hk => e4 k (by omega))
  exact ⟨_, rfl, OwnNd.rd hq, .inr (OwnNd.base hq (by first | exact Nat.le_refl _ | assumption | omega)), HB6.out.trans (e3.mono hwg)⟩
theorem run_clear_nd {P : Program} (w : World) (t e ty : TypeId) (i : TypeInfo) (ht : P.underlying t = some (.slice e)) (hi : P.info? e = some i) (hz : i.zero = some ndz) (g o c : Nat)
 (hc : ∀ j, j < 4 → (w.cell? ⟨g, o + j, none⟩).isSome = true ∧ w.frozen? ⟨g, o + j, none⟩ = false) :
 (Builtin.clear_ #[t] ty #[.slice (some ⟨g, o, none⟩) 1 c]).run P w = .ok (.tuple #[]) (w.setCells g o (ndc nd0)) := by
 have hzv : (zeroValue e).run P w = .ok ndz w := by simp [zeroValue, typeInfo, hi, hz]
 have hzc : (Builtin.zeroCells ndz.cells 1).toList = ndc nd0 := by kernel_rfl
 have hst := run_storeCells_cells (P := P) g o (ndc nd0) 0 w (fun j hj => (hc j hj).1) (fun j hj => (hc j hj).2) (fun v hv => nds_cell [nd0] v (by rw [nds_one]; exact hv))
 simp only [Nat.add_zero] at hst
 simp [Builtin.clear_, run_underlying ht, hzv, hzc, hst]
theorem wpList_clear_run {P : Program} {w : World} {ops : Array Oper} {rest : List Oper} {o : Oper} {a : Act} {Q : Exit → Act → World → Prop} (hgd : o.guard = none) (s : Operand) (t : TypeId)
 (ho : o.op = .call { callee := .builtin .clear, args := #[s], argTypes := #[t] }) (v : Value) (hs : a.eval s = v) {v' : Value} {w' : World} (hr : (Builtin.clear_ #[t] o.type #[v]).run P w = .ok v' w')
 (h : wpList P ops Q rest (a.put o.dst v') w') : wpList P ops Q (o :: rest) a w := by
 refine wpList_plain hgd fun K hK => ?_
 unfold Oper.wp execOp
 simp only [ho, resolve, invoke, builtin, Sem.run_bind, Sem.run_pure, Result.andThen_ok, List.map_toArray, List.map_cons, List.map_nil, hs, hr]
 exact hK _ _ h
theorem erase_nds (l : List Nd) (i : Nat) : nds (l.eraseIdx i) = nds (l.take i) ++ nds (l.drop (i + 1)) := by
 rw [List.eraseIdx_eq_take_drop_succ, nds_append]
theorem written_take (C z : List Value) (k : Nat) (hk : k ≤ C.length) : (C.take k ++ (z ++ C.drop (k + z.length))).take k = C.take k := by
 rw [List.take_left']
 rw [List.length_take]
 omega
theorem written_len (C z : List Value) (k : Nat) (hk : k + z.length ≤ C.length) : (C.take k ++ (z ++ C.drop (k + z.length))).length = C.length := by
 simp only [List.length_append, List.length_take, List.length_drop]
 omega
theorem written_more (C z : List Value) (k : Nat) (hk : k + z.length ≤ C.length) : (C.take k ++ (z ++ C.drop (k + z.length))).take (k + z.length) = C.take k ++ z := by
 rw [← List.append_assoc, List.take_left']
 rw [List.length_append, List.length_take]
 omega
theorem erased_own {e : TypeId} {W : World} {base g cap : Nat} {l : List Nd} {i m : Nat} (hm : l.length = i + 1 + m) (h : OwnNd e W base (.slice (some ⟨g, 0, none⟩) (i + 1 + m) cap) l) :
 (∀ j u, (nds (l.drop (i + 1)))[j]? = some u → W.cell? ⟨g, (i + 1) * 4 + j, none⟩ = some u) ∧ (∀ j, j < 4 * (i + 1 + m) → (W.cell? ⟨g, j, none⟩).isSome = true ∧ W.frozen? ⟨g, j, none⟩ = false) ∧
 OwnNd e ((W.setCells g (i * 4) (nds (l.drop (i + 1)))).setCells g ((i + m) * 4) (ndc nd0)) base (.slice (some ⟨g, 0, none⟩) (i + m) cap) (l.eraseIdx i) ∧
 Below base W ((W.setCells g (i * 4) (nds (l.drop (i + 1)))).setCells g ((i + m) * 4) (ndc nd0)) ∧
 (∀ j, j < 4 → ((W.setCells g (i * 4) (nds (l.drop (i + 1)))).cell? ⟨g, (i + m) * 4 + j, none⟩).isSome = true ∧ (W.setCells g (i * 4) (nds (l.drop (i + 1)))).frozen? ⟨g, (i + m) * 4 + j, none⟩ = false) := by
 obtain ⟨cur, hb, h2, h4, h5, h6, h7, hn⟩ := h.block
 have hcl : cur.toList.length = cap * 4 := by rw [Array.length_toList, h6]
 have hnl : (nds (l.drop (i + 1))).length = m * 4 := by rw [nds_length, List.length_drop, hm]; omega
 have hc1 : ∀ j, j < 4 * (i + 1 + m) → W.cell? ⟨g, j, none⟩ = (nds l)[j]? := by
  intro j hj
  rw [hb.cell j, ← h7, List.getElem?_take, if_pos (by omega)]
 refine ⟨?_, ?_, ?_, below_setCells h2 _ _ _ (below_setCells h2 _ _ _ (Below.refl _ _)), ?_⟩
 ·intro j u hu
  have hj : j < m * 4 := by have := (List.getElem?_eq_some_iff.1 hu).1; rwa [hnl] at this
  rw [hc1 _ (by omega), ← hu]
  have := (nds_cut l i (by omega)).2
  rw [show i * 4 + 4 = (i + 1) * 4 by omega] at this
  rw [← this, List.getElem?_drop]
 ·intro j hj
  rw [hc1 j hj, List.getElem?_eq_getElem (by rw [nds_length]; omega)]
  exact ⟨rfl, hb.frozen j⟩
 ·have b1 := hb.setCells (nds (l.drop (i + 1))) (i * 4) (by rw [hnl, hcl]; omega)
  have hx : (ndc nd0).length = 4 := rfl
  have hel : (l.eraseIdx i).length = i + m := by rw [List.length_eraseIdx, if_pos (by omega)]; omega
  have t1 := written_more cur.toList (nds (l.drop (i + 1))) (i * 4) (by rw [hnl, hcl]; omega)
  have t2 := written_len cur.toList (nds (l.drop (i + 1))) (i * 4) (by rw [hnl, hcl]; omega)
  rw [hnl, show i * 4 + m * 4 = (i + m) * 4 by omega] at t1
  have t3 : cur.toList.take (i * 4) ++ nds (l.drop (i + 1)) = nds (l.eraseIdx i) := by
   rw [erase_nds l i]
   congr 1
   rw [← (nds_cut l i (by omega)).1, ← h7, List.take_take, Nat.min_eq_left (by omega)]
  rw [t3] at t1
  rw [hnl] at t2 b1
  rw [show i * 4 + m * 4 = (i + m) * 4 by omega] at t2 b1
  obtain ⟨C1, hC1⟩ : ∃ C, cur.toList.take (i * 4) ++ (nds (l.drop (i + 1)) ++ cur.toList.drop ((i + m) * 4)) = C := ⟨_, rfl⟩
  rw [hC1] at t1 t2 b1
  rw [hcl] at t2
  have b2 := b1.setCells (ndc nd0) ((i + m) * 4) (by rw [hx, t2]; omega)
  have t4 := (written_take C1 (ndc nd0) ((i + m) * 4) (by rw [t2]; omega)).trans t1
  have t5 := written_len C1 (ndc nd0) ((i + m) * 4) (by rw [hx, t2]; omega)
  rw [t2] at t5
  obtain ⟨C2, hC2⟩ : ∃ C, C1.take ((i + m) * 4) ++ (ndc nd0 ++ C1.drop ((i + m) * 4 + (ndc nd0).length)) = C := ⟨_, rfl⟩
  rw [hC2] at t4 t5 b2
  have := OwnNd.of (e := e) (base := base) (cap := cap) (l := l.eraseIdx i) C2 b2 h2 (by rw [hel]; omega) h5 t5 (by rw [hel]; exact t4)
  rw [hel] at this
  exact this
 ·intro j hj
  have b1 := hb.setCells (nds (l.drop (i + 1))) (i * 4) (by rw [hnl, hcl]; omega)
  have t2 := written_len cur.toList (nds (l.drop (i + 1))) (i * 4) (by rw [hnl, hcl]; omega)
  rw [hcl] at t2
  obtain ⟨C1, hC1⟩ : ∃ C, cur.toList.take (i * 4) ++ (nds (l.drop (i + 1)) ++ cur.toList.drop (i * 4 + (nds (l.drop (i + 1))).length)) = C := ⟨_, rfl⟩
  rw [hC1] at b1 t2
  rw [b1.cell, List.getElem?_eq_getElem (by rw [t2]; omega)]
  exact ⟨rfl, b1.frozen _⟩
theorem delNd_any (l : List Nd) (i base : Nat) (u : Value) (W : World) (ho : OwnNd 91 W base u l) (hi : i < l.length) :
 Calls Tryz.prog 192 #[u, .int .i64 (i : Int), .int .i64 ((i : Int) + 1)] W (EditsTo base (l.eraseIdx i) W) := by
 obtain ⟨i1, hJ, hy0, hy1, hy2⟩ := info_partsPN
 obtain ⟨g, cap, rfl, hcap, hbg, hgW⟩ := ho.inBlock (by omega)
 obtain ⟨m, hm⟩ : ∃ m, l.length = i + 1 + m := ⟨l.length - (i + 1), by omega⟩
 have hcm : cap ≤ maxLen := by
  obtain ⟨_, _, _, _, h5, _⟩ := ho.block
  exact h5
 unfold maxLen at hcm
 rw [hm] at hcap ho ⊢
 obtain ⟨q1, q2, q3, q4, q5⟩ := erased_own (W := W.drew) hm ho
 have hnl : (nds (l.drop (i + 1))).length = m * 4 := by rw [nds_length, List.length_drop, hm]; omega
 obtain ⟨news, hnews⟩ : ∃ news, nds (l.drop (i + 1)) = news := ⟨_, rfl⟩
 have h1c : ∀ v ∈ news, v.oneCell' = true := by rw [← hnews]; exact nds_cell _
 rw [hnews] at q1 q3 q4 q5 hnl
 have Q1 := lhd q1
 have Q2 := lhd q2
 have Q3 := lhd q3
 have Q4 := lhd q4
 have Q5 := lhd q5
 have HC := lhd h1c
 have HNL := lhd hnl
 clear q1 q2 q3 q4 q5 h1c hnl hnews ho hm hi
 have w1 : IntKind.i64.wrap ((i : Int) + 1) = (i : Int) + 1 := by rw [IntKind.wrap_i64]; omega
 have z1 : ¬ ((i : Int) = (i : Int) + 1) := by omega
 go_enter Tryz.func192, Tryz.ntmps192
 go_wp2
 by_cases hci : cap = i + 1
 ·subst hci
  have HM0 : Hid (m = 0) := by
   show _ = _
   omega
  have q3 := Q3.out
  have q4 := Q4.out
  have q5 := Q5.out
  rw [HM0.out, Nat.add_zero] at q3 q4 q5
  have Q3b := lhd q3
  have Q4b := lhd q4
  have Q5b := lhd q5
  clear q3 q4 q5
  have hj9 : i + 1 + m - i = 1 := by have := HM0.out; omega
  have hi0 : (i : Int) ≤ (i : Int) + 1 := by omega
  have hic : ¬ ((i + 1) = i) := by omega
  have hi1 : i ≤ (i + 1) := by omega
  have hi2 : i + 1 ≤ i + 1 + m := by omega
  have hi3 : i + 1 ≤ (i + 1) := by omega
  have hi4 : (i : Int) + 1 ≤ (i : Int) + 1 + (m : Int) := by omega
  have hi5 : (0 : Int) ≤ (i : Int) + 1 := by omega
  have hi6 : ((i : Int) + 1).toNat = i + 1 := by omega
  go_region_law (refine step_append_room rfl (.tmp 22) (.tmp 25) 22 rfl 91 i1 4 Tryz.underlying22 hJ hy1 g 0 i (i + 1) (by simp [Act.eval, Act.put]) ⟨g, 0, none⟩ 0 0 news (by simp [Act.eval, Act.put]) (by rw [HNL.out, HM0.out]) (fun j u hj => by have h := (List.getElem?_eq_some_iff.1 hj).1; rw [HNL.out, HM0.out] at h; omega) HC.out (by omega) (fun j hj => by rw [HNL.out] at hj; rw [Nat.zero_add]; exact Q2.out _ (by omega)) ?_)
  have hj1 : (i : Int) + (m : Int) ≤ (i : Int) + 1 + (m : Int) := by omega
  have hj2 : ¬ ((i + 1) = i + m) := by omega
  have hj3 : (0 : Int) ≤ (i : Int) + (m : Int) := by omega
  have hj4 : ((i : Int) + (m : Int)).toNat = i + m := by omega
  have hj5 : ((i : Int) + 1 + (m : Int)).toNat = i + 1 + m := by omega
  have hj6 : i + 1 + m - (i + m) = 1 := by omega
  have hj7 : i + m ≤ (i + 1) := by omega
  have hj8 : i + 1 + m ≤ (i + 1) := by omega
  go_wp2_with (refine wpList_clear_run rfl _ 22 rfl _ rfl (run_clear_nd _ 22 91 _ i1 Tryz.underlying22 hJ hy0 g (i * 4) _ Q5b.out) ?_)
  go_wp2
  go_ret
  exact ⟨_, rfl, Q3b.out, ((Below.refl _ _).drew).trans Q4b.out⟩
 ·skip
  have hic : ¬ (cap = i) := by omega
  have hi1 : i ≤ cap := by omega
  have hi2 : i + 1 ≤ i + 1 + m := by omega
  have hi3 : i + 1 ≤ cap := by omega
  have hi4 : (i : Int) + 1 ≤ (i : Int) + 1 + (m : Int) := by omega
  have hi5 : (0 : Int) ≤ (i : Int) + 1 := by omega
  have hi6 : ((i : Int) + 1).toNat = i + 1 := by omega
  go_region_law (refine step_append_room rfl (.tmp 22) (.tmp 25) 22 rfl 91 i1 4 Tryz.underlying22 hJ hy1 g 0 i cap (by simp [Act.eval, Act.put]) ⟨g, (i + 1) * 4, none⟩ m (cap - (i + 1)) news (by simp [Act.eval, Act.put]) HNL.out (fun j u hj => by rw [Addr.add_lit]; exact Q1.out j u hj) HC.out (by omega) (fun j hj => by rw [HNL.out] at hj; rw [Nat.zero_add]; exact Q2.out _ (by omega)) ?_)
  have hj1 : (i : Int) + (m : Int) ≤ (i : Int) + 1 + (m : Int) := by omega
  have hj2 : ¬ (cap = i + m) := by omega
  have hj3 : (0 : Int) ≤ (i : Int) + (m : Int) := by omega
  have hj4 : ((i : Int) + (m : Int)).toNat = i + m := by omega
  have hj5 : ((i : Int) + 1 + (m : Int)).toNat = i + 1 + m := by omega
  have hj6 : i + 1 + m - (i + m) = 1 := by omega
  have hj7 : i + m ≤ cap := by omega
  have hj8 : i + 1 + m ≤ cap := by omega
  go_wp2_with (refine wpList_clear_run rfl _ 22 rfl _ rfl (run_clear_nd _ 22 91 _ i1 Tryz.underlying22 hJ hy0 g ((i + m) * 4) _ Q5.out) ?_)
  go_wp2
  go_ret
  exact ⟨_, rfl, Q3.out, ((Below.refl _ _).drew).trans Q4.out⟩
theorem delEd_any (l : List Nd) (p : List UInt8) (i base : Nat) (u : Value) (gp : Nat) (W : World) (hB : base ≤ W.heap.size) (ho : OwnNd 91 W base u l) (hl : l.length ≤ 100000) (hA : atI l p = (i : Int)) (hi : i < l.length)
 (c1 : W.cell? ⟨gp, 0, none⟩ = some (txt p)) :
 Calls Tryz.prog 191 #[u, .pointer (some ⟨gp, 0, none⟩)] W (EditsTo base (l.eraseIdx i) W) := by
 have HO := lhd ho
 have HAI := lhd hA
 have HI := lhd hi
 have w1 : IntKind.i64.wrap ((i : Int) + 1) = (i : Int) + 1 := by rw [IntKind.wrap_i64]; omega
 clear ho hA hi
 go_enter Tryz.func191, Tryz.ntmps191
 go_wp2_with fail
 refine (shIndex_any l p _ W HO.out.rd).mono ?_
 rintro e W1 ⟨rfl, hb⟩
 rw [HAI.out]
 have HO1 := lhd (HO.out.below hb (Nat.le_refl _))
 have HB := lhd (hb.mono hB)
 clear hb c1 HO
 go_wp2_with fail
 refine (delNd_any l i base u W1 HO1.out HI.out).mono ?_
 rintro e W2 ⟨u2, rfl, ho, hb⟩
 have HO2 := lhd ho
 have HB2 := lhd (HB.out.trans hb)
 clear ho hb
 go_wp2
 go_ret
 exact ⟨_, rfl, HO2.out, HB2.out⟩
theorem del_place (l : List Nd) (p : List UInt8) (z : Int) (h : delE l p z = 0) : atI l p = (placeN l p : Int) ∧ placeN l p < l.length := by
 have h0 : getE l p = 0 := by
  unfold delE at h
  by_cases h0 : getE l p = 0
  ·exact h0
  ·rw [if_pos h0] at h
   exact h
 have hH : hasN l p = true := by
  unfold getE at h0
  cases hH : hasN l p
  ·rw [hH] at h0
   split at h0 <;> simp at h0
  ·rfl
 have hlt : placeN l p < l.length := by
  unfold hasN at hH
  simpa using hH
 refine ⟨?_, hlt⟩
 unfold atI
 rw [hH]
 rfl
theorem shDel_own (l : List Nd) (p : List UInt8) (z : Int) (v : Value) (w : World) (hr : RdNd w.heap.size w v l) (hl : l.length ≤ 100000) : Calls Tryz.prog 161 #[.agg #[v], txt p, .int .i64 z] w (ShelvesE 91 v (delS l p z) (delE l p z) w) := by
 have hmf : ∀ (fn : Fn) (first cap : Array Value) (w : World), (Instr.makeFunc fn first cap).run Tryz.prog w = .ok (.func fn first cap) w := fun _ _ _ _ => rfl
 obtain ⟨d30, hu30, hd30⟩ := rowPS
 have HU := lhd hu30
 have HD := lhd hd30
 have HR := lhd hr
 have HL := lhd hl
 clear hr hl hu30 hd30
 go_enter Tryz.func161, Tryz.ntmps161
 go_wp2_with (refine wpList_box_blk rfl 24 _ rfl [v] rfl ?_)
 intro w1 b0 s0 l0
 go_wp2_with (refine wpList_box_one rfl 9 _ rfl (txt p) rfl rfl ?_)
 intro w2 b1 s1 l1
 go_wp2_with (refine wpList_box_one rfl 3 _ rfl (.int .i64 z) rfl rfl ?_)
 intro w3 b2 s2 l2
 go_wp2_with (refine wpList_alloc_blk rfl 24 rfl [.slice none 0 0] zPS ?_)
 intro W b3 s3 l3
 obtain ⟨g0, hg0⟩ : ∃ g, w.heap.size = g := ⟨_, rfl⟩
 obtain ⟨g1, hg1⟩ : ∃ g, w.heap.size + 1 = g := ⟨_, rfl⟩
 obtain ⟨g2, hg2⟩ : ∃ g, w.heap.size + 1 + 1 = g := ⟨_, rfl⟩
 obtain ⟨g3, hg3⟩ : ∃ g, w.heap.size + 1 + 1 + 1 = g := ⟨_, rfl⟩
 have z1 : w1.heap.size = w.heap.size + 1 := by omega
 have z2 : w2.heap.size = w.heap.size + 2 := by omega
 have z3 : w3.heap.size = w.heap.size + 3 := by omega
 have zW : W.heap.size = w.heap.size + 4 := by omega
 have x0 := (((b0.below l1 (by omega)).below l2 (by omega)).below l3 (by omega))
 have x1 := ((b1.below l2 (by omega)).below l3 (by omega))
 have x2 := (b2.below l3 (by omega))
 have x3 := b3
 have hB : Below w.heap.size w W := (((l0.trans (l1.mono (by omega))).trans (l2.mono (by omega))).trans (l3.mono (by omega)))
 rw [hg3] at x3 ⊢
 rw [hg2] at x2 ⊢
 rw [hg1] at x1 ⊢
 rw [hg0] at x0 ⊢
 have X0 := lhd x0
 have X1 := lhd x1
 have X2 := lhd x2
 have X3 := lhd x3
 have HB := lhd hB
 have hgW : g3 < W.heap.size := by omega
 have hW0 : g0 < W.heap.size := by omega
 have hW1 : g1 < W.heap.size := by omega
 have hW2 : g2 < W.heap.size := by omega
 have hwg : w.heap.size ≤ g3 := by omega
 clear b0 s0 l0 x0 b1 s1 l1 x1 b2 s2 l2 x2 b3 s3 l3 x3 hB zW z1 z2 z3 hg0 hg1 hg2 hg3
 have C0 := lhd (X0.out.cell 0)
 have C1 := lhd (X1.out.cell 0)
 have C2 := lhd (X2.out.cell 0)
 have HRW : Hid (RdNd W.heap.size W v l) := (HR.out.below HB.out).more HB.out.size
 have ca := C0.out
 go_wp2_with fail
 refine (shChange_any l (l.eraseIdx (placeN l p)) (delS l p z) v 188 191 #[.pointer (some ⟨g0, 0, none⟩), .pointer (some ⟨g1, 0, none⟩), .pointer (some ⟨g2, 0, none⟩)] #[.pointer (some ⟨g1, 0, none⟩)] (delE l p z) W HRW.out HL.out (fun args w => enters_of Tryz.func188 (by kernel_rfl) rfl args w) (fun args w => enters_of Tryz.func191 (by kernel_rfl) rfl args w) ?h1 ?h2 ?q1 ?q2).mono ?_
 case h1 =>
  intro W1 hW
  have h := delFn_any l p z v g0 g1 g2 W1 ((HRW.out.below hW).more hW.size) (Nat.lt_of_lt_of_le hW0 hW.size) (Nat.lt_of_lt_of_le hW1 hW.size) (Nat.lt_of_lt_of_le hW2 hW.size)
   ((hW.cell hW0).trans C0.out) ((hW.cell hW1).trans C1.out) ((hW.cell hW2).trans C2.out)
  rw [delF_eq l p z] at h
  exact h
 case h2 =>
  intro hF base u W1 hb1 hb2 hW ho
  obtain ⟨hA, hi⟩ := del_place l p z hF
  exact delEd_any l p (placeN l p) base u g1 W1 hb2 ho HL.out hA hi ((hW.cell hW1).trans C1.out)
 case q1 => exact fun h => by rw [(del_ok l p z h).2, List.eraseIdx_eq_take_drop_succ]
 case q2 => exact fun h => (del_err l p z _ rfl h).2
 rintro e w6 ⟨u, rfl, ho, hb⟩
 have HO := lhd ho
 have HB6 := lhd (HB.out.trans (hb.mono HB.out.size))
 have X6 := lhd (X3.out.below hb hgW)
 obtain ⟨A, c, rfl, -, -⟩ := ho.rd.shape
 obtain ⟨F, hF⟩ : ∃ F, (delE l p z) = F := ⟨_, rfl⟩
 have HF := lhd hF
 obtain ⟨l9, hl9⟩ : ∃ q, (delS l p z) = q := ⟨_, rfl⟩
 have HL9 := lhd hl9
 obtain ⟨n9, hn9⟩ : ∃ q, l9.length = q := ⟨_, rfl⟩
 rw [hl9, hn9] at HO
 rw [hl9, hn9, hF]
 clear ho hb ca hF hl9 hn9
 go_wp2_with (refine wpList_store_to rfl 24 _ _ rfl g3 [.slice A n9 c] [.slice none 0 0] 24 rfl rfl X6.out sPS rfl (slice_one _ _ _) ?_)
 intro w9 e1 e2 e3 e4
 go_wp2
 refine bodyPost_ret (v := .tuple #[.agg [Value.slice A n9 c].toArray, .int .i64 (F : Int)]) ?_ rfl ?_
 ·exact ret_blk2U rfl _ _ g3 24 [.slice A n9 c] _ rfl rfl e1 d30 HU.out HD.out sPS
 ·rw [HF.out, HL9.out]
  have hq := ownsRow_same HO.out (fun k hk => e4 k (by omega))
  exact ⟨_, rfl, OwnNd.rd hq, .inr (OwnNd.base hq (by first | exact Nat.le_refl _ | assumption | omega)), HB6.out.trans (e3.mono hwg)⟩
theorem search_any (n m f : Nat) (lb : Array Value) (q : Nat → Bool) (w : World) (hn : n ≤ 100000) (hm : m ≤ n) (ef : ∀ args w, (callFunc f args).run Tryz.prog w = .ok (.enter f args) w)
 (hq : ∀ i, i < n → q i = decide (m ≤ i)) (hp : ∀ i W, i < n → Below w.heap.size w W → Calls Tryz.prog f (#[.int .i64 (i : Int)] ++ lb) W (One (.bool (q i)) W)) :
 Calls Tryz.prog 207 #[.int .i64 (n : Int), .func (.func f) #[] lb] w (One (.int .i64 (m : Int)) w) := by
 have HQ := lhd hq
 have HP := lhd hp
 clear hq hp
 go_enter Tryz.func207, Tryz.ntmps207
 go_wp2
 go_loopw [5, 6] (fun x y wr => ∃ lo hi : Nat, x = .int .i64 (lo : Int) ∧ y = .int .i64 (hi : Int) ∧ lo ≤ m ∧ m ≤ hi ∧ hi ≤ n ∧ Hid (Below w.heap.size w wr)) (fun x y _ => (intOf y).toNat - (intOf x).toNat)
 case atStart => exact ⟨0, n, rfl, rfl, by omega, hm, Nat.le_refl _, Below.refl _ _⟩
 case round =>
  obtain ⟨lo, hi, rfl, rfl, h1, h2, h3, HW⟩ := hrel
  by_cases hlt : lo < hi
  ·have hltz : (lo : Int) < (hi : Int) := by omega
   have hc := HP.out ((lo + hi) / 2) wr (by omega) HW.out
   rw [HQ.out _ (by omega)] at hc
   rw [show (((lo + hi) / 2 : Nat) : Int) = ((lo : Int) + (hi : Int)) / 2 by omega] at hc
   by_cases hk : m ≤ (lo + hi) / 2
   ·rw [decide_eq_true hk] at hc
    have HC := lhd hc
    clear hc
    go_wp2_with (refine HC.out.mono ?_; rintro e w2 ⟨rfl, hb⟩)
    go_roundw
    case rel => exact ⟨lo, (lo + hi) / 2, rfl, by rw [show (((lo + hi) / 2 : Nat) : Int) = ((lo : Int) + (hi : Int)) / 2 by omega], h1, hk, by omega, HW.out.trans (hb.mono HW.out.size)⟩
    case measure => simp [intOf]; omega
   ·rw [decide_eq_false hk] at hc
    have HC := lhd hc
    clear hc
    go_wp2_with (refine HC.out.mono ?_; rintro e w2 ⟨rfl, hb⟩)
    go_roundw
    case rel => exact ⟨(lo + hi) / 2 + 1, hi, by rw [show (((lo + hi) / 2 + 1 : Nat) : Int) = ((lo : Int) + (hi : Int)) / 2 + 1 by omega], rfl, by omega, h2, h3, HW.out.trans (hb.mono HW.out.size)⟩
    case measure => simp [intOf]; omega
  ·have hE : lo = m := by omega
   have hE2 : hi = m := by omega
   subst hE
   subst hE2
   go_wp2
   go_ret
   exact ⟨rfl, HW.out⟩
def posN (l : List Nd) (p : List UInt8) : Nat := l.findIdx fun x => aheadB p (nP x)
theorem posN_le (l : List Nd) (p : List UInt8) : posN l p ≤ l.length := List.findIdx_le_length
theorem posN_at (l : List Nd) (p : List UInt8) (h : inOrder l) (i : Nat) (hi : i < l.length) : aheadB p (nP (l.getD i nd0)) = decide (posN l p ≤ i) := by
 have e : ∀ j (hj : j < l.length), l.getD j nd0 = l[j] := fun j hj => by rw [List.getD_eq_getElem?_getD, List.getElem?_eq_getElem hj]; rfl
 by_cases hk : posN l p ≤ i
 ·rw [decide_eq_true hk]
  have hlt : posN l p < l.length := by omega
  have h0 : aheadB p (nP (l.getD (posN l p) nd0)) = true := by
   rw [e _ hlt]
   exact List.findIdx_getElem (w := hlt)
  by_cases heq : posN l p = i
  ·rw [← heq]; exact h0
  ·exact ahead_tr _ _ _ h0 (inOrder_at l h (posN l p) i (by omega) hi)
 ·rw [decide_eq_false hk, e i hi]
  have := List.not_of_lt_findIdx (p := fun x : Nd => aheadB p (nP x)) (xs := l) (i := i) (by unfold posN at hk; omega)
  simpa using this
theorem insN_pos (n : Nd) : ∀ l : List Nd, insN n l = l.take (posN l (nP n)) ++ n :: l.drop (posN l (nP n))
 | [] => rfl
 | x :: r => by
   unfold insN posN
   rw [List.findIdx_cons]
   cases h : aheadB (nP n) (nP x)
   ·rw [if_neg (by simp)]
    have := insN_pos n r
    unfold posN at this
    simp only [cond_false, List.take_succ_cons, List.drop_succ_cons, List.cons_append]
    rw [← this]
   ·simp
end Go.Proofs.YtdihngkdhanhkaaGreatDoor
