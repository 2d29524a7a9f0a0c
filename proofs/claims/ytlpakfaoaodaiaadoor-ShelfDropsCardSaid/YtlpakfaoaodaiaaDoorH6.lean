/-
  The document's shelves: Same.
  The document's shelves: kids, List.
  The document's shelves: List.
  The document's shelves: Drop.
  append onto a row that is owned: the row's block is the old one or a new one. Each theorem states its own conditions.
-/
import Derived.Test.YtlpakfaoaodaiaaDoorH3
import Derived.Laws.StructEq
import Derived.Lib.Strings
namespace Go.Proofs.YtlpakfaoaodaiaaDoor
open Go.RowKit

theorem same_at (l m : List Nd) (i : Nat) (h : l.getD i nd0 ≠ m.getD i nd0) : decide (l = m) = false := by
  rw [decide_eq_false_iff_not]
  rintro rfl
  exact h rfl
theorem same_all (l m : List Nd) (hl : l.length = m.length) (h : ∀ i, i < l.length → l.getD i nd0 = m.getD i nd0) : decide (l = m) = true := by
  rw [decide_eq_true_eq]
  refine List.ext_getElem hl fun i h1 h2 => ?_
  have := h i h1
  rw [List.getD_eq_getElem?_getD, List.getD_eq_getElem?_getD, List.getElem?_eq_getElem h1, List.getElem?_eq_getElem h2] at this
  exact this
theorem same_len (l m : List Nd) (hl : l.length ≠ m.length) : decide (l = m) = false := by
  rw [decide_eq_false_iff_not]
  rintro rfl
  exact hl rfl

theorem run_part_cell {P : Program} (t : TypeId) (off : Nat) (cs : List Value) (v : Value) (ha : ∀ w, (isAgg t).run P w = .ok false w) (he : cs[off]? = some v) (w : World) : (part t cs.toArray off).run P w = .ok v w := by
  simp [part, ha, he]
theorem toList_txt (l : List UInt8) : (⟨l.toArray⟩ : ByteArray).toList = l := by rw [Lib.toList_data]
theorem eqFields_nd (d : Nat) (x y : Nd) (w : World) (fs : List Field) (h : fs.map (fun f => (f.name == "_", f.type, f.offset)) = [(false, 9, 0), (false, 9, 1), (false, 3, 2), (false, 3, 3)]) :
    (Op.eqFields (d + 1) (ndc x).toArray (ndc y).toArray fs).run Tryd.prog w = .ok (decide (x = y)) w := by
  obtain ⟨f0, f1, f2, f3, rfl⟩ : ∃ f0 f1 f2 f3, fs = [f0, f1, f2, f3] := by
    have hl := congrArg List.length h
    rw [List.length_map] at hl
    match fs, hl with
    | [f0, f1, f2, f3], _ => exact ⟨f0, f1, f2, f3, rfl⟩
  simp only [List.map_cons, List.map_nil, List.cons.injEq, Prod.mk.injEq, and_true] at h
  obtain ⟨⟨n0, t0, o0⟩, ⟨n1, t1, o1⟩, ⟨n2, t2, o2⟩, ⟨n3, t3, o3⟩⟩ := h
  have m0 : f0.name ≠ "_" := by simpa using n0
  have m1 : f1.name ≠ "_" := by simpa using n1
  have m2 : f2.name ≠ "_" := by simpa using n2
  have m3 : f3.name ≠ "_" := by simpa using n3
  have p0 : ∀ z : Nd, (part f0.type (ndc z).toArray f0.offset).run Tryd.prog w = .ok (txt (nP z)) w := fun z => by rw [t0, o0]; exact run_part_cell _ _ _ _ Tryd.isAgg9 rfl w
  have p1 : ∀ z : Nd, (part f1.type (ndc z).toArray f1.offset).run Tryd.prog w = .ok (txt (nV z)) w := fun z => by rw [t1, o1]; exact run_part_cell _ _ _ _ Tryd.isAgg9 rfl w
  have p2 : ∀ z : Nd, (part f2.type (ndc z).toArray f2.offset).run Tryd.prog w = .ok (.int .i64 (nR z)) w := fun z => by rw [t2, o2]; exact run_part_cell _ _ _ _ Tryd.isAgg3 rfl w
  have p3 : ∀ z : Nd, (part f3.type (ndc z).toArray f3.offset).run Tryd.prog w = .ok (.int .i64 (nO z)) w := fun z => by rw [t3, o3]; exact run_part_cell _ _ _ _ Tryd.isAgg3 rfl w
  have e0 : (Op.equalIn (d + 1) f0.type (txt (nP x)) (txt (nP y))).run Tryd.prog w = .ok (nP x == nP y) w := by rw [t0, run_equalIn_string w d _ _ _ Tryd.underlying9, toList_txt, toList_txt]
  have e1 : (Op.equalIn (d + 1) f1.type (txt (nV x)) (txt (nV y))).run Tryd.prog w = .ok (nV x == nV y) w := by rw [t1, run_equalIn_string w d _ _ _ Tryd.underlying9, toList_txt, toList_txt]
  have e2 : (Op.equalIn (d + 1) f2.type (.int .i64 (nR x)) (.int .i64 (nR y))).run Tryd.prog w = .ok (nR x == nR y) w := by rw [t2, run_equalIn_int w d _ _ _ _ _ Tryd.underlying3]
  have e3 : (Op.equalIn (d + 1) f3.type (.int .i64 (nO x)) (.int .i64 (nO y))).run Tryd.prog w = .ok (nO x == nO y) w := by rw [t3, run_equalIn_int w d _ _ _ _ _ Tryd.underlying3]
  obtain ⟨a, b, c, e⟩ := x
  obtain ⟨a', b', c', e'⟩ := y
  simp only [Op.eqFields, if_pos m0, if_pos m1, if_pos m2, if_pos m3, Sem.run_bind, p0, p1, p2, p3, e0, e1, e2, e3, Result.andThen_ok, Sem.run_ite, Sem.run_pure]
  by_cases h0 : a = a' <;> by_cases h1 : b = b' <;> by_cases h2 : c = c' <;> by_cases h3 : e = e' <;> simp [h0, h1, h2, h3]
theorem fNode : (Tryd.prog.fieldsOf 56).toList.map (fun f => (f.name == "_", f.type, f.offset)) = [(false, 9, 0), (false, 9, 1), (false, 3, 2), (false, 3, 3)] := by kernel_rfl
theorem uNode : Tryd.prog.underlying 56 = some (.struct (Tryd.prog.fieldsOf 56)) := by kernel_rfl
theorem run_neq_nd (x y : Nd) (w : World) : (binOp .neq 56 (.agg #[txt (nP x), txt (nV x), .int .i64 (nR x), .int .i64 (nO x)]) (.agg #[txt (nP y), txt (nV y), .int .i64 (nR y), .int .i64 (nO y)])).run Tryd.prog w = .ok (.bool (!decide (x = y))) w := by
  rw [run_neq_struct, run_equalIn_struct w 9999 _ _ _ uNode (by kernel_rfl), show (#[txt (nP x), txt (nV x), .int .i64 (nR x), .int .i64 (nO x)] : Array Value) = (ndc x).toArray from rfl, show (#[txt (nP y), txt (nV y), .int .i64 (nR y), .int .i64 (nO y)] : Array Value) = (ndc y).toArray from rfl, eqFields_nd 9998 x y w _ fNode]
  rfl

set_option maxRecDepth 100000 in
set_option maxHeartbeats 2000000 in
theorem rfSame_any (l m : List Nd) (v u : Value) (w : World) (hr : RdNd w.heap.size w v l) (hr2 : RdNd w.heap.size w u m) : Calls Tryd.prog 15 #[.agg #[v], .agg #[u]] w (One (.bool (decide (l = m))) w) := by
  obtain ⟨A, cp, rfl, hc, hm⟩ := hr.shape
  obtain ⟨A2, cp2, rfl, hc2, hm2⟩ := hr2.shape
  unfold maxLen at hm hm2
  obtain ⟨n, hn⟩ : ∃ n, l.length = n := ⟨_, rfl⟩
  obtain ⟨k, hk⟩ : ∃ n, m.length = n := ⟨_, rfl⟩
  have HN := Lib.hid hn
  have HK := Lib.hid hk
  have HR := Lib.hid hr
  have HR2 := Lib.hid hr2
  rw [hn] at hc HR ⊢
  rw [hk] at hc2 HR2 ⊢
  clear hr hn hr2 hk
  go_enter Tryd.func15, Tryd.ntmps15
  go_wp2_with (refine wpList_box_blk rfl 30 _ rfl [.slice A n cp] rfl ?_)
  intro w1 b1 b2 b3
  go_wp2_with (refine wpList_box_blk rfl 30 _ rfl [.slice A2 k cp2] rfl ?_)
  intro w2 a1 a2 a3
  obtain ⟨g0, hg0⟩ : ∃ g, w.heap.size = g := ⟨_, rfl⟩
  obtain ⟨g1, hg1⟩ : ∃ g, w.heap.size + 1 = g := ⟨_, rfl⟩
  have X0 := Lib.hid (b1.below a3 (by omega))
  have HB := Lib.hid (b3.trans (a3.mono (by omega)))
  have HRa := Lib.hid (HR.out.below HB.out)
  have HRb := Lib.hid (HR2.out.below HB.out)
  have hw2 : w.heap.size ≤ w2.heap.size := by omega
  have X1 := Lib.hid a1
  have hg2 : g1 < w2.heap.size := by omega
  have hg3 : g0 < w2.heap.size := by omega
  rw [hg1] at X1 ⊢
  rw [hg0] at X0 ⊢
  have ca := X0.out.cell 0
  have cb := X1.out.cell 0
  clear b1 b2 b3 a1 a2 a3 HR HR2
  by_cases hnk : n = k
  · subst hnk
    go_wp2
    go_loopw [5] (fun x wr => ∃ i : Nat, i ≤ n ∧ x = .int .i64 (i : Int) ∧ Hid (∀ j, j < i → l.getD j nd0 = m.getD j nd0) ∧ Hid (Below w2.heap.size w2 wr)) (fun x _ => n - (intOf x).toNat)
    case atStart => exact ⟨0, by omega, rfl, fun j hj => by omega, Below.refl _ _⟩
    case round =>
      obtain ⟨i, hi, rfl, HA, HD⟩ := hrel
      clear ca cb
      have ca := (X0.out.below HD.out hg3).cell 0
      have cb := (X1.out.below HD.out hg2).cell 0
      by_cases hi2 : i < n
      · have zi : (i : Int) < (n : Int) := by omega
        obtain ⟨a, hA, c0, c1, c2, c3⟩ := (HRa.out.below (HD.out.mono hw2)).at_ i (by rw [HN.out]; exact hi2)
        obtain ⟨b, hA2, d0, d1, d2, d3⟩ := (HRb.out.below (HD.out.mono hw2)).at_ i (by rw [HK.out]; exact hi2)
        subst hA hA2
        obtain ⟨x, hx⟩ : ∃ x, l.getD i nd0 = x := ⟨_, rfl⟩
        obtain ⟨y, hy⟩ : ∃ y, m.getD i nd0 = y := ⟨_, rfl⟩
        rw [hx] at c0 c1 c2 c3
        rw [hy] at d0 d1 d2 d3
        have hne := run_neq_nd x y
        obtain ⟨B, hB⟩ : ∃ B, decide (x = y) = B := ⟨_, rfl⟩
        rw [hB] at hne
        go_wp2
        refine wp_region_quiet_lit (by kernel_rfl) (by kernel_rfl) ?_
        repeat (first | go_big_quiet_step (fail) | quiet_step (fail))
        refine wpQuiet_nil ?_
        intro _ hw'
        obtain ⟨nq, hw''⟩ := hw'
        subst hw''
        have HD2 : Hid (Below w2.heap.size w2 (wr.drewN nq)) := Below.drewN' HD.out
        cases B
        · have HF := Lib.hid (same_at l m i (by rw [hx, hy]; simpa using hB))
          clear hne
          go_wp2
          go_ret
          exact ⟨by rw [HF.out]; rfl, HB.out.trans (HD2.out.mono hw2)⟩
        · have HA2 : Hid (∀ j, j < i + 1 → l.getD j nd0 = m.getD j nd0) := by
            intro j hj
            by_cases h : j < i
            · exact HA.out j h
            · have : j = i := by omega
              subst this
              rw [hx, hy]
              simpa using hB
          clear hne
          go_wp2
          go_roundw
          case rel => exact ⟨i + 1, by omega, by go_num, HA2, HD2⟩
          case measure => simp [intOf]; omega
      · have hE : i = n := by omega
        subst hE
        have HF := Lib.hid (same_all l m (by rw [HN.out, HK.out]) (by rw [HN.out]; exact HA.out))
        go_wp2
        go_ret
        exact ⟨by rw [HF.out]; rfl, HB.out.trans (HD.out.mono hw2)⟩
  · have HF := Lib.hid (same_len l m (by rw [HN.out, HK.out]; exact hnk))
    have hz : ((n : Int) == (k : Int)) = false := by
      rw [beq_eq_false_iff_ne]
      omega
    go_wp2
    go_ret
    exact ⟨by rw [HF.out]; rfl, HB.out⟩
end Go.Proofs.YtlpakfaoaodaiaaDoor

namespace Go.Proofs.YtlpakfaoaodaiaaDoor
open Go.RowKit

theorem kidsN_snoc (l : List Nd) (p : List UInt8) (i : Nat) (hi : i < l.length) :
    kidsN (l.take (i + 1)) p = kidsN (l.take i) p ++ (if kidN p (l.getD i nd0) = true then [lastN (nP (l.getD i nd0))] else []) := by
  have e : l.take (i + 1) = l.take i ++ [l.getD i nd0] := by
    rw [List.take_add_one, List.getD_eq_getElem?_getD, List.getElem?_eq_getElem hi]
    rfl
  rw [e]
  obtain ⟨y, hy⟩ : ∃ y, l.getD i nd0 = y := ⟨_, rfl⟩
  rw [hy]
  unfold kidsN
  rw [List.filter_append, List.map_append]
  congr 1
  cases h : kidN p y <;> simp [h]
theorem kidsN_len (l : List Nd) (p : List UInt8) : (kidsN l p).length ≤ l.length := by
  unfold kidsN
  rw [List.length_map]
  exact List.length_filter_le _ _
theorem kidN_right (p : List UInt8) (x : Nd) (h : kidN p x = true) : rightB (nP x) = true ∧ parentE (nP x) = 0 ∧ parentS (nP x) = p := by
  unfold kidN at h
  simp only [Bool.and_eq_true, decide_eq_true_eq] at h
  refine ⟨?_, h.1, h.2⟩
  cases hr : rightB (nP x)
  · have := (parent_not (nP x) hr).2
    rw [h.1] at this; cases this
  · rfl

set_option maxRecDepth 100000 in
set_option maxHeartbeats 4000000 in
theorem rfKids_any (l : List Nd) (p : List UInt8) (v : Value) (w : World) (hr : RdNd w.heap.size w v l) (hl : l.length ≤ 1000000) : Calls Tryd.prog 55 #[.agg #[v], txt p] w (Rows (kidsN l p) w) := by
  obtain ⟨A, cp, rfl, hc, hm⟩ := hr.shape
  unfold maxLen at hm
  obtain ⟨i0, hI, hz0, hz1, hz2⟩ := info_partsStr
  obtain ⟨n, hn⟩ : ∃ n, l.length = n := ⟨_, rfl⟩
  have HN := Lib.hid hn
  have HR := Lib.hid hr
  rw [hn] at hc HR hl ⊢
  have HL := Lib.hid hl
  clear hr hn hl
  go_enter Tryd.func55, Tryd.ntmps55
  go_wp2_with (refine wpList_box_blk rfl 30 _ rfl [.slice A n cp] rfl ?_)
  intro w1 b1 b2 b3
  obtain ⟨g0, hg0⟩ : ∃ g, w.heap.size = g := ⟨_, rfl⟩
  have HRa := Lib.hid ((HR.out.below b3).more (show w.heap.size ≤ w1.heap.size by omega))
  have X0 := Lib.hid b1
  have HB := Lib.hid b3
  have hw1 : w.heap.size ≤ w1.heap.size := by omega
  have hg1 : g0 < w1.heap.size := by omega
  rw [hg0] at X0 ⊢
  have ca := X0.out.cell 0
  obtain ⟨G, hG⟩ : ∃ G, w1.heap.size = G := ⟨_, rfl⟩
  have HO0 : Hid (OwnS 9 (w1.alloc (.cells #[] 9)) G (.slice (some ⟨G, 0, none⟩) 0 0) []) := by
    have := OwnS.empty 9 w1 G (by omega)
    rw [hG] at this
    exact this
  have HW0 : Hid (Below G w1 (w1.alloc (.cells #[] 9))) := (Below.refl _ _).alloc (by omega) _
  rw [hG] at hw1 hg1 HRa
  clear b1 b2 b3 HR
  go_wp2
  go_loopw [5, 6] (fun o x wr => ∃ i : Nat, i ≤ n ∧ x = .int .i64 (i : Int) ∧ Hid (OwnS 9 wr G o (bas (kidsN (l.take i) p))) ∧ Hid (Below G w1 wr)) (fun _ x _ => n - (intOf x).toNat)
  case atStart => exact ⟨0, by omega, rfl, HO0, HW0⟩
  case round =>
    obtain ⟨i, hi, rfl, HO, HW⟩ := hrel
    have hwr := HW.out.size
    rw [hG] at hwr
    clear ca
    have ca := (X0.out.below HW.out hg1).cell 0
    by_cases hi2 : i < n
    · have zi : (i : Int) < (n : Int) := by omega
      obtain ⟨a, hA, c0, -, -, -⟩ := (HRa.out.below HW.out).at_ i (by rw [HN.out]; exact hi2)
      subst hA
      have HS := Lib.hid (kidsN_snoc l p i (by rw [HN.out]; exact hi2))
      have HKL := Lib.hid (Nat.le_trans (kidsN_len (l.take i) p) (List.length_take_le i l))
      obtain ⟨x, hx⟩ : ∃ x, l.getD i nd0 = x := ⟨_, rfl⟩
      rw [hx] at c0 HS
      have HXX := Lib.hid hx
      clear hx
      go_wp2_with fail
      refine (rfParent_any (nP x) wr).mono ?_
      rintro e w2 ⟨rfl, hb⟩
      have hs2 := hb.size
      have HO2 := Lib.hid (HO.out.below hb (Nat.le_refl _))
      have HW2 := Lib.hid (HW.out.trans (hb.mono hwr))
      clear c0 ca
      have ca := (X0.out.below HW2.out hg1).cell 0
      obtain ⟨a', hA', c0, -, -, -⟩ := (HRa.out.below HW2.out).at_ i (by rw [HN.out]; exact hi2)
      obtain rfl : a = a' := Option.some.inj hA'
      clear hA'
      rw [HXX.out] at c0
      clear hb HO
      cases hk : kidN p x
      · have HS2 : Hid (kidsN (l.take (i + 1)) p = kidsN (l.take i) p) := by
          show _ = _
          rw [HS.out, hk]; simp
        by_cases h0 : parentE (nP x) = 0
        · have h1 : (parentS (nP x) == p) = false := by
            rw [beq_eq_false_iff_ne]
            intro e
            unfold kidN at hk
            simp [h0, e] at hk
          rw [h0]
          obtain ⟨up, hup⟩ : ∃ up, parentS (nP x) = up := ⟨_, rfl⟩
          rw [hup] at h1 ⊢
          clear hk h0 hup
          go_wp2
          go_roundw
          case rel => exact ⟨i + 1, by omega, by go_num, by rw [HS2.out]; exact HO2, HW2⟩
          case measure => simp [intOf]; omega
        · obtain ⟨f, hf⟩ : ∃ f, parentE (nP x) = f := ⟨_, rfl⟩
          have h1 : ((f : Int) == 0) = false := by
            rw [beq_eq_false_iff_ne]
            omega
          rw [hf]
          clear hk h0 hf
          go_wp2
          go_roundw
          case rel => exact ⟨i + 1, by omega, by go_num, by rw [HS2.out]; exact HO2, HW2⟩
          case measure => simp [intOf]; omega
      · obtain ⟨k1, k2, k3⟩ := kidN_right p x hk
        have HS2 : Hid (kidsN (l.take (i + 1)) p = kidsN (l.take i) p ++ [lastN (nP x)]) := by
          show _ = _
          rw [HS.out, hk]; simp
        rw [k2, k3]
        have HQ := Lib.hid (rightB_len (nP x) k1)
        have HNM := Lib.hid (names_yes (nP x) k1)
        have hp : (p == p) = true := by simp
        obtain ⟨K, hK⟩ : ∃ K, (cutL (nP x)).length = K := ⟨_, rfl⟩
        have hK0 : K ≠ 0 := by
          intro h
          rw [h] at hK
          have hcl : cutL (nP x) = [] := List.eq_nil_of_length_eq_zero hK
          have := (parent_root (nP x) k1 hcl).2
          rw [k2] at this; cases this
        obtain ⟨k, hk2⟩ : ∃ k, K = k + 1 := ⟨K - 1, by omega⟩
        have HLA : Hid (lastN (nP x) = (cutL (nP x)).getD k []) := by
          show _ = _
          unfold lastN
          rw [hK, hk2, Nat.add_sub_cancel]
        have HK := Lib.hid hK
        have hi1 : (K : Int) - 1 = (k : Int) := by omega
        have hlt : (k : Int) < (K : Int) := by omega
        have HkK := Lib.hid hk2
        clear hk k1 k2 k3 hK hK0 hk2
        go_wp2_with fail
        refine (rfNames_any (nP x) w2).mono ?_
        rintro e w3 ⟨u, rfl, ho, hb⟩
        have hs3 := hb.size
        have HO3 := Lib.hid (HO2.out.below hb (Nat.le_refl _))
        have HW3 := Lib.hid (HW2.out.trans (hb.mono (by omega)))
        rw [HNM.out.1] at ho
        rw [HNM.out.2]
        have hr := ho.rd
        obtain ⟨A2, cp2, rfl, hc2, hm2⟩ := hr.shape
        unfold maxLen at hm2
        rw [bas_length, HK.out] at hc2 hr ⊢
        obtain ⟨a2, hA2, cb⟩ := hr.at_ k (by rw [bas_length, HK.out]; have := HkK.out; omega)
        subst hA2
        obtain ⟨y, hy⟩ : ∃ y, (cutL (nP x)).getD k [] = y := ⟨_, rfl⟩
        rw [bas_at (cutL (nP x)) k (by rw [HK.out]; have := HkK.out; omega) y hy] at cb
        rw [hy] at HLA
        have hwz : G ≤ w3.heap.size := by omega
        clear ca c0 hb ho hr HO2 HW2 hy
        have HO4 := Lib.hid (HO3.out.alloc (.cells #[.string ⟨y.toArray⟩] 9))
        have HW4 : Hid (Below G w1 (w3.alloc (.cells #[.string ⟨y.toArray⟩] 9))) := HW3.out.alloc (by omega) _
        go_wp2_with (at_builtin; refine wpList_app1S rfl _ _ 45 rfl 9 i0 Tryd.underlying45 hI hz0 hz1 hz2 G _ (bas (kidsN (l.take i) p)) ⟨y.toArray⟩ ⟨w3.heap.size, 0, none⟩ rfl HO4.out rfl ?d1 ?d2 ?d3 ?_)
        case d1 => simp
        case d2 => rw [bas_length]; have := HKL.out; have := HL.out; omega
        case d3 => simp; omega
        intro v4 w4 hown4 hb4
        rw [← bas_snoc] at hown4
        have HO5 : Hid (OwnS 9 w4 G v4 (bas (kidsN (l.take (i + 1)) p))) := by
          show OwnS _ _ _ _ _
          rw [HS2.out, HLA.out]
          exact hown4
        have HW5 : Hid (Below G w1 w4) := HW4.out.trans hb4
        clear hown4 hb4
        go_wp2
        go_roundw
        case rel => exact ⟨i + 1, by omega, by go_num, HO5, HW5⟩
        case measure => simp [intOf]; omega
    · have hE : i = n := by omega
      subst hE
      have HF : Hid (l.take i = l) := List.take_of_length_le (by rw [HN.out]; exact Nat.le_refl _)
      rw [HF.out] at HO
      go_wp2
      go_ret
      exact ⟨_, rfl, HO.out.base hw1, HB.out.trans (HW.out.mono hw1)⟩
end Go.Proofs.YtlpakfaoaodaiaaDoor

namespace Go.Proofs.YtlpakfaoaodaiaaDoor
open Go.RowKit

theorem list_not (l : List Nd) (p : List UInt8) (h : getE l p ≠ 0) : listS l p = [] := by unfold listS; rw [if_neg h]
theorem list_yes (l : List Nd) (p : List UInt8) (h : getE l p = 0) : listS l p = kidsN l p := by unfold listS; rw [if_pos h]

set_option maxRecDepth 100000 in
set_option maxHeartbeats 4000000 in
theorem rfList_any (l : List Nd) (p : List UInt8) (v : Value) (w : World) (hr : RdNd w.heap.size w v l) (hl : l.length ≤ 1000000) : Calls Tryd.prog 30 #[.agg #[v], txt p] w (Lists (listS l p) (getE l p) w) := by
  have HR := Lib.hid hr
  have HL := Lib.hid hl
  clear hr hl
  go_enter Tryd.func30, Tryd.ntmps30
  go_wp2_with (refine wpList_box_blk rfl 30 _ rfl [v] rfl ?_)
  intro w1 b1 b2 b3
  obtain ⟨g0, hg0⟩ : ∃ g, w.heap.size = g := ⟨_, rfl⟩
  have HRa := Lib.hid ((HR.out.below b3).more (show w.heap.size ≤ w1.heap.size by omega))
  have X0 := Lib.hid b1
  have HB := Lib.hid b3
  have hw1 : w.heap.size ≤ w1.heap.size := by omega
  have hg1 : g0 < w1.heap.size := by omega
  rw [hg0] at X0 ⊢
  have ca := X0.out.cell 0
  clear b1 b2 b3 hg0
  go_wp2_with fail
  refine (rfGet_any l p v w1 HRa.out).mono ?_
  rintro e w2 ⟨rfl, hb⟩
  have hs2 := hb.size
  have X2 := Lib.hid (X0.out.below hb hg1)
  have HB2 := Lib.hid (HB.out.trans (hb.mono hw1))
  have HR2 := Lib.hid ((HRa.out.below hb).more hs2)
  clear hb X0 HB HRa ca
  go_wp2_with (refine wpList_alloc_blk rfl 56 rfl (ndc nd0) zND ?_)
  intro w3 a1 a2 a3
  obtain ⟨g2, hg2⟩ : ∃ g, w2.heap.size = g := ⟨_, rfl⟩
  have X3 := Lib.hid (X2.out.below a3 (by omega))
  have Y3 := Lib.hid a1
  have HB3 := Lib.hid (HB2.out.trans (a3.mono (by omega)))
  have HR3 := Lib.hid ((HR2.out.below a3).more (show w2.heap.size ≤ w3.heap.size by omega))
  have hw3 : g2 < w3.heap.size := by omega
  have hg02 : g0 < g2 := by omega
  have hwg : w.heap.size ≤ g2 := by omega
  have hw13 : w1.heap.size ≤ w3.heap.size := by omega
  rw [hg2] at Y3 ⊢
  clear a1 a2 a3 X2 HB2 HR2 hg2
  obtain ⟨f, hf⟩ : ∃ f, getE l p = f := ⟨_, rfl⟩
  have HF := Lib.hid hf
  obtain ⟨x, hx⟩ : ∃ x, getS l p = x := ⟨_, rfl⟩
  rw [hx, hf]
  clear hx hf
  go_wp2_with (refine wpList_store_to rfl 56 _ _ rfl g2 (ndc x) (ndc nd0) 56 rfl rfl Y3.out sND rfl (ndc_one _) ?_)
  intro w4 c1 c2 c3 c4
  have X4 := Lib.hid (X3.out.same (c4 g0 (by omega)))
  have HB4 := Lib.hid (HB3.out.trans (c3.mono hwg))
  have hw4 : w3.heap.size = w4.heap.size := c2.symm
  have HR4 : Hid (RdNd w4.heap.size w4 v l) :=
    (HR.out.below HB4.out).more (by omega)
  have ca := X4.out.cell 0
  clear c1 c2 c3 c4 X3 Y3 HB3
  by_cases h0 : f = 0
  · subst h0
    have HE := Lib.hid (list_yes l p HF.out)
    go_wp2_with fail
    refine (rfKids_any l p v w4 HR4.out HL.out).mono ?_
    rintro e w5 ⟨u, rfl, ho, hb⟩
    have HO := Lib.hid (ho.base (show w.heap.size ≤ w4.heap.size by omega))
    have HB5 := Lib.hid (HB4.out.trans (hb.mono (show w.heap.size ≤ w4.heap.size by omega)))
    clear ho hb ca
    go_wp2
    go_ret2
    rw [HE.out, HF.out]
    exact ⟨_, rfl, HO.out, HB5.out⟩
  · have HE := Lib.hid (list_not l p (by rw [HF.out]; exact h0))
    have hz : ((f : Int) != 0) = true := by
      rw [bne_iff_ne]
      omega
    clear ca
    go_wp2
    go_ret2
    rw [HE.out, HF.out]
    exact ⟨_, rfl, OwnS.nil _ _ _, HB4.out⟩
end Go.Proofs.YtlpakfaoaodaiaaDoor

namespace Go.Proofs.YtlpakfaoaodaiaaDoor
open Go.RowKit

theorem slice_one (A : Option Addr) (n c : Nat) : [Value.slice A n c].toArray.all (·.oneCell') = true := by
  rw [Array.all_eq_true_iff_forall_mem]
  intro v hv
  simp at hv
  subst hv
  rfl
theorem dropS_snoc (l : List Nd) (o : Int) (i : Nat) (hi : i < l.length) : dropS (l.take (i + 1)) o = dropS (l.take i) o ++ (if ownB o (l.getD i nd0) = true then [] else [l.getD i nd0]) ∧
    goneN (l.take (i + 1)) o = goneN (l.take i) o ++ (if ownB o (l.getD i nd0) = true then [nP (l.getD i nd0)] else []) := by
  have e : l.take (i + 1) = l.take i ++ [l.getD i nd0] := by
    rw [List.take_add_one, List.getD_eq_getElem?_getD, List.getElem?_eq_getElem hi]
    rfl
  rw [e]
  obtain ⟨y, hy⟩ : ∃ y, l.getD i nd0 = y := ⟨_, rfl⟩
  rw [hy]
  unfold dropS goneN
  rw [List.filter_append, List.filter_append, List.map_append]
  cases h : ownB o y <;> simp [h]
theorem dropS_len (l : List Nd) (o : Int) : (dropS l o).length ≤ l.length := List.length_filter_le _ _
theorem goneN_len (l : List Nd) (o : Int) : (goneN l o).length ≤ l.length := by
  unfold goneN
  rw [List.length_map]
  exact List.length_filter_le _ _
theorem infoNd : (Tryd.prog.info? 56).map (fun i => (i.zero, i.size, i.bytes)) = some (some ndz, 4, 48) := by kernel_rfl
theorem info_partsNd : ∃ i, Tryd.prog.info? 56 = some i ∧ i.zero = some ndz ∧ i.size = 4 ∧ i.bytes = 48 := by
  have h := infoNd
  cases hi : Tryd.prog.info? 56 with
  | none => rw [hi] at h; simp at h
  | some i =>
    rw [hi] at h
    simp at h
    exact ⟨i, rfl, h.1, h.2.1, h.2.2⟩
/-- append of one string, and of nodes, onto what is owned: what else stays. -/
theorem wpList_app1Sg {P : Program} {w : World} {ops : Array Oper} {rest : List Oper} {o : Oper} {a : Act} {Q : Exit → Act → World → Prop}
    (hgd : o.guard = none) (s x : Operand) (t : TypeId) (ho : o.op = .call { callee := .builtin .append, args := #[s, x], argTypes := #[t, t] })
    (e : TypeId) (i : TypeInfo) (ht : P.underlying t = some (.slice e)) (hi : P.info? e = some i) (hz : i.zero = some (.string ⟨#[]⟩)) (hsize : i.size = 1) (hby : i.bytes = 16)
    (base : Nat) (v : Value) (l : List ByteArray) (b : ByteArray) (ad : Addr) (hs : a.eval s = v) (hown : OwnS e w base v l) (hx : a.eval x = .slice (some ad) 1 1) (hc : w.cell? ad = some (.string b))
    (hlen : l.length ≤ 1099511627776) (hbase : base ≤ w.heap.size)
    (h : ∀ v' w', OwnS e w' base v' (l ++ [b]) → Below base w w' → w.grownBy w' v.ownBlock → wpList P ops Q rest (a.put o.dst v') w') : wpList P ops Q (o :: rest) a w := by
  have h63 : l.length + 1 ≤ maxLen := by unfold maxLen; omega
  refine wpList_append_own w hgd s x t ho base e i (.string ⟨#[]⟩) 1 16 ht hi hz hsize hby rfl (by decide) v l.length (strs l) hs hown ad 1 1 [.string b] hx rfl ?_ ?_ h63 (by omega) hbase ?_
  · intro j u hu
    have hadd : ad.add 0 = ad := by simp [Addr.add]
    match j, hu with
    | 0, hu =>
      simp at hu
      subst hu
      rw [hadd]
      exact hc
  · intro u hu
    simp at hu
    subst hu
    rfl
  · intro v' w' h1 h2 _
    refine h v' w' ?_ (OwnS.grown hown h2 hbase) h2
    unfold OwnS
    rw [List.length_append, strs_append]
    exact h1
/-- A slice of one node, built. -/
theorem RdNd.one (w : World) (e : TypeId) (x : Nd) : RdNd (w.heap.size + 1) (w.alloc (.cells (ndc x).toArray e)) (.slice (some ⟨w.heap.size, 0, none⟩) 1 1) [x] := by
  refine ⟨some ⟨w.heap.size, 0, none⟩, 1, rfl, Nat.le_refl _, by decide, fun h => (by cases h), fun a ha => ?_⟩
  cases ha
  refine ⟨fun _ => Nat.lt_succ_self _, fun j u hu => ?_⟩
  rw [nds_one] at hu
  have hb : Blk (w.alloc (.cells (ndc x).toArray e)) w.heap.size (ndc x) e := heap_alloc_new w _
  have hadd : (⟨w.heap.size, 0, none⟩ : Addr).add j = ⟨w.heap.size, j, none⟩ := by unfold Addr.add; split <;> simp_all
  rw [hadd]
  exact (hb.cell j).trans hu
/-- The call answers a shelf and texts of its own. -/
def Drops (l : List Nd) (g : List (List UInt8)) (w : World) (e : Ending) (w' : World) : Prop :=
  ∃ v u, e = .returned (.tuple #[.agg #[v], u]) ∧ RdNd w'.heap.size w' v l ∧ RdS w'.heap.size w' u (bas g) ∧ Below w.heap.size w w'

set_option maxRecDepth 100000 in
set_option maxHeartbeats 4000000 in
theorem rfDrop_any (l : List Nd) (z : Int) (v : Value) (w : World) (hr : RdNd w.heap.size w v l) (hl : l.length ≤ 100000) : Calls Tryd.prog 25 #[.agg #[v], .int .i64 z] w (Drops (dropS l z) (goneN l z) w) := by
  obtain ⟨A, cp, rfl, hc, hm⟩ := hr.shape
  unfold maxLen at hm
  obtain ⟨i0, hI, hz0, hz1, hz2⟩ := info_partsStr
  obtain ⟨i1, hJ, hy0, hy1, hy2⟩ := info_partsNd
  obtain ⟨n, hn⟩ : ∃ n, l.length = n := ⟨_, rfl⟩
  have HN := Lib.hid hn
  have HR := Lib.hid hr
  rw [hn] at hc HR hl ⊢
  have HL := Lib.hid hl
  clear hr hn hl
  go_enter Tryd.func25, Tryd.ntmps25
  go_wp2_with (refine wpList_box_blk rfl 30 _ rfl [.slice A n cp] rfl ?_)
  intro w1 b1 b2 b3
  go_wp2_with (refine wpList_alloc_blk rfl 30 rfl [.slice none 0 0] zSH ?_)
  intro w2 a1 a2 a3
  obtain ⟨g0, hg0⟩ : ∃ g, w.heap.size = g := ⟨_, rfl⟩
  obtain ⟨g1, hg1⟩ : ∃ g, w.heap.size + 1 = g := ⟨_, rfl⟩
  obtain ⟨G, hG⟩ : ∃ G, w2.heap.size = G := ⟨_, rfl⟩
  have X0 := Lib.hid (b1.below a3 (by omega))
  have X1 := Lib.hid a1
  have HB := Lib.hid (b3.trans (a3.mono (by omega)))
  have hwG : w.heap.size ≤ G := by omega
  have h0G : g0 < G := by omega
  have h1G : g1 < G := by omega
  have hw1 : w.heap.size ≤ g1 := by omega
  rw [hg1] at X1 ⊢
  rw [hg0] at X0 ⊢
  have ca := X0.out.cell 0
  clear b1 b2 b3 a1 a2 a3 hg1
  have HO0 : Hid (OwnNd 56 ((w2.alloc (.cells #[] 56)).alloc (.cells #[] 9)) G (.slice (some ⟨G, 0, none⟩) 0 0) []) := by
    have := OwnNd.empty 56 w2 G (by omega)
    rw [hG] at this
    exact this.alloc _
  have HS0 : Hid (OwnS 9 ((w2.alloc (.cells #[] 56)).alloc (.cells #[] 9)) G (.slice (some ⟨G + 1, 0, none⟩) 0 0) []) := by
    have := OwnS.empty 9 (w2.alloc (.cells #[] 56)) G (by simp; omega)
    have e : (w2.alloc (.cells #[] 56)).heap.size = G + 1 := by simp; omega
    rw [e] at this
    exact this
  have HW0 : Hid (Below G w2 ((w2.alloc (.cells #[] 56)).alloc (.cells #[] 9))) := ((Below.refl _ _).alloc (by omega) _).alloc (by simp; omega) _
  go_wp2
  go_loopw [6, 7, 8] (fun o u x wr => ∃ i : Nat, i ≤ n ∧ x = .int .i64 (i : Int) ∧ Hid (OwnNd 56 wr G o (dropS (l.take i) z)) ∧ Hid (OwnS 9 wr G u (bas (goneN (l.take i) z))) ∧ Hid (Below G w2 wr)) (fun _ _ x _ => n - (intOf x).toNat)
  case atStart => exact ⟨0, by omega, rfl, HO0, HS0, HW0⟩
  case round =>
    obtain ⟨i, hi, rfl, HO, HS, HW⟩ := hrel
    have hwr := HW.out.size
    rw [hG] at hwr
    clear ca
    have ca := (X0.out.below HW.out h0G).cell 0
    by_cases hi2 : i < n
    · have zi : (i : Int) < (n : Int) := by omega
      obtain ⟨a, hA, c0, c1, c2, c3⟩ := (HR.out.below (HB.out.trans (HW.out.mono hwG))).at_ i (by rw [HN.out]; exact hi2)
      subst hA
      have HT := Lib.hid (dropS_snoc l z i (by rw [HN.out]; exact hi2))
      have HKL := Lib.hid (Nat.le_trans (dropS_len (l.take i) z) (List.length_take_le i l))
      have HGL := Lib.hid (Nat.le_trans (goneN_len (l.take i) z) (List.length_take_le i l))
      obtain ⟨x, hx⟩ : ∃ x, l.getD i nd0 = x := ⟨_, rfl⟩
      rw [hx] at c0 c1 c2 c3 HT
      clear hx
      cases ho : ownB z x
      · have HT2 : Hid (dropS (l.take (i + 1)) z = dropS (l.take i) z ++ [x] ∧ goneN (l.take (i + 1)) z = goneN (l.take i) z) := by
          show _ ∧ _
          rw [HT.out.1, HT.out.2, ho]; simp
        have HO4 : Hid (OwnNd 56 (wr.alloc (.cells (ndc x).toArray 56)) G u6 (dropS (l.take i) z)) := HO.out.alloc _
        have HS4 : Hid (OwnS 9 (wr.alloc (.cells (ndc x).toArray 56)) G u7 (bas (goneN (l.take i) z))) := HS.out.alloc _
        have HW4 : Hid (Below G w2 (wr.alloc (.cells (ndc x).toArray 56))) := HW.out.alloc hwr _
        have HF : Hid ((0 < z ∧ ((nO x == z) = false)) ∨ ¬ 0 < z) := by
          show _ ∨ _
          unfold ownB at ho
          by_cases hz : 0 < z
          · left
            simp [hz] at ho
            exact ⟨hz, by simpa using ho⟩
          · exact .inr hz
        clear ho
        rcases HF.out with ⟨hz, hzo⟩ | hz
        all_goals
          go_wp2_with (at_builtin; refine wpList_appNd rfl _ _ 28 rfl 56 i1 Tryd.underlying28 hJ hy0 hy1 hy2 G _ _ _ (dropS (l.take i) z) [x] rfl HO4.out rfl (RdNd.one wr 56 x) ?d1 ?d2 ?_)
          case d1 => have := HKL.out; have := HL.out; simp; omega
          case d2 => first | omega | (simp; omega)
          intro v5 w5 h5 hb5 hg5
          have HO5 : Hid (OwnNd 56 w5 G v5 (dropS (l.take (i + 1)) z)) := by
            show OwnNd _ _ _ _ _
            rw [HT2.out.1]
            exact h5
          have HS5 : Hid (OwnS 9 w5 G u7 (bas (goneN (l.take (i + 1)) z))) := by
            show OwnS _ _ _ _ _
            rw [HT2.out.2]
            exact ownsRow_other (by decide) HS4.out HO4.out hg5
          have HW5 : Hid (Below G w2 w5) := HW4.out.trans hb5
          clear h5 hb5 hg5
          go_wp2
          go_roundw
          case rel => exact ⟨i + 1, by omega, by go_num, HO5, HS5, HW5⟩
          case measure => simp [intOf]; omega
      · have HT2 : Hid (dropS (l.take (i + 1)) z = dropS (l.take i) z ∧ goneN (l.take (i + 1)) z = goneN (l.take i) z ++ [nP x]) := by
          show _ ∧ _
          rw [HT.out.1, HT.out.2, ho]; simp
        have HO4 : Hid (OwnNd 56 (wr.alloc (.cells #[.string ⟨(nP x).toArray⟩] 9)) G u6 (dropS (l.take i) z)) := HO.out.alloc _
        have HS4 : Hid (OwnS 9 (wr.alloc (.cells #[.string ⟨(nP x).toArray⟩] 9)) G u7 (bas (goneN (l.take i) z))) := HS.out.alloc _
        have HW4 : Hid (Below G w2 (wr.alloc (.cells #[.string ⟨(nP x).toArray⟩] 9))) := HW.out.alloc hwr _
        unfold ownB at ho
        simp only [Bool.and_eq_true, decide_eq_true_eq] at ho
        obtain ⟨hz, hzo⟩ := ho
        rw [hzo] at c3
        have hzz : (z == z) = true := by simp
        clear hzo
        go_wp2_with (at_builtin; refine wpList_app1Sg rfl _ _ 45 rfl 9 i0 Tryd.underlying45 hI hz0 hz1 hz2 G _ (bas (goneN (l.take i) z)) ⟨(nP x).toArray⟩ ⟨wr.heap.size, 0, none⟩ rfl HS4.out rfl ?d1 ?d2 ?d3 ?_)
        case d1 => simp
        case d2 => rw [bas_length]; have := HGL.out; have := HL.out; omega
        case d3 => simp; omega
        intro v5 w5 h5 hb5 hg5
        rw [← bas_snoc] at h5
        have HS5 : Hid (OwnS 9 w5 G v5 (bas (goneN (l.take (i + 1)) z))) := by
          show OwnS _ _ _ _ _
          rw [HT2.out.2]
          exact h5
        have HO5 : Hid (OwnNd 56 w5 G u6 (dropS (l.take (i + 1)) z)) := by
          show OwnNd _ _ _ _ _
          rw [HT2.out.1]
          exact ownsRow_other (by decide) HO4.out HS4.out hg5
        have HW5 : Hid (Below G w2 w5) := HW4.out.trans hb5
        clear h5 hb5 hg5
        go_wp2
        go_roundw
        case rel => exact ⟨i + 1, by omega, by go_num, HO5, HS5, HW5⟩
        case measure => simp [intOf]; omega
    · have hE : i = n := by omega
      subst hE
      have HF : Hid (l.take i = l) := List.take_of_length_le (by rw [HN.out]; exact Nat.le_refl _)
      rw [HF.out] at HO HS
      obtain ⟨Ao, co, ho, hoc, -⟩ := HO.out.rd.shape
      subst ho
      have X1r := Lib.hid (X1.out.below HW.out h1G)
      obtain ⟨d30, hu30, hd30⟩ := rowSH
      have HU := Lib.hid hu30
      have HD := Lib.hid hd30
      clear hu30 hd30
      go_wp2_with (refine wpList_store_to rfl 30 _ _ rfl g1 [.slice Ao (dropS l z).length co] [.slice none 0 0] 30 rfl rfl X1r.out sSH rfl ?_ ?_)
      · exact slice_one _ _ _
      · intro w5 e1 e2 e3 e4
        go_wp2
        refine bodyPost_ret (v := .tuple #[.agg [Value.slice Ao (dropS l z).length co].toArray, u7]) ?_ rfl ?_
        · exact ret_blk2U rfl _ _ g1 30 [.slice Ao (dropS l z).length co] _ rfl rfl e1 d30 HU.out HD.out sSH
        · have hO : ∀ k, G ≤ k → w5.heap[k]? = wr.heap[k]? := fun k hk => e4 k (by omega)
          exact ⟨_, _, rfl, OwnNd.rd (ownsRow_same HO.out hO), OwnS.rd (ownsRow_same HS.out hO), HB.out.trans ((HW.out.mono hwG).trans (e3.mono hw1))⟩
end Go.Proofs.YtlpakfaoaodaiaaDoor

namespace Go.Proofs.YtlpakfaoaodaiaaDoor
open Go.RowKit

section
variable {P : Program} (w : World)
theorem run_append_or (base : Nat) (t ty e : TypeId) (i : TypeInfo) (z : Value) (size bytes : Nat) (ht : P.underlying t = some (.slice e)) (hi : P.info? e = some i) (hz : i.zero = some z)
    (hsize : i.size = size) (hby : i.bytes = bytes) (hzs : z.cells.size = size) (hsz : 0 < size)
    (v : Value) (n : Nat) (xs : List Value) (hown : w.ownsRow base e size v n xs)
    (a : Addr) (m c : Nat) (news : List Value) (hl : news.length = m * size) (hnews : ∀ j u, news[j]? = some u → w.cell? (a.add j) = some u) (h1 : ∀ u ∈ news, u.oneCell' = true)
    (h63 : n + m ≤ maxLen) (hbytes : (n + m) * bytes ≤ 140737488355328) (hbase : base ≤ w.heap.size) (hm : 0 < m) :
    ∃ v' w', (Builtin.append_ #[t, t] ty #[v, .slice (some a) m c]).run P w = .ok v' w' ∧ w'.ownsRow base e size v' (n + m) (xs ++ news) ∧ w.grownBy w' v.ownBlock ∧
      (v'.ownBlock = v.ownBlock ∨ ∃ k, v'.ownBlock = some k ∧ w.heap.size ≤ k) := by
  obtain ⟨v', w', hr, g1, g2, _⟩ := run_append_own (P := P) w base t ty e i z size bytes ht hi hz hsize hby hzs hsz v n xs hown a m c news hl hnews h1 h63 hbytes hbase
  refine ⟨v', w', hr, g1, g2, ?_⟩
  subst hsize
  subst hby
  have hsmall : n + m ≤ 9223372036854775807 := by simp only [maxLen] at h63; omega
  rcases hown.2 with ⟨rfl, rfl⟩ | ⟨g, cap, cur, rfl, hbg, hg, hnc, hcm, hcs, htake⟩
  · have hr2 := run_append_nil (P := P) w t ty e i z ht hi hz a m c news hl hnews (by omega) (by omega) (by have hb := hbytes; simp only [Nat.zero_add] at hb; omega)
    rw [hr] at hr2
    injection hr2 with e1 _
    right
    exact ⟨w.heap.size, by rw [e1]; rfl, Nat.le_refl _⟩
  · by_cases hroom : n + m ≤ cap
    · have hfit : n * i.size + news.length ≤ cur.size := by rw [hl, hcs, ← Nat.add_mul]; exact Nat.mul_le_mul_right _ hroom
      have hr2 := run_append_room (P := P) w t ty e i ht hi g n cap cur hg a m c news hl hnews h1 hroom hfit
      rw [hr] at hr2
      injection hr2 with e1 _
      left
      rw [e1]; rfl
    · have holds : ∀ j u, xs[j]? = some u → w.cell? ((⟨g, 0, none⟩ : Addr).add j) = some u := hown.cells (g := g) rfl
      have hr2 := run_append_grow (P := P) w t ty e i z ht hi hz ⟨g, 0, none⟩ n cap xs hown.1 holds a m c news hl hnews (by omega) (by omega) (growslice_fits (by omega) hbytes)
      rw [hr] at hr2
      injection hr2 with e1 _
      right
      exact ⟨w.heap.size, by rw [e1]; rfl, Nat.le_refl _⟩
end
/-- append of nodes onto nodes that are owned: what stays, and where the row lies. -/
theorem wpList_appNg {P : Program} {w : World} {ops : Array Oper} {rest : List Oper} {o : Oper} {a : Act} {Q : Exit → Act → World → Prop}
    (hgd : o.guard = none) (s x : Operand) (t : TypeId) (ho : o.op = .call { callee := .builtin .append, args := #[s, x], argTypes := #[t, t] })
    (e : TypeId) (i : TypeInfo) (ht : P.underlying t = some (.slice e)) (hi : P.info? e = some i) (hz : i.zero = some ndz) (hsize : i.size = 4) (hby : i.bytes = 48)
    (base B : Nat) (v vx : Value) (l m : List Nd) (hs : a.eval s = v) (hown : OwnNd e w base v l) (hx : a.eval x = vx) (hr : RdNd B w vx m) (hm0 : 0 < m.length)
    (hlen : l.length + m.length ≤ 1000000) (hbase : base ≤ w.heap.size)
    (h : ∀ v' w', OwnNd e w' base v' (l ++ m) → Below base w w' → w.grownBy w' v.ownBlock → (v'.ownBlock = v.ownBlock ∨ ∃ k, v'.ownBlock = some k ∧ w.heap.size ≤ k) → wpList P ops Q rest (a.put o.dst v') w') : wpList P ops Q (o :: rest) a w := by
  obtain ⟨A, c, hv, hc, hm, hn, hrr⟩ := hr
  cases A with
  | none => have h0 : c = 0 := hn rfl; omega
  | some ad =>
    refine wpList_plain hgd fun K hK => ?_
    obtain ⟨v', w', hrun, h1, h2, h3⟩ := run_append_or (P := P) w base t o.type e i ndz 4 48 ht hi hz hsize hby rfl (by decide) v l.length (nds l) hown ad m.length c (nds m) (by rw [nds_length]; omega) (hrr ad rfl).2 (nds_cell m) (by unfold maxLen; omega) (by omega) hbase hm0
    unfold Oper.wp execOp
    simp only [ho, resolve, invoke, builtin, Sem.run_bind, Sem.run_pure, Result.andThen_ok, List.map_toArray, List.map_cons, List.map_nil, hs, hx, hv, hrun]
    refine hK _ _ (h v' w' ?_ (OwnNd.grown hown h2 hbase) h2 h3)
    unfold OwnNd
    rw [List.length_append, nds_append]
    exact h1
end Go.Proofs.YtlpakfaoaodaiaaDoor
