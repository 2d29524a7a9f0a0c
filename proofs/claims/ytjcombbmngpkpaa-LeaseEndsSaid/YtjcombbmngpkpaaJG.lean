/-
  The document's books: Same.
-/
import Derived.Test.YtjcombbmngpkpaaJF
import Derived.Laws.StructEq
namespace Go.Proofs.Ytjcombbmngpkpaa
open Go.RowKit

def sameB (t s : Int) (l m : List Se) : Bool := decide (t = s) && decide (l = m)
theorem sameS_at (l m : List Se) (i : Nat) (h : l.getD i se0 ≠ m.getD i se0) : decide (l = m) = false := by
  rw [decide_eq_false_iff_not]
  rintro rfl
  exact h rfl
theorem sameS_all (l m : List Se) (hl : l.length = m.length) (h : ∀ i, i < l.length → l.getD i se0 = m.getD i se0) : decide (l = m) = true := by
  rw [decide_eq_true_eq]
  refine List.ext_getElem hl fun i h1 h2 => ?_
  have := h i h1
  rw [List.getD_eq_getElem?_getD, List.getD_eq_getElem?_getD, List.getElem?_eq_getElem h1, List.getElem?_eq_getElem h2] at this
  exact this
theorem sameS_len (l m : List Se) (hl : l.length ≠ m.length) : decide (l = m) = false := by
  rw [decide_eq_false_iff_not]
  rintro rfl
  exact hl rfl
theorem eqFields_se (d : Nat) (x y : Se) (w : World) (fs : List Field) (h : fs.map (fun f => (f.name == "_", f.type, f.offset)) = [(false, 3, 0), (false, 3, 1), (false, 3, 2)]) :
    (Op.eqFields (d + 1) (sec x).toArray (sec y).toArray fs).run Try.prog w = .ok (decide (x = y)) w := by
  obtain ⟨f0, f1, f2, rfl⟩ : ∃ f0 f1 f2, fs = [f0, f1, f2] := by
    have hl := congrArg List.length h
    rw [List.length_map] at hl
    match fs, hl with
    | [f0, f1, f2], _ => exact ⟨f0, f1, f2, rfl⟩
  simp only [List.map_cons, List.map_nil, List.cons.injEq, Prod.mk.injEq, and_true] at h
  obtain ⟨⟨n0, t0, o0⟩, ⟨n1, t1, o1⟩, ⟨n2, t2, o2⟩⟩ := h
  have m0 : f0.name ≠ "_" := by simpa using n0
  have m1 : f1.name ≠ "_" := by simpa using n1
  have m2 : f2.name ≠ "_" := by simpa using n2
  have p0 : ∀ z : Se, (part f0.type (sec z).toArray f0.offset).run Try.prog w = .ok (.int .i64 (sI z)) w := fun z => by rw [t0, o0]; exact run_part_cell _ _ _ _ Try.isAgg3 rfl w
  have p1 : ∀ z : Se, (part f1.type (sec z).toArray f1.offset).run Try.prog w = .ok (.int .i64 (sP z)) w := fun z => by rw [t1, o1]; exact run_part_cell _ _ _ _ Try.isAgg3 rfl w
  have p2 : ∀ z : Se, (part f2.type (sec z).toArray f2.offset).run Try.prog w = .ok (.int .i64 (sU z)) w := fun z => by rw [t2, o2]; exact run_part_cell _ _ _ _ Try.isAgg3 rfl w
  have e0 : (Op.equalIn (d + 1) f0.type (.int .i64 (sI x)) (.int .i64 (sI y))).run Try.prog w = .ok (sI x == sI y) w := by rw [t0, run_equalIn_int w d _ _ _ _ _ Try.underlying3]
  have e1 : (Op.equalIn (d + 1) f1.type (.int .i64 (sP x)) (.int .i64 (sP y))).run Try.prog w = .ok (sP x == sP y) w := by rw [t1, run_equalIn_int w d _ _ _ _ _ Try.underlying3]
  have e2 : (Op.equalIn (d + 1) f2.type (.int .i64 (sU x)) (.int .i64 (sU y))).run Try.prog w = .ok (sU x == sU y) w := by rw [t2, run_equalIn_int w d _ _ _ _ _ Try.underlying3]
  obtain ⟨a, b, c⟩ := x
  obtain ⟨a', b', c'⟩ := y
  simp only [Op.eqFields, if_pos m0, if_pos m1, if_pos m2, Sem.run_bind, p0, p1, p2, e0, e1, e2, Result.andThen_ok, Sem.run_ite, Sem.run_pure]
  by_cases h0 : a = a' <;> by_cases h1 : b = b' <;> by_cases h2 : c = c' <;> simp [h0, h1, h2]
theorem fSess : (Try.prog.fieldsOf 58).toList.map (fun f => (f.name == "_", f.type, f.offset)) = [(false, 3, 0), (false, 3, 1), (false, 3, 2)] := by kernel_rfl
theorem uSess : Try.prog.underlying 58 = some (.struct (Try.prog.fieldsOf 58)) := by kernel_rfl
theorem run_neq_se (x y : Se) (w : World) : (binOp .neq 58 (.agg #[.int .i64 (sI x), .int .i64 (sP x), .int .i64 (sU x)]) (.agg #[.int .i64 (sI y), .int .i64 (sP y), .int .i64 (sU y)])).run Try.prog w = .ok (.bool !decide (x = y)) w := by
  rw [run_neq_struct, run_equalIn_struct w 9999 _ _ _ uSess (by kernel_rfl), show (#[.int .i64 (sI x), .int .i64 (sP x), .int .i64 (sU x)] : Array Value) = (sec x).toArray from rfl, show (#[.int .i64 (sI y), .int .i64 (sP y), .int .i64 (sU y)] : Array Value) = (sec y).toArray from rfl, eqFields_se 9998 x y w _ fSess]
  rfl

set_option maxRecDepth 100000 in
set_option maxHeartbeats 4000000 in
theorem rfSameB_any (t s : Int) (l m : List Se) (v u : Value) (w : World) (hr : RdE SeK w.heap.size w v l) (hr2 : RdE SeK w.heap.size w u m) : Calls Try.prog 13 #[.agg #[.int .i64 t, v], .agg #[.int .i64 s, u]] w (One (.bool (sameB t s l m)) w) := by
  obtain ⟨A, cp, rfl, hc, hm⟩ := hr.shape
  obtain ⟨A2, cp2, rfl, hc2, hm2⟩ := hr2.shape
  unfold maxLen at hm hm2
  obtain ⟨n, hn⟩ : ∃ n, l.length = n := ⟨_, rfl⟩
  obtain ⟨k, hk⟩ : ∃ n, m.length = n := ⟨_, rfl⟩
  have HN := Lib.hid hn
  have HK := Lib.hid hk
  have HR := Lib.hid hr
  have HR2 := Lib.hid hr2
  rw [hn] at hc HR ⊢
  rw [hk] at hc2 HR2 ⊢
  clear hr hn hr2 hk
  go_enter Try.func13, Try.ntmps13
  go_wp2_with (refine wpList_box_blk rfl 30 _ rfl [.int .i64 t, .slice A n cp] rfl ?_)
  intro w1 b1 b2 b3
  go_wp2_with (refine wpList_box_blk rfl 30 _ rfl [.int .i64 s, .slice A2 k cp2] rfl ?_)
  intro w2 a1 a2 a3
  obtain ⟨g0, hg0⟩ : ∃ g, w.heap.size = g := ⟨_, rfl⟩
  obtain ⟨g1, hg1⟩ : ∃ g, w.heap.size + 1 = g := ⟨_, rfl⟩
  have X0 := Lib.hid (b1.below a3 (by omega))
  have HB := Lib.hid (b3.trans (a3.mono (by omega)))
  have HRa := Lib.hid (HR.out.below HB.out)
  have HRb := Lib.hid (HR2.out.below HB.out)
  have hw2 : w.heap.size ≤ w2.heap.size := by omega
  have X1 := Lib.hid a1
  have hg2 : g1 < w2.heap.size := by omega
  have hg3 : g0 < w2.heap.size := by omega
  rw [hg1] at X1 ⊢
  rw [hg0] at X0 ⊢
  have ca := X0.out.cell 0
  have cb := X1.out.cell 0
  have ca1 := X0.out.at_ 1 _ rfl
  have cb1 := X1.out.at_ 1 _ rfl
  clear b1 b2 b3 a1 a2 a3 HR HR2
  by_cases hts : t = s
  rotate_left
  · have HF : Hid (sameB t s l m = false) := by
      show _ = _
      unfold sameB
      rw [decide_eq_false hts]; rfl
    have hz : (t != s) = true := by rw [bne_iff_ne]; exact hts
    clear hts
    go_wp2
    go_ret
    exact ⟨by rw [HF.out]; rfl, HB.out⟩
  have HE : Hid (sameB t s l m = decide (l = m)) := by
    show _ = _
    unfold sameB
    rw [decide_eq_true hts]; rfl
  have hzt : (t != s) = false := by rw [hts]; simp
  clear hts
  by_cases hnk : n = k
  · subst hnk
    go_wp2
    clear hzt
    go_loopw [5] (fun x wr => ∃ i : Nat, i ≤ n ∧ x = .int .i64 (i : Int) ∧ Hid (∀ j, j < i → l.getD j se0 = m.getD j se0) ∧ Hid (Below w2.heap.size w2 wr)) (fun x _ => n - (intOf x).toNat)
    case atStart => exact ⟨0, by omega, rfl, fun j hj => by omega, Below.refl _ _⟩
    case round =>
      obtain ⟨i, hi, rfl, HA, HD⟩ := hrel
      clear ca cb ca1 cb1
      have ca1 := (X0.out.below HD.out hg3).at_ 1 _ rfl
      have cb1 := (X1.out.below HD.out hg2).at_ 1 _ rfl
      by_cases hi2 : i < n
      · have zi : (i : Int) < (n : Int) := by omega
        obtain ⟨a, hA, c0, c1, c2⟩ := (HRa.out.below (HD.out.mono hw2)).at3 i (by rw [HN.out]; exact hi2)
        obtain ⟨b, hA2, d0, d1, d2⟩ := (HRb.out.below (HD.out.mono hw2)).at3 i (by rw [HK.out]; exact hi2)
        subst hA hA2
        obtain ⟨x, hx⟩ : ∃ x, l.getD i se0 = x := ⟨_, rfl⟩
        obtain ⟨y, hy⟩ : ∃ y, m.getD i se0 = y := ⟨_, rfl⟩
        rw [hx] at c0 c1 c2
        rw [hy] at d0 d1 d2
        have hne := run_neq_se x y
        obtain ⟨B, hB⟩ : ∃ B, decide (x = y) = B := ⟨_, rfl⟩
        rw [hB] at hne
        go_wp2
        refine wp_region_quiet_lit (by kernel_rfl) (by kernel_rfl) ?_
        repeat (first | go_big_quiet_step (fail) | quiet_step (fail))
        refine wpQuiet_nil ?_
        intro _ hw'
        obtain ⟨nq, hw''⟩ := hw'
        subst hw''
        have HD2 : Hid (Below w2.heap.size w2 (wr.drewN nq)) := Below.drewN' HD.out
        cases B
        · have HF := Lib.hid (sameS_at l m i (by rw [hx, hy]; simpa using hB))
          clear hne
          go_wp2
          go_ret
          exact ⟨by rw [HE.out, HF.out]; rfl, HB.out.trans (HD2.out.mono hw2)⟩
        · have HA2 : Hid (∀ j, j < i + 1 → l.getD j se0 = m.getD j se0) := by
            intro j hj
            by_cases h : j < i
            · exact HA.out j h
            · have : j = i := by omega
              subst this
              rw [hx, hy]
              simpa using hB
          clear hne
          go_wp2
          go_roundw
          case rel => exact ⟨i + 1, by omega, by go_num, HA2, HD2⟩
          case measure => simp [intOf]; omega
      · have hE : i = n := by omega
        subst hE
        have HF := Lib.hid (sameS_all l m (by rw [HN.out, HK.out]) (by rw [HN.out]; exact HA.out))
        go_wp2
        go_ret
        exact ⟨by rw [HE.out, HF.out]; rfl, HB.out.trans (HD.out.mono hw2)⟩
  · have HF := Lib.hid (sameS_len l m (by rw [HN.out, HK.out]; exact hnk))
    have hz : ((n : Int) == (k : Int)) = false := by
      rw [beq_eq_false_iff_ne]
      omega
    go_wp2
    go_ret
    exact ⟨by rw [HE.out, HF.out]; rfl, HB.out⟩
end Go.Proofs.Ytjcombbmngpkpaa
