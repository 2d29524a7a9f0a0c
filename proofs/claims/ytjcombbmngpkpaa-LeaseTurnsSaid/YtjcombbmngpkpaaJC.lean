/-
  The document's books: Close.
-/
import Derived.Test.YtjcombbmngpkpaaJB
namespace Go.Proofs.Ytjcombbmngpkpaa
open Go.RowKit

theorem rowBK : ∃ d, Try.prog.underlying 30 = some d ∧ d.isRow = true := ⟨_, Try.underlying30, rfl⟩
theorem sBK : (Try.prog.info? 30).map (·.size) = some 2 := by kernel_rfl
theorem zBK : (Try.prog.info? 30).map (·.zero) = some (some (.agg [Value.int .i64 0, .slice none 0 0].toArray)) := by kernel_rfl
theorem kindSe : KindOf Try.prog 58 SeK 24 := kind_of (z := .agg (sec se0).toArray) (by kernel_rfl) rfl
theorem close_none (l : List Se) (id : Int) (h : hasS l id = false) : leaseE l id = 14 ∧ closeS l id = l := by
  refine ⟨by unfold leaseE; rw [h]; rfl, ?_⟩
  unfold closeS
  rw [List.filter_eq_self]
  intro x hx
  simpa using (hasS_not l id).1 h x hx
theorem lease_yes (l : List Se) (id : Int) (h : hasS l id = true) : leaseE l id = 0 := by unfold leaseE; rw [h]; rfl
theorem close_snoc (l : List Se) (id : Int) (i : Nat) (hi : i < l.length) : closeS (l.take (i + 1)) id = closeS (l.take i) id ++ (if sI (l.getD i se0) = id then [] else [l.getD i se0]) := by
  rw [take_se l i hi]
  obtain ⟨y, hy⟩ : ∃ y, l.getD i se0 = y := ⟨_, rfl⟩
  rw [hy]
  unfold closeS
  rw [List.filter_append]
  by_cases h : sI y = id <;> simp [h]
theorem close_len (l : List Se) (id : Int) : (closeS l id).length ≤ l.length := List.length_filter_le _ _

set_option maxRecDepth 100000 in
set_option maxHeartbeats 8000000 in
theorem rfCloseB_any (t : Int) (l : List Se) (id : Int) (v : Value) (w : World) (hr : RdE SeK w.heap.size w v l) (hl : l.length ≤ 1000000) : Calls Try.prog 22 #[.agg #[.int .i64 t, v], .int .i64 id] w (Books t (closeS l id) (leaseE l id) w) := by
  obtain ⟨A, cp, rfl, hc, hm⟩ := hr.shape
  unfold maxLen at hm
  obtain ⟨n, hn⟩ : ∃ n, l.length = n := ⟨_, rfl⟩
  have HN := Lib.hid hn
  have HR := Lib.hid hr
  rw [hn] at hc HR hl ⊢
  have HL := Lib.hid hl
  obtain ⟨d30, hu30, hd30⟩ := rowBK
  have HU := Lib.hid hu30
  have HD := Lib.hid hd30
  clear hr hn hl hu30 hd30
  go_enter Try.func22, Try.ntmps22
  go_wp2_with (refine wpList_box_blk rfl 30 _ rfl [.int .i64 t, .slice A n cp] rfl ?_)
  intro w1 b1 b2 b3
  go_wp2_with (refine wpList_alloc_blk rfl 30 rfl [.int .i64 0, .slice none 0 0] zBK ?_)
  intro w2 a1 a2 a3
  obtain ⟨g0, hg0⟩ : ∃ g, w.heap.size = g := ⟨_, rfl⟩
  obtain ⟨g1, hg1⟩ : ∃ g, w.heap.size + 1 = g := ⟨_, rfl⟩
  obtain ⟨G, hG⟩ : ∃ G, w2.heap.size = G := ⟨_, rfl⟩
  have X0 := Lib.hid (b1.below a3 (by omega))
  have X1 := Lib.hid a1
  have HB := Lib.hid (b3.trans (a3.mono (by omega)))
  have HR2 := Lib.hid ((HR.out.below HB.out).more (show w.heap.size ≤ w2.heap.size by omega))
  have hwG : w.heap.size ≤ G := by omega
  have h0G : g0 < G := by omega
  have h1G : g1 < G := by omega
  have hw1 : w.heap.size ≤ g1 := by omega
  have HG := Lib.hid hG
  rw [hg1] at X1 ⊢
  rw [hg0] at X0 ⊢
  have ca := X0.out.cell 0
  have cb := X0.out.at_ 1 _ rfl
  clear b1 b2 b3 a1 a2 a3 hg1 hG
  go_wp2_with fail
  refine (rfHasB_any t l id _ w2 HR2.out).mono ?_
  rintro e w3 ⟨rfl, hb⟩
  have hs3 := hb.size
  rw [HG.out] at hs3
  have X3 := Lib.hid (X0.out.below hb (by rw [HG.out]; exact h0G))
  have Y3 := Lib.hid (X1.out.below hb (by rw [HG.out]; exact h1G))
  have HB3 := Lib.hid (HB.out.trans (hb.mono (by rw [HG.out]; exact hwG)))
  clear hb ca cb X0 X1 HB HR2
  have ca := X3.out.cell 0
  have cb := X3.out.at_ 1 _ rfl
  obtain ⟨G3, hG3⟩ : ∃ G, w3.heap.size = G := ⟨_, rfl⟩
  have HG3 := Lib.hid hG3
  rw [hG3] at hs3
  have h0G3 : g0 < G3 := by omega
  have h1G3 : g1 < G3 := by omega
  have hwG3 : w.heap.size ≤ G3 := by omega
  clear hG3
  cases hH : hasS l id
  · have HE := Lib.hid (close_none l id hH)
    clear hH
    go_wp2_with (refine wpList_store_to rfl 30 _ _ rfl g1 [.int .i64 t, .slice A n cp] [.int .i64 0, .slice none 0 0] 30 rfl rfl Y3.out sBK rfl (book_one _ _ _ _) ?_)
    intro w20 e1 e2 e3 e4
    go_wp2
    refine bodyPost_ret (v := .tuple #[.agg #[.int .i64 t, .slice A n cp], .int .i64 14]) ?_ rfl ?_
    · exact ret_blk2U rfl _ _ g1 30 [.int .i64 t, .slice A n cp] _ rfl rfl e1 d30 HU.out HD.out sBK
    · have HB20 : Below w.heap.size w w20 := HB3.out.trans (e3.mono hw1)
      rw [HE.out.1, HE.out.2]
      exact ⟨_, rfl, (HR.out.below HB20).more HB20.size, HB20⟩
  have HE := Lib.hid (lease_yes l id hH)
  clear hH
  have HO0 : Hid (OwnE SeK 58 (w3.alloc (.cells #[] 58)) G3 (.slice (some ⟨G3, 0, none⟩) 0 0) []) := by
    have := OwnE.empty (E := SeK) 58 w3 G3 (by rw [HG3.out]; exact Nat.le_refl _)
    rw [HG3.out] at this
    exact this
  have HW0 : Hid (Below G3 w3 (w3.alloc (.cells #[] 58))) := (Below.refl _ _).alloc (by rw [HG3.out]; exact Nat.le_refl _) _
  have hG3 := HG3.out
  go_wp2
  clear hG3
  go_loopw [6, 7] (fun o x wr => ∃ i : Nat, i ≤ n ∧ x = .int .i64 (i : Int) ∧ Hid (OwnE SeK 58 wr G3 o (closeS (l.take i) id)) ∧ Hid (Below G3 w3 wr)) (fun _ x _ => n - (intOf x).toNat)
  case atStart => exact ⟨0, by omega, rfl, HO0, HW0⟩
  case round =>
    obtain ⟨i, hi, rfl, HO, HW⟩ := hrel
    have hwr := HW.out.size
    rw [HG3.out] at hwr
    clear ca cb
    have cb := (X3.out.below HW.out h0G3).at_ 1 _ rfl
    have ca := (X3.out.below HW.out h0G3).cell 0
    by_cases hi2 : i < n
    · have zi : (i : Int) < (n : Int) := by omega
      obtain ⟨a, hA, c0, c1, c2⟩ := (HR.out.below (HB3.out.trans (HW.out.mono hwG3))).at3 i (by rw [HN.out]; exact hi2)
      subst hA
      have HT := Lib.hid (close_snoc l id i (by rw [HN.out]; exact hi2))
      have HKL : Hid ((closeS (l.take i) id).length ≤ n) := by
        show _ ≤ _
        have h1 := close_len (l.take i) id
        have h2 := List.length_take_le i l
        omega
      obtain ⟨x, hx⟩ : ∃ x, l.getD i se0 = x := ⟨_, rfl⟩
      rw [hx] at c0 c1 c2 HT
      clear hx
      by_cases he : sI x = id
      · have HT2 : Hid (closeS (l.take (i + 1)) id = closeS (l.take i) id) := by
          show _ = _
          rw [HT.out, if_pos he]; simp
        have hbb : (sI x == id) = true := int_eq _ _ he
        clear he
        go_wp2
        go_roundw
        case rel => exact ⟨i + 1, by omega, by go_num, by rw [HT2.out]; exact HO, HW⟩
        case measure => simp [intOf]; omega
      · have HT2 : Hid (closeS (l.take (i + 1)) id = closeS (l.take i) id ++ [x]) := by
          show _ = _
          rw [HT.out, if_neg he]
        have hbb : (sI x == id) = false := int_ne _ _ he
        clear he
        have HO4 : Hid (OwnE SeK 58 (wr.alloc (.cells (sec x).toArray 58)) G3 u6 (closeS (l.take i) id)) := HO.out.alloc _
        have HW4 : Hid (Below G3 w3 (wr.alloc (.cells (sec x).toArray 58))) := HW.out.alloc hwr _
        go_wp2_with (at_builtin; refine wpList_appE (E := SeK) rfl _ _ 28 rfl 58 24 Try.underlying28 kindSe G3 _ _ _ (closeS (l.take i) id) [x] rfl HO4.out rfl (RdE.one wr 58 x) (by simp) ?d1 ?d2 ?d3 ?_)
        case d1 => have := HKL.out; have := HL.out; simp only [List.length_cons, List.length_nil]; omega
        case d2 => have := HKL.out; have := HL.out; simp only [List.length_cons, List.length_nil]; omega
        case d3 => simp; omega
        intro v5 w5 h5 hb5 hg5 _
        have HO5 : Hid (OwnE SeK 58 w5 G3 v5 (closeS (l.take (i + 1)) id)) := by
          show OwnE _ _ _ _ _ _
          rw [HT2.out]
          exact h5
        have HW5 : Hid (Below G3 w3 w5) := HW4.out.trans hb5
        clear h5 hb5 hg5
        go_wp2
        go_roundw
        case rel => exact ⟨i + 1, by omega, by go_num, HO5, HW5⟩
        case measure => simp [intOf]; omega
    · have hE : i = n := by omega
      subst hE
      have HFL : Hid (l.take i = l) := List.take_of_length_le (by rw [HN.out]; exact Nat.le_refl _)
      rw [HFL.out] at HO
      obtain ⟨Ao, co, ho, -, -⟩ := HO.out.rd.shape
      obtain ⟨LL, hLL⟩ : ∃ LL, (closeS l id).length = LL := ⟨_, rfl⟩
      rw [hLL] at ho
      subst ho
      clear hLL
      have Yr := Lib.hid (Y3.out.below HW.out h1G3)
      go_wp2_with (refine wpList_store_to rfl 30 _ _ rfl g1 [.int .i64 t, .slice Ao LL co] [.int .i64 0, .slice none 0 0] 30 rfl rfl Yr.out sBK rfl (book_one _ _ _ _) ?_)
      intro w20 e1 e2 e3 e4
      go_wp2
      refine bodyPost_ret (v := .tuple #[.agg #[.int .i64 t, .slice Ao LL co], .int .i64 0]) ?_ rfl ?_
      · exact ret_blk2U rfl _ _ g1 30 [.int .i64 t, .slice Ao LL co] _ rfl rfl e1 d30 HU.out HD.out sBK
      · rw [HE.out]
        exact ⟨_, rfl, OwnE.rd (ownsRow_same HO.out (fun k hk => e4 k (by omega))), HB3.out.trans ((HW.out.mono hwG3).trans (e3.mono hw1))⟩
end Go.Proofs.Ytjcombbmngpkpaa
