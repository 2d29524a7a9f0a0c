/-
  The document's books: Tick.
-/
import Derived.Test.YtjcombbmngpkpaaJE
namespace Go.Proofs.Ytjcombbmngpkpaa
open Go.RowKit

/-- What a function answers whose first result lies in a variable of its own, the second and third one in slots. -/
theorem ret_blk3K {P : Program} {fn : Func} {p u v : Tmp} {ty : TypeId} (h : fn.results = #[.cell p ty, .tmp u, .tmp v]) (tmps : Array Value) (w : World) (g : Nat) (t : TypeId) (cs : List Value) (x y : Value)
    (hp : tmps.getD p undef = .pointer (some ⟨g, 0, none⟩)) (hx : tmps.getD u undef = x) (hy : tmps.getD v undef = y) (hb : Blk w g cs t) (d : TypeDesc) (hu : P.underlying ty = some d) (hd : d.isRow = true) (hi : (P.info? ty).map (·.size) = some cs.length) :
    (results fn tmps).run P w = .ok (.tuple #[.agg cs.toArray, x, y]) w := by
  have hl := run_loadVar_row w g t ty cs.toArray (0, 0) d hb hu (by cases d <;> first | rfl | cases hd) (by simpa using hi)
  have hp' : tmps[p]?.getD undef = .pointer (some ⟨g, 0, none⟩) := by simpa using hp
  have hx' : tmps[u]?.getD undef = x := by simpa using hx
  have hy' : tmps[v]?.getD undef = y := by simpa using hy
  simp [results, h, Result.andThen, hp', hx', hy', asAddr, hl]
theorem kindIn : KindOf Try.prog 3 InK 8 := kind_of (z := .int .i64 0) (by kernel_rfl) rfl
def keepS (l : List Se) (z : Int) : List Se := l.filter fun x => !lateS z x
def lateN (l : List Se) (z : Int) : List Int := (l.filter (lateS z)).map sI
theorem tick_err (t : Int) (l : List Se) (z : Int) (f : Nat) (h : tickE t z = f) (h0 : f ≠ 0) : tickT t z = t ∧ tickS t l z = l ∧ goneS t l z = [] ∧ tickE t z = f := by
  unfold tickT tickS goneS
  rw [if_neg (by rw [h]; exact h0), if_neg (by rw [h]; exact h0), if_neg (by rw [h]; exact h0)]
  exact ⟨rfl, rfl, rfl, h⟩
theorem tick_ok (t : Int) (l : List Se) (z : Int) (h1 : t ≤ z) (h2 : z ≤ 1000000000) : tickT t z = z ∧ tickS t l z = keepS l z ∧ goneS t l z = lateN l z ∧ tickE t z = 0 := by
  have h := tick_of t z h1 h2
  unfold tickT tickS goneS
  rw [if_pos h, if_pos h, if_pos h]
  exact ⟨rfl, rfl, rfl, h⟩
theorem keep_snoc (l : List Se) (z : Int) (i : Nat) (hi : i < l.length) : keepS (l.take (i + 1)) z = keepS (l.take i) z ++ (if sU (l.getD i se0) ≤ z then [] else [l.getD i se0]) ∧
    lateN (l.take (i + 1)) z = lateN (l.take i) z ++ (if sU (l.getD i se0) ≤ z then [sI (l.getD i se0)] else []) := by
  rw [take_se l i hi]
  obtain ⟨y, hy⟩ : ∃ y, l.getD i se0 = y := ⟨_, rfl⟩
  rw [hy]
  unfold keepS lateN
  rw [List.filter_append, List.filter_append, List.map_append]
  by_cases h : sU y ≤ z <;> simp [lateS, h]
theorem keep_len (l : List Se) (z : Int) : (keepS l z).length ≤ l.length := List.length_filter_le _ _
theorem late_len (l : List Se) (z : Int) : (lateN l z).length ≤ l.length := by
  unfold lateN
  rw [List.length_map]
  exact List.length_filter_le _ _

set_option maxRecDepth 100000 in
set_option maxHeartbeats 8000000 in
theorem rfTickB_any (t : Int) (l : List Se) (z : Int) (v : Value) (w : World) (hr : RdE SeK w.heap.size w v l) (hl : l.length ≤ 1000000) : Calls Try.prog 24 #[.agg #[.int .i64 t, v], .int .i64 z] w (Ticks (tickT t z) (tickS t l z) (goneS t l z) (tickE t z) w) := by
  obtain ⟨A, cp, rfl, hc, hm⟩ := hr.shape
  unfold maxLen at hm
  obtain ⟨n, hn⟩ : ∃ n, l.length = n := ⟨_, rfl⟩
  have HN := Lib.hid hn
  have HR := Lib.hid hr
  rw [hn] at hc HR hl ⊢
  have HL := Lib.hid hl
  obtain ⟨d30, hu30, hd30⟩ := rowBK
  have HU := Lib.hid hu30
  have HD := Lib.hid hd30
  clear hr hn hl hu30 hd30
  go_enter Try.func24, Try.ntmps24
  go_wp2_with (refine wpList_box_blk rfl 30 _ rfl [.int .i64 t, .slice A n cp] rfl ?_)
  intro w1 b1 b2 b3
  go_wp2_with (refine wpList_alloc_blk rfl 30 rfl [.int .i64 0, .slice none 0 0] zBK ?_)
  intro w2 a1 a2 a3
  obtain ⟨g0, hg0⟩ : ∃ g, w.heap.size = g := ⟨_, rfl⟩
  obtain ⟨g1, hg1⟩ : ∃ g, w.heap.size + 1 = g := ⟨_, rfl⟩
  obtain ⟨G, hG⟩ : ∃ G, w2.heap.size = G := ⟨_, rfl⟩
  have X0 := Lib.hid (b1.below a3 (by omega))
  have X1 := Lib.hid a1
  have HB := Lib.hid (b3.trans (a3.mono (by omega)))
  have HR2 := Lib.hid ((HR.out.below HB.out).more (show w.heap.size ≤ w2.heap.size by omega))
  have hwG : w.heap.size ≤ G := by omega
  have h0G : g0 < G := by omega
  have h1G : g1 < G := by omega
  have hw1 : w.heap.size ≤ g1 := by omega
  have HG := Lib.hid hG
  rw [hg1] at X1 ⊢
  rw [hg0] at X0 ⊢
  have ca := X0.out.cell 0
  have cb := X0.out.at_ 1 _ rfl
  clear b1 b2 b3 a1 a2 a3 hg1 hG
  by_cases ha1 : z < t
  · have HE := Lib.hid (tick_err t l z 15 (by unfold tickE; rw [if_pos ha1]) (by decide))
    go_wp2_with (refine wpList_store_to rfl 30 _ _ rfl g1 [.int .i64 t, .slice A n cp] [.int .i64 0, .slice none 0 0] 30 rfl rfl X1.out sBK rfl (book_one _ _ _ _) ?_)
    intro w20 e1 e2 e3 e4
    go_wp2
    refine bodyPost_ret (v := .tuple #[.agg #[.int .i64 t, .slice A n cp], .slice none 0 0, .int .i64 15]) ?_ rfl ?_
    · exact ret_blk3K rfl _ _ g1 30 [.int .i64 t, .slice A n cp] _ _ rfl rfl rfl e1 d30 HU.out HD.out sBK
    · have HB20 : Below w.heap.size w w20 := HB.out.trans (e3.mono hw1)
      rw [HE.out.1, HE.out.2.1, HE.out.2.2.1, HE.out.2.2.2]
      exact ⟨_, _, rfl, (HR.out.below HB20).more HB20.size, RdE.nil _ _, HB20⟩
  by_cases ha2 : 1000000000 < z
  · have HE := Lib.hid (tick_err t l z 5 (by unfold tickE; rw [if_neg ha1, if_pos ha2]) (by decide))
    go_wp2_with (refine wpList_store_to rfl 30 _ _ rfl g1 [.int .i64 t, .slice A n cp] [.int .i64 0, .slice none 0 0] 30 rfl rfl X1.out sBK rfl (book_one _ _ _ _) ?_)
    intro w20 e1 e2 e3 e4
    go_wp2
    refine bodyPost_ret (v := .tuple #[.agg #[.int .i64 t, .slice A n cp], .slice none 0 0, .int .i64 5]) ?_ rfl ?_
    · exact ret_blk3K rfl _ _ g1 30 [.int .i64 t, .slice A n cp] _ _ rfl rfl rfl e1 d30 HU.out HD.out sBK
    · have HB20 : Below w.heap.size w w20 := HB.out.trans (e3.mono hw1)
      rw [HE.out.1, HE.out.2.1, HE.out.2.2.1, HE.out.2.2.2]
      exact ⟨_, _, rfl, (HR.out.below HB20).more HB20.size, RdE.nil _ _, HB20⟩
  have HE := Lib.hid (tick_ok t l z (by omega) (by omega))
  have HO0 : Hid (OwnE SeK 58 ((w2.alloc (.cells #[] 58)).alloc (.cells #[] 3)) G (.slice (some ⟨G, 0, none⟩) 0 0) []) := by
    have := OwnE.empty (E := SeK) 58 w2 G (by rw [HG.out]; exact Nat.le_refl _)
    rw [HG.out] at this
    exact this.alloc _
  have HS0 : Hid (OwnE InK 3 ((w2.alloc (.cells #[] 58)).alloc (.cells #[] 3)) G (.slice (some ⟨G + 1, 0, none⟩) 0 0) []) := by
    have e : (w2.alloc (.cells #[] 58)).heap.size = G + 1 := by
      have := HG.out
      simp
      omega
    have := OwnE.empty (E := InK) 3 (w2.alloc (.cells #[] 58)) G (by rw [e]; omega)
    rw [e] at this
    exact this
  have HW0 : Hid (Below G w2 ((w2.alloc (.cells #[] 58)).alloc (.cells #[] 3))) := ((Below.refl _ _).alloc (by rw [HG.out]; exact Nat.le_refl _) _).alloc (by have := HG.out; simp; omega) _
  have hG := HG.out
  go_wp2
  clear hG
  go_loopw [7, 8, 9] (fun o u x wr => ∃ i : Nat, i ≤ n ∧ x = .int .i64 (i : Int) ∧ Hid (OwnE SeK 58 wr G o (keepS (l.take i) z)) ∧ Hid (OwnE InK 3 wr G u (lateN (l.take i) z)) ∧ Hid (Below G w2 wr)) (fun _ _ x _ => n - (intOf x).toNat)
  case atStart => exact ⟨0, by omega, rfl, HO0, HS0, HW0⟩
  case round =>
    obtain ⟨i, hi, rfl, HO, HS, HW⟩ := hrel
    have hwr := HW.out.size
    rw [HG.out] at hwr
    clear ca cb
    have cb := (X0.out.below HW.out h0G).at_ 1 _ rfl
    have ca := (X0.out.below HW.out h0G).cell 0
    by_cases hi2 : i < n
    · have zi : (i : Int) < (n : Int) := by omega
      obtain ⟨a, hA, c0, c1, c2⟩ := (HR.out.below (HB.out.trans (HW.out.mono hwG))).at3 i (by rw [HN.out]; exact hi2)
      subst hA
      have HT := Lib.hid (keep_snoc l z i (by rw [HN.out]; exact hi2))
      have HKL : Hid ((keepS (l.take i) z).length ≤ n) := by
        show _ ≤ _
        have h1 := keep_len (l.take i) z
        have h2 := List.length_take_le i l
        omega
      have HGL : Hid ((lateN (l.take i) z).length ≤ n) := by
        show _ ≤ _
        have h1 := late_len (l.take i) z
        have h2 := List.length_take_le i l
        omega
      obtain ⟨x, hx⟩ : ∃ x, l.getD i se0 = x := ⟨_, rfl⟩
      rw [hx] at c0 c1 c2 HT
      clear hx
      by_cases he : sU x ≤ z
      · have HT2 : Hid (keepS (l.take (i + 1)) z = keepS (l.take i) z ∧ lateN (l.take (i + 1)) z = lateN (l.take i) z ++ [sI x]) := by
          show _ ∧ _
          rw [HT.out.1, HT.out.2, if_pos he, if_pos he]; simp
        have HO4 : Hid (OwnE SeK 58 (wr.alloc (.cells #[.int .i64 (sI x)] 3)) G u7 (keepS (l.take i) z)) := HO.out.alloc _
        have HS4 : Hid (OwnE InK 3 (wr.alloc (.cells #[.int .i64 (sI x)] 3)) G u8 (lateN (l.take i) z)) := HS.out.alloc _
        have HW4 : Hid (Below G w2 (wr.alloc (.cells #[.int .i64 (sI x)] 3))) := HW.out.alloc hwr _
        go_wp2_with (at_builtin; refine wpList_appE (E := InK) rfl _ _ 44 rfl 3 8 Try.underlying44 kindIn G _ _ _ (lateN (l.take i) z) [sI x] rfl HS4.out rfl (RdE.one (E := InK) wr 3 (sI x)) (by simp) ?d1 ?d2 ?d3 ?_)
        case d1 => have := HGL.out; have := HL.out; first | (simp only [List.length_cons, List.length_nil]; omega) | omega
        case d2 => have := HGL.out; have := HL.out; first | (simp only [List.length_cons, List.length_nil]; omega) | omega
        case d3 => first | omega | (simp; omega)
        intro v5 w5 h5 hb5 hg5 _
        have HS5 : Hid (OwnE InK 3 w5 G v5 (lateN (l.take (i + 1)) z)) := by
          show OwnE _ _ _ _ _ _
          rw [HT2.out.2]
          exact h5
        have HO5 : Hid (OwnE SeK 58 w5 G u7 (keepS (l.take (i + 1)) z)) := by
          show OwnE _ _ _ _ _ _
          rw [HT2.out.1]
          exact ownsRow_other (by decide) HO4.out HS4.out hg5
        have HW5 : Hid (Below G w2 w5) := HW4.out.trans hb5
        clear h5 hb5 hg5
        go_wp2
        go_roundw
        case rel => exact ⟨i + 1, by omega, by go_num, HO5, HS5, HW5⟩
        case measure => simp [intOf]; omega
      · have HT2 : Hid (keepS (l.take (i + 1)) z = keepS (l.take i) z ++ [x] ∧ lateN (l.take (i + 1)) z = lateN (l.take i) z) := by
          show _ ∧ _
          rw [HT.out.1, HT.out.2, if_neg he, if_neg he]; simp
        have HO4 : Hid (OwnE SeK 58 (wr.alloc (.cells (sec x).toArray 58)) G u7 (keepS (l.take i) z)) := HO.out.alloc _
        have HS4 : Hid (OwnE InK 3 (wr.alloc (.cells (sec x).toArray 58)) G u8 (lateN (l.take i) z)) := HS.out.alloc _
        have HW4 : Hid (Below G w2 (wr.alloc (.cells (sec x).toArray 58))) := HW.out.alloc hwr _
        go_wp2_with (at_builtin; refine wpList_appE (E := SeK) rfl _ _ 28 rfl 58 24 Try.underlying28 kindSe G _ _ _ (keepS (l.take i) z) [x] rfl HO4.out rfl (RdE.one wr 58 x) (by simp) ?d1 ?d2 ?d3 ?_)
        case d1 => have := HKL.out; have := HL.out; first | (simp only [List.length_cons, List.length_nil]; omega) | omega
        case d2 => have := HKL.out; have := HL.out; first | (simp only [List.length_cons, List.length_nil]; omega) | omega
        case d3 => first | omega | (simp; omega)
        intro v5 w5 h5 hb5 hg5 _
        have HO5 : Hid (OwnE SeK 58 w5 G v5 (keepS (l.take (i + 1)) z)) := by
          show OwnE _ _ _ _ _ _
          rw [HT2.out.1]
          exact h5
        have HS5 : Hid (OwnE InK 3 w5 G u8 (lateN (l.take (i + 1)) z)) := by
          show OwnE _ _ _ _ _ _
          rw [HT2.out.2]
          exact ownsRow_other (by decide) HS4.out HO4.out hg5
        have HW5 : Hid (Below G w2 w5) := HW4.out.trans hb5
        clear h5 hb5 hg5
        go_wp2
        go_roundw
        case rel => exact ⟨i + 1, by omega, by go_num, HO5, HS5, HW5⟩
        case measure => simp [intOf]; omega
    · have hE : i = n := by omega
      subst hE
      have HFL : Hid (l.take i = l) := List.take_of_length_le (by rw [HN.out]; exact Nat.le_refl _)
      rw [HFL.out] at HO HS
      obtain ⟨Ao, co, ho, -, -⟩ := HO.out.rd.shape
      obtain ⟨LL, hLL⟩ : ∃ LL, (keepS l z).length = LL := ⟨_, rfl⟩
      rw [hLL] at ho
      subst ho
      clear hLL
      have Yr := Lib.hid (X1.out.below HW.out h1G)
      go_wp2_with (refine wpList_store_to rfl 30 _ _ rfl g1 [.int .i64 z, .slice Ao LL co] [.int .i64 0, .slice none 0 0] 30 rfl rfl Yr.out sBK rfl (book_one _ _ _ _) ?_)
      intro w20 e1 e2 e3 e4
      go_wp2
      refine bodyPost_ret (v := .tuple #[.agg #[.int .i64 z, .slice Ao LL co], u8, .int .i64 0]) ?_ rfl ?_
      · exact ret_blk3K rfl _ _ g1 30 [.int .i64 z, .slice Ao LL co] _ _ rfl rfl rfl e1 d30 HU.out HD.out sBK
      · rw [HE.out.1, HE.out.2.1, HE.out.2.2.1, HE.out.2.2.2]
        exact ⟨_, _, rfl, OwnE.rd (ownsRow_same HO.out (fun k hk => e4 k (by omega))), OwnE.rd (ownsRow_same HS.out (fun k hk => e4 k (by omega))), HB.out.trans ((HW.out.mono hwG).trans (e3.mono hw1))⟩
end Go.Proofs.Ytjcombbmngpkpaa
