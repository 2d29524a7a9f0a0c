/-
  The program's shelves: a row is cloned; a change is made, whatever its faults and its edit are. Each theorem states its own conditions.
-/
import Derived.Test.YtlpakfaoaodaiaaDoorG4
import Derived.Test.YtlpakfaoaodaiaaDoorG6
namespace Go.Proofs.YtlpakfaoaodaiaaDoor
open Go.RowKit

/-- The call answers a row of its own. -/
def OwnsN (l : List Nd) (w : World) (e : Ending) (w' : World) : Prop := ∃ u, e = .returned u ∧ OwnNd 53 w' w.heap.size u l ∧ Below w.heap.size w w'

set_option maxRecDepth 100000 in
set_option maxHeartbeats 2000000 in
/-- slices.Clone over nodes. -/
theorem clone_any (l : List Nd) (v : Value) (w : World) (hr : RdNd w.heap.size w v l) (hl : l.length ≤ 100000) : Calls Tryd.prog 66 #[v] w (OwnsN l w) := by
  obtain ⟨i1, hJ, hy0, hy1, hy2⟩ := info_partsPN
  obtain ⟨A, cp, rfl, hc, hm⟩ := hr.shape
  unfold maxLen at hm
  cases A with
  | none =>
    obtain ⟨A', c', hv, _, _, hn, _⟩ := hr
    injection hv with q1 q2 q3
    subst q1 q3
    have h0 := hn rfl
    have h1 : l = [] := List.eq_nil_of_length_eq_zero (by omega)
    subst h1
    subst h0
    have he : ∀ w, (binOp .eql 22 (.slice none 0 0) (.slice none 0 0)).run Tryd.prog w = .ok (.bool true) w := fun _ => rfl
    go_enter Tryd.func66, Tryd.ntmps66
    go_wp2
    go_ret
    exact ⟨_, rfl, OwnNd.nil _ _ _, Below.refl _ _⟩
  | some a =>
    have HR := Lib.hid hr
    have HL := Lib.hid hl
    obtain ⟨n, hn⟩ : ∃ n, l.length = n := ⟨_, rfl⟩
    rw [hn] at HR hc ⊢
    clear hr hl hn
    have he : ∀ w, (binOp .eql 22 (.slice (some a) n cp) (.slice none 0 0)).run Tryd.prog w = .ok (.bool false) w := fun _ => rfl
    have HO : Hid (OwnNd 53 (w.alloc (.cells #[] 53)) w.heap.size (.slice (some ⟨w.heap.size, 0, none⟩) 0 0) []) := OwnNd.empty 53 w w.heap.size (Nat.le_refl _)
    have HA : Hid (Below w.heap.size w (w.alloc (.cells #[] 53))) := (Below.refl _ _).alloc (Nat.le_refl _) _
    have HR2 := Lib.hid (HR.out.below HA.out)
    go_enter Tryd.func66, Tryd.ntmps66
    go_wp2_with (at_builtin; refine wpList_appNd rfl _ _ 22 rfl 53 i1 Tryd.underlying22 hJ hy0 hy1 hy2 w.heap.size _ _ _ [] l rfl HO.out rfl HR2.out ?d1 ?d2 ?_)
    case d1 => have := HL.out; simp; omega
    case d2 => simp
    intro v' w' h1 h2 h3
    have H1 := Lib.hid h1
    have H2 := Lib.hid (HA.out.trans h2)
    clear h1 h2 h3
    go_wp2
    go_ret
    exact ⟨_, rfl, H1.out, H2.out⟩

/-- The call answers a shelf whose row is its own, and a fault. -/
def ShelvesO (l : List Nd) (f : Nat) (w : World) (e : Ending) (w' : World) : Prop := ∃ v, e = .returned (.tuple #[.agg #[v], .int .i64 (f : Int)]) ∧ OwnNd 53 w' w.heap.size v l ∧ Below w.heap.size w w'
/-- What an edit of a row of one's own comes to. -/
def EditsTo (base : Nat) (l' : List Nd) (W : World) (e : Ending) (w' : World) : Prop := ∃ u, e = .returned u ∧ OwnNd 53 w' base u l' ∧ Below base W w'

set_option maxRecDepth 100000 in
set_option maxHeartbeats 4000000 in
theorem shChange_any (l l' l9 : List Nd) (v : Value) (f1 f2 : Nat) (lb1 lb2 : Array Value) (F : Nat) (w : World) (hr : RdNd w.heap.size w v l) (hl : l.length ≤ 100000)
    (e1 : ∀ args w, (callFunc f1 args).run Tryd.prog w = .ok (.enter f1 args) w) (e2 : ∀ args w, (callFunc f2 args).run Tryd.prog w = .ok (.enter f2 args) w)
    (h1 : ∀ W, Below w.heap.size w W → Calls Tryd.prog f1 lb1 W (One (.int .i64 (F : Int)) W))
    (h2 : F = 0 → ∀ base u W, w.heap.size ≤ base → base ≤ W.heap.size → Below w.heap.size w W → OwnNd 53 W base u l → Calls Tryd.prog f2 (#[u] ++ lb2) W (EditsTo base l' W)) (q1 : F = 0 → l9 = l') (q2 : F ≠ 0 → l9 = l) :
    Calls Tryd.prog 42 #[.agg #[v], .func (.func f1) #[] lb1, .func (.func f2) #[] lb2] w (ShelvesO l9 F w) := by
  obtain ⟨d30, hu30, hd30⟩ := rowPS
  have HU := Lib.hid hu30
  have HD := Lib.hid hd30
  have HR := Lib.hid hr
  have HL := Lib.hid hl
  have H1 := Lib.hid h1
  have H2 := Lib.hid h2
  have Q1 := Lib.hid q1
  have Q2 := Lib.hid q2
  clear hr hl h1 h2 hu30 hd30 q1 q2
  go_enter Tryd.func42, Tryd.ntmps42
  go_wp2_with (refine wpList_box_blk rfl 24 _ rfl [v] rfl ?_)
  intro w1 b1 b2 b3
  go_wp2_with (refine wpList_alloc_blk rfl 24 rfl [.slice none 0 0] zPS ?_)
  intro w2 a1 a2 a3
  obtain ⟨g0, hg0⟩ : ∃ g, w.heap.size = g := ⟨_, rfl⟩
  obtain ⟨g1, hg1⟩ : ∃ g, w.heap.size + 1 = g := ⟨_, rfl⟩
  have X0 := Lib.hid (b1.below a3 (by omega))
  have X1 := Lib.hid a1
  have HB := Lib.hid (b3.trans (a3.mono (by omega)))
  have hg02 : g0 < w2.heap.size := by omega
  have hg12 : g1 < w2.heap.size := by omega
  have hw1 : w.heap.size ≤ g1 := by omega
  rw [hg1] at X1 ⊢
  rw [hg0] at X0 ⊢
  have ca := X0.out.cell 0
  clear b1 b2 b3 a1 a2 a3 hg0 hg1
  go_wp2_with fail
  refine (clone_any l v w2 ((HR.out.below HB.out).more HB.out.size) HL.out).mono ?_
  rintro e w3 ⟨u, rfl, ho, hb⟩
  have HO := Lib.hid ho
  have HC := Lib.hid hb
  clear ho hb ca
  obtain ⟨A, c, rfl, -, -⟩ := HO.out.rd.shape
  go_wp2_with fail
  refine (H1.out w3 (HB.out.trans (HC.out.mono HB.out.size))).mono ?_
  rintro e w4 ⟨rfl, hb⟩
  have HO4 := Lib.hid (HO.out.below hb (Nat.le_refl _))
  have HC4 := Lib.hid (HC.out.trans (hb.mono HC.out.size))
  clear hb HO HC
  by_cases hF : F = 0
  · have HE := Lib.hid (H2.out hF)
    have HQ := Lib.hid (Q1.out hF)
    subst hF
    clear H1 H2 Q1 Q2
    go_wp2_with fail
    refine (HE.out w2.heap.size _ w4 HB.out.size HC4.out.size (HB.out.trans (HC4.out.mono HB.out.size)) HO4.out).mono ?_
    rintro e w5 ⟨u, rfl, ho, hb⟩
    have HO5 := Lib.hid ho
    have HC5 := Lib.hid (HC4.out.trans hb)
    clear ho hb HO4 HC4
    obtain ⟨A5, c5, hq, -, -⟩ := HO5.out.rd.shape
    obtain ⟨n5, hn5⟩ : ∃ n, l'.length = n := ⟨_, rfl⟩
    rw [hn5] at hq
    subst hq
    clear hn5
    have X1c := Lib.hid (X1.out.below HC5.out hg12)
    go_wp2_with (refine wpList_store_to rfl 24 _ _ rfl g1 [.slice A5 n5 c5] [.slice none 0 0] 24 rfl rfl X1c.out sPS rfl (slice_one _ _ _) ?_)
    intro w9 e1 e2 e3 e4
    go_wp2
    refine bodyPost_ret (v := .tuple #[.agg [Value.slice A5 n5 c5].toArray, .int .i64 0]) ?_ rfl ?_
    · exact ret_blk2U rfl _ _ g1 24 [.slice A5 n5 c5] _ rfl rfl e1 d30 HU.out HD.out sPS
    · rw [HQ.out]
      exact ⟨_, rfl, OwnNd.base (ownsRow_same HO5.out (fun k hk => e4 k (by omega))) HB.out.size, HB.out.trans ((HC5.out.mono HB.out.size).trans (e3.mono hw1))⟩
  · have HQ := Lib.hid (Q2.out hF)
    clear H1 H2 Q1 Q2
    have z0 : ((F : Int) != 0) = true := by rw [bne_iff_ne]; omega
    have X1c := Lib.hid (X1.out.below HC4.out hg12)
    obtain ⟨n, hn⟩ : ∃ n, l.length = n := ⟨_, rfl⟩
    rw [hn] at HO4 ⊢
    clear hF hn
    go_wp2_with (refine wpList_store_to rfl 24 _ _ rfl g1 [.slice A n c] [.slice none 0 0] 24 rfl rfl X1c.out sPS rfl (slice_one _ _ _) ?_)
    intro w9 e1 e2 e3 e4
    go_wp2
    refine bodyPost_ret (v := .tuple #[.agg [Value.slice A n c].toArray, .int .i64 (F : Int)]) ?_ rfl ?_
    · exact ret_blk2U rfl _ _ g1 24 [.slice A n c] _ rfl rfl e1 d30 HU.out HD.out sPS
    · rw [HQ.out]
      exact ⟨_, rfl, OwnNd.base (ownsRow_same HO4.out (fun k hk => e4 k (by omega))) HB.out.size, HB.out.trans ((HC4.out.mono HB.out.size).trans (e3.mono hw1))⟩
end Go.Proofs.YtlpakfaoaodaiaaDoor
