/-
  Package size and the document's sizes: bounds, Right, the pair, the numbers, New, for every input that they are called with.
-/
import Derived.Test.YtgabkeohihdenaaPX
import Derived.WalkLawsBesides
namespace Go.Proofs.Ytgabkeohihdenaa
open Go.RowKit

/-- The cells of a size. -/
def szl (f t : Int) : List Value := [.int .i64 f, .int .i64 t]
theorem szl_one (f t : Int) : (szl f t).toArray.all (·.oneCell') = true := by
  rw [Array.all_eq_true']
  intro v hv
  simp only [szl, List.mem_toArray, List.mem_cons, List.not_mem_nil, or_false] at hv
  rcases hv with rfl | rfl <;> rfl
theorem zSize : (Try.prog.info? 23).map (·.zero) = some (some (.agg (szl 0 0).toArray)) := by kernel_rfl
theorem zSizeR : (Try.prog.info? 27).map (·.zero) = some (some (.agg (szl 0 0).toArray)) := by kernel_rfl
theorem sSize (f t : Int) : (Try.prog.info? 23).map (·.size) = some (szl f t).length := by show _ = some 2; kernel_rfl
theorem sSizeR (f t : Int) : (Try.prog.info? 27).map (·.size) = some (szl f t).length := by show _ = some 2; kernel_rfl
theorem rowSize : ∃ d, Try.prog.underlying 23 = some d ∧ d.isRow = true := row_of (by kernel_rfl)
theorem rowSizeR : ∃ d, Try.prog.underlying 27 = some d ∧ d.isRow = true := row_of (by kernel_rfl)
theorem builtS (f t : Int) : Try.prog.built 23 [(0, .int .i64 f), (1, .int .i64 t)] = some (szl f t).toArray := by kernel_rfl
theorem builtSR (f t : Int) : Try.prog.built 27 [(0, .int .i64 f), (1, .int .i64 t)] = some (szl f t).toArray := by kernel_rfl

/-- What bounds answers. -/
def Bnd (a b : Int) (v : Value) (w : World) : Prop :=
  ∃ g h, v = .func (.func 31) #[] #[.pointer (some ⟨g, 0, none⟩), .pointer (some ⟨h, 0, none⟩)] ∧ g < w.heap.size ∧ h < w.heap.size ∧ w.cell? ⟨g, 0, none⟩ = some (.int .i64 a) ∧ w.cell? ⟨h, 0, none⟩ = some (.int .i64 b)
theorem Bnd.keep {a b : Int} {v : Value} {w w' : World} (H : Bnd a b v w) (hb : Below w.heap.size w w') : Bnd a b v w' := by
  obtain ⟨g, h, hv, h1, h2, c1, c2⟩ := H
  have := hb.size
  exact ⟨g, h, hv, by omega, by omega, by rw [hb.cell h1]; exact c1, by rw [hb.cell h2]; exact c2⟩

set_option maxRecDepth 100000 in
set_option maxHeartbeats 400000 in
theorem bounds_any (a b : Int) (w : World) : Calls Try.prog 28 #[.int .i64 a, .int .i64 b] w (fun e w' => ∃ v, e = .returned v ∧ Bnd a b v w' ∧ Below w.heap.size w w') := by
  have hmf : ∀ (fn : Fn) (first cap : Array Value) (w : World), (Instr.makeFunc fn first cap).run Try.prog w = .ok (.func fn first cap) w := fun _ _ _ _ => rfl
  go_enter Try.func28, Try.ntmps28
  go_wp2
  go_ret
  have hb : Below (w.heap.size + 1) (w.alloc (.cells #[.int .i64 a] 3)) ((w.alloc (.cells #[.int .i64 a] 3)).alloc (.cells #[.int .i64 b] 3)) := (Below.refl _ _).alloc (by simp) _
  refine ⟨_, rfl, ⟨w.heap.size, w.heap.size + 1, by simp, by simp; omega, by simp, ?_, ?_⟩, ((Below.refl _ _).alloc (Nat.le_refl _) _).alloc (by simp) _⟩
  · rw [hb.cell (p := ⟨w.heap.size, 0, none⟩) (by show w.heap.size < w.heap.size + 1; omega)]
    exact World.cell?_alloc_at _ _ _ _ rfl
  · exact World.cell?_alloc_at _ _ _ _ (by simp)

set_option maxRecDepth 100000 in
set_option maxHeartbeats 400000 in
theorem boundsC_any (a b n : Int) (g h : Nat) (w : World) (cg : w.cell? ⟨g, 0, none⟩ = some (.int .i64 a)) (ch : w.cell? ⟨h, 0, none⟩ = some (.int .i64 b)) :
    Calls Try.prog 31 #[.int .i64 n, .pointer (some ⟨g, 0, none⟩), .pointer (some ⟨h, 0, none⟩)] w (One (.bool (decide (a ≤ n) && decide (n ≤ b))) w) := by
  by_cases h1 : a ≤ n
  · have d1 : decide (a ≤ n) = true := decide_eq_true h1
    rw [d1]
    go_enter Try.func31, Try.ntmps31
    go_wp2
    go_ret
    exact ⟨by simp, Below.refl _ _⟩
  · have d1 : decide (a ≤ n) = false := decide_eq_false h1
    rw [d1]
    go_enter Try.func31, Try.ntmps31
    go_wp2
    go_ret
    exact ⟨by simp, Below.refl _ _⟩

/-- May these be a size? -/
def szB (f t : Int) : Bool := decide (1 ≤ f) && decide (f ≤ 5) && (decide (0 ≤ t) && decide (t ≤ f))

set_option maxRecDepth 100000 in
set_option maxHeartbeats 1000000 in
theorem rightS_any (f t : Int) (w : World) : Calls Try.prog 9 #[.agg (szl f t).toArray] w (One (.bool (szB f t)) w) := by
  go_enter Try.func9, Try.ntmps9
  go_wp2_with (refine wpList_box_blk rfl 23 _ rfl (szl f t) rfl ?_)
  intro w1 a1 a2 a3
  have A1 := Lib.hid a1
  have A2 := Lib.hid a2
  have A3 := Lib.hid a3
  clear a1 a2 a3
  go_wp2_with fail
  refine wp_region_rely2 6 0 (fun x => ⟨#[.agg (szl f t).toArray, .pointer (some ⟨w.heap.size, 0, none⟩), .bool false, x 4, x 5, x 0, x 1, x 2, x 3, undef, undef, undef, undef, undef, undef, undef, undef, undef, undef], []⟩) (fun jj => ([(Bnd 1 5), eqV (.pointer (some ⟨w.heap.size, 0, none⟩)), eqV (.int .i64 f), (Bnd 0 f), (Bnd 1 5), (Bnd 0 f)] : List (Value → World → Prop)).getD jj (fun _ _ => True)) rfl ⟨fun kk => [_, _, _, _, _, _].getD kk undef, rfl⟩ (by kernel_rfl) (by kernel_rfl) ?steps ?fin
  case steps =>
    refine StepsAt.cons 0 (fun _ _ _ h hb => h.keep hb) (fun _ _ => rfl) rfl rfl (fun x w2 hb hd K hK => ?_) ?_
    · go_simp
      refine calls_args (args2 := #[.int .i64 1, .int .i64 5]) (by rfl) ?_
      refine (bounds_any 1 5 _).mono ?_
      rintro e w99 ⟨v, rfl, hB, hb99⟩
      exact hK.out _ _ hb99 hB
    refine StepsAt.val 1 (.pointer (some ⟨w.heap.size, 0, none⟩)) rfl (fun _ _ => rfl) rfl rfl (fun x w2 hb hd => ?_) ?_
    · first | (go_simp; done) | (go_simp; rfl)
    refine StepsAt.val 2 (.int .i64 f) rfl (fun _ _ => rfl) rfl rfl (fun x w2 hb hd => ?_) ?_
    · have h1 : x 1 = .pointer (some ⟨w.heap.size, 0, none⟩) := hd 1 (by kernel_rfl)
      have cc := ((A1.out.below hb A1.out.lt).cell 0).trans (show _ = some (.int .i64 f) from rfl)
      rw [h1]
      first | (go_simp; done) | (go_simp; rfl)
    refine StepsAt.cons 3 (fun _ _ _ h hb => h.keep hb) (fun _ _ => rfl) rfl rfl (fun x w2 hb hd K hK => ?_) ?_
    · have h2 : Hid (x 2 = .int .i64 f) := hd 2 (by kernel_rfl)
      go_simp
      refine calls_args (args2 := #[.int .i64 0, .int .i64 f]) (by rw [h2.out]) ?_
      refine (bounds_any 0 f _).mono ?_
      rintro e w99 ⟨v, rfl, hB, hb99⟩
      exact hK.out _ _ hb99 hB
    refine StepsAt.cons 4 (fun _ _ _ h hb => h.keep hb) (fun _ _ => rfl) rfl rfl (fun x w2 hb hd K hK => ?_) ?_
    · have h0 : Hid (Bnd 1 5 (x 0) w2) := hd 0 (by kernel_rfl)
      have h := h0.out
      go_simp
      exact hK.out _ _ (Below.refl _ _) h
    refine StepsAt.cons 5 (fun _ _ _ h hb => h.keep hb) (fun _ _ => rfl) rfl rfl (fun x w2 hb hd K hK => ?_) ?_
    · have h3 : Hid (Bnd 0 f (x 3) w2) := hd 3 (by kernel_rfl)
      have h := h3.out
      go_simp
      exact hK.out _ _ (Below.refl _ _) h
    exact StepsAt.done
  case fin =>
    intro x w2 hb hd
    have hx1 : x 1 = .pointer (some ⟨w.heap.size, 0, none⟩) := hd 1 (by omega)
    have hx2 : x 2 = .int .i64 f := hd 2 (by omega)
    refine AnyTill.any (S := fun _ => True) (m := 6) _ _ _ _ ?_
    refine AnyTill.done (by kernel_rfl) ?_
    refine NoPanic.normal ?_
    try dsimp only
    rw [hx1, hx2]
    obtain ⟨p0, p1, e4, hp0, hp1, cp0, cp1⟩ : Bnd 1 5 (x 4) w2 := hd 4 (by omega)
    obtain ⟨q0, q1, e5, hq0, hq1, cq0, cq1⟩ : Bnd 0 f (x 5) w2 := hd 5 (by omega)
    rw [e4, e5]
    have B1 : Hid (Blk w2 w.heap.size (szl f t) 23) := A1.out.below hb A1.out.lt
    have B3 : Hid (Below w.heap.size w w2) := A3.out.trans (hb.mono A3.out.size)
    generalize x 0 = y0
    generalize x 3 = y3
    clear hd e4 e5 hx1 hx2 hb A1 A2 A3 x
    have cf := (B1.out.cell 0).trans (show (szl f t)[0]? = some (.int .i64 f) from rfl)
    have ct := (B1.out.cell 1).trans (show (szl f t)[1]? = some (.int .i64 t) from rfl)
    go_wp2_with fail
    refine (boundsC_any 1 5 f p0 p1 _ cp0 cp1).mono ?_
    rintro e w3 ⟨rfl, hb⟩
    have C1 : Hid (Blk w3 w.heap.size (szl f t) 23) := B1.out.below hb B1.out.lt
    have C3 : Hid (Below w.heap.size w w3) := B3.out.trans (hb.mono B3.out.size)
    have cq0' := (hb.cell (p := ⟨q0, 0, none⟩) hq0).trans cq0
    have cq1' := (hb.cell (p := ⟨q1, 0, none⟩) hq1).trans cq1
    clear hb B1 B3 cf ct cp0 cp1 cq0 cq1 hp0 hp1 hq0 hq1
    have cf := (C1.out.cell 0).trans (show (szl f t)[0]? = some (.int .i64 f) from rfl)
    have ct := (C1.out.cell 1).trans (show (szl f t)[1]? = some (.int .i64 t) from rfl)
    cases hB : (decide (1 ≤ f) && decide (f ≤ 5)) with
    | false =>
      go_wp2
      go_ret
      exact ⟨by unfold szB; rw [hB]; rfl, C3.out⟩
    | true =>
      go_wp2_with fail
      refine (boundsC_any 0 f t q0 q1 _ cq0' cq1').mono ?_
      rintro e w4 ⟨rfl, hb⟩
      have D3 : Hid (Below w.heap.size w w4) := C3.out.trans (hb.mono C3.out.size)
      clear hb C1 C3 cf ct cq0' cq1'
      cases hB2 : (decide (0 ≤ t) && decide (t ≤ f)) with
      | false =>
        go_wp2
        go_ret
        exact ⟨by unfold szB; rw [hB, hB2]; rfl, D3.out⟩
      | true =>
        go_wp2
        go_ret
        exact ⟨by unfold szB; rw [hB, hB2]; rfl, D3.out⟩

set_option maxRecDepth 100000 in
set_option maxHeartbeats 1000000 in
theorem rightSR_any (f t : Int) (w : World) : Calls Try.prog 10 #[.agg (szl f t).toArray] w (One (.bool (szB f t)) w) := by
  go_enter Try.func10, Try.ntmps10
  go_wp2_with (refine wpList_box_blk rfl 27 _ rfl (szl f t) rfl ?_)
  intro w1 a1 a2 a3
  have cf := (a1.cell 0).trans (show (szl f t)[0]? = some (.int .i64 f) from rfl)
  have ct := (a1.cell 1).trans (show (szl f t)[1]? = some (.int .i64 t) from rfl)
  have A1 := Lib.hid a1
  have A3 := Lib.hid a3
  clear a1 a2 a3
  by_cases h1 : 1 ≤ f
  rotate_left
  · have d1 : decide (1 ≤ f) = false := decide_eq_false h1
    clear h1
    go_wp2
    go_ret
    exact ⟨by simp [szB, d1], A3.out⟩
  have d1 : decide (1 ≤ f) = true := decide_eq_true h1
  by_cases h2 : f ≤ 5
  rotate_left
  · have d2 : decide (f ≤ 5) = false := decide_eq_false h2
    clear h1 h2
    go_wp2
    go_ret
    exact ⟨by simp [szB, d1, d2], A3.out⟩
  have d2 : decide (f ≤ 5) = true := decide_eq_true h2
  by_cases h3 : 0 ≤ t
  rotate_left
  · have d3 : decide (0 ≤ t) = false := decide_eq_false h3
    clear h1 h2 h3
    go_wp2
    go_ret
    exact ⟨by simp [szB, d1, d2, d3], A3.out⟩
  have d3 : decide (0 ≤ t) = true := decide_eq_true h3
  by_cases h4 : t ≤ f
  · go_wp2
    go_ret
    exact ⟨by simp [szB, d1, d2, d3, h4], A3.out⟩
  · go_wp2
    go_ret
    exact ⟨by simp [szB, d1, d2, d3, h4], A3.out⟩

/-- The numbers that are a size. -/
def SFit (f t : Nat) : Prop := 1 ≤ f ∧ f ≤ 5 ∧ t ≤ f
theorem SFit.yes {f t : Nat} (h : SFit f t) : szB f t = true := by
  obtain ⟨h1, h2, h3⟩ := h
  simp [szB]
  omega
theorem size_or (f t : Int) : (∃ F T : Nat, SFit F T ∧ f = F ∧ t = T) ∨ szB f t = false := by
  by_cases h : 1 ≤ f ∧ f ≤ 5 ∧ 0 ≤ t ∧ t ≤ f
  · exact .inl ⟨f.toNat, t.toNat, ⟨by omega, by omega, by omega⟩, by omega, by omega⟩
  · refine .inr ?_
    simp only [szB, Bool.and_eq_false_iff, decide_eq_false_iff_not]
    omega
def nN (f t : Nat) : Nat := 3 * f + 2 * t + 1
def nFast (f t : Nat) : Nat := 3 * f + t + 1
def nProof (f t : Nat) : Nat := 2 * f + t + 1
def nMost (f t : Nat) : Nat := 2 * f + 2 * t + 1
def nVouch (f t : Nat) : Nat := f + t + 1
def nWeak (f _t : Nat) : Nat := f + 1
theorem nN_le {f t : Nat} (h : SFit f t) : 4 ≤ nN f t ∧ nN f t ≤ 26 := by obtain ⟨h1, h2, h3⟩ := h; unfold nN; omega

theorem fl_mul : ∀ a < 4, ∀ f < 6, floatBits .mul .f64 (floatOfInt .f64 ((a : Nat) : Int)) (floatOfInt .f64 ((f : Nat) : Int)) = some (floatOfInt .f64 ((a * f : Nat) : Int)) := by decide +kernel
theorem fl_add : ∀ a < 16, ∀ b < 11, floatBits .add .f64 (floatOfInt .f64 ((a : Nat) : Int)) (floatOfInt .f64 ((b : Nat) : Int)) = some (floatOfInt .f64 ((a + b : Nat) : Int)) := by decide +kernel
theorem fl_int : ∀ a < 26, floatToIntVal .f64 (floatOfInt .f64 ((a : Nat) : Int)) .i64 = some ((a : Nat) : Int) := by decide +kernel

set_option maxRecDepth 100000 in
set_option maxHeartbeats 1000000 in
theorem pair_any (f t : Int) (w : World) : Calls Try.prog 32 #[.agg (szl f t).toArray] w (One (.complex .f64 (floatOfInt .f64 f) (floatOfInt .f64 t)) w) := by
  go_enter Try.func32, Try.ntmps32
  go_wp2_with (refine wpList_box_blk rfl 23 _ rfl (szl f t) rfl ?_)
  intro w1 a1 a2 a3
  have cf := (a1.cell 0).trans (show (szl f t)[0]? = some (.int .i64 f) from rfl)
  have ct := (a1.cell 1).trans (show (szl f t)[1]? = some (.int .i64 t) from rfl)
  have A1 := Lib.hid a1
  have A3 := Lib.hid a3
  clear a1 a2 a3
  have hcv : ∀ (n : Int) (w : World), (convert 3 49 (.int .i64 n)).run Try.prog w = .ok (.float .f64 (floatOfInt .f64 n)) w := fun n w => run_convert_int_float w 3 49 .i64 .f64 n (by kernel_rfl) Try.underlying49
  go_wp2
  go_ret
  exact ⟨rfl, A3.out⟩

set_option maxRecDepth 100000 in
set_option maxHeartbeats 1000000 in
theorem count_any (f t a b A B : Nat) (w : World) (hf : SFit f t) (ha : a ≤ 3) (hb : b ≤ 2) (hA : A = floatOfInt .f64 ((a : Nat) : Int)) (hB : B = floatOfInt .f64 ((b : Nat) : Int)) : Calls Try.prog 29 #[.agg (szl (f : Int) (t : Int)).toArray, .complex .f64 A B] w (One (.int .i64 ((a * f + b * t + 1 : Nat) : Int)) w) := by
  obtain ⟨f1, f5, tf⟩ := hf
  have HY := Lib.hid (SFit.yes ⟨f1, f5, tf⟩)
  have b1 : a * f ≤ 15 := by have := Nat.mul_le_mul ha f5; omega
  have b2 : b * t ≤ 10 := by have := Nat.mul_le_mul hb (show t ≤ 5 by omega); omega
  have e1 := fl_mul a (by omega) f (by omega)
  have e2 := fl_mul b (by omega) t (by omega)
  rw [← hA] at e1
  rw [← hB] at e2
  obtain ⟨p1, hp1⟩ : ∃ p, a * f = p := ⟨_, rfl⟩
  obtain ⟨p2, hp2⟩ : ∃ p, b * t = p := ⟨_, rfl⟩
  rw [hp1] at e1 b1 ⊢
  rw [hp2] at e2 b2 ⊢
  have e3 := fl_add p1 (by omega) p2 (by omega)
  have e4 := fl_int (p1 + p2) (by omega)
  obtain ⟨X, hX⟩ : ∃ X, floatOfInt .f64 ((f : Nat) : Int) = X := ⟨_, rfl⟩
  obtain ⟨Y, hY⟩ : ∃ X, floatOfInt .f64 ((t : Nat) : Int) = X := ⟨_, rfl⟩
  obtain ⟨P, hP⟩ : ∃ X, floatOfInt .f64 ((p1 : Nat) : Int) = X := ⟨_, rfl⟩
  obtain ⟨Q, hQ⟩ : ∃ X, floatOfInt .f64 ((p2 : Nat) : Int) = X := ⟨_, rfl⟩
  obtain ⟨Z, hZ⟩ : ∃ X, floatOfInt .f64 ((p1 + p2 : Nat) : Int) = X := ⟨_, rfl⟩
  obtain ⟨p3, hp3⟩ : ∃ p, p1 + p2 = p := ⟨_, rfl⟩
  rw [hX, hP] at e1
  rw [hY, hQ] at e2
  rw [hP, hQ, hZ] at e3
  rw [hZ, hp3] at e4
  have m1 : ∀ (t : TypeId) (w : World), (binOp .mul t (.float .f64 A) (.float .f64 X)).run Try.prog w = .ok (.float .f64 P) w := fun t w => run_float_arith w .mul t .f64 A X P e1
  have m2 : ∀ (t : TypeId) (w : World), (binOp .mul t (.float .f64 B) (.float .f64 Y)).run Try.prog w = .ok (.float .f64 Q) w := fun t w => run_float_arith w .mul t .f64 B Y Q e2
  have m3 : ∀ (t : TypeId) (w : World), (binOp .add t (.float .f64 P) (.float .f64 Q)).run Try.prog w = .ok (.float .f64 Z) w := fun t w => run_float_arith w .add t .f64 P Q Z e3
  have m4 : ∀ (w : World), (convert 49 3 (.float .f64 Z)).run Try.prog w = .ok (.int .i64 (p3 : Int)) w := fun w => run_convert_float_int w 49 3 .f64 .i64 Z p3 (by kernel_rfl) Try.underlying3 e4
  have h25 : p3 ≤ 25 := by omega
  rw [hp3]
  have HX := Lib.hid hX
  have HYY := Lib.hid hY
  obtain ⟨d, hu, hd⟩ := rowSize
  have HU := Lib.hid hu
  have HD := Lib.hid hd
  clear e1 e2 e3 e4 hA hB hX hY hP hQ hZ hp1 hp2 hp3 b1 b2 hu hd f1 f5 tf
  go_enter Try.func29, Try.ntmps29
  go_wp2_with (refine wpList_box_blk rfl 23 _ rfl (szl (f : Int) (t : Int)) rfl ?_)
  intro w1 a1 a2 a3
  have A1 := Lib.hid a1
  have A3 := Lib.hid a3
  clear a1 a2 a3
  go_wp2_with (refine wpList_load_blkU rfl 23 _ rfl w.heap.size rfl (szl (f : Int) (t : Int)) 23 A1.out d HU.out HD.out (sSize _ _) ?_)
  refine (rightS_any f t _).mono ?_
  rintro e w2 ⟨rfl, hb⟩
  rw [HY.out]
  have B1 : Hid (Blk w2 w.heap.size (szl (f : Int) (t : Int)) 23) := A1.out.below hb A1.out.lt
  have B3 : Hid (Below w.heap.size w w2) := A3.out.trans (hb.mono A3.out.size)
  clear hb A1 A3
  go_wp2_with (refine wpList_load_blkU rfl 23 _ rfl w.heap.size rfl (szl (f : Int) (t : Int)) 23 B1.out d HU.out HD.out (sSize _ _) ?_)
  refine (pair_any f t _).mono ?_
  rintro e w3 ⟨rfl, hb⟩
  rw [HX.out, HYY.out]
  have C3 : Hid (Below w.heap.size w w3) := B3.out.trans (hb.mono B3.out.size)
  clear hb B1 B3
  go_wp2
  go_ret
  exact ⟨ret_intD (by omega), C3.out⟩

set_option maxRecDepth 100000 in
set_option maxHeartbeats 1000000 in
theorem nN_any (f t : Nat) (w : World) (hf : SFit f t) : Calls Try.prog 12 #[.agg (szl (f : Int) (t : Int)).toArray] w (One (.int .i64 ((nN f t : Nat) : Int)) w) := by
  have HF := Lib.hid hf
  obtain ⟨d, hu, hd⟩ := rowSize
  have HU := Lib.hid hu
  have HD := Lib.hid hd
  clear hf hu hd
  go_enter Try.func12, Try.ntmps12
  go_wp2_with (refine wpList_box_blk rfl 23 _ rfl (szl (f : Int) (t : Int)) rfl ?_)
  intro w1 a1 a2 a3
  have A1 := Lib.hid a1
  have A3 := Lib.hid a3
  clear a1 a2 a3
  go_wp2_with (refine wpList_load_blkU rfl 23 _ rfl w.heap.size rfl (szl (f : Int) (t : Int)) 23 A1.out d HU.out HD.out (sSize _ _) ?_)
  refine (count_any f t 3 2 4613937818241073152 4611686018427387904 _ HF.out (by decide) (by decide) (by decide +kernel) (by decide +kernel)).mono ?_
  rintro e w2 ⟨rfl, hb⟩
  have B3 : Hid (Below w.heap.size w w2) := A3.out.trans (hb.mono A3.out.size)
  have EQ : Hid ((3 * f + 2 * t + 1 : Nat) = nN f t) := by show _ = _; unfold nN; omega
  rw [EQ.out]
  clear hb A1 A3 EQ
  go_wp2
  go_ret
  exact ⟨rfl, B3.out⟩

set_option maxRecDepth 100000 in
set_option maxHeartbeats 1000000 in
theorem nNR_any (f t : Nat) (w : World) (hf : SFit f t) : Calls Try.prog 13 #[.agg (szl (f : Int) (t : Int)).toArray] w (One (.int .i64 ((nN f t : Nat) : Int)) w) := by
  obtain ⟨f1, f5, tf⟩ := hf
  have t5 : t ≤ 5 := by omega
  unfold nN
  go_enter Try.func13, Try.ntmps13
  go_wp2_with (refine wpList_box_blk rfl 27 _ rfl (szl (f : Int) (t : Int)) rfl ?_)
  intro w1 a1 a2 a3
  have cf := (a1.cell 0).trans (show (szl (f : Int) (t : Int))[0]? = some (.int .i64 (f : Int)) from rfl)
  have ct := (a1.cell 1).trans (show (szl (f : Int) (t : Int))[1]? = some (.int .i64 (t : Int)) from rfl)
  have A1 := Lib.hid a1
  have A3 := Lib.hid a3
  clear a1 a2 a3
  go_wp2
  go_ret
  exact ⟨ret_intD (by omega), A3.out⟩

set_option maxRecDepth 100000 in
set_option maxHeartbeats 1000000 in
theorem nFast_any (f t : Nat) (w : World) (hf : SFit f t) : Calls Try.prog 14 #[.agg (szl (f : Int) (t : Int)).toArray] w (One (.int .i64 ((nFast f t : Nat) : Int)) w) := by
  have HF := Lib.hid hf
  obtain ⟨d, hu, hd⟩ := rowSize
  have HU := Lib.hid hu
  have HD := Lib.hid hd
  clear hf hu hd
  go_enter Try.func14, Try.ntmps14
  go_wp2_with (refine wpList_box_blk rfl 23 _ rfl (szl (f : Int) (t : Int)) rfl ?_)
  intro w1 a1 a2 a3
  have A1 := Lib.hid a1
  have A3 := Lib.hid a3
  clear a1 a2 a3
  go_wp2_with (refine wpList_load_blkU rfl 23 _ rfl w.heap.size rfl (szl (f : Int) (t : Int)) 23 A1.out d HU.out HD.out (sSize _ _) ?_)
  refine (count_any f t 3 1 4613937818241073152 4607182418800017408 _ HF.out (by decide) (by decide) (by decide +kernel) (by decide +kernel)).mono ?_
  rintro e w2 ⟨rfl, hb⟩
  have B3 : Hid (Below w.heap.size w w2) := A3.out.trans (hb.mono A3.out.size)
  have EQ : Hid ((3 * f + 1 * t + 1 : Nat) = nFast f t) := by show _ = _; unfold nFast; omega
  rw [EQ.out]
  clear hb A1 A3 EQ
  go_wp2
  go_ret
  exact ⟨rfl, B3.out⟩

set_option maxRecDepth 100000 in
set_option maxHeartbeats 1000000 in
theorem nFastR_any (f t : Nat) (w : World) (hf : SFit f t) : Calls Try.prog 15 #[.agg (szl (f : Int) (t : Int)).toArray] w (One (.int .i64 ((nFast f t : Nat) : Int)) w) := by
  obtain ⟨f1, f5, tf⟩ := hf
  have t5 : t ≤ 5 := by omega
  unfold nFast
  go_enter Try.func15, Try.ntmps15
  go_wp2_with (refine wpList_box_blk rfl 27 _ rfl (szl (f : Int) (t : Int)) rfl ?_)
  intro w1 a1 a2 a3
  have cf := (a1.cell 0).trans (show (szl (f : Int) (t : Int))[0]? = some (.int .i64 (f : Int)) from rfl)
  have ct := (a1.cell 1).trans (show (szl (f : Int) (t : Int))[1]? = some (.int .i64 (t : Int)) from rfl)
  have A1 := Lib.hid a1
  have A3 := Lib.hid a3
  clear a1 a2 a3
  go_wp2
  go_ret
  exact ⟨ret_intD (by omega), A3.out⟩

set_option maxRecDepth 100000 in
set_option maxHeartbeats 1000000 in
theorem nProof_any (f t : Nat) (w : World) (hf : SFit f t) : Calls Try.prog 16 #[.agg (szl (f : Int) (t : Int)).toArray] w (One (.int .i64 ((nProof f t : Nat) : Int)) w) := by
  have HF := Lib.hid hf
  obtain ⟨d, hu, hd⟩ := rowSize
  have HU := Lib.hid hu
  have HD := Lib.hid hd
  clear hf hu hd
  go_enter Try.func16, Try.ntmps16
  go_wp2_with (refine wpList_box_blk rfl 23 _ rfl (szl (f : Int) (t : Int)) rfl ?_)
  intro w1 a1 a2 a3
  have A1 := Lib.hid a1
  have A3 := Lib.hid a3
  clear a1 a2 a3
  go_wp2_with (refine wpList_load_blkU rfl 23 _ rfl w.heap.size rfl (szl (f : Int) (t : Int)) 23 A1.out d HU.out HD.out (sSize _ _) ?_)
  refine (count_any f t 2 1 4611686018427387904 4607182418800017408 _ HF.out (by decide) (by decide) (by decide +kernel) (by decide +kernel)).mono ?_
  rintro e w2 ⟨rfl, hb⟩
  have B3 : Hid (Below w.heap.size w w2) := A3.out.trans (hb.mono A3.out.size)
  have EQ : Hid ((2 * f + 1 * t + 1 : Nat) = nProof f t) := by show _ = _; unfold nProof; omega
  rw [EQ.out]
  clear hb A1 A3 EQ
  go_wp2
  go_ret
  exact ⟨rfl, B3.out⟩

set_option maxRecDepth 100000 in
set_option maxHeartbeats 1000000 in
theorem nProofR_any (f t : Nat) (w : World) (hf : SFit f t) : Calls Try.prog 17 #[.agg (szl (f : Int) (t : Int)).toArray] w (One (.int .i64 ((nProof f t : Nat) : Int)) w) := by
  obtain ⟨f1, f5, tf⟩ := hf
  have t5 : t ≤ 5 := by omega
  unfold nProof
  go_enter Try.func17, Try.ntmps17
  go_wp2_with (refine wpList_box_blk rfl 27 _ rfl (szl (f : Int) (t : Int)) rfl ?_)
  intro w1 a1 a2 a3
  have cf := (a1.cell 0).trans (show (szl (f : Int) (t : Int))[0]? = some (.int .i64 (f : Int)) from rfl)
  have ct := (a1.cell 1).trans (show (szl (f : Int) (t : Int))[1]? = some (.int .i64 (t : Int)) from rfl)
  have A1 := Lib.hid a1
  have A3 := Lib.hid a3
  clear a1 a2 a3
  go_wp2
  go_ret
  exact ⟨ret_intD (by omega), A3.out⟩

set_option maxRecDepth 100000 in
set_option maxHeartbeats 1000000 in
theorem nMost_any (f t : Nat) (w : World) (hf : SFit f t) : Calls Try.prog 18 #[.agg (szl (f : Int) (t : Int)).toArray] w (One (.int .i64 ((nMost f t : Nat) : Int)) w) := by
  have HF := Lib.hid hf
  obtain ⟨d, hu, hd⟩ := rowSize
  have HU := Lib.hid hu
  have HD := Lib.hid hd
  clear hf hu hd
  go_enter Try.func18, Try.ntmps18
  go_wp2_with (refine wpList_box_blk rfl 23 _ rfl (szl (f : Int) (t : Int)) rfl ?_)
  intro w1 a1 a2 a3
  have A1 := Lib.hid a1
  have A3 := Lib.hid a3
  clear a1 a2 a3
  go_wp2_with (refine wpList_load_blkU rfl 23 _ rfl w.heap.size rfl (szl (f : Int) (t : Int)) 23 A1.out d HU.out HD.out (sSize _ _) ?_)
  refine (count_any f t 2 2 4611686018427387904 4611686018427387904 _ HF.out (by decide) (by decide) (by decide +kernel) (by decide +kernel)).mono ?_
  rintro e w2 ⟨rfl, hb⟩
  have B3 : Hid (Below w.heap.size w w2) := A3.out.trans (hb.mono A3.out.size)
  have EQ : Hid ((2 * f + 2 * t + 1 : Nat) = nMost f t) := by show _ = _; unfold nMost; omega
  rw [EQ.out]
  clear hb A1 A3 EQ
  go_wp2
  go_ret
  exact ⟨rfl, B3.out⟩

set_option maxRecDepth 100000 in
set_option maxHeartbeats 1000000 in
theorem nMostR_any (f t : Nat) (w : World) (hf : SFit f t) : Calls Try.prog 19 #[.agg (szl (f : Int) (t : Int)).toArray] w (One (.int .i64 ((nMost f t : Nat) : Int)) w) := by
  obtain ⟨f1, f5, tf⟩ := hf
  have t5 : t ≤ 5 := by omega
  unfold nMost
  go_enter Try.func19, Try.ntmps19
  go_wp2_with (refine wpList_box_blk rfl 27 _ rfl (szl (f : Int) (t : Int)) rfl ?_)
  intro w1 a1 a2 a3
  have cf := (a1.cell 0).trans (show (szl (f : Int) (t : Int))[0]? = some (.int .i64 (f : Int)) from rfl)
  have ct := (a1.cell 1).trans (show (szl (f : Int) (t : Int))[1]? = some (.int .i64 (t : Int)) from rfl)
  have A1 := Lib.hid a1
  have A3 := Lib.hid a3
  clear a1 a2 a3
  go_wp2
  go_ret
  exact ⟨ret_intD (by omega), A3.out⟩

set_option maxRecDepth 100000 in
set_option maxHeartbeats 1000000 in
theorem nVouch_any (f t : Nat) (w : World) (hf : SFit f t) : Calls Try.prog 20 #[.agg (szl (f : Int) (t : Int)).toArray] w (One (.int .i64 ((nVouch f t : Nat) : Int)) w) := by
  have HF := Lib.hid hf
  obtain ⟨d, hu, hd⟩ := rowSize
  have HU := Lib.hid hu
  have HD := Lib.hid hd
  clear hf hu hd
  go_enter Try.func20, Try.ntmps20
  go_wp2_with (refine wpList_box_blk rfl 23 _ rfl (szl (f : Int) (t : Int)) rfl ?_)
  intro w1 a1 a2 a3
  have A1 := Lib.hid a1
  have A3 := Lib.hid a3
  clear a1 a2 a3
  go_wp2_with (refine wpList_load_blkU rfl 23 _ rfl w.heap.size rfl (szl (f : Int) (t : Int)) 23 A1.out d HU.out HD.out (sSize _ _) ?_)
  refine (count_any f t 1 1 4607182418800017408 4607182418800017408 _ HF.out (by decide) (by decide) (by decide +kernel) (by decide +kernel)).mono ?_
  rintro e w2 ⟨rfl, hb⟩
  have B3 : Hid (Below w.heap.size w w2) := A3.out.trans (hb.mono A3.out.size)
  have EQ : Hid ((1 * f + 1 * t + 1 : Nat) = nVouch f t) := by show _ = _; unfold nVouch; omega
  rw [EQ.out]
  clear hb A1 A3 EQ
  go_wp2
  go_ret
  exact ⟨rfl, B3.out⟩

set_option maxRecDepth 100000 in
set_option maxHeartbeats 1000000 in
theorem nVouchR_any (f t : Nat) (w : World) (hf : SFit f t) : Calls Try.prog 21 #[.agg (szl (f : Int) (t : Int)).toArray] w (One (.int .i64 ((nVouch f t : Nat) : Int)) w) := by
  obtain ⟨f1, f5, tf⟩ := hf
  have t5 : t ≤ 5 := by omega
  unfold nVouch
  go_enter Try.func21, Try.ntmps21
  go_wp2_with (refine wpList_box_blk rfl 27 _ rfl (szl (f : Int) (t : Int)) rfl ?_)
  intro w1 a1 a2 a3
  have cf := (a1.cell 0).trans (show (szl (f : Int) (t : Int))[0]? = some (.int .i64 (f : Int)) from rfl)
  have ct := (a1.cell 1).trans (show (szl (f : Int) (t : Int))[1]? = some (.int .i64 (t : Int)) from rfl)
  have A1 := Lib.hid a1
  have A3 := Lib.hid a3
  clear a1 a2 a3
  go_wp2
  go_ret
  exact ⟨ret_intD (by omega), A3.out⟩

set_option maxRecDepth 100000 in
set_option maxHeartbeats 1000000 in
theorem nWeak_any (f t : Nat) (w : World) (hf : SFit f t) : Calls Try.prog 22 #[.agg (szl (f : Int) (t : Int)).toArray] w (One (.int .i64 ((nWeak f t : Nat) : Int)) w) := by
  have HF := Lib.hid hf
  obtain ⟨d, hu, hd⟩ := rowSize
  have HU := Lib.hid hu
  have HD := Lib.hid hd
  clear hf hu hd
  go_enter Try.func22, Try.ntmps22
  go_wp2_with (refine wpList_box_blk rfl 23 _ rfl (szl (f : Int) (t : Int)) rfl ?_)
  intro w1 a1 a2 a3
  have A1 := Lib.hid a1
  have A3 := Lib.hid a3
  clear a1 a2 a3
  go_wp2_with (refine wpList_load_blkU rfl 23 _ rfl w.heap.size rfl (szl (f : Int) (t : Int)) 23 A1.out d HU.out HD.out (sSize _ _) ?_)
  refine (count_any f t 1 0 4607182418800017408 0 _ HF.out (by decide) (by decide) (by decide +kernel) (by decide +kernel)).mono ?_
  rintro e w2 ⟨rfl, hb⟩
  have B3 : Hid (Below w.heap.size w w2) := A3.out.trans (hb.mono A3.out.size)
  have EQ : Hid ((1 * f + 0 * t + 1 : Nat) = nWeak f t) := by show _ = _; unfold nWeak; omega
  rw [EQ.out]
  clear hb A1 A3 EQ
  go_wp2
  go_ret
  exact ⟨rfl, B3.out⟩

set_option maxRecDepth 100000 in
set_option maxHeartbeats 1000000 in
theorem nWeakR_any (f t : Nat) (w : World) (hf : SFit f t) : Calls Try.prog 23 #[.agg (szl (f : Int) (t : Int)).toArray] w (One (.int .i64 ((nWeak f t : Nat) : Int)) w) := by
  obtain ⟨f1, f5, tf⟩ := hf
  have t5 : t ≤ 5 := by omega
  unfold nWeak
  go_enter Try.func23, Try.ntmps23
  go_wp2_with (refine wpList_box_blk rfl 27 _ rfl (szl (f : Int) (t : Int)) rfl ?_)
  intro w1 a1 a2 a3
  have cf := (a1.cell 0).trans (show (szl (f : Int) (t : Int))[0]? = some (.int .i64 (f : Int)) from rfl)
  have ct := (a1.cell 1).trans (show (szl (f : Int) (t : Int))[1]? = some (.int .i64 (t : Int)) from rfl)
  have A1 := Lib.hid a1
  have A3 := Lib.hid a3
  clear a1 a2 a3
  go_wp2
  go_ret
  exact ⟨ret_intD (by omega), A3.out⟩

end Go.Proofs.Ytgabkeohihdenaa
