/-
  The document's own layer 4: the width that the first four bytes of a signature tell.
  The document's own layer 4: Candidate.
  The document's own layer 4: Candidate, of a signature that has the right form.
-/
import Derived.Test.YtllncnnigjgadaaGreatRB
namespace Go.Proofs.YtllncnnigjgadaaGreat
open Go.RowKit

/-- The width from k on that four bytes tell; 0: none. -/
def wFrom (b : List UInt8) (k : Nat) : Nat :=
  if k = 1 then (if be 4 1 = b then 1 else if be 4 2 = b then 2 else if be 4 3 = b then 4 else if be 4 4 = b then 8 else 0)
  else if k = 2 then (if be 4 2 = b then 2 else if be 4 3 = b then 4 else if be 4 4 = b then 8 else 0)
  else if k = 4 then (if be 4 3 = b then 4 else if be 4 4 = b then 8 else 0)
  else if k = 8 then (if be 4 4 = b then 8 else 0) else 0
theorem wFrom_hit (b : List UInt8) (k : Nat) (hk : Wd k) (h : be 4 (typ k) = b) : wFrom b k = k := by
  subst h
  rcases hk with rfl | rfl | rfl | rfl <;> decide
theorem wFrom_miss (b : List UInt8) (k : Nat) (hk : Wd k) (h : be 4 (typ k) ≠ b) : wFrom b k = wFrom b (2 * k) := by
  rcases hk with rfl | rfl | rfl | rfl
  · have h' : be 4 1 ≠ b := h
    simp [wFrom, h']
  · have h' : be 4 2 ≠ b := h
    simp [wFrom, h']
  · have h' : be 4 3 ≠ b := h
    simp [wFrom, h']
  · have h' : be 4 4 ≠ b := h
    simp [wFrom, h']

set_option maxRecDepth 100000 in
set_option maxHeartbeats 2000000 in
theorem width_any (b : List UInt8) (v : Value) (w : World) (hr : Rd w.heap.size w v b) (hb4 : b.length = 4) : Calls Tryz.prog 69 #[v] w (One (.int .i64 (wFrom b 1 : Nat)) w) := by
  obtain ⟨A, c, rfl, hc, hm⟩ := hr.shape
  unfold maxLen at hm
  have HR := Lib.hid hr
  have HB4 := Lib.hid hb4
  clear hr
  rw [hb4] at hc HR ⊢
  clear hb4
  go_enter Tryz.func69, Tryz.ntmps69
  go_wp2
  have K0 : Hid (Below w.heap.size w w) := Below.refl _ _
  go_loopw [2, 3] (fun x2 x wr => ∃ k : Nat, (Wd k ∨ k = 16) ∧ x = .int .i64 (k : Int) ∧ x2 = .int .i64 0 ∧ Hid (wFrom b 1 = wFrom b k) ∧ Hid (Below w.heap.size w wr)) (fun _ x _ => 16 - (intOf x).toNat)
  case atStart => exact ⟨1, .inl (.inl rfl), rfl, rfl, rfl, K0⟩
  case round =>
    clear K0
    obtain ⟨k, hk, rfl, rfl, HW, KB⟩ := hrel
    rcases hk with hk | rfl
    · obtain ⟨k1, k8, _, _⟩ := hk.le
      have zk : (k : Int) ≤ 8 := by omega
      have HK := Lib.hid hk
      obtain ⟨Y, hY⟩ : ∃ Y, typ k = Y := ⟨_, rfl⟩
      have hY4 : Y < 4294967296 := by rw [← hY]; rcases hk with rfl | rfl | rfl | rfl <;> decide
      have HYE := Lib.hid hY
      clear hk hY
      go_wp2_with fail
      refine (refType_yes k _ HK.out).mono ?_
      rintro e w1 ⟨rfl, rfl⟩
      rw [HYE.out]
      go_wp2
      by_cases hby0 : be 4 Y = b
      · have HBY := Lib.hid hby0
        clear hby0
        refine wp_region_rely2 6 0 (fun x => ⟨#[Value.slice A 4 c, undef, Value.int IntKind.i64 0, Value.int IntKind.i64 ↑k, Value.int IntKind.u32 ↑Y, Value.int IntKind.i64 0, Value.int IntKind.i64 ↑k, Value.bool true, u8, u9, Value.tuple #[Value.int IntKind.u32 ↑Y, Value.int IntKind.i64 0], Value.int IntKind.i64 ↑k, Value.tuple #[Value.int IntKind.u32 ↑Y, Value.int IntKind.i64 0], Value.int IntKind.u32 ↑Y, Value.int IntKind.i64 0, x 0, x 1, x 2, x 3, x 4, x 5, u21], []⟩) (fun jj => ([eqV (.int .u32 (Y : Int)), (OwnN 0 (be 4 Y)), eqV (.string ⟨(be 4 Y).toArray⟩), eqV (.slice A 4 c), eqV (.string ⟨b.toArray⟩), eqV (.bool true)] : List (Value → World → Prop)).getD jj (fun _ _ => True)) rfl ⟨fun kk => [_, _, _, _, _, _].getD kk undef, rfl⟩ (by kernel_rfl) (by kernel_rfl) ?steps ?fin
        case steps =>
          refine StepsAt.val 0 (.int .u32 (Y : Int)) rfl (fun _ _ => rfl) rfl rfl (fun x w9 hb hd => ?_) ?_
          · first | (go_simp; done) | (go_simp; rfl)
          refine StepsAt.cons 1 (fun _ _ _ h hb => OwnN.keep h hb) (fun _ _ => rfl) rfl rfl (fun x w9 hb hd K hK => ?_) ?_
          · have h0 : Hid (x 0 = .int .u32 (Y : Int)) := hd 0 (by kernel_rfl)
            go_simp
            refine calls_args (args2 := #[.int .u32 (Y : Int)]) (by rw [h0.out]) ?_
            refine (four_any Y _ hY4).mono ?_
            rintro e w2 ⟨v2, rfl, hown, hb2⟩
            exact hK.out _ _ hb2 (hown.base (Nat.zero_le _))
          refine StepsAt.val 2 (.string ⟨(be 4 Y).toArray⟩) rfl (fun _ _ => rfl) rfl rfl (fun x w9 hb hd => ?_) ?_
          · have h1 : OwnN 0 (be 4 Y) (x 1) w9 := hd 1 (by kernel_rfl)
            have r1 : Rd w9.heap.size w9 (x 1) (be 4 Y) := Own.rd h1
            obtain ⟨A1, c1, e1, _, _⟩ := r1.shape
            rw [e1] at r1
            have t1 := run_string_rd 22 9 5 Tryz.underlying22 Tryz.underlying5 Tryz.underlying9 r1
            rw [e1]
            clear e1 h1 r1
            first | (go_simp; done) | (go_simp; rfl)
          refine StepsAt.val 3 (.slice A 4 c) rfl (fun _ _ => rfl) rfl rfl (fun x w9 hb hd => ?_) ?_
          · first | (go_simp; done) | (go_simp; rfl)
          refine StepsAt.val 4 (.string ⟨b.toArray⟩) rfl (fun _ _ => rfl) rfl rfl (fun x w9 hb hd => ?_) ?_
          · have h3 : x 3 = .slice A 4 c := hd 3 (by kernel_rfl)
            have r1 := (HR.out.below KB.out).below (hb.mono KB.out.size)
            have t1 := run_string_rd 22 9 5 Tryz.underlying22 Tryz.underlying5 Tryz.underlying9 r1
            rw [h3]
            clear r1
            first | (go_simp; done) | (go_simp; rfl)
          refine StepsAt.val 5 (.bool true) rfl (fun _ _ => rfl) rfl rfl (fun x w9 hb hd => ?_) ?_
          · have h2 : x 2 = .string ⟨(be 4 Y).toArray⟩ := hd 2 (by kernel_rfl)
            have h4 : x 4 = .string ⟨b.toArray⟩ := hd 4 (by kernel_rfl)
            rw [h2, h4]
            rw [HBY.out]
            first | (go_simp; done) | (go_simp; rfl)
          exact StepsAt.done
        case fin =>
          intro x w9 hb hd
          have f5 : x 5 = .bool true := hd 5 (by omega)
          refine AnyTill.any (S := fun _ => True) (m := 6) _ _ _ _ ?_
          refine AnyTill.done (by kernel_rfl) ?_
          refine NoPanic.normal ?_
          rw [f5]
          generalize x 0 = p0
          generalize x 1 = p1
          generalize x 2 = p2
          generalize x 3 = p3
          generalize x 4 = p4
          have KC : Hid (Below w.heap.size w w9) := KB.out.trans (hb.mono KB.out.size)
          clear hd f5 hb x
          have h0 : wFrom b 1 = k := HW.out.trans (wFrom_hit b k HK.out (by rw [HYE.out]; exact HBY.out))
          go_wp2
          go_ret
          exact ⟨by rw [h0]; rfl, KC.out⟩
      · have HBY := Lib.hid hby0
        clear hby0
        refine wp_region_rely2 6 0 (fun x => ⟨#[Value.slice A 4 c, undef, Value.int IntKind.i64 0, Value.int IntKind.i64 ↑k, Value.int IntKind.u32 ↑Y, Value.int IntKind.i64 0, Value.int IntKind.i64 ↑k, Value.bool true, u8, u9, Value.tuple #[Value.int IntKind.u32 ↑Y, Value.int IntKind.i64 0], Value.int IntKind.i64 ↑k, Value.tuple #[Value.int IntKind.u32 ↑Y, Value.int IntKind.i64 0], Value.int IntKind.u32 ↑Y, Value.int IntKind.i64 0, x 0, x 1, x 2, x 3, x 4, x 5, u21], []⟩) (fun jj => ([eqV (.int .u32 (Y : Int)), (OwnN 0 (be 4 Y)), eqV (.string ⟨(be 4 Y).toArray⟩), eqV (.slice A 4 c), eqV (.string ⟨b.toArray⟩), eqV (.bool false)] : List (Value → World → Prop)).getD jj (fun _ _ => True)) rfl ⟨fun kk => [_, _, _, _, _, _].getD kk undef, rfl⟩ (by kernel_rfl) (by kernel_rfl) ?steps ?fin
        case steps =>
          refine StepsAt.val 0 (.int .u32 (Y : Int)) rfl (fun _ _ => rfl) rfl rfl (fun x w9 hb hd => ?_) ?_
          · first | (go_simp; done) | (go_simp; rfl)
          refine StepsAt.cons 1 (fun _ _ _ h hb => OwnN.keep h hb) (fun _ _ => rfl) rfl rfl (fun x w9 hb hd K hK => ?_) ?_
          · have h0 : Hid (x 0 = .int .u32 (Y : Int)) := hd 0 (by kernel_rfl)
            go_simp
            refine calls_args (args2 := #[.int .u32 (Y : Int)]) (by rw [h0.out]) ?_
            refine (four_any Y _ hY4).mono ?_
            rintro e w2 ⟨v2, rfl, hown, hb2⟩
            exact hK.out _ _ hb2 (hown.base (Nat.zero_le _))
          refine StepsAt.val 2 (.string ⟨(be 4 Y).toArray⟩) rfl (fun _ _ => rfl) rfl rfl (fun x w9 hb hd => ?_) ?_
          · have h1 : OwnN 0 (be 4 Y) (x 1) w9 := hd 1 (by kernel_rfl)
            have r1 : Rd w9.heap.size w9 (x 1) (be 4 Y) := Own.rd h1
            obtain ⟨A1, c1, e1, _, _⟩ := r1.shape
            rw [e1] at r1
            have t1 := run_string_rd 22 9 5 Tryz.underlying22 Tryz.underlying5 Tryz.underlying9 r1
            rw [e1]
            clear e1 h1 r1
            first | (go_simp; done) | (go_simp; rfl)
          refine StepsAt.val 3 (.slice A 4 c) rfl (fun _ _ => rfl) rfl rfl (fun x w9 hb hd => ?_) ?_
          · first | (go_simp; done) | (go_simp; rfl)
          refine StepsAt.val 4 (.string ⟨b.toArray⟩) rfl (fun _ _ => rfl) rfl rfl (fun x w9 hb hd => ?_) ?_
          · have h3 : x 3 = .slice A 4 c := hd 3 (by kernel_rfl)
            have r1 := (HR.out.below KB.out).below (hb.mono KB.out.size)
            have t1 := run_string_rd 22 9 5 Tryz.underlying22 Tryz.underlying5 Tryz.underlying9 r1
            rw [h3]
            clear r1
            first | (go_simp; done) | (go_simp; rfl)
          refine StepsAt.val 5 (.bool false) rfl (fun _ _ => rfl) rfl rfl (fun x w9 hb hd => ?_) ?_
          · have h2 : x 2 = .string ⟨(be 4 Y).toArray⟩ := hd 2 (by kernel_rfl)
            have h4 : x 4 = .string ⟨b.toArray⟩ := hd 4 (by kernel_rfl)
            rw [h2, h4]
            go_simp
            exact HBY.out
          exact StepsAt.done
        case fin =>
          intro x w9 hb hd
          have f5 : x 5 = .bool false := hd 5 (by omega)
          refine AnyTill.any (S := fun _ => True) (m := 6) _ _ _ _ ?_
          refine AnyTill.done (by kernel_rfl) ?_
          refine NoPanic.normal ?_
          rw [f5]
          generalize x 0 = p0
          generalize x 1 = p1
          generalize x 2 = p2
          generalize x 3 = p3
          generalize x 4 = p4
          have KC : Hid (Below w.heap.size w w9) := KB.out.trans (hb.mono KB.out.size)
          clear hd f5 hb x
          have h0 : Hid (wFrom b 1 = wFrom b (2 * k)) := HW.out.trans (wFrom_miss b k HK.out (by rw [HYE.out]; exact HBY.out))
          have hk2 : Wd (2 * k) ∨ 2 * k = 16 := by rcases HK.out with rfl | rfl | rfl | rfl <;> simp [Wd]
          go_wp2
          go_roundw
          case rel => exact ⟨2 * k, hk2, by go_num, rfl, h0, KC⟩
          case measure => simp [intOf]; omega
    · have h0 : wFrom b 1 = 0 := HW.out.trans rfl
      go_wp2
      go_ret
      exact ⟨by rw [h0]; rfl, KB.out⟩
end Go.Proofs.YtllncnnigjgadaaGreat

namespace Go.Proofs.YtllncnnigjgadaaGreat
open Go.RowKit

theorem wFrom_or (b : List UInt8) : (Wd (wFrom b 1) ∧ be 4 (typ (wFrom b 1)) = b) ∨ wFrom b 1 = 0 := by
  by_cases h1 : be 4 1 = b
  · left; subst h1; exact ⟨by unfold Wd; decide, by decide⟩
  · by_cases h2 : be 4 2 = b
    · left; subst h2; exact ⟨by unfold Wd; decide, by decide⟩
    · by_cases h3 : be 4 3 = b
      · left; subst h3; exact ⟨by unfold Wd; decide, by decide⟩
      · by_cases h4 : be 4 4 = b
        · left; subst h4; exact ⟨by unfold Wd; decide, by decide⟩
        · right; simp [wFrom, h1, h2, h3, h4]
theorem noW0 : NoW 0 := by unfold NoW; decide
def k0 : List UInt8 := List.replicate 32 0
theorem k0_length : k0.length = 32 := by simp [k0]
theorem built_key3' (f : Nat → UInt8) (q z : Int) : Tryz.prog.built 119 [(0, .agg (bys ((List.range 16).map f)).toArray), (1, .int .u32 q), (3, .int .i64 z)] = some (bys ((List.range 16).map f) ++ (Value.int .u32 q :: (bys k0 ++ [Value.int .i64 z]))).toArray := by kernel_rfl
theorem built_key3 (I : List UInt8) (q : Nat) (z : Int) (hI : I.length = 16) : Tryz.prog.built 119 [(0, .agg (bys I).toArray), (1, .int .u32 (q : Int)), (3, .int .i64 z)] = some (kcs I q k0 z).toArray := by
  rw [list_as I 16 hI]
  exact built_key3' _ _ _
/-- A key that is new, as it was laid. -/
def NewK (z0 : List Value) (b : Nat) : Value → World → Prop := fun v w => ∃ g, v = .pointer (some ⟨g, 0, none⟩) ∧ Blk w g z0 119 ∧ b ≤ g
theorem NewK.keep {z0 : List Value} {b : Nat} {v : Value} {w w' : World} (h : NewK z0 b v w) (hb : Below w.heap.size w w') : NewK z0 b v w' := by
  obtain ⟨g, h1, h2, h3⟩ := h
  exact ⟨g, h1, h2.below hb h2.lt, h3⟩

end Go.Proofs.YtllncnnigjgadaaGreat

namespace Go.Proofs.YtllncnnigjgadaaGreat
open Go.RowKit

/-- What the loop of the document's Candidate keeps. -/
def RCdAt (w : World) (I : List UInt8) (q k gK g1 b i : Nat) (D : List Nat) (dv v : Value) (l : List UInt8) (wr : World) : Prop :=
  Blk wr gK (kcs I q k0 (k : Int)) 119 ∧ Blk wr g1 z32 30 ∧ OwnI 3 wr 0 dv D ∧ RdI b wr dv D ∧ OwH wr b v i l ∧ b ≤ wr.heap.size ∧ Below w.heap.size w wr
theorem RCdAt.below {w : World} {I : List UInt8} {q k gK g1 b i : Nat} {D : List Nat} {dv v : Value} {l : List UInt8} {wr w' : World} (h : RCdAt w I q k gK g1 b i D dv v l wr) (hb : Below wr.heap.size wr w') : RCdAt w I q k gK g1 b i D dv v l w' := by
  obtain ⟨h1, h2, h3, h3', h4, h5, h6⟩ := h
  exact ⟨h1.below hb h1.lt, h2.below hb h2.lt, h3.below hb (Nat.le_refl _), h3'.below (hb.mono h5), h4.below hb (Nat.le_refl _), Nat.le_trans h5 hb.size, h6.trans (hb.mono h6.size)⟩
/-- Ints that are owned, and lie below b, stay where no block below b changes. -/
theorem OwnI.low {w w' : World} {b b0 n c : Nat} {a : Addr} {D : List Nat} (h : OwnI 3 w b0 (.slice (some a) n c) D) (h' : RdI b w (.slice (some a) n c) D) (h0 : 0 < D.length) (hb : Below b w w') : OwnI 3 w' b0 (.slice (some a) n c) D := by
  obtain ⟨A', c', hv, _, _, _, hr⟩ := h'
  injection hv with e1 e2 e3
  have hlt := (hr a e1.symm).1 h0
  refine ⟨h.1, ?_⟩
  rcases h.2 with ⟨hn, _⟩ | ⟨g, cap, cur, hg, hg0, hg1, r⟩
  · cases hn
  · refine .inr ⟨g, cap, cur, hg, hg0, ?_, r⟩
    injection hg with e4
    injection e4 with e4
    subst e4
    rw [hb.block g hlt]
    exact hg1
/-- The first j bytes of a hash, and nothing yet behind. -/
def halfV (R : List UInt8) (j : Nat) : List Value := (List.range 32).map fun t => if t < j then .int .u8 ((R.getD t 0).toNat : Int) else .int .u8 0
theorem halfV_0 (R : List UInt8) : halfV R 0 = z32 := by
  unfold halfV z32 bys
  simp only [Nat.not_lt_zero, if_false]
  rfl
theorem halfV_32 (R : List UInt8) (hR : R.length = 32) : halfV R 32 = bys R := by
  refine List.ext_getElem (by simp [halfV, bys, hR]) (fun t h1 h2 => ?_)
  have ht : t < 32 := by simpa [halfV] using h1
  simp [halfV, bys, ht, List.getElem?_eq_getElem (show t < R.length by omega)]
theorem halfV_set (R : List UInt8) (j : Nat) : (halfV R j).set j (.int .u8 ((R.getD j 0).toNat : Int)) = halfV R (j + 1) := by
  refine List.ext_getElem (by simp [halfV]) (fun t h1 h2 => ?_)
  rw [List.getElem_set]
  by_cases e : j = t
  · subst e; simp [halfV]
  · rw [if_neg e]
    simp only [halfV, List.getElem_map, List.getElem_range]
    by_cases h : t < j
    · rw [if_pos h, if_pos (by omega)]
    · rw [if_neg h, if_neg (by omega)]

set_option maxRecDepth 100000 in
set_option maxHeartbeats 4000000 in
theorem refCand_yes (I text s : List UInt8) (q k : Nat) (tv sv : Value) (w : World) (hI : I.length = 16) (hq : q < 4294967296) (ht : Rd w.heap.size w tv text) (hsv : Rd w.heap.size w sv s) (htl : text.length ≤ 90000) (hs4 : 4 ≤ s.length) (hl : s.length ≤ 1000000) (hk : Wd k) (hsl : s.length = lng k) (hwk : wFrom (s.take 4) 1 = k) : Calls Tryz.prog 37 #[.agg (bys I).toArray, .int .u32 (q : Int), tv, sv] w (TwoD (.agg (bys (cndL (pre20 I q) s text k)).toArray) (.int .i64 0) w) := by
  obtain ⟨At, ct, rfl, hct, hmt⟩ := ht.shape
  unfold maxLen at hmt
  have HT := Lib.hid ht
  have HTL := Lib.hid htl
  have HK := Lib.hid hk
  have HWK := Lib.hid hwk
  have HSL := Lib.hid hsl
  clear ht htl hk hwk hsl
  obtain ⟨n, hn⟩ : ∃ n, s.length = n := ⟨_, rfl⟩
  have HN := Lib.hid hn
  obtain ⟨aS, cs, rfl, hcs, hms⟩ := hsv.some_ (by omega)
  unfold maxLen at hms
  have HSV := Lib.hid hsv
  have H4 : Hid (Rd w.heap.size w (.slice (some aS) 4 cs) (s.take 4)) := (hsv.take 4 (by omega))
  rw [hn] at hs4 hcs HSV hl ⊢
  have zn : ¬ ((n : Int) < 4) := by omega
  have HI := Lib.hid hI
  have H22 : Hid ((Tryz.prog.info? 29).map (·.size) = some (bys I).length) := by show _ = _; rw [bys_length, hI]; exact s22
  clear hsv hn hI
  go_enter Tryz.func37, Tryz.ntmps37
  go_wp2_with (refine wpList_box_blk rfl 29 _ rfl (bys I) rfl ?_)
  intro v1 a1 a2 a3
  have A1 := Lib.hid a1
  have A2 := Lib.hid a2
  have A3 := Lib.hid a3
  clear a1 a2 a3
  go_wp2_with (refine wpList_alloc_blk rfl 30 rfl _ z24 ?_)
  intro v2 a1 a2 a3
  rw [A2.out] at a1 a2 a3 ⊢
  obtain ⟨g0, hg0⟩ : ∃ g, w.heap.size = g := ⟨_, rfl⟩
  obtain ⟨g1, hg1⟩ : ∃ g, g0 + 1 = g := ⟨_, rfl⟩
  have X1 : Hid (Blk v2 g0 (bys I) 29) := by rw [← hg0]; exact A1.out.below a3 (by omega)
  have X2 : Hid (Blk v2 g1 z32 30) := by rw [← hg1, ← hg0]; exact a1
  have XB : Hid (Below w.heap.size w v2) := A3.out.trans (a3.mono (by omega))
  have hw0 : w.heap.size ≤ g0 := by omega
  have hg01 : g0 < g1 := by omega
  rw [hg0, hg1]
  clear a1 a2 a3 A1 A2 A3 hg0 hg1
  obtain ⟨z0, hz0, hz0l⟩ := zi32
  have HZ0 := Lib.hid hz0
  obtain ⟨W, hW⟩ : ∃ W, wFrom (s.take 4) 1 = W := ⟨_, rfl⟩
  have HW := Lib.hid hW
  have H32 : Hid ((Tryz.prog.info? 119).map (·.size) = some (kcs I q k0 (W : Int)).length) := by show _ = _; rw [kcs_length I k0 q _ HI.out k0_length]; exact s32
  have HLK : Hid (z0.length = (kcs I q k0 (W : Int)).length) := by show _ = _; rw [kcs_length I k0 q _ HI.out k0_length, hz0l]
  have HS4 : Hid ((s.take 4).length = 4) := by have := HN.out; show _ = _; rw [List.length_take]; omega
  clear hz0 hz0l hW
  go_wp2
  refine wp_region_rely2 7 1 (fun x => ⟨#[Value.agg (bys I).toArray, Value.int IntKind.u32 ↑q, Value.slice At text.length ct, Value.slice (some aS) n cs, Value.pointer (some { block := g0, off := 0 }), undef, undef, undef, Value.pointer (some { block := g1, off := 0 }), Value.int IntKind.i64 0, x 6, undef, undef, undef, undef, undef, undef, undef, undef, undef, undef, Value.slice (some aS) n cs, Value.int IntKind.i64 ↑n, Value.bool (decide ((n : Int) < 4)), undef, x 0, x 1, x 2, x 3, x 4, x 5, undef, undef, undef, undef, undef, undef, undef, undef, undef, undef, undef, undef, undef, undef, undef, undef, undef, undef, undef, undef, undef, undef, undef, undef, undef, undef, undef, undef, undef, undef, undef, undef, undef, undef, undef, undef, undef, undef, undef, undef, undef, undef, undef, undef, undef, undef, undef, undef, undef, undef, undef, undef, undef, undef, undef, undef, undef, undef, undef, undef, undef, undef, undef, undef, undef, undef, undef, undef, undef], []⟩) (fun jj => ([eqV (.agg (bys I).toArray), eqV (.int .u32 (q : Int)), eqV (.slice (some aS) n cs), eqV (.slice (some aS) 4 cs), (eqV (.int .i64 (W : Int))), (eqV (.agg (kcs I q k0 (W : Int)).toArray)), (NewK z0 v2.heap.size)] : List (Value → World → Prop)).getD jj (fun _ _ => True)) rfl ⟨fun kk => [_, _, _, _, _, _, _].getD kk undef, rfl⟩ (by kernel_rfl) (by kernel_rfl) ?steps ?fin
  case steps =>
    refine StepsAt.val 0 (.agg (bys I).toArray) rfl (fun _ _ => rfl) rfl rfl (fun x w9 hb hd => ?_) ?_
    · exact run_load_blk 29 (.tmp 4) rfl g0 rfl (bys I) 29 (X1.out.below hb X1.out.lt) 16 5 tu22 H22.out
    refine StepsAt.val 1 (.int .u32 (q : Int)) rfl (fun _ _ => rfl) rfl rfl (fun x w9 hb hd => ?_) ?_
    · first | (go_simp; done) | (go_simp; rfl)
    refine StepsAt.val 2 (.slice (some aS) n cs) rfl (fun _ _ => rfl) rfl rfl (fun x w9 hb hd => ?_) ?_
    · first | (go_simp; done) | (go_simp; rfl)
    refine StepsAt.val 3 (.slice (some aS) 4 cs) rfl (fun _ _ => rfl) rfl rfl (fun x w9 hb hd => ?_) ?_
    · have h2 : x 2 = .slice (some aS) n cs := hd 2 (by kernel_rfl)
      have zc : ¬ ((cs : Int) < 4) := by omega
      rw [h2]
      first | (go_simp; done) | (go_simp; rfl)
    refine StepsAt.cons 4 (fun _ _ _ h hb => h) (fun _ _ => rfl) rfl rfl (fun x w9 hb hd K hK => ?_) ?_
    · have h3 : Hid (x 3 = .slice (some aS) 4 cs) := hd 3 (by kernel_rfl)
      go_simp
      refine calls_args (args2 := #[.slice (some aS) 4 cs]) (by rw [h3.out]) ?_
      refine (width_any (s.take 4) _ _ (((H4.out.below XB.out).below (hb.mono XB.out.size)).more (Nat.le_trans XB.out.size hb.size)) HS4.out).mono ?_
      rintro e w2 ⟨rfl, hb2⟩
      rw [HW.out]
      exact hK.out _ _ hb2 rfl
    refine StepsAt.cons 5 (fun _ _ _ h hb => h) (fun _ _ => rfl) rfl rfl (fun x w9 hb hd K hK => ?_) ?_
    · have h0 : Hid (x 0 = .agg (bys I).toArray) := hd 0 (by kernel_rfl)
      have h1 : Hid (x 1 = .int .u32 (q : Int)) := hd 1 (by kernel_rfl)
      have h4 : Hid (x 4 = .int .i64 (W : Int)) := hd 4 (by kernel_rfl)
      refine wp_of_list rfl (wpList_buildTo rfl 119 _ rfl (some 30) rfl (kcs I q k0 (W : Int)).toArray (by simp only [Act.eval, List.map_toArray, List.map_cons, List.map_nil, Array.getD_eq_getD_getElem?, List.getElem?_toArray, List.getElem?_cons_zero, List.getElem?_cons_succ, Option.getD_some, h0.out, h1.out, h4.out]; exact built_key3 I q (W : Int) HI.out) ?_)
      exact hK.out _ _ (Below.refl _ _) rfl
    refine StepsAt.cons 6 (fun _ _ _ h hb => NewK.keep h hb) (fun _ _ => rfl) rfl rfl (fun x w9 hb hd K hK => ?_) ?_
    · refine wp_of_list rfl (wpList_alloc_blk rfl 119 rfl _ HZ0.out ?_)
      intro w2 b1 b2 b3
      exact hK.out _ _ b3 ⟨_, rfl, b1, hb.size⟩
    exact StepsAt.done
  case fin =>
    intro x w9 hb hd
    have h5 : x 5 = .agg (kcs I q k0 (W : Int)).toArray := hd 5 (by omega)
    obtain ⟨gK, e6, hg6, hgb⟩ : NewK z0 v2.heap.size (x 6) w9 := hd 6 (by omega)
    refine AnyTill.any (S := fun _ => True) (m := 8) _ _ _ _ ?_
    refine AnyTill.one (i := 7) (by kernel_rfl) rfl (by rfl) (fun K hK => ?_)
    refine wp_store_blk 119 (.tmp 10) (.tmp 30) rfl gK (kcs I q k0 (W : Int)) z0 119 e6 h5 hg6 H32.out HLK.out (kcs_one _ _ _ _) ?_
    refine hK.out _ _ (.inr trivial) ?_
    clear hK K
    refine AnyTill.done (by kernel_rfl) ?_
    refine NoPanic.normal ?_
    simp only [Act.put]
    have hbF : Below v2.heap.size v2 (w9.setRow gK (kcs I q k0 (W : Int)).toArray) := below_setRow' hb hgb _
    have S2 : Hid (Blk (w9.setRow gK (kcs I q k0 (W : Int)).toArray) g1 z32 30) := X2.out.below hbF X2.out.lt
    have SB : Hid (Below w.heap.size w (w9.setRow gK (kcs I q k0 (W : Int)).toArray)) := XB.out.trans (hbF.mono XB.out.size)
    have SK : Hid (Blk (w9.setRow gK (kcs I q k0 (W : Int)).toArray) gK (kcs I q k0 (W : Int)) 119) := hg6.setRow
    generalize w9.setRow gK (kcs I q k0 (W : Int)).toArray = wK at S2 SB SK ⊢
    rw [e6]
    generalize x 0 = p0
    generalize x 1 = p1
    generalize x 2 = p2
    generalize x 3 = p3
    generalize x 4 = p4
    generalize x 5 = p5
    have cw := (SK.out.cell 49).trans (kcs_z I k0 q (W : Int) HI.out k0_length)
    clear hd h5 hbF hb hg6 hgb e6 X1 X2 XB x
    go_wp2_with fail
    clear cw
    have hWk : W = k := HW.out.symm.trans HWK.out
    subst hWk
    obtain ⟨L, hL⟩ : ∃ L, lng W = L := ⟨_, rfl⟩
    have HL := Lib.hid hL
    have hnL : n = L := by have h1 := HN.out; have h2 := HSL.out; omega
    clear hL
    refine (refLong_yes W _ HK.out).mono ?_
    rw [HL.out]
    rintro e w1 ⟨rfl, nd, rfl⟩
    have T2 : Hid (Blk (wK.drewN nd) g1 z32 30) := S2.out
    have TK : Hid (Blk (wK.drewN nd) gK (kcs I q k0 (W : Int)) 119) := SK.out
    have TB : Hid (Below w.heap.size w (wK.drewN nd)) := Below.drewN' SB.out
    generalize wK.drewN nd = wL at T2 TK TB ⊢
    clear S2 SB SK
    subst hnL
    go_wp2
    obtain ⟨D, hD⟩ : ∃ D, cdig (pre20 I q) s text W = D := ⟨_, rfl⟩
    have HDE := Lib.hid hD
    obtain ⟨M, hM⟩ : ∃ M, mny W = M := ⟨_, rfl⟩
    have HME := Lib.hid hM
    have hm := mny_le W HK.out
    rw [hM] at hm
    have hM0 : 0 < M := by rw [← hM]; rcases HK.out with rfl | rfl | rfl | rfl <;> decide
    have hDl : D.length = M := by rw [← hD, ← hM]; unfold cdig; rw [allD_length]; rfl
    have hDg : ∀ i, D.getD i 0 ≤ gr W := fun i => by rw [← hD]; exact digit_le _ W i
    have HDL := Lib.hid hDl
    have HDG := Lib.hid hDg
    have hnM : n = 36 + 32 * M := by have := HL.out; unfold lng at this; rw [hM] at this; omega
    have hA0 : (hAt s 0).length = 32 := by have := HN.out; unfold hAt; rw [List.length_take, List.length_drop]; omega
    have HA0 := Lib.hid hA0
    have hra : Rd w.heap.size w (.slice (some (aS.add 4)) 32 (cs - 4)) (hAt s 0) := by
      have h1 := HSV.out.drop 4 (by omega)
      rw [if_neg (by omega)] at h1
      have h2 := h1.take 32 (by omega)
      exact h2
    have HRA := Lib.hid hra
    obtain ⟨d32, hu32, hd32⟩ := row32
    have HU := Lib.hid hu32
    have HD := Lib.hid hd32
    have hbw : ∀ w', Below wL.heap.size wL w' → Below w.heap.size w w' := fun w' hb => TB.out.trans (hb.mono TB.out.size)
    have HNM := Lib.hid hnM
    clear hD hM hDl hDg hA0 hra hu32 hd32 hnM
    refine wp_region_rely2 13 0 (fun x => ⟨#[Value.agg (bys I).toArray, Value.int IntKind.u32 ↑q, Value.slice At text.length ct, Value.slice (some aS) n cs, Value.pointer (some { block := g0, off := 0 }), undef, undef, undef, Value.pointer (some { block := g1, off := 0 }), Value.int IntKind.i64 0, Value.pointer (some { block := gK, off := 0 }), Value.int IntKind.i64 ↑n, Value.int IntKind.i64 0, x 11, x 12, undef, undef, undef, undef, undef, undef, Value.slice (some aS) n cs, Value.int IntKind.i64 ↑n, Value.bool (decide ((n : Int) < 4)), undef, p0, p1, p2, p3, p4, p5, Value.tuple #[Value.int IntKind.i64 ↑n, Value.int IntKind.i64 0], Value.pointer (some { block := gK, off := 49 }), Value.int IntKind.i64 ↑W, Value.tuple #[Value.int IntKind.i64 ↑n, Value.int IntKind.i64 0], Value.int IntKind.i64 ↑n, Value.int IntKind.i64 0, Value.int IntKind.i64 0, Value.bool false, Value.bool false, Value.slice (some aS) n cs, Value.int IntKind.i64 ↑n, Value.int IntKind.i64 ↑n, Value.bool false, Value.bool false, undef, x 8, x 0, x 1, x 2, x 3, x 4, x 5, x 6, x 7, x 9, x 10, undef, undef, undef, undef, undef, undef, undef, undef, undef, undef, undef, undef, undef, undef, undef, undef, undef, undef, undef, undef, undef, undef, undef, undef, undef, undef, undef, undef, undef, undef, undef, undef, undef, undef, undef, undef, undef, undef, undef, undef, undef, undef, undef], []⟩) (fun jj => ([eqV (.agg (kcs I q k0 (W : Int)).toArray), eqV (.slice (some aS) n cs), eqV (.slice (some (aS.add 4)) 32 (cs - 4)), eqV (.slice At text.length ct), (eqV (.agg (bys (hmsg (pre20 I q) (hAt s 0) text)).toArray)), eqV (.pointer (some ⟨gK, 49, none⟩)), eqV (.int .i64 (W : Int)), (AlON D), (AlON D), (OwIN D), eqV (.int .i64 0), (OwIN D), eqV (.int .i64 0)] : List (Value → World → Prop)).getD jj (fun _ _ => True)) rfl ⟨fun kk => [_, _, _, _, _, _, _, _, _, _, _, _, _].getD kk undef, rfl⟩ (by kernel_rfl) (by kernel_rfl) ?steps ?fin
    case steps =>
      refine StepsAt.val 0 (.agg (kcs I q k0 (W : Int)).toArray) rfl (fun _ _ => rfl) rfl rfl (fun x wA hb hd => ?_) ?_
      · exact run_load_blkU 119 (.tmp 10) rfl gK rfl (kcs I q k0 (W : Int)) 119 (TK.out.below hb TK.out.lt) d32 HU.out HD.out H32.out
      refine StepsAt.val 1 (.slice (some aS) n cs) rfl (fun _ _ => rfl) rfl rfl (fun x wA hb hd => ?_) ?_
      · first | (go_simp; done) | (go_simp; rfl)
      refine StepsAt.val 2 (.slice (some (aS.add 4)) 32 (cs - 4)) rfl (fun _ _ => rfl) rfl rfl (fun x wA hb hd => ?_) ?_
      · have h1 : x 1 = .slice (some aS) n cs := hd 1 (by kernel_rfl)
        have zc : ¬ ((cs : Int) < 36) := by have := HNM.out; omega
        have zc2 : ¬ (cs = 4) := by have := HNM.out; omega
        rw [h1]
        first | (go_simp; done) | (go_simp; rfl)
      refine StepsAt.val 3 (.slice At text.length ct) rfl (fun _ _ => rfl) rfl rfl (fun x wA hb hd => ?_) ?_
      · first | (go_simp; done) | (go_simp; rfl)
      refine StepsAt.cons 4 (fun _ _ _ h hb => h) (fun _ _ => rfl) rfl rfl (fun x wA hb hd K hK => ?_) ?_
      · have h0 : Hid (x 0 = .agg (kcs I q k0 (W : Int)).toArray) := hd 0 (by kernel_rfl)
        have h2 : Hid (x 2 = .slice (some (aS.add 4)) 32 (cs - 4)) := hd 2 (by kernel_rfl)
        have h3 : Hid (x 3 = .slice At text.length ct) := hd 3 (by kernel_rfl)
        go_simp
        refine calls_args (args2 := #[.agg (kcs I q k0 (W : Int)).toArray, .slice (some (aS.add 4)) 32 (cs - 4), .slice At text.length ct]) (by rw [h0.out, h2.out, h3.out]) ?_
        refine (signed_any I k0 (hAt s 0) text q (W : Int) _ _ _ HI.out k0_length hq HA0.out ((HRA.out.below (hbw wA hb)).more ((hbw wA hb).size)) ((HT.out.below (hbw wA hb)).more ((hbw wA hb).size)) HTL.out).mono ?_
        rintro e w2 ⟨rfl, hb2⟩
        exact hK.out _ _ hb2 rfl
      refine StepsAt.val 5 (.pointer (some ⟨gK, 49, none⟩)) rfl (fun _ _ => rfl) rfl rfl (fun x wA hb hd => ?_) ?_
      · first | (go_simp; done) | (go_simp; rfl)
      refine StepsAt.val 6 (.int .i64 (W : Int)) rfl (fun _ _ => rfl) rfl rfl (fun x wA hb hd => ?_) ?_
      · have h5 : x 5 = .pointer (some ⟨gK, 49, none⟩) := hd 5 (by kernel_rfl)
        have c := ((TK.out.below hb TK.out.lt).cell 49).trans (kcs_z I k0 q (W : Int) HI.out k0_length)
        rw [h5]
        first | (go_simp; done) | (go_simp; rfl)
      refine StepsAt.cons 7 (fun _ _ _ h hb => AlON.keep h hb) (fun _ _ => rfl) rfl rfl (fun x wA hb hd K hK => ?_) ?_
      · have h4 : Hid (x 4 = .agg (bys (hmsg (pre20 I q) (hAt s 0) text)).toArray) := hd 4 (by kernel_rfl)
        have h6 : Hid (x 6 = .int .i64 (W : Int)) := hd 6 (by kernel_rfl)
        go_simp
        refine calls_args (args2 := #[.agg (bys (hmsg (pre20 I q) (hAt s 0) text)).toArray, .int .i64 (W : Int)]) (by rw [h4.out, h6.out]) ?_
        refine (refAll_yes (hmsg (pre20 I q) (hAt s 0) text) W _ HK.out (hmsg_length _ _ _)).mono ?_
        rintro e w2 ⟨u, rfl, hown, hb2⟩
        have hDD : allD (hmsg (pre20 I q) (hAt s 0) text) W = D := HDE.out
        rw [hDD] at hown
        exact hK.out _ _ hb2 ⟨u, rfl, hown.base (Nat.zero_le _)⟩
      refine StepsAt.cons 8 (fun _ _ _ h hb => AlON.keep h hb) (fun _ _ => rfl) rfl rfl (fun x wA hb hd K hK => ?_) ?_
      · have h7 : AlON D (x 7) wA := hd 7 (by kernel_rfl)
        exact hK.out _ _ (Below.refl _ _) h7
      refine StepsAt.cons 9 (fun _ _ _ h hb => OwIN.keep h hb) (fun _ _ => rfl) rfl rfl (fun x wA hb hd K hK => ?_) ?_
      · have h8 : AlON D (x 8) wA := hd 8 (by kernel_rfl)
        obtain ⟨u, e7, hu⟩ := h8
        have key := hK.out u wA (Below.refl _ _) hu
        simp only [Act.put, e7, List.setIfInBounds_toArray, List.set_cons_zero, List.set_cons_succ] at key
        go_simp
        exact key
      refine StepsAt.val 10 (.int .i64 0) rfl (fun _ _ => rfl) rfl rfl (fun x wA hb hd => ?_) ?_
      · have h8 : AlON D (x 8) wA := hd 8 (by kernel_rfl)
        obtain ⟨u, e7, hu⟩ := h8
        rw [e7]
        first | (go_simp; done) | (go_simp; rfl)
      refine StepsAt.cons 11 (fun _ _ _ h hb => OwIN.keep h hb) (fun _ _ => rfl) rfl rfl (fun x wA hb hd K hK => ?_) ?_
      · have h9 : OwIN D (x 9) wA := hd 9 (by kernel_rfl)
        exact hK.out _ _ (Below.refl _ _) h9
      refine StepsAt.val 12 (.int .i64 0) rfl (fun _ _ => rfl) rfl rfl (fun x wA hb hd => ?_) ?_
      · have h10 : x 10 = .int .i64 0 := hd 10 (by kernel_rfl)
        rw [h10]
        first | (go_simp; done) | (go_simp; rfl)
      exact StepsAt.done
    case fin =>
      intro x wA hb hd
      have h12 : x 12 = .int .i64 0 := hd 12 (by omega)
      have h11 : OwIN D (x 11) wA := hd 11 (by omega)
      refine AnyTill.any (S := fun _ => True) (m := 13) _ _ _ _ ?_
      refine AnyTill.done (by kernel_rfl) ?_
      refine NoPanic.normal ?_
      rw [h12]
      obtain ⟨AD, cD, eD, hcD, hmD⟩ := RdI.shape (OwnI.rd h11)
      obtain ⟨aD, hAD, _⟩ := RdI.at_ (by rw [← eD]; exact OwnI.rd h11) 0 (by rw [HDL.out]; exact hM0)
      subst hAD
      rw [HDL.out] at eD hcD
      unfold maxLen at hmD
      have U2 : Hid (Blk wA g1 z32 30) := T2.out.below hb T2.out.lt
      have UK : Hid (Blk wA gK (kcs I q k0 (W : Int)) 119) := TK.out.below hb TK.out.lt
      have UB : Hid (Below w.heap.size w wA) := hbw wA hb
      have UD : Hid (OwnI 3 wA 0 (.slice (some aD) M cD) D) := by rw [← eD]; exact h11
      generalize x 0 = z0'
      generalize x 1 = z1
      generalize x 2 = z2
      generalize x 3 = z3
      generalize x 4 = z4
      generalize x 5 = z5
      generalize x 6 = z6
      generalize x 7 = z7
      generalize x 8 = z8'
      generalize x 9 = z9
      generalize x 10 = z10
      rw [eD]
      clear hd h11 h12 eD hb T2 TK TB hbw x
      obtain ⟨b, hbE⟩ : ∃ b, wA.heap.size = b := ⟨_, rfl⟩
      have K0 : Hid (RCdAt w I q W gK g1 b 0 D (.slice (some aD) M cD) (.slice (some ⟨b, 0, none⟩) 0 0) (rowsTo (cndF (pre20 I q) s D W) 0) (wA.alloc (.cells #[] 30))) := by
        refine ⟨UK.out.alloc _, U2.out.alloc _, UD.out.alloc _, ?_, ?_, by simp; omega, (UB.out.alloc UB.out.size _)⟩
        · rw [← hbE]; exact UD.out.rd.below ((Below.refl _ _).alloc (Nat.le_refl _) _)
        · rw [← hbE]
          exact World.ownsRow_made (base := wA.heap.size) (e := 30) (size := 32) wA #[] 0 (Nat.le_refl _) (by unfold maxLen; omega) rfl
      have gKb : gK < b := by rw [← hbE]; exact UK.out.lt
      have g1b : g1 < b := by rw [← hbE]; exact U2.out.lt
      have hwb : w.heap.size ≤ b := by rw [← hbE]; exact UB.out.size
      clear UK U2 UB UD
      go_wp2
      clear hbE
      generalize wA.alloc (.cells #[] 30) = wB at K0 ⊢
      go_loopw [15, 16] (fun v x wr => ∃ i : Nat, i ≤ M ∧ x = .int .i64 (i : Int) ∧ Hid (RCdAt w I q W gK g1 b i D (.slice (some aD) M cD) v (rowsTo (cndF (pre20 I q) s D W) i) wr)) (fun _ x _ => M - (intOf x).toNat)
      case atStart => exact ⟨0, by omega, rfl, K0⟩
      case round =>
        clear K0
        obtain ⟨i, hi, rfl, KK⟩ := hrel
        by_cases hi2 : i < M
        · have zi : (i : Int) < (M : Int) := by omega
          go_wp2_with (first | (refine wpList_buildTo rfl 30 _ rfl _ rfl z32.toArray (by kernel_rfl) ?_) | (refine wpList_alloc_blk rfl 30 rfl _ z24 ?_))
          intro wb a1 a2 a3
          obtain ⟨gx, hgx⟩ : ∃ g, wr.heap.size = g := ⟨_, rfl⟩
          rw [hgx] at a1 a2 a3 ⊢
          have A1 := Lib.hid a1
          obtain ⟨wf, hwf⟩ : ∃ t, wb.setRow gx z32.toArray = t := ⟨_, rfl⟩
          have hbf : Below wr.heap.size wr wf := by rw [← hwf, hgx]; exact below_setRow' a3 (Nat.le_refl _) _
          have HGX := Lib.hid hgx
          have HBF : Hid (Below gx wr wf) := by rw [hgx] at hbf; exact hbf
          have LS : Hid (Blk wf gx z32 30) := by rw [← hwf]; exact a1.setRow
          clear a1 a2 a3 hgx hbf
          go_wp2_with (first | (refine wpList_store_blk rfl 30 _ _ rfl gx z32 z32 30 rfl rfl A1.out s24 rfl (bys_one' _) ?_; rw [hwf]))
          clear A1 hwf
          obtain ⟨R, hR⟩ : ∃ R, hAt s (i + 1) = R := ⟨_, rfl⟩
          have hRl : R.length = 32 := by have := HN.out; have := HNM.out; rw [← hR]; unfold hAt; rw [List.length_take, List.length_drop]; omega
          have HRE := Lib.hid hR
          have HRL := Lib.hid hRl
          have K1 : Hid (Blk wf gx (halfV R 0) 30 ∧ Below gx wr wf) := ⟨by rw [halfV_0]; exact LS.out, HBF.out⟩
          clear hR hRl LS HBF
          go_wp2
          go_loopw [18] (fun x wr2 => ∃ j : Nat, j ≤ 32 ∧ x = .int .i64 (j : Int) ∧ Hid (Blk wr2 gx (halfV R j) 30 ∧ Below gx wr wr2)) (fun x _ => 32 - (intOf x).toNat)
          case atStart => exact ⟨0, by omega, rfl, K1⟩
          case round =>
            clear K1
            obtain ⟨j, hj, rfl, KJ⟩ := hrel
            by_cases hj2 : j < 32
            · have zj : (j : Int) < 32 := by omega
              obtain ⟨m, hm1⟩ : ∃ m, 36 + 32 * i + j = m := ⟨_, rfl⟩
              have z1 : 36 + 32 * (i : Int) + (j : Int) = (m : Int) := by omega
              have zm : (m : Int) < (n : Int) := by have := HNM.out; omega
              have hsB : Below w.heap.size w wr := KK.out.2.2.2.2.2.2.trans (KJ.out.2.mono (by rw [← HGX.out]; exact KK.out.2.2.2.2.2.2.size))
              have cS : wr.cell? (aS.add m) = some (.int .u8 (((R.getD j 0).toNat : Nat) : Int)) := by
                obtain ⟨A', c', hv', _, _, _, hc'⟩ := HSV.out.below hsB
                injection hv' with e1 e2 e3
                have h2 := (hc' aS e1.symm).2 m (by have := HN.out; have := HNM.out; omega)
                rw [h2]
                have hg : R.getD j 0 = s[m]'(by have := HN.out; have := HNM.out; omega) := by
                  rw [← HRE.out]; unfold hAt
                  rw [List.getD_eq_getElem?_getD, List.getElem?_take, if_pos hj2, List.getElem?_drop, show 4 + (i + 1) * 32 + j = m by omega, List.getElem?_eq_getElem (by have := HN.out; have := HNM.out; omega)]
                  rfl
                rw [hg]
              have cx := KJ.out.1.cell j
              have hxj : (halfV R j)[j]? = some (.int .u8 0) := by simp [halfV, hj2]
              rw [hxj] at cx
              have fx := KJ.out.1.frozen j
              obtain ⟨B, hB⟩ : ∃ B, (R.getD j 0).toNat = B := ⟨_, rfl⟩
              rw [hB] at cS
              have HB := Lib.hid hB
              have HM1 := Lib.hid hm1
              clear hm1 hB hsB hxj
              go_wp2
              go_roundw
              case rel => exact ⟨j + 1, by omega, by go_num, ⟨by rw [← halfV_set, HB.out]; exact KJ.out.1.set j _, KJ.out.2.setCell (by simp) _⟩⟩
              case measure => simp [intOf]; omega
            · have hj3 : j = 32 := by omega
              subst hj3
              have LX : Hid (Blk wr gx (bys R) 30) := by have h := KJ.out.1; rw [halfV_32 R HRL.out] at h; exact h
              have KF := Lib.hid (KK.out.below (by rw [HGX.out]; exact KJ.out.2))
              have hiM : Hid (i < mny W) := by show _ < _; rw [HME.out]; exact hi2
              have H24x : Hid ((Tryz.prog.info? 30).map (·.size) = some (bys R).length) := by show _ = _; rw [bys_length, HRL.out]; exact s24
              clear KJ KK hj
              go_wp2
              obtain ⟨G, hG⟩ : ∃ G, gr W = G := ⟨_, rfl⟩
              have HGE := Lib.hid hG
              obtain ⟨d, hd0⟩ : ∃ d, D.getD i 0 = d := ⟨_, rfl⟩
              have hdG : d ≤ G := by rw [← hd0, ← hG]; exact HDG.out i
              have HDI := Lib.hid hd0
              have cd : Hid (∀ w', Below wr.heap.size wr w' → w'.cell? (aD.add i) = some (.int .i64 (d : Int))) := by
                intro w' hb'
                obtain ⟨aD', hAD, c⟩ := ((KF.out.2.2.1.below hb' (Nat.le_refl _)).rd).at_ i (by rw [HDL.out]; exact hi2)
                injection hAD with hAD
                subst hAD
                rw [hd0] at c
                exact c
              obtain ⟨E, hE⟩ : ∃ E, cndF (pre20 I q) s D W i = E := ⟨_, rfl⟩
              have hEl : E.length = 32 := by rw [← hE]; unfold cndF; exact chn_length _ _ _ _ _ (by rw [HRE.out]; exact HRL.out)
              have HEE := Lib.hid hE
              have HEL := Lib.hid hEl
              have H24e : Hid ((Tryz.prog.info? 30).map (·.size) = some (bys E).length) := by show _ = _; rw [bys_length, hEl]; exact s24
              have HLZe : Hid (z32.length = (bys E).length) := by show _ = _; rw [bys_length, hEl, z32_length]
              clear hG hd0 hE hEl
              refine wp_region_relyG 17 0 (LayG z32 30 wr.heap.size (bys E)) (fun x => ⟨#[Value.agg (bys I).toArray, Value.int IntKind.u32 ↑q, Value.slice At text.length ct, Value.slice (some aS) n cs, Value.pointer (some { block := g0, off := 0 }), undef, undef, undef, Value.pointer (some { block := g1, off := 0 }), Value.int IntKind.i64 0, Value.pointer (some { block := gK, off := 0 }), Value.int IntKind.i64 ↑n, Value.int IntKind.i64 0, Value.slice (some aD) M cD, Value.int IntKind.i64 0, u15, Value.int IntKind.i64 ↑i, Value.pointer (some { block := gx, off := 0 }), Value.int IntKind.i64 ↑32, x 14, x 16, Value.slice (some aS) n cs, Value.int IntKind.i64 ↑n, Value.bool (decide ((n : Int) < 4)), undef, p0, p1, p2, p3, p4, p5, Value.tuple #[Value.int IntKind.i64 ↑n, Value.int IntKind.i64 0], Value.pointer (some { block := gK, off := 49 }), Value.int IntKind.i64 ↑W, Value.tuple #[Value.int IntKind.i64 ↑n, Value.int IntKind.i64 0], Value.int IntKind.i64 ↑n, Value.int IntKind.i64 0, Value.int IntKind.i64 0, Value.bool false, Value.bool false, Value.slice (some aS) n cs, Value.int IntKind.i64 ↑n, Value.int IntKind.i64 ↑n, Value.bool false, Value.bool false, undef, z8', z0', z1, z2, z3, z4, z5, z6, z7, z9, z10, Value.slice (some { block := b, off := 0 }) 0 0, Value.int IntKind.i64 ↑i, Value.slice (some aD) M cD, Value.int IntKind.i64 ↑M, Value.bool true, u62, u63, Value.agg z32.toArray, Value.int IntKind.i64 ↑32, Value.bool false, u67, u68, u69, u70, u71, u72, u73, u74, u75, u76, u77, u78, x 11, x 0, x 1, x 2, x 3, x 4, x 5, x 6, x 7, x 8, x 9, x 10, x 12, x 13, u93, u94, u95, u96, undef, undef, undef], []⟩) (fun jj => ([(fun x w => eqV (.agg (kcs I q k0 (W : Int)).toArray) (x 0) w), (fun x w => eqV (.int .i64 (i : Int)) (x 1) w), (fun x w => eqV (.slice (some aD) M cD) (x 2) w), (fun x w => eqV (.int .i64 (i : Int)) (x 3) w), (fun x w => eqV (.pointer (some (aD.add i))) (x 4) w), (fun x w => eqV (.int .i64 (d : Int)) (x 5) w), (fun x w => eqV (.pointer (some ⟨gK, 49, none⟩)) (x 6) w), (fun x w => eqV (.int .i64 (W : Int)) (x 7) w), (fun x w => (eqV (.int .i64 (G : Int))) (x 8) w), (fun x w => eqV (.agg (bys R).toArray) (x 9) w), (fun x w => (eqV (.tuple #[.agg (bys E).toArray, .int .i64 0])) (x 10) w), (fun x w => eqV (.tuple #[.agg (bys E).toArray, .int .i64 0]) (x 11) w), (fun x w => eqV (.agg (bys E).toArray) (x 12) w), (fun x w => eqV (.int .i64 0) (x 13) w), (fun x w => (NewG z32 30 wr.heap.size (bys E)) (x 14) w), (fun x w => ∃ g, x 14 = .pointer (some ⟨g, 0, none⟩) ∧ wr.heap.size ≤ g ∧ Blk w g (bys E) 30), (fun x w => eqV (.int .i64 0) (x 16) w)] : List ((Nat → Value) → World → Prop)).getD jj (fun _ _ => True)) rfl ⟨fun kk => [_, _, _, _, _, _, _, _, _, _, _, _, _, _, _, undef, _].getD kk undef, rfl⟩ (LayG.drew _ _ _ _ _) (fun _ _ _ h k => h.trans k) (by kernel_rfl) (by kernel_rfl) ?steps ?fin
              case steps =>
                refine StepsG.val 0 (.agg (kcs I q k0 (W : Int)).toArray) (fun w => LayG.refl _ _ _ _ w) rfl (fun _ _ => rfl) rfl rfl (fun x wC hb hd => ?_) ?_
                · exact run_load_blkU 119 (.tmp 10) rfl gK rfl (kcs I q k0 (W : Int)) 119 (KF.out.1.below hb.below KF.out.1.lt) d32 HU.out HD.out H32.out
                refine StepsG.val 1 (.int .i64 (i : Int)) (fun w => LayG.refl _ _ _ _ w) rfl (fun _ _ => rfl) rfl rfl (fun x wC hb hd => ?_) ?_
                · first | (go_simp; done) | (go_simp; rfl)
                refine StepsG.val 2 (.slice (some aD) M cD) (fun w => LayG.refl _ _ _ _ w) rfl (fun _ _ => rfl) rfl rfl (fun x wC hb hd => ?_) ?_
                · first | (go_simp; done) | (go_simp; rfl)
                refine StepsG.val 3 (.int .i64 (i : Int)) (fun w => LayG.refl _ _ _ _ w) rfl (fun _ _ => rfl) rfl rfl (fun x wC hb hd => ?_) ?_
                · first | (go_simp; done) | (go_simp; rfl)
                refine StepsG.val 4 (.pointer (some (aD.add i))) (fun w => LayG.refl _ _ _ _ w) rfl (fun _ _ => rfl) rfl rfl (fun x wC hb hd => ?_) ?_
                · have h2 : x 2 = .slice (some aD) M cD := hd 2 (by kernel_rfl)
                  have h3 : x 3 = .int .i64 (i : Int) := hd 3 (by kernel_rfl)
                  rw [h2, h3]
                  first | (go_simp; done) | (go_simp; rfl)
                refine StepsG.val 5 (.int .i64 (d : Int)) (fun w => LayG.refl _ _ _ _ w) rfl (fun _ _ => rfl) rfl rfl (fun x wC hb hd => ?_) ?_
                · have h4 : x 4 = .pointer (some (aD.add i)) := hd 4 (by kernel_rfl)
                  have c := cd.out wC hb.below
                  rw [h4]
                  first | (go_simp; done) | (go_simp; rfl)
                refine StepsG.val 6 (.pointer (some ⟨gK, 49, none⟩)) (fun w => LayG.refl _ _ _ _ w) rfl (fun _ _ => rfl) rfl rfl (fun x wC hb hd => ?_) ?_
                · first | (go_simp; done) | (go_simp; rfl)
                refine StepsG.val 7 (.int .i64 (W : Int)) (fun w => LayG.refl _ _ _ _ w) rfl (fun _ _ => rfl) rfl rfl (fun x wC hb hd => ?_) ?_
                · have h6 : x 6 = .pointer (some ⟨gK, 49, none⟩) := hd 6 (by kernel_rfl)
                  have c := ((KF.out.1.below hb.below KF.out.1.lt).cell 49).trans (kcs_z I k0 q (W : Int) HI.out k0_length)
                  rw [h6]
                  first | (go_simp; done) | (go_simp; rfl)
                refine StepsG.cons 8 (eqV (.int .i64 (G : Int))) rfl (fun _ _ _ h hb => h) (fun _ _ => rfl) rfl rfl (fun x wC hb hd K hK => ?_) ?_
                · have h7 : Hid (x 7 = .int .i64 (W : Int)) := hd 7 (by kernel_rfl)
                  go_simp
                  refine calls_args (args2 := #[.int .i64 (W : Int)]) (by rw [h7.out]) ?_
                  refine (last_any W _ HK.out).mono ?_
                  rintro e w2 ⟨rfl, rfl⟩
                  rw [HGE.out]
                  exact hK.out _ _ (LayG.refl _ _ _ _ _) rfl
                refine StepsG.val 9 (.agg (bys R).toArray) (fun w => LayG.refl _ _ _ _ w) rfl (fun _ _ => rfl) rfl rfl (fun x wC hb hd => ?_) ?_
                · exact run_load_blk 30 (.tmp 17) rfl gx rfl (bys R) 30 (LX.out.below hb.below LX.out.lt) 32 5 tu24 H24x.out
                refine StepsG.cons 10 (eqV (.tuple #[.agg (bys E).toArray, .int .i64 0])) rfl (fun _ _ _ h hb => h) (fun _ _ => rfl) rfl rfl (fun x wC hb hd K hK => ?_) ?_
                · have h0 : Hid (x 0 = .agg (kcs I q k0 (W : Int)).toArray) := hd 0 (by kernel_rfl)
                  have h1 : Hid (x 1 = .int .i64 (i : Int)) := hd 1 (by kernel_rfl)
                  have h5 : Hid (x 5 = .int .i64 (d : Int)) := hd 5 (by kernel_rfl)
                  have h8 : Hid (x 8 = .int .i64 (G : Int)) := hd 8 (by kernel_rfl)
                  have h9 : Hid (x 9 = .agg (bys R).toArray) := hd 9 (by kernel_rfl)
                  go_simp
                  refine calls_args (args2 := #[.agg (kcs I q k0 (W : Int)).toArray, .int .i64 (i : Int), .int .i64 (d : Int), .int .i64 ((d + (G - d) : Nat) : Int), .agg (bys R).toArray]) (by rw [h0.out, h1.out, h5.out, h8.out, h9.out, show d + (G - d) = G by omega]) ?_
                  refine (refChain_yes I k0 R q W i d (G - d) _ HI.out k0_length HRL.out hq HK.out hiM.out (by rw [HGE.out]; omega)).mono ?_
                  rintro e w2 ⟨rfl, hb2⟩
                  refine hK.out _ _ (LayG.grow hb2 hb.below.size) ?_
                  rw [← HEE.out]
                  unfold cndF
                  rw [HDI.out, HGE.out, HRE.out]
                  rfl
                refine StepsG.val 11 (.tuple #[.agg (bys E).toArray, .int .i64 0]) (fun w => LayG.refl _ _ _ _ w) rfl (fun _ _ => rfl) rfl rfl (fun x wC hb hd => ?_) ?_
                · have h10 : x 10 = .tuple #[.agg (bys E).toArray, .int .i64 0] := hd 10 (by kernel_rfl)
                  rw [h10]
                  first | (go_simp; done) | (go_simp; rfl)
                refine StepsG.val 12 (.agg (bys E).toArray) (fun w => LayG.refl _ _ _ _ w) rfl (fun _ _ => rfl) rfl rfl (fun x wC hb hd => ?_) ?_
                · have h11 : x 11 = .tuple #[.agg (bys E).toArray, .int .i64 0] := hd 11 (by kernel_rfl)
                  rw [h11]
                  first | (go_simp; done) | (go_simp; rfl)
                refine StepsG.val 13 (.int .i64 0) (fun w => LayG.refl _ _ _ _ w) rfl (fun _ _ => rfl) rfl rfl (fun x wC hb hd => ?_) ?_
                · have h11 : x 11 = .tuple #[.agg (bys E).toArray, .int .i64 0] := hd 11 (by kernel_rfl)
                  rw [h11]
                  first | (go_simp; done) | (go_simp; rfl)
                refine StepsG.cons 14 (NewG z32 30 wr.heap.size (bys E)) rfl (fun _ _ _ h hb => NewG.keep h hb) (fun _ _ => rfl) rfl rfl (fun x wC hb hd K hK => ?_) ?_
                · refine wp_of_list rfl (wpList_alloc_blk rfl 30 rfl _ z24 ?_)
                  intro w2 c1 c2 c3
                  exact hK.out _ _ (LayG.grow c3 hb.below.size) ⟨_, rfl, hb.below.size, .inl c1⟩
                refine StepsG.consX 15 (fun x i v w w' hi hdp h hb => by obtain ⟨g, h1, h2, h3⟩ := h; exact ⟨g, by rw [upd_ne _ _ _ _ (fun e => hdp (by rw [← e]; decide))]; exact h1, h2, hb.done g h3⟩) (fun _ _ => rfl) rfl rfl (fun x wC hb hd K hK => ?_) ?_
                · have h12 : Hid (x 12 = .agg (bys E).toArray) := hd 12 (by kernel_rfl)
                  have h14 : NewG z32 30 wr.heap.size (bys E) (x 14) wC := hd 14 (by kernel_rfl)
                  obtain ⟨g, e10, hgb, hor⟩ := h14
                  rcases hor with hz | hz
                  · refine wp_store_blk 30 (.tmp 19) (.tmp 91) rfl g (bys E) z32 30 e10 h12.out hz H24e.out HLZe.out (bys_one' _) ?_
                    exact hK.out undef _ (LayG.lay hgb (.inl hz)) ⟨g, by rw [upd_ne _ _ _ _ (by omega)]; exact e10, hgb, hz.setRow⟩
                  · refine wp_store_blk 30 (.tmp 19) (.tmp 91) rfl g (bys E) (bys E) 30 e10 h12.out hz H24e.out rfl (bys_one' _) ?_
                    exact hK.out undef _ (LayG.lay hgb (.inr hz)) ⟨g, by rw [upd_ne _ _ _ _ (by omega)]; exact e10, hgb, hz.setRow⟩
                refine StepsG.val 16 (.int .i64 0) (fun w => LayG.refl _ _ _ _ w) rfl (fun _ _ => rfl) rfl rfl (fun x wC hb hd => ?_) ?_
                · have h13 : x 13 = .int .i64 0 := hd 13 (by kernel_rfl)
                  rw [h13]
                  first | (go_simp; done) | (go_simp; rfl)
                exact StepsG.done
              case fin =>
                intro x wC hb hd
                have f16 : x 16 = .int .i64 0 := hd 16 (by omega)
                obtain ⟨gE, e14, hgb, hz⟩ : ∃ g, x 14 = .pointer (some ⟨g, 0, none⟩) ∧ wr.heap.size ≤ g ∧ Blk wC g (bys E) 30 := hd 15 (by omega)
                refine AnyTill.any (S := fun _ => True) (m := 17) _ _ _ _ ?_
                refine AnyTill.done (by kernel_rfl) ?_
                refine NoPanic.normal ?_
                rw [f16, e14]
                generalize x 0 = y0
                generalize x 1 = y1
                generalize x 2 = y2
                generalize x 3 = y3
                generalize x 4 = y4
                generalize x 5 = y5
                generalize x 6 = y6
                generalize x 7 = y7
                generalize x 8 = y8
                generalize x 9 = y9
                generalize x 10 = y10
                generalize x 11 = y11
                generalize x 12 = y12
                generalize x 13 = y13
                have KG := Lib.hid (KF.out.below hb.below)
                have LE : Hid (Blk wC gE (bys E) 30) := hz
                clear hd f16 e14 hgb hz hb KF LX cd x
                obtain ⟨N, hN⟩ : ∃ N, wC.heap.size = N := ⟨_, rfl⟩
                have KH := Lib.hid (KG.out.below ((Below.refl _ _).alloc (Nat.le_refl _) (.cells (bys E).toArray 30)))
                have LN : Hid (Blk (wC.alloc (.cells (bys E).toArray 30)) N (bys E) 30) := by rw [← hN]; exact heap_alloc_new wC _
                have hbH : b ≤ (wC.alloc (.cells (bys E).toArray 30)).heap.size := KH.out.2.2.2.2.2.1
                go_wp2_with (first | (refine wpList_load_blk rfl 30 _ rfl gE rfl (bys E) 30 LE.out 32 5 tu24 H24e.out ?_) | (refine wpList_bsH rfl _ rfl E HEL.out rfl N hN ?_) | (at_builtin; refine wpList_appH rfl _ _ rfl b _ i N (rowsTo (cndF (pre20 I q) s D W) i) E rfl KH.out.2.2.2.2.1 rfl HEL.out LN.out (by omega) hbH ?_))
                intro v5 w5 hown5 hb5
                have K5 : Hid (RCdAt w I q W gK g1 b (i + 1) D (.slice (some aD) M cD) v5 (rowsTo (cndF (pre20 I q) s D W) (i + 1)) w5) := by
                  obtain ⟨f1, f2, f3, f3', f4, f5, f6⟩ := KH.out
                  rw [rowsTo_succ, HEE.out]
                  exact ⟨f1.below hb5 gKb, f2.below hb5 g1b, (f3.low f3' (by rw [HDL.out]; exact hM0) hb5), f3'.below hb5, hown5, Nat.le_trans f5 hb5.size, f6.trans (hb5.mono hwb)⟩
                clear hown5 hb5 KG KH LE LN hbH
                go_wp2
                go_roundw
                case rel => exact ⟨i + 1, by omega, by go_num, K5⟩
                case measure => simp [intOf]; omega
        · have hiM : i = M := by omega
          subst hiM
          have zi : ¬ ((i : Int) < (i : Int)) := by omega
          have hpE : Hid (hpub (pre20 I q) (rowsTo (cndF (pre20 I q) s D W) i) = cndL (pre20 I q) s text W) := by show _ = _; unfold cndL; rw [HDE.out, HME.out]
          have H24c : Hid ((Tryz.prog.info? 30).map (·.size) = some (bys (cndL (pre20 I q) s text W)).length) := by show _ = _; rw [bys_length]; unfold cndL; rw [hpub_length]; exact s24
          have HLZc : Hid (z32.length = (bys (cndL (pre20 I q) s text W)).length) := by show _ = _; rw [bys_length, z32_length]; unfold cndL; rw [hpub_length]
          go_wp2_with (refine wpList_load_blkU rfl 119 _ rfl gK rfl (kcs I q k0 (W : Int)) 119 KK.out.1 d32 HU.out HD.out H32.out ?_)
          refine (refPub_any I k0 _ q i _ _ _ HI.out k0_length hq hM0 (by omega) (KK.out.2.2.2.2.1.base (Nat.zero_le _))).mono ?_
          rintro e w6 ⟨rfl, hb6⟩
          rw [hpE.out]
          have V2 : Hid (Blk w6 g1 z32 30) := KK.out.2.1.below hb6 KK.out.2.1.lt
          have VB : Hid (Below w.heap.size w w6) := KK.out.2.2.2.2.2.2.trans (hb6.mono KK.out.2.2.2.2.2.2.size)
          clear hb6 KK
          go_wp2_with (refine wpList_store_blk rfl 30 _ _ rfl g1 (bys (cndL (pre20 I q) s text W)) z32 30 rfl rfl V2.out H24c.out HLZc.out (bys_one' _) ?_)
          refine bodyPost_ret (v := .tuple #[.agg (bys (cndL (pre20 I q) s text W)).toArray, .int .i64 0]) ?_ rfl ?_
          · exact ret_blk2 rfl _ _ g1 30 _ _ rfl rfl V2.out.setRow 32 5 tu24 H24c.out
          · exact ⟨rfl, below_setRow' VB.out (by omega) _⟩
end Go.Proofs.YtllncnnigjgadaaGreat
