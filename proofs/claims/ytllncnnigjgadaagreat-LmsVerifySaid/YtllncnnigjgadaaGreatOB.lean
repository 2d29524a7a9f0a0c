/-
  Package ots: types and shapeOf, for every int. Package ots: hasDigit, long, Long, Type and Secret, for every input. Package ots: Secret, for every key and every int. Package ots: Chain, for every key, every three ints and every hash. Package ots: Public of a key whose W is no width; the statements' live question, which is answered with true.
-/
import Derived.Test.YtllncnnigjgadaaGreatOA
import Derived.Maps.Own
import Derived.Maps.OwnOps
import Derived.Maps.RangeWalk
import Derived.ScopeJumps
import Derived.WalkMore
namespace Go.Proofs.YtllncnnigjgadaaGreat
open Go.RowKit
open Go.Maps (Keyed int_keyed)

/-- A scope in which the run may jump ahead to label l, and jumps no more behind it. -/
theorem wp_scope_goto {P : Program} {a : Act} {w : World} {Q : Exit → Act → World → Prop} {c rest : Code} (l : Nat) (hf : findLabel c l = some rest)
    (h : c.wp P (Exit.jump l (fun a w => rest.wp P (Exit.noGoto Q) a w) Q) a w) : (Code.scope c).wp P Q a w :=
  wp_scope_jumps l _ (fun _ _ => 0) hf h (fun a w hJ => Code.wp_mono (fun e a' w' he => by cases e <;> first | exact he | exact he.elim) hJ)
theorem jump_ret {l : Nat} {J : Act → World → Prop} {Q : Exit → Act → World → Prop} {a : Act} {w : World} : Exit.jump l J Q .ret a w = Q .ret a w := rfl

/-- The types, as a map's datum. -/
def Dt : DataW Unit := .map [(.int .i64 1, .lit (.int .u32 1)), (.int .i64 2, .lit (.int .u32 2)), (.int .i64 4, .lit (.int .u32 3)), (.int .i64 8, .lit (.int .u32 4))]
theorem Dt_eq : (((((DataW.map [] : DataW Unit).put (.int .i64 1) (.lit (.int .u32 1))).put (.int .i64 2) (.lit (.int .u32 2))).put (.int .i64 4) (.lit (.int .u32 3))).put (.int .i64 8) (.lit (.int .u32 4))) = Dt := by kernel_rfl
theorem law3 : Keyed Tryz.prog 3 := int_keyed Tryz.underlying3
theorem zero23 (w : World) : (zeroValue 60).run Tryz.prog w = .ok (.int .u32 0) w := by kernel_rfl

theorem wpList_insert_own {H : Type} {P : Program} (w : World) {ops : Array Oper} {rest : List Oper} {o : Oper} {a : Act} {Q : Exit → Act → World → Prop}
    (hg : o.guard = none) (m x v : Operand) (t : TypeId) (hop : o.op = Op.insert t m x v)
    (k e : TypeId) (K : Keyed P k) (ht : P.underlying t = some (.map k e)) (R : Value → Option (DataW H × List MemPlace)) (b n : Nat) (D : DataW H)
    (hm : a.eval m = .map (some b)) (hown : w.ownsMap P k R b n D) (hn : n < maxLen) (key val : Value) (kl : Lit) (hx : a.eval x = key) (hv : a.eval v = val) (hkey : keyOf P k key = some kl)
    (d : DataW H) (ps : List MemPlace) (hval : R val = some (d, ps))
    (hK : ∀ w', w'.ownsMap P k R b (n + 1) (D.put kl d) → w.grownBy w' (some b) → wpList P ops Q rest (a.put o.dst undef) w') :
    wpList P ops Q (o :: rest) a w := by
  refine wpList_plain hg fun K' hK' => ?_
  obtain ⟨w', hrun, r1, r2⟩ := hown.update K ht hn hkey hval
  unfold Oper.wp
  simp [execOp, hop, hm, hx, hv, hrun, Result.andThen]
  exact hK' _ _ (hK w' r1 r2)

/-- What types answers. -/
def Types (w : World) (e : Ending) (w' : World) : Prop := ∃ B, e = .returned (.map (some B)) ∧ w'.ownsMap Tryz.prog 3 (plainElem (H := Unit) Tryz.prog 60) B 4 Dt ∧ Below w.heap.size w w' ∧ w.heap.size ≤ B

set_option maxHeartbeats 400000 in
theorem types_any (w : World) : Calls Tryz.prog 91 #[] w (Types w) := by
  have hmm := @run_makeMap Tryz.prog
  go_enter Tryz.func91, Tryz.ntmps91
  go_wp2_with (refine wpList_insert_own (H := Unit) _ rfl _ _ _ 135 rfl 3 60 law3 Tryz.underlying135 (plainElem Tryz.prog 60) w.heap.size 0 (.map []) rfl (World.ownsMap_made _ _ _ _) (by unfold maxLen; omega) _ _ (.int .i64 1) rfl rfl (by kernel_rfl) (.lit (.int .u32 1)) [] (by kernel_rfl) ?_)
  intro w1 o1 g1
  have hb0 : Below w.heap.size w (w.alloc (.map #[] 0)) := (Below.refl _ _).alloc (Nat.le_refl _) _
  have B1 : Hid (Below w.heap.size w w1) := hb0.grown g1 (by simp) (fun k hk => by cases hk; exact Nat.le_refl _)
  have O1 := Lib.hid o1
  clear o1 g1 hb0
  go_wp2_with (refine wpList_insert_own (H := Unit) _ rfl _ _ _ 135 rfl 3 60 law3 Tryz.underlying135 (plainElem Tryz.prog 60) w.heap.size 1 _ rfl O1.out (by unfold maxLen; omega) _ _ (.int .i64 2) rfl rfl (by kernel_rfl) (.lit (.int .u32 2)) [] (by kernel_rfl) ?_)
  intro w2 o2 g2
  have B2 : Hid (Below w.heap.size w w2) := B1.out.grown g2 B1.out.size (fun k hk => by cases hk; exact Nat.le_refl _)
  have O2 := Lib.hid o2
  clear o2 g2 O1 B1
  go_wp2_with (refine wpList_insert_own (H := Unit) _ rfl _ _ _ 135 rfl 3 60 law3 Tryz.underlying135 (plainElem Tryz.prog 60) w.heap.size 2 _ rfl O2.out (by unfold maxLen; omega) _ _ (.int .i64 4) rfl rfl (by kernel_rfl) (.lit (.int .u32 3)) [] (by kernel_rfl) ?_)
  intro w3 o3 g3
  have B3 : Hid (Below w.heap.size w w3) := B2.out.grown g3 B2.out.size (fun k hk => by cases hk; exact Nat.le_refl _)
  have O3 := Lib.hid o3
  clear o3 g3 O2 B2
  go_wp2_with (refine wpList_insert_own (H := Unit) _ rfl _ _ _ 135 rfl 3 60 law3 Tryz.underlying135 (plainElem Tryz.prog 60) w.heap.size 3 _ rfl O3.out (by unfold maxLen; omega) _ _ (.int .i64 8) rfl rfl (by kernel_rfl) (.lit (.int .u32 4)) [] (by kernel_rfl) ?_)
  intro w4 o4 g4
  rw [Dt_eq] at o4
  have B4 : Hid (Below w.heap.size w w4) := B3.out.grown g4 B3.out.size (fun k hk => by cases hk; exact Nat.le_refl _)
  have O4 := Lib.hid o4
  clear o4 g4 O3 B3
  go_wp2
  go_ret
  exact ⟨_, rfl, O4.out, B4.out, Nat.le_refl _⟩

theorem wrap_i64 (n : Int) (h0 : 0 ≤ n) (h1 : n ≤ 9223372036854775807) : IntKind.i64.wrap n = n := by
  simp [IntKind.wrap, IntKind.bits, IntKind.signed]
  omega
/-- The value is the map of types. -/
def TypN : Value → World → Prop := fun v w => ∃ B, v = .map (some B) ∧ w.ownsMap Tryz.prog 3 (plainElem (H := Unit) Tryz.prog 60) B 4 Dt
theorem below_grownN {w w' : World} (h : Below w.heap.size w w') : w.grownBy w' none := ⟨h.os, h.tape, h.output, h.size, fun k hk _ => h.block k hk⟩
theorem TypN.keep {v : Value} {w w' : World} (h : TypN v w) (hb : Below w.heap.size w w') : TypN v w' := by
  obtain ⟨B, hv, ho⟩ := h
  exact ⟨B, hv, ho.kept (below_grownN hb) (by simp)⟩
theorem key3 (k : Nat) (hk : Wd k) : keyOf Tryz.prog 3 (.int .i64 (k : Int)) = some (.int .i64 (k : Int)) := by
  rcases hk with rfl | rfl | rfl | rfl <;> kernel_rfl
/-- The type of a width. -/
def typ (k : Nat) : Nat := if k = 8 then 4 else if k = 4 then 3 else k
/-- What a width determines, as cells. -/
def shp (k : Nat) : List Value := [.int .u32 (typ k : Nat), .int .i64 ((onn k + chk k : Nat) : Int), .int .i64 (gr k : Nat)]
def shp0 : List Value := [.int .u32 0, .int .i64 0, .int .i64 0]
theorem zi57 : (Tryz.prog.info? 105).map (·.zero) = some (some (.agg shp0.toArray)) := by kernel_rfl
theorem s57 : (Tryz.prog.info? 105).map (·.size) = some 3 := by kernel_rfl
def rowB (o : Option TypeDesc) : Bool := match o with | some (.struct _) | some (.array _ _) => true | _ => false
theorem row_of {o : Option TypeDesc} (h : rowB o = true) : ∃ d, o = some d ∧ d.isRow = true := by
  cases o with
  | none => cases h
  | some d => exact ⟨d, rfl, by cases d <;> first | rfl | cases h⟩
theorem row57 : ∃ d, Tryz.prog.underlying 105 = some d ∧ d.isRow = true := row_of (by kernel_rfl)
theorem row26 : ∃ d, Tryz.prog.underlying 95 = some d ∧ d.isRow = true := row_of (by kernel_rfl)
theorem shp0_one : shp0.toArray.all (·.oneCell') = true := by simp [shp0, Value.oneCell']
theorem shp_one (k : Nat) : (shp k).toArray.all (·.oneCell') = true := by simp [shp, Value.oneCell']
theorem typ_at (k : Nat) (hk : Wd k) : ∀ z, Dt.atKey (.int .i64 (k : Int)) z = .lit (.int .u32 (typ k : Nat)) := by
  intro z
  rcases hk with rfl | rfl | rfl | rfl <;> rfl

/-- What a function answers whose first result lies in a variable of its own (an array, a struct), the second one in a slot. -/
theorem ret_blk2U {P : Program} {fn : Func} {p u : Tmp} {ty : TypeId} (h : fn.results = #[.cell p ty, .tmp u]) (tmps : Array Value) (w : World) (g : Nat) (t : TypeId) (cs : List Value) (v : Value)
    (hp : tmps.getD p undef = .pointer (some ⟨g, 0, none⟩)) (hv : tmps.getD u undef = v) (hb : Blk w g cs t) (d : TypeDesc) (hu : P.underlying ty = some d) (hd : d.isRow = true) (hi : (P.info? ty).map (·.size) = some cs.length) :
    (results fn tmps).run P w = .ok (.tuple #[.agg cs.toArray, v]) w := by
  rw [results_cell_tmp h, hp]
  simp [asAddr, Result.andThen, run_loadVar_row w g t ty cs.toArray (0, 0) d hb hu (by cases d <;> first | rfl | cases hd) (by simpa using hi)]
  simpa using hv

set_option maxRecDepth 100000 in
set_option maxHeartbeats 400000 in
theorem shapeOf_yes (k : Nat) (w : World) (hk : Wd k) : Calls Tryz.prog 87 #[.int .i64 (k : Int)] w (TwoD (.agg (shp k).toArray) (.int .i64 0) w) := by
  have HK := Lib.hid hk
  obtain ⟨k1, k8, hP, hG⟩ := hk.le
  have hC := chk_le k
  clear hk
  obtain ⟨N, hN⟩ : ∃ N, onn k = N := ⟨_, rfl⟩
  obtain ⟨M, hM⟩ : ∃ N, chk k = N := ⟨_, rfl⟩
  obtain ⟨G, hGe⟩ : ∃ N, gr k = N := ⟨_, rfl⟩
  obtain ⟨Y, hYe⟩ : ∃ N, typ k = N := ⟨_, rfl⟩
  obtain ⟨S, hS⟩ : ∃ S, N + M = S := ⟨_, rfl⟩
  obtain ⟨T, hT⟩ : ∃ T, G + 1 = T := ⟨_, rfl⟩
  have HSH : Hid (shp k = [.int .u32 (Y : Int), .int .i64 (S : Int), .int .i64 (G : Int)]) := by show _ = _; unfold shp; rw [hN, hM, hGe, hYe, hS]
  have HNE := Lib.hid hN
  have HME := Lib.hid hM
  have HTE : Hid (gr k + 1 = T) := by show _ = _; rw [hGe]; exact hT
  have HYE := Lib.hid hYe
  rw [hN] at hP
  rw [hM] at hC
  rw [hGe] at hG
  clear hN hM hGe hYe
  obtain ⟨d57, hu57, hd57⟩ := row57
  have HU := Lib.hid hu57
  have HD := Lib.hid hd57
  clear hu57 hd57
  go_enter Tryz.func87, Tryz.ntmps87
  go_wp2_with (refine wpList_alloc_blk rfl 105 rfl _ zi57 ?_)
  intro w1 a1 a2 a3
  have A1 := Lib.hid a1
  have A2 := Lib.hid a2
  have A3 := Lib.hid a3
  clear a1 a2 a3
  go_wp2
  refine wp_scope_goto 0 rfl ?_
  go_wp2_with fail
  refine (ownX_yes k _ HK.out).mono ?_
  rintro e w2 ⟨rfl, hb⟩
  rw [HNE.out]
  have hs1 := A2.out
  have hs2 := hb.size
  have G1 : Hid (Blk w2 w.heap.size shp0 105) := A1.out.below hb (by omega)
  have GB : Hid (Below w.heap.size w w2) := A3.out.trans (hb.mono (by omega))
  have hg2 : w.heap.size < w2.heap.size := by omega
  clear hb hs1 hs2 A1 A2 A3
  go_wp2_with fail
  refine (checkX_yes k _ HK.out).mono ?_
  rintro e w3 ⟨rfl, hb⟩
  rw [HME.out]
  have E1 : Hid (Blk w3 w.heap.size shp0 105) := G1.out.below hb hg2
  have EB : Hid (Below w.heap.size w w3) := GB.out.trans (hb.mono (by omega))
  have hg3 : w.heap.size < w3.heap.size := Nat.lt_of_lt_of_le hg2 hb.size
  clear hb hg2 G1 GB
  go_wp2
  refine wp_region_rely2 10 2 (fun x => ⟨#[.int .i64 (k : Int), undef, .pointer (some ⟨w.heap.size, 0, none⟩), .int .i64 0, .int .i64 (M : Int), .int .i64 (N : Int), .int .i64 0, .tuple #[.int .i64 (N : Int), .int .i64 0], .int .i64 (k : Int), .tuple #[.int .i64 (N : Int), .int .i64 0], .int .i64 (N : Int), .int .i64 0, .int .i64 0, .bool false, .tuple #[.int .i64 (M : Int), .int .i64 0], .int .i64 (k : Int), .tuple #[.int .i64 (M : Int), .int .i64 0], .int .i64 (M : Int), .int .i64 0, .int .i64 0, .bool false, x 0, x 1, x 2, x 3, x 4, x 5, x 6, x 7, x 8, x 9, undef, undef], []⟩) (fun jj => ([(TypN), eqV (.int .i64 (k : Int)), eqV (.int .u32 (Y : Int)), eqV (.int .i64 (N : Int)), eqV (.int .i64 (M : Int)), eqV (.int .i64 (S : Int)), eqV (.int .i64 (k : Int)), eqV (.int .i64 (T : Int)), eqV (.int .i64 (G : Int)), eqV (.agg (shp k).toArray)] : List (Value → World → Prop)).getD jj (fun _ _ => True)) rfl ⟨fun kk => [_, _, _, _, _, _, _, _, _, _].getD kk undef, rfl⟩ (by kernel_rfl) (by kernel_rfl) ?steps ?fin
  case steps =>
    refine StepsAt.cons 0 (fun _ _ _ h hb => TypN.keep h hb) (fun _ _ => rfl) rfl rfl (fun x w1 hb hd K hK => ?_) ?_
    · go_simp
      refine (types_any _).mono ?_
      rintro e w2 ⟨B, rfl, hown, hb2, _⟩
      exact hK.out _ _ hb2 ⟨B, rfl, hown⟩
    refine StepsAt.val 1 (.int .i64 (k : Int)) rfl (fun _ _ => rfl) rfl rfl (fun x w1 hb hd => ?_) ?_
    · first | (go_simp; done) | (go_simp; rfl)
    refine StepsAt.val 2 (.int .u32 (Y : Int)) rfl (fun _ _ => rfl) rfl rfl (fun x w1 hb hd => ?_) ?_
    · have h0 : TypN (x 0) w1 := hd 0 (by kernel_rfl)
      have h1 : x 1 = .int .i64 (k : Int) := hd 1 (by kernel_rfl)
      obtain ⟨B, e0, hown⟩ := h0
      obtain ⟨c, hrun, hat, _⟩ := hown.lookup_int law3 Tryz.underlying135 Tryz.underlying60 (zero23 _) (key3 k HK.out)
      rw [typ_at k HK.out, HYE.out] at hat
      injection hat with hat
      injection hat with _ hat
      subst hat
      rw [e0, h1]
      first | (go_simp; done) | (go_simp; rfl)
    refine StepsAt.val 3 (.int .i64 (N : Int)) rfl (fun _ _ => rfl) rfl rfl (fun x w1 hb hd => ?_) ?_
    · first | (go_simp; done) | (go_simp; rfl)
    refine StepsAt.val 4 (.int .i64 (M : Int)) rfl (fun _ _ => rfl) rfl rfl (fun x w1 hb hd => ?_) ?_
    · first | (go_simp; done) | (go_simp; rfl)
    refine StepsAt.val 5 (.int .i64 (S : Int)) rfl (fun _ _ => rfl) rfl rfl (fun x w1 hb hd => ?_) ?_
    · have h3 : x 3 = .int .i64 (N : Int) := hd 3 (by kernel_rfl)
      have h4 : x 4 = .int .i64 (M : Int) := hd 4 (by kernel_rfl)
      rw [h3, h4]
      have zz : (N : Int) + (M : Int) = (S : Int) := by omega
      go_simp
      exact wrap_i64 _ (by omega) (by omega)
    refine StepsAt.val 6 (.int .i64 (k : Int)) rfl (fun _ _ => rfl) rfl rfl (fun x w1 hb hd => ?_) ?_
    · first | (go_simp; done) | (go_simp; rfl)
    refine StepsAt.val 7 (.int .i64 (T : Int)) rfl (fun _ _ => rfl) rfl rfl (fun x w1 hb hd => ?_) ?_
    · have h6 : x 6 = .int .i64 (k : Int) := hd 6 (by kernel_rfl)
      rw [h6]
      have hk := HK.out
      have hT := HTE.out
      clear hd h6 hb
      rcases hk with rfl | rfl | rfl | rfl <;> subst hT <;> first | (go_simp; done) | (go_simp; rfl) | (go_simp; decide)
    refine StepsAt.val 8 (.int .i64 (G : Int)) rfl (fun _ _ => rfl) rfl rfl (fun x w1 hb hd => ?_) ?_
    · have h7 : x 7 = .int .i64 (T : Int) := hd 7 (by kernel_rfl)
      rw [h7]
      have zz : (T : Int) - 1 = (G : Int) := by omega
      go_simp
      exact wrap_i64 _ (by omega) (by omega)
    refine StepsAt.val 9 (.agg (shp k).toArray) rfl (fun _ _ => rfl) rfl rfl (fun x w1 hb hd => ?_) ?_
    · have h2 : x 2 = .int .u32 (Y : Int) := hd 2 (by kernel_rfl)
      have h5 : x 5 = .int .i64 (S : Int) := hd 5 (by kernel_rfl)
      have h8 : x 8 = .int .i64 (G : Int) := hd 8 (by kernel_rfl)
      rw [h2, h5, h8, HSH.out]
      first | (go_simp; done) | (go_simp; rfl)
    exact StepsAt.done
  case fin =>
    intro x w1 hb hd
    have hr : x 9 = .agg (shp k).toArray := hd 9 (by omega)
    refine AnyTill.any (S := fun _ => True) (m := 12) _ _ _ _ ?_
    refine AnyTill.one (i := 10) (by kernel_rfl) rfl (by rfl) (fun K hK => ?_)
    refine wp_store_blk 105 (.tmp 2) (.tmp 30) rfl w.heap.size (shp k) shp0 105 rfl hr (E1.out.below hb hg3) s57 rfl (shp_one k) ?_
    refine hK.out _ _ (.inr trivial) ?_
    clear hK K
    refine AnyTill.one (i := 11) (by kernel_rfl) rfl (by rfl) (fun K hK => ?_)
    refine hK.out _ _ (.inr trivial) ?_
    clear hK K
    refine AnyTill.done (by kernel_rfl) ?_
    refine NoPanic.normal ?_
    simp only [Act.put, Act.eval, List.setIfInBounds_toArray, List.set_cons_zero, List.set_cons_succ]
    have L0 : Hid (Blk (w1.setRow w.heap.size (shp k).toArray) w.heap.size (shp k) 105) := (E1.out.below hb hg3).setRow
    have LB : Hid (Below w.heap.size w (w1.setRow w.heap.size (shp k).toArray)) := below_setRow' (EB.out.trans (hb.mono (by omega))) (Nat.le_refl _) _
    clear hd hr
    go_wp2
    rw [jump_ret]
    refine bodyPost_ret (v := .tuple #[.agg (shp k).toArray, .int .i64 0]) ?_ rfl ?_
    · exact ret_blk2U rfl _ _ w.heap.size 105 (shp k) _ rfl rfl L0.out d57 HU.out HD.out s57
    · exact ⟨rfl, LB.out⟩
end Go.Proofs.YtllncnnigjgadaaGreat

namespace Go.Proofs.YtllncnnigjgadaaGreat
open Go.RowKit

/-- All digits. -/
def mny (k : Nat) : Nat := onn k + chk k
/-- How many bytes a signature has. -/
def lng (k : Nat) : Nat := 4 + (1 + mny k) * 32
theorem mny_le (k : Nat) (hk : Wd k) : mny k ≤ 300 := by
  obtain ⟨_, _, hP, _⟩ := hk.le
  have := chk_le k
  unfold mny; omega

set_option maxHeartbeats 400000 in
theorem long_any (k : Nat) (w : World) (hk : Wd k) : Calls Tryz.prog 88 #[.agg (shp k).toArray] w (One (.int .i64 (lng k : Nat)) w) := by
  have hm := mny_le k hk
  obtain ⟨S, hS⟩ : ∃ S, mny k = S := ⟨_, rfl⟩
  have HC : Hid ((shp k)[1]? = some (.int .i64 (S : Int))) := by show _ = _; rw [← hS]; rfl
  obtain ⟨L, hL⟩ : ∃ L, lng k = L := ⟨_, rfl⟩
  have hL2 : 4 + (1 + S) * 32 = L := by rw [← hL, ← hS]; rfl
  rw [hL]
  rw [hS] at hm
  clear hS hk hL
  go_enter Tryz.func88, Tryz.ntmps88
  go_wp2_with (refine wpList_box_blk rfl 105 _ rfl (shp k) rfl ?_)
  intro w1 a1 a2 a3
  have c1 := (a1.cell 1).trans HC.out
  have A3 := Lib.hid a3
  clear a1 a2 a3
  go_wp2
  go_ret
  have e1 : 4 + (1 + (S : Int)) * 32 = (L : Int) := by omega
  exact ⟨by rw [← e1]; rfl, A3.out⟩

set_option maxRecDepth 100000 in
set_option maxHeartbeats 400000 in
theorem longX_yes (k : Nat) (w : World) (hk : Wd k) : Calls Tryz.prog 82 #[.int .i64 (k : Int)] w (TwoD (.int .i64 (lng k : Nat)) (.int .i64 0) w) := by
  have HK := Lib.hid hk
  clear hk
  obtain ⟨d57, hu57, hd57⟩ := row57
  have HU := Lib.hid hu57
  have HD := Lib.hid hd57
  clear hu57 hd57
  go_enter Tryz.func82, Tryz.ntmps82
  go_wp2
  refine wp_scope_goto 0 rfl ?_
  go_wp2_with fail
  refine (shapeOf_yes k _ HK.out).mono ?_
  rintro e w1 ⟨rfl, hb⟩
  have B1 := Lib.hid hb
  clear hb
  go_wp2_with (first | (refine wpList_alloc_blk rfl 105 rfl _ zi57 ?_))
  intro w2 a1 a2 a3
  have A1 := Lib.hid a1
  have A3 := Lib.hid a3
  clear a1 a2 a3
  have hs := B1.out.size
  have L0 : Hid (Blk (w2.setRow w1.heap.size (shp k).toArray) w1.heap.size (shp k) 105) := A1.out.setRow
  have LB : Hid (Below w.heap.size w (w2.setRow w1.heap.size (shp k).toArray)) := below_setRow' (B1.out.trans (A3.out.mono hs)) hs _
  go_wp2_with (first | (refine wpList_store_blk rfl 105 _ _ rfl w1.heap.size (shp k) shp0 105 rfl rfl A1.out s57 rfl (shp_one k) ?_) | (refine wpList_load_blkU rfl 105 _ rfl w1.heap.size rfl (shp k) 105 L0.out d57 HU.out HD.out s57 ?_))
  refine (long_any k _ HK.out).mono ?_
  rintro e w3 ⟨rfl, hb⟩
  have BB : Hid (Below w.heap.size w w3) := LB.out.trans (hb.mono LB.out.size)
  clear hb LB L0 A1 A3 B1 hs
  go_wp2
  rw [jump_ret]
  go_ret2
  exact ⟨rfl, BB.out⟩

set_option maxRecDepth 100000 in
set_option maxHeartbeats 400000 in
theorem typeX_yes (k : Nat) (w : World) (hk : Wd k) : Calls Tryz.prog 81 #[.int .i64 (k : Int)] w (TwoD (.int .u32 (typ k : Nat)) (.int .i64 0) w) := by
  have HK := Lib.hid hk
  clear hk
  obtain ⟨d57, hu57, hd57⟩ := row57
  have HU := Lib.hid hu57
  have HD := Lib.hid hd57
  clear hu57 hd57
  go_enter Tryz.func81, Tryz.ntmps81
  go_wp2
  refine wp_scope_goto 0 rfl ?_
  go_wp2_with fail
  refine (shapeOf_yes k _ HK.out).mono ?_
  rintro e w1 ⟨rfl, hb⟩
  have B1 := Lib.hid hb
  clear hb
  go_wp2_with (first | (refine wpList_alloc_blk rfl 105 rfl _ zi57 ?_))
  intro w2 a1 a2 a3
  have A1 := Lib.hid a1
  have A3 := Lib.hid a3
  clear a1 a2 a3
  have hs := B1.out.size
  have L0 : Hid (Blk (w2.setRow w1.heap.size (shp k).toArray) w1.heap.size (shp k) 105) := A1.out.setRow
  have LB : Hid (Below w.heap.size w (w2.setRow w1.heap.size (shp k).toArray)) := below_setRow' (B1.out.trans (A3.out.mono hs)) hs _
  have c0 : (w2.setRow w1.heap.size (shp k).toArray).cell? ⟨w1.heap.size, 0, none⟩ = some (.int .u32 (typ k : Nat)) := L0.out.cell 0
  go_wp2_with (first | (refine wpList_store_blk rfl 105 _ _ rfl w1.heap.size (shp k) shp0 105 rfl rfl A1.out s57 rfl (shp_one k) ?_))
  rw [jump_ret]
  go_ret2
  exact ⟨rfl, LB.out⟩
end Go.Proofs.YtllncnnigjgadaaGreat

namespace Go.Proofs.YtllncnnigjgadaaGreat
open Go.RowKit

end Go.Proofs.YtllncnnigjgadaaGreat

namespace Go.Proofs.YtllncnnigjgadaaGreat
open Go.RowKit

end Go.Proofs.YtllncnnigjgadaaGreat

namespace Go.Proofs.YtllncnnigjgadaaGreat
open Go.RowKit

end Go.Proofs.YtllncnnigjgadaaGreat
