/-
  The document's orders: Take. Each theorem states its own conditions.
-/
import Derived.Test.YtmlpiembglmggaaNG
import Derived.Test.YtmlpiembglmggaaRel4
namespace Go.Proofs.Ytmlpiembglmggaa
open Go.RowKit
/-- What a function answers whose first result lies in a variable of its own, the second and third one in slots. -/
theorem ret_blk3O {P : Program} {fn : Func} {p u v : Tmp} {ty : TypeId} (h : fn.results = #[.cell p ty, .tmp u, .tmp v]) (tmps : Array Value) (w : World) (g : Nat) (t : TypeId) (cs : List Value) (x y : Value)
    (hp : tmps.getD p undef = .pointer (some ⟨g, 0, none⟩)) (hx : tmps.getD u undef = x) (hy : tmps.getD v undef = y) (hb : Blk w g cs t) (d : TypeDesc) (hu : P.underlying ty = some d) (hd : d.isRow = true) (hi : (P.info? ty).map (·.size) = some cs.length) :
    (results fn tmps).run P w = .ok (.tuple #[.agg cs.toArray, x, y]) w := by
  have hl := run_loadVar_row w g t ty cs.toArray (0, 0) d hb hu (by cases d <;> first | rfl | cases hd) (by simpa using hi)
  have hp' : tmps[p]?.getD undef = .pointer (some ⟨g, 0, none⟩) := by simpa using hp
  have hx' : tmps[u]?.getD undef = x := by simpa using hx
  have hy' : tmps[v]?.getD undef = y := by simpa using hy
  simp [results, h, Result.andThen, hp', hx', hy', asAddr, hl]
/-- An order, what is left, a fault. -/
def TookO (r : Or × List UInt8 × Nat) (w : World) (e : Ending) (w' : World) : Prop :=
  ∃ vr, e = .returned (.tuple #[.agg (orc r.1).toArray, vr, .int .i64 (r.2.2 : Int)]) ∧ Rd w'.heap.size w' vr r.2.1 ∧ Below w.heap.size w w'
/-- A new box. -/
def NewB (t : TypeId) (cs : List Value) (B : Nat) (u : Value) (w : World) : Prop := ∃ g, u = .pointer (some ⟨g, 0, none⟩) ∧ Blk w g cs t ∧ B ≤ g
theorem NewB.keep {t : TypeId} {cs : List Value} {B : Nat} {u : Value} {w w' : World} (h : NewB t cs B u w) (hb : Below w.heap.size w w') : NewB t cs B u w' := by
  obtain ⟨g, h1, h2, h3⟩ := h
  exact ⟨g, h1, h2.below hb h2.lt, h3⟩
theorem takeIs_len (k : Nat) (l : List UInt8) (h : (takeIs k l).2.2 = 0) : (takeIs k l).1.length = k := (takeIs_only k l _ _ (by rw [← h])).2.1
theorem takeO_1 {l r1 : List UInt8} {ns : List Int} {e1 : Nat} (h : takeIs 6 l = (ns, r1, e1)) (he : e1 ≠ 0) : takeO l = (or0, [], e1) := by
  unfold takeO
  rw [h, if_pos he]
theorem takeO_2 {l r1 r2 p : List UInt8} {ns : List Int} {e2 : Nat} (h : takeIs 6 l = (ns, r1, 0)) (h2 : takeS r1 100 = (p, r2, e2)) (he : e2 ≠ 0) : takeO l = (or0, [], e2) := by
  unfold takeO
  rw [h]
  simp only [h2]
  rw [if_neg (by simp), if_pos he]
theorem takeO_3 {l r1 r2 r3 p q : List UInt8} {ns : List Int} {e3 : Nat} (h : takeIs 6 l = (ns, r1, 0)) (h2 : takeS r1 100 = (p, r2, 0)) (h3 : takeS r2 1000 = (q, r3, e3)) (he : e3 ≠ 0) : takeO l = (or0, [], e3) := by
  unfold takeO
  rw [h]
  simp only [h2, h3]
  rw [if_neg (by simp), if_neg (by simp), if_pos he]
theorem takeO_4 {l r1 r2 r3 p q : List UInt8} {ns : List Int} (h : takeIs 6 l = (ns, r1, 0)) (h2 : takeS r1 100 = (p, r2, 0)) (h3 : takeS r2 1000 = (q, r3, 0)) : takeO l = if mayO (ofTaken ns p q) = true then (ofTaken ns p q, r3, 0) else (or0, [], 3) := by
  unfold takeO
  rw [h]
  simp only [h2, h3]
  rw [if_neg (by simp), if_neg (by simp), if_neg (by simp)]
  cases mayO (ofTaken ns p q) <;> simp

set_option maxRecDepth 1000000 in
set_option maxHeartbeats 8000000 in
theorem rfTakeO_any (v : Value) (l : List UInt8) (w : World) (hr : Rd w.heap.size w v l) : Calls Try.prog 21 #[v] w (TookO (takeO l) w) := by
  obtain ⟨d30, hu30, hd30⟩ := rowOrR
  have HU := Lib.hid hu30
  have HD := Lib.hid hd30
  have HR := Lib.hid hr
  clear hr hu30 hd30
  go_enter Try.func21, Try.ntmps21
  go_wp2_with (refine wpList_alloc_blk rfl 33 rfl (orc or0) zeroOrR ?_)
  intro w1 a1 a2 a3
  obtain ⟨g, hg⟩ : ∃ g, w.heap.size = g := ⟨_, rfl⟩
  have X0 := Lib.hid a1
  have E1 := Lib.hid a3
  have hg1 : g ≤ w1.heap.size := by omega
  have HG := Lib.hid hg
  rw [hg] at X0 E1 HR ⊢
  clear a1 a2 a3 hg
  have HR1 : Hid (Rd g w1 v l) := HR.out.below E1.out
  go_wp2_with fail
  refine (rfInts_any v l 6 g w1 HR1.out hg1 (by omega)).mono ?_
  rintro e w2 ⟨vl, vr, rfl, hL, hrr, hb⟩
  obtain ⟨ns, r1, e1, hT⟩ : ∃ a b c, takeIs 6 l = (a, b, c) := ⟨_, _, _, rfl⟩
  rw [hT] at hL hrr ⊢
  have HT := Lib.hid hT
  have HL := Lib.hid hL
  have HR2 := Lib.hid hrr
  have E2 := Lib.hid (E1.out.trans (hb.mono hg1))
  have X2 := Lib.hid (X0.out.below hb X0.out.lt)
  have hg2 : g ≤ w2.heap.size := Nat.le_trans hg1 hb.size
  have HR2 := Lib.hid (HR2.out)
  have hs12 : w1.heap.size ≤ w2.heap.size := hb.size
  clear hT hL hrr hb X0 E1 HR1 hg1
  by_cases he1 : e1 = 0
  case neg =>
    have hne : ((e1 : Int) != 0) = true := by rw [bne_iff_ne]; omega
    go_wp2_with (refine wpList_store_to rfl 33 _ _ rfl g (orc or0) (orc or0) 33 rfl rfl X2.out szOrR rfl (orc_all or0) ?_)
    intro w20 e1' e2' e3' e4'
    go_wp2
    refine bodyPost_ret (v := .tuple #[.agg (orc or0).toArray, .slice none 0 0, .int .i64 (e1 : Int)]) ?_ rfl ?_
    · exact ret_blk3O rfl _ _ g 33 (orc or0) _ _ rfl rfl rfl e1' d30 HU.out HD.out szOrR
    · rw [takeO_1 HT.out he1]
      exact ⟨_, rfl, Rd.nil _ _, by rw [HG.out]; exact E2.out.trans (e3'.mono (Nat.le_refl _))⟩
  subst he1
  go_wp2_with fail
  refine (refText_any vr r1 100 g w2 HR2.out hg2 (by omega) (by omega)).mono ?_
  rintro e w3 ⟨vr2, rfl, hrr, hb⟩
  obtain ⟨p, r2, e2, hT⟩ : ∃ a b c, takeS r1 100 = (a, b, c) := ⟨_, _, _, rfl⟩
  rw [hT] at hrr ⊢
  have HT3 := Lib.hid hT
  have HR3 : Hid (Rd g w3 vr2 r2) := hrr
  have E3 := Lib.hid (E2.out.trans (hb.mono hg2))
  have X3 := Lib.hid (X2.out.below hb X2.out.lt)
  have hg3 : g ≤ w3.heap.size := Nat.le_trans hg2 hb.size
  have hs13 : w1.heap.size ≤ w3.heap.size := Nat.le_trans hs12 hb.size
  have HL3 := Lib.hid ((HL.out.below hb).more hb.size)
  clear hT hrr hb HR2 E2 X2 HL
  by_cases he2 : e2 = 0
  case neg =>
    have hne : ((e2 : Int) != 0) = true := by rw [bne_iff_ne]; omega
    go_wp2_with (refine wpList_store_to rfl 33 _ _ rfl g (orc or0) (orc or0) 33 rfl rfl X3.out szOrR rfl (orc_all or0) ?_)
    intro w20 e1' e2' e3' e4'
    go_wp2
    refine bodyPost_ret (v := .tuple #[.agg (orc or0).toArray, .slice none 0 0, .int .i64 (e2 : Int)]) ?_ rfl ?_
    · exact ret_blk3O rfl _ _ g 33 (orc or0) _ _ rfl rfl rfl e1' d30 HU.out HD.out szOrR
    · rw [takeO_2 HT.out HT3.out he2]
      exact ⟨_, rfl, Rd.nil _ _, by rw [HG.out]; exact E3.out.trans (e3'.mono (Nat.le_refl _))⟩
  subst he2
  go_wp2_with fail
  refine (refText_any vr2 r2 1000 g w3 HR3.out hg3 (by omega) (by omega)).mono ?_
  rintro e w4 ⟨vr3, rfl, hrr, hb⟩
  obtain ⟨q, r3, e3, hT⟩ : ∃ a b c, takeS r2 1000 = (a, b, c) := ⟨_, _, _, rfl⟩
  rw [hT] at hrr ⊢
  have HT4 := Lib.hid hT
  have HR4 : Hid (Rd g w4 vr3 r3) := hrr
  have E4 := Lib.hid (E3.out.trans (hb.mono hg3))
  have X4 := Lib.hid (X3.out.below hb X3.out.lt)
  have hg4 : g ≤ w4.heap.size := Nat.le_trans hg3 hb.size
  have hs14 : w1.heap.size ≤ w4.heap.size := Nat.le_trans hs13 hb.size
  have HL4 := Lib.hid ((HL3.out.below hb).more hb.size)
  clear hT hrr hb HR3 E3 X3 HL3
  by_cases he3 : e3 = 0
  case neg =>
    have hne : ((e3 : Int) != 0) = true := by rw [bne_iff_ne]; omega
    go_wp2_with (refine wpList_store_to rfl 33 _ _ rfl g (orc or0) (orc or0) 33 rfl rfl X4.out szOrR rfl (orc_all or0) ?_)
    intro w20 e1' e2' e3' e4'
    go_wp2
    refine bodyPost_ret (v := .tuple #[.agg (orc or0).toArray, .slice none 0 0, .int .i64 (e3 : Int)]) ?_ rfl ?_
    · exact ret_blk3O rfl _ _ g 33 (orc or0) _ _ rfl rfl rfl e1' d30 HU.out HD.out szOrR
    · rw [takeO_3 HT.out HT3.out HT4.out he3]
      exact ⟨_, rfl, Rd.nil _ _, by rw [HG.out]; exact E4.out.trans (e3'.mono (Nat.le_refl _))⟩
  subst he3
  have HNL : Hid (ns.length = 6) := by
    have h := takeIs_len 6 l (by rw [HT.out])
    rw [HT.out] at h
    exact h
  have HF := Lib.hid (takeO_4 HT.out HT3.out HT4.out)
  obtain ⟨n0, n1, n2, n3, n4, n5, rfl⟩ : ∃ n0 n1 n2 n3 n4 n5, ns = [n0, n1, n2, n3, n4, n5] := by
    have h := HNL.out
    clear HNL HF HT HL4
    match ns, h with
    | [n0, n1, n2, n3, n4, n5], _ => exact ⟨n0, n1, n2, n3, n4, n5, rfl⟩
  clear HNL
  obtain ⟨AL, cL, rfl, -, -⟩ := HL4.out.shape
  have hA0 := HL4.out.at1 0 (by show (0 : Nat) < 6; decide)
  obtain ⟨aL, rfl, -⟩ := hA0
  go_wp2
  refine wp_region_rely3 22 1 (fun x => ⟨#[v, undef, .pointer (some { block := g, off := 0 }), .slice none 0 0, .int IntKind.i64 0, .slice (some aL) 6 cL, vr3, .int IntKind.i64 0, .string { data := p.toArray }, .string { data := q.toArray }, x 21, .tuple #[Value.slice (some aL) 6 cL, vr, Value.int IntKind.i64 0], v, .tuple #[Value.slice (some aL) 6 cL, vr, Value.int IntKind.i64 0], .slice (some aL) 6 cL, vr, .int IntKind.i64 0, .int IntKind.i64 0, .bool false, undef, undef, .tuple #[Value.string { data := p.toArray }, vr2, Value.int IntKind.i64 0], vr, .tuple #[Value.string { data := p.toArray }, vr2, Value.int IntKind.i64 0], .string { data := p.toArray }, vr2, .int IntKind.i64 0, .int IntKind.i64 0, .bool false, undef, undef, .tuple #[Value.string { data := q.toArray }, vr3, Value.int IntKind.i64 0], vr2, .tuple #[Value.string { data := q.toArray }, vr3, Value.int IntKind.i64 0], .string { data := q.toArray }, vr3, .int IntKind.i64 0, .int IntKind.i64 0, .bool false, undef, undef, x 0, x 1, x 2, x 3, x 4, x 5, x 6, x 7, x 8, x 9, x 10, x 11, x 12, x 13, x 14, x 15, x 16, x 17, x 18, x 19, x 20, undef, undef, undef, undef, undef, undef], []⟩) (fun jj => ([eqV (.slice (some aL) 6 cL), eqV (.pointer (some (aL.add 0))), eqV (.int .i64 n0), eqV (.slice (some aL) 6 cL), eqV (.pointer (some (aL.add 1))), eqV (.int .i64 n1), eqV (.slice (some aL) 6 cL), eqV (.pointer (some (aL.add 2))), eqV (.int .i64 n2), eqV (.string { data := p.toArray }), eqV (.string { data := q.toArray }), eqV (.slice (some aL) 6 cL), eqV (.pointer (some (aL.add 3))), eqV (.int .i64 n3), eqV (.slice (some aL) 6 cL), eqV (.pointer (some (aL.add 4))), eqV (.int .i64 n4), eqV (.slice (some aL) 6 cL), eqV (.pointer (some (aL.add 5))), eqV (.int .i64 n5), eqV (.agg (orc (n0, n1, n2, p, q, n3, n4, n5)).toArray), (NewB 33 (orc or0) w4.heap.size)] : List (Value → World → Prop)).getD jj (fun _ _ => True)) rfl ⟨fun kk => [_, _, _, _, _, _, _, _, _, _, _, _, _, _, _, _, _, _, _, _, _, _].getD kk undef, rfl⟩ (by kernel_rfl) (by kernel_rfl) ?steps ?fin
  case steps =>
    refine StepsAt.val 0 (.slice (some aL) 6 cL) rfl (fun _ _ => rfl) rfl rfl (fun x wx hb hd => ?_) ?_
    · first | (go_simp; done) | (go_simp; rfl)
    refine StepsAt.val 1 (.pointer (some (aL.add 0))) rfl (fun _ _ => rfl) rfl rfl (fun x wx hb hd => ?_) ?_
    · have h0 : x 0 = .slice (some aL) 6 cL := hd 0 (by kernel_rfl)
      rw [h0]
      first | (go_simp; done) | (go_simp; rfl)
    refine StepsAt.val 2 (.int .i64 n0) rfl (fun _ _ => rfl) rfl rfl (fun x wx hb hd => ?_) ?_
    · have h1 : x 1 = .pointer (some (aL.add 0)) := hd 1 (by kernel_rfl)
      obtain ⟨a9, hA9, cc⟩ := ((HL4.out.below hb).at1 0 (by show (0 : Nat) < 6; decide))
      obtain rfl : aL = a9 := Option.some.inj hA9
      rw [add_zeroA] at cc
      change wx.cell? aL = some (.int .i64 n0) at cc
      rw [h1]
      first | (go_simp; done) | (go_simp; rfl)
    refine StepsAt.val 3 (.slice (some aL) 6 cL) rfl (fun _ _ => rfl) rfl rfl (fun x wx hb hd => ?_) ?_
    · first | (go_simp; done) | (go_simp; rfl)
    refine StepsAt.val 4 (.pointer (some (aL.add 1))) rfl (fun _ _ => rfl) rfl rfl (fun x wx hb hd => ?_) ?_
    · have h3 : x 3 = .slice (some aL) 6 cL := hd 3 (by kernel_rfl)
      rw [h3]
      first | (go_simp; done) | (go_simp; rfl)
    refine StepsAt.val 5 (.int .i64 n1) rfl (fun _ _ => rfl) rfl rfl (fun x wx hb hd => ?_) ?_
    · have h4 : x 4 = .pointer (some (aL.add 1)) := hd 4 (by kernel_rfl)
      obtain ⟨a9, hA9, cc⟩ := ((HL4.out.below hb).at1 1 (by show (1 : Nat) < 6; decide))
      obtain rfl : aL = a9 := Option.some.inj hA9
      change wx.cell? ⟨aL.block, aL.off + 1, none⟩ = some (.int .i64 n1) at cc
      rw [h4]
      first | (go_simp; done) | (go_simp; rfl)
    refine StepsAt.val 6 (.slice (some aL) 6 cL) rfl (fun _ _ => rfl) rfl rfl (fun x wx hb hd => ?_) ?_
    · first | (go_simp; done) | (go_simp; rfl)
    refine StepsAt.val 7 (.pointer (some (aL.add 2))) rfl (fun _ _ => rfl) rfl rfl (fun x wx hb hd => ?_) ?_
    · have h6 : x 6 = .slice (some aL) 6 cL := hd 6 (by kernel_rfl)
      rw [h6]
      first | (go_simp; done) | (go_simp; rfl)
    refine StepsAt.val 8 (.int .i64 n2) rfl (fun _ _ => rfl) rfl rfl (fun x wx hb hd => ?_) ?_
    · have h7 : x 7 = .pointer (some (aL.add 2)) := hd 7 (by kernel_rfl)
      obtain ⟨a9, hA9, cc⟩ := ((HL4.out.below hb).at1 2 (by show (2 : Nat) < 6; decide))
      obtain rfl : aL = a9 := Option.some.inj hA9
      change wx.cell? ⟨aL.block, aL.off + 2, none⟩ = some (.int .i64 n2) at cc
      rw [h7]
      first | (go_simp; done) | (go_simp; rfl)
    refine StepsAt.val 9 (.string { data := p.toArray }) rfl (fun _ _ => rfl) rfl rfl (fun x wx hb hd => ?_) ?_
    · first | (go_simp; done) | (go_simp; rfl)
    refine StepsAt.val 10 (.string { data := q.toArray }) rfl (fun _ _ => rfl) rfl rfl (fun x wx hb hd => ?_) ?_
    · first | (go_simp; done) | (go_simp; rfl)
    refine StepsAt.val 11 (.slice (some aL) 6 cL) rfl (fun _ _ => rfl) rfl rfl (fun x wx hb hd => ?_) ?_
    · first | (go_simp; done) | (go_simp; rfl)
    refine StepsAt.val 12 (.pointer (some (aL.add 3))) rfl (fun _ _ => rfl) rfl rfl (fun x wx hb hd => ?_) ?_
    · have h11 : x 11 = .slice (some aL) 6 cL := hd 11 (by kernel_rfl)
      rw [h11]
      first | (go_simp; done) | (go_simp; rfl)
    refine StepsAt.val 13 (.int .i64 n3) rfl (fun _ _ => rfl) rfl rfl (fun x wx hb hd => ?_) ?_
    · have h12 : x 12 = .pointer (some (aL.add 3)) := hd 12 (by kernel_rfl)
      obtain ⟨a9, hA9, cc⟩ := ((HL4.out.below hb).at1 3 (by show (3 : Nat) < 6; decide))
      obtain rfl : aL = a9 := Option.some.inj hA9
      change wx.cell? ⟨aL.block, aL.off + 3, none⟩ = some (.int .i64 n3) at cc
      rw [h12]
      first | (go_simp; done) | (go_simp; rfl)
    refine StepsAt.val 14 (.slice (some aL) 6 cL) rfl (fun _ _ => rfl) rfl rfl (fun x wx hb hd => ?_) ?_
    · first | (go_simp; done) | (go_simp; rfl)
    refine StepsAt.val 15 (.pointer (some (aL.add 4))) rfl (fun _ _ => rfl) rfl rfl (fun x wx hb hd => ?_) ?_
    · have h14 : x 14 = .slice (some aL) 6 cL := hd 14 (by kernel_rfl)
      rw [h14]
      first | (go_simp; done) | (go_simp; rfl)
    refine StepsAt.val 16 (.int .i64 n4) rfl (fun _ _ => rfl) rfl rfl (fun x wx hb hd => ?_) ?_
    · have h15 : x 15 = .pointer (some (aL.add 4)) := hd 15 (by kernel_rfl)
      obtain ⟨a9, hA9, cc⟩ := ((HL4.out.below hb).at1 4 (by show (4 : Nat) < 6; decide))
      obtain rfl : aL = a9 := Option.some.inj hA9
      change wx.cell? ⟨aL.block, aL.off + 4, none⟩ = some (.int .i64 n4) at cc
      rw [h15]
      first | (go_simp; done) | (go_simp; rfl)
    refine StepsAt.val 17 (.slice (some aL) 6 cL) rfl (fun _ _ => rfl) rfl rfl (fun x wx hb hd => ?_) ?_
    · first | (go_simp; done) | (go_simp; rfl)
    refine StepsAt.val 18 (.pointer (some (aL.add 5))) rfl (fun _ _ => rfl) rfl rfl (fun x wx hb hd => ?_) ?_
    · have h17 : x 17 = .slice (some aL) 6 cL := hd 17 (by kernel_rfl)
      rw [h17]
      first | (go_simp; done) | (go_simp; rfl)
    refine StepsAt.val 19 (.int .i64 n5) rfl (fun _ _ => rfl) rfl rfl (fun x wx hb hd => ?_) ?_
    · have h18 : x 18 = .pointer (some (aL.add 5)) := hd 18 (by kernel_rfl)
      obtain ⟨a9, hA9, cc⟩ := ((HL4.out.below hb).at1 5 (by show (5 : Nat) < 6; decide))
      obtain rfl : aL = a9 := Option.some.inj hA9
      change wx.cell? ⟨aL.block, aL.off + 5, none⟩ = some (.int .i64 n5) at cc
      rw [h18]
      first | (go_simp; done) | (go_simp; rfl)
    refine StepsAt.val 20 (.agg (orc (n0, n1, n2, p, q, n3, n4, n5)).toArray) rfl (fun _ _ => rfl) rfl rfl (fun x wx hb hd => ?_) ?_
    · have h2 : x 2 = .int .i64 n0 := hd 2 (by kernel_rfl)
      have h5 : x 5 = .int .i64 n1 := hd 5 (by kernel_rfl)
      have h8 : x 8 = .int .i64 n2 := hd 8 (by kernel_rfl)
      have h9 : x 9 = .string { data := p.toArray } := hd 9 (by kernel_rfl)
      have h10 : x 10 = .string { data := q.toArray } := hd 10 (by kernel_rfl)
      have h13 : x 13 = .int .i64 n3 := hd 13 (by kernel_rfl)
      have h16 : x 16 = .int .i64 n4 := hd 16 (by kernel_rfl)
      have h19 : x 19 = .int .i64 n5 := hd 19 (by kernel_rfl)
      rw [h2, h5, h8, h9, h10, h13, h16, h19]
      first | (go_simp; done) | (go_simp; rfl)
    refine StepsAt.cons 21 (fun _ _ _ h hb => h.keep hb) (fun _ _ => rfl) rfl rfl (fun x wx hb hd K hK => ?_) ?_
    · refine wp_of_list rfl (wpList_alloc_blk rfl 33 rfl (orc or0) zeroOrR ?_)
      intro w8 a1 a2 a3
      exact hK.out _ _ a3 ⟨_, rfl, a1, hb.size⟩
    exact StepsAt.done
  case fin =>
    intro x wx hb hd
    obtain ⟨gN, hxp, hbA, hgA⟩ : NewB 33 (orc or0) w4.heap.size (x 21) wx := hd 21 (by omega)
    have hxv : x 20 = .agg (orc (n0, n1, n2, p, q, n3, n4, n5)).toArray := hd 20 (by omega)
    have EB := Lib.hid hb
    have BA := Lib.hid hbA
    refine AnyTill.any (S := fun _ => True) (m := 22) _ _ _ _ ?_
    rw [hxv, hxp]
    clear hd hb hxv hxp hbA
    refine AnyTill.one (i := 22) (by kernel_rfl) rfl (by rfl) (fun K hK => ?_)
    refine wp_of_list rfl (wpList_store_to rfl 33 _ _ rfl gN (orc (n0, n1, n2, p, q, n3, n4, n5)) (orc or0) 33 rfl rfl BA.out szOrR rfl (orc_all _) ?_)
    intro w5 e1 e2 e3 e4
    refine hK.out _ _ (.inr trivial) ?_
    clear hK K
    refine AnyTill.done (by kernel_rfl) ?_
    refine NoPanic.normal ?_
    try dsimp only
    have X5 := Lib.hid e1
    have EE := Lib.hid (EB.out.trans (e3.mono hgA))
    have E5 := Lib.hid (E4.out.trans (EE.out.mono hg4))
    have XR := Lib.hid (X4.out.below EE.out X4.out.lt)
    have HR5 := Lib.hid (HR4.out.below (EE.out.mono hg4))
    have hg5 : g ≤ w5.heap.size := Nat.le_trans hg4 EE.out.size
    obtain ⟨OO, hOO⟩ : ∃ o : Or, (n0, n1, n2, p, q, n3, n4, n5) = o := ⟨_, rfl⟩
    change Hid (takeO l = if mayO (n0, n1, n2, p, q, n3, n4, n5) = true then ((n0, n1, n2, p, q, n3, n4, n5), r3, 0) else (or0, [], 3)) at HF
    rw [hOO] at X5 HF
    clear e1 e2 e3 e4 EB BA hgA hOO E4 X4 HR4 HL4
    have c5_0 := X5.out.at_ 0 _ rfl
    have c5_1 := X5.out.at_ 1 _ rfl
    have c5_2 := X5.out.at_ 2 _ rfl
    have c5_3 := X5.out.at_ 3 _ rfl
    have c5_4 := X5.out.at_ 4 _ rfl
    have c5_5 := X5.out.at_ 5 _ rfl
    have c5_6 := X5.out.at_ 6 _ rfl
    have c5_7 := X5.out.at_ 7 _ rfl
    go_wp2_with fail
    refine (rfMayO_any OO w5).mono ?_
    rintro e w6 ⟨rfl, hb⟩
    have E6 := Lib.hid (E5.out.trans (hb.mono hg5))
    have XR6 := Lib.hid (XR.out.below hb XR.out.lt)
    have X6 := Lib.hid (X5.out.below hb X5.out.lt)
    have HR6 := Lib.hid (HR5.out.below (hb.mono hg5))
    have hg6 : g ≤ w6.heap.size := Nat.le_trans hg5 hb.size
    clear hb c5_0 c5_1 c5_2 c5_3 c5_4 c5_5 c5_6 c5_7 X5 XR HR5 EE E5
    cases hM : mayO OO with
    | false =>
      rw [hM] at HF
      clear hM
      go_wp2_with (refine wpList_store_to rfl 33 _ _ rfl g (orc or0) (orc or0) 33 rfl rfl XR6.out szOrR rfl (orc_all or0) ?_)
      intro w20 e1' e2' e3' e4'
      go_wp2
      refine bodyPost_ret (v := .tuple #[.agg (orc or0).toArray, .slice none 0 0, .int .i64 3]) ?_ rfl ?_
      · exact ret_blk3O rfl _ _ g 33 (orc or0) _ _ rfl rfl rfl e1' d30 HU.out HD.out szOrR
      · rw [HF.out, if_neg Bool.false_ne_true]
        exact ⟨_, rfl, Rd.nil _ _, by rw [HG.out]; exact E6.out.trans (e3'.mono (Nat.le_refl _))⟩
    | true =>
      rw [hM] at HF
      clear hM
      have c6_0 := X6.out.at_ 0 _ rfl
      have c6_1 := X6.out.at_ 1 _ rfl
      have c6_2 := X6.out.at_ 2 _ rfl
      have c6_3 := X6.out.at_ 3 _ rfl
      have c6_4 := X6.out.at_ 4 _ rfl
      have c6_5 := X6.out.at_ 5 _ rfl
      have c6_6 := X6.out.at_ 6 _ rfl
      have c6_7 := X6.out.at_ 7 _ rfl
      go_wp2_with (refine wpList_store_to rfl 33 _ _ rfl g (orc OO) (orc or0) 33 rfl rfl XR6.out szOrR rfl (orc_all OO) ?_)
      intro w20 e1' e2' e3' e4'
      clear c6_0 c6_1 c6_2 c6_3 c6_4 c6_5 c6_6 c6_7
      go_wp2
      refine bodyPost_ret (v := .tuple #[.agg (orc OO).toArray, vr3, .int .i64 0]) ?_ rfl ?_
      · exact ret_blk3O rfl _ _ g 33 (orc OO) _ _ rfl rfl rfl e1' d30 HU.out HD.out szOrR
      · rw [HF.out, if_pos trivial]
        exact ⟨_, rfl, (HR6.out.below e3').more (show g ≤ w20.heap.size by omega), by rw [HG.out]; exact E6.out.trans (e3'.mono (Nat.le_refl _))⟩
end Go.Proofs.Ytmlpiembglmggaa
