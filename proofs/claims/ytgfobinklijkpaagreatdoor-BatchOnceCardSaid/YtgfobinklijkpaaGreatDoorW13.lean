/-
  Texts NA BE RS JA JB JC JD JE JF NB EE ER ES NC ND NE UA.
-/
import Derived.Test.YtgfobinklijkpaaGreatDoorW01
import Derived.WalkLawsBesides
import Derived.Deep.QuietTactic
import Derived.BigQuiet
import Derived.Test.YtgfobinklijkpaaGreatDoorW05
import Derived.Test.YtgfobinklijkpaaGreatDoorW06
import Derived.Test.YtgfobinklijkpaaGreatDoorW10
import Derived.Test.YtgfobinklijkpaaGreatDoorW11
import Derived.Test.YtgfobinklijkpaaGreatDoorW12
namespace Go.Proofs.YtgfobinklijkpaaGreatDoor
set_option maxRecDepth 100000
set_option maxHeartbeats 16000000
open Go.RowKit
def orc (x : Or) : List Value := [.int .i64 (oC x), .int .i64 (oQ x), .int .i64 (oK x), txt (oP x), txt (oV x), .int .i64 (oR x), .int .i64 (oS x), .int .i64 (oT x)]
theorem orc_one (x : Or) : ∀ u ∈ orc x, u.oneCell' = true := by
 intro u hu
 unfold orc at hu
 simp only [List.mem_cons, List.not_mem_nil, or_false] at hu
 rcases hu with rfl | rfl | rfl | rfl | rfl | rfl | rfl | rfl <;> rfl
def OrK : RowK Or := { enc := orc, k := 8, d := or0, len := fun _ => rfl, one := orc_one, pos := by decide }
theorem orc_all (x : Or) : (orc x).toArray.all (·.oneCell') = true := enc_all OrK x
theorem RdE.atOr {B : Nat} {w : World} {A : Option Addr} {n c : Nat} {l : List Or} (h : RdE OrK B w (.slice A n c) l) (j : Nat) (hj : j < l.length) :
 ∃ a, A = some a ∧ w.cell? (a.add (j * 8)) = some (.int .i64 (oC (l.getD j or0))) ∧ w.cell? ⟨(a.add (j * 8)).block, (a.add (j * 8)).off + 1, none⟩ = some (.int .i64 (oQ (l.getD j or0))) ∧ w.cell? ⟨(a.add (j * 8)).block, (a.add (j * 8)).off + 2, none⟩ = some (.int .i64 (oK (l.getD j or0))) ∧ w.cell? ⟨(a.add (j * 8)).block, (a.add (j * 8)).off + 3, none⟩ = some (txt (oP (l.getD j or0))) ∧ w.cell? ⟨(a.add (j * 8)).block, (a.add (j * 8)).off + 4, none⟩ = some (txt (oV (l.getD j or0))) ∧ w.cell? ⟨(a.add (j * 8)).block, (a.add (j * 8)).off + 5, none⟩ = some (.int .i64 (oR (l.getD j or0))) ∧ w.cell? ⟨(a.add (j * 8)).block, (a.add (j * 8)).off + 6, none⟩ = some (.int .i64 (oS (l.getD j or0))) ∧ w.cell? ⟨(a.add (j * 8)).block, (a.add (j * 8)).off + 7, none⟩ = some (.int .i64 (oT (l.getD j or0))) := by
 obtain ⟨a, ha, hc⟩ := h.cells j hj
 exact ⟨a, ha, hc 0 (by decide), hc 1 (by decide), hc 2 (by decide), hc 3 (by decide), hc 4 (by decide), hc 5 (by decide), hc 6 (by decide), hc 7 (by decide)⟩
theorem eqFOr (d : Nat) (x y : Or) (w : World) (fs : List Field) (h : fs.map (fun f => (f.name == "_", f.type, f.offset)) = [(false, 3, 0), (false, 3, 1), (false, 3, 2), (false, 9, 3), (false, 9, 4), (false, 3, 5), (false, 3, 6), (false, 3, 7)]) :
 (Op.eqFields (d + 1) (orc x).toArray (orc y).toArray fs).run Tryz.prog w = .ok (decide (x = y)) w := by
 obtain ⟨f0, f1, f2, f3, f4, f5, f6, f7, rfl⟩ : ∃ f0 f1 f2 f3 f4 f5 f6 f7, fs = [f0, f1, f2, f3, f4, f5, f6, f7] := by
  have hl := congrArg List.length h
  rw [List.length_map] at hl
  match fs, hl with
  | [f0, f1, f2, f3, f4, f5, f6, f7], _ => exact ⟨f0, f1, f2, f3, f4, f5, f6, f7, rfl⟩
 simp only [List.map_cons, List.map_nil, List.cons.injEq, Prod.mk.injEq, and_true] at h
 obtain ⟨⟨n0, q0, o0⟩, ⟨n1, q1, o1⟩, ⟨n2, q2, o2⟩, ⟨n3, q3, o3⟩, ⟨n4, q4, o4⟩, ⟨n5, q5, o5⟩, ⟨n6, q6, o6⟩, ⟨n7, q7, o7⟩⟩ := h
 have m0 : f0.name ≠ "_" := by simpa using n0
 have m1 : f1.name ≠ "_" := by simpa using n1
 have m2 : f2.name ≠ "_" := by simpa using n2
 have m3 : f3.name ≠ "_" := by simpa using n3
 have m4 : f4.name ≠ "_" := by simpa using n4
 have m5 : f5.name ≠ "_" := by simpa using n5
 have m6 : f6.name ≠ "_" := by simpa using n6
 have m7 : f7.name ≠ "_" := by simpa using n7
 have p0 : ∀ z : Or, (part f0.type (orc z).toArray f0.offset).run Tryz.prog w = .ok (.int .i64 (oC z)) w := fun z => by rw [q0, o0]; exact run_part_cell _ _ _ _ Tryz.isAgg3 rfl w
 have e0' : (Op.equalIn (d + 1) f0.type (.int .i64 (oC x)) (.int .i64 (oC y))).run Tryz.prog w = .ok (oC x == oC y) w := by rw [q0, run_equalIn_int w d _ _ _ _ _ Tryz.underlying3]
 have p1 : ∀ z : Or, (part f1.type (orc z).toArray f1.offset).run Tryz.prog w = .ok (.int .i64 (oQ z)) w := fun z => by rw [q1, o1]; exact run_part_cell _ _ _ _ Tryz.isAgg3 rfl w
 have e1' : (Op.equalIn (d + 1) f1.type (.int .i64 (oQ x)) (.int .i64 (oQ y))).run Tryz.prog w = .ok (oQ x == oQ y) w := by rw [q1, run_equalIn_int w d _ _ _ _ _ Tryz.underlying3]
 have p2 : ∀ z : Or, (part f2.type (orc z).toArray f2.offset).run Tryz.prog w = .ok (.int .i64 (oK z)) w := fun z => by rw [q2, o2]; exact run_part_cell _ _ _ _ Tryz.isAgg3 rfl w
 have e2' : (Op.equalIn (d + 1) f2.type (.int .i64 (oK x)) (.int .i64 (oK y))).run Tryz.prog w = .ok (oK x == oK y) w := by rw [q2, run_equalIn_int w d _ _ _ _ _ Tryz.underlying3]
 have p3 : ∀ z : Or, (part f3.type (orc z).toArray f3.offset).run Tryz.prog w = .ok (txt (oP z)) w := fun z => by rw [q3, o3]; exact run_part_cell _ _ _ _ Tryz.isAgg9 rfl w
 have e3' : (Op.equalIn (d + 1) f3.type (txt (oP x)) (txt (oP y))).run Tryz.prog w = .ok (oP x == oP y) w := by rw [q3, run_equalIn_string w d _ _ _ Tryz.underlying9, toList_txtE, toList_txtE]
 have p4 : ∀ z : Or, (part f4.type (orc z).toArray f4.offset).run Tryz.prog w = .ok (txt (oV z)) w := fun z => by rw [q4, o4]; exact run_part_cell _ _ _ _ Tryz.isAgg9 rfl w
 have e4' : (Op.equalIn (d + 1) f4.type (txt (oV x)) (txt (oV y))).run Tryz.prog w = .ok (oV x == oV y) w := by rw [q4, run_equalIn_string w d _ _ _ Tryz.underlying9, toList_txtE, toList_txtE]
 have p5 : ∀ z : Or, (part f5.type (orc z).toArray f5.offset).run Tryz.prog w = .ok (.int .i64 (oR z)) w := fun z => by rw [q5, o5]; exact run_part_cell _ _ _ _ Tryz.isAgg3 rfl w
 have e5' : (Op.equalIn (d + 1) f5.type (.int .i64 (oR x)) (.int .i64 (oR y))).run Tryz.prog w = .ok (oR x == oR y) w := by rw [q5, run_equalIn_int w d _ _ _ _ _ Tryz.underlying3]
 have p6 : ∀ z : Or, (part f6.type (orc z).toArray f6.offset).run Tryz.prog w = .ok (.int .i64 (oS z)) w := fun z => by rw [q6, o6]; exact run_part_cell _ _ _ _ Tryz.isAgg3 rfl w
 have e6' : (Op.equalIn (d + 1) f6.type (.int .i64 (oS x)) (.int .i64 (oS y))).run Tryz.prog w = .ok (oS x == oS y) w := by rw [q6, run_equalIn_int w d _ _ _ _ _ Tryz.underlying3]
 have p7 : ∀ z : Or, (part f7.type (orc z).toArray f7.offset).run Tryz.prog w = .ok (.int .i64 (oT z)) w := fun z => by rw [q7, o7]; exact run_part_cell _ _ _ _ Tryz.isAgg3 rfl w
 have e7' : (Op.equalIn (d + 1) f7.type (.int .i64 (oT x)) (.int .i64 (oT y))).run Tryz.prog w = .ok (oT x == oT y) w := by rw [q7, run_equalIn_int w d _ _ _ _ _ Tryz.underlying3]
 obtain ⟨a0, a1, a2, a3, a4, a5, a6, a7⟩ := x
 obtain ⟨b0, b1, b2, b3, b4, b5, b6, b7⟩ := y
 simp only [Op.eqFields, if_pos m0, if_pos m1, if_pos m2, if_pos m3, if_pos m4, if_pos m5, if_pos m6, if_pos m7, Sem.run_bind, p0, p1, p2, p3, p4, p5, p6, p7, e0', e1', e2', e3', e4', e5', e6', e7', Result.andThen_ok, Sem.run_ite, Sem.run_pure]
 clear p0 e0' p1 e1' p2 e2' p3 e3' p4 e4' p5 e5' p6 e6' p7 e7'
 by_cases h0 : a0 = b0
 case neg => simp [h0]
 subst h0
 by_cases h1 : a1 = b1
 case neg => simp [h1]
 subst h1
 by_cases h2 : a2 = b2
 case neg => simp [h2]
 subst h2
 by_cases h3 : a3 = b3
 case neg => simp [h3]
 subst h3
 by_cases h4 : a4 = b4
 case neg => simp [h4]
 subst h4
 by_cases h5 : a5 = b5
 case neg => simp [h5]
 subst h5
 by_cases h6 : a6 = b6
 case neg => simp [h6]
 subst h6
 by_cases h7 : a7 = b7
 case neg => simp [h7]
 subst h7
 simp
theorem rowOrP : ∃ d, Tryz.prog.underlying 86 = some d ∧ d.isRow = true := ⟨_, Tryz.underlying86, rfl⟩
theorem szOrP : (Tryz.prog.info? 86).map (·.size) = some 8 := by kernel_rfl
theorem zeroOrP : (Tryz.prog.info? 86).map (·.zero) = some (some (.agg (orc or0).toArray)) := by kernel_rfl
theorem kindOrP : KindOf Tryz.prog 86 OrK 80 := kind_of (z := .agg (orc or0).toArray) (by kernel_rfl) rfl
theorem eqTOrP (d : Nat) (x y : Or) (w : World) : (Op.equalIn (d + 2) 86 (.agg (orc x).toArray) (.agg (orc y).toArray)).run Tryz.prog w = .ok (decide (x = y)) w := by
 rw [run_equalIn_struct w (d + 1) _ _ _ (show Tryz.prog.underlying 86 = some (.struct (Tryz.prog.fieldsOf 86)) by kernel_rfl) (by kernel_rfl)]
 exact eqFOr d x y w _ (by kernel_rfl)
theorem run_eqlOrP (x y : Or) (w : World) : (binOp .eql 86 (.agg #[.int .i64 (oC x), .int .i64 (oQ x), .int .i64 (oK x), txt (oP x), txt (oV x), .int .i64 (oR x), .int .i64 (oS x), .int .i64 (oT x)]) (.agg #[.int .i64 (oC y), .int .i64 (oQ y), .int .i64 (oK y), txt (oP y), txt (oV y), .int .i64 (oR y), .int .i64 (oS y), .int .i64 (oT y)])).run Tryz.prog w = .ok (.bool (decide (x = y))) w := by
 rw [run_eql_struct, show (Value.agg #[.int .i64 (oC x), .int .i64 (oQ x), .int .i64 (oK x), txt (oP x), txt (oV x), .int .i64 (oR x), .int .i64 (oS x), .int .i64 (oT x)]) = Value.agg (orc x).toArray from rfl, show (Value.agg #[.int .i64 (oC y), .int .i64 (oQ y), .int .i64 (oK y), txt (oP y), txt (oV y), .int .i64 (oR y), .int .i64 (oS y), .int .i64 (oT y)]) = Value.agg (orc y).toArray from rfl, show (10000 : Nat) = 9998 + 2 from rfl, eqTOrP]
 rfl
theorem clientB_any (x : Or) (z : Int) (g : Nat) (w : World) (hb : Blk w g [.int .i64 z] 3) : Calls Tryz.prog 95 #[.agg (orc x).toArray, .pointer (some ⟨g, 0, none⟩)] w (One (.bool (oC x == z)) w) := by
 have hlt := hb.lt
 have HX := lhd hb
 clear hb
 go_enter Tryz.func95, Tryz.ntmps95
 go_wp2_with (refine wpList_box_blk rfl 86 _ rfl (orc x) rfl ?_)
 intro w1 b1 b2 b3
 have HB := lhd b3
 have Y := HX.out.below b3 hlt
 have c0 := Y.at_ 0 _ rfl
 have d0 := b1.at_ 0 _ rfl
 obtain ⟨g1, hg1⟩ : ∃ g, w.heap.size = g := ⟨_, rfl⟩
 rw [hg1] at d0 ⊢
 clear b1 b2 b3 Y
 go_wp2
 go_ret
 exact ⟨rfl, HB.out⟩
def IdxB (z : Int) (l : List Or) (w : World) (e : Ending) (w' : World) : Prop := ∃ k : Int, e = .returned (.int .i64 k) ∧ decide (0 ≤ k) = hasC l z ∧ -1 ≤ k ∧ k ≤ 9223372036854775807 ∧ Below w.heap.size w w'
theorem hasC_here (l : List Or) (z : Int) (i : Nat) (hi : i < l.length) (h : oC (l.getD i or0) = z) : hasC l z = true := by
 unfold hasC
 rw [List.any_eq_true]
 refine ⟨l.getD i or0, ?_, decide_eq_true h⟩
 rw [List.getD_eq_getElem?_getD, List.getElem?_eq_getElem hi]
 exact List.getElem_mem hi
theorem hasC_none (l : List Or) (z : Int) (h : ∀ j, j < l.length → oC (l.getD j or0) ≠ z) : hasC l z = false := by
 unfold hasC
 rw [List.any_eq_false]
 intro x hx
 obtain ⟨j, hj, rfl⟩ := List.getElem_of_mem hx
 have := h j hj
 rw [List.getD_eq_getElem?_getD, List.getElem?_eq_getElem hj] at this
 simpa using this
theorem indexB_any (z : Int) (l : List Or) (v : Value) (g : Nat) (w : World) (hr : RdE OrK w.heap.size w v l) (hb : Blk w g [.int .i64 z] 3) :
 Calls Tryz.prog 135 #[v, .func (.func 95) #[] #[.pointer (some ⟨g, 0, none⟩)]] w (IdxB z l w) := by
 obtain ⟨A, cp, rfl, hc, hm⟩ := hr.shape
 unfold maxLen at hm
 obtain ⟨n, hn⟩ : ∃ n, l.length = n := ⟨_, rfl⟩
 have HN := lhd hn
 have HR := lhd hr
 have HG := lhd hb
 rw [hn] at hc HR ⊢
 clear hr hn hb
 go_enter Tryz.func135, Tryz.ntmps135
 have hcf : ∀ args W, (callFunc 95 args).run Tryz.prog W = .ok (.enter 95 args) W := fun _ _ => rfl
 go_wp2
 go_loopw [5, 8] (fun _ x wr => ∃ i : Nat, i ≤ n ∧ x = .int .i64 (i : Int) ∧ Hid (∀ j, j < i → oC (l.getD j or0) ≠ z) ∧ Hid (Below w.heap.size w wr)) (fun _ x _ => n - (intOf x).toNat)
 case atStart => exact ⟨0, by omega, rfl, fun j hj => by omega, Below.refl _ _⟩
 case round =>
  obtain ⟨i, hi, rfl, HA, HW⟩ := hrel
  by_cases hi2 : i < n
  ·have zi : (i : Int) < (n : Int) := by omega
   obtain ⟨a, hA, c0, c1, c2, c3, c4, c5, c6, c7⟩ := (HR.out.below HW.out).atOr i (by rw [HN.out]; exact hi2)
   subst hA
   obtain ⟨x, hx⟩ : ∃ x, l.getD i or0 = x := ⟨_, rfl⟩
   rw [hx] at c0 c1 c2 c3 c4 c5 c6 c7
   have HX := lhd hx
   have GW := lhd (HG.out.below HW.out HG.out.lt)
   clear hx
   go_wp2_with fail
   refine (clientB_any x z g wr GW.out).mono ?_
   rintro e w2 ⟨rfl, hb⟩
   have HW2 := lhd (HW.out.trans (hb.mono HW.out.size))
   clear hb c0 c1 c2 c3 c4 c5 c6 c7
   by_cases hxz : oC x = z
   ·have hB : (oC x == z) = true := int_eqE _ _ hxz
    have HE := lhd (hasC_here l z i (by rw [HN.out]; exact hi2) (by rw [HX.out]; exact hxz))
    go_wp2
    go_ret
    exact ⟨(i : Int), rfl, by rw [HE.out, decide_eq_true (by omega)], by omega, by omega, HW2.out⟩
   ·have hB : (oC x == z) = false := int_neE _ _ hxz
    have HA2 : Hid (∀ j, j < i + 1 → oC (l.getD j or0) ≠ z) := by
     intro j hj
     by_cases h : j < i
     ·exact HA.out j h
     ·obtain rfl : j = i := by omega
      rw [HX.out]
      exact hxz
    go_wp2
    go_roundw
    case rel => exact ⟨i + 1, by omega, by go_num, HA2, HW2⟩
    case measure => simp [intOf]; omega
  ·have hE : i = n := by omega
   subst hE
   have HE := lhd (hasC_none l z (by rw [HN.out]; exact HA.out))
   go_wp2
   go_ret
   exact ⟨-1, rfl, by rw [HE.out]; rfl, by omega, by omega, HW.out⟩
theorem containsB_any (z : Int) (l : List Or) (v : Value) (g : Nat) (w : World) (hr : RdE OrK w.heap.size w v l) (hb : Blk w g [.int .i64 z] 3) :
 Calls Tryz.prog 94 #[v, .func (.func 95) #[] #[.pointer (some ⟨g, 0, none⟩)]] w (One (.bool (hasC l z)) w) := by
 have HR := lhd hr
 have HG := lhd hb
 obtain ⟨C, hC⟩ : ∃ C, hasC l z = C := ⟨_, rfl⟩
 have HC := lhd hC
 rw [hC]
 clear hr hb hC
 go_enter Tryz.func94, Tryz.ntmps94
 go_wp2_with fail
 refine (indexB_any z l v g w HR.out HG.out).mono ?_
 rintro e w2 ⟨k, rfl, hk, k1, k2, hb⟩
 have HB := lhd hb
 rw [HC.out] at hk
 clear hb HC
 cases C
 ·have h0 : ¬ (0 : Int) ≤ k := by simpa using hk
  go_wp2
  go_ret
  exact ⟨rfl, HB.out⟩
 ·have h0 : (0 : Int) ≤ k := by simpa using hk
  go_wp2
  go_ret
  exact ⟨rfl, HB.out⟩
theorem hasB_any (z : Int) (l : List Or) (v : Value) (w : World) (hr : RdE OrK w.heap.size w v l) : Calls Tryz.prog 49 #[v, .int .i64 z] w (One (.bool (hasC l z)) w) := by
 have HR := lhd hr
 clear hr
 have hmf : ∀ (fn : Fn) (first cap : Array Value) (w : World), (Instr.makeFunc fn first cap).run Tryz.prog w = .ok (.func fn first cap) w := fun _ _ _ _ => rfl
 go_enter Tryz.func49, Tryz.ntmps49
 go_wp2_with (refine wpList_box_one rfl 3 _ rfl (.int .i64 z) rfl rfl ?_)
 intro w1 b1 b2 b3
 have HG := lhd b1
 have HB := lhd b3
 have HR1 := lhd ((HR.out.below b3).more b3.size)
 obtain ⟨g, hg⟩ : ∃ g, w.heap.size = g := ⟨_, rfl⟩
 rw [hg] at HG ⊢
 clear b1 b2 b3 hg
 go_wp2_with fail
 refine (containsB_any z l v g w1 HR1.out HG.out).mono ?_
 rintro e w2 ⟨rfl, hb⟩
 have HB2 := lhd (HB.out.trans (hb.mono HB.out.size))
 clear hb
 go_wp2
 go_ret
 exact ⟨rfl, HB2.out⟩
abbrev SlT := Option Addr × Nat × Nat
def slv (s : SlT) : Value := .slice s.1 s.2.1 s.2.2
def sl0 : SlT := (none, 0, 0)
def SlK : RowK SlT := { enc := fun s => [slv s], k := 1, d := sl0, len := fun _ => rfl, one := fun _ u hu => by simp only [List.mem_cons, List.not_mem_nil, or_false] at hu; subst hu; rfl, pos := by decide }
theorem RdE.atSl {B : Nat} {w : World} {A : Option Addr} {n c : Nat} {l : List SlT} (h : RdE SlK B w (.slice A n c) l) (j : Nat) (hj : j < l.length) :
 ∃ a, A = some a ∧ w.cell? (a.add j) = some (slv (l.getD j sl0)) := by
 obtain ⟨a, ha, hc⟩ := h.cells j hj
 have h0 := hc 0 (by decide)
 rw [show j * SlK.k = j from Nat.mul_one j] at h0
 exact ⟨a, ha, h0⟩
def sec (x : Se) : List Value := [.int .i64 (sI x), .int .i64 (sP x), .int .i64 (sU x)]
theorem sec_one (x : Se) : ∀ u ∈ sec x, u.oneCell' = true := by
 intro u hu
 unfold sec at hu
 simp only [List.mem_cons, List.not_mem_nil, or_false] at hu
 rcases hu with rfl | rfl | rfl <;> rfl
def SeK : RowK Se := { enc := sec, k := 3, d := se0, len := fun _ => rfl, one := sec_one, pos := by decide }
def inc (x : Int) : List Value := [.int .i64 x]
def InK : RowK Int := { enc := inc, k := 1, d := 0, len := fun _ => rfl, one := fun x u hu => by unfold inc at hu; simp only [List.mem_cons, List.not_mem_nil, or_false] at hu; rw [hu]; rfl, pos := by decide }
theorem RdE.at3 {B : Nat} {w : World} {A : Option Addr} {n c : Nat} {l : List Se} (h : RdE SeK B w (.slice A n c) l) (j : Nat) (hj : j < l.length) :
 ∃ a, A = some a ∧ w.cell? (a.add (j * 3)) = some (.int .i64 (sI (l.getD j se0))) ∧ w.cell? ⟨(a.add (j * 3)).block, (a.add (j * 3)).off + 1, none⟩ = some (.int .i64 (sP (l.getD j se0))) ∧
   w.cell? ⟨(a.add (j * 3)).block, (a.add (j * 3)).off + 2, none⟩ = some (.int .i64 (sU (l.getD j se0))) := by
 obtain ⟨a, ha, hc⟩ := h.cells j hj
 exact ⟨a, ha, hc 0 (by decide), hc 1 (by decide), hc 2 (by decide)⟩
theorem RdE.at1 {B : Nat} {w : World} {A : Option Addr} {n c : Nat} {l : List Int} (h : RdE InK B w (.slice A n c) l) (j : Nat) (hj : j < l.length) :
 ∃ a, A = some a ∧ w.cell? (a.add j) = some (.int .i64 (l.getD j 0)) := by
 obtain ⟨a, ha, hc⟩ := h.cells j hj
 have h0 := hc 0 (by decide)
 rw [show j * InK.k = j from Nat.mul_one j] at h0
 exact ⟨a, ha, h0⟩
theorem take_se (l : List Se) (i : Nat) (hi : i < l.length) : l.take (i + 1) = l.take i ++ [l.getD i se0] := by
 rw [List.take_add_one, List.getD_eq_getElem?_getD, List.getElem?_eq_getElem hi]
 rfl
theorem book_one (t : Int) (A : Option Addr) (n c : Nat) : [Value.int .i64 t, .slice A n c].toArray.all (·.oneCell') = true := by
 rw [Array.all_eq_true_iff_forall_mem]
 intro v hv
 simp at hv
 rcases hv with rfl | rfl <;> rfl
theorem sec_all (x : Se) : (sec x).toArray.all (·.oneCell') = true := enc_all SeK x
def Book1 (t : Int) (l : List Se) (w : World) (e : Ending) (w' : World) : Prop := ∃ v, e = .returned (.agg #[.int .i64 t, v]) ∧ RdE SeK w'.heap.size w' v l ∧ Below w.heap.size w w'
def BooksO (en : TypeId) (v0 : Value) (t : Int) (l : List Se) (f : Nat) (w : World) (e : Ending) (w' : World) : Prop := ∃ v, e = .returned (.tuple #[.agg #[.int .i64 t, v], .int .i64 (f : Int)]) ∧ RdE SeK w'.heap.size w' v l ∧ (v = v0 ∨ OwnE SeK en w' w.heap.size v l) ∧ Below w.heap.size w w'
def TicksO (en ei : TypeId) (v0 : Value) (t : Int) (l : List Se) (g : List Int) (f : Nat) (w : World) (e : Ending) (w' : World) : Prop :=
 ∃ v u, e = .returned (.tuple #[.agg #[.int .i64 t, v], u, .int .i64 (f : Int)]) ∧ RdE SeK w'.heap.size w' v l ∧ RdE InK w'.heap.size w' u g ∧ (v = v0 ∨ OwnE SeK en w' w.heap.size v l) ∧ (u = .slice none 0 0 ∨ OwnE InK ei w' w.heap.size u g) ∧ Below w.heap.size w w'
theorem close_none (l : List Se) (id : Int) (h : hasSe l id = false) : leaseE l id = 14 ∧ closeS l id = l := by
 refine ⟨by unfold leaseE; rw [h]; rfl, ?_⟩
 unfold closeS
 rw [List.filter_eq_self]
 intro x hx
 simpa using (hasSe_not l id).1 h x hx
theorem lease_yes (l : List Se) (id : Int) (h : hasSe l id = true) : leaseE l id = 0 := by unfold leaseE; rw [h]; rfl
theorem touch_none (t : Int) (l : List Se) (id : Int) (h : hasSe l id = false) : leaseE l id = 14 ∧ touchS t l id = l := by
 refine ⟨(close_none l id h).1, ?_⟩
 unfold touchS
 rw [List.map_congr_left (g := fun x => x) fun x hx => ?_, List.map_id']
 unfold touch1
 rw [if_neg ((hasSe_not l id).1 h x hx)]
theorem touch_fit (t : Int) (l : List Se) (h : RightB t l) (x : Se) (hx : x ∈ l) : wrap64 (t + sP x) = t + sP x ∧ IntKind.i64.wrap (t + sP x) = t + sP x := by
 have h1 := h.lo
 have h2 := h.hi
 have h3 := h.fine x hx
 simp only [fineS, Bool.and_eq_true, decide_eq_true_eq] at h3
 refine ⟨?_, ?_⟩
 ·unfold wrap64
  omega
 ·rw [IntKind.wrap_i64]
  omega
theorem open_err (t : Int) (l : List Se) (id sp : Int) (f : Nat) (h : openE l id sp = f) (h0 : f ≠ 0) : openE l id sp = f ∧ openS t l id sp = l := by
 refine ⟨h, ?_⟩
 unfold openS
 rw [if_neg (by rw [h]; exact h0)]
theorem open_ok (t : Int) (l : List Se) (id sp : Int) (h : openE l id sp = 0) : openE l id sp = 0 ∧ openS t l id sp = insS (id, sp, t + sp) l := by
 refine ⟨h, ?_⟩
 unfold openS
 rw [if_pos h]
theorem openE_arg (l : List Se) (id sp : Int) (h : id < 1 ∨ sp < 1 ∨ 1000 < sp) : openE l id sp = 1 := by unfold openE; rw [if_pos h]
theorem openE_has (l : List Se) (id sp : Int) (h : ¬ (id < 1 ∨ sp < 1 ∨ 1000 < sp)) (h2 : hasSe l id = true) : openE l id sp = 7 := by unfold openE; rw [if_neg h, if_pos h2]
theorem openE_full (l : List Se) (id sp : Int) (h : ¬ (id < 1 ∨ sp < 1 ∨ 1000 < sp)) (h2 : hasSe l id = false) (h3 : 50 ≤ l.length) : openE l id sp = 9 := by unfold openE; rw [if_neg h, if_neg (by rw [h2]; simp), if_pos h3]
theorem openE_ok (l : List Se) (id sp : Int) (h : ¬ (id < 1 ∨ sp < 1 ∨ 1000 < sp)) (h2 : hasSe l id = false) (h3 : ¬ 50 ≤ l.length) : openE l id sp = 0 := by unfold openE; rw [if_neg h, if_neg (by rw [h2]; simp), if_neg h3]
theorem ret_blk3K {P : Program} {fn : Func} {p u v : Tmp} {ty : TypeId} (h : fn.results = #[.cell p ty, .tmp u, .tmp v]) (tmps : Array Value) (w : World) (g : Nat) (t : TypeId) (cs : List Value) (x y : Value)
 (hp : tmps.getD p undef = .pointer (some ⟨g, 0, none⟩)) (hx : tmps.getD u undef = x) (hy : tmps.getD v undef = y) (hb : Blk w g cs t) (d : TypeDesc) (hu : P.underlying ty = some d) (hd : d.isRow = true) (hi : (P.info? ty).map (·.size) = some cs.length) :
 (results fn tmps).run P w = .ok (.tuple #[.agg cs.toArray, x, y]) w := by
 have hl := run_loadVar_row w g t ty cs.toArray (0, 0) d hb hu (by cases d <;> first | rfl | cases hd) (by simpa using hi)
 have hp' : tmps[p]?.getD undef = .pointer (some ⟨g, 0, none⟩) := by simpa using hp
 have hx' : tmps[u]?.getD undef = x := by simpa using hx
 have hy' : tmps[v]?.getD undef = y := by simpa using hy
 simp [results, h, Result.andThen, hp', hx', hy', asAddr, hl]
theorem kindIn : KindOf Tryz.prog 3 InK 8 := kind_of (z := .int .i64 0) (by kernel_rfl) rfl
def keepS (l : List Se) (z : Int) : List Se := l.filter fun x => !lateS z x
def lateN (l : List Se) (z : Int) : List Int := (l.filter (lateS z)).map sI
theorem tick_err (t : Int) (l : List Se) (z : Int) (f : Nat) (h : tickE t z = f) (h0 : f ≠ 0) : tickT t z = t ∧ tickS t l z = l ∧ goneS t l z = [] ∧ tickE t z = f := by
 unfold tickT tickS goneS
 rw [if_neg (by rw [h]; exact h0), if_neg (by rw [h]; exact h0), if_neg (by rw [h]; exact h0)]
 exact ⟨rfl, rfl, rfl, h⟩
theorem tick_ok (t : Int) (l : List Se) (z : Int) (h1 : t ≤ z) (h2 : z ≤ 1000000000) : tickT t z = z ∧ tickS t l z = keepS l z ∧ goneS t l z = lateN l z ∧ tickE t z = 0 := by
 have h := tick_of t z h1 h2
 unfold tickT tickS goneS
 rw [if_pos h, if_pos h, if_pos h]
 exact ⟨rfl, rfl, rfl, h⟩
theorem keep_snoc (l : List Se) (z : Int) (i : Nat) (hi : i < l.length) : keepS (l.take (i + 1)) z = keepS (l.take i) z ++ (if sU (l.getD i se0) ≤ z then [] else [l.getD i se0]) ∧
 lateN (l.take (i + 1)) z = lateN (l.take i) z ++ (if sU (l.getD i se0) ≤ z then [sI (l.getD i se0)] else []) := by
 rw [take_se l i hi]
 obtain ⟨y, hy⟩ : ∃ y, l.getD i se0 = y := ⟨_, rfl⟩
 rw [hy]
 unfold keepS lateN
 rw [List.filter_append, List.filter_append, List.map_append]
 by_cases h : sU y ≤ z <;> simp [lateS, h]
theorem keep_len (l : List Se) (z : Int) : (keepS l z).length ≤ l.length := List.length_filter_le _ _
theorem late_len (l : List Se) (z : Int) : (lateN l z).length ≤ l.length := by
 unfold lateN
 rw [List.length_map]
 exact List.length_filter_le _ _
set_option linter.unusedVariables false
set_option linter.unusedVariables false
set_option linter.unusedVariables false
set_option linter.unusedVariables false
def nsO (o : Or) : List Int := [oC o, oQ o, oK o, oR o, oS o, oT o]
theorem encI_len (n : Int) : (encI n).length ≤ 9 := by
 unfold encI
 rw [enc_length]
 have := wid_le (zig n).toNat
 omega
theorem encIs_len : ∀ l : List Int, (encIs l).length ≤ 9 * l.length
 | [] => Nat.zero_le _
 | n :: r => by
   have h1 := encI_len n
   have h2 := encIs_len r
   simp only [encIs, List.length_append, List.length_cons]
   omega
theorem encIs_take (l : List Int) (i : Nat) (hi : i < l.length) : encIs (l.take (i + 1)) = encIs (l.take i) ++ encI (l.getD i 0) := by
 rw [List.take_succ_eq_append_getElem hi, encIs_append, List.getD_eq_getElem?_getD, List.getElem?_eq_getElem hi]
 simp [encIs]
theorem encX_len (s : List UInt8) : (encX s).length ≤ 9 + s.length := by
 unfold encX
 rw [encS_length, ba_size]
 have := wid_le s.length
 omega
def rpc (r : Rp) (nv : Value) : List Value := [.int .i64 (pC r), .int .i64 (pQ r), .int .i64 (pE r), txt (pV r), .int .i64 (pR r), nv]
def wac (x : Wa) : List Value := [txt (wP x), .int .i64 (wC x), .bool (wK x)]
theorem wac_one (x : Wa) : ∀ u ∈ wac x, u.oneCell' = true := by
 intro u hu
 unfold wac at hu
 simp only [List.mem_cons, List.not_mem_nil, or_false] at hu
 rcases hu with rfl | rfl | rfl <;> rfl
def WaK : RowK Wa := { enc := wac, k := 3, d := wa0, len := fun _ => rfl, one := wac_one, pos := by decide }
theorem wac_all (x : Wa) : (wac x).toArray.all (·.oneCell') = true := enc_all WaK x
theorem RdE.atWa {B : Nat} {w : World} {A : Option Addr} {n c : Nat} {l : List Wa} (h : RdE WaK B w (.slice A n c) l) (j : Nat) (hj : j < l.length) :
 ∃ a, A = some a ∧ w.cell? (a.add (j * 3)) = some (txt (wP (l.getD j wa0))) ∧ w.cell? ⟨(a.add (j * 3)).block, (a.add (j * 3)).off + 1, none⟩ = some (.int .i64 (wC (l.getD j wa0))) ∧ w.cell? ⟨(a.add (j * 3)).block, (a.add (j * 3)).off + 2, none⟩ = some (.bool (wK (l.getD j wa0))) := by
 obtain ⟨a, ha, hc⟩ := h.cells j hj
 exact ⟨a, ha, hc 0 (by decide), hc 1 (by decide), hc 2 (by decide)⟩
theorem eqFWa (d : Nat) (x y : Wa) (w : World) (fs : List Field) (h : fs.map (fun f => (f.name == "_", f.type, f.offset)) = [(false, 9, 0), (false, 3, 1), (false, 4, 2)]) :
 (Op.eqFields (d + 1) (wac x).toArray (wac y).toArray fs).run Tryz.prog w = .ok (decide (x = y)) w := by
 obtain ⟨f0, f1, f2, rfl⟩ : ∃ f0 f1 f2, fs = [f0, f1, f2] := by
  have hl := congrArg List.length h
  rw [List.length_map] at hl
  match fs, hl with
  | [f0, f1, f2], _ => exact ⟨f0, f1, f2, rfl⟩
 simp only [List.map_cons, List.map_nil, List.cons.injEq, Prod.mk.injEq, and_true] at h
 obtain ⟨⟨n0, q0, o0⟩, ⟨n1, q1, o1⟩, ⟨n2, q2, o2⟩⟩ := h
 have m0 : f0.name ≠ "_" := by simpa using n0
 have m1 : f1.name ≠ "_" := by simpa using n1
 have m2 : f2.name ≠ "_" := by simpa using n2
 have p0 : ∀ z : Wa, (part f0.type (wac z).toArray f0.offset).run Tryz.prog w = .ok (txt (wP z)) w := fun z => by rw [q0, o0]; exact run_part_cell _ _ _ _ Tryz.isAgg9 rfl w
 have e0' : (Op.equalIn (d + 1) f0.type (txt (wP x)) (txt (wP y))).run Tryz.prog w = .ok (wP x == wP y) w := by rw [q0, run_equalIn_string w d _ _ _ Tryz.underlying9, toList_txtE, toList_txtE]
 have p1 : ∀ z : Wa, (part f1.type (wac z).toArray f1.offset).run Tryz.prog w = .ok (.int .i64 (wC z)) w := fun z => by rw [q1, o1]; exact run_part_cell _ _ _ _ Tryz.isAgg3 rfl w
 have e1' : (Op.equalIn (d + 1) f1.type (.int .i64 (wC x)) (.int .i64 (wC y))).run Tryz.prog w = .ok (wC x == wC y) w := by rw [q1, run_equalIn_int w d _ _ _ _ _ Tryz.underlying3]
 have p2 : ∀ z : Wa, (part f2.type (wac z).toArray f2.offset).run Tryz.prog w = .ok (.bool (wK z)) w := fun z => by rw [q2, o2]; exact run_part_cell _ _ _ _ Tryz.isAgg4 rfl w
 have e2' : (Op.equalIn (d + 1) f2.type (.bool (wK x)) (.bool (wK y))).run Tryz.prog w = .ok (wK x == wK y) w := by rw [q2, run_equalIn_bool' w d _ _ _ Tryz.underlying4]
 obtain ⟨a0, a1, a2⟩ := x
 obtain ⟨b0, b1, b2⟩ := y
 simp only [Op.eqFields, if_pos m0, if_pos m1, if_pos m2, Sem.run_bind, p0, p1, p2, e0', e1', e2', Result.andThen_ok, Sem.run_ite, Sem.run_pure]
 by_cases h0 : a0 = b0 <;> by_cases h1 : a1 = b1 <;> by_cases h2 : a2 = b2 <;> simp [h0, h1, h2]
theorem rowWaP : ∃ d, Tryz.prog.underlying 163 = some d ∧ d.isRow = true := ⟨_, Tryz.underlying163, rfl⟩
theorem szWaP : (Tryz.prog.info? 163).map (·.size) = some 3 := by kernel_rfl
theorem zeroWaP : (Tryz.prog.info? 163).map (·.zero) = some (some (.agg (wac wa0).toArray)) := by kernel_rfl
theorem kindWaP : KindOf Tryz.prog 163 WaK 32 := kind_of (z := .agg (wac wa0).toArray) (by kernel_rfl) rfl
theorem eqTWaP (d : Nat) (x y : Wa) (w : World) : (Op.equalIn (d + 2) 163 (.agg (wac x).toArray) (.agg (wac y).toArray)).run Tryz.prog w = .ok (decide (x = y)) w := by
 rw [run_equalIn_struct w (d + 1) _ _ _ (show Tryz.prog.underlying 163 = some (.struct (Tryz.prog.fieldsOf 163)) by kernel_rfl) (by kernel_rfl)]
 exact eqFWa d x y w _ (by kernel_rfl)
theorem run_eqlWaP (x y : Wa) (w : World) : (binOp .eql 163 (.agg #[txt (wP x), .int .i64 (wC x), .bool (wK x)]) (.agg #[txt (wP y), .int .i64 (wC y), .bool (wK y)])).run Tryz.prog w = .ok (.bool (decide (x = y))) w := by
 rw [run_eql_struct, show (Value.agg #[txt (wP x), .int .i64 (wC x), .bool (wK x)]) = Value.agg (wac x).toArray from rfl, show (Value.agg #[txt (wP y), .int .i64 (wC y), .bool (wK y)]) = Value.agg (wac y).toArray from rfl, show (10000 : Nat) = 9998 + 2 from rfl, eqTWaP]
 rfl
theorem run_neqWaP (x y : Wa) (w : World) : (binOp .neq 163 (.agg #[txt (wP x), .int .i64 (wC x), .bool (wK x)]) (.agg #[txt (wP y), .int .i64 (wC y), .bool (wK y)])).run Tryz.prog w = .ok (.bool (!decide (x = y))) w := by
 rw [run_neq_struct, show (Value.agg #[txt (wP x), .int .i64 (wC x), .bool (wK x)]) = Value.agg (wac x).toArray from rfl, show (Value.agg #[txt (wP y), .int .i64 (wC y), .bool (wK y)]) = Value.agg (wac y).toArray from rfl, show (10000 : Nat) = 9998 + 2 from rfl, eqTWaP]
 rfl
def chc (x : Ch) : List Value := [.int .i64 (cK x), txt (cP x)]
theorem chc_one (x : Ch) : ∀ u ∈ chc x, u.oneCell' = true := by
 intro u hu
 unfold chc at hu
 simp only [List.mem_cons, List.not_mem_nil, or_false] at hu
 rcases hu with rfl | rfl <;> rfl
def ChK : RowK Ch := { enc := chc, k := 2, d := ch0, len := fun _ => rfl, one := chc_one, pos := by decide }
theorem chc_all (x : Ch) : (chc x).toArray.all (·.oneCell') = true := enc_all ChK x
theorem RdE.atCh {B : Nat} {w : World} {A : Option Addr} {n c : Nat} {l : List Ch} (h : RdE ChK B w (.slice A n c) l) (j : Nat) (hj : j < l.length) :
 ∃ a, A = some a ∧ w.cell? (a.add (j * 2)) = some (.int .i64 (cK (l.getD j ch0))) ∧ w.cell? ⟨(a.add (j * 2)).block, (a.add (j * 2)).off + 1, none⟩ = some (txt (cP (l.getD j ch0))) := by
 obtain ⟨a, ha, hc⟩ := h.cells j hj
 exact ⟨a, ha, hc 0 (by decide), hc 1 (by decide)⟩
theorem szChP : (Tryz.prog.info? 235).map (·.size) = some 2 := by kernel_rfl
theorem zeroChP : (Tryz.prog.info? 235).map (·.zero) = some (some (.agg (chc ch0).toArray)) := by kernel_rfl
theorem kindChP : KindOf Tryz.prog 235 ChK 24 := kind_of (z := .agg (chc ch0).toArray) (by kernel_rfl) rfl
def evc (x : Ev) : List Value := [txt (wP x.1), .int .i64 (wC x.1), .bool (wK x.1), .int .i64 (cK x.2), txt (cP x.2)]
theorem evc_one (x : Ev) : ∀ u ∈ evc x, u.oneCell' = true := by
 intro u hu
 unfold evc at hu
 simp only [List.mem_cons, List.not_mem_nil, or_false] at hu
 rcases hu with rfl | rfl | rfl | rfl | rfl <;> rfl
def EvK : RowK Ev := { enc := evc, k := 5, d := ev0, len := fun _ => rfl, one := evc_one, pos := by decide }
theorem kindEvP : KindOf Tryz.prog 239 EvK 56 := kind_of (z := .agg (evc ev0).toArray) (by kernel_rfl) rfl
end Go.Proofs.YtgfobinklijkpaaGreatDoor
