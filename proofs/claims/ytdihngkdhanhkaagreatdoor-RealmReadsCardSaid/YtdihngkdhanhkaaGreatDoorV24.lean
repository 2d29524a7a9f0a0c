/-
  Texts GB GC GD GE.
-/
import Derived.Test.YtdihngkdhanhkaaGreatDoorV01
import Derived.Lib.Overlaps
import Derived.Lib.AppendZerosOnto
import Derived.Test.YtdihngkdhanhkaaGreatDoorV03
import Derived.Test.YtdihngkdhanhkaaGreatDoorV23
namespace Go.Proofs.YtdihngkdhanhkaaGreatDoor
set_option maxRecDepth 100000
set_option maxHeartbeats 16000000
open Go.RowKit
theorem aheadPx (p q : List UInt8) (b : Bool) (h : aheadB p q = b) (w : World) : Calls Tryz.prog 122 #[txt p, txt q] w (One (.bool b) w) := by
 rw [← h]
 exact pxAhead_any p q w
theorem plFn_any (l : List Nd) (p : List UInt8) (v : Value) (i gp gl : Nat) (W : World) (hr : RdNd W.heap.size W v l) (hi : i < l.length) (h1 : gp < W.heap.size) (h2 : gl < W.heap.size)
 (c1 : W.cell? ⟨gp, 0, none⟩ = some (txt p)) (c2 : W.cell? ⟨gl, 0, none⟩ = some v) :
 Calls Tryz.prog 208 #[.int .i64 (i : Int), .pointer (some ⟨gp, 0, none⟩), .pointer (some ⟨gl, 0, none⟩)] W (One (.bool (aheadB p (nP (l.getD i nd0)))) W) := by
 obtain ⟨A, cp, rfl, hc, hm⟩ := hr.shape
 unfold maxLen at hm
 obtain ⟨n, hn⟩ : ∃ n, l.length = n := ⟨_, rfl⟩
 have HN := lhd hn
 have HR := lhd hr
 rw [hn] at hc HR hi c2
 have zi : (i : Int) < (n : Int) := by omega
 obtain ⟨a, hA, -⟩ := hr.at_ i (by omega)
 subst hA
 have C1 := lhd c1
 have C2 := lhd c2
 obtain ⟨y, hx⟩ : ∃ y, nP (l.getD i nd0) = y := ⟨_, rfl⟩
 have HX := lhd hx
 rw [hx]
 clear hr hn c1 c2 hx
 go_enter Tryz.func208, Tryz.ntmps208
 go_wp2
 obtain ⟨B, hB⟩ : ∃ B, aheadB p y = B := ⟨_, rfl⟩
 have HBB := lhd hB
 clear hB
 refine wp_region_rely2 8 0 (fun x => ⟨#[.int IntKind.i64 ↑i, .pointer (some { block := gp, off := 0 }), .pointer (some { block := gl, off := 0 }), undef, x 7, x 0, x 1, x 2, x 3, x 4, x 5, x 6], []⟩) (fun jj => ([eqV (txt p), eqV (.slice (some a) n cp), eqV (.int IntKind.i64 ↑i), eqV (.pointer (some (a.add (i * 4)))), eqV (.pointer (some (a.add (i * 4)))), eqV (txt y), (eqV (.bool B)), eqV (.bool B)] : List (Value → World → Prop)).getD jj (fun _ _ => True)) rfl ⟨fun kk => [_, _, _, _, _, _, _, _].getD kk undef, rfl⟩ (by kernel_rfl) (by kernel_rfl) ?steps ?fin
 case steps =>
  refine StepsAt.val 0 (txt p) rfl (fun _ _ => rfl) rfl rfl (fun x wx hb hd => ?_) ?_
  ·have cc := (hb.cell h1).trans C1.out
   (go_simp; try rfl)
  refine StepsAt.val 1 (.slice (some a) n cp) rfl (fun _ _ => rfl) rfl rfl (fun x wx hb hd => ?_) ?_
  ·have cc := (hb.cell h2).trans C2.out
   (go_simp; try rfl)
  refine StepsAt.val 2 (.int IntKind.i64 ↑i) rfl (fun _ _ => rfl) rfl rfl (fun x wx hb hd => ?_) ?_
  ·(go_simp; try rfl)
  refine StepsAt.val 3 (.pointer (some (a.add (i * 4)))) rfl (fun _ _ => rfl) rfl rfl (fun x wx hb hd => ?_) ?_
  ·have h1 : x 1 = .slice (some a) n cp := hd 1 (by kernel_rfl)
   have h2 : x 2 = .int IntKind.i64 ↑i := hd 2 (by kernel_rfl)
   rw [h1, h2]
   (go_simp; try rfl)
  refine StepsAt.val 4 (.pointer (some (a.add (i * 4)))) rfl (fun _ _ => rfl) rfl rfl (fun x wx hb hd => ?_) ?_
  ·have h3 : x 3 = .pointer (some (a.add (i * 4))) := hd 3 (by kernel_rfl)
   rw [h3]
   (go_simp; try rfl)
  refine StepsAt.val 5 (txt y) rfl (fun _ _ => rfl) rfl rfl (fun x wx hb hd => ?_) ?_
  ·have h4 : x 4 = .pointer (some (a.add (i * 4))) := hd 4 (by kernel_rfl)
   obtain ⟨a9, hA9, cc, -⟩ := (HR.out.below hb).at_ i (by rw [HN.out]; exact hi)
   obtain rfl : a = a9 := Option.some.inj hA9
   rw [HX.out] at cc
   rw [h4]
   (go_simp; try rfl)
  refine StepsAt.cons 6 (fun _ _ _ h hb => h) (fun _ _ => rfl) rfl rfl (fun x wx hb hd K hK => ?_) ?_
  ·have h0 : Hid (x 0 = txt p) := hd 0 (by kernel_rfl)
   have h5 : Hid (x 5 = txt y) := hd 5 (by kernel_rfl)
   go_simp
   refine calls_args (args2 := #[txt p, txt y]) (by rw [h0.out, h5.out]) ?_
   refine (aheadPx p y B HBB.out _).mono ?_
   rintro e w99 ⟨rfl, hb99⟩
   exact hK.out _ _ hb99 rfl
  refine StepsAt.val 7 (.bool B) rfl (fun _ _ => rfl) rfl rfl (fun x wx hb hd => ?_) ?_
  ·have h6 : x 6 = .bool B := hd 6 (by kernel_rfl)
   rw [h6]
   (go_simp; try rfl)
  exact StepsAt.done
 case fin =>
  intro x wx hb hd
  have hx0 : x 0 = txt p := hd 0 (by omega)
  have hx1 : x 1 = .slice (some a) n cp := hd 1 (by omega)
  have hx2 : x 2 = .int IntKind.i64 ↑i := hd 2 (by omega)
  have hx3 : x 3 = .pointer (some (a.add (i * 4))) := hd 3 (by omega)
  have hx4 : x 4 = .pointer (some (a.add (i * 4))) := hd 4 (by omega)
  have hx5 : x 5 = txt y := hd 5 (by omega)
  have hx6 : x 6 = .bool B := hd 6 (by omega)
  have hx7 : x 7 = .bool B := hd 7 (by omega)
  refine AnyTill.any (S := fun _ => True) (m := 8) _ _ _ _ ?_
  refine AnyTill.done (by kernel_rfl) ?_
  refine NoPanic.normal ?_
  try dsimp only
  rw [hx0, hx1, hx2, hx3, hx4, hx5, hx6, hx7]
  have HW := lhd hb
  clear hx0 hx1 hx2 hx3 hx4 hx5 hx6 hx7 hd hb
  go_wp2
  go_ret
  exact ⟨by rw [HBB.out]; rfl, HW.out⟩
theorem shPlace_any (l : List Nd) (p : List UInt8) (v : Value) (w : World) (hr : RdNd w.heap.size w v l) (hl : l.length ≤ 100000) (ho : inOrder l) : Calls Tryz.prog 184 #[v, txt p] w (One (.int .i64 ((posN l p : Nat) : Int)) w) := by
 have hmf : ∀ (fn : Fn) (first cap : Array Value) (w : World), (Instr.makeFunc fn first cap).run Tryz.prog w = .ok (.func fn first cap) w := fun _ _ _ _ => rfl
 obtain ⟨A, cp, rfl, hc, hm⟩ := hr.shape
 unfold maxLen at hm
 have HR := lhd hr
 have HL := lhd hl
 have HO := lhd ho
 obtain ⟨n, hn⟩ : ∃ n, l.length = n := ⟨_, rfl⟩
 have HN := lhd hn
 rw [hn] at HR HL hc ⊢
 clear hr hl ho hn
 go_enter Tryz.func184, Tryz.ntmps184
 go_wp2_with (refine wpList_box_one rfl 22 _ rfl (.slice A n cp) rfl rfl ?_)
 intro w1 b1 b2 b3
 go_wp2_with (refine wpList_box_one rfl 9 _ rfl (txt p) rfl rfl ?_)
 intro w2 a1 a2 a3
 obtain ⟨g0, hg0⟩ : ∃ g, w.heap.size = g := ⟨_, rfl⟩
 obtain ⟨g1, hg1⟩ : ∃ g, w.heap.size + 1 = g := ⟨_, rfl⟩
 have X0 := lhd (b1.below a3 (by omega))
 have X1 := lhd a1
 have HB := lhd (b3.trans (a3.mono (by omega)))
 have h02 : g0 < w2.heap.size := by omega
 have h12 : g1 < w2.heap.size := by omega
 rw [hg1] at X1 ⊢
 rw [hg0] at X0 ⊢
 have ca := X0.out.cell 0
 clear b1 b2 b3 a1 a2 a3 hg0 hg1
 go_wp2_with fail
 refine (search_any n (posN l p) 208 #[.pointer (some ⟨g1, 0, none⟩), .pointer (some ⟨g0, 0, none⟩)] (fun i => aheadB p (nP (l.getD i nd0))) w2 HL.out (by rw [← HN.out]; exact posN_le l p) (fun args w => enters_of Tryz.func208 (by kernel_rfl) rfl args w)
  (fun i hi => posN_at l p HO.out i (by rw [HN.out]; exact hi)) (fun i W hi hW => ?_)).mono ?_
 ·refine plFn_any l p _ i g1 g0 W ((HR.out.below (HB.out.trans (hW.mono HB.out.size))).more (HB.out.trans (hW.mono HB.out.size)).size) (by rw [HN.out]; exact hi) (Nat.lt_of_lt_of_le h12 hW.size) (Nat.lt_of_lt_of_le h02 hW.size) ((hW.cell h12).trans (X1.out.cell 0)) ((hW.cell h02).trans (X0.out.cell 0))
 rintro e w3 ⟨rfl, hb⟩
 have HB3 := lhd (HB.out.trans (hb.mono HB.out.size))
 clear hb ca
 go_wp2
 go_ret
 exact ⟨rfl, HB3.out⟩
theorem run_copy_nds {P : Program} (w : World) (dT sT ty elem : TypeId) (b o dLen dCap : Nat) (a : Addr) (sLen sCap : Nat) (cs : List Value)
 (hu : P.underlying dT = some (.slice elem)) (hs : (P.info? elem).map (·.size) = some 4) (hn : cs.length = Nat.min sLen dLen * 4)
 (hsrc : ∀ j v, cs[j]? = some v → w.cell? (a.add j) = some v) (hc : ∀ j, j < cs.length → (w.cell? ⟨b, o + j, none⟩).isSome = true ∧ w.frozen? ⟨b, o + j, none⟩ = false) (h1 : ∀ v ∈ cs, v.oneCell' = true) :
 (Builtin.copy_ #[dT, sT] ty #[.slice (some ⟨b, o, none⟩) dLen dCap, .slice (some a) sLen sCap]).run P w = .ok (goInt (Nat.min sLen dLen)) (w.setCells b o cs) := by
 have hl := run_loadCells_list (P := P) w a cs hsrc
 have hst := run_storeCells_cells (P := P) b o cs 0 w (fun j hj => (hc j hj).1) (fun j hj => (hc j hj).2) h1
 rw [Nat.add_zero] at hst
 cases hq : P.info? elem with
 | none => simp [hq] at hs
 | some i =>
   have hi : i.size = 4 := by simpa [hq] using hs
   rw [hn] at hl
   simp [Builtin.copy_, run_underlying hu, Builtin.lenOf, Builtin.firstCells, sizeOf, typeInfo, hq, hi, hl, hst]
theorem wpList_copy_run {P : Program} {w : World} {ops : Array Oper} {rest : List Oper} {o : Oper} {a : Act} {Q : Exit → Act → World → Prop} (hgd : o.guard = none) (d s : Operand) (t t' : TypeId)
 (ho : o.op = .call { callee := .builtin .copy, args := #[d, s], argTypes := #[t, t'] }) (v u : Value) (hd : a.eval d = v) (hs : a.eval s = u) {v' : Value} {w' : World} (hr : (Builtin.copy_ #[t, t'] o.type #[v, u]).run P w = .ok v' w')
 (h : wpList P ops Q rest (a.put o.dst v') w') : wpList P ops Q (o :: rest) a w := by
 refine wpList_plain hgd fun K hK => ?_
 unfold Oper.wp execOp
 simp only [ho, resolve, invoke, builtin, Sem.run_bind, Sem.run_pure, Result.andThen_ok, List.map_toArray, List.map_cons, List.map_nil, hd, hs, hr]
 exact hK _ _ h
theorem step_copy_run {P : Program} {ops : Array Oper} {o : Oper} {a : Act} {w : World} {K : Act → World → Prop} {Q : Exit → Act → World → Prop} {E : Prop}
 (hg : o.guard = none) (d x : Operand) (dT sT : TypeId) (hop : o.op = Op.call { callee := Callee.builtin Builtin.copy, args := #[d, x], argTypes := #[dT, sT] })
 (v u : Value) (hd : a.eval d = v) (hx : a.eval x = u) {v' : Value} {w' : World} (hr : (Builtin.copy_ #[dT, sT] o.type #[v, u]).run P w = .ok v' w') (hK : K (a.put o.dst v') w') :
 if Region.wanted o (yielded ops a.tmps) = true then Oper.wp P o a w K Q else E := by
 have hw : Region.wanted o (yielded ops a.tmps) = true := by simp [Region.wanted, hg]
 rw [if_pos hw]
 unfold Oper.wp
 simp [execOp, hop, resolve, invoke, builtin, hd, hx, hr, Result.andThen]
 exact hK
theorem RdNd.ofBlk {w : World} {g : Nat} {x : Nd} {e : TypeId} (h : Blk w g (ndc x) e) : RdNd (g + 1) w (.slice (some ⟨g, 0, none⟩) 1 1) [x] := by
 refine ⟨some ⟨g, 0, none⟩, 1, rfl, Nat.le_refl _, by decide, fun h => (by cases h), fun a ha => ?_⟩
 cases ha
 refine ⟨fun _ => Nat.lt_succ_self _, fun j u hu => ?_⟩
 rw [nds_one] at hu
 have hadd : (⟨g, 0, none⟩ : Addr).add j = ⟨g, j, none⟩ := by unfold Addr.add; split <;> simp_all
 rw [hadd]
 exact (h.cell j).trans hu
theorem nds_ins (l : List Nd) (x : Nd) (m : Nat) : nds (l.take m ++ x :: l.drop m) = nds (l.take m) ++ (ndc x ++ nds (l.drop m)) := by
 rw [nds_append, show x :: l.drop m = [x] ++ l.drop m from rfl, nds_append, nds_one]
theorem ins_len (l : List Nd) (x : Nd) (m : Nat) (hm : m ≤ l.length) : (l.take m ++ x :: l.drop m).length = l.length + 1 := by
 simp only [List.length_append, List.length_take, List.length_cons, List.length_drop]
 omega
theorem take3 (A B D : List Value) (k : Nat) : (A ++ (B ++ D)).take (A.length + B.length + k) = A ++ (B ++ D.take k) := by
 rw [← List.append_assoc, show A.length + B.length = (A ++ B).length by simp, List.take_length_add_append, List.append_assoc]
theorem ins_row1 (C : List Value) (l : List Nd) (x : Nd) (m cap : Nat) (hC : C.length = cap * 4) (hr : l.length + 1 ≤ cap) (hm : m ≤ l.length) (h : C.take (m * 4) = nds (l.take m)) (C1 C2 : List Value)
 (e1 : C1 = C.take (m * 4) ++ (ndc x ++ C.drop (m * 4 + (ndc x).length))) (e2 : C2 = C1.take ((m + 1) * 4) ++ (nds (l.drop m) ++ C1.drop ((m + 1) * 4 + (nds (l.drop m)).length))) :
 C1.length = cap * 4 ∧ C2.length = cap * 4 ∧ C2.take ((l.length + 1) * 4) = nds (l.take m ++ x :: l.drop m) := by
 have hx : (ndc x).length = 4 := rfl
 have hd : (nds (l.drop m)).length = (l.length - m) * 4 := by rw [nds_length, List.length_drop]; omega
 have l1 : C1.length = cap * 4 := by rw [e1, written_len C (ndc x) (m * 4) (by rw [hx, hC]; omega), hC]
 have l2 : C2.length = cap * 4 := by rw [e2, written_len C1 _ ((m + 1) * 4) (by rw [hd, l1]; omega), l1]
 refine ⟨l1, l2, ?_⟩
 have t1 := written_more C (ndc x) (m * 4) (by rw [hx, hC]; omega)
 rw [← e1, hx, show m * 4 + 4 = (m + 1) * 4 by omega, h] at t1
 have t2 := written_more C1 (nds (l.drop m)) ((m + 1) * 4) (by rw [hd, l1]; omega)
 rw [← e2, hd, t1, show (m + 1) * 4 + (l.length - m) * 4 = (l.length + 1) * 4 by omega] at t2
 rw [t2, nds_ins, List.append_assoc]
theorem ins_row2 (C : List Value) (l : List Nd) (x : Nd) (m cap : Nat) (hC : C.length = cap * 4) (hr : l.length + 1 ≤ cap) (hm : m ≤ l.length) (h : C.take (m * 4) = nds (l.take m)) (C1 C2 : List Value)
 (e1 : C1 = C.take ((m + 1) * 4) ++ (nds (l.drop m) ++ C.drop ((m + 1) * 4 + (nds (l.drop m)).length))) (e2 : C2 = C1.take (m * 4) ++ (ndc x ++ C1.drop (m * 4 + (ndc x).length))) :
 C1.length = cap * 4 ∧ C2.length = cap * 4 ∧ C2.take ((l.length + 1) * 4) = nds (l.take m ++ x :: l.drop m) := by
 have hx : (ndc x).length = 4 := rfl
 have hd : (nds (l.drop m)).length = (l.length - m) * 4 := by rw [nds_length, List.length_drop]; omega
 have l1 : C1.length = cap * 4 := by rw [e1, written_len C _ ((m + 1) * 4) (by rw [hd, hC]; omega), hC]
 have l2 : C2.length = cap * 4 := by rw [e2, written_len C1 (ndc x) (m * 4) (by rw [hx, l1]; omega), l1]
 refine ⟨l1, l2, ?_⟩
 have t1 := written_more C (nds (l.drop m)) ((m + 1) * 4) (by rw [hd, hC]; omega)
 rw [← e1, hd] at t1
 have t0 : C1.take (m * 4) = nds (l.take m) := by
  have := congrArg (List.take (m * 4)) t1
  rw [List.take_take, Nat.min_eq_left (by omega), List.take_append_of_le_length (by rw [List.length_take]; omega), List.take_take, Nat.min_eq_left (by omega), h] at this
  exact this
 have t3 : (C1.drop (m * 4 + 4)).take ((l.length - m) * 4) = nds (l.drop m) := by
  have := congrArg (List.drop ((m + 1) * 4)) t1
  rw [List.drop_take, List.drop_left' (by rw [List.length_take]; omega)] at this
  rw [show (m + 1) * 4 + (l.length - m) * 4 - (m + 1) * 4 = (l.length - m) * 4 by omega, show (m + 1) * 4 = m * 4 + 4 by omega] at this
  exact this
 rw [e2, t0, nds_ins, hx]
 have hl0 : (nds (l.take m)).length = m * 4 := by rw [nds_length, List.length_take]; omega
 rw [show (l.length + 1) * 4 = (nds (l.take m)).length + (ndc x).length + (l.length - m) * 4 by rw [hl0, hx]; omega, take3, t3]
def insAt (l : List Nd) (x : Nd) (m : Nat) : List Nd := l.take m ++ x :: l.drop m
theorem insEnd_any (l : List Nd) (x : Nd) (base gv : Nat) (u : Value) (W : World) (hB : base ≤ W.heap.size) (ho : OwnNd 91 W base u l) (hl : l.length ≤ 100000) (hv : Blk W gv (ndc x) 91) :
 Calls Tryz.prog 183 #[u, .int .i64 (l.length : Int), .slice (some ⟨gv, 0, none⟩) 1 1] W (EditsTo base (insAt l x l.length) W) := by
 obtain ⟨i1, hJ, hy0, hy1, hy2⟩ := info_partsPN
 obtain ⟨A, cp, rfl, hc, hm⟩ := ho.rd.shape
 unfold maxLen at hm
 have HO := lhd ho
 have HL := lhd hl
 have HV := lhd hv
 have hR := RdNd.ofBlk hv
 have HR := lhd hR
 have HE : Hid (insAt l x l.length = l ++ [x]) := by
  show _ = _
  unfold insAt
  rw [List.take_length, List.drop_length]
 obtain ⟨n, hn⟩ : ∃ n, l.length = n := ⟨_, rfl⟩
 have HN := lhd hn
 obtain ⟨L, hL⟩ : ∃ L, insAt l x l.length = L := ⟨_, rfl⟩
 rw [hL] at HE ⊢
 rw [hn] at HO HL hc ⊢
 clear ho hl hv hR hn hL
 go_enter Tryz.func183, Tryz.ntmps183
 go_wp2_with (at_builtin; refine wpList_appNd rfl _ _ 22 rfl 91 i1 Tryz.underlying22 hJ hy0 hy1 hy2 base _ _ _ l [x] rfl HO.out rfl HR.out (by have := HL.out; have := HN.out; simp; omega) hB ?_)
 all_goals
  intro v' w' h1 h2 h3
  have H1 := lhd h1
  have H2 := lhd h2
  clear h1 h2 h3
  go_wp2
  go_ret
  rw [HE.out]
  exact ⟨_, rfl, H1.out, H2.out⟩
theorem shape_blk {w : World} {g : Nat} {cs : List Value} {t : TypeId} (h : Blk w g cs t) : w.shape? g = some (t, cs.length) := by
 unfold Blk at h
 unfold World.shape?
 rw [h]
 simp
theorem ins_room {e : TypeId} {W : World} {base g cap m : Nat} {l : List Nd} (x : Nd) (h : OwnNd e W base (.slice (some ⟨g, 0, none⟩) l.length cap) l) (hm : m < l.length) (hr : l.length + 1 ≤ cap) :
 (∀ j u, (nds (l.drop m))[j]? = some u → W.cell? ⟨g, m * 4 + j, none⟩ = some u) ∧
 (∀ j, j < (l.length - m) * 4 → (W.cell? ⟨g, (m + 1) * 4 + j, none⟩).isSome = true ∧ W.frozen? ⟨g, (m + 1) * 4 + j, none⟩ = false) ∧
 (∀ j, j < 4 → ((W.setCells g ((m + 1) * 4) (nds (l.drop m))).cell? ⟨g, m * 4 + j, none⟩).isSome = true ∧ (W.setCells g ((m + 1) * 4) (nds (l.drop m))).frozen? ⟨g, m * 4 + j, none⟩ = false) ∧
 OwnNd e ((W.setCells g ((m + 1) * 4) (nds (l.drop m))).setCells g (m * 4) (ndc x)) base (.slice (some ⟨g, 0, none⟩) (l.length + 1) cap) (insAt l x m) ∧
 Below base W ((W.setCells g ((m + 1) * 4) (nds (l.drop m))).setCells g (m * 4) (ndc x)) ∧ W.shape? g = some (e, cap * 4) := by
 obtain ⟨cur, hb, h2, h4, h5, h6, h7, hn⟩ := h.block
 have hcl : cur.toList.length = cap * 4 := by rw [Array.length_toList, h6]
 have hnl : (nds (l.drop m)).length = (l.length - m) * 4 := by rw [nds_length, List.length_drop]; omega
 have hx : (ndc x).length = 4 := rfl
 have h0 : cur.toList.take (m * 4) = nds (l.take m) := by
  rw [← (nds_cut l m hm).1, ← h7, List.take_take, Nat.min_eq_left (by omega)]
 have b1 := hb.setCells (nds (l.drop m)) ((m + 1) * 4) (by rw [hnl, hcl]; omega)
 obtain ⟨C1, hC1⟩ : ∃ C, cur.toList.take ((m + 1) * 4) ++ (nds (l.drop m) ++ cur.toList.drop ((m + 1) * 4 + (nds (l.drop m)).length)) = C := ⟨_, rfl⟩
 rw [hC1] at b1
 have r1 := ins_row2 cur.toList l x m cap hcl hr (by omega) h0 C1 _ hC1.symm rfl
 have b2 := b1.setCells (ndc x) (m * 4) (by rw [hx, r1.1]; omega)
 obtain ⟨C2, hC2⟩ : ∃ C, C1.take (m * 4) ++ (ndc x ++ C1.drop (m * 4 + (ndc x).length)) = C := ⟨_, rfl⟩
 rw [hC2] at b2
 have r2 := ins_row2 cur.toList l x m cap hcl hr (by omega) h0 C1 C2 hC1.symm hC2.symm
 refine ⟨?_, ?_, ?_, ?_, below_setCells h2 _ _ _ (below_setCells h2 _ _ _ (Below.refl _ _)), ?_⟩
 ·intro j u hu
  have hj : j < (l.length - m) * 4 := by have := (List.getElem?_eq_some_iff.1 hu).1; rwa [hnl] at this
  have e0 : nds l = nds (l.take m) ++ nds (l.drop m) := by rw [← nds_append, List.take_append_drop]
  have hl0 : (nds (l.take m)).length = m * 4 := by rw [nds_length, List.length_take]; omega
  have : (cur.toList.take (l.length * 4))[m * 4 + j]? = some u := by
   rw [h7, e0, List.getElem?_append_right (by omega), hl0, Nat.add_sub_cancel_left]
   exact hu
  rw [List.getElem?_take, if_pos (by omega)] at this
  exact (hb.cell _).trans this
 ·intro j hj
  rw [hb.cell, List.getElem?_eq_getElem (by rw [hcl]; omega)]
  exact ⟨rfl, hb.frozen _⟩
 ·intro j hj
  rw [b1.cell, List.getElem?_eq_getElem (by rw [r1.1]; omega)]
  exact ⟨rfl, b1.frozen _⟩
 ·have := OwnNd.of (e := e) (base := base) (cap := cap) (l := insAt l x m) C2 b2 h2 (by unfold insAt; rw [ins_len l x m (by omega)]; exact hr) h5 r2.2.1 (by unfold insAt; rw [ins_len l x m (by omega)]; exact r2.2.2)
  unfold insAt at this ⊢
  rw [ins_len l x m (by omega)] at this
  exact this
 ·have := shape_blk hb
  rw [hcl] at this
  exact this
theorem insRoom_any (l : List Nd) (x : Nd) (m base gv g cap : Nat) (W : World) (ho : OwnNd 91 W base (.slice (some ⟨g, 0, none⟩) l.length cap) l) (hl : l.length ≤ 100000) (hv : Blk W gv (ndc x) 91) (hne : gv ≠ g) (hm : m < l.length) (hr : l.length + 1 ≤ cap) (_hcm : cap ≤ 9223372036854775807) :
 Calls Tryz.prog 183 #[.slice (some ⟨g, 0, none⟩) l.length cap, .int .i64 (m : Int), .slice (some ⟨gv, 0, none⟩) 1 1] W (EditsTo base (insAt l x m) W) := by
 obtain ⟨i1, hJ, hy0, hy1, hy2⟩ := info_partsPN
 obtain ⟨q1, q2, q3, q4, q5, q6⟩ := ins_room (W := W.drew) x ho hm hr
 have hnl : (nds (l.drop m)).length = (l.length - m) * 4 := by rw [nds_length, List.length_drop]; omega
 obtain ⟨n, hn⟩ : ∃ n, l.length = n := ⟨_, rfl⟩
 obtain ⟨tl, htl⟩ : ∃ t, nds (l.drop m) = t := ⟨_, rfl⟩
 have h1t : ∀ v ∈ tl, v.oneCell' = true := by rw [← htl]; exact nds_cell _
 rw [hn] at q2 q4 hnl hm hr hl ⊢
 rw [htl] at q1 q3 q4 q5 hnl
 have hov : ∀ lb cb, (callFunc 205 #[.slice (some ⟨gv, 0, none⟩) 1 1, .slice (some ⟨g, (m + 1) * 4, none⟩) lb cb]).run Tryz.prog W = .ok (.value (.bool false)) W := fun lb cb => by
  rw [run_callFunc_extern Tryz.func205 (by kernel_rfl) (by kernel_rfl) (by kernel_rfl) (e := Extern.SlicesOverlaps.overlaps #[22, 22] #[4]) (by kernel_rfl),
   Lib.run_overlaps_apart W 22 4 91 Tryz.underlying22 4 Tryz.sizeOf91 ⟨gv, 0, none⟩ ⟨g, (m + 1) * 4, none⟩ 1 1 lb cb hne 91 91 4 (cap * 4) (shape_blk hv) q6 (by omega) (hv.frozen 0) (hv.frozen 4)]
  rfl
 have hcp1 : ∀ ty dl dc sl sc, Nat.min sl dl = n - m → (Builtin.copy_ #[22, 22] ty #[.slice (some ⟨g, (m + 1) * 4, none⟩) dl dc, .slice (some ⟨g, m * 4, none⟩) sl sc]).run Tryz.prog W.drew = .ok (goInt (Nat.min sl dl)) (W.drew.setCells g ((m + 1) * 4) tl) := fun ty dl dc sl sc hmn =>
  run_copy_nds W.drew _ _ ty 91 g ((m + 1) * 4) dl dc ⟨g, m * 4, none⟩ sl sc tl Tryz.underlying22 sPN (by rw [hnl, hmn]) (fun j v hj => by rw [Addr.add_lit]; exact q1 j v hj) (fun j hj => q2 j (by rwa [hnl] at hj)) h1t
 have hvx : ∀ j v, (ndc x)[j]? = some v → (W.drew.setCells g ((m + 1) * 4) tl).cell? ⟨gv, j, none⟩ = some v := fun j v hj => by
  rw [World.cell?_setCells_out g _ _ _ _ (fun h => absurd h hne)]
  exact (hv.cell j).trans hj
 have hcp2 : ∀ ty dl dc, 1 ≤ dl → (Builtin.copy_ #[22, 22] ty #[.slice (some ⟨g, m * 4, none⟩) dl dc, .slice (some ⟨gv, 0, none⟩) 1 1]).run Tryz.prog (W.drew.setCells g ((m + 1) * 4) tl) = .ok (goInt (Nat.min 1 dl)) ((W.drew.setCells g ((m + 1) * 4) tl).setCells g (m * 4) (ndc x)) := fun ty dl dc hd =>
  run_copy_nds _ _ _ ty 91 g (m * 4) dl dc ⟨gv, 0, none⟩ 1 1 (ndc x) Tryz.underlying22 sPN (by rw [show Nat.min 1 dl = 1 from Nat.min_eq_left hd]; rfl) (fun j v hj => by rw [Addr.add_lit, Nat.zero_add]; exact hvx j v hj) q3 (fun v hv => nds_cell [x] v (by rw [nds_one]; exact hv))
 have HC1 := lhd hcp1
 have HC2 := lhd hcp2
 have HO := lhd q4
 have HB := lhd (((Below.refl base W).drew).trans q5)
 obtain ⟨L, hL⟩ : ∃ L, insAt l x m = L := ⟨_, rfl⟩
 rw [hL] at HO ⊢
 clear hcp1 hcp2 q1 q2 q3 q4 q5 q6 hvx h1t hnl htl hn ho hv hL
 have w1 : IntKind.i64.wrap ((m : Int) + 1) = (m : Int) + 1 := by rw [IntKind.wrap_i64]; omega
 have w2 : IntKind.i64.wrap ((n : Int) + 1) = (n : Int) + 1 := by rw [IntKind.wrap_i64]; omega
 have z2 : ¬ ((m : Int) = (n : Int)) := by omega
 have z3 : ¬ ((cap : Int) < (n : Int) + 1) := by omega
 have b1 : (0 : Int) ≤ (m : Int) + 1 := by omega
 have b2 : ((m : Int) + 1).toNat = m + 1 := by omega
 have b3 : (m : Int) ≤ (n : Int) := by omega
 have b4 : ¬ (cap = m) := by omega
 have b5 : ¬ (cap = m + 1) := by omega
 have b6 : ((n : Int) + 1).toNat = n + 1 := by omega
 have b7 : (m : Int) ≤ (n : Int) + 1 := by omega
 have b8 : (m : Int) + 1 ≤ (n : Int) + 1 := by omega
 have b9 : n + 1 ≤ cap := by omega
 go_enter Tryz.func183, Tryz.ntmps183
 go_wp2_with (simp only [hov])
 go_region_law (refine step_copy_run rfl _ _ 22 22 rfl (.slice (some ⟨g, (m + 1) * 4, none⟩) (n - m) (cap - (m + 1))) (.slice (some ⟨g, m * 4, none⟩) (n + 1 - m) (cap - m)) (by simp [Act.eval, Act.put]) (by simp [Act.eval, Act.put]) (HC1.out _ (n - m) (cap - (m + 1)) (n + 1 - m) (cap - m) (by simp only [Nat.min_def]; split <;> omega)) ?_)
 go_wp2_with (refine wpList_copy_run rfl _ _ 22 22 rfl _ _ rfl rfl (HC2.out _ (n + 1 - m) (cap - m) (by omega)) ?_)
 go_ret
 exact ⟨_, rfl, HO.out, HB.out⟩
theorem ins_grow {e : TypeId} {V : World} {base N G m : Nat} {l : List Nd} (x : Nd) (C : List Value) (hb : Blk V N C e) (hC : C.length = G * 4) (h0 : C.take (m * 4) = nds (l.take m)) (hbN : base ≤ N) (hG : G ≤ maxLen) (hm : m < l.length) (hr : l.length + 1 ≤ G) :
 (∀ j, j < 4 → (V.cell? ⟨N, m * 4 + j, none⟩).isSome = true ∧ V.frozen? ⟨N, m * 4 + j, none⟩ = false) ∧
 (∀ j, j < (l.length - m) * 4 → ((V.setCells N (m * 4) (ndc x)).cell? ⟨N, (m + 1) * 4 + j, none⟩).isSome = true ∧ (V.setCells N (m * 4) (ndc x)).frozen? ⟨N, (m + 1) * 4 + j, none⟩ = false) ∧
 OwnNd e ((V.setCells N (m * 4) (ndc x)).setCells N ((m + 1) * 4) (nds (l.drop m))) base (.slice (some ⟨N, 0, none⟩) (l.length + 1) G) (insAt l x m) ∧
 Below N V ((V.setCells N (m * 4) (ndc x)).setCells N ((m + 1) * 4) (nds (l.drop m))) := by
 have hnl : (nds (l.drop m)).length = (l.length - m) * 4 := by rw [nds_length, List.length_drop]; omega
 have hx : (ndc x).length = 4 := rfl
 have b1 := hb.setCells (ndc x) (m * 4) (by rw [hx, hC]; omega)
 obtain ⟨C1, hC1⟩ : ∃ D, C.take (m * 4) ++ (ndc x ++ C.drop (m * 4 + (ndc x).length)) = D := ⟨_, rfl⟩
 rw [hC1] at b1
 have r1 := ins_row1 C l x m G hC hr (by omega) h0 C1 _ hC1.symm rfl
 have b2 := b1.setCells (nds (l.drop m)) ((m + 1) * 4) (by rw [hnl, r1.1]; omega)
 obtain ⟨C2, hC2⟩ : ∃ D, C1.take ((m + 1) * 4) ++ (nds (l.drop m) ++ C1.drop ((m + 1) * 4 + (nds (l.drop m)).length)) = D := ⟨_, rfl⟩
 rw [hC2] at b2
 have r2 := ins_row1 C l x m G hC hr (by omega) h0 C1 C2 hC1.symm hC2.symm
 refine ⟨?_, ?_, ?_, below_setCells (Nat.le_refl _) _ _ _ (below_setCells (Nat.le_refl _) _ _ _ (Below.refl _ _))⟩
 ·intro j hj
  rw [hb.cell, List.getElem?_eq_getElem (by rw [hC]; omega)]
  exact ⟨rfl, hb.frozen _⟩
 ·intro j hj
  rw [b1.cell, List.getElem?_eq_getElem (by rw [r1.1]; omega)]
  exact ⟨rfl, b1.frozen _⟩
 ·have := OwnNd.of (e := e) (base := base) (cap := G) (l := insAt l x m) C2 b2 hbN (by unfold insAt; rw [ins_len l x m (by omega)]; exact hr) hG r2.2.1 (by unfold insAt; rw [ins_len l x m (by omega)]; exact r2.2.2)
  unfold insAt at this ⊢
  rw [ins_len l x m (by omega)] at this
  exact this
theorem drew_cells (b : Nat) : ∀ (vs : List Value) (o : Nat) (w : World), (w.setCells b o vs).drew = w.drew.setCells b o vs
 | [], _, _ => rfl
 | v :: r, o, w => by
   rw [World.setCells, World.setCells, drew_cells b r]
   rfl
theorem insGrow_any (l : List Nd) (x : Nd) (m base gv g cap : Nat) (W : World) (hB : base ≤ W.heap.size) (ho : OwnNd 91 W base (.slice (some ⟨g, 0, none⟩) l.length cap) l) (hl : l.length ≤ 100000) (hv : Blk W gv (ndc x) 91) (hm : m < l.length) (hr : cap < l.length + 1) :
 Calls Tryz.prog 183 #[.slice (some ⟨g, 0, none⟩) l.length cap, .int .i64 (m : Int), .slice (some ⟨gv, 0, none⟩) 1 1] W (EditsTo base (insAt l x m) W) := by
 obtain ⟨i1, hJ, hy0, hy1, hy2⟩ := info_partsPN
 obtain ⟨cur, hbk, k2, k4, k5, k6, k7, kn⟩ := ho.block
 obtain rfl : cap = l.length := by omega
 have hcl : cur.toList.length = l.length * 4 := by rw [Array.length_toList, k6]
 have hcur : cur.toList = nds l := by rw [← k7, List.take_of_length_le (by rw [hcl]; omega)]
 rw [hcur] at hbk
 have hgW := hbk.lt
 have hvW := hv.lt
 obtain ⟨n, hn⟩ : ∃ n, l.length = n := ⟨_, rfl⟩
 obtain ⟨N, hN⟩ : ∃ N, W.heap.size = N := ⟨_, rfl⟩
 have ht0 : (nds (l.take m)).length = m * 4 := by rw [nds_length, List.length_take]; omega
 have hold : (Builtin.firstCells i1.size m (.slice (some ⟨g, 0, none⟩) m n)).run Tryz.prog W.drew = .ok (nds (l.take m)).toArray W.drew := by
  rw [hy1]
  refine run_firstCells_some (P := Tryz.prog) W.drew 4 m ⟨g, 0, none⟩ m n (nds (l.take m)) ht0 (fun j v hj => ?_)
  have hj4 : j < m * 4 := by have := (List.getElem?_eq_some_iff.1 hj).1; rwa [ht0] at this
  have hadd : (⟨g, 0, none⟩ : Addr).add j = ⟨g, j, none⟩ := by unfold Addr.add; split <;> simp_all
  rw [hadd]
  refine (hbk.cell j).trans ?_
  have e0 : nds l = nds (l.take m) ++ nds (l.drop m) := by rw [← nds_append, List.take_append_drop]
  rw [e0, List.getElem?_append_left (by omega)]
  exact hj
 have hrz := fun ty => Lib.run_append_grow_zeros (P := Tryz.prog) W 22 3 ty 91 i1 ndz .i64 .i64 Tryz.underlying22 Tryz.underlying3 hJ hy0 (some ⟨g, 0, none⟩) m n (nds (l.take m)) hold (n + 1 - m) (by omega) (by omega) (by omega) (by omega) (by rw [hy2]; omega) (by rw [hy2]; exact growslice_fits (by omega) (by omega))
 rw [show m + (n + 1 - m) = n + 1 by omega] at hrz
 obtain ⟨G, hG⟩ : ∃ G, grownCap W (n + 1) n 91 = G := ⟨_, rfl⟩
 have hG1 : n + 1 ≤ G := by rw [← hG]; exact grownCap_ge W _ _ _
 have hG2 : G ≤ maxLen := by rw [← hG]; exact grownCap_le_maxLen W _ _ _ (by unfold maxLen; omega)
 rw [hG] at hrz
 obtain ⟨ROW, hROW⟩ : ∃ R : Array Value, (nds (l.take m)).toArray ++ Builtin.zeroCells ndz.cells (n + 1 - m) ++ Builtin.zeroCells ndz.cells (G - (n + 1)) = R := ⟨_, rfl⟩
 rw [hROW] at hrz
 have hz4 : ∀ k, (Builtin.zeroCells ndz.cells k).size = k * 4 := fun k => by rw [size_zeroCells]; rfl
 have hRl : ROW.toList.length = G * 4 := by
  rw [← hROW]
  simp only [Array.toList_append, List.length_append, Array.length_toList, hz4, ht0]
  omega
 have hR0 : ROW.toList.take (m * 4) = nds (l.take m) := by
  rw [← hROW]
  simp only [Array.toList_append, List.append_assoc]
  exact List.take_left' ht0
 obtain ⟨V, hV⟩ : ∃ V, W.drew.alloc (.cells ROW 91) = V := ⟨_, rfl⟩
 have hbN : Blk V.drew N ROW.toList 91 := by
  rw [← hN, ← hV]
  exact heap_alloc_new W.drew (.cells ROW 91)
 have hgV : Blk V g (nds l) 91 := by
  rw [← hV]
  exact hbk.drew.alloc (.cells ROW 91)
 have hvV : Blk V gv (ndc x) 91 := by
  rw [← hV]
  exact hv.drew.alloc (.cells ROW 91)
 have hWV : Below N W V.drew := by
  rw [← hV]
  exact (((Below.refl N W).drew).alloc (by show N ≤ W.heap.size; omega) _).drew
 obtain ⟨q1, q2, q3, q4⟩ := ins_grow (l := l) x ROW.toList hbN hRl hR0 (show base ≤ N by omega) hG2 hm (by omega)
 have hnl : (nds (l.drop m)).length = (l.length - m) * 4 := by rw [nds_length, List.length_drop]; omega
 obtain ⟨tl, htl⟩ : ∃ t, nds (l.drop m) = t := ⟨_, rfl⟩
 have h1t : ∀ v ∈ tl, v.oneCell' = true := by rw [← htl]; exact nds_cell _
 have htc : ∀ j u, tl[j]? = some u → V.cell? ⟨g, m * 4 + j, none⟩ = some u := fun j u hu => by
  refine (hgV.cell _).trans ?_
  have e0 : nds l = nds (l.take m) ++ nds (l.drop m) := by rw [← nds_append, List.take_append_drop]
  rw [e0, List.getElem?_append_right (by omega), ht0, Nat.add_sub_cancel_left, htl]
  exact hu
 rw [htl] at q3 q4 hnl
 rw [hn] at q2 q3 hnl hm hl ⊢
 unfold maxLen at hG2
 have hrzz := fun ty => hrz ty
 rw [hN, hV] at hrzz
 have HRZ := lhd hrzz
 have hcp1 : ∀ ty dl dc, 1 ≤ dl → (Builtin.copy_ #[22, 22] ty #[.slice (some ⟨N, m * 4, none⟩) dl dc, .slice (some ⟨gv, 0, none⟩) 1 1]).run Tryz.prog V = .ok (goInt (Nat.min 1 dl)) (V.setCells N (m * 4) (ndc x)) := fun ty dl dc hd =>
  run_copy_nds _ _ _ ty 91 N (m * 4) dl dc ⟨gv, 0, none⟩ 1 1 (ndc x) Tryz.underlying22 sPN (by rw [show Nat.min 1 dl = 1 from Nat.min_eq_left hd]; rfl) (fun j v hj => by rw [Addr.add_lit, Nat.zero_add]; exact (hvV.cell j).trans hj) q1 (fun v hv => nds_cell [x] v (by rw [nds_one]; exact hv))
 have hcp2 : ∀ ty dl dc sl sc, Nat.min sl dl = n - m → (Builtin.copy_ #[22, 22] ty #[.slice (some ⟨N, (m + 1) * 4, none⟩) dl dc, .slice (some ⟨g, m * 4, none⟩) sl sc]).run Tryz.prog (V.setCells N (m * 4) (ndc x)).drew = .ok (goInt (Nat.min sl dl)) ((V.setCells N (m * 4) (ndc x)).drew.setCells N ((m + 1) * 4) tl) := fun ty dl dc sl sc hmn => by
  rw [drew_cells]
  exact run_copy_nds _ _ _ ty 91 N ((m + 1) * 4) dl dc ⟨g, m * 4, none⟩ sl sc tl Tryz.underlying22 sPN (by rw [hnl, hmn]) (fun j v hj => by rw [Addr.add_lit, World.cell?_setCells_out N _ _ _ _ (fun h => absurd h (by show g ≠ N; omega))]; exact htc j v hj) (fun j hj => q2 j (by rwa [hnl] at hj)) h1t
 have HC1 := lhd hcp1
 have HC2 := lhd hcp2
 have HO : Hid (OwnNd 91 ((V.setCells N (m * 4) (ndc x)).drew.setCells N ((m + 1) * 4) tl) base (.slice (some ⟨N, 0, none⟩) (n + 1) G) (insAt l x m)) := by
  rw [drew_cells]
  exact q3
 have HB : Hid (Below base W ((V.setCells N (m * 4) (ndc x)).drew.setCells N ((m + 1) * 4) tl)) := by
  rw [drew_cells]
  exact (hWV.mono (by omega)).trans (q4.mono (by omega))
 obtain ⟨L, hL⟩ : ∃ L, insAt l x m = L := ⟨_, rfl⟩
 rw [hL] at HO ⊢
 clear hrz hrzz hold hcp1 hcp2 q1 q2 q3 q4 htc h1t hnl htl hn ho hv hL hbk hcur hcl hgV hvV hWV hbN hR0 hRl hROW hG ht0 kn hN k7 k6 k5 k4 k2 hV hgW hvW
 have w1 : IntKind.i64.wrap ((m : Int) + 1) = (m : Int) + 1 := by rw [IntKind.wrap_i64]; omega
 have w2 : IntKind.i64.wrap ((n : Int) + 1) = (n : Int) + 1 := by rw [IntKind.wrap_i64]; omega
 have w3 : IntKind.i64.wrap ((n : Int) + 1 - (m : Int)) = (n : Int) + 1 - (m : Int) := by rw [IntKind.wrap_i64]; omega
 have z2 : ¬ ((m : Int) = (n : Int)) := by omega
 have z3 : (n : Int) < (n : Int) + 1 := by omega
 have b1 : (0 : Int) ≤ (m : Int) + 1 := by omega
 have b2 : ((m : Int) + 1).toNat = m + 1 := by omega
 have b3 : (m : Int) ≤ (n : Int) := by omega
 have b4 : ¬ (n = m) := by omega
 have b6 : ((n : Int) + 1).toNat = n + 1 := by omega
 have b7 : (m : Int) ≤ (n : Int) + 1 := by omega
 have b8 : (m : Int) + 1 ≤ (n : Int) + 1 := by omega
 have b10 : m ≤ n := by omega
 have b11 : ¬ (G = m) := by omega
 have b12 : ¬ (G = m + 1) := by omega
 have b13 : m ≤ G := by omega
 have b14 : m + 1 ≤ G := by omega
 have hkk : (n : Int) + 1 - (m : Int) = ((n + 1 - m : Nat) : Int) := by omega
 have HKK := lhd hkk
 clear hkk
 go_enter Tryz.func183, Tryz.ntmps183
 go_wp2_with (first
  | (at_builtin; refine Lib.wpList_append_run _ rfl _ _ 22 3 rfl (.slice (some ⟨g, 0, none⟩) m n) (.int .i64 ((n + 1 - m : Nat) : Int)) rfl (by rw [← HKK.out]; rfl) _ _ (HRZ.out _) ?_)
  | (refine wpList_copy_run rfl _ _ 22 22 rfl _ _ rfl rfl (HC1.out _ (n + 1 - m) (G - m) (by omega)) ?_))
 go_region_law (refine step_copy_run rfl _ _ 22 22 rfl (.slice (some ⟨N, (m + 1) * 4, none⟩) (n - m) (G - (m + 1))) (.slice (some ⟨g, m * 4, none⟩) (n - m) (n - m)) (by simp [Act.eval, Act.put]) (by simp [Act.eval, Act.put]) (HC2.out _ (n - m) (G - (m + 1)) (n - m) (n - m) (by simp only [Nat.min_def]; split <;> omega)) ?_)
 go_wp2
 go_ret
 exact ⟨_, rfl, HO.out, HB.out⟩
end Go.Proofs.YtdihngkdhanhkaaGreatDoor
