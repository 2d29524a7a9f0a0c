/-
  Texts R1 RS JA JB JC JD JE JF R5 NA NB EE ER ES NC ND.
-/
import Derived.Test.YtdihngkdhanhkaaGreatDoorV01
import Derived.WalkLawsBesides
import Derived.Deep.QuietTactic
import Derived.BigQuiet
import Derived.Laws.StructEq
import Derived.Lib.Strings
import Derived.Test.YtdihngkdhanhkaaGreatDoorV03
import Derived.Test.YtdihngkdhanhkaaGreatDoorV07
import Derived.Test.YtdihngkdhanhkaaGreatDoorV08
namespace Go.Proofs.YtdihngkdhanhkaaGreatDoor
set_option maxRecDepth 100000
set_option maxHeartbeats 16000000
open Go.RowKit
theorem Blk.same {w w' : World} {g : Nat} {cs : List Value} {t : TypeId} (h : Blk w g cs t) (hO : w'.heap[g]? = w.heap[g]?) : Blk w' g cs t := by
 unfold Blk
 rw [hO]
 exact h
theorem ownsRow_same {w w' : World} {b : Nat} {e : TypeId} {s : Nat} {v : Value} {n : Nat} {xs : List Value} (h : w.ownsRow b e s v n xs) (hO : ∀ k, b ≤ k → w'.heap[k]? = w.heap[k]?) : w'.ownsRow b e s v n xs := by
 refine ⟨h.1, ?_⟩
 rcases h.2 with hn | ⟨g, cap, cur, rfl, hg0, hg1, r⟩
 ·exact .inl hn
 ·exact .inr ⟨g, cap, cur, rfl, hg0, by rw [hO g hg0]; exact hg1, r⟩
theorem ownsRow_other {w w' : World} {b b' : Nat} {e e' : TypeId} {s s' : Nat} {v v' : Value} {n n' : Nat} {xs xs' : List Value} (hne : e ≠ e') (h : w.ownsRow b e s v n xs) (h' : w.ownsRow b' e' s' v' n' xs') (hg : w.grownBy w' v'.ownBlock) : w'.ownsRow b e s v n xs := by
 refine ⟨h.1, ?_⟩
 rcases h.2 with hn | ⟨g, cap, cur, rfl, hg0, hg1, r⟩
 ·exact .inl hn
 ·have hlt : g < w.heap.size := (Array.getElem?_eq_some_iff.1 hg1).1
  refine .inr ⟨g, cap, cur, rfl, hg0, ?_, r⟩
  rw [hg.block g hlt ?_]
  ·exact hg1
  ·intro he
   rcases h'.2 with ⟨rfl, _⟩ | ⟨g', cap', cur', rfl, _, hg1', _⟩
   ·cases he
   ·injection he with he
    have he2 : g = g' := he
    subst he2
    rw [hg1] at hg1'
    injection hg1' with hg1'
    injection hg1' with _ h3
    exact hne h3
theorem wpList_store_to {P : Program} {w : World} {ops : Array Oper} {rest : List Oper} {o : Oper} {a : Act} {Q : Exit → Act → World → Prop} (hg : o.guard = none) (t : TypeId) (x y : Operand) (ho : o.op = .store t x y) (g : Nat) (cs old : List Value) (u : TypeId)
 (hx : a.eval x = .pointer (some ⟨g, 0, none⟩)) (hy : a.eval y = .agg cs.toArray) (hb : Blk w g old u) (hi : (P.info? t).map (·.size) = some cs.length) (hl : old.length = cs.length) (h1 : cs.toArray.all (·.oneCell') = true)
 (h : ∀ w', Blk w' g cs u → w'.heap.size = w.heap.size → Below g w w' → (∀ k, k ≠ g → w'.heap[k]? = w.heap[k]?) → wpList P ops Q rest (a.put o.dst undef) w') : wpList P ops Q (o :: rest) a w := by
 refine wpList_store_blk hg t x y ho g cs old u hx hy hb hi hl h1 ?_
 exact h _ hb.setRow (by simp [World.setRow]) (below_setRow' (Below.refl _ _) (Nat.le_refl _) _) (fun k hne => setRow_other w g k _ hne)
theorem ownsRow_but {w w' : World} {b gN : Nat} {e : TypeId} {s : Nat} {v : Value} {n : Nat} {xs : List Value} (h : w.ownsRow b e s v n xs) (hne : v.ownBlock ≠ some gN) (hO : ∀ k, k ≠ gN → w'.heap[k]? = w.heap[k]?) : w'.ownsRow b e s v n xs := by
 refine ⟨h.1, ?_⟩
 rcases h.2 with hn | ⟨g, cap, cur, rfl, hg0, hg1, r⟩
 ·exact .inl hn
 ·exact .inr ⟨g, cap, cur, rfl, hg0, by rw [hO g (fun e => hne (by rw [← e]; rfl))]; exact hg1, r⟩
theorem slice_one (A : Option Addr) (n c : Nat) : [Value.slice A n c].toArray.all (·.oneCell') = true := by
 rw [Array.all_eq_true_iff_forall_mem]
 intro v hv
 simp at hv
 subst hv
 rfl
theorem wpList_box_one {P : Program} {w : World} {ops : Array Oper} {rest : List Oper} {o : Oper} {a : Act} {Q : Exit → Act → World → Prop} (hg : o.guard = none) (t : TypeId) (x : Operand) (ho : o.op = .box t x) (v : Value) (hx : a.eval x = v) (hv : v.cells = #[v])
 (h : ∀ w1, Blk w1 w.heap.size [v] t → w1.heap.size = w.heap.size + 1 → Below w.heap.size w w1 → wpList P ops Q rest (a.put o.dst (.pointer (some ⟨w.heap.size, 0, none⟩))) w1) : wpList P ops Q (o :: rest) a w := by
 refine wpList_plain hg fun K hK => ?_
 unfold Oper.wp execOp
 simp only [ho, hx, hv, Sem.run_bind, Instr.box, newVar, newRow, run_newObj_alloc, Sem.run_pure, Result.andThen_ok]
 exact hK _ _ (h _ (heap_alloc_new w _) (by simp) ((Below.refl _ _).alloc (Nat.le_refl _) _))
theorem run_part_cell {P : Program} (t : TypeId) (off : Nat) (cs : List Value) (v : Value) (ha : ∀ w, (isAgg t).run P w = .ok false w) (he : cs[off]? = some v) (w : World) : (part t cs.toArray off).run P w = .ok v w := by
 simp [part, ha, he]
abbrev SlT := Option Addr × Nat × Nat
def slv (s : SlT) : Value := .slice s.1 s.2.1 s.2.2
def sl0 : SlT := (none, 0, 0)
def sec (x : Se) : List Value := [.int .i64 (sI x), .int .i64 (sP x), .int .i64 (sU x)]
theorem sec_one (x : Se) : ∀ u ∈ sec x, u.oneCell' = true := by
 intro u hu
 unfold sec at hu
 simp only [List.mem_cons, List.not_mem_nil, or_false] at hu
 rcases hu with rfl | rfl | rfl <;> rfl
def SeK : RowK Se := { enc := sec, k := 3, d := se0, len := fun _ => rfl, one := sec_one, pos := by decide }
def inc (x : Int) : List Value := [.int .i64 x]
def InK : RowK Int := { enc := inc, k := 1, d := 0, len := fun _ => rfl, one := fun x u hu => by unfold inc at hu; simp only [List.mem_cons, List.not_mem_nil, or_false] at hu; rw [hu]; rfl, pos := by decide }
theorem RdE.at3 {B : Nat} {w : World} {A : Option Addr} {n c : Nat} {l : List Se} (h : RdE SeK B w (.slice A n c) l) (j : Nat) (hj : j < l.length) :
 ∃ a, A = some a ∧ w.cell? (a.add (j * 3)) = some (.int .i64 (sI (l.getD j se0))) ∧ w.cell? ⟨(a.add (j * 3)).block, (a.add (j * 3)).off + 1, none⟩ = some (.int .i64 (sP (l.getD j se0))) ∧
   w.cell? ⟨(a.add (j * 3)).block, (a.add (j * 3)).off + 2, none⟩ = some (.int .i64 (sU (l.getD j se0))) := by
 obtain ⟨a, ha, hc⟩ := h.cells j hj
 exact ⟨a, ha, hc 0 (by decide), hc 1 (by decide), hc 2 (by decide)⟩
theorem RdE.at1 {B : Nat} {w : World} {A : Option Addr} {n c : Nat} {l : List Int} (h : RdE InK B w (.slice A n c) l) (j : Nat) (hj : j < l.length) :
 ∃ a, A = some a ∧ w.cell? (a.add j) = some (.int .i64 (l.getD j 0)) := by
 obtain ⟨a, ha, hc⟩ := h.cells j hj
 have h0 := hc 0 (by decide)
 rw [show j * InK.k = j from Nat.mul_one j] at h0
 exact ⟨a, ha, h0⟩
theorem take_se (l : List Se) (i : Nat) (hi : i < l.length) : l.take (i + 1) = l.take i ++ [l.getD i se0] := by
 rw [List.take_add_one, List.getD_eq_getElem?_getD, List.getElem?_eq_getElem hi]
 rfl
theorem book_one (t : Int) (A : Option Addr) (n c : Nat) : [Value.int .i64 t, .slice A n c].toArray.all (·.oneCell') = true := by
 rw [Array.all_eq_true_iff_forall_mem]
 intro v hv
 simp at hv
 rcases hv with rfl | rfl <;> rfl
theorem sec_all (x : Se) : (sec x).toArray.all (·.oneCell') = true := enc_all SeK x
def Book1 (t : Int) (l : List Se) (w : World) (e : Ending) (w' : World) : Prop := ∃ v, e = .returned (.agg #[.int .i64 t, v]) ∧ RdE SeK w'.heap.size w' v l ∧ Below w.heap.size w w'
def BooksO (en : TypeId) (v0 : Value) (t : Int) (l : List Se) (f : Nat) (w : World) (e : Ending) (w' : World) : Prop := ∃ v, e = .returned (.tuple #[.agg #[.int .i64 t, v], .int .i64 (f : Int)]) ∧ RdE SeK w'.heap.size w' v l ∧ (v = v0 ∨ OwnE SeK en w' w.heap.size v l) ∧ Below w.heap.size w w'
def TicksO (en ei : TypeId) (v0 : Value) (t : Int) (l : List Se) (g : List Int) (f : Nat) (w : World) (e : Ending) (w' : World) : Prop :=
 ∃ v u, e = .returned (.tuple #[.agg #[.int .i64 t, v], u, .int .i64 (f : Int)]) ∧ RdE SeK w'.heap.size w' v l ∧ RdE InK w'.heap.size w' u g ∧ (v = v0 ∨ OwnE SeK en w' w.heap.size v l) ∧ (u = .slice none 0 0 ∨ OwnE InK ei w' w.heap.size u g) ∧ Below w.heap.size w w'
theorem zSe10 : (Tryz.prog.info? 106).map (·.zero) = some (some (.agg (sec se0).toArray)) := by kernel_rfl
theorem sSe10 : (Tryz.prog.info? 106).map (·.size) = some 3 := by kernel_rfl
theorem rfRightB_any (t : Int) (l : List Se) (v : Value) (w : World) (hr : RdE SeK w.heap.size w v l) : Calls Tryz.prog 36 #[.agg #[.int .i64 t, v]] w (One (.bool (rightS t l)) w) := by
 obtain ⟨A, cp, rfl, hc, hm⟩ := hr.shape
 unfold maxLen at hm
 obtain ⟨n, hn⟩ : ∃ n, l.length = n := ⟨_, rfl⟩
 have HN := lhd hn
 have HR := lhd hr
 rw [hn] at hc HR ⊢
 clear hr hn
 go_enter Tryz.func36, Tryz.ntmps36
 go_wp2_with (refine wpList_box_blk rfl 45 _ rfl [.int .i64 t, .slice A n cp] rfl ?_)
 intro w1 b1 b2 b3
 obtain ⟨g0, hg0⟩ : ∃ g, w.heap.size = g := ⟨_, rfl⟩
 have X0 := lhd b1
 have HB := lhd b3
 have hg1 : g0 < w1.heap.size := by omega
 have hw1 : w.heap.size ≤ w1.heap.size := by omega
 rw [hg0] at X0 ⊢
 have ca := X0.out.cell 0
 have cb := X0.out.at_ 1 _ rfl
 clear b1 b2 b3 hg0
 by_cases ht1 : t < 0
 ·have HF := lhd (rightS_head t l (.inl ht1))
  go_wp2
  go_ret
  exact ⟨by rw [HF.out]; rfl, HB.out⟩
 by_cases ht2 : 1000000000 < t
 ·have HF := lhd (rightS_head t l (.inr (.inl ht2)))
  go_wp2
  go_ret
  exact ⟨by rw [HF.out]; rfl, HB.out⟩
 by_cases hhi : 50 < (n : Int)
 ·have HF := lhd (rightS_head t l (.inr (.inr (by rw [HN.out]; omega))))
  go_wp2
  go_ret
  exact ⟨by rw [HF.out]; rfl, HB.out⟩
 go_wp2
 go_loopw [3] (fun x wr => ∃ i : Nat, i ≤ n ∧ x = .int .i64 (i : Int) ∧ Hid (∀ j, j < i → okS t l j = true) ∧ Hid (Below w1.heap.size w1 wr)) (fun x _ => n - (intOf x).toNat)
 case atStart => exact ⟨0, by omega, rfl, fun j hj => by omega, Below.refl _ _⟩
 case round =>
  obtain ⟨i, hi, rfl, HA, HW⟩ := hrel
  have hwr := HW.out.size
  clear ca cb
  have cb := (X0.out.below HW.out hg1).at_ 1 _ rfl
  by_cases hi2 : i < n
  ·have zi : (i : Int) < (n : Int) := by omega
   obtain ⟨a, hA, c0, c1, c2⟩ := (HR.out.below (HB.out.trans (HW.out.mono hw1))).at3 i (by rw [HN.out]; exact hi2)
   subst hA
   obtain ⟨nd, hx⟩ : ∃ x, l.getD i se0 = x := ⟨_, rfl⟩
   have HX := lhd hx
   rw [hx] at c0 c1 c2
   clear hx
   go_wp2_with (refine wpList_alloc_blk rfl 106 rfl (sec se0) zSe10 ?_)
   intro wa a1 a2 a3
   obtain ⟨gX, hgX⟩ : ∃ g, wr.heap.size = g := ⟨_, rfl⟩
   have A1 := lhd a1
   have HWa := lhd (HW.out.trans (a3.mono hwr))
   have hwX : w1.heap.size ≤ gX := by omega
   rw [hgX] at A1 ⊢
   clear a1 a2 a3 HW c0 c1 c2 cb hgX
   go_wp2_with (refine wpList_store_to rfl 106 _ _ rfl gX (sec nd) (sec se0) 106 rfl rfl A1.out sSe10 rfl (sec_all _) ?_)
   intro wb e1 e2 e3 e4
   have XB := lhd e1
   have HWb := lhd (HWa.out.trans (e3.mono hwX))
   have hsb : w1.heap.size ≤ wb.heap.size := HWb.out.size
   clear e1 e2 e3 e4 A1 HWa
   have HFI0 : fineS t nd = (decide (1 ≤ sI nd) && decide (1 ≤ sP nd) && decide (sP nd ≤ 1000) && decide (t < sU nd) && decide (sU nd ≤ t + sP nd)) := rfl
   have OK : Hid (okS t l i = (fineS t nd && (decide (i = 0) || decide (sI (l.getD (i - 1) se0) < sI nd)))) := by
    show _ = _
    unfold okS
    rw [HX.out]
   obtain ⟨d, hd⟩ : ∃ z, sI nd = z := ⟨_, rfl⟩
   obtain ⟨p, hp⟩ : ∃ z, sP nd = z := ⟨_, rfl⟩
   obtain ⟨u, hu⟩ : ∃ z, sU nd = z := ⟨_, rfl⟩
   have XX := XB.out
   unfold sec at XX
   rw [hd, hp, hu] at HFI0 XX
   rw [hd] at OK
   have HFI := lhd HFI0
   have d0 := XX.at_ 0 _ rfl
   have d1 := XX.at_ 1 _ rfl
   have d2 := XX.at_ 2 _ rfl
   have ca := (X0.out.below HWb.out hg1).cell 0
   have cb := (X0.out.below HWb.out hg1).at_ 1 _ rfl
   clear HFI0 XX hd hp hu XB
   by_cases h1 : d < 1
   ·have HF := lhd (okS_not t l i (by rw [HN.out]; exact hi2) (by rw [OK.out, HFI.out]; rw [decide_eq_false (show ¬ 1 ≤ d by omega)]; simp))
    go_wp2
    refine wp_region_quiet_lit (by kernel_rfl) (by kernel_rfl) ?_
    repeat (first | go_big_quiet_step (fail) | quiet_step (fail))
    refine wpQuiet_nil ?_
    intro _ hw'
    obtain ⟨nq, hw''⟩ := hw'
    subst hw''
    have HWc : Hid (Below w1.heap.size w1 (wb.drewN nq)) := Below.drewN' HWb.out
    go_wp2
    go_ret
    exact ⟨by rw [HF.out]; rfl, HB.out.trans (HWc.out.mono hw1)⟩
   by_cases h2 : p < 1
   ·have HF := lhd (okS_not t l i (by rw [HN.out]; exact hi2) (by rw [OK.out, HFI.out]; rw [decide_eq_false (show ¬ 1 ≤ p by omega)]; simp))
    go_wp2
    refine wp_region_quiet_lit (by kernel_rfl) (by kernel_rfl) ?_
    repeat (first | go_big_quiet_step (fail) | quiet_step (fail))
    refine wpQuiet_nil ?_
    intro _ hw'
    obtain ⟨nq, hw''⟩ := hw'
    subst hw''
    have HWc : Hid (Below w1.heap.size w1 (wb.drewN nq)) := Below.drewN' HWb.out
    go_wp2
    go_ret
    exact ⟨by rw [HF.out]; rfl, HB.out.trans (HWc.out.mono hw1)⟩
   by_cases h3 : 1000 < p
   ·have HF := lhd (okS_not t l i (by rw [HN.out]; exact hi2) (by rw [OK.out, HFI.out]; rw [decide_eq_false (show ¬ p ≤ 1000 by omega)]; simp))
    go_wp2
    refine wp_region_quiet_lit (by kernel_rfl) (by kernel_rfl) ?_
    repeat (first | go_big_quiet_step (fail) | quiet_step (fail))
    refine wpQuiet_nil ?_
    intro _ hw'
    obtain ⟨nq, hw''⟩ := hw'
    subst hw''
    have HWc : Hid (Below w1.heap.size w1 (wb.drewN nq)) := Below.drewN' HWb.out
    go_wp2
    go_ret
    exact ⟨by rw [HF.out]; rfl, HB.out.trans (HWc.out.mono hw1)⟩
   by_cases h4 : u ≤ t
   ·have HF := lhd (okS_not t l i (by rw [HN.out]; exact hi2) (by rw [OK.out, HFI.out]; rw [decide_eq_false (show ¬ t < u by omega)]; simp))
    go_wp2
    refine wp_region_quiet_lit (by kernel_rfl) (by kernel_rfl) ?_
    repeat (first | go_big_quiet_step (fail) | quiet_step (fail))
    refine wpQuiet_nil ?_
    intro _ hw'
    obtain ⟨nq, hw''⟩ := hw'
    subst hw''
    have HWc : Hid (Below w1.heap.size w1 (wb.drewN nq)) := Below.drewN' HWb.out
    go_wp2
    go_ret
    exact ⟨by rw [HF.out]; rfl, HB.out.trans (HWc.out.mono hw1)⟩
   have wr1 : wrap64 (t + p) = t + p := by
    unfold wrap64
    omega
   have wr2 : IntKind.i64.wrap (t + p) = t + p := by
    rw [IntKind.wrap_i64]
    omega
   by_cases h5 : t + p < u
   ·have HF := lhd (okS_not t l i (by rw [HN.out]; exact hi2) (by rw [OK.out, HFI.out]; rw [decide_eq_false (show ¬ u ≤ t + p by omega)]; simp))
    go_wp2
    refine wp_region_quiet_lit (by kernel_rfl) (by kernel_rfl) ?_
    repeat (first | go_big_quiet_step (fail) | quiet_step (fail))
    refine wpQuiet_nil ?_
    intro _ hw'
    obtain ⟨nq, hw''⟩ := hw'
    subst hw''
    have HWc : Hid (Below w1.heap.size w1 (wb.drewN nq)) := Below.drewN' HWb.out
    go_wp2
    go_ret
    exact ⟨by rw [HF.out]; rfl, HB.out.trans (HWc.out.mono hw1)⟩
   have OK2 : Hid (okS t l i = (decide (i = 0) || decide (sI (l.getD (i - 1) se0) < d))) := by
    show _ = _
    rw [OK.out, HFI.out, decide_eq_true (show 1 ≤ d by omega), decide_eq_true (show 1 ≤ p by omega), decide_eq_true (show p ≤ 1000 by omega), decide_eq_true (show t < u by omega), decide_eq_true (show u ≤ t + p by omega)]
    simp
   have HA3 : Hid (okS t l i = true → ∀ j, j < i + 1 → okS t l j = true) := by
    intro h j hj
    by_cases h2 : j < i
    ·exact HA.out j h2
    ·have : j = i := by omega
     rw [this]; exact h
   clear OK HFI
   by_cases h6 : i = 0
   ·have hz : ¬ 0 < i := by omega
    have HA2 := lhd (HA3.out (by rw [OK2.out, decide_eq_true h6]; rfl))
    clear h6
    go_wp2
    refine wp_region_quiet_lit (by kernel_rfl) (by kernel_rfl) ?_
    repeat (first | go_big_quiet_step (fail) | quiet_step (fail))
    refine wpQuiet_nil ?_
    intro _ hw'
    obtain ⟨nq, hw''⟩ := hw'
    subst hw''
    have HWc : Hid (Below w1.heap.size w1 (wb.drewN nq)) := Below.drewN' HWb.out
    go_wp2
    go_roundw
    case rel => exact ⟨i + 1, by omega, by go_num, HA2, HWc⟩
    case measure => simp [intOf]; omega
   have hz : 0 < i := by omega
   have hz1 : (0 : Int) < (i : Int) := by omega
   obtain ⟨j, hj⟩ : ∃ j, i = j + 1 := ⟨i - 1, by omega⟩
   have HJ := lhd hj
   have wj1 : wrap64 ((i : Int) - 1) = (j : Int) := by
    unfold wrap64
    omega
   have wj2 : IntKind.i64.wrap ((i : Int) - 1) = (j : Int) := by
    rw [IntKind.wrap_i64]
    omega
   have zj : (j : Int) < (n : Int) := by omega
   have zj2 : j < n := by omega
   obtain ⟨a9, hA9, k0, -, -⟩ := (HR.out.below (HB.out.trans (HWb.out.mono hw1))).at3 j (by rw [HN.out]; omega)
   obtain rfl : a = a9 := Option.some.inj hA9
   obtain ⟨q, hq⟩ : ∃ q, sI (l.getD j se0) = q := ⟨_, rfl⟩
   rw [hq] at k0
   have OK3 : Hid (okS t l i = decide (q < d)) := by
    show _ = _
    rw [OK2.out, decide_eq_false h6, hj, Nat.add_sub_cancel, hq]
    rfl
   clear hj hq h6 hA9 OK2
   by_cases h7 : d ≤ q
   ·have HF := lhd (okS_not t l i (by rw [HN.out]; exact hi2) (by rw [OK3.out]; exact decide_eq_false (by omega)))
    go_wp2
    refine wp_region_quiet_lit (by kernel_rfl) (by kernel_rfl) ?_
    repeat (first | go_big_quiet_step (fail) | quiet_step (fail))
    refine wpQuiet_nil ?_
    intro _ hw'
    obtain ⟨nq, hw''⟩ := hw'
    subst hw''
    have HWc : Hid (Below w1.heap.size w1 (wb.drewN nq)) := Below.drewN' HWb.out
    go_wp2
    go_ret
    exact ⟨by rw [HF.out]; rfl, HB.out.trans (HWc.out.mono hw1)⟩
   have HA2 := lhd (HA3.out (by rw [OK3.out]; exact decide_eq_true (by omega)))
   go_wp2
   refine wp_region_quiet_lit (by kernel_rfl) (by kernel_rfl) ?_
   repeat (first | go_big_quiet_step (fail) | quiet_step (fail))
   refine wpQuiet_nil ?_
   intro _ hw'
   obtain ⟨nq, hw''⟩ := hw'
   subst hw''
   have HWc : Hid (Below w1.heap.size w1 (wb.drewN nq)) := Below.drewN' HWb.out
   go_wp2
   go_roundw
   case rel => exact ⟨i + 1, by omega, by go_num, HA2, HWc⟩
   case measure => simp [intOf]; omega
  ·have hE : i = n := by omega
   subst hE
   have HF := lhd (rightS_end t l (by omega) (by omega) (by rw [HN.out]; omega) (by rw [HN.out]; exact HA.out))
   go_wp2
   go_ret
   exact ⟨by rw [HF.out]; rfl, HB.out.trans (HW.out.mono hw1)⟩
theorem kindSe : KindOf Tryz.prog 106 SeK 24 := kind_of (z := .agg (sec se0).toArray) (by kernel_rfl) rfl
theorem close_none (l : List Se) (id : Int) (h : hasSe l id = false) : leaseE l id = 14 ∧ closeS l id = l := by
 refine ⟨by unfold leaseE; rw [h]; rfl, ?_⟩
 unfold closeS
 rw [List.filter_eq_self]
 intro x hx
 simpa using (hasSe_not l id).1 h x hx
theorem lease_yes (l : List Se) (id : Int) (h : hasSe l id = true) : leaseE l id = 0 := by unfold leaseE; rw [h]; rfl
theorem touch_none (t : Int) (l : List Se) (id : Int) (h : hasSe l id = false) : leaseE l id = 14 ∧ touchS t l id = l := by
 refine ⟨(close_none l id h).1, ?_⟩
 unfold touchS
 rw [List.map_congr_left (g := fun x => x) fun x hx => ?_, List.map_id']
 unfold touch1
 rw [if_neg ((hasSe_not l id).1 h x hx)]
theorem touch_fit (t : Int) (l : List Se) (h : RightB t l) (x : Se) (hx : x ∈ l) : wrap64 (t + sP x) = t + sP x ∧ IntKind.i64.wrap (t + sP x) = t + sP x := by
 have h1 := h.lo
 have h2 := h.hi
 have h3 := h.fine x hx
 simp only [fineS, Bool.and_eq_true, decide_eq_true_eq] at h3
 refine ⟨?_, ?_⟩
 ·unfold wrap64
  omega
 ·rw [IntKind.wrap_i64]
  omega
theorem open_err (t : Int) (l : List Se) (id sp : Int) (f : Nat) (h : openE l id sp = f) (h0 : f ≠ 0) : openE l id sp = f ∧ openS t l id sp = l := by
 refine ⟨h, ?_⟩
 unfold openS
 rw [if_neg (by rw [h]; exact h0)]
theorem open_ok (t : Int) (l : List Se) (id sp : Int) (h : openE l id sp = 0) : openE l id sp = 0 ∧ openS t l id sp = insS (id, sp, t + sp) l := by
 refine ⟨h, ?_⟩
 unfold openS
 rw [if_pos h]
theorem openE_arg (l : List Se) (id sp : Int) (h : id < 1 ∨ sp < 1 ∨ 1000 < sp) : openE l id sp = 1 := by unfold openE; rw [if_pos h]
theorem openE_has (l : List Se) (id sp : Int) (h : ¬ (id < 1 ∨ sp < 1 ∨ 1000 < sp)) (h2 : hasSe l id = true) : openE l id sp = 7 := by unfold openE; rw [if_neg h, if_pos h2]
theorem openE_full (l : List Se) (id sp : Int) (h : ¬ (id < 1 ∨ sp < 1 ∨ 1000 < sp)) (h2 : hasSe l id = false) (h3 : 50 ≤ l.length) : openE l id sp = 9 := by unfold openE; rw [if_neg h, if_neg (by rw [h2]; simp), if_pos h3]
theorem openE_ok (l : List Se) (id sp : Int) (h : ¬ (id < 1 ∨ sp < 1 ∨ 1000 < sp)) (h2 : hasSe l id = false) (h3 : ¬ 50 ≤ l.length) : openE l id sp = 0 := by unfold openE; rw [if_neg h, if_neg (by rw [h2]; simp), if_neg h3]
theorem ret_blk3K {P : Program} {fn : Func} {p u v : Tmp} {ty : TypeId} (h : fn.results = #[.cell p ty, .tmp u, .tmp v]) (tmps : Array Value) (w : World) (g : Nat) (t : TypeId) (cs : List Value) (x y : Value)
 (hp : tmps.getD p undef = .pointer (some ⟨g, 0, none⟩)) (hx : tmps.getD u undef = x) (hy : tmps.getD v undef = y) (hb : Blk w g cs t) (d : TypeDesc) (hu : P.underlying ty = some d) (hd : d.isRow = true) (hi : (P.info? ty).map (·.size) = some cs.length) :
 (results fn tmps).run P w = .ok (.tuple #[.agg cs.toArray, x, y]) w := by
 have hl := run_loadVar_row w g t ty cs.toArray (0, 0) d hb hu (by cases d <;> first | rfl | cases hd) (by simpa using hi)
 have hp' : tmps[p]?.getD undef = .pointer (some ⟨g, 0, none⟩) := by simpa using hp
 have hx' : tmps[u]?.getD undef = x := by simpa using hx
 have hy' : tmps[v]?.getD undef = y := by simpa using hy
 simp [results, h, Result.andThen, hp', hx', hy', asAddr, hl]
theorem kindIn : KindOf Tryz.prog 3 InK 8 := kind_of (z := .int .i64 0) (by kernel_rfl) rfl
def keepS (l : List Se) (z : Int) : List Se := l.filter fun x => !lateS z x
def lateN (l : List Se) (z : Int) : List Int := (l.filter (lateS z)).map sI
theorem tick_err (t : Int) (l : List Se) (z : Int) (f : Nat) (h : tickE t z = f) (h0 : f ≠ 0) : tickT t z = t ∧ tickS t l z = l ∧ goneS t l z = [] ∧ tickE t z = f := by
 unfold tickT tickS goneS
 rw [if_neg (by rw [h]; exact h0), if_neg (by rw [h]; exact h0), if_neg (by rw [h]; exact h0)]
 exact ⟨rfl, rfl, rfl, h⟩
theorem tick_ok (t : Int) (l : List Se) (z : Int) (h1 : t ≤ z) (h2 : z ≤ 1000000000) : tickT t z = z ∧ tickS t l z = keepS l z ∧ goneS t l z = lateN l z ∧ tickE t z = 0 := by
 have h := tick_of t z h1 h2
 unfold tickT tickS goneS
 rw [if_pos h, if_pos h, if_pos h]
 exact ⟨rfl, rfl, rfl, h⟩
theorem keep_snoc (l : List Se) (z : Int) (i : Nat) (hi : i < l.length) : keepS (l.take (i + 1)) z = keepS (l.take i) z ++ (if sU (l.getD i se0) ≤ z then [] else [l.getD i se0]) ∧
 lateN (l.take (i + 1)) z = lateN (l.take i) z ++ (if sU (l.getD i se0) ≤ z then [sI (l.getD i se0)] else []) := by
 rw [take_se l i hi]
 obtain ⟨y, hy⟩ : ∃ y, l.getD i se0 = y := ⟨_, rfl⟩
 rw [hy]
 unfold keepS lateN
 rw [List.filter_append, List.filter_append, List.map_append]
 by_cases h : sU y ≤ z <;> simp [lateS, h]
theorem keep_len (l : List Se) (z : Int) : (keepS l z).length ≤ l.length := List.length_filter_le _ _
theorem late_len (l : List Se) (z : Int) : (lateN l z).length ≤ l.length := by
 unfold lateN
 rw [List.length_map]
 exact List.length_filter_le _ _
theorem toList_txtE (l : List UInt8) : (⟨l.toArray⟩ : ByteArray).toList = l := by rw [Lib.toList_data]
theorem txt_eqE (x y : List UInt8) (h : x = y) : (x == y) = true := by simpa using h
theorem txt_neE (x y : List UInt8) (h : x ≠ y) : (x == y) = false := by simpa using h
theorem int_neE (x y : Int) (h : x ≠ y) : (x == y) = false := by rw [beq_eq_false_iff_ne]; exact h
theorem int_eqE (x y : Int) (h : x = y) : (x == y) = true := by rw [h]; exact beq_self_eq_true y
theorem one_of {v : Value} (h : v.oneCell' = true) : [v].toArray.all (·.oneCell') = true := by simp [h]
def orc (x : Or) : List Value := [.int .i64 (oC x), .int .i64 (oQ x), .int .i64 (oK x), txt (oP x), txt (oV x), .int .i64 (oR x), .int .i64 (oS x), .int .i64 (oT x)]
theorem orc_one (x : Or) : ∀ u ∈ orc x, u.oneCell' = true := by
 intro u hu
 unfold orc at hu
 simp only [List.mem_cons, List.not_mem_nil, or_false] at hu
 rcases hu with rfl | rfl | rfl | rfl | rfl | rfl | rfl | rfl <;> rfl
def OrK : RowK Or := { enc := orc, k := 8, d := or0, len := fun _ => rfl, one := orc_one, pos := by decide }
theorem orc_all (x : Or) : (orc x).toArray.all (·.oneCell') = true := enc_all OrK x
theorem RdE.atOr {B : Nat} {w : World} {A : Option Addr} {n c : Nat} {l : List Or} (h : RdE OrK B w (.slice A n c) l) (j : Nat) (hj : j < l.length) :
 ∃ a, A = some a ∧ w.cell? (a.add (j * 8)) = some (.int .i64 (oC (l.getD j or0))) ∧ w.cell? ⟨(a.add (j * 8)).block, (a.add (j * 8)).off + 1, none⟩ = some (.int .i64 (oQ (l.getD j or0))) ∧ w.cell? ⟨(a.add (j * 8)).block, (a.add (j * 8)).off + 2, none⟩ = some (.int .i64 (oK (l.getD j or0))) ∧ w.cell? ⟨(a.add (j * 8)).block, (a.add (j * 8)).off + 3, none⟩ = some (txt (oP (l.getD j or0))) ∧ w.cell? ⟨(a.add (j * 8)).block, (a.add (j * 8)).off + 4, none⟩ = some (txt (oV (l.getD j or0))) ∧ w.cell? ⟨(a.add (j * 8)).block, (a.add (j * 8)).off + 5, none⟩ = some (.int .i64 (oR (l.getD j or0))) ∧ w.cell? ⟨(a.add (j * 8)).block, (a.add (j * 8)).off + 6, none⟩ = some (.int .i64 (oS (l.getD j or0))) ∧ w.cell? ⟨(a.add (j * 8)).block, (a.add (j * 8)).off + 7, none⟩ = some (.int .i64 (oT (l.getD j or0))) := by
 obtain ⟨a, ha, hc⟩ := h.cells j hj
 exact ⟨a, ha, hc 0 (by decide), hc 1 (by decide), hc 2 (by decide), hc 3 (by decide), hc 4 (by decide), hc 5 (by decide), hc 6 (by decide), hc 7 (by decide)⟩
theorem eqFOr (d : Nat) (x y : Or) (w : World) (fs : List Field) (h : fs.map (fun f => (f.name == "_", f.type, f.offset)) = [(false, 3, 0), (false, 3, 1), (false, 3, 2), (false, 9, 3), (false, 9, 4), (false, 3, 5), (false, 3, 6), (false, 3, 7)]) :
 (Op.eqFields (d + 1) (orc x).toArray (orc y).toArray fs).run Tryz.prog w = .ok (decide (x = y)) w := by
 obtain ⟨f0, f1, f2, f3, f4, f5, f6, f7, rfl⟩ : ∃ f0 f1 f2 f3 f4 f5 f6 f7, fs = [f0, f1, f2, f3, f4, f5, f6, f7] := by
  have hl := congrArg List.length h
  rw [List.length_map] at hl
  match fs, hl with
  | [f0, f1, f2, f3, f4, f5, f6, f7], _ => exact ⟨f0, f1, f2, f3, f4, f5, f6, f7, rfl⟩
 simp only [List.map_cons, List.map_nil, List.cons.injEq, Prod.mk.injEq, and_true] at h
 obtain ⟨⟨n0, q0, o0⟩, ⟨n1, q1, o1⟩, ⟨n2, q2, o2⟩, ⟨n3, q3, o3⟩, ⟨n4, q4, o4⟩, ⟨n5, q5, o5⟩, ⟨n6, q6, o6⟩, ⟨n7, q7, o7⟩⟩ := h
 have m0 : f0.name ≠ "_" := by simpa using n0
 have m1 : f1.name ≠ "_" := by simpa using n1
 have m2 : f2.name ≠ "_" := by simpa using n2
 have m3 : f3.name ≠ "_" := by simpa using n3
 have m4 : f4.name ≠ "_" := by simpa using n4
 have m5 : f5.name ≠ "_" := by simpa using n5
 have m6 : f6.name ≠ "_" := by simpa using n6
 have m7 : f7.name ≠ "_" := by simpa using n7
 have p0 : ∀ z : Or, (part f0.type (orc z).toArray f0.offset).run Tryz.prog w = .ok (.int .i64 (oC z)) w := fun z => by rw [q0, o0]; exact run_part_cell _ _ _ _ Tryz.isAgg3 rfl w
 have e0' : (Op.equalIn (d + 1) f0.type (.int .i64 (oC x)) (.int .i64 (oC y))).run Tryz.prog w = .ok (oC x == oC y) w := by rw [q0, run_equalIn_int w d _ _ _ _ _ Tryz.underlying3]
 have p1 : ∀ z : Or, (part f1.type (orc z).toArray f1.offset).run Tryz.prog w = .ok (.int .i64 (oQ z)) w := fun z => by rw [q1, o1]; exact run_part_cell _ _ _ _ Tryz.isAgg3 rfl w
 have e1' : (Op.equalIn (d + 1) f1.type (.int .i64 (oQ x)) (.int .i64 (oQ y))).run Tryz.prog w = .ok (oQ x == oQ y) w := by rw [q1, run_equalIn_int w d _ _ _ _ _ Tryz.underlying3]
 have p2 : ∀ z : Or, (part f2.type (orc z).toArray f2.offset).run Tryz.prog w = .ok (.int .i64 (oK z)) w := fun z => by rw [q2, o2]; exact run_part_cell _ _ _ _ Tryz.isAgg3 rfl w
 have e2' : (Op.equalIn (d + 1) f2.type (.int .i64 (oK x)) (.int .i64 (oK y))).run Tryz.prog w = .ok (oK x == oK y) w := by rw [q2, run_equalIn_int w d _ _ _ _ _ Tryz.underlying3]
 have p3 : ∀ z : Or, (part f3.type (orc z).toArray f3.offset).run Tryz.prog w = .ok (txt (oP z)) w := fun z => by rw [q3, o3]; exact run_part_cell _ _ _ _ Tryz.isAgg9 rfl w
 have e3' : (Op.equalIn (d + 1) f3.type (txt (oP x)) (txt (oP y))).run Tryz.prog w = .ok (oP x == oP y) w := by rw [q3, run_equalIn_string w d _ _ _ Tryz.underlying9, toList_txtE, toList_txtE]
 have p4 : ∀ z : Or, (part f4.type (orc z).toArray f4.offset).run Tryz.prog w = .ok (txt (oV z)) w := fun z => by rw [q4, o4]; exact run_part_cell _ _ _ _ Tryz.isAgg9 rfl w
 have e4' : (Op.equalIn (d + 1) f4.type (txt (oV x)) (txt (oV y))).run Tryz.prog w = .ok (oV x == oV y) w := by rw [q4, run_equalIn_string w d _ _ _ Tryz.underlying9, toList_txtE, toList_txtE]
 have p5 : ∀ z : Or, (part f5.type (orc z).toArray f5.offset).run Tryz.prog w = .ok (.int .i64 (oR z)) w := fun z => by rw [q5, o5]; exact run_part_cell _ _ _ _ Tryz.isAgg3 rfl w
 have e5' : (Op.equalIn (d + 1) f5.type (.int .i64 (oR x)) (.int .i64 (oR y))).run Tryz.prog w = .ok (oR x == oR y) w := by rw [q5, run_equalIn_int w d _ _ _ _ _ Tryz.underlying3]
 have p6 : ∀ z : Or, (part f6.type (orc z).toArray f6.offset).run Tryz.prog w = .ok (.int .i64 (oS z)) w := fun z => by rw [q6, o6]; exact run_part_cell _ _ _ _ Tryz.isAgg3 rfl w
 have e6' : (Op.equalIn (d + 1) f6.type (.int .i64 (oS x)) (.int .i64 (oS y))).run Tryz.prog w = .ok (oS x == oS y) w := by rw [q6, run_equalIn_int w d _ _ _ _ _ Tryz.underlying3]
 have p7 : ∀ z : Or, (part f7.type (orc z).toArray f7.offset).run Tryz.prog w = .ok (.int .i64 (oT z)) w := fun z => by rw [q7, o7]; exact run_part_cell _ _ _ _ Tryz.isAgg3 rfl w
 have e7' : (Op.equalIn (d + 1) f7.type (.int .i64 (oT x)) (.int .i64 (oT y))).run Tryz.prog w = .ok (oT x == oT y) w := by rw [q7, run_equalIn_int w d _ _ _ _ _ Tryz.underlying3]
 obtain ⟨a0, a1, a2, a3, a4, a5, a6, a7⟩ := x
 obtain ⟨b0, b1, b2, b3, b4, b5, b6, b7⟩ := y
 simp only [Op.eqFields, if_pos m0, if_pos m1, if_pos m2, if_pos m3, if_pos m4, if_pos m5, if_pos m6, if_pos m7, Sem.run_bind, p0, p1, p2, p3, p4, p5, p6, p7, e0', e1', e2', e3', e4', e5', e6', e7', Result.andThen_ok, Sem.run_ite, Sem.run_pure]
 clear p0 e0' p1 e1' p2 e2' p3 e3' p4 e4' p5 e5' p6 e6' p7 e7'
 by_cases h0 : a0 = b0
 case neg => simp [h0]
 subst h0
 by_cases h1 : a1 = b1
 case neg => simp [h1]
 subst h1
 by_cases h2 : a2 = b2
 case neg => simp [h2]
 subst h2
 by_cases h3 : a3 = b3
 case neg => simp [h3]
 subst h3
 by_cases h4 : a4 = b4
 case neg => simp [h4]
 subst h4
 by_cases h5 : a5 = b5
 case neg => simp [h5]
 subst h5
 by_cases h6 : a6 = b6
 case neg => simp [h6]
 subst h6
 by_cases h7 : a7 = b7
 case neg => simp [h7]
 subst h7
 simp
theorem rowOrP : ∃ d, Tryz.prog.underlying 35 = some d ∧ d.isRow = true := ⟨_, Tryz.underlying35, rfl⟩
theorem szOrP : (Tryz.prog.info? 35).map (·.size) = some 8 := by kernel_rfl
theorem zeroOrP : (Tryz.prog.info? 35).map (·.zero) = some (some (.agg (orc or0).toArray)) := by kernel_rfl
theorem eqTOrP (d : Nat) (x y : Or) (w : World) : (Op.equalIn (d + 2) 35 (.agg (orc x).toArray) (.agg (orc y).toArray)).run Tryz.prog w = .ok (decide (x = y)) w := by
 rw [run_equalIn_struct w (d + 1) _ _ _ (show Tryz.prog.underlying 35 = some (.struct (Tryz.prog.fieldsOf 35)) by kernel_rfl) (by kernel_rfl)]
 exact eqFOr d x y w _ (by kernel_rfl)
theorem run_eqlOrP (x y : Or) (w : World) : (binOp .eql 35 (.agg #[.int .i64 (oC x), .int .i64 (oQ x), .int .i64 (oK x), txt (oP x), txt (oV x), .int .i64 (oR x), .int .i64 (oS x), .int .i64 (oT x)]) (.agg #[.int .i64 (oC y), .int .i64 (oQ y), .int .i64 (oK y), txt (oP y), txt (oV y), .int .i64 (oR y), .int .i64 (oS y), .int .i64 (oT y)])).run Tryz.prog w = .ok (.bool (decide (x = y))) w := by
 rw [run_eql_struct, show (Value.agg #[.int .i64 (oC x), .int .i64 (oQ x), .int .i64 (oK x), txt (oP x), txt (oV x), .int .i64 (oR x), .int .i64 (oS x), .int .i64 (oT x)]) = Value.agg (orc x).toArray from rfl, show (Value.agg #[.int .i64 (oC y), .int .i64 (oQ y), .int .i64 (oK y), txt (oP y), txt (oV y), .int .i64 (oR y), .int .i64 (oS y), .int .i64 (oT y)]) = Value.agg (orc y).toArray from rfl, show (10000 : Nat) = 9998 + 2 from rfl, eqTOrP]
 rfl
set_option linter.unusedVariables false
theorem strings_same (va vb : Value) (ss : List ByteArray) (B B' : Nat) (w : World) (ha : RdS B w va ss) (hb : RdS B' w vb ss) (hB : B ≤ w.heap.size) (hB' : B' ≤ w.heap.size) (hl : ss.length ≤ 9223372036854775806) :
 Calls Tryz.prog 47 #[va, vb] w (TrueStays w) := by
 obtain ⟨A, c, hv, _, _⟩ := ha.shape
 obtain ⟨A', c', hv', _, _⟩ := hb.shape
 rw [hv] at ha ⊢
 rw [hv'] at hb ⊢
 have HA := lhd ha
 have HB := lhd hb
 clear ha hb hv hv'
 go_enter Tryz.func47, Tryz.ntmps47
 go_wp2
 go_loopw [5] (fun i wr => ∃ k : Nat, k ≤ ss.length ∧ i = .int .i64 k ∧ Hid (Below w.heap.size w wr)) (fun i _ => ss.length - (intOf i).toNat)
 case atStart => exact ⟨0, Nat.zero_le _, rfl, Below.refl _ _⟩
 case round =>
  obtain ⟨k, hk, rfl, HW⟩ := hrel
  by_cases hlt : k < ss.length
  ·obtain ⟨a, rfl, hcell⟩ := (HA.out.below (HW.out.mono hB)).at_ k hlt
   obtain ⟨a', rfl, hcell'⟩ := (HB.out.below (HW.out.mono hB')).at_ k hlt
   generalize ss[k] = s at *
   have hlt2 : (k : Int) < (ss.length : Int) := by omega
   go_wp2
   go_quiet (fail)
   go_wp2
   go_roundw
   case rel => exact ⟨k + 1, by omega, by go_num, HW.out.trans (below_drewN _ _ _)⟩
   case measure => simp [intOf]; omega
  ·obtain rfl : k = ss.length := by omega
   go_wp2
   go_ret
   exact ⟨rfl, HW.out⟩
set_option linter.unusedVariables false
set_option linter.unusedVariables false
set_option linter.unusedVariables false
end Go.Proofs.YtdihngkdhanhkaaGreatDoor
