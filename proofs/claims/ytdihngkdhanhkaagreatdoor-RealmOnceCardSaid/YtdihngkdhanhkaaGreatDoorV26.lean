/-
  Texts UB.
-/
import Derived.Test.YtdihngkdhanhkaaGreatDoorV01
import Derived.Test.YtdihngkdhanhkaaGreatDoorV03
import Derived.Test.YtdihngkdhanhkaaGreatDoorV10
namespace Go.Proofs.YtdihngkdhanhkaaGreatDoor
set_option maxRecDepth 100000
set_option maxHeartbeats 16000000
open Go.RowKit
theorem ret_blk1W {P : Program} {fn : Func} {p : Tmp} {u : Tmp} {ty : TypeId} (h : fn.results = #[.cell p ty, .tmp u]) (tmps : Array Value) (w : World) (g : Nat) (t : TypeId) (cs : List Value) (x : Value)
 (hp : tmps.getD p undef = .pointer (some ⟨g, 0, none⟩)) (hu' : tmps.getD u undef = x) (hb : Blk w g cs t) (d : TypeDesc) (hu : P.underlying ty = some d) (hd : d.isRow = true) (hs : (P.info? ty).map (·.size) = some cs.length) :
 (results fn tmps).run P w = .ok (.tuple #[.agg cs.toArray, x]) w := ret_blk2U h tmps w g t cs x hp hu' hb d hu hd hs
def TabsO (en : TypeId) (v0 : Value) (l : List Wa) (f : Nat) (w : World) (e : Ending) (w' : World) : Prop := ∃ v, e = .returned (.tuple #[.agg #[v], .int .i64 (f : Int)]) ∧ RdE WaK w'.heap.size w' v l ∧ (v = v0 ∨ OwnE WaK en w' w.heap.size v l) ∧ Below w.heap.size w w'
def FiresO (en ee : TypeId) (l : List Wa) (m : List Ev) (w : World) (e : Ending) (w' : World) : Prop := ∃ v u, e = .returned (.tuple #[.agg #[v], u]) ∧ OwnE WaK en w' w.heap.size v l ∧ OwnE EvK ee w' w.heap.size u m ∧ Below w.heap.size w w'
theorem hasW_here (l : List Wa) (x : Wa) (i : Nat) (hi : i < l.length) (h : l.getD i wa0 = x) : hasW l x = true := (hasW_iff l x).2 (by rw [← h]; exact getD_memW l wa0 i hi)
theorem hasW_none (l : List Wa) (x : Wa) (h : ∀ i, i < l.length → l.getD i wa0 ≠ x) : hasW l x = false := by
 rw [hasW_not]
 intro hx
 obtain ⟨i, hi, e⟩ := mem_getDW l wa0 x hx
 exact h i hi e
theorem rfHasW_any (l : List Wa) (y : Wa) (v : Value) (w : World) (hr : RdE WaK w.heap.size w v l) : Calls Tryz.prog 68 #[v, .agg #[txt (wP y), .int .i64 (wC y), .bool (wK y)]] w (One (.bool (hasW l y)) w) := by
 obtain ⟨A, cp, rfl, hc, hm⟩ := hr.shape
 unfold maxLen at hm
 obtain ⟨n, hn⟩ : ∃ n, l.length = n := ⟨_, rfl⟩
 have HN := lhd hn
 have HR := lhd hr
 rw [hn] at hc HR ⊢
 clear hr hn
 go_enter Tryz.func68, Tryz.ntmps68
 go_wp2_with (refine wpList_box_blk rfl 107 _ rfl (wac y) rfl ?_)
 intro w1 b1 b2 b3
 have hs1 : w.heap.size ≤ w1.heap.size := by omega
 have HR1 := lhd (HR.out.below b3)
 have HB := lhd b3
 have X0 := lhd b1
 obtain ⟨g, hg⟩ : ∃ g, w.heap.size = g := ⟨_, rfl⟩
 have hg1 : g < w1.heap.size := by omega
 rw [hg] at X0 ⊢
 clear b1 b2 b3 HR
 go_wp2
 go_loopw [5] (fun x wr => ∃ i : Nat, i ≤ n ∧ x = .int .i64 (i : Int) ∧ Hid (∀ j, j < i → l.getD j wa0 ≠ y) ∧ Hid (Below w1.heap.size w1 wr)) (fun x _ => n - (intOf x).toNat)
 case atStart => exact ⟨0, by omega, rfl, fun j hj => by omega, Below.refl _ _⟩
 case round =>
  obtain ⟨i, hi, rfl, HA, HW⟩ := hrel
  by_cases hi2 : i < n
  ·have zi : (i : Int) < (n : Int) := by omega
   obtain ⟨a, hA, c0, c1, c2⟩ := (HR1.out.below (HW.out.mono hs1)).atWa i (by rw [HN.out]; exact hi2)
   subst hA
   have X1 := X0.out.below HW.out hg1
   have d0 := X1.at_ 0 _ rfl
   have d1 := X1.at_ 1 _ rfl
   have d2 := X1.at_ 2 _ rfl
   clear X1
   obtain ⟨x, hx⟩ : ∃ x, l.getD i wa0 = x := ⟨_, rfl⟩
   rw [hx] at c0 c1 c2
   have hne := run_eqlWaR x y
   obtain ⟨B, hB⟩ : ∃ B, decide (x = y) = B := ⟨_, rfl⟩
   rw [hB] at hne
   go_wp2
   refine wp_region_quiet_lit (by kernel_rfl) (by kernel_rfl) ?_
   repeat (first | go_big_quiet_step (fail) | quiet_step (fail))
   refine wpQuiet_nil ?_
   intro _ hw'
   obtain ⟨nq, hw''⟩ := hw'
   subst hw''
   have HD2 : Hid (Below w1.heap.size w1 (wr.drewN nq)) := Below.drewN' HW.out
   cases B
   ·have HA2 : Hid (∀ j, j < i + 1 → l.getD j wa0 ≠ y) := by
     intro j hj
     by_cases h : j < i
     ·exact HA.out j h
     ·have : j = i := by omega
      subst this
      rw [hx]; simpa using hB
    clear hne
    go_wp2
    go_roundw
    case rel => exact ⟨i + 1, by omega, by go_num, HA2, HD2⟩
    case measure => simp [intOf]; omega
   ·have HE := lhd (hasW_here l y i (by rw [HN.out]; exact hi2) (by rw [hx]; simpa using hB))
    clear hne
    go_wp2
    go_ret
    exact ⟨by rw [HE.out]; rfl, HB.out.trans (HD2.out.mono hs1)⟩
  ·have hE : i = n := by omega
   subst hE
   have HE := lhd (hasW_none l y (by rw [HN.out]; exact HA.out))
   go_wp2
   go_ret
   exact ⟨by rw [HE.out]; rfl, HB.out.trans (HW.out.mono hs1)⟩
theorem touch_low (c : Ch) (x : Wa) (h : cK c < 1) : touchB c x = false := by unfold touchB; rw [decide_eq_false (show ¬ 1 ≤ cK c by omega)]; rfl
theorem touch_high (c : Ch) (x : Wa) (h : 3 < cK c) : touchB c x = false := by unfold touchB; rw [decide_eq_false (show ¬ cK c ≤ 3 by omega)]; simp
theorem touch_bad (c : Ch) (x : Wa) (h : rightB (cP c) = false) : touchB c x = false := by unfold touchB; rw [h]; simp
theorem touch_here (c : Ch) (x : Wa) (h1 : ¬ cK c < 1) (h2 : ¬ 3 < cK c) (h3 : rightB (cP c) = true) (hk : wK x = false) : touchB c x = decide (cP c = wP x) := by
 unfold touchB
 rw [decide_eq_true (show 1 ≤ cK c by omega), decide_eq_true (show cK c ≤ 3 by omega), h3, hk]
 rfl
theorem touch_kids (c : Ch) (x : Wa) (h1 : ¬ cK c < 1) (h2 : ¬ 3 < cK c) (h3 : rightB (cP c) = true) (hk : wK x = true) : touchB c x = kidsB c x := by
 unfold touchB
 rw [decide_eq_true (show 1 ≤ cK c by omega), decide_eq_true (show cK c ≤ 3 by omega), h3, hk]
 rfl
theorem rightIsU (s : List UInt8) (b : Bool) (h : rightB s = b) (w : World) : Calls Tryz.prog 64 #[txt s] w (One (.bool b) w) := by
 rw [← h]
 exact rfRight_any s w
theorem hasIsW (l : List Wa) (y : Wa) (b : Bool) (h : hasW l y = b) (v : Value) (w : World) (hr : RdE WaK w.heap.size w v l) : Calls Tryz.prog 68 #[v, .agg (wac y).toArray] w (One (.bool b) w) := by
 rw [← h]
 exact rfHasW_any l y v w hr
theorem rfRightW_any (l : List Wa) (v : Value) (w : World) (hr : RdE WaK w.heap.size w v l) : Calls Tryz.prog 37 #[.agg #[v]] w (One (.bool (rightW l)) w) := by
 obtain ⟨A, cp, rfl, hc, hm⟩ := hr.shape
 unfold maxLen at hm
 obtain ⟨n, hn⟩ : ∃ n, l.length = n := ⟨_, rfl⟩
 have HN := lhd hn
 have HR := lhd hr
 rw [hn] at hc HR ⊢
 clear hr hn
 go_enter Tryz.func37, Tryz.ntmps37
 go_wp2_with (refine wpList_box_blk rfl 48 _ rfl [.slice A n cp] rfl ?_)
 intro w1 b1 b2 b3
 obtain ⟨g0, hg0⟩ : ∃ g, w.heap.size = g := ⟨_, rfl⟩
 have X0 := lhd b1
 have HB := lhd b3
 have hg1 : g0 < w1.heap.size := by omega
 have hw1 : w.heap.size ≤ w1.heap.size := by omega
 rw [hg0] at X0 ⊢
 have ca := X0.out.cell 0
 clear b1 b2 b3 hg0
 go_wp2
 go_loopw [3] (fun x wr => ∃ i : Nat, i ≤ n ∧ x = .int .i64 (i : Int) ∧ Hid (∀ j, j < i → okW l j = true) ∧ Hid (Below w1.heap.size w1 wr)) (fun x _ => n - (intOf x).toNat)
 case atStart => exact ⟨0, by omega, rfl, fun j hj => by omega, Below.refl _ _⟩
 case round =>
  obtain ⟨i, hi, rfl, HA, HW⟩ := hrel
  have hwr := HW.out.size
  clear ca
  have ca := (X0.out.below HW.out hg1).cell 0
  by_cases hi2 : i < n
  ·have zi : (i : Int) < (n : Int) := by omega
   obtain ⟨a, hA, c0, c1, c2⟩ := (HR.out.below (HB.out.trans (HW.out.mono hw1))).atWa i (by rw [HN.out]; exact hi2)
   subst hA
   clear c0 c1 c2
   have HRr := lhd ((HR.out.below (HB.out.trans (HW.out.mono hw1))).more (HB.out.trans (HW.out.mono hw1)).size)
   have XG := lhd (X0.out.below HW.out hg1)
   have hgr : g0 < wr.heap.size := by omega
   have hwwr : w.heap.size ≤ wr.heap.size := by omega
   obtain ⟨nd, hx⟩ : ∃ x, l.getD i wa0 = x := ⟨_, rfl⟩
   have HX := lhd hx
   have HOK : Hid (okW l i = ((rightB (wP nd) && decide (0 ≤ wC nd)) && !hasW (l.take i) nd)) := by
    show _ = _
    unfold okW fineW
    rw [hx]
   clear hx
   obtain ⟨B, hB⟩ : ∃ B, rightB (wP nd) = B := ⟨_, rfl⟩
   obtain ⟨H, hH⟩ : ∃ H, hasW (l.take i) nd = H := ⟨_, rfl⟩
   rw [hB, hH] at HOK
   have HBB := lhd hB
   have HH := lhd hH
   clear hB hH
   go_wp2
   clear ca
   cases B
   ·have HF := lhd (okW_not l i (by rw [HN.out]; exact hi2) (by rw [HOK.out]; rfl))
    refine wp_region_rely2 29 0 (fun x => ⟨#[.agg #[Value.slice (some a) n cp], .pointer (some { block := g0, off := 0 }), u2, .int IntKind.i64 ↑i, .int IntKind.i64 ↑i, .pointer (some { block := g0, off := 0 }), .slice (some a) n cp, .int IntKind.i64 ↑n, .bool true, u9, u10, x 0, x 1, x 2, x 3, x 4, x 5, x 6, x 7, x 8, x 9, x 10, x 11, x 12, x 13, x 14, x 15, x 16, x 17, x 18, x 19, x 20, x 21, x 22, x 23, x 24, x 25, x 26, x 27, x 28, undef, undef, undef, undef], []⟩) (fun jj => ([eqV (.pointer (some ⟨g0, 0, none⟩)), eqV (.slice (some a) n cp), eqV (.int IntKind.i64 ↑i), eqV (.pointer (some (a.add (i * 3)))), eqV (.pointer (some (a.add (i * 3)))), eqV (txt (wP nd)), (eqV (.bool false)), eqV (.bool true), eqV (.bool true), (eqV undef), (eqV undef), (eqV undef), (eqV undef), (eqV undef), (eqV undef), (eqV undef), eqV (.bool true), eqV (.bool true), (eqV undef), (eqV undef), (eqV undef), (eqV undef), (eqV undef), (eqV undef), (eqV undef), (eqV undef), (eqV undef), (eqV undef), eqV (.bool true)] : List (Value → World → Prop)).getD jj (fun _ _ => True)) rfl ⟨fun kk => [_, _, _, _, _, _, _, _, _, _, _, _, _, _, _, _, _, _, _, _, _, _, _, _, _, _, _, _, _].getD kk undef, rfl⟩ (by kernel_rfl) (by kernel_rfl) ?steps ?fin
    case steps =>
     refine StepsAt.val 0 (.pointer (some ⟨g0, 0, none⟩)) rfl (fun _ _ => rfl) rfl rfl (fun x wx hb hd => ?_) ?_
     ·(go_simp; try rfl)
     refine StepsAt.val 1 (.slice (some a) n cp) rfl (fun _ _ => rfl) rfl rfl (fun x wx hb hd => ?_) ?_
     ·have h0 : x 0 = .pointer (some ⟨g0, 0, none⟩) := hd 0 (by kernel_rfl)
      have cc := ((XG.out.below hb XG.out.lt).cell 0).trans (show _ = some (.slice (some a) n cp) from rfl)
      rw [h0]
      (go_simp; try rfl)
     refine StepsAt.val 2 (.int IntKind.i64 ↑i) rfl (fun _ _ => rfl) rfl rfl (fun x wx hb hd => ?_) ?_
     ·(go_simp; try rfl)
     refine StepsAt.val 3 (.pointer (some (a.add (i * 3)))) rfl (fun _ _ => rfl) rfl rfl (fun x wx hb hd => ?_) ?_
     ·have h1 : x 1 = .slice (some a) n cp := hd 1 (by kernel_rfl)
      have h2 : x 2 = .int IntKind.i64 ↑i := hd 2 (by kernel_rfl)
      rw [h1, h2]
      (go_simp; try rfl)
     refine StepsAt.val 4 (.pointer (some (a.add (i * 3)))) rfl (fun _ _ => rfl) rfl rfl (fun x wx hb hd => ?_) ?_
     ·have h3 : x 3 = .pointer (some (a.add (i * 3))) := hd 3 (by kernel_rfl)
      rw [h3]
      (go_simp; try rfl)
     refine StepsAt.val 5 (txt (wP nd)) rfl (fun _ _ => rfl) rfl rfl (fun x wx hb hd => ?_) ?_
     ·have h4 : x 4 = .pointer (some (a.add (i * 3))) := hd 4 (by kernel_rfl)
      obtain ⟨a9, hA9, cc0, cc1, cc2⟩ := (HRr.out.below hb).atWa i (by rw [HN.out]; exact hi2)
      obtain rfl : a = a9 := Option.some.inj hA9
      rw [HX.out] at cc0 cc1 cc2
      rw [h4]
      (go_simp; try rfl)
     refine StepsAt.cons 6 (fun _ _ _ h hb => h) (fun _ _ => rfl) rfl rfl (fun x wx hb hd K hK => ?_) ?_
     ·have h5 : Hid (x 5 = txt (wP nd)) := hd 5 (by kernel_rfl)
      go_simp
      refine calls_args (args2 := #[txt (wP nd)]) (by rw [h5.out]) ?_
      refine (rightIsU (wP nd) false HBB.out _).mono ?_
      rintro e w99 ⟨rfl, hb99⟩
      exact hK.out _ _ hb99 rfl
     refine StepsAt.val 7 (.bool true) rfl (fun _ _ => rfl) rfl rfl (fun x wx hb hd => ?_) ?_
     ·have h6 : x 6 = .bool false := hd 6 (by kernel_rfl)
      rw [h6]
      (go_simp; try rfl)
     refine StepsAt.val 8 (.bool true) rfl (fun _ _ => rfl) rfl rfl (fun x wx hb hd => ?_) ?_
     ·have h7 : x 7 = .bool true := hd 7 (by kernel_rfl)
      rw [h7]
      (go_simp; try rfl)
     refine StepsAt.skip 9 rfl (fun _ _ => rfl) rfl (fun x wx hd => ?_) ?_
     ·have hG : x 8 = .bool true := hd 8 (by kernel_rfl)
      simp [Region.wanted, yielded, hG]
     refine StepsAt.skip 10 rfl (fun _ _ => rfl) rfl (fun x wx hd => ?_) ?_
     ·have hG : x 8 = .bool true := hd 8 (by kernel_rfl)
      simp [Region.wanted, yielded, hG]
     refine StepsAt.skip 11 rfl (fun _ _ => rfl) rfl (fun x wx hd => ?_) ?_
     ·have hG : x 8 = .bool true := hd 8 (by kernel_rfl)
      simp [Region.wanted, yielded, hG]
     refine StepsAt.skip 12 rfl (fun _ _ => rfl) rfl (fun x wx hd => ?_) ?_
     ·have hG : x 8 = .bool true := hd 8 (by kernel_rfl)
      simp [Region.wanted, yielded, hG]
     refine StepsAt.skip 13 rfl (fun _ _ => rfl) rfl (fun x wx hd => ?_) ?_
     ·have hG : x 8 = .bool true := hd 8 (by kernel_rfl)
      simp [Region.wanted, yielded, hG]
     refine StepsAt.skip 14 rfl (fun _ _ => rfl) rfl (fun x wx hd => ?_) ?_
     ·have hG : x 8 = .bool true := hd 8 (by kernel_rfl)
      simp [Region.wanted, yielded, hG]
     refine StepsAt.skip 15 rfl (fun _ _ => rfl) rfl (fun x wx hd => ?_) ?_
     ·have hG : x 8 = .bool true := hd 8 (by kernel_rfl)
      simp [Region.wanted, yielded, hG]
     refine StepsAt.val 16 (.bool true) rfl (fun _ _ => rfl) rfl rfl (fun x wx hb hd => ?_) ?_
     ·have h8 : x 8 = .bool true := hd 8 (by kernel_rfl)
      have h15 : x 15 = undef := hd 15 (by kernel_rfl)
      rw [h8, h15]
      (go_simp; try rfl)
     refine StepsAt.val 17 (.bool true) rfl (fun _ _ => rfl) rfl rfl (fun x wx hb hd => ?_) ?_
     ·have h16 : x 16 = .bool true := hd 16 (by kernel_rfl)
      rw [h16]
      (go_simp; try rfl)
     refine StepsAt.skip 18 rfl (fun _ _ => rfl) rfl (fun x wx hd => ?_) ?_
     ·have hG : x 17 = .bool true := hd 17 (by kernel_rfl)
      simp [Region.wanted, yielded, hG]
     refine StepsAt.skip 19 rfl (fun _ _ => rfl) rfl (fun x wx hd => ?_) ?_
     ·have hG : x 17 = .bool true := hd 17 (by kernel_rfl)
      simp [Region.wanted, yielded, hG]
     refine StepsAt.skip 20 rfl (fun _ _ => rfl) rfl (fun x wx hd => ?_) ?_
     ·have hG : x 17 = .bool true := hd 17 (by kernel_rfl)
      simp [Region.wanted, yielded, hG]
     refine StepsAt.skip 21 rfl (fun _ _ => rfl) rfl (fun x wx hd => ?_) ?_
     ·have hG : x 17 = .bool true := hd 17 (by kernel_rfl)
      simp [Region.wanted, yielded, hG]
     refine StepsAt.skip 22 rfl (fun _ _ => rfl) rfl (fun x wx hd => ?_) ?_
     ·have hG : x 17 = .bool true := hd 17 (by kernel_rfl)
      simp [Region.wanted, yielded, hG]
     refine StepsAt.skip 23 rfl (fun _ _ => rfl) rfl (fun x wx hd => ?_) ?_
     ·have hG : x 17 = .bool true := hd 17 (by kernel_rfl)
      simp [Region.wanted, yielded, hG]
     refine StepsAt.skip 24 rfl (fun _ _ => rfl) rfl (fun x wx hd => ?_) ?_
     ·have hG : x 17 = .bool true := hd 17 (by kernel_rfl)
      simp [Region.wanted, yielded, hG]
     refine StepsAt.skip 25 rfl (fun _ _ => rfl) rfl (fun x wx hd => ?_) ?_
     ·have hG : x 17 = .bool true := hd 17 (by kernel_rfl)
      simp [Region.wanted, yielded, hG]
     refine StepsAt.skip 26 rfl (fun _ _ => rfl) rfl (fun x wx hd => ?_) ?_
     ·have hG : x 17 = .bool true := hd 17 (by kernel_rfl)
      simp [Region.wanted, yielded, hG]
     refine StepsAt.skip 27 rfl (fun _ _ => rfl) rfl (fun x wx hd => ?_) ?_
     ·have hG : x 17 = .bool true := hd 17 (by kernel_rfl)
      simp [Region.wanted, yielded, hG]
     refine StepsAt.val 28 (.bool true) rfl (fun _ _ => rfl) rfl rfl (fun x wx hb hd => ?_) ?_
     ·have h17 : x 17 = .bool true := hd 17 (by kernel_rfl)
      have h27 : x 27 = undef := hd 27 (by kernel_rfl)
      rw [h17, h27]
      (go_simp; try rfl)
     exact StepsAt.done
    case fin =>
     intro x wx hb hd
     have hx0 : x 0 = .pointer (some ⟨g0, 0, none⟩) := hd 0 (by omega)
     have hx1 : x 1 = .slice (some a) n cp := hd 1 (by omega)
     have hx2 : x 2 = .int IntKind.i64 ↑i := hd 2 (by omega)
     have hx3 : x 3 = .pointer (some (a.add (i * 3))) := hd 3 (by omega)
     have hx4 : x 4 = .pointer (some (a.add (i * 3))) := hd 4 (by omega)
     have hx5 : x 5 = txt (wP nd) := hd 5 (by omega)
     have hx6 : x 6 = .bool false := hd 6 (by omega)
     have hx7 : x 7 = .bool true := hd 7 (by omega)
     have hx8 : x 8 = .bool true := hd 8 (by omega)
     have hx9 : x 9 = undef := hd 9 (by omega)
     have hx10 : x 10 = undef := hd 10 (by omega)
     have hx11 : x 11 = undef := hd 11 (by omega)
     have hx12 : x 12 = undef := hd 12 (by omega)
     have hx13 : x 13 = undef := hd 13 (by omega)
     have hx14 : x 14 = undef := hd 14 (by omega)
     have hx15 : x 15 = undef := hd 15 (by omega)
     have hx16 : x 16 = .bool true := hd 16 (by omega)
     have hx17 : x 17 = .bool true := hd 17 (by omega)
     have hx18 : x 18 = undef := hd 18 (by omega)
     have hx19 : x 19 = undef := hd 19 (by omega)
     have hx20 : x 20 = undef := hd 20 (by omega)
     have hx21 : x 21 = undef := hd 21 (by omega)
     have hx22 : x 22 = undef := hd 22 (by omega)
     have hx23 : x 23 = undef := hd 23 (by omega)
     have hx24 : x 24 = undef := hd 24 (by omega)
     have hx25 : x 25 = undef := hd 25 (by omega)
     have hx26 : x 26 = undef := hd 26 (by omega)
     have hx27 : x 27 = undef := hd 27 (by omega)
     have hx28 : x 28 = .bool true := hd 28 (by omega)
     refine AnyTill.any (S := fun _ => True) (m := 29) _ _ _ _ ?_
     refine AnyTill.done (by kernel_rfl) ?_
     refine NoPanic.normal ?_
     try dsimp only
     rw [hx0, hx1, hx2, hx3, hx4, hx5, hx6, hx7, hx8, hx9, hx10, hx11, hx12, hx13, hx14, hx15, hx16, hx17, hx18, hx19, hx20, hx21, hx22, hx23, hx24, hx25, hx26, hx27, hx28]
     have HWx : Hid (Below w1.heap.size w1 wx) := HW.out.trans (hb.mono hwr)
     clear hd hb hx0 hx1 hx2 hx3 hx4 hx5 hx6 hx7 hx8 hx9 hx10 hx11 hx12 hx13 hx14 hx15 hx16 hx17 hx18 hx19 hx20 hx21 hx22 hx23 hx24 hx25 hx26 hx27 hx28
     go_wp2
     go_ret
     exact ⟨by rw [HF.out]; rfl, HB.out.trans (HWx.out.mono hw1)⟩
   by_cases hneg : wC nd < 0
   ·have HF := lhd (okW_not l i (by rw [HN.out]; exact hi2) (by rw [HOK.out, decide_eq_false (show ¬ 0 ≤ wC nd by omega)]; rfl))
    refine wp_region_rely2 29 0 (fun x => ⟨#[.agg #[Value.slice (some a) n cp], .pointer (some { block := g0, off := 0 }), u2, .int IntKind.i64 ↑i, .int IntKind.i64 ↑i, .pointer (some { block := g0, off := 0 }), .slice (some a) n cp, .int IntKind.i64 ↑n, .bool true, u9, u10, x 0, x 1, x 2, x 3, x 4, x 5, x 6, x 7, x 8, x 9, x 10, x 11, x 12, x 13, x 14, x 15, x 16, x 17, x 18, x 19, x 20, x 21, x 22, x 23, x 24, x 25, x 26, x 27, x 28, undef, undef, undef, undef], []⟩) (fun jj => ([eqV (.pointer (some ⟨g0, 0, none⟩)), eqV (.slice (some a) n cp), eqV (.int IntKind.i64 ↑i), eqV (.pointer (some (a.add (i * 3)))), eqV (.pointer (some (a.add (i * 3)))), eqV (txt (wP nd)), (eqV (.bool true)), eqV (.bool false), eqV (.bool false), eqV (.pointer (some ⟨g0, 0, none⟩)), eqV (.slice (some a) n cp), eqV (.int IntKind.i64 ↑i), eqV (.pointer (some (a.add (i * 3)))), eqV (.pointer (some ⟨(a.add (i * 3)).block, (a.add (i * 3)).off + 1, none⟩)), eqV (.int .i64 (wC nd)), eqV (.bool true), eqV (.bool true), eqV (.bool true), (eqV undef), (eqV undef), (eqV undef), (eqV undef), (eqV undef), (eqV undef), (eqV undef), (eqV undef), (eqV undef), (eqV undef), eqV (.bool true)] : List (Value → World → Prop)).getD jj (fun _ _ => True)) rfl ⟨fun kk => [_, _, _, _, _, _, _, _, _, _, _, _, _, _, _, _, _, _, _, _, _, _, _, _, _, _, _, _, _].getD kk undef, rfl⟩ (by kernel_rfl) (by kernel_rfl) ?steps ?fin
    case steps =>
     refine StepsAt.val 0 (.pointer (some ⟨g0, 0, none⟩)) rfl (fun _ _ => rfl) rfl rfl (fun x wx hb hd => ?_) ?_
     ·(go_simp; try rfl)
     refine StepsAt.val 1 (.slice (some a) n cp) rfl (fun _ _ => rfl) rfl rfl (fun x wx hb hd => ?_) ?_
     ·have h0 : x 0 = .pointer (some ⟨g0, 0, none⟩) := hd 0 (by kernel_rfl)
      have cc := ((XG.out.below hb XG.out.lt).cell 0).trans (show _ = some (.slice (some a) n cp) from rfl)
      rw [h0]
      (go_simp; try rfl)
     refine StepsAt.val 2 (.int IntKind.i64 ↑i) rfl (fun _ _ => rfl) rfl rfl (fun x wx hb hd => ?_) ?_
     ·(go_simp; try rfl)
     refine StepsAt.val 3 (.pointer (some (a.add (i * 3)))) rfl (fun _ _ => rfl) rfl rfl (fun x wx hb hd => ?_) ?_
     ·have h1 : x 1 = .slice (some a) n cp := hd 1 (by kernel_rfl)
      have h2 : x 2 = .int IntKind.i64 ↑i := hd 2 (by kernel_rfl)
      rw [h1, h2]
      (go_simp; try rfl)
     refine StepsAt.val 4 (.pointer (some (a.add (i * 3)))) rfl (fun _ _ => rfl) rfl rfl (fun x wx hb hd => ?_) ?_
     ·have h3 : x 3 = .pointer (some (a.add (i * 3))) := hd 3 (by kernel_rfl)
      rw [h3]
      (go_simp; try rfl)
     refine StepsAt.val 5 (txt (wP nd)) rfl (fun _ _ => rfl) rfl rfl (fun x wx hb hd => ?_) ?_
     ·have h4 : x 4 = .pointer (some (a.add (i * 3))) := hd 4 (by kernel_rfl)
      obtain ⟨a9, hA9, cc0, cc1, cc2⟩ := (HRr.out.below hb).atWa i (by rw [HN.out]; exact hi2)
      obtain rfl : a = a9 := Option.some.inj hA9
      rw [HX.out] at cc0 cc1 cc2
      rw [h4]
      (go_simp; try rfl)
     refine StepsAt.cons 6 (fun _ _ _ h hb => h) (fun _ _ => rfl) rfl rfl (fun x wx hb hd K hK => ?_) ?_
     ·have h5 : Hid (x 5 = txt (wP nd)) := hd 5 (by kernel_rfl)
      go_simp
      refine calls_args (args2 := #[txt (wP nd)]) (by rw [h5.out]) ?_
      refine (rightIsU (wP nd) true HBB.out _).mono ?_
      rintro e w99 ⟨rfl, hb99⟩
      exact hK.out _ _ hb99 rfl
     refine StepsAt.val 7 (.bool false) rfl (fun _ _ => rfl) rfl rfl (fun x wx hb hd => ?_) ?_
     ·have h6 : x 6 = .bool true := hd 6 (by kernel_rfl)
      rw [h6]
      (go_simp; try rfl)
     refine StepsAt.val 8 (.bool false) rfl (fun _ _ => rfl) rfl rfl (fun x wx hb hd => ?_) ?_
     ·have h7 : x 7 = .bool false := hd 7 (by kernel_rfl)
      rw [h7]
      (go_simp; try rfl)
     refine StepsAt.valG 9 (.pointer (some ⟨g0, 0, none⟩)) rfl (fun _ _ => rfl) rfl (fun x wx hd => ?_) (fun x wx hb hd => ?_) ?_
     ·have hG : x 8 = .bool false := hd 8 (by kernel_rfl)
      simp [Region.wanted, yielded, hG]
     ·(go_simp; try rfl)
     refine StepsAt.valG 10 (.slice (some a) n cp) rfl (fun _ _ => rfl) rfl (fun x wx hd => ?_) (fun x wx hb hd => ?_) ?_
     ·have hG : x 8 = .bool false := hd 8 (by kernel_rfl)
      simp [Region.wanted, yielded, hG]
     ·have h9 : x 9 = .pointer (some ⟨g0, 0, none⟩) := hd 9 (by kernel_rfl)
      have cc := ((XG.out.below hb XG.out.lt).cell 0).trans (show _ = some (.slice (some a) n cp) from rfl)
      rw [h9]
      (go_simp; try rfl)
     refine StepsAt.valG 11 (.int IntKind.i64 ↑i) rfl (fun _ _ => rfl) rfl (fun x wx hd => ?_) (fun x wx hb hd => ?_) ?_
     ·have hG : x 8 = .bool false := hd 8 (by kernel_rfl)
      simp [Region.wanted, yielded, hG]
     ·(go_simp; try rfl)
     refine StepsAt.valG 12 (.pointer (some (a.add (i * 3)))) rfl (fun _ _ => rfl) rfl (fun x wx hd => ?_) (fun x wx hb hd => ?_) ?_
     ·have hG : x 8 = .bool false := hd 8 (by kernel_rfl)
      simp [Region.wanted, yielded, hG]
     ·have h10 : x 10 = .slice (some a) n cp := hd 10 (by kernel_rfl)
      have h11 : x 11 = .int IntKind.i64 ↑i := hd 11 (by kernel_rfl)
      rw [h10, h11]
      (go_simp; try rfl)
     refine StepsAt.valG 13 (.pointer (some ⟨(a.add (i * 3)).block, (a.add (i * 3)).off + 1, none⟩)) rfl (fun _ _ => rfl) rfl (fun x wx hd => ?_) (fun x wx hb hd => ?_) ?_
     ·have hG : x 8 = .bool false := hd 8 (by kernel_rfl)
      simp [Region.wanted, yielded, hG]
     ·have h12 : x 12 = .pointer (some (a.add (i * 3))) := hd 12 (by kernel_rfl)
      rw [h12]
      (go_simp; try rfl)
     refine StepsAt.valG 14 (.int .i64 (wC nd)) rfl (fun _ _ => rfl) rfl (fun x wx hd => ?_) (fun x wx hb hd => ?_) ?_
     ·have hG : x 8 = .bool false := hd 8 (by kernel_rfl)
      simp [Region.wanted, yielded, hG]
     ·have h13 : x 13 = .pointer (some ⟨(a.add (i * 3)).block, (a.add (i * 3)).off + 1, none⟩) := hd 13 (by kernel_rfl)
      obtain ⟨a9, hA9, cc0, cc1, cc2⟩ := (HRr.out.below hb).atWa i (by rw [HN.out]; exact hi2)
      obtain rfl : a = a9 := Option.some.inj hA9
      rw [HX.out] at cc0 cc1 cc2
      rw [h13]
      (go_simp; try rfl)
     refine StepsAt.valG 15 (.bool true) rfl (fun _ _ => rfl) rfl (fun x wx hd => ?_) (fun x wx hb hd => ?_) ?_
     ·have hG : x 8 = .bool false := hd 8 (by kernel_rfl)
      simp [Region.wanted, yielded, hG]
     ·have h14 : x 14 = .int .i64 (wC nd) := hd 14 (by kernel_rfl)
      rw [h14]
      (go_simp; try rfl)
     refine StepsAt.val 16 (.bool true) rfl (fun _ _ => rfl) rfl rfl (fun x wx hb hd => ?_) ?_
     ·have h8 : x 8 = .bool false := hd 8 (by kernel_rfl)
      have h15 : x 15 = .bool true := hd 15 (by kernel_rfl)
      rw [h8, h15]
      (go_simp; try rfl)
     refine StepsAt.val 17 (.bool true) rfl (fun _ _ => rfl) rfl rfl (fun x wx hb hd => ?_) ?_
     ·have h16 : x 16 = .bool true := hd 16 (by kernel_rfl)
      rw [h16]
      (go_simp; try rfl)
     refine StepsAt.skip 18 rfl (fun _ _ => rfl) rfl (fun x wx hd => ?_) ?_
     ·have hG : x 17 = .bool true := hd 17 (by kernel_rfl)
      simp [Region.wanted, yielded, hG]
     refine StepsAt.skip 19 rfl (fun _ _ => rfl) rfl (fun x wx hd => ?_) ?_
     ·have hG : x 17 = .bool true := hd 17 (by kernel_rfl)
      simp [Region.wanted, yielded, hG]
     refine StepsAt.skip 20 rfl (fun _ _ => rfl) rfl (fun x wx hd => ?_) ?_
     ·have hG : x 17 = .bool true := hd 17 (by kernel_rfl)
      simp [Region.wanted, yielded, hG]
     refine StepsAt.skip 21 rfl (fun _ _ => rfl) rfl (fun x wx hd => ?_) ?_
     ·have hG : x 17 = .bool true := hd 17 (by kernel_rfl)
      simp [Region.wanted, yielded, hG]
     refine StepsAt.skip 22 rfl (fun _ _ => rfl) rfl (fun x wx hd => ?_) ?_
     ·have hG : x 17 = .bool true := hd 17 (by kernel_rfl)
      simp [Region.wanted, yielded, hG]
     refine StepsAt.skip 23 rfl (fun _ _ => rfl) rfl (fun x wx hd => ?_) ?_
     ·have hG : x 17 = .bool true := hd 17 (by kernel_rfl)
      simp [Region.wanted, yielded, hG]
     refine StepsAt.skip 24 rfl (fun _ _ => rfl) rfl (fun x wx hd => ?_) ?_
     ·have hG : x 17 = .bool true := hd 17 (by kernel_rfl)
      simp [Region.wanted, yielded, hG]
     refine StepsAt.skip 25 rfl (fun _ _ => rfl) rfl (fun x wx hd => ?_) ?_
     ·have hG : x 17 = .bool true := hd 17 (by kernel_rfl)
      simp [Region.wanted, yielded, hG]
     refine StepsAt.skip 26 rfl (fun _ _ => rfl) rfl (fun x wx hd => ?_) ?_
     ·have hG : x 17 = .bool true := hd 17 (by kernel_rfl)
      simp [Region.wanted, yielded, hG]
     refine StepsAt.skip 27 rfl (fun _ _ => rfl) rfl (fun x wx hd => ?_) ?_
     ·have hG : x 17 = .bool true := hd 17 (by kernel_rfl)
      simp [Region.wanted, yielded, hG]
     refine StepsAt.val 28 (.bool true) rfl (fun _ _ => rfl) rfl rfl (fun x wx hb hd => ?_) ?_
     ·have h17 : x 17 = .bool true := hd 17 (by kernel_rfl)
      have h27 : x 27 = undef := hd 27 (by kernel_rfl)
      rw [h17, h27]
      (go_simp; try rfl)
     exact StepsAt.done
    case fin =>
     intro x wx hb hd
     have hx0 : x 0 = .pointer (some ⟨g0, 0, none⟩) := hd 0 (by omega)
     have hx1 : x 1 = .slice (some a) n cp := hd 1 (by omega)
     have hx2 : x 2 = .int IntKind.i64 ↑i := hd 2 (by omega)
     have hx3 : x 3 = .pointer (some (a.add (i * 3))) := hd 3 (by omega)
     have hx4 : x 4 = .pointer (some (a.add (i * 3))) := hd 4 (by omega)
     have hx5 : x 5 = txt (wP nd) := hd 5 (by omega)
     have hx6 : x 6 = .bool true := hd 6 (by omega)
     have hx7 : x 7 = .bool false := hd 7 (by omega)
     have hx8 : x 8 = .bool false := hd 8 (by omega)
     have hx9 : x 9 = .pointer (some ⟨g0, 0, none⟩) := hd 9 (by omega)
     have hx10 : x 10 = .slice (some a) n cp := hd 10 (by omega)
     have hx11 : x 11 = .int IntKind.i64 ↑i := hd 11 (by omega)
     have hx12 : x 12 = .pointer (some (a.add (i * 3))) := hd 12 (by omega)
     have hx13 : x 13 = .pointer (some ⟨(a.add (i * 3)).block, (a.add (i * 3)).off + 1, none⟩) := hd 13 (by omega)
     have hx14 : x 14 = .int .i64 (wC nd) := hd 14 (by omega)
     have hx15 : x 15 = .bool true := hd 15 (by omega)
     have hx16 : x 16 = .bool true := hd 16 (by omega)
     have hx17 : x 17 = .bool true := hd 17 (by omega)
     have hx18 : x 18 = undef := hd 18 (by omega)
     have hx19 : x 19 = undef := hd 19 (by omega)
     have hx20 : x 20 = undef := hd 20 (by omega)
     have hx21 : x 21 = undef := hd 21 (by omega)
     have hx22 : x 22 = undef := hd 22 (by omega)
     have hx23 : x 23 = undef := hd 23 (by omega)
     have hx24 : x 24 = undef := hd 24 (by omega)
     have hx25 : x 25 = undef := hd 25 (by omega)
     have hx26 : x 26 = undef := hd 26 (by omega)
     have hx27 : x 27 = undef := hd 27 (by omega)
     have hx28 : x 28 = .bool true := hd 28 (by omega)
     refine AnyTill.any (S := fun _ => True) (m := 29) _ _ _ _ ?_
     refine AnyTill.done (by kernel_rfl) ?_
     refine NoPanic.normal ?_
     try dsimp only
     rw [hx0, hx1, hx2, hx3, hx4, hx5, hx6, hx7, hx8, hx9, hx10, hx11, hx12, hx13, hx14, hx15, hx16, hx17, hx18, hx19, hx20, hx21, hx22, hx23, hx24, hx25, hx26, hx27, hx28]
     have HWx : Hid (Below w1.heap.size w1 wx) := HW.out.trans (hb.mono hwr)
     clear hd hb hx0 hx1 hx2 hx3 hx4 hx5 hx6 hx7 hx8 hx9 hx10 hx11 hx12 hx13 hx14 hx15 hx16 hx17 hx18 hx19 hx20 hx21 hx22 hx23 hx24 hx25 hx26 hx27 hx28
     go_wp2
     go_ret
     exact ⟨by rw [HF.out]; rfl, HB.out.trans (HWx.out.mono hw1)⟩
   cases H
   ·have HA2 : Hid (∀ j, j < i + 1 → okW l j = true) := by
     intro j hj
     by_cases h : j < i
     ·exact HA.out j h
     ·have : j = i := by omega
      subst this
      rw [HOK.out, decide_eq_true (show 0 ≤ wC nd by omega)]; rfl
    refine wp_region_rely2 29 0 (fun x => ⟨#[.agg #[Value.slice (some a) n cp], .pointer (some { block := g0, off := 0 }), u2, .int IntKind.i64 ↑i, .int IntKind.i64 ↑i, .pointer (some { block := g0, off := 0 }), .slice (some a) n cp, .int IntKind.i64 ↑n, .bool true, u9, u10, x 0, x 1, x 2, x 3, x 4, x 5, x 6, x 7, x 8, x 9, x 10, x 11, x 12, x 13, x 14, x 15, x 16, x 17, x 18, x 19, x 20, x 21, x 22, x 23, x 24, x 25, x 26, x 27, x 28, undef, undef, undef, undef], []⟩) (fun jj => ([eqV (.pointer (some ⟨g0, 0, none⟩)), eqV (.slice (some a) n cp), eqV (.int IntKind.i64 ↑i), eqV (.pointer (some (a.add (i * 3)))), eqV (.pointer (some (a.add (i * 3)))), eqV (txt (wP nd)), (eqV (.bool true)), eqV (.bool false), eqV (.bool false), eqV (.pointer (some ⟨g0, 0, none⟩)), eqV (.slice (some a) n cp), eqV (.int IntKind.i64 ↑i), eqV (.pointer (some (a.add (i * 3)))), eqV (.pointer (some ⟨(a.add (i * 3)).block, (a.add (i * 3)).off + 1, none⟩)), eqV (.int .i64 (wC nd)), eqV (.bool false), eqV (.bool false), eqV (.bool false), eqV (.pointer (some ⟨g0, 0, none⟩)), eqV (.slice (some a) n cp), eqV (.int IntKind.i64 ↑i), eqV (.slice (some a) i cp), eqV (.pointer (some ⟨g0, 0, none⟩)), eqV (.slice (some a) n cp), eqV (.int IntKind.i64 ↑i), eqV (.pointer (some (a.add (i * 3)))), eqV (.agg (wac nd).toArray), (eqV (.bool false)), eqV (.bool false)] : List (Value → World → Prop)).getD jj (fun _ _ => True)) rfl ⟨fun kk => [_, _, _, _, _, _, _, _, _, _, _, _, _, _, _, _, _, _, _, _, _, _, _, _, _, _, _, _, _].getD kk undef, rfl⟩ (by kernel_rfl) (by kernel_rfl) ?steps ?fin
    case steps =>
     refine StepsAt.val 0 (.pointer (some ⟨g0, 0, none⟩)) rfl (fun _ _ => rfl) rfl rfl (fun x wx hb hd => ?_) ?_
     ·(go_simp; try rfl)
     refine StepsAt.val 1 (.slice (some a) n cp) rfl (fun _ _ => rfl) rfl rfl (fun x wx hb hd => ?_) ?_
     ·have h0 : x 0 = .pointer (some ⟨g0, 0, none⟩) := hd 0 (by kernel_rfl)
      have cc := ((XG.out.below hb XG.out.lt).cell 0).trans (show _ = some (.slice (some a) n cp) from rfl)
      rw [h0]
      (go_simp; try rfl)
     refine StepsAt.val 2 (.int IntKind.i64 ↑i) rfl (fun _ _ => rfl) rfl rfl (fun x wx hb hd => ?_) ?_
     ·(go_simp; try rfl)
     refine StepsAt.val 3 (.pointer (some (a.add (i * 3)))) rfl (fun _ _ => rfl) rfl rfl (fun x wx hb hd => ?_) ?_
     ·have h1 : x 1 = .slice (some a) n cp := hd 1 (by kernel_rfl)
      have h2 : x 2 = .int IntKind.i64 ↑i := hd 2 (by kernel_rfl)
      rw [h1, h2]
      (go_simp; try rfl)
     refine StepsAt.val 4 (.pointer (some (a.add (i * 3)))) rfl (fun _ _ => rfl) rfl rfl (fun x wx hb hd => ?_) ?_
     ·have h3 : x 3 = .pointer (some (a.add (i * 3))) := hd 3 (by kernel_rfl)
      rw [h3]
      (go_simp; try rfl)
     refine StepsAt.val 5 (txt (wP nd)) rfl (fun _ _ => rfl) rfl rfl (fun x wx hb hd => ?_) ?_
     ·have h4 : x 4 = .pointer (some (a.add (i * 3))) := hd 4 (by kernel_rfl)
      obtain ⟨a9, hA9, cc0, cc1, cc2⟩ := (HRr.out.below hb).atWa i (by rw [HN.out]; exact hi2)
      obtain rfl : a = a9 := Option.some.inj hA9
      rw [HX.out] at cc0 cc1 cc2
      rw [h4]
      (go_simp; try rfl)
     refine StepsAt.cons 6 (fun _ _ _ h hb => h) (fun _ _ => rfl) rfl rfl (fun x wx hb hd K hK => ?_) ?_
     ·have h5 : Hid (x 5 = txt (wP nd)) := hd 5 (by kernel_rfl)
      go_simp
      refine calls_args (args2 := #[txt (wP nd)]) (by rw [h5.out]) ?_
      refine (rightIsU (wP nd) true HBB.out _).mono ?_
      rintro e w99 ⟨rfl, hb99⟩
      exact hK.out _ _ hb99 rfl
     refine StepsAt.val 7 (.bool false) rfl (fun _ _ => rfl) rfl rfl (fun x wx hb hd => ?_) ?_
     ·have h6 : x 6 = .bool true := hd 6 (by kernel_rfl)
      rw [h6]
      (go_simp; try rfl)
     refine StepsAt.val 8 (.bool false) rfl (fun _ _ => rfl) rfl rfl (fun x wx hb hd => ?_) ?_
     ·have h7 : x 7 = .bool false := hd 7 (by kernel_rfl)
      rw [h7]
      (go_simp; try rfl)
     refine StepsAt.valG 9 (.pointer (some ⟨g0, 0, none⟩)) rfl (fun _ _ => rfl) rfl (fun x wx hd => ?_) (fun x wx hb hd => ?_) ?_
     ·have hG : x 8 = .bool false := hd 8 (by kernel_rfl)
      simp [Region.wanted, yielded, hG]
     ·(go_simp; try rfl)
     refine StepsAt.valG 10 (.slice (some a) n cp) rfl (fun _ _ => rfl) rfl (fun x wx hd => ?_) (fun x wx hb hd => ?_) ?_
     ·have hG : x 8 = .bool false := hd 8 (by kernel_rfl)
      simp [Region.wanted, yielded, hG]
     ·have h9 : x 9 = .pointer (some ⟨g0, 0, none⟩) := hd 9 (by kernel_rfl)
      have cc := ((XG.out.below hb XG.out.lt).cell 0).trans (show _ = some (.slice (some a) n cp) from rfl)
      rw [h9]
      (go_simp; try rfl)
     refine StepsAt.valG 11 (.int IntKind.i64 ↑i) rfl (fun _ _ => rfl) rfl (fun x wx hd => ?_) (fun x wx hb hd => ?_) ?_
     ·have hG : x 8 = .bool false := hd 8 (by kernel_rfl)
      simp [Region.wanted, yielded, hG]
     ·(go_simp; try rfl)
     refine StepsAt.valG 12 (.pointer (some (a.add (i * 3)))) rfl (fun _ _ => rfl) rfl (fun x wx hd => ?_) (fun x wx hb hd => ?_) ?_
     ·have hG : x 8 = .bool false := hd 8 (by kernel_rfl)
      simp [Region.wanted, yielded, hG]
     ·have h10 : x 10 = .slice (some a) n cp := hd 10 (by kernel_rfl)
      have h11 : x 11 = .int IntKind.i64 ↑i := hd 11 (by kernel_rfl)
      rw [h10, h11]
      (go_simp; try rfl)
     refine StepsAt.valG 13 (.pointer (some ⟨(a.add (i * 3)).block, (a.add (i * 3)).off + 1, none⟩)) rfl (fun _ _ => rfl) rfl (fun x wx hd => ?_) (fun x wx hb hd => ?_) ?_
     ·have hG : x 8 = .bool false := hd 8 (by kernel_rfl)
      simp [Region.wanted, yielded, hG]
     ·have h12 : x 12 = .pointer (some (a.add (i * 3))) := hd 12 (by kernel_rfl)
      rw [h12]
      (go_simp; try rfl)
     refine StepsAt.valG 14 (.int .i64 (wC nd)) rfl (fun _ _ => rfl) rfl (fun x wx hd => ?_) (fun x wx hb hd => ?_) ?_
     ·have hG : x 8 = .bool false := hd 8 (by kernel_rfl)
      simp [Region.wanted, yielded, hG]
     ·have h13 : x 13 = .pointer (some ⟨(a.add (i * 3)).block, (a.add (i * 3)).off + 1, none⟩) := hd 13 (by kernel_rfl)
      obtain ⟨a9, hA9, cc0, cc1, cc2⟩ := (HRr.out.below hb).atWa i (by rw [HN.out]; exact hi2)
      obtain rfl : a = a9 := Option.some.inj hA9
      rw [HX.out] at cc0 cc1 cc2
      rw [h13]
      (go_simp; try rfl)
     refine StepsAt.valG 15 (.bool false) rfl (fun _ _ => rfl) rfl (fun x wx hd => ?_) (fun x wx hb hd => ?_) ?_
     ·have hG : x 8 = .bool false := hd 8 (by kernel_rfl)
      simp [Region.wanted, yielded, hG]
     ·have h14 : x 14 = .int .i64 (wC nd) := hd 14 (by kernel_rfl)
      rw [h14]
      (go_simp; try rfl)
     refine StepsAt.val 16 (.bool false) rfl (fun _ _ => rfl) rfl rfl (fun x wx hb hd => ?_) ?_
     ·have h8 : x 8 = .bool false := hd 8 (by kernel_rfl)
      have h15 : x 15 = .bool false := hd 15 (by kernel_rfl)
      rw [h8, h15]
      (go_simp; try rfl)
     refine StepsAt.val 17 (.bool false) rfl (fun _ _ => rfl) rfl rfl (fun x wx hb hd => ?_) ?_
     ·have h16 : x 16 = .bool false := hd 16 (by kernel_rfl)
      rw [h16]
      (go_simp; try rfl)
     refine StepsAt.valG 18 (.pointer (some ⟨g0, 0, none⟩)) rfl (fun _ _ => rfl) rfl (fun x wx hd => ?_) (fun x wx hb hd => ?_) ?_
     ·have hG : x 17 = .bool false := hd 17 (by kernel_rfl)
      simp [Region.wanted, yielded, hG]
     ·(go_simp; try rfl)
     refine StepsAt.valG 19 (.slice (some a) n cp) rfl (fun _ _ => rfl) rfl (fun x wx hd => ?_) (fun x wx hb hd => ?_) ?_
     ·have hG : x 17 = .bool false := hd 17 (by kernel_rfl)
      simp [Region.wanted, yielded, hG]
     ·have h18 : x 18 = .pointer (some ⟨g0, 0, none⟩) := hd 18 (by kernel_rfl)
      have cc := ((XG.out.below hb XG.out.lt).cell 0).trans (show _ = some (.slice (some a) n cp) from rfl)
      rw [h18]
      (go_simp; try rfl)
     refine StepsAt.valG 20 (.int IntKind.i64 ↑i) rfl (fun _ _ => rfl) rfl (fun x wx hd => ?_) (fun x wx hb hd => ?_) ?_
     ·have hG : x 17 = .bool false := hd 17 (by kernel_rfl)
      simp [Region.wanted, yielded, hG]
     ·(go_simp; try rfl)
     refine StepsAt.valG 21 (.slice (some a) i cp) rfl (fun _ _ => rfl) rfl (fun x wx hd => ?_) (fun x wx hb hd => ?_) ?_
     ·have hG : x 17 = .bool false := hd 17 (by kernel_rfl)
      simp [Region.wanted, yielded, hG]
     ·have h19 : x 19 = .slice (some a) n cp := hd 19 (by kernel_rfl)
      have h20 : x 20 = .int IntKind.i64 ↑i := hd 20 (by kernel_rfl)
      have z1 : ¬ cp < i := by omega
      have z2 : i ≤ cp := by omega
      have z3 : (i : Int) ≤ (cp : Int) := by omega
      rw [h19, h20]
      (go_simp; try rfl)
     refine StepsAt.valG 22 (.pointer (some ⟨g0, 0, none⟩)) rfl (fun _ _ => rfl) rfl (fun x wx hd => ?_) (fun x wx hb hd => ?_) ?_
     ·have hG : x 17 = .bool false := hd 17 (by kernel_rfl)
      simp [Region.wanted, yielded, hG]
     ·(go_simp; try rfl)
     refine StepsAt.valG 23 (.slice (some a) n cp) rfl (fun _ _ => rfl) rfl (fun x wx hd => ?_) (fun x wx hb hd => ?_) ?_
     ·have hG : x 17 = .bool false := hd 17 (by kernel_rfl)
      simp [Region.wanted, yielded, hG]
     ·have h22 : x 22 = .pointer (some ⟨g0, 0, none⟩) := hd 22 (by kernel_rfl)
      have cc := ((XG.out.below hb XG.out.lt).cell 0).trans (show _ = some (.slice (some a) n cp) from rfl)
      rw [h22]
      (go_simp; try rfl)
     refine StepsAt.valG 24 (.int IntKind.i64 ↑i) rfl (fun _ _ => rfl) rfl (fun x wx hd => ?_) (fun x wx hb hd => ?_) ?_
     ·have hG : x 17 = .bool false := hd 17 (by kernel_rfl)
      simp [Region.wanted, yielded, hG]
     ·(go_simp; try rfl)
     refine StepsAt.valG 25 (.pointer (some (a.add (i * 3)))) rfl (fun _ _ => rfl) rfl (fun x wx hd => ?_) (fun x wx hb hd => ?_) ?_
     ·have hG : x 17 = .bool false := hd 17 (by kernel_rfl)
      simp [Region.wanted, yielded, hG]
     ·have h23 : x 23 = .slice (some a) n cp := hd 23 (by kernel_rfl)
      have h24 : x 24 = .int IntKind.i64 ↑i := hd 24 (by kernel_rfl)
      rw [h23, h24]
      (go_simp; try rfl)
     refine StepsAt.valG 26 (.agg (wac nd).toArray) rfl (fun _ _ => rfl) rfl (fun x wx hd => ?_) (fun x wx hb hd => ?_) ?_
     ·have hG : x 17 = .bool false := hd 17 (by kernel_rfl)
      simp [Region.wanted, yielded, hG]
     ·have h25 : x 25 = .pointer (some (a.add (i * 3))) := hd 25 (by kernel_rfl)
      obtain ⟨a9, hA9, cc0, cc1, cc2⟩ := (HRr.out.below hb).atWa i (by rw [HN.out]; exact hi2)
      obtain rfl : a = a9 := Option.some.inj hA9
      rw [HX.out] at cc0 cc1 cc2
      rw [h25]
      (go_simp; try rfl)
     refine StepsAt.consG 27 (fun _ _ _ h hb => h) (fun _ _ => rfl) rfl (fun x wx hd => ?_) (fun x wx hb hd K hK => ?_) ?_
     ·have hG : x 17 = .bool false := hd 17 (by kernel_rfl)
      simp [Region.wanted, yielded, hG]
     ·have h21 : Hid (x 21 = .slice (some a) i cp) := hd 21 (by kernel_rfl)
      have h26 : Hid (x 26 = .agg (wac nd).toArray) := hd 26 (by kernel_rfl)
      go_simp
      refine calls_args (args2 := #[.slice (some a) i cp, .agg (wac nd).toArray]) (by rw [h21.out, h26.out]) ?_
      refine (hasIsW (l.take i) nd false HH.out _ _ ((HRr.out.below hb).more hb.size |>.take i (by omega))).mono ?_
      rintro e w99 ⟨rfl, hb99⟩
      exact hK.out _ _ hb99 rfl
     refine StepsAt.val 28 (.bool false) rfl (fun _ _ => rfl) rfl rfl (fun x wx hb hd => ?_) ?_
     ·have h17 : x 17 = .bool false := hd 17 (by kernel_rfl)
      have h27 : x 27 = .bool false := hd 27 (by kernel_rfl)
      rw [h17, h27]
      (go_simp; try rfl)
     exact StepsAt.done
    case fin =>
     intro x wx hb hd
     have hx0 : x 0 = .pointer (some ⟨g0, 0, none⟩) := hd 0 (by omega)
     have hx1 : x 1 = .slice (some a) n cp := hd 1 (by omega)
     have hx2 : x 2 = .int IntKind.i64 ↑i := hd 2 (by omega)
     have hx3 : x 3 = .pointer (some (a.add (i * 3))) := hd 3 (by omega)
     have hx4 : x 4 = .pointer (some (a.add (i * 3))) := hd 4 (by omega)
     have hx5 : x 5 = txt (wP nd) := hd 5 (by omega)
     have hx6 : x 6 = .bool true := hd 6 (by omega)
     have hx7 : x 7 = .bool false := hd 7 (by omega)
     have hx8 : x 8 = .bool false := hd 8 (by omega)
     have hx9 : x 9 = .pointer (some ⟨g0, 0, none⟩) := hd 9 (by omega)
     have hx10 : x 10 = .slice (some a) n cp := hd 10 (by omega)
     have hx11 : x 11 = .int IntKind.i64 ↑i := hd 11 (by omega)
     have hx12 : x 12 = .pointer (some (a.add (i * 3))) := hd 12 (by omega)
     have hx13 : x 13 = .pointer (some ⟨(a.add (i * 3)).block, (a.add (i * 3)).off + 1, none⟩) := hd 13 (by omega)
     have hx14 : x 14 = .int .i64 (wC nd) := hd 14 (by omega)
     have hx15 : x 15 = .bool false := hd 15 (by omega)
     have hx16 : x 16 = .bool false := hd 16 (by omega)
     have hx17 : x 17 = .bool false := hd 17 (by omega)
     have hx18 : x 18 = .pointer (some ⟨g0, 0, none⟩) := hd 18 (by omega)
     have hx19 : x 19 = .slice (some a) n cp := hd 19 (by omega)
     have hx20 : x 20 = .int IntKind.i64 ↑i := hd 20 (by omega)
     have hx21 : x 21 = .slice (some a) i cp := hd 21 (by omega)
     have hx22 : x 22 = .pointer (some ⟨g0, 0, none⟩) := hd 22 (by omega)
     have hx23 : x 23 = .slice (some a) n cp := hd 23 (by omega)
     have hx24 : x 24 = .int IntKind.i64 ↑i := hd 24 (by omega)
     have hx25 : x 25 = .pointer (some (a.add (i * 3))) := hd 25 (by omega)
     have hx26 : x 26 = .agg (wac nd).toArray := hd 26 (by omega)
     have hx27 : x 27 = .bool false := hd 27 (by omega)
     have hx28 : x 28 = .bool false := hd 28 (by omega)
     refine AnyTill.any (S := fun _ => True) (m := 29) _ _ _ _ ?_
     refine AnyTill.done (by kernel_rfl) ?_
     refine NoPanic.normal ?_
     try dsimp only
     rw [hx0, hx1, hx2, hx3, hx4, hx5, hx6, hx7, hx8, hx9, hx10, hx11, hx12, hx13, hx14, hx15, hx16, hx17, hx18, hx19, hx20, hx21, hx22, hx23, hx24, hx25, hx26, hx27, hx28]
     have HWx : Hid (Below w1.heap.size w1 wx) := HW.out.trans (hb.mono hwr)
     clear hd hb hx0 hx1 hx2 hx3 hx4 hx5 hx6 hx7 hx8 hx9 hx10 hx11 hx12 hx13 hx14 hx15 hx16 hx17 hx18 hx19 hx20 hx21 hx22 hx23 hx24 hx25 hx26 hx27 hx28
     go_wp2
     go_roundw
     case rel => exact ⟨i + 1, by omega, by go_num, HA2, HWx⟩
     case measure => simp [intOf]; omega
   ·have HF := lhd (okW_not l i (by rw [HN.out]; exact hi2) (by rw [HOK.out]; simp))
    refine wp_region_rely2 29 0 (fun x => ⟨#[.agg #[Value.slice (some a) n cp], .pointer (some { block := g0, off := 0 }), u2, .int IntKind.i64 ↑i, .int IntKind.i64 ↑i, .pointer (some { block := g0, off := 0 }), .slice (some a) n cp, .int IntKind.i64 ↑n, .bool true, u9, u10, x 0, x 1, x 2, x 3, x 4, x 5, x 6, x 7, x 8, x 9, x 10, x 11, x 12, x 13, x 14, x 15, x 16, x 17, x 18, x 19, x 20, x 21, x 22, x 23, x 24, x 25, x 26, x 27, x 28, undef, undef, undef, undef], []⟩) (fun jj => ([eqV (.pointer (some ⟨g0, 0, none⟩)), eqV (.slice (some a) n cp), eqV (.int IntKind.i64 ↑i), eqV (.pointer (some (a.add (i * 3)))), eqV (.pointer (some (a.add (i * 3)))), eqV (txt (wP nd)), (eqV (.bool true)), eqV (.bool false), eqV (.bool false), eqV (.pointer (some ⟨g0, 0, none⟩)), eqV (.slice (some a) n cp), eqV (.int IntKind.i64 ↑i), eqV (.pointer (some (a.add (i * 3)))), eqV (.pointer (some ⟨(a.add (i * 3)).block, (a.add (i * 3)).off + 1, none⟩)), eqV (.int .i64 (wC nd)), eqV (.bool false), eqV (.bool false), eqV (.bool false), eqV (.pointer (some ⟨g0, 0, none⟩)), eqV (.slice (some a) n cp), eqV (.int IntKind.i64 ↑i), eqV (.slice (some a) i cp), eqV (.pointer (some ⟨g0, 0, none⟩)), eqV (.slice (some a) n cp), eqV (.int IntKind.i64 ↑i), eqV (.pointer (some (a.add (i * 3)))), eqV (.agg (wac nd).toArray), (eqV (.bool true)), eqV (.bool true)] : List (Value → World → Prop)).getD jj (fun _ _ => True)) rfl ⟨fun kk => [_, _, _, _, _, _, _, _, _, _, _, _, _, _, _, _, _, _, _, _, _, _, _, _, _, _, _, _, _].getD kk undef, rfl⟩ (by kernel_rfl) (by kernel_rfl) ?steps ?fin
    case steps =>
     refine StepsAt.val 0 (.pointer (some ⟨g0, 0, none⟩)) rfl (fun _ _ => rfl) rfl rfl (fun x wx hb hd => ?_) ?_
     ·(go_simp; try rfl)
     refine StepsAt.val 1 (.slice (some a) n cp) rfl (fun _ _ => rfl) rfl rfl (fun x wx hb hd => ?_) ?_
     ·have h0 : x 0 = .pointer (some ⟨g0, 0, none⟩) := hd 0 (by kernel_rfl)
      have cc := ((XG.out.below hb XG.out.lt).cell 0).trans (show _ = some (.slice (some a) n cp) from rfl)
      rw [h0]
      (go_simp; try rfl)
     refine StepsAt.val 2 (.int IntKind.i64 ↑i) rfl (fun _ _ => rfl) rfl rfl (fun x wx hb hd => ?_) ?_
     ·(go_simp; try rfl)
     refine StepsAt.val 3 (.pointer (some (a.add (i * 3)))) rfl (fun _ _ => rfl) rfl rfl (fun x wx hb hd => ?_) ?_
     ·have h1 : x 1 = .slice (some a) n cp := hd 1 (by kernel_rfl)
      have h2 : x 2 = .int IntKind.i64 ↑i := hd 2 (by kernel_rfl)
      rw [h1, h2]
      (go_simp; try rfl)
     refine StepsAt.val 4 (.pointer (some (a.add (i * 3)))) rfl (fun _ _ => rfl) rfl rfl (fun x wx hb hd => ?_) ?_
     ·have h3 : x 3 = .pointer (some (a.add (i * 3))) := hd 3 (by kernel_rfl)
      rw [h3]
      (go_simp; try rfl)
     refine StepsAt.val 5 (txt (wP nd)) rfl (fun _ _ => rfl) rfl rfl (fun x wx hb hd => ?_) ?_
     ·have h4 : x 4 = .pointer (some (a.add (i * 3))) := hd 4 (by kernel_rfl)
      obtain ⟨a9, hA9, cc0, cc1, cc2⟩ := (HRr.out.below hb).atWa i (by rw [HN.out]; exact hi2)
      obtain rfl : a = a9 := Option.some.inj hA9
      rw [HX.out] at cc0 cc1 cc2
      rw [h4]
      (go_simp; try rfl)
     refine StepsAt.cons 6 (fun _ _ _ h hb => h) (fun _ _ => rfl) rfl rfl (fun x wx hb hd K hK => ?_) ?_
     ·have h5 : Hid (x 5 = txt (wP nd)) := hd 5 (by kernel_rfl)
      go_simp
      refine calls_args (args2 := #[txt (wP nd)]) (by rw [h5.out]) ?_
      refine (rightIsU (wP nd) true HBB.out _).mono ?_
      rintro e w99 ⟨rfl, hb99⟩
      exact hK.out _ _ hb99 rfl
     refine StepsAt.val 7 (.bool false) rfl (fun _ _ => rfl) rfl rfl (fun x wx hb hd => ?_) ?_
     ·have h6 : x 6 = .bool true := hd 6 (by kernel_rfl)
      rw [h6]
      (go_simp; try rfl)
     refine StepsAt.val 8 (.bool false) rfl (fun _ _ => rfl) rfl rfl (fun x wx hb hd => ?_) ?_
     ·have h7 : x 7 = .bool false := hd 7 (by kernel_rfl)
      rw [h7]
      (go_simp; try rfl)
     refine StepsAt.valG 9 (.pointer (some ⟨g0, 0, none⟩)) rfl (fun _ _ => rfl) rfl (fun x wx hd => ?_) (fun x wx hb hd => ?_) ?_
     ·have hG : x 8 = .bool false := hd 8 (by kernel_rfl)
      simp [Region.wanted, yielded, hG]
     ·(go_simp; try rfl)
     refine StepsAt.valG 10 (.slice (some a) n cp) rfl (fun _ _ => rfl) rfl (fun x wx hd => ?_) (fun x wx hb hd => ?_) ?_
     ·have hG : x 8 = .bool false := hd 8 (by kernel_rfl)
      simp [Region.wanted, yielded, hG]
     ·have h9 : x 9 = .pointer (some ⟨g0, 0, none⟩) := hd 9 (by kernel_rfl)
      have cc := ((XG.out.below hb XG.out.lt).cell 0).trans (show _ = some (.slice (some a) n cp) from rfl)
      rw [h9]
      (go_simp; try rfl)
     refine StepsAt.valG 11 (.int IntKind.i64 ↑i) rfl (fun _ _ => rfl) rfl (fun x wx hd => ?_) (fun x wx hb hd => ?_) ?_
     ·have hG : x 8 = .bool false := hd 8 (by kernel_rfl)
      simp [Region.wanted, yielded, hG]
     ·(go_simp; try rfl)
     refine StepsAt.valG 12 (.pointer (some (a.add (i * 3)))) rfl (fun _ _ => rfl) rfl (fun x wx hd => ?_) (fun x wx hb hd => ?_) ?_
     ·have hG : x 8 = .bool false := hd 8 (by kernel_rfl)
      simp [Region.wanted, yielded, hG]
     ·have h10 : x 10 = .slice (some a) n cp := hd 10 (by kernel_rfl)
      have h11 : x 11 = .int IntKind.i64 ↑i := hd 11 (by kernel_rfl)
      rw [h10, h11]
      (go_simp; try rfl)
     refine StepsAt.valG 13 (.pointer (some ⟨(a.add (i * 3)).block, (a.add (i * 3)).off + 1, none⟩)) rfl (fun _ _ => rfl) rfl (fun x wx hd => ?_) (fun x wx hb hd => ?_) ?_
     ·have hG : x 8 = .bool false := hd 8 (by kernel_rfl)
      simp [Region.wanted, yielded, hG]
     ·have h12 : x 12 = .pointer (some (a.add (i * 3))) := hd 12 (by kernel_rfl)
      rw [h12]
      (go_simp; try rfl)
     refine StepsAt.valG 14 (.int .i64 (wC nd)) rfl (fun _ _ => rfl) rfl (fun x wx hd => ?_) (fun x wx hb hd => ?_) ?_
     ·have hG : x 8 = .bool false := hd 8 (by kernel_rfl)
      simp [Region.wanted, yielded, hG]
     ·have h13 : x 13 = .pointer (some ⟨(a.add (i * 3)).block, (a.add (i * 3)).off + 1, none⟩) := hd 13 (by kernel_rfl)
      obtain ⟨a9, hA9, cc0, cc1, cc2⟩ := (HRr.out.below hb).atWa i (by rw [HN.out]; exact hi2)
      obtain rfl : a = a9 := Option.some.inj hA9
      rw [HX.out] at cc0 cc1 cc2
      rw [h13]
      (go_simp; try rfl)
     refine StepsAt.valG 15 (.bool false) rfl (fun _ _ => rfl) rfl (fun x wx hd => ?_) (fun x wx hb hd => ?_) ?_
     ·have hG : x 8 = .bool false := hd 8 (by kernel_rfl)
      simp [Region.wanted, yielded, hG]
     ·have h14 : x 14 = .int .i64 (wC nd) := hd 14 (by kernel_rfl)
      rw [h14]
      (go_simp; try rfl)
     refine StepsAt.val 16 (.bool false) rfl (fun _ _ => rfl) rfl rfl (fun x wx hb hd => ?_) ?_
     ·have h8 : x 8 = .bool false := hd 8 (by kernel_rfl)
      have h15 : x 15 = .bool false := hd 15 (by kernel_rfl)
      rw [h8, h15]
      (go_simp; try rfl)
     refine StepsAt.val 17 (.bool false) rfl (fun _ _ => rfl) rfl rfl (fun x wx hb hd => ?_) ?_
     ·have h16 : x 16 = .bool false := hd 16 (by kernel_rfl)
      rw [h16]
      (go_simp; try rfl)
     refine StepsAt.valG 18 (.pointer (some ⟨g0, 0, none⟩)) rfl (fun _ _ => rfl) rfl (fun x wx hd => ?_) (fun x wx hb hd => ?_) ?_
     ·have hG : x 17 = .bool false := hd 17 (by kernel_rfl)
      simp [Region.wanted, yielded, hG]
     ·(go_simp; try rfl)
     refine StepsAt.valG 19 (.slice (some a) n cp) rfl (fun _ _ => rfl) rfl (fun x wx hd => ?_) (fun x wx hb hd => ?_) ?_
     ·have hG : x 17 = .bool false := hd 17 (by kernel_rfl)
      simp [Region.wanted, yielded, hG]
     ·have h18 : x 18 = .pointer (some ⟨g0, 0, none⟩) := hd 18 (by kernel_rfl)
      have cc := ((XG.out.below hb XG.out.lt).cell 0).trans (show _ = some (.slice (some a) n cp) from rfl)
      rw [h18]
      (go_simp; try rfl)
     refine StepsAt.valG 20 (.int IntKind.i64 ↑i) rfl (fun _ _ => rfl) rfl (fun x wx hd => ?_) (fun x wx hb hd => ?_) ?_
     ·have hG : x 17 = .bool false := hd 17 (by kernel_rfl)
      simp [Region.wanted, yielded, hG]
     ·(go_simp; try rfl)
     refine StepsAt.valG 21 (.slice (some a) i cp) rfl (fun _ _ => rfl) rfl (fun x wx hd => ?_) (fun x wx hb hd => ?_) ?_
     ·have hG : x 17 = .bool false := hd 17 (by kernel_rfl)
      simp [Region.wanted, yielded, hG]
     ·have h19 : x 19 = .slice (some a) n cp := hd 19 (by kernel_rfl)
      have h20 : x 20 = .int IntKind.i64 ↑i := hd 20 (by kernel_rfl)
      have z1 : ¬ cp < i := by omega
      have z2 : i ≤ cp := by omega
      have z3 : (i : Int) ≤ (cp : Int) := by omega
      rw [h19, h20]
      (go_simp; try rfl)
     refine StepsAt.valG 22 (.pointer (some ⟨g0, 0, none⟩)) rfl (fun _ _ => rfl) rfl (fun x wx hd => ?_) (fun x wx hb hd => ?_) ?_
     ·have hG : x 17 = .bool false := hd 17 (by kernel_rfl)
      simp [Region.wanted, yielded, hG]
     ·(go_simp; try rfl)
     refine StepsAt.valG 23 (.slice (some a) n cp) rfl (fun _ _ => rfl) rfl (fun x wx hd => ?_) (fun x wx hb hd => ?_) ?_
     ·have hG : x 17 = .bool false := hd 17 (by kernel_rfl)
      simp [Region.wanted, yielded, hG]
     ·have h22 : x 22 = .pointer (some ⟨g0, 0, none⟩) := hd 22 (by kernel_rfl)
      have cc := ((XG.out.below hb XG.out.lt).cell 0).trans (show _ = some (.slice (some a) n cp) from rfl)
      rw [h22]
      (go_simp; try rfl)
     refine StepsAt.valG 24 (.int IntKind.i64 ↑i) rfl (fun _ _ => rfl) rfl (fun x wx hd => ?_) (fun x wx hb hd => ?_) ?_
     ·have hG : x 17 = .bool false := hd 17 (by kernel_rfl)
      simp [Region.wanted, yielded, hG]
     ·(go_simp; try rfl)
     refine StepsAt.valG 25 (.pointer (some (a.add (i * 3)))) rfl (fun _ _ => rfl) rfl (fun x wx hd => ?_) (fun x wx hb hd => ?_) ?_
     ·have hG : x 17 = .bool false := hd 17 (by kernel_rfl)
      simp [Region.wanted, yielded, hG]
     ·have h23 : x 23 = .slice (some a) n cp := hd 23 (by kernel_rfl)
      have h24 : x 24 = .int IntKind.i64 ↑i := hd 24 (by kernel_rfl)
      rw [h23, h24]
      (go_simp; try rfl)
     refine StepsAt.valG 26 (.agg (wac nd).toArray) rfl (fun _ _ => rfl) rfl (fun x wx hd => ?_) (fun x wx hb hd => ?_) ?_
     ·have hG : x 17 = .bool false := hd 17 (by kernel_rfl)
      simp [Region.wanted, yielded, hG]
     ·have h25 : x 25 = .pointer (some (a.add (i * 3))) := hd 25 (by kernel_rfl)
      obtain ⟨a9, hA9, cc0, cc1, cc2⟩ := (HRr.out.below hb).atWa i (by rw [HN.out]; exact hi2)
      obtain rfl : a = a9 := Option.some.inj hA9
      rw [HX.out] at cc0 cc1 cc2
      rw [h25]
      (go_simp; try rfl)
     refine StepsAt.consG 27 (fun _ _ _ h hb => h) (fun _ _ => rfl) rfl (fun x wx hd => ?_) (fun x wx hb hd K hK => ?_) ?_
     ·have hG : x 17 = .bool false := hd 17 (by kernel_rfl)
      simp [Region.wanted, yielded, hG]
     ·have h21 : Hid (x 21 = .slice (some a) i cp) := hd 21 (by kernel_rfl)
      have h26 : Hid (x 26 = .agg (wac nd).toArray) := hd 26 (by kernel_rfl)
      go_simp
      refine calls_args (args2 := #[.slice (some a) i cp, .agg (wac nd).toArray]) (by rw [h21.out, h26.out]) ?_
      refine (hasIsW (l.take i) nd true HH.out _ _ ((HRr.out.below hb).more hb.size |>.take i (by omega))).mono ?_
      rintro e w99 ⟨rfl, hb99⟩
      exact hK.out _ _ hb99 rfl
     refine StepsAt.val 28 (.bool true) rfl (fun _ _ => rfl) rfl rfl (fun x wx hb hd => ?_) ?_
     ·have h17 : x 17 = .bool false := hd 17 (by kernel_rfl)
      have h27 : x 27 = .bool true := hd 27 (by kernel_rfl)
      rw [h17, h27]
      (go_simp; try rfl)
     exact StepsAt.done
    case fin =>
     intro x wx hb hd
     have hx0 : x 0 = .pointer (some ⟨g0, 0, none⟩) := hd 0 (by omega)
     have hx1 : x 1 = .slice (some a) n cp := hd 1 (by omega)
     have hx2 : x 2 = .int IntKind.i64 ↑i := hd 2 (by omega)
     have hx3 : x 3 = .pointer (some (a.add (i * 3))) := hd 3 (by omega)
     have hx4 : x 4 = .pointer (some (a.add (i * 3))) := hd 4 (by omega)
     have hx5 : x 5 = txt (wP nd) := hd 5 (by omega)
     have hx6 : x 6 = .bool true := hd 6 (by omega)
     have hx7 : x 7 = .bool false := hd 7 (by omega)
     have hx8 : x 8 = .bool false := hd 8 (by omega)
     have hx9 : x 9 = .pointer (some ⟨g0, 0, none⟩) := hd 9 (by omega)
     have hx10 : x 10 = .slice (some a) n cp := hd 10 (by omega)
     have hx11 : x 11 = .int IntKind.i64 ↑i := hd 11 (by omega)
     have hx12 : x 12 = .pointer (some (a.add (i * 3))) := hd 12 (by omega)
     have hx13 : x 13 = .pointer (some ⟨(a.add (i * 3)).block, (a.add (i * 3)).off + 1, none⟩) := hd 13 (by omega)
     have hx14 : x 14 = .int .i64 (wC nd) := hd 14 (by omega)
     have hx15 : x 15 = .bool false := hd 15 (by omega)
     have hx16 : x 16 = .bool false := hd 16 (by omega)
     have hx17 : x 17 = .bool false := hd 17 (by omega)
     have hx18 : x 18 = .pointer (some ⟨g0, 0, none⟩) := hd 18 (by omega)
     have hx19 : x 19 = .slice (some a) n cp := hd 19 (by omega)
     have hx20 : x 20 = .int IntKind.i64 ↑i := hd 20 (by omega)
     have hx21 : x 21 = .slice (some a) i cp := hd 21 (by omega)
     have hx22 : x 22 = .pointer (some ⟨g0, 0, none⟩) := hd 22 (by omega)
     have hx23 : x 23 = .slice (some a) n cp := hd 23 (by omega)
     have hx24 : x 24 = .int IntKind.i64 ↑i := hd 24 (by omega)
     have hx25 : x 25 = .pointer (some (a.add (i * 3))) := hd 25 (by omega)
     have hx26 : x 26 = .agg (wac nd).toArray := hd 26 (by omega)
     have hx27 : x 27 = .bool true := hd 27 (by omega)
     have hx28 : x 28 = .bool true := hd 28 (by omega)
     refine AnyTill.any (S := fun _ => True) (m := 29) _ _ _ _ ?_
     refine AnyTill.done (by kernel_rfl) ?_
     refine NoPanic.normal ?_
     try dsimp only
     rw [hx0, hx1, hx2, hx3, hx4, hx5, hx6, hx7, hx8, hx9, hx10, hx11, hx12, hx13, hx14, hx15, hx16, hx17, hx18, hx19, hx20, hx21, hx22, hx23, hx24, hx25, hx26, hx27, hx28]
     have HWx : Hid (Below w1.heap.size w1 wx) := HW.out.trans (hb.mono hwr)
     clear hd hb hx0 hx1 hx2 hx3 hx4 hx5 hx6 hx7 hx8 hx9 hx10 hx11 hx12 hx13 hx14 hx15 hx16 hx17 hx18 hx19 hx20 hx21 hx22 hx23 hx24 hx25 hx26 hx27 hx28
     go_wp2
     go_ret
     exact ⟨by rw [HF.out]; rfl, HB.out.trans (HWx.out.mono hw1)⟩
  ·have hE : i = n := by omega
   subst hE
   have HF := lhd (rightW_end l (by rw [HN.out]; exact HA.out))
   rw [HN.out] at HF
   by_cases hn2 : (i : Int) ≤ 200
   ·have HF2 : Hid (rightW l = true) := by show _ = _; rw [HF.out, decide_eq_true (by omega)]
    go_wp2
    go_ret
    exact ⟨by rw [HF2.out]; rfl, HB.out.trans (HW.out.mono hw1)⟩
   ·have HF2 : Hid (rightW l = false) := by show _ = _; rw [HF.out, decide_eq_false (by omega)]
    go_wp2
    go_ret
    exact ⟨by rw [HF2.out]; rfl, HB.out.trans (HW.out.mono hw1)⟩
end Go.Proofs.YtdihngkdhanhkaaGreatDoor
