/-
  Texts NX.
-/
import Derived.Test.YtgfobinklijkpaaGreatDoorX01
import Derived.Test.YtgfobinklijkpaaGreatDoorX15
namespace Go.Proofs.YtgfobinklijkpaaGreatDoor
set_option maxRecDepth 100000
set_option maxHeartbeats 16000000
open Go.RowKit
theorem zeroPt : (Tryz.prog.info? 139).map (·.zero) = some (some (.agg [Value.slice none 0 0, .int .i64 0].toArray)) := by kernel_rfl
theorem szPt : (Tryz.prog.info? 139).map (·.size) = some 2 := by kernel_rfl
theorem pt_all (A : Option Addr) (n c : Nat) : [Value.slice A n c, .int .i64 0].toArray.all (·.oneCell') = true := by
 rw [Array.all_eq_true_iff_forall_mem]
 intro v hv
 simp at hv
 rcases hv with rfl | rfl <;> rfl
def KeepT (g n : Nat) (t : TypeId) (w0 w : World) : Prop := (∀ k, k < w0.heap.size → k ≠ g → w.heap[k]? = w0.heap[k]?) ∧ w0.heap.size ≤ w.heap.size ∧ Below g w0 w ∧ ∃ cs, cs.length = n ∧ Blk w g cs t
theorem KeepT.start {g n : Nat} {t : TypeId} {w0 : World} {cs : List Value} (h : Blk w0 g cs t) (hn : cs.length = n) : KeepT g n t w0 w0.drew := ⟨fun _ _ _ => rfl, Nat.le_refl _, (Below.refl _ _).drew, cs, hn, h.drew⟩
theorem KeepT.store {g n : Nat} {t : TypeId} {w0 w w' : World} {cs : List Value} (h : KeepT g n t w0 w) (e1 : Blk w' g cs t) (e2 : w'.heap.size = w.heap.size) (e3 : Below g w w') (e4 : ∀ k, k ≠ g → w'.heap[k]? = w.heap[k]?) (hn : cs.length = n) : KeepT g n t w0 w' :=
 ⟨fun k hk hne => (e4 k hne).trans (h.1 k hk hne), by rw [e2]; exact h.2.1, h.2.2.1.trans e3, cs, hn, e1⟩
theorem KeepT.blk {g n : Nat} {t : TypeId} {w0 w : World} (h : KeepT g n t w0 w) {q : Nat} {cs : List Value} {u : TypeId} (hb : Blk w0 q cs u) (hq : q ≠ g) : Blk w q cs u := hb.same (h.1 q hb.lt hq)
theorem KeepT.own {g n : Nat} {t : TypeId} {w0 w : World} (h : KeepT g n t w0 w) {e : TypeId} {base s k : Nat} {v : Value} {xs : List Value} (ho : w0.ownsRow base e s v k xs) (hg : g < base) : w.ownsRow base e s v k xs := by
 refine ⟨ho.1, ?_⟩
 rcases ho.2 with hn | ⟨q, cap, cur, rfl, hg0, hg', r⟩
 ·exact .inl hn
 ·exact .inr ⟨q, cap, cur, rfl, hg0, by rw [h.1 q (Array.getElem?_eq_some_iff.1 hg').1 (by omega)]; exact hg', r⟩
theorem partN_first (g : Nat) (v : Value) (l : List UInt8) (w : World) (hg : Blk w g [v, .int .i64 0] 139) (hr : Rd w.heap.size w v l) (hl : l.length ≤ 1000000) :
 Calls Tryz.prog 75 #[.pointer (some ⟨g, 0, none⟩)] w (fun e w' => e = .returned (.int .i64 (stN (l, 0)).1) ∧ PSt g (stN (l, 0)).2 w' ∧ Below g w w') := by
 refine (partN_zero g v l w hg hr hl).mono ?_
 rintro e w' ⟨v', rfl, hx, ho, hb⟩
 unfold stN
 rw [if_pos rfl]
 exact ⟨rfl, ⟨v', hx, ho⟩, hb⟩
def TookW (r : Or × List UInt8 × Nat) (w : World) (e : Ending) (w' : World) : Prop :=
 ∃ vr, e = .returned (.tuple #[.agg (orc r.1).toArray, vr, .int .i64 (r.2.2 : Int)]) ∧ Own 5 w' w.heap.size vr r.2.1 ∧ Below w.heap.size w w'
set_option maxRecDepth 1000000 in
theorem orTake_own (v : Value) (l : List UInt8) (w : World) (hr : Rd w.heap.size w v l) (hl : l.length ≤ 1000000) : Calls Tryz.prog 37 #[v] w (TookW (takeO l) w) := by
 have HL := lhd hl
 clear hl
 obtain ⟨d30, hu30, hd30⟩ := rowOrP
 have HU := lhd hu30
 have HD := lhd hd30
 obtain ⟨A, c, rfl, -, -⟩ := hr.shape
 have HR := lhd hr
 clear hr hu30 hd30
 go_enter Tryz.func37, Tryz.ntmps37
 go_wp2_with (refine wpList_alloc_blk rfl 86 rfl (orc or0) zeroOrP ?_)
 intro w1 a1 a2 a3
 obtain ⟨g, hg⟩ : ∃ g, w.heap.size = g := ⟨_, rfl⟩
 have X0 := lhd a1
 have E1 := lhd a3
 have hg1 : g < w1.heap.size := by omega
 have HG := lhd hg
 rw [hg] at X0 E1 HR ⊢
 clear a1 a2 a3 hg
 go_wp2_with (refine wpList_alloc_blk rfl 139 rfl [.slice none 0 0, .int .i64 0] zeroPt ?_)
 intro w2 a1 a2 a3
 obtain ⟨gp, hgp⟩ : ∃ g, w1.heap.size = g := ⟨_, rfl⟩
 have AA := lhd a1
 have A3 := lhd a3
 rw [hgp] at AA A3 hg1 ⊢
 clear a1 a2 a3 hgp
 go_wp2_with (refine wpList_store_to rfl 139 _ _ rfl gp [.slice A l.length c, .int .i64 0] [.slice none 0 0, .int .i64 0] 139 rfl rfl AA.out szPt rfl (pt_all _ _ _) ?_)
 intro w3 e1 e2 e3 e4
 have XP := lhd e1
 have E3 := lhd (E1.out.trans ((A3.out.trans e3).mono (Nat.le_of_lt hg1)))
 have X0 := lhd (X0.out.below (A3.out.trans e3) hg1)
 have hx3 := XP.out.lt
 have HR3 := lhd ((HR.out.below E3.out).more (show w3.heap.size ≥ g by omega))
 clear hx3
 have hne6' : gp ≠ g := by omega
 have hnep : gp ≠ g := hne6'
 clear e1 e2 e3 e4 AA A3 HR E1
 go_wp2_with fail
 refine (partN_first gp (.slice A l.length c) l w3 XP.out HR3.out HL.out).mono ?_
 rintro e v0 ⟨rfl, hp, hb⟩
 obtain ⟨n0, s1, h9⟩ : ∃ a b, stN (l, 0) = (a, b) := ⟨_, _, rfl⟩
 have hl9 := stN_len (l, 0)
 rw [h9] at hl9
 rw [h9] at hp ⊢
 dsimp only at hp ⊢
 have HT0 := lhd h9
 have HL1 : Hid (s1.1.length ≤ 1000000) := Nat.le_trans hl9 HL.out
 have HP' := lhd hp
 have Ev0 := lhd (E3.out.trans (hb.mono (Nat.le_of_lt hg1)))
 have X0 := lhd (X0.out.below hb hg1)
 clear hp hb h9 hl9 E3 XP HR3
 have HP := HP'
 clear HP'
 go_wp2_with fail
 refine (partN_any gp s1 v0 HP.out HL1.out).mono ?_
 rintro e v1 ⟨rfl, hp, hb⟩
 obtain ⟨n1, s2, h9⟩ : ∃ a b, stN s1 = (a, b) := ⟨_, _, rfl⟩
 have hl9 := stN_len s1
 rw [h9] at hl9
 rw [h9] at hp ⊢
 dsimp only at hp ⊢
 have HT1 := lhd h9
 have HL2 : Hid (s2.1.length ≤ 1000000) := Nat.le_trans hl9 HL1.out
 have HP' := lhd hp
 have Ev1 := lhd (Ev0.out.trans (hb.mono (Nat.le_of_lt hg1)))
 have X0 := lhd (X0.out.below hb hg1)
 clear hp hb h9 hl9 Ev0 HP
 have HP := HP'
 clear HP'
 go_wp2_with fail
 refine (partN_any gp s2 v1 HP.out HL2.out).mono ?_
 rintro e v2 ⟨rfl, hp, hb⟩
 obtain ⟨n2, s3, h9⟩ : ∃ a b, stN s2 = (a, b) := ⟨_, _, rfl⟩
 have hl9 := stN_len s2
 rw [h9] at hl9
 rw [h9] at hp ⊢
 dsimp only at hp ⊢
 have HT2 := lhd h9
 have HL3 : Hid (s3.1.length ≤ 1000000) := Nat.le_trans hl9 HL2.out
 have HP' := lhd hp
 have Ev2 := lhd (Ev1.out.trans (hb.mono (Nat.le_of_lt hg1)))
 have X0 := lhd (X0.out.below hb hg1)
 clear hp hb h9 hl9 Ev1 HP
 have HP := HP'
 clear HP'
 go_wp2_with fail
 refine (partN_any gp s3 v2 HP.out HL3.out).mono ?_
 rintro e v3 ⟨rfl, hp, hb⟩
 obtain ⟨n3, s4, h9⟩ : ∃ a b, stN s3 = (a, b) := ⟨_, _, rfl⟩
 have hl9 := stN_len s3
 rw [h9] at hl9
 rw [h9] at hp ⊢
 dsimp only at hp ⊢
 have HT3 := lhd h9
 have HL4 : Hid (s4.1.length ≤ 1000000) := Nat.le_trans hl9 HL3.out
 have HP' := lhd hp
 have Ev3 := lhd (Ev2.out.trans (hb.mono (Nat.le_of_lt hg1)))
 have X0 := lhd (X0.out.below hb hg1)
 clear hp hb h9 hl9 Ev2 HP
 have HP := HP'
 clear HP'
 go_wp2_with fail
 refine (partN_any gp s4 v3 HP.out HL4.out).mono ?_
 rintro e v4 ⟨rfl, hp, hb⟩
 obtain ⟨n4, s5, h9⟩ : ∃ a b, stN s4 = (a, b) := ⟨_, _, rfl⟩
 have hl9 := stN_len s4
 rw [h9] at hl9
 rw [h9] at hp ⊢
 dsimp only at hp ⊢
 have HT4 := lhd h9
 have HL5 : Hid (s5.1.length ≤ 1000000) := Nat.le_trans hl9 HL4.out
 have HP' := lhd hp
 have Ev4 := lhd (Ev3.out.trans (hb.mono (Nat.le_of_lt hg1)))
 have X0 := lhd (X0.out.below hb hg1)
 clear hp hb h9 hl9 Ev3 HP
 have HP := HP'
 clear HP'
 go_wp2_with fail
 refine (partN_any gp s5 v4 HP.out HL5.out).mono ?_
 rintro e v5 ⟨rfl, hp, hb⟩
 obtain ⟨n5, s6, h9⟩ : ∃ a b, stN s5 = (a, b) := ⟨_, _, rfl⟩
 have hl9 := stN_len s5
 rw [h9] at hl9
 rw [h9] at hp ⊢
 dsimp only at hp ⊢
 have HT5 := lhd h9
 have HL6 : Hid (s6.1.length ≤ 1000000) := Nat.le_trans hl9 HL5.out
 have HP' := lhd hp
 have Ev5 := lhd (Ev4.out.trans (hb.mono (Nat.le_of_lt hg1)))
 have X0 := lhd (X0.out.below hb hg1)
 clear hp hb h9 hl9 Ev4 HP
 have HP := HP'
 clear HP'
 go_wp2_with fail
 refine (partS_any gp s6 100 (by omega) (by omega) v5 HP.out HL6.out).mono ?_
 rintro e v6 ⟨rfl, hp, hb⟩
 obtain ⟨p6, s7, h9⟩ : ∃ a b, stS 100 s6 = (a, b) := ⟨_, _, rfl⟩
 have hl9 := stS_len 100 s6
 rw [h9] at hl9
 rw [h9] at hp ⊢
 dsimp only at hp ⊢
 have HT6 := lhd h9
 have HL7 : Hid (s7.1.length ≤ 1000000) := Nat.le_trans hl9 HL6.out
 have HP' := lhd hp
 have Ev6 := lhd (Ev5.out.trans (hb.mono (Nat.le_of_lt hg1)))
 have X0 := lhd (X0.out.below hb hg1)
 clear hp hb h9 hl9 Ev5 HP
 have HP := HP'
 clear HP'
 go_wp2_with fail
 refine (partS_any gp s7 1000 (by omega) (by omega) v6 HP.out HL7.out).mono ?_
 rintro e v7 ⟨rfl, hp, hb⟩
 obtain ⟨p7, s8, h9⟩ : ∃ a b, stS 1000 s7 = (a, b) := ⟨_, _, rfl⟩
 rw [h9] at hp ⊢
 dsimp only at hp ⊢
 have HT7 := lhd h9
 have HP' := lhd hp
 have Ev7 := lhd (Ev6.out.trans (hb.mono (Nat.le_of_lt hg1)))
 have X0 := lhd (X0.out.below hb hg1)
 clear hp hb h9 Ev6 HP
 have HP := HP'
 clear HP'
 obtain ⟨vP, hP1, hP2⟩ := HP.out
 obtain ⟨rP, fP⟩ := s8
 dsimp only at hP1 hP2
 obtain ⟨AP, nP, cP, rfl⟩ := hP2.isSlice
 have XP := lhd hP1
 have HO := lhd hP2
 clear hP1 hP2 HP
 have HF := lhd (takeO_st l (ns := [n0, n1, n2, n3, n4, n5]) (by simp only [numsOf, HT0.out, HT1.out, HT2.out, HT3.out, HT4.out, HT5.out]) HT6.out HT7.out)
 change Hid (takeO l = if fP ≠ 0 then (or0, [], fP) else if mayO (n0, n1, n2, p6, p7, n3, n4, n5) = true then ((n0, n1, n2, p6, p7, n3, n4, n5), rP, 0) else (or0, [], 3)) at HF
 clear HT0 HT1 HT2 HT3 HT4 HT5 HT6 HT7 HL1 HL2 HL3 HL4 HL5 HL6 HL7
 go_wp2_with (refine wpList_alloc_blk rfl 86 rfl (orc or0) zeroOrP ?_)
 intro u1 a1 a2 a3
 obtain ⟨g6, hg6⟩ : ∃ g, v7.heap.size = g := ⟨_, rfl⟩
 have AA := lhd a1
 have A3 := lhd a3
 have hgp6 : gp < g6 := by rw [← hg6]; exact XP.out.lt
 have hs6 := lhd (Nat.le_of_eq hg6)
 rw [hg6] at AA A3 ⊢
 clear a1 a2 a3 hg6
 go_wp2_with (refine wpList_store_to rfl 86 _ _ rfl g6 (orc (n0, n1, n2, p6, p7, n3, n4, n5)) (orc or0) 86 rfl rfl AA.out szOrP rfl (orc_all _) ?_)
 intro u2 e1 e2 e3 e4
 have X6 := lhd e1
 have hb := A3.out.trans e3
 have XP := lhd (XP.out.below hb hgp6)
 have X0 := lhd (X0.out.below hb (by omega))
 have HO := lhd (HO.out.below hb hs6.out)
 have E := lhd (Ev7.out.trans (hb.mono (by omega)))
 have hne6 : g6 ≠ g := by omega
 clear e1 e2 e3 e4 AA A3 hb Ev7 hs6
 obtain ⟨OO, hOO⟩ : ∃ o : Or, (n0, n1, n2, p6, p7, n3, n4, n5) = o := ⟨_, rfl⟩
 rw [hOO] at X6 HF
 clear hOO
 have cp1 := XP.out.at_ 1 _ rfl
 by_cases hf : fP = 0
 case neg =>
  have hz : ((fP : Int) == 0) = false := by rw [beq_eq_false_iff_ne]; omega
  have hz2 : ((fP : Int) != 0) = true := by rw [bne_iff_ne]; omega
  rw [if_pos hf] at HF
  clear hf
  go_wp2
  have hst := lhd (KeepT.start (n := 8) X0.out rfl)
  refine wp_region_relyY (KeepT g 8 86 u2) hst.out [] [3] (fun _ _ _ _ => True) (fun k => [undef, undef, undef, undef, .slice none 0 0, .int IntKind.i64 0].getD k undef) 6 0 (fun x => ⟨#[.slice A l.length c, undef, .pointer (some { block := g, off := 0 }), x 4, x 5, .pointer (some { block := gp, off := 0 }), .pointer (some { block := g6, off := 0 }), .slice A l.length c, .agg #[Value.slice A l.length c, Value.int IntKind.i64 0], .int IntKind.i64 n0, .int IntKind.i64 n1, .int IntKind.i64 n2, .int IntKind.i64 n3, .int IntKind.i64 n4, .int IntKind.i64 n5, txt p6, txt p7, .agg #[Value.int IntKind.i64 n0, Value.int IntKind.i64 n1, Value.int IntKind.i64 n2, txt p6, txt p7, Value.int IntKind.i64 n3, Value.int IntKind.i64 n4, Value.int IntKind.i64 n5], .pointer (some { block := gp, off := 1 }), .int IntKind.i64 (fP : Int), .bool false, .bool false, undef, undef, undef, .bool false, undef, .pointer (some { block := gp, off := 1 }), .int IntKind.i64 (fP : Int), .bool true, x 0, x 1, x 2, undef, undef, undef], []⟩) (fun jj => ([fun x w => eqV (.agg (orc or0).toArray) (x 0) w, fun x w => eqV (.pointer (some ⟨gp, 1, none⟩)) (x 1) w, fun x w => eqV (.int .i64 (fP : Int)) (x 2) w, fun x w => Blk w g (orc or0) 86, fun x w => eqV (.slice none 0 0) (x 4) w, fun x w => eqV (.int .i64 (fP : Int)) (x 5) w] : List ((Nat → Value) → World → Prop)).getD jj (fun _ _ => True)) rfl rfl (by kernel_rfl) (by kernel_rfl) (by kernel_rfl) (fun p hp => by cases hp) ?steps ?fin
  case steps =>
   refine StepsY.val 0 (.agg (orc or0).toArray) rfl (by decide) (fun _ _ => rfl) rfl rfl (fun x wx hI hd => ?_) ?_
   ·(go_simp; try rfl)
   refine StepsY.val 1 (.pointer (some ⟨gp, 1, none⟩)) rfl (by decide) (fun _ _ => rfl) rfl rfl (fun x wx hI hd => ?_) ?_
   ·(go_simp; try rfl)
   refine StepsY.val 2 (.int .i64 (fP : Int)) rfl (by decide) (fun _ _ => rfl) rfl rfl (fun x wx hI hd => ?_) ?_
   ·have h1 : x 1 = .pointer (some ⟨gp, 1, none⟩) := hd 1 (by kernel_rfl)
    have cc := (hI.blk XP.out hnep).at_ 1 _ rfl
    rw [h1]
    (go_simp; try rfl)
   refine StepsY.cons 3 (fun x i vv w1 w2 hij hni h1 h2 h3 => ?_) (fun _ _ => rfl) rfl rfl (fun x wx hI hx hd hs9 K hK => ?_) ?_
   ·change Blk w1 g (orc or0) 86 at h1
    show Blk w2 g (orc or0) 86
    unfold effX at h2
    rw [if_neg (by simpa using hij)] at h2
    exact h1.below h2 h1.lt
   ·obtain ⟨cs9, k4, k5⟩ := hI.2.2.2
    have hv : x 0 = .agg (orc or0).toArray := hd 0 (by kernel_rfl)
    refine wp_of_list rfl (wpList_store_to rfl 86 _ _ rfl g (orc or0) cs9 86 rfl hv k5 szOrP k4 (orc_all _) ?_)
    intro w8 e1 e2 e3 e4
    refine hK.out _ w8 (hI.store e1 e2 e3 e4 rfl) ?_ e1
    unfold effX
    rw [if_pos (by decide)]
    trivial
   refine StepsY.val 4 (.slice none 0 0) rfl (by decide) (fun _ _ => rfl) rfl rfl (fun x wx hI hd => ?_) ?_
   ·(go_simp; try rfl)
   refine StepsY.val 5 (.int .i64 (fP : Int)) rfl (by decide) (fun _ _ => rfl) rfl rfl (fun x wx hI hd => ?_) ?_
   ·have h2 : x 2 = .int .i64 (fP : Int) := hd 2 (by kernel_rfl)
    rw [h2]
    (go_simp; try rfl)
   exact StepsY.done
  case fin =>
   intro x wx hI hd
   have XG := lhd (show Blk wx g (orc or0) 86 from hd 3 (by omega))
   have hx0 : x 0 = .agg (orc or0).toArray := hd 0 (by omega)
   have hx1 : x 1 = .pointer (some ⟨gp, 1, none⟩) := hd 1 (by omega)
   have hx2 : x 2 = .int .i64 (fP : Int) := hd 2 (by omega)
   have hx4 : x 4 = .slice none 0 0 := hd 4 (by omega)
   have hx5 : x 5 = .int .i64 (fP : Int) := hd 5 (by omega)
   refine AnyTill.any (S := fun _ => True) (m := 6) _ _ _ _ ?_
   refine AnyTill.done (by kernel_rfl) ?_
   refine NoPanic.normal ?_
   try dsimp only
   rw [hx0, hx1, hx2, hx4, hx5]
   have HI := lhd hI
   clear hd hI hx0 hx1 hx2 hx4 hx5
   go_wp2
   refine bodyPost_ret (v := .tuple #[.agg (orc or0).toArray, .slice none 0 0, .int .i64 (fP : Int)]) ?_ rfl ?_
   ·exact ret_blk3O rfl _ _ g 86 (orc or0) _ _ rfl rfl rfl XG.out d30 HU.out HD.out szOrP
   ·rw [HF.out]
    exact ⟨_, rfl, Own.nil _ _ _, by rw [HG.out]; exact E.out.trans HI.out.2.2.1⟩
 subst hf
 rw [if_neg (by simp)] at HF
 change u2.cell? ⟨gp, 1, none⟩ = some (.int .i64 0) at cp1
 have d0 := X6.out.at_ 0 _ rfl
 have d1 := X6.out.at_ 1 _ rfl
 have d2 := X6.out.at_ 2 _ rfl
 have d3 := X6.out.at_ 3 _ rfl
 have d4 := X6.out.at_ 4 _ rfl
 have d5 := X6.out.at_ 5 _ rfl
 have d6 := X6.out.at_ 6 _ rfl
 have d7 := X6.out.at_ 7 _ rfl
 go_wp2_with fail
 refine (orMay_any OO u2).mono ?_
 rintro e u3 ⟨rfl, hb⟩
 clear cp1 d0 d1 d2 d3 d4 d5 d6 d7
 have hl6 := X6.out.lt
 have hlp := XP.out.lt
 have hl0 := X0.out.lt
 have X6 := lhd (X6.out.below hb hl6)
 have XP := lhd (XP.out.below hb hlp)
 have X0 := lhd (X0.out.below hb hl0)
 have HO := lhd (HO.out.below hb (Nat.le_refl _))
 have E4 := lhd (E.out.trans (hb.mono (Nat.le_of_lt hl0)))
 clear hb hl6 hlp hl0 E
 have cp1 : u3.cell? ⟨gp, 1, none⟩ = some (.int .i64 0) := XP.out.at_ 1 _ rfl
 cases hM : mayO OO with
 | false =>
   rw [hM, if_neg Bool.false_ne_true] at HF
   clear hM
   have hb3 : Blk u3 gp [.slice AP nP cP, .int .i64 0] 139 := XP.out
   have B3 := lhd hb3
   clear hb3 XP
   go_wp2_with (refine wpList_store_fld rfl 25 _ _ rfl gp 1 [.slice AP nP cP, .int .i64 0] (.int .i64 3) 139 rfl rfl B3.out szErr1 (by show 1 < 2; decide) rfl ?_)
   intro u5 e1 e2 e3 e4
   have XP := lhd (show Blk u5 gp [.slice AP nP cP, .int .i64 3] 139 from e1)
   have X0 := lhd (X0.out.below e3 hg1)
   have EE := lhd (E4.out.trans (e3.mono (Nat.le_of_lt hg1)))
   clear e1 e2 e3 e4 B3 cp1
   have cq1 := XP.out.at_ 1 _ rfl
   go_wp2
   have hst := lhd (KeepT.start (n := 8) X0.out rfl)
   refine wp_region_relyY (KeepT g 8 86 u5) hst.out [] [3] (fun _ _ _ _ => True) (fun k => [undef, undef, undef, undef, .slice none 0 0, .int IntKind.i64 0].getD k undef) 6 0 (fun x => ⟨#[.slice A l.length c, undef, .pointer (some { block := g, off := 0 }), x 4, x 5, .pointer (some { block := gp, off := 0 }), .pointer (some { block := g6, off := 0 }), .slice A l.length c, .agg #[Value.slice A l.length c, Value.int IntKind.i64 0], .int IntKind.i64 n0, .int IntKind.i64 n1, .int IntKind.i64 n2, .int IntKind.i64 n3, .int IntKind.i64 n4, .int IntKind.i64 n5, txt p6, txt p7, .agg #[Value.int IntKind.i64 n0, Value.int IntKind.i64 n1, Value.int IntKind.i64 n2, txt p6, txt p7, Value.int IntKind.i64 n3, Value.int IntKind.i64 n4, Value.int IntKind.i64 n5], .pointer (some { block := gp, off := 1 }), .int IntKind.i64 0, .bool true, .bool true, .agg #[Value.int IntKind.i64 (oC OO), Value.int IntKind.i64 (oQ OO), Value.int IntKind.i64 (oK OO), txt (oP OO), txt (oV OO), Value.int IntKind.i64 (oR OO), Value.int IntKind.i64 (oS OO), Value.int IntKind.i64 (oT OO)], .bool false, .bool true, .bool true, .pointer (some { block := gp, off := 1 }), .pointer (some { block := gp, off := 1 }), .int IntKind.i64 3, .bool true, x 0, x 1, x 2, undef, undef, undef], []⟩) (fun jj => ([fun x w => eqV (.agg (orc or0).toArray) (x 0) w, fun x w => eqV (.pointer (some ⟨gp, 1, none⟩)) (x 1) w, fun x w => eqV (.int .i64 3) (x 2) w, fun x w => Blk w g (orc or0) 86, fun x w => eqV (.slice none 0 0) (x 4) w, fun x w => eqV (.int .i64 3) (x 5) w] : List ((Nat → Value) → World → Prop)).getD jj (fun _ _ => True)) rfl rfl (by kernel_rfl) (by kernel_rfl) (by kernel_rfl) (fun p hp => by cases hp) ?steps ?fin
   case steps =>
    refine StepsY.val 0 (.agg (orc or0).toArray) rfl (by decide) (fun _ _ => rfl) rfl rfl (fun x wx hI hd => ?_) ?_
    ·(go_simp; try rfl)
    refine StepsY.val 1 (.pointer (some ⟨gp, 1, none⟩)) rfl (by decide) (fun _ _ => rfl) rfl rfl (fun x wx hI hd => ?_) ?_
    ·(go_simp; try rfl)
    refine StepsY.val 2 (.int .i64 3) rfl (by decide) (fun _ _ => rfl) rfl rfl (fun x wx hI hd => ?_) ?_
    ·have h1 : x 1 = .pointer (some ⟨gp, 1, none⟩) := hd 1 (by kernel_rfl)
     have cc := (hI.blk XP.out hnep).at_ 1 _ rfl
     rw [h1]
     (go_simp; try rfl)
    refine StepsY.cons 3 (fun x i vv w1 w2 hij hni h1 h2 h3 => ?_) (fun _ _ => rfl) rfl rfl (fun x wx hI hx hd hs9 K hK => ?_) ?_
    ·change Blk w1 g (orc or0) 86 at h1
     show Blk w2 g (orc or0) 86
     unfold effX at h2
     rw [if_neg (by simpa using hij)] at h2
     exact h1.below h2 h1.lt
    ·obtain ⟨cs9, k4, k5⟩ := hI.2.2.2
     have hv : x 0 = .agg (orc or0).toArray := hd 0 (by kernel_rfl)
     refine wp_of_list rfl (wpList_store_to rfl 86 _ _ rfl g (orc or0) cs9 86 rfl hv k5 szOrP k4 (orc_all _) ?_)
     intro w8 e1 e2 e3 e4
     refine hK.out _ w8 (hI.store e1 e2 e3 e4 rfl) ?_ e1
     unfold effX
     rw [if_pos (by decide)]
     trivial
    refine StepsY.val 4 (.slice none 0 0) rfl (by decide) (fun _ _ => rfl) rfl rfl (fun x wx hI hd => ?_) ?_
    ·(go_simp; try rfl)
    refine StepsY.val 5 (.int .i64 3) rfl (by decide) (fun _ _ => rfl) rfl rfl (fun x wx hI hd => ?_) ?_
    ·have h2 : x 2 = .int .i64 3 := hd 2 (by kernel_rfl)
     rw [h2]
     (go_simp; try rfl)
    exact StepsY.done
   case fin =>
    intro x wx hI hd
    have XG := lhd (show Blk wx g (orc or0) 86 from hd 3 (by omega))
    have hx0 : x 0 = .agg (orc or0).toArray := hd 0 (by omega)
    have hx1 : x 1 = .pointer (some ⟨gp, 1, none⟩) := hd 1 (by omega)
    have hx2 : x 2 = .int .i64 3 := hd 2 (by omega)
    have hx4 : x 4 = .slice none 0 0 := hd 4 (by omega)
    have hx5 : x 5 = .int .i64 3 := hd 5 (by omega)
    refine AnyTill.any (S := fun _ => True) (m := 6) _ _ _ _ ?_
    refine AnyTill.done (by kernel_rfl) ?_
    refine NoPanic.normal ?_
    try dsimp only
    rw [hx0, hx1, hx2, hx4, hx5]
    have HI := lhd hI
    clear hd hI hx0 hx1 hx2 hx4 hx5
    go_wp2
    refine bodyPost_ret (v := .tuple #[.agg (orc or0).toArray, .slice none 0 0, .int .i64 3]) ?_ rfl ?_
    ·exact ret_blk3O rfl _ _ g 86 (orc or0) _ _ rfl rfl rfl XG.out d30 HU.out HD.out szOrP
    ·rw [HF.out]
     exact ⟨_, rfl, Own.nil _ _ _, by rw [HG.out]; exact EE.out.trans HI.out.2.2.1⟩
 | true =>
   rw [hM, if_pos (show true = true from rfl)] at HF
   clear hM
   go_wp2
   have hst := lhd (KeepT.start (n := 8) X0.out rfl)
   refine wp_region_relyY (KeepT g 8 86 u3) hst.out [] [3] (fun _ _ _ _ => True) (fun k => [undef, undef, undef, undef, .slice none 0 0, .int IntKind.i64 0].getD k undef) 6 0 (fun x => ⟨#[.slice A l.length c, undef, .pointer (some { block := g, off := 0 }), x 4, x 5, .pointer (some { block := gp, off := 0 }), .pointer (some { block := g6, off := 0 }), .slice A l.length c, .agg #[Value.slice A l.length c, Value.int IntKind.i64 0], .int IntKind.i64 n0, .int IntKind.i64 n1, .int IntKind.i64 n2, .int IntKind.i64 n3, .int IntKind.i64 n4, .int IntKind.i64 n5, txt p6, txt p7, .agg #[Value.int IntKind.i64 n0, Value.int IntKind.i64 n1, Value.int IntKind.i64 n2, txt p6, txt p7, Value.int IntKind.i64 n3, Value.int IntKind.i64 n4, Value.int IntKind.i64 n5], .pointer (some { block := gp, off := 1 }), .int IntKind.i64 0, .bool true, .bool true, .agg #[Value.int IntKind.i64 (oC OO), Value.int IntKind.i64 (oQ OO), Value.int IntKind.i64 (oK OO), txt (oP OO), txt (oV OO), Value.int IntKind.i64 (oR OO), Value.int IntKind.i64 (oS OO), Value.int IntKind.i64 (oT OO)], .bool true, .bool false, .bool false, undef, .pointer (some { block := gp, off := 1 }), .int IntKind.i64 0, .bool false, undef, undef, undef, x 0, x 1, x 2], []⟩) (fun jj => ([fun x w => eqV (.agg (orc OO).toArray) (x 0) w, fun x w => eqV (.pointer (some ⟨gp, 0, none⟩)) (x 1) w, fun x w => eqV (.slice AP nP cP) (x 2) w, fun x w => Blk w g (orc OO) 86, fun x w => eqV (.slice AP nP cP) (x 4) w, fun x w => eqV (.int .i64 0) (x 5) w] : List ((Nat → Value) → World → Prop)).getD jj (fun _ _ => True)) rfl rfl (by kernel_rfl) (by kernel_rfl) (by kernel_rfl) (fun p hp => by cases hp) ?steps ?fin
   case steps =>
    refine StepsY.val 0 (.agg (orc OO).toArray) rfl (by decide) (fun _ _ => rfl) rfl rfl (fun x wx hI hd => ?_) ?_
    ·have d0 := (hI.blk X6.out hne6).at_ 0 _ rfl
     have d1 := (hI.blk X6.out hne6).at_ 1 _ rfl
     have d2 := (hI.blk X6.out hne6).at_ 2 _ rfl
     have d3 := (hI.blk X6.out hne6).at_ 3 _ rfl
     have d4 := (hI.blk X6.out hne6).at_ 4 _ rfl
     have d5 := (hI.blk X6.out hne6).at_ 5 _ rfl
     have d6 := (hI.blk X6.out hne6).at_ 6 _ rfl
     have d7 := (hI.blk X6.out hne6).at_ 7 _ rfl
     (go_simp; try rfl)
    refine StepsY.val 1 (.pointer (some ⟨gp, 0, none⟩)) rfl (by decide) (fun _ _ => rfl) rfl rfl (fun x wx hI hd => ?_) ?_
    ·(go_simp; try rfl)
    refine StepsY.val 2 (.slice AP nP cP) rfl (by decide) (fun _ _ => rfl) rfl rfl (fun x wx hI hd => ?_) ?_
    ·have h1 : x 1 = .pointer (some ⟨gp, 0, none⟩) := hd 1 (by kernel_rfl)
     have cc := (hI.blk XP.out hnep).at_ 0 _ rfl
     rw [h1]
     (go_simp; try rfl)
    refine StepsY.cons 3 (fun x i vv w1 w2 hij hni h1 h2 h3 => ?_) (fun _ _ => rfl) rfl rfl (fun x wx hI hx hd hs9 K hK => ?_) ?_
    ·change Blk w1 g (orc OO) 86 at h1
     show Blk w2 g (orc OO) 86
     unfold effX at h2
     rw [if_neg (by simpa using hij)] at h2
     exact h1.below h2 h1.lt
    ·obtain ⟨cs9, k4, k5⟩ := hI.2.2.2
     have hv : x 0 = .agg (orc OO).toArray := hd 0 (by kernel_rfl)
     refine wp_of_list rfl (wpList_store_to rfl 86 _ _ rfl g (orc OO) cs9 86 rfl hv k5 szOrP k4 (orc_all _) ?_)
     intro w8 e1 e2 e3 e4
     refine hK.out _ w8 (hI.store e1 e2 e3 e4 rfl) ?_ e1
     unfold effX
     rw [if_pos (by decide)]
     trivial
    refine StepsY.val 4 (.slice AP nP cP) rfl (by decide) (fun _ _ => rfl) rfl rfl (fun x wx hI hd => ?_) ?_
    ·have h2 : x 2 = .slice AP nP cP := hd 2 (by kernel_rfl)
     rw [h2]
     (go_simp; try rfl)
    refine StepsY.val 5 (.int .i64 0) rfl (by decide) (fun _ _ => rfl) rfl rfl (fun x wx hI hd => ?_) ?_
    ·(go_simp; try rfl)
    exact StepsY.done
   case fin =>
    intro x wx hI hd
    have XG := lhd (show Blk wx g (orc OO) 86 from hd 3 (by omega))
    have hx0 : x 0 = .agg (orc OO).toArray := hd 0 (by omega)
    have hx1 : x 1 = .pointer (some ⟨gp, 0, none⟩) := hd 1 (by omega)
    have hx2 : x 2 = .slice AP nP cP := hd 2 (by omega)
    have hx4 : x 4 = .slice AP nP cP := hd 4 (by omega)
    have hx5 : x 5 = .int .i64 0 := hd 5 (by omega)
    refine AnyTill.any (S := fun _ => True) (m := 6) _ _ _ _ ?_
    refine AnyTill.done (by kernel_rfl) ?_
    refine NoPanic.normal ?_
    try dsimp only
    rw [hx0, hx1, hx2, hx4, hx5]
    have HI := lhd hI
    clear hd hI hx0 hx1 hx2 hx4 hx5
    go_wp2
    refine bodyPost_ret (v := .tuple #[.agg (orc OO).toArray, .slice AP nP cP, .int .i64 0]) ?_ rfl ?_
    ·exact ret_blk3O rfl _ _ g 86 (orc OO) _ _ rfl rfl rfl XG.out d30 HU.out HD.out szOrP
    ·rw [HF.out]
     exact ⟨_, rfl, (show Own 5 wx (gp + 1) (.slice AP nP cP) rP from HI.out.own HO.out (by omega)).base (by rw [HG.out]; omega), by rw [HG.out]; exact E4.out.trans HI.out.2.2.1⟩
end Go.Proofs.YtgfobinklijkpaaGreatDoor
