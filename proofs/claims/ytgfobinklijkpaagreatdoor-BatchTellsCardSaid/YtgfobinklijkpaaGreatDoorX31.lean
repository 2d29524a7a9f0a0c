/-
  Texts K2 IX K3 IY IZ K5 K6.
-/
import Derived.Test.YtgfobinklijkpaaGreatDoorX01
import Derived.Test.YtgfobinklijkpaaGreatDoorX08
import Derived.Test.YtgfobinklijkpaaGreatDoorX12
import Derived.Test.YtgfobinklijkpaaGreatDoorX22
import Derived.Test.YtgfobinklijkpaaGreatDoorX24
import Derived.Test.YtgfobinklijkpaaGreatDoorX26
import Derived.Test.YtgfobinklijkpaaGreatDoorX29
import Derived.Test.YtgfobinklijkpaaGreatDoorX30
namespace Go.Proofs.YtgfobinklijkpaaGreatDoor
set_option maxRecDepth 100000
set_option maxHeartbeats 16000000
open Go.RowKit
theorem drops_len : ∀ (a : List Int) (l : List Nd), (dropsR l a).2.length + (dropsR l a).1.length = l.length
 | [], l => by simp [dropsR]
 | i :: a, l => by
   have h1 := drops_len a (dropS l i)
   have h2 := filter_both (ownB i) l
   simp only [dropsR, List.length_append, List.length_map]
   have h3 : (goneN l i).length = (l.filter (ownB i)).length := by unfold goneN; rw [List.length_map]
   have h4 : (dropS l i).length = (l.filter fun x => !ownB i x).length := rfl
   omega
abbrev fnv (f : FuncId) : Value := .func (.func f) #[] #[]
def fnc : List Value := [fnv 147, fnv 148, fnv 149, fnv 150, fnv 151, fnv 152, fnv 153, fnv 154, fnv 155, fnv 156, fnv 157, fnv 158]
def TabF (w : World) (e : Ending) (w' : World) : Prop := ∃ g, e = .returned (.slice (some ⟨g, 0, none⟩) 12 12) ∧ Blk w' g fnc 207 ∧ w.heap.size ≤ g ∧ Below w.heap.size w w'
theorem effects_any (w : World) : Calls Tryz.prog 124 #[] w (TabF w) := by
 go_enter Tryz.func124, Tryz.ntmps124
 go_wp2
 go_ret
 exact ⟨_, rfl, heap_alloc_new w _, Nat.le_refl _, (Below.refl _ _).alloc (Nat.le_refl _) _⟩
def KindFn (o : Or) : Prop := ∀ k : Nat, oK o = k → k < 12 →
    ∃ f, fnc[k]? = some (fnv f) ∧ (∀ args w, (callFunc f args).run Tryz.prog w = .ok (.enter f args) w) ∧ ∀ (a b g : Nat) (r : Rm) (w : World), RightR r → TnP a b g w r (noR o 0) [] →
      Calls Tryz.prog f #[.pointer (some ⟨g, 0, none⟩), .agg (orc o).toArray] w (TnQ a b g (doneR r o).1 (ofR o (doneR r o).2.1) (doneR r o).2.2 w)
theorem kind_create (o : Or) (h1 : oK o = 1) (hi : fitI (oS o)) : KindFn o := by
 intro k hk _
 obtain rfl : k = 1 := by omega
 exact ⟨_, rfl, fun args w => enters_of Tryz.func148 (by kernel_rfl) rfl args w, fun a b g r w hR h => tnCreate_any a b g o r w hR h hi hk⟩
theorem done_few (r : Rm) (o : Or) (h : RightR r) : (doneR r o).2.2.length ≤ 200 := by
 have hN := h.n.few
 have hd : ∀ ids, (dropsR (mN r) ids).2.length ≤ 200 := fun ids => by
  have := drops_len ids (mN r)
  omega
 have hif : ∀ (P : Prop) [Decidable P] (c : Ch), (if P then [c] else []).length ≤ 200 := fun P _ c => by split <;> simp
 have key : ∀ x, doneR r o = x → x.2.2.length ≤ 200 := by
  intro x hx
  unfold doneR at hx
  by_cases k : oK o = 1
  ·rw [if_pos k] at hx
   by_cases k2 : noLease r o = true
   ·rw [if_pos k2] at hx
    subst hx
    first | exact hd _ | exact Nat.zero_le _
   ·rw [if_neg k2] at hx
    subst hx
    first | exact hif _ _ | exact Nat.zero_le _
  rw [if_neg k] at hx
  clear k
  by_cases k : oK o = 2
  ·rw [if_pos k] at hx
   subst hx
   first | exact hif _ _ | exact Nat.zero_le _
  rw [if_neg k] at hx
  clear k
  by_cases k : oK o = 3
  ·rw [if_pos k] at hx
   subst hx
   first | exact hif _ _ | exact Nat.zero_le _
  rw [if_neg k] at hx
  clear k
  by_cases k : oK o = 4
  ·rw [if_pos k] at hx
   subst hx
   first | exact hif _ _ | exact Nat.zero_le _
  rw [if_neg k] at hx
  clear k
  by_cases k : oK o = 5
  ·rw [if_pos k] at hx
   subst hx
   first | exact hif _ _ | exact Nat.zero_le _
  rw [if_neg k] at hx
  clear k
  by_cases k : oK o = 6
  ·rw [if_pos k] at hx
   subst hx
   first | exact hif _ _ | exact Nat.zero_le _
  rw [if_neg k] at hx
  clear k
  by_cases k : oK o = 7
  ·rw [if_pos k] at hx
   subst hx
   first | exact hif _ _ | exact Nat.zero_le _
  rw [if_neg k] at hx
  clear k
  by_cases k : oK o = 8
  ·rw [if_pos k] at hx
   by_cases k2 : leaseE (mS r) (oS o) = 0
   ·rw [if_pos k2] at hx
    subst hx
    first | exact hd _ | exact Nat.zero_le _
   ·rw [if_neg k2] at hx
    subst hx
    first | exact hif _ _ | exact Nat.zero_le _
  rw [if_neg k] at hx
  clear k
  by_cases k : oK o = 9
  ·rw [if_pos k] at hx
   by_cases k2 : tickE (mT r) (oT o) = 0
   ·rw [if_pos k2] at hx
    subst hx
    first | exact hd _ | exact Nat.zero_le _
   ·rw [if_neg k2] at hx
    subst hx
    first | exact hif _ _ | exact Nat.zero_le _
  rw [if_neg k] at hx
  clear k
  by_cases k : oK o = 10 ∨ oK o = 11
  ·rw [if_pos k] at hx
   subst hx
   first | exact hif _ _ | exact Nat.zero_le _
  rw [if_neg k] at hx
  clear k
  subst hx
  exact Nat.zero_le _
 exact key _ rfl
def StepO (b : Nat) (y : Rm × Rp × List Ev) (vL : Value) (w : World) (e : Ending) (w' : World) : Prop :=
 ∃ vN vS vW vL' nv vE, e = .returned (.tuple #[.agg (rmc (mT y.1) vN vS vW vL').toArray, .agg (rpc y.2.1 nv).toArray, vE]) ∧ GoE NdK 157 b w' vN (mN y.1) ∧ GoE SeK 160 b w' vS (mS y.1) ∧ GoE WaK 163 b w' vW (mW y.1) ∧
   GoRp 79 9 b w' vL' (mL y.1) ∧ (vL' = vL ∨ ∀ k, vL'.ownBlock = some k → w.heap.size ≤ k) ∧ GoE StK 9 b w' nv (pN y.2.1) ∧ ((vE = .slice none 0 0 ∧ y.2.2 = []) ∨ OwnE EvK 239 w' w.heap.size vE y.2.2) ∧ Below w.heap.size w w'
theorem SeenO.new {e es : TypeId} {b base : Nat} {w : World} {v : Value} {l : List Rp} (h : SeenO e es b base w v l) : ∀ k, v.ownBlock = some k → base ≤ k := by
 intro k hk
 obtain ⟨ss, _, h2, _⟩ := h
 rcases h2.2 with ⟨rfl, _⟩ | ⟨g, cap, cur, rfl, h3, _⟩
 ·cases hk
 ·injection hk with hk
  have : g = k := hk
  omega
def TE (e : TypeId) : Prop := e = 206 ∨ e = 50 ∨ e = 79
theorem TE_nd : ¬ TE 157 := by unfold TE; decide
theorem TE_se : ¬ TE 160 := by unfold TE; decide
theorem TE_wa : ¬ TE 163 := by unfold TE; decide
theorem TE_st : ¬ TE 9 := by unfold TE; decide
theorem TE_ev : ¬ TE 239 := by unfold TE; decide
theorem szRrT : (Tryz.prog.info? 48).map (·.size) = some 1 := by kernel_rfl
theorem TT_rl : ¬ TT 50 := by unfold TT; decide
theorem ret_blk3R {P : Program} {fn : Func} {p q u : Tmp} {t1 t2 : TypeId} (h : fn.results = #[.cell p t1, .cell q t2, .tmp u]) (tmps : Array Value) (w : World) (g1 g2 : Nat) (u1 u2 : TypeId) (c1 c2 : List Value) (v : Value)
 (hp : tmps.getD p undef = .pointer (some ⟨g1, 0, none⟩)) (hq : tmps.getD q undef = .pointer (some ⟨g2, 0, none⟩)) (hv : tmps.getD u undef = v) (b1 : Blk w g1 c1 u1) (b2 : Blk w g2 c2 u2) {d1 d2 : TypeDesc} (hu1 : P.underlying t1 = some d1) (hd1 : d1.isRow = true) (hi1 : (P.info? t1).map (·.size) = some c1.length)
 (hu2 : P.underlying t2 = some d2) (hd2 : d2.isRow = true) (hi2 : (P.info? t2).map (·.size) = some c2.length) : (results fn tmps).run P w = .ok (.tuple #[.agg c1.toArray, .agg c2.toArray, v]) w := by
 have h1 := run_loadVar_mid (P := P) w g1 0 t1 c1 d1 (fun j v hv => by rw [Nat.zero_add]; exact (b1.cell j).trans hv) hu1 hd1 hi1
 have h2 := run_loadVar_mid (P := P) w g2 0 t2 c2 d2 (fun j v hv => by rw [Nat.zero_add]; exact (b2.cell j).trans hv) hu2 hd2 hi2
 have hp' : tmps[p]?.getD undef = .pointer (some ⟨g1, 0, none⟩) := by simpa [Array.getD_eq_getD_getElem?] using hp
 have hq' : tmps[q]?.getD undef = .pointer (some ⟨g2, 0, none⟩) := by simpa [Array.getD_eq_getD_getElem?] using hq
 have hv' : tmps[u]?.getD undef = v := by simpa [Array.getD_eq_getD_getElem?] using hv
 simp [results, h, Result.andThen, hp', hq', hv', asAddr, h1, h2]
theorem takeEffect_any (b : Nat) (r : Rm) (o : Or) (vN vS vW vL : Value) (w : World) (hb : b ≤ w.heap.size) (hN : GoE NdK 157 b w vN (mN r)) (hS : GoE SeK 160 b w vS (mS r)) (hW : GoE WaK 163 b w vW (mW r)) (hL : GoRp 79 9 b w vL (mL r))
 (hR : RightR r) (hk0 : 0 ≤ oK o) (hk1 : oK o ≤ 11) (hi : KindFn o) : Calls Tryz.prog 84 #[.agg (rmc (mT r) vN vS vW vL).toArray, .agg (orc o).toArray] w (StepO b (takenR r o) vL w) := by
 obtain ⟨AN, cN, hvN, -, -⟩ := hN.1.shape
 obtain ⟨nN, hnN⟩ : ∃ q, (mN r).length = q := ⟨_, rfl⟩
 rw [hnN] at hvN
 clear hnN
 subst hvN
 obtain ⟨AS, cS, hvS, -, -⟩ := hS.1.shape
 obtain ⟨nS, hnS⟩ : ∃ q, (mS r).length = q := ⟨_, rfl⟩
 rw [hnS] at hvS
 clear hnS
 subst hvS
 obtain ⟨AW, cW, hvW, -, -⟩ := hW.1.shape
 obtain ⟨nW, hnW⟩ : ∃ q, (mW r).length = q := ⟨_, rfl⟩
 rw [hnW] at hvW
 clear hnW
 subst hvW
 obtain ⟨AL, cL, hvL, -, -⟩ := hL.rd.shape
 obtain ⟨nL, hnL⟩ : ∃ q, (mL r).length = q := ⟨_, rfl⟩
 rw [hnL] at hvL
 clear hnL
 subst hvL
 obtain ⟨kN, hkN⟩ : ∃ n : Nat, oK o = n := ⟨(oK o).toNat, by omega⟩
 have hk12 : kN < 12 := by omega
 obtain ⟨fK, hf1, hf2, hf3⟩ := hi kN hkN hk12
 have HK := lhd hkN
 have HF1 := lhd hf1
 have HF3 := lhd hf3
 have HR := lhd hR
 have HBW := lhd hb
 have GN := lhd hN
 have GS := lhd hS
 have GW := lhd hW
 have GL := lhd hL
 clear hf1 hf3 hkN hk0 hk1 hR hb hN hS hW hL
 go_enter Tryz.func84, Tryz.ntmps84
 go_wp2_with (refine wpList_box_blk rfl 50 _ rfl (rmc (mT r) (.slice AN nN cN) (.slice AS nS cS) (.slice AW nW cW) (.slice AL nL cL)) rfl ?_)
 intro w1 b1 b2 b3
 go_wp2_with (refine wpList_box_blk rfl 86 _ rfl (orc o) rfl ?_)
 intro w2 d1 d2 d3
 go_wp2_with (refine wpList_alloc_blk rfl 50 rfl (rmc 0 (.slice none 0 0) (.slice none 0 0) (.slice none 0 0) (.slice none 0 0)) zeroRmP ?_)
 intro w3 e1 e2 e3
 go_wp2_with (refine wpList_alloc_blk rfl 79 rfl (rpc rp0 (.slice none 0 0)) zeroRpT ?_)
 intro w4 f1 f2 f3
 obtain ⟨g2, hg2⟩ : ∃ g, w.heap.size = g := ⟨_, rfl⟩
 obtain ⟨g3, hg3⟩ : ∃ g, w.heap.size + 1 = g := ⟨_, rfl⟩
 obtain ⟨g4, hg4⟩ : ∃ g, w.heap.size + 1 + 1 = g := ⟨_, rfl⟩
 obtain ⟨g5, hg5⟩ : ∃ g, w.heap.size + 1 + 1 + 1 = g := ⟨_, rfl⟩
 have hs4 : w4.heap.size = w.heap.size + 4 := by omega
 have b1' := ((b1.below d3 (by omega)).below e3 (by omega)).below f3 (by omega)
 have d1' := (d1.below e3 (by omega)).below f3 (by omega)
 have e1' := e1.below f3 (by omega)
 have HB := lhd (b3.trans ((d3.mono (by omega)).trans ((e3.mono (by omega)).trans (f3.mono (by omega)))))
 have X2 := lhd b1'
 have X3 : Hid (Blk w4 g3 (orc o) 86) := lhd (by rw [← hg3]; exact d1')
 have X4 : Hid (Blk w4 g4 (rmc 0 (.slice none 0 0) (.slice none 0 0) (.slice none 0 0) (.slice none 0 0)) 50) := lhd (by rw [← hg4]; exact e1')
 have X5 : Hid (Blk w4 g5 (rpc rp0 (.slice none 0 0)) 79) := lhd (by rw [← hg5]; exact f1)
 rw [hg2] at X2
 clear b1 d1 e1 b1' d1' e1' b2 d2 e2 b3 d3 e3 f1 f2 f3
 rw [hg5, hg4, hg3, hg2]
 have c0 := X3.out.at_ 0 _ rfl
 have c1 := X3.out.at_ 1 _ rfl
 obtain ⟨dR, huR, hdR⟩ := rowRmP
 obtain ⟨dP, huP, hdP⟩ := rowRpT
 obtain ⟨g7, hg7⟩ : ∃ g, w4.heap.size = g := ⟨_, rfl⟩
 have hne4 : g4 ≠ g7 := by omega
 have hne5 : g5 ≠ g7 := by omega
 have hne3 : g3 ≠ g7 := by omega
 have hne45 : g4 ≠ g5 := by omega
 have hw4 : w.heap.size ≤ g4 := by omega
 have hw5 : w.heap.size ≤ g5 := by omega
 have hw7 : w.heap.size ≤ g7 := by omega
 have h37 : g3 < g7 := by omega
 have h47 : g4 < g7 := by omega
 have h57 : g5 < g7 := by omega
 have HG7 := lhd hg7
 clear hg2 hg3 hg4 hg5 hg7 hs4
 go_wp2_with (first | refine wpList_load_part rfl 50 _ rfl g2 0 (rmc (mT r) (.slice AN nN cN) (.slice AS nS cS) (.slice AW nW cW) (.slice AL nL cL)) [(.slice AN nN cN), .int .i64 (mT r), (.slice AS nS cS), (.slice AW nW cW), (.slice AL nL cL)] 50 rfl X2.out rfl huR hdR szRmP ?_ | refine wpList_alloc_blk rfl 206 rfl (tnc 0 (.slice none 0 0) (.slice none 0 0) (.slice none 0 0) (.slice none 0 0) rp0 (.slice none 0 0) (.slice none 0 0)) zeroTn ?_)
 intro w5 a1 a2 a3
 have X7 := lhd a1
 have X3a := lhd (X3.out.below a3 (by rw [HG7.out]; exact h37))
 have X4a := lhd (X4.out.below a3 (by rw [HG7.out]; exact h47))
 have X5a := lhd (X5.out.below a3 (by rw [HG7.out]; exact h57))
 have HBa := lhd (HB.out.trans (a3.mono (by rw [HG7.out]; exact hw7)))
 rw [HG7.out] at X7 ⊢
 clear a1 a2 a3 c0 c1 X2 X3 X4 X5 HB
 go_wp2_with (refine wpList_store_to rfl 206 _ _ rfl g7 (tnc (mT r) (.slice AN nN cN) (.slice AS nS cS) (.slice AW nW cW) (.slice AL nL cL) (noR o 0) (.slice none 0 0) (.slice none 0 0)) (tnc 0 (.slice none 0 0) (.slice none 0 0) (.slice none 0 0) (.slice none 0 0) rp0 (.slice none 0 0) (.slice none 0 0)) 206 rfl rfl X7.out szTn rfl (tnc_all _ _ _ _ _ _ _ _ _ _ _ _ _ _ _ _ _ _ _ _) ?_)
 intro w6 e1 e2 e3 e4
 have X7 := lhd e1
 have X3 := lhd (X3a.out.same (e4 g3 hne3))
 have X4 := lhd (X4a.out.same (e4 g4 hne4))
 have X5 := lhd (X5a.out.same (e4 g5 hne5))
 have HB := lhd (HBa.out.trans (e3.mono hw7))
 clear e1 e2 e3 e4 X3a X4a X5a HBa
 have HT : Hid (TnP b w.heap.size g7 w6 r (noR o 0) []) := ⟨(.slice AN nN cN), (.slice AS nS cS), (.slice AW nW cW), (.slice AL nL cL), (.slice none 0 0), (.slice none 0 0), X7.out, ⟨GN.out.below HB.out HBW.out, GS.out.below HB.out HBW.out, GW.out.below HB.out HBW.out, GL.out.below HB.out HBW.out, GoE.nil _ _ _ _, HBW.out⟩, OwnE.nil _ _ _, hw7⟩
 clear X7
 go_wp2
 have X3 := lhd X3.out.drew
 have X4 := lhd X4.out.drew
 have X5 := lhd X5.out.drew
 have HB := lhd HB.out.drew
 have HT := lhd (HT.out.keep (Below.refl _ _).drew HB.out.size)
 obtain ⟨FF, hF⟩ : ∃ F : (Nat → Value) → Act, F = fun x => ⟨#[.agg (rmc (mT r) (Value.slice AN nN cN) (Value.slice AS nS cS) (Value.slice AW nW cW) (Value.slice AL nL cL)).toArray, .agg (orc o).toArray, .pointer (some { block := g2, off := 0 }), .pointer (some { block := g3, off := 0 }), .pointer (some { block := g4, off := 0 }), .pointer (some { block := g5, off := 0 }), .slice none 0 0, .pointer (some { block := g7, off := 0 }), undef, .agg #[Value.slice AN nN cN, Value.int IntKind.i64 (mT r), Value.slice AS nS cS, Value.slice AW nW cW, Value.slice AL nL cL], .pointer (some { block := g3, off := 0 }), .int IntKind.i64 (oC o), .pointer (some { block := g3, off := 1 }), .int IntKind.i64 (oQ o), .agg #[Value.int IntKind.i64 (oC o), Value.int IntKind.i64 (oQ o), Value.int IntKind.i64 0, Value.string { data := #[] }, Value.int IntKind.i64 0, Value.slice none 0 0], .agg #[Value.slice AN nN cN, Value.int IntKind.i64 (mT r), Value.slice AS nS cS, Value.slice AW nW cW, Value.slice AL nL cL, Value.int IntKind.i64 (oC o), Value.int IntKind.i64 (oQ o), Value.int IntKind.i64 0, Value.string { data := #[] }, Value.int IntKind.i64 0, Value.slice none 0 0, Value.slice none 0 0], x 0, x 1, x 2, x 3, x 4, x 5, x 6, undef, undef, undef, undef, undef, undef, undef, undef, undef, undef, undef, undef, undef, undef, undef, undef, undef, undef, undef, undef, undef, undef, undef, undef], []⟩ := ⟨_, rfl⟩
 have HFF := lhd hF
 refine wp_region_tillK 7 FF (fun k => [undef, undef, undef, undef, undef, undef, undef].getD k undef) (fun w9 => Blk w9 g3 (orc o) 86) (by rw [hF]; rfl) rfl (by kernel_rfl) ?_
 intro x hL
 clear hF
 obtain ⟨wA, hwA⟩ : ∃ q, w6.drew = q := ⟨_, rfl⟩
 rw [hwA] at X3 X4 X5 HB HT ⊢
 clear hwA
 refine AnyTill.tk 1 (.pointer (some ⟨g3, 2, none⟩)) (wanted_none rfl) HFF hL (fun w9 hS9 => ?_) X3.out ?_
 ·(go_simp; try rfl)
 clear hL x
 intro x hL
 refine AnyTill.tk 2 (.int .i64 (kN : Int)) (wanted_none rfl) HFF hL (fun w9 hS9 => ?_) X3.out ?_
 ·have q1 := hL.at_ 0 rfl
  rw [q1]
  have cc := hS9.at_ 2 _ rfl
  rw [HK.out] at cc
  (go_simp; try rfl)
 clear hL x
 intro x hL
 refine AnyTill.tk 5 (.agg (orc o).toArray) (wanted_none rfl) HFF hL (fun w9 hS9 => ?_) X3.out ?_
 ·obtain ⟨d9, hu9, hd9⟩ := rowOrT
  exact run_load_part 86 _ rfl g3 0 (orc o) (orc o) 86 rfl hS9 rfl hu9 hd9 szOrT
 clear hL x
 intro x hL
 refine AnyTill.oneK 0 (by kernel_rfl) rfl HFF (wanted_none rfl) (fun _ _ => rfl) hL rfl (fun K hK => ?_)
 go_simp
 refine (effects_any wA).mono ?_
 rintro e w7 ⟨gT, rfl, hXT, hgT, hb⟩
 have XT := lhd hXT
 have X3b := lhd (X3.out.below hb X3.out.lt)
 have X4b := lhd (X4.out.below hb X4.out.lt)
 have X5b := lhd (X5.out.below hb X5.out.lt)
 have HTb := lhd (HT.out.keep hb HB.out.size)
 have HBb := lhd (HB.out.trans (hb.mono HB.out.size))
 refine hK.out _ w7 X3b.out ?_
 clear hK K hb hXT X3 X4 X5 HT HB
 clear hL  x
 intro x hL
 refine AnyTill.tk 3 (.pointer (some ⟨gT, kN, none⟩)) (wanted_none rfl) HFF hL (fun w9 hS9 => ?_) X3b.out ?_
 ·have q0 := hL.at_ 0 rfl
  have q2 := hL.at_ 2 rfl
  rw [q0, q2]
  have kz : (kN : Int) < 12 := by omega
  (go_simp; try rfl)
 clear hL x
 intro x hL
 have cT : w7.cell? ⟨gT, kN, none⟩ = some (fnv fK) := (XT.out.cell kN).trans HF1.out
 refine AnyTill.oneK 4 (by kernel_rfl) rfl HFF (wanted_none rfl) (fun _ _ => rfl) hL rfl (fun K hK => ?_)
 have q3 := lhd (hL.at_ 0 rfl)
 rw [q3.out]
 go_simp
 rw [← q3.out]
 refine hK.out (fnv fK) w7 X3b.out ?_
 clear hK K cT XT
 clear hL q3 x
 intro x hL
 refine AnyTill.oneK 6 (by kernel_rfl) rfl HFF (wanted_none rfl) (fun _ _ => rfl) hL rfl (fun K hK => ?_)
 have q4 := lhd (hL.at_ 0 rfl)
 have q5 := lhd (hL.at_ 3 rfl)
 rw [q4.out]
 go_simp
 refine calls_args (args2 := #[.pointer (some ⟨g7, 0, none⟩), .agg (orc o).toArray]) (by rw [q5.out]) ?_
 refine (HF3.out b w.heap.size g7 r w7 HR.out HTb.out).mono ?_
 rintro e w8 ⟨⟨vq, rfl⟩, hT, hb⟩
 have HT := lhd hT
 have X3 := lhd (X3b.out.keepT hb.k TT_or)
 have X4 := lhd (X4b.out.keepT hb.k TT_rl)
 have X5 := lhd (X5b.out.keepT hb.k TT_rp)
 have HB := lhd (HBb.out.trans hb.bel)
 have hs8 := lhd hb.le
 rw [← q4.out]
 refine hK.out vq w8 X3.out ?_
 clear hK K hb hT X3b X4b X5b HTb HBb
 clear hL q4 q5 x
 intro x hL
 refine AnyTill.done (by kernel_rfl) ?_
 refine NoPanic.normal ?_
 rw [HFF.out]
 try dsimp only
 clear hL HFF
 obtain ⟨r1, hr1⟩ : ∃ q, (doneR r o).1 = q := ⟨_, rfl⟩
 obtain ⟨x1, hx1⟩ : ∃ q, ofR o (doneR r o).2.1 = q := ⟨_, rfl⟩
 obtain ⟨cs1, hcs1⟩ : ∃ q, (doneR r o).2.2 = q := ⟨_, rfl⟩
 have hdn := right_done r o HR.out
 have hfw := done_few r o HR.out
 rw [hr1] at hdn
 rw [hcs1] at hfw
 rw [hr1, hx1, hcs1] at HT
 have HTK : Hid (takenR r o = ((mN r1, mT r1, mS r1, leftW (mW r1) cs1, seenR x1 false (mL r)), x1, fireW (mW r1) cs1)) := by
  show _ = _
  rw [← hr1, ← hx1, ← hcs1]
  rfl
 have HDN := lhd hdn
 have HFW := lhd hfw
 clear hr1 hx1 hcs1 hdn hfw
 obtain ⟨vN, vS, vW, vL, nv, vC, hX, hF, hC, -⟩ := HT.out
 have X7 := lhd hX
 have F7 := lhd hF
 have C7 := lhd hC
 have c11 := hX.at_ 11 _ rfl
 have hlt7 := hX.lt
 have hlt4 := X4.out.lt
 have hlt5 := X5.out.lt
 have GLL : Hid (GoRp 79 9 b w8 vL (mL r)) := by
  have h := hF.l
  rw [HDN.out.2.2.2] at h
  exact h
 clear hX hF hC HT
 obtain ⟨x8, hx8⟩ : ∃ q, x = q := ⟨_, rfl⟩
 rw [hx8]
 clear hx8 x
 obtain ⟨dT, huT, hdT⟩ := rowTaT
 go_wp2_with (first | refine wpList_load_part rfl 47 _ rfl g7 3 (tnc (mT r1) vN vS vW vL x1 nv vC) [vW] 206 rfl X7.out rfl huT hdT szTaT ?_ | fail)
 refine (waFire_own (mW r1) cs1 vW vC w8 F7.out.t.1 C7.out.rd HDN.out.2.2.1 (by have := HFW.out; omega)).mono ?_
 rintro e w9 ⟨vT, vE, rfl, hoT, hoE, hb⟩
 have X7a := lhd (X7.out.below hb hlt7)
 have X4a := lhd (X4.out.below hb hlt4)
 have X5a := lhd (X5.out.below hb hlt5)
 have F7a := lhd (F7.out.keep (.of hb hs8.out))
 have GLa := lhd (GLL.out.below hb (Nat.le_trans HBW.out hs8.out))
 have HBa := lhd (HB.out.trans (hb.mono hs8.out))
 have hs9 := lhd (Nat.le_trans hs8.out hb.size)
 have GT := lhd (GoE.own hoT (Nat.le_trans HBW.out hs8.out))
 have GE := lhd (hoE.base hs8.out)
 obtain ⟨AT, cT, hvT⟩ := hoT.shape
 obtain ⟨nT, hnT⟩ : ∃ q, (leftW (mW r1) cs1).length = q := ⟨_, rfl⟩
 rw [hnT] at hvT
 subst hvT
 clear hb hoT hoE hnT X7 X4 X5 F7 C7 GLL HB hs8 c11 hlt7 hlt4 hlt5 X3
 go_wp2_with (refine wpList_store_part rfl 47 _ _ rfl g7 3 (tnc (mT r1) vN vS vW vL x1 nv vC) [.slice AT nT cT] 206 rfl rfl X7a.out szTaT (by show 4 ≤ 12; decide) (one_of rfl) ?_)
 intro w10 e1 e2 e3 e4
 have X7 : Hid (Blk w10 g7 (tnc (mT r1) vN vS (.slice AT nT cT) vL x1 nv vC) 206) := e1
 have KT := lhd (Keep.store (T := TE) (b := w.heap.size) X7a.out (.inl rfl) hw7 e2 e4)
 have X4 := lhd (X4a.out.same (e4 g4 hne4))
 have X5 := lhd (X5a.out.same (e4 g5 hne5))
 have HB := lhd (HBa.out.trans (e3.mono hw7))
 have hs10 := lhd (show w.heap.size ≤ w10.heap.size by rw [e2]; exact hs9.out)
 have N1 := lhd (F7a.out.n.keep KT.out TE_nd HBW.out)
 have S1 := lhd (F7a.out.s.keep KT.out TE_se HBW.out)
 have T1 := lhd (GT.out.keep KT.out TE_wa HBW.out)
 have Y1 := lhd (F7a.out.x.keep KT.out TE_st HBW.out)
 have EV1 := lhd (GE.out.keep KT.out TE_ev)
 have L1 := lhd (GLa.out.keep (T := fun e => e = 206) (d := w.heap.size) (.store X7a.out rfl hw7 e2 e4) (by decide) (by decide) HBW.out)
 clear e1 e2 e3 e4 KT X7a X4a X5a F7a GLa HBa hs9 GT GE
 have c4 := X7.out.at_ 4 _ rfl
 have hlt7 := X7.out.lt
 have hlt4 := X4.out.lt
 have hlt5 := X5.out.lt
 obtain ⟨Ax, cx, hvx, -, -⟩ := Y1.out.1.shape
 obtain ⟨nx, hnx⟩ : ∃ q, (pN x1).length = q := ⟨_, rfl⟩
 rw [hnx] at hvx
 subst hvx
 clear hnx
 go_wp2_with (first | refine wpList_load_part rfl 79 _ rfl g7 5 (tnc (mT r1) vN vS (.slice AT nT cT) vL x1 (.slice Ax nx cx) vC) (rpc x1 (.slice Ax nx cx)) 206 rfl X7.out rfl huP hdP szRpT ?_ | fail)
 refine (withRp_any b (mL r) x1 vL (.slice Ax nx cx) w10 L1.out Y1.out (by have := HR.out.few; omega) HR.out.asc (Nat.le_trans HBW.out hs10.out)).mono ?_
 rintro e w11 ⟨vQ, rfl, hsn, hb⟩
 have X7a := lhd (X7.out.below hb hlt7)
 have X4a := lhd (X4.out.below hb hlt4)
 have X5a := lhd (X5.out.below hb hlt5)
 have N2 := lhd (N1.out.below hb (Nat.le_trans HBW.out hs10.out))
 have S2 := lhd (S1.out.below hb (Nat.le_trans HBW.out hs10.out))
 have T2 := lhd (T1.out.below hb (Nat.le_trans HBW.out hs10.out))
 have Y2 := lhd (Y1.out.below hb (Nat.le_trans HBW.out hs10.out))
 have EV2 := lhd (EV1.out.below hb (Nat.le_refl _))
 have HBa := lhd (HB.out.trans (hb.mono hs10.out))
 have hs11 := lhd (Nat.le_trans hs10.out hb.size)
 have hnew := hsn.new
 have HNW : Hid (∀ k, vQ.ownBlock = some k → w.heap.size ≤ k ∧ k ≠ g5) := lhd (fun k hk => by have := hnew k hk; have := hs10.out; exact ⟨by omega, by omega⟩)
 obtain ⟨AQ, cQ, hvQ⟩ : ∃ A c, vQ = .slice A (seenR x1 false (mL r)).length c := by
  obtain ⟨ss, q1, q2, _⟩ := hsn
  obtain ⟨A, c, h⟩ := q2.shape
  rw [rvs_len q1] at h
  exact ⟨A, c, h⟩
 obtain ⟨nQ, hnQ⟩ : ∃ q, (seenR x1 false (mL r)).length = q := ⟨_, rfl⟩
 rw [hnQ] at hvQ
 subst hvQ
 have SN := lhd hsn
 clear hb hsn hnew hnQ X7 X4 X5 N1 S1 T1 Y1 EV1 L1 HB c4 hlt7 hlt4 hlt5
 go_wp2_with (refine wpList_store_fld rfl 48 _ _ rfl g7 4 (tnc (mT r1) vN vS (.slice AT nT cT) vL x1 (.slice Ax nx cx) vC) (.slice AQ nQ cQ) 206 rfl rfl X7a.out szRrT (by show 4 < 12; decide) rfl ?_)
 intro w12 e1 e2 e3 e4
 have X7 : Hid (Blk w12 g7 (tnc (mT r1) vN vS (.slice AT nT cT) (.slice AQ nQ cQ) x1 (.slice Ax nx cx) vC) 206) := e1
 have KT := lhd (Keep.store (T := TE) (b := w.heap.size) X7a.out (.inl rfl) hw7 e2 e4)
 have X4 := lhd (X4a.out.same (e4 g4 hne4))
 have X5 := lhd (X5a.out.same (e4 g5 hne5))
 have HB := lhd (HBa.out.trans (e3.mono hw7))
 have hs12 := lhd (show w.heap.size ≤ w12.heap.size by rw [e2]; exact hs11.out)
 have N1 := lhd (N2.out.keep KT.out TE_nd HBW.out)
 have S1 := lhd (S2.out.keep KT.out TE_se HBW.out)
 have T1 := lhd (T2.out.keep KT.out TE_wa HBW.out)
 have Y1 := lhd (Y2.out.keep KT.out TE_st HBW.out)
 have EV1 := lhd (EV2.out.keep KT.out TE_ev)
 have SN1 : Hid (SeenO 79 9 b w.heap.size w12 (.slice AQ nQ cQ) (seenR x1 false (mL r))) := by
  obtain ⟨ss, q1, q2, q3⟩ := SN.out
  exact ⟨ss, q1, (q2.base hs10.out).keep (T := fun e => e = 206) (.store (b := w.heap.size) X7a.out rfl hw7 e2 e4) (by decide), fun j hj => (q3 j hj).keep KT.out TE_st HBW.out⟩
 clear e1 e2 e3 e4 KT X7a X4a X5a N2 S2 T2 Y2 EV2 SN HBa hs10 hs11
 go_wp2
 have X7 := lhd X7.out.drew
 have X4 := lhd X4.out.drew
 have X5 := lhd X5.out.drew
 have HB := lhd HB.out.drew
 have hdw : Below w12.heap.size w12 w12.drew := (Below.refl _ _).drew
 have N1 := lhd (N1.out.below hdw (Nat.le_trans HBW.out hs12.out))
 have S1 := lhd (S1.out.below hdw (Nat.le_trans HBW.out hs12.out))
 have T1 := lhd (T1.out.below hdw (Nat.le_trans HBW.out hs12.out))
 have Y1 := lhd (Y1.out.below hdw (Nat.le_trans HBW.out hs12.out))
 have EV1 := lhd (EV1.out.below hdw (Nat.le_refl _))
 have SN1 := lhd (SN1.out.below hdw (Nat.le_trans HBW.out hs12.out))
 clear hdw hs12
 obtain ⟨FF, hF⟩ : ∃ F : (Nat → Value) → Act, F = fun x => ⟨#[.agg (rmc (mT r) (Value.slice AN nN cN) (Value.slice AS nS cS) (Value.slice AW nW cW) (Value.slice AL nL cL)).toArray, .agg (orc o).toArray, .pointer (some { block := g2, off := 0 }), .pointer (some { block := g3, off := 0 }), .pointer (some { block := g4, off := 0 }), .pointer (some { block := g5, off := 0 }), x 7, .pointer (some { block := g7, off := 0 }), vE, .agg #[Value.slice AN nN cN, Value.int IntKind.i64 (mT r), Value.slice AS nS cS, Value.slice AW nW cW, Value.slice AL nL cL], .pointer (some { block := g3, off := 0 }), .int IntKind.i64 (oC o), .pointer (some { block := g3, off := 1 }), .int IntKind.i64 (oQ o), .agg #[Value.int IntKind.i64 (oC o), Value.int IntKind.i64 (oQ o), Value.int IntKind.i64 0, Value.string { data := #[] }, Value.int IntKind.i64 0, Value.slice none 0 0], .agg #[Value.slice AN nN cN, Value.int IntKind.i64 (mT r), Value.slice AS nS cS, Value.slice AW nW cW, Value.slice AL nL cL, Value.int IntKind.i64 (oC o), Value.int IntKind.i64 (oQ o), Value.int IntKind.i64 0, Value.string { data := #[] }, Value.int IntKind.i64 0, Value.slice none 0 0, Value.slice none 0 0], x8 0, x8 1, x8 2, x8 3, x8 4, x8 5, x8 6, .tuple #[Value.agg #[Value.slice AT nT cT], vE], .pointer (some { block := g7, off := 0 }), .pointer (some { block := g7, off := 3 }), .agg #[vW], .pointer (some { block := g7, off := 11 }), vC, .tuple #[Value.agg #[Value.slice AT nT cT], vE], .agg #[Value.slice AT nT cT], vE, .pointer (some { block := g7, off := 0 }), .pointer (some { block := g7, off := 3 }), .pointer (some { block := g7, off := 0 }), .pointer (some { block := g7, off := 4 }), vL, .pointer (some { block := g7, off := 5 }), .agg (rpc x1 (Value.slice Ax nx cx)).toArray, .slice AQ nQ cQ, .pointer (some { block := g7, off := 0 }), .pointer (some { block := g7, off := 4 }), x 0, x 1, x 2, x 3, x 4], []⟩ := ⟨_, rfl⟩
 have HFF := lhd hF
 refine wp_region_tillK 8 FF (fun k => [undef, undef, undef, undef, undef, undef, undef, .slice none 0 0].getD k undef) (fun w9 => Blk w9 g7 (tnc (mT r1) vN vS (.slice AT nT cT) (.slice AQ nQ cQ) x1 (.slice Ax nx cx) vC) 206) (by rw [hF]; rfl) rfl (by kernel_rfl) ?_
 intro x hL
 clear hF
 obtain ⟨wA, hwA⟩ : ∃ q, w12.drew = q := ⟨_, rfl⟩
 rw [hwA] at X7 X4 X5 HB N1 S1 T1 Y1 EV1 SN1 ⊢
 clear hwA
 refine AnyTill.tk 0 (.pointer (some ⟨g7, 0, none⟩)) (wanted_none rfl) HFF hL (fun w9 hS9 => ?_) X7.out ?_
 ·(go_simp; try rfl)
 clear hL x
 intro x hL
 refine AnyTill.tk 2 (.pointer (some ⟨g7, 5, none⟩)) (wanted_none rfl) HFF hL (fun w9 hS9 => ?_) X7.out ?_
 ·(go_simp; try rfl)
 clear hL x
 intro x hL
 refine AnyTill.tk 4 (vE) (wanted_none rfl) HFF hL (fun w9 hS9 => ?_) X7.out ?_
 ·(go_simp; try rfl)
 clear hL x
 intro x hL
 refine AnyTill.tk 1 (.agg (rmc (mT r1) vN vS (.slice AT nT cT) (.slice AQ nQ cQ)).toArray) (wanted_none rfl) HFF hL (fun w9 hS9 => ?_) X7.out ?_
 ·have q0 := hL.at_ 2 rfl
  rw [q0]
  obtain ⟨d9, hu9, hd9⟩ := rowRmP
  exact run_load_part 50 _ rfl g7 0 (tnc (mT r1) vN vS (.slice AT nT cT) (.slice AQ nQ cQ) x1 (.slice Ax nx cx) vC) (rmc (mT r1) vN vS (.slice AT nT cT) (.slice AQ nQ cQ)) 206 rfl hS9 rfl hu9 hd9 szRmP
 clear hL x
 intro x hL
 refine AnyTill.tk 3 (.agg (rpc x1 (.slice Ax nx cx)).toArray) (wanted_none rfl) HFF hL (fun w9 hS9 => ?_) X7.out ?_
 ·have q2 := hL.at_ 2 rfl
  rw [q2]
  obtain ⟨d9, hu9, hd9⟩ := rowRpT
  exact run_load_part 79 _ rfl g7 5 (tnc (mT r1) vN vS (.slice AT nT cT) (.slice AQ nQ cQ) x1 (.slice Ax nx cx) vC) (rpc x1 (.slice Ax nx cx)) 206 rfl hS9 rfl hu9 hd9 szRpT
 clear hL x
 intro x hL
 have sN : ∃ A n c, vN = .slice A n c := by obtain ⟨A, c, h, _⟩ := N1.out.1.shape; exact ⟨A, _, c, h⟩
 have sS : ∃ A n c, vS = .slice A n c := by obtain ⟨A, c, h, _⟩ := S1.out.1.shape; exact ⟨A, _, c, h⟩
 have q1 := hL.at_ 1 rfl
 refine AnyTill.store1 5 (by kernel_rfl) rfl HFF (g := g4) (a := 0) (cs := (rmc 0 (.slice none 0 0) (.slice none 0 0) (.slice none 0 0) (.slice none 0 0))) (vs := (rmc (mT r1) vN vS (.slice AT nT cT) (.slice AQ nQ cQ))) (u := 50) ⟨_, _, _, rfl, rfl, rfl, rfl, .inl q1, szRmP, (by obtain ⟨A1, n1, c1, h1⟩ := sN; obtain ⟨A2, n2, c2, h2⟩ := sS; rw [h1, h2]; exact rmc_all _ _ _ _ _ _ _ _ _ _ _ _ _)⟩ X4.out (by show 5 ≤ 5; decide) (fun w9 z1 z2 => X7.out.same (z2 g7 (Ne.symm hne4))) ?_
 intro wB e1 e2 e3 e4
 clear q1
 have Y4 : Hid (Blk wB g4 (rmc (mT r1) vN vS (.slice AT nT cT) (.slice AQ nQ cQ)) 50) := e1
 have KT := lhd (Keep.store (T := TE) (b := w.heap.size) X4.out (.inr (.inl rfl)) hw4 e2 e4)
 have X5a := lhd (X5.out.same (e4 g5 hne45.symm))
 have X7a := lhd (X7.out.same (e4 g7 hne4.symm))
 have HBa := lhd (HB.out.trans (e3.mono hw4))
 have N2 := lhd (N1.out.keep KT.out TE_nd HBW.out)
 have S2 := lhd (S1.out.keep KT.out TE_se HBW.out)
 have T2 := lhd (T1.out.keep KT.out TE_wa HBW.out)
 have Y2 := lhd (Y1.out.keep KT.out TE_st HBW.out)
 have EV2 := lhd (EV1.out.keep KT.out TE_ev)
 have SN2 : Hid (SeenO 79 9 b w.heap.size wB (.slice AQ nQ cQ) (seenR x1 false (mL r))) := by
  obtain ⟨ss, q1, q2, q3⟩ := SN1.out
  exact ⟨ss, q1, q2.keep (T := fun e => e = 50) (.store (b := w.heap.size) X4.out rfl hw4 e2 e4) (by decide), fun j hj => (q3 j hj).keep KT.out TE_st HBW.out⟩
 clear e1 e2 e3 e4 KT X4 X5 X7 HB N1 S1 T1 Y1 EV1 SN1
 have X7 := X7a
 clear X7a
 have q3 := hL.at_ 0 rfl
 refine AnyTill.store1 6 (by kernel_rfl) rfl HFF (g := g5) (a := 0) (cs := (rpc rp0 (.slice none 0 0))) (vs := (rpc x1 (.slice Ax nx cx))) (u := 79) ⟨_, _, _, rfl, rfl, rfl, rfl, .inl q3, szRpT, (rpc_allM _ _ _ _)⟩ X5a.out (by show 6 ≤ 6; decide) (fun w9 z1 z2 => X7.out.same (z2 g7 (Ne.symm hne5))) ?_
 intro wC e1 e2 e3 e4
 clear q3
 have Y5 : Hid (Blk wC g5 (rpc x1 (.slice Ax nx cx)) 79) := e1
 have KT := lhd (Keep.store (T := TE) (b := w.heap.size) X5a.out (.inr (.inr rfl)) hw5 e2 e4)
 have Y4a := lhd (Y4.out.same (e4 g4 hne45))
 have X7a := lhd (X7.out.same (e4 g7 (Ne.symm hne5)))
 have HB := lhd (HBa.out.trans (e3.mono hw5))
 have N1 := lhd (N2.out.keep KT.out TE_nd HBW.out)
 have S1 := lhd (S2.out.keep KT.out TE_se HBW.out)
 have T1 := lhd (T2.out.keep KT.out TE_wa HBW.out)
 have Y1 := lhd (Y2.out.keep KT.out TE_st HBW.out)
 have EV1 := lhd (EV2.out.keep KT.out TE_ev)
 have SN1 : Hid (SeenO 79 9 b w.heap.size wC (.slice AQ nQ cQ) (seenR x1 false (mL r))) := by
  obtain ⟨ss, q1, q2, q3⟩ := SN2.out
  exact ⟨ss, q1, ownsRow_but q2 (fun h => (HNW.out g5 h).2 rfl) e4, fun j hj => (q3 j hj).keep KT.out TE_st HBW.out⟩
 clear e1 e2 e3 e4 KT X5a Y4 X7 HBa N2 S2 T2 Y2 EV2 SN2
 refine AnyTill.tk 7 (vE) (wanted_none rfl) HFF hL (fun w9 hS9 => ?_) X7a.out ?_
 ·have q4 := hL.at_ 2 rfl
  rw [q4]
  (go_simp; try rfl)
 clear hL x
 intro x hL
 have q7 := hL.at_ 0 rfl
 refine AnyTill.done (by kernel_rfl) ?_
 refine NoPanic.normal ?_
 rw [HFF.out]
 try dsimp only
 rw [q7]
 clear q7
 clear hL HFF
 go_wp2
 refine bodyPost_ret (v := .tuple #[.agg (rmc (mT r1) vN vS (.slice AT nT cT) (.slice AQ nQ cQ)).toArray, .agg (rpc x1 (.slice Ax nx cx)).toArray, vE]) ?_ rfl ?_
 ·exact ret_blk3R rfl _ _ g4 g5 50 79 (rmc (mT r1) vN vS (.slice AT nT cT) (.slice AQ nQ cQ)) (rpc x1 (.slice Ax nx cx)) vE rfl rfl rfl Y4a.out Y5.out huR hdR szRmP huP hdP szRpT
 ·rw [HTK.out]
  exact ⟨vN, vS, _, _, _, vE, rfl, N1.out, S1.out, T1.out, SN1.out.go HBW.out, .inr (fun k hk => (HNW.out k hk).1), Y1.out, .inr EV1.out, HB.out⟩
end Go.Proofs.YtgfobinklijkpaaGreatDoor
