/-
  Texts UL UC UM UD UN.
-/
import Derived.Test.YtgfobinklijkpaaGreatDoorW01
import Derived.Test.YtgfobinklijkpaaGreatDoorW08
import Derived.Test.YtgfobinklijkpaaGreatDoorW27
import Derived.Test.YtgfobinklijkpaaGreatDoorW28
namespace Go.Proofs.YtgfobinklijkpaaGreatDoor
set_option maxRecDepth 100000
set_option maxHeartbeats 16000000
open Go.RowKit
theorem rowTbP : ∃ d, Tryz.prog.underlying 47 = some d ∧ d.isRow = true := ⟨_, Tryz.underlying47, rfl⟩
theorem sTbP : (Tryz.prog.info? 47).map (·.size) = some 1 := by kernel_rfl
theorem zTbP : (Tryz.prog.info? 47).map (·.zero) = some (some (.agg [Value.slice none 0 0].toArray)) := by kernel_rfl
theorem zStrP : (Tryz.prog.info? 9).map (·.zero) = some (some (txt [])) := by kernel_rfl
theorem zBoolP : (Tryz.prog.info? 4).map (·.zero) = some (some (Value.bool false)) := by kernel_rfl
theorem sStrP : (Tryz.prog.info? 9).map (·.size) = some 1 := by kernel_rfl
theorem sBoolP : (Tryz.prog.info? 4).map (·.size) = some 1 := by kernel_rfl
theorem pRightIs (s : List UInt8) (b : Bool) (h : rightB s = b) (w : World) : Calls Tryz.prog 188 #[txt s] w (One (.bool b) w) := by
 rw [← h]
 exact pxRight_any s w
theorem pParentIs (s u : List UInt8) (f : Nat) (h : parentS s = u) (h2 : parentE s = f) (w : World) : Calls Tryz.prog 190 #[txt s] w (Says u f w) := by
 rw [← h, ← h2]
 exact pxParent_any s w
def TestsOf (q : Wa → Bool) (w : World) (e : Ending) (w' : World) : Prop := ∃ fv, e = .returned fv ∧ Tests q fv w.heap.size w'.heap.size w' ∧ Below w.heap.size w w'
theorem ask_touch (c : Ch) (h1 : ¬ cK c < 1) (h2 : ¬ 3 < cK c) (h3 : rightB (cP c) = true) : askB c (parentS (cP c)) (decide (parentE (cP c) = 0) && decide (cK c ≠ 2)) = touchB c := by
 funext x
 unfold askB
 cases hk : wK x
 ·rw [if_neg (by simp), touch_here c x h1 h2 h3 hk]
  by_cases h : wP x = cP c
  ·rw [decide_eq_true h, decide_eq_true h.symm]
  ·rw [decide_eq_false h, decide_eq_false (fun e => h e.symm)]
 ·rw [if_pos rfl, touch_kids c x h1 h2 h3 hk]
  unfold kidsB
  by_cases h : wP x = parentS (cP c)
  ·rw [decide_eq_true h, decide_eq_true h.symm]
   cases decide (parentE (cP c) = 0) <;> simp
  ·have h' : ¬ parentS (cP c) = wP x := fun e => h e.symm
   rw [decide_eq_false h, decide_eq_false h']
   simp
theorem none_touch (c : Ch) (h : cK c < 1 ∨ 3 < cK c ∨ rightB (cP c) = false) : (fun _ => false) = touchB c := by
 funext x
 rcases h with h | h | h
 ·rw [touch_low c x h]
 ·rw [touch_high c x h]
 ·rw [touch_bad c x h]
theorem touchedBy_any (c : Ch) (w : World) : Calls Tryz.prog 159 #[.agg #[.int .i64 (cK c), txt (cP c)]] w (TestsOf (touchB c) w) := by
 have hnone := none_touch c
 have hask := ask_touch c
 obtain ⟨Q, hQ⟩ : ∃ Q, touchB c = Q := ⟨_, rfl⟩
 rw [hQ] at hnone hask ⊢
 clear hQ
 obtain ⟨par, hpar⟩ : ∃ u, parentS (cP c) = u := ⟨_, rfl⟩
 obtain ⟨f, hf⟩ : ∃ f, parentE (cP c) = f := ⟨_, rfl⟩
 obtain ⟨R, hR⟩ : ∃ R, rightB (cP c) = R := ⟨_, rfl⟩
 rw [hpar, hf, hR] at hask
 rw [hR] at hnone
 have HPar := lhd hpar
 have HF := lhd hf
 have HRR := lhd hR
 have HNO := lhd hnone
 have HAS := lhd hask
 have hmf : ∀ (fn : Fn) (first cap : Array Value) (w : World), (Instr.makeFunc fn first cap).run Tryz.prog w = .ok (.func fn first cap) w := fun _ _ _ _ => rfl
 clear hnone hask hpar hf hR
 go_enter Tryz.func159, Tryz.ntmps159
 go_wp2_with (refine wpList_box_blk rfl 235 _ rfl (chc c) rfl ?_)
 intro w1 b1 b2 b3
 obtain ⟨g0, hg0⟩ : ∃ g, w.heap.size = g := ⟨_, rfl⟩
 have X0 := lhd b1
 have HB := lhd b3
 have hs1 : w1.heap.size = g0 + 1 := by omega
 have HG0 := lhd hg0
 rw [hg0] at X0 HB ⊢
 have ca := X0.out.at_ 0 _ rfl
 have cb := X0.out.at_ 1 _ rfl
 clear b1 b2 b3 hg0
 by_cases hlo : cK c < 1
 ·have HX := lhd (HNO.out (.inl hlo))
  go_wp2
  go_ret
  exact ⟨_, rfl, by rw [← HX.out]; exact noneIs _ _ _, by rw [HG0.out]; exact HB.out⟩
 by_cases hhi : 3 < cK c
 ·have HX := lhd (HNO.out (.inr (.inl hhi)))
  go_wp2
  go_ret
  exact ⟨_, rfl, by rw [← HX.out]; exact noneIs _ _ _, by rw [HG0.out]; exact HB.out⟩
 go_wp2_with fail
 refine (pRightIs (cP c) R HRR.out w1).mono ?_
 rintro e w2 ⟨rfl, hb⟩
 have X2 := lhd (X0.out.below hb (by omega))
 have HB2 := lhd (HB.out.trans (hb.mono (by omega)))
 have hs2 : g0 + 1 ≤ w2.heap.size := by have := hb.size; omega
 clear hb ca cb X0 HB
 cases R
 ·have HX := lhd (HNO.out (.inr (.inr rfl)))
  go_wp2
  go_ret
  exact ⟨_, rfl, by rw [← HX.out]; exact noneIs _ _ _, by rw [HG0.out]; exact HB2.out⟩
 have ca := X2.out.at_ 0 _ rfl
 have cb := X2.out.at_ 1 _ rfl
 go_wp2_with fail
 refine (pParentIs (cP c) par f HPar.out HF.out w2).mono ?_
 rintro e w3 ⟨rfl, hb⟩
 have X3 := lhd (X2.out.below hb (by omega))
 have HB3 := lhd (HB2.out.trans (hb.mono (by omega)))
 have hs3 : g0 + 1 ≤ w3.heap.size := by have := hb.size; omega
 clear hb ca cb X2 HB2
 go_wp2_with (refine wpList_alloc_one rfl 9 rfl (txt []) zStrP rfl ?_)
 intro w4 a1 a2 a3
 obtain ⟨g1, hg1⟩ : ∃ g, w3.heap.size = g := ⟨_, rfl⟩
 have A1 := lhd a1
 have X4 := lhd (X3.out.below a3 (by omega))
 have HB4 := lhd (HB3.out.trans (a3.mono (by omega)))
 have hs4 : w4.heap.size = g1 + 1 := by omega
 have h01 : g0 < g1 := by omega
 rw [hg1] at A1 ⊢
 clear a1 a2 a3 hg1 X3 HB3
 go_wp2_with (refine wpList_put_one rfl 9 _ _ rfl g1 (txt par) (txt []) 9 rfl rfl A1.out sStrP rfl ?_)
 intro w5 e1 e2 e3 e4
 have Y5 := lhd e1
 have X5 := lhd (X4.out.same (e4 g0 (by omega)))
 have HB5 := lhd (HB4.out.trans (e3.mono (by omega)))
 have hs5 : w5.heap.size = g1 + 1 := by omega
 clear e1 e2 e3 e4 A1 X4 HB4
 have ca := X5.out.at_ 0 _ rfl
 obtain ⟨F2, hF2⟩ : ∃ b, decide (f = 0) = b := ⟨_, rfl⟩
 obtain ⟨K2, hK2⟩ : ∃ b, decide (cK c ≠ 2) = b := ⟨_, rfl⟩
 have has := HAS.out hlo hhi (by trivial)
 rw [hF2, hK2] at has
 have HAX := lhd has
 have he1 : ((f : Int) == 0) = F2 := by
  rw [← hF2]
  by_cases h : f = 0
  ·rw [decide_eq_true h, h]; rfl
  ·rw [decide_eq_false h]; exact int_neE _ _ (by omega)
 have he2 : (cK c != 2) = K2 := by
  rw [← hK2]
  by_cases h : cK c = 2
  ·rw [decide_eq_false (by simpa using h), h]; rfl
  ·rw [decide_eq_true h]; rw [bne_iff_ne]; exact h
 clear has hF2 hK2 HNO HAS HRR HPar HF hlo hhi
 cases F2
 ·have HAY : Hid (askB c par (false) = Q) := by
   show _ = _
   rw [← HAX.out]
   rfl
  go_wp2_with (refine wpList_alloc_one rfl 4 rfl (Value.bool false) zBoolP rfl ?_)
  intro w6 a1 a2 a3
  obtain ⟨g2, hg2⟩ : ∃ g, g1 + 1 = g := ⟨_, rfl⟩
  have A1 := lhd a1
  have X6 := lhd (X5.out.below a3 (by omega))
  have Y6 := lhd (Y5.out.below a3 (by omega))
  have HB6 := lhd (HB5.out.trans (a3.mono (by omega)))
  have hs6 : w6.heap.size = g2 + 1 := by omega
  have h12 : g1 < g2 := by omega
  rw [hg2] at A1 ⊢
  clear a1 a2 a3 hg2 X5 Y5 HB5 ca
  go_wp2_with (refine wpList_put_one rfl 4 _ _ rfl g2 (Value.bool (false)) (Value.bool false) 4 rfl rfl A1.out sBoolP rfl ?_)
  intro w7 e1 e2 e3 e4
  have Z7 := lhd e1
  have X7 := lhd (X6.out.same (e4 g0 (by omega)))
  have Y7 := lhd (Y6.out.same (e4 g1 (by omega)))
  have HB7 := lhd (HB6.out.trans (e3.mono (by omega)))
  have hs7 : w7.heap.size = g2 + 1 := by omega
  clear e1 e2 e3 e4 A1 X6 Y6 HB6
  go_wp2
  go_ret
  refine ⟨_, rfl, ?_, by rw [HG0.out]; exact HB7.out⟩
  rw [← HAY.out, HG0.out]
  exact askIs c par (false) g0 g1 g2 _ _ w7 X7.out Y7.out Z7.out ⟨Nat.le_refl _, by omega⟩ ⟨by omega, by omega⟩ ⟨by omega, by omega⟩
 ·have HAY : Hid (askB c par (K2) = Q) := by
   show _ = _
   rw [← HAX.out]
   rfl
  go_wp2_with (refine wpList_alloc_one rfl 4 rfl (Value.bool false) zBoolP rfl ?_)
  intro w6 a1 a2 a3
  obtain ⟨g2, hg2⟩ : ∃ g, g1 + 1 = g := ⟨_, rfl⟩
  have A1 := lhd a1
  have X6 := lhd (X5.out.below a3 (by omega))
  have Y6 := lhd (Y5.out.below a3 (by omega))
  have HB6 := lhd (HB5.out.trans (a3.mono (by omega)))
  have hs6 : w6.heap.size = g2 + 1 := by omega
  have h12 : g1 < g2 := by omega
  rw [hg2] at A1 ⊢
  clear a1 a2 a3 hg2 X5 Y5 HB5 ca
  go_wp2_with (refine wpList_put_one rfl 4 _ _ rfl g2 (Value.bool (K2)) (Value.bool false) 4 rfl rfl A1.out sBoolP rfl ?_)
  intro w7 e1 e2 e3 e4
  have Z7 := lhd e1
  have X7 := lhd (X6.out.same (e4 g0 (by omega)))
  have Y7 := lhd (Y6.out.same (e4 g1 (by omega)))
  have HB7 := lhd (HB6.out.trans (e3.mono (by omega)))
  have hs7 : w7.heap.size = g2 + 1 := by omega
  clear e1 e2 e3 e4 A1 X6 Y6 HB6
  go_wp2
  go_ret
  refine ⟨_, rfl, ?_, by rw [HG0.out]; exact HB7.out⟩
  rw [← HAY.out, HG0.out]
  exact askIs c par (K2) g0 g1 g2 _ _ w7 X7.out Y7.out Z7.out ⟨Nat.le_refl _, by omega⟩ ⟨by omega, by omega⟩ ⟨by omega, by omega⟩
theorem waSame_anyL (l m : List Wa) (v u : Value) (w : World) (hr : RdE WaK w.heap.size w v l) (hr2 : RdE WaK w.heap.size w u m) (_hl : l.length ≤ 1000) (_hm : m.length ≤ 1000) : Calls Tryz.prog 59 #[.agg #[v], .agg #[u]] w (One (.bool (decide (l = m))) w) := by
 have HR := lhd hr
 have HR2 := lhd hr2
 clear hr hr2
 go_enter Tryz.func59, Tryz.ntmps59
 go_wp2_with (refine wpList_box_blk rfl 47 _ rfl [v] rfl ?_)
 intro w1 b1 b2 b3
 go_wp2_with (refine wpList_box_blk rfl 47 _ rfl [u] rfl ?_)
 intro w2 a1 a2 a3
 obtain ⟨g0, hg0⟩ : ∃ g, w.heap.size = g := ⟨_, rfl⟩
 obtain ⟨g1, hg1⟩ : ∃ g, w.heap.size + 1 = g := ⟨_, rfl⟩
 have X0 := lhd (b1.below a3 (by omega))
 have X1 := lhd a1
 have HB := lhd (b3.trans (a3.mono (by omega)))
 have hw2 : w.heap.size ≤ w2.heap.size := by omega
 have HRa := lhd ((HR.out.below HB.out).more hw2)
 have HRb := lhd ((HR2.out.below HB.out).more hw2)
 rw [hg1] at X1 ⊢
 rw [hg0] at X0 ⊢
 have ca := X0.out.at_ 0 _ rfl
 have cb := X1.out.at_ 0 _ rfl
 clear b1 b2 b3 a1 a2 a3 HR HR2
 go_wp2_with fail
 refine (eqFunc_anyWa l m v u w2 HRa.out HRb.out).mono ?_
 rintro e w3 ⟨rfl, hb⟩
 have HB3 := lhd (HB.out.trans (hb.mono hw2))
 clear hb ca cb
 go_wp2
 go_ret
 exact ⟨rfl, HB3.out⟩
theorem waAdd_own (l : List Wa) (x : Wa) (v : Value) (w : World) (hr : RdE WaK w.heap.size w v l) (hR : RightW l) : Calls Tryz.prog 225 #[.agg #[v], .agg (wac x).toArray] w (TabsO 163 v (addW l x) (addE l x) w) := by
 obtain ⟨d30, hu30, hd30⟩ := rowTbP
 have HU := lhd hu30
 have HD := lhd hd30
 have HR := lhd hr
 obtain ⟨n, hn⟩ : ∃ n, l.length = n := ⟨_, rfl⟩
 have HN := lhd hn
 have hn2 : n ≤ 200 := by
  rw [← hn]
  exact hR.few
 clear hr hR hu30 hd30 hn
 go_enter Tryz.func225, Tryz.ntmps225
 go_wp2_with (refine wpList_box_blk rfl 47 _ rfl [v] rfl ?_)
 intro w1 b1 b2 b3
 go_wp2_with (refine wpList_box_blk rfl 163 _ rfl (wac x) rfl ?_)
 intro w2 a1 a2 a3
 go_wp2_with (refine wpList_alloc_blk rfl 47 rfl [.slice none 0 0] zTbP ?_)
 intro w3 k1 k2 k3
 obtain ⟨g0, hg0⟩ : ∃ g, w.heap.size = g := ⟨_, rfl⟩
 obtain ⟨g1, hg1⟩ : ∃ g, w.heap.size + 1 = g := ⟨_, rfl⟩
 obtain ⟨g2, hg2⟩ : ∃ g, w.heap.size + 1 + 1 = g := ⟨_, rfl⟩
 have X0 := lhd ((b1.below a3 (by omega)).below k3 (by omega))
 have X1 := lhd (a1.below k3 (by omega))
 have X2 := lhd k1
 have HB := lhd ((b3.trans (a3.mono (by omega))).trans (k3.mono (by omega)))
 have hs3 : w3.heap.size = w.heap.size + 3 := by omega
 have hw2 : w.heap.size ≤ g2 := by omega
 rw [hg2] at X2 ⊢
 rw [hg1] at X1 ⊢
 rw [hg0] at X0 ⊢
 have ca := X0.out.at_ 0 _ rfl
 have HRc := lhd ((HR.out.below HB.out).more HB.out.size)
 obtain ⟨G, hG⟩ : ∃ G, w3.heap.size = G := ⟨_, rfl⟩
 have hG2 : g2 < G := by omega
 have hG1 : g1 < G := by omega
 have hGw : w.heap.size ≤ G := by omega
 have HG := lhd hG
 clear b1 b2 b3 a1 a2 a3 k1 k2 k3
 go_wp2_with fail
 refine (clone_anyWa l v w3 HRc.out (by rw [HN.out]; omega)).mono ?_
 rintro e w4 ⟨u, rfl, ho, hb⟩
 rw [HG.out] at ho hb
 obtain ⟨A, cp, hu, -, -⟩ := ho.rd.shape
 rw [HN.out] at hu
 subst hu
 have HO4 := lhd ho
 have X14 := lhd (X1.out.below hb hG1)
 have X24 := lhd (X2.out.below hb hG2)
 have HW4 : Hid (Below w.heap.size w w4) := HB.out.trans (hb.mono hGw)
 have hs4 : G ≤ w4.heap.size := by have := hb.size; omega
 clear ho hb ca X0 X1 X2 HB HRc hG hs3
 have d0 := X14.out.at_ 0 _ rfl
 have d1 := X14.out.at_ 1 _ rfl
 have d2 := X14.out.at_ 2 _ rfl
 obtain ⟨B, hB⟩ : ∃ B, rightB (wP x) = B := ⟨_, rfl⟩
 have HBB := lhd hB
 clear hB
 go_wp2_with fail
 refine (pRightIs (wP x) B HBB.out w4).mono ?_
 rintro e w5 ⟨rfl, hb⟩
 have HO5 := lhd (HO4.out.below hb (Nat.le_refl _))
 have X15 := lhd (X14.out.below hb (by omega))
 have X25 := lhd (X24.out.below hb (by omega))
 have HW5 := lhd (HW4.out.trans (hb.mono HW4.out.size))
 have hs5 : G ≤ w5.heap.size := by have := hb.size; omega
 clear hb d0 d1 d2 HO4 X14 X24 HW4
 have d0 := X15.out.at_ 0 _ rfl
 have d1 := X15.out.at_ 1 _ rfl
 have d2 := X15.out.at_ 2 _ rfl
 cases B
 ·have HE := lhd (addE_path l x HBB.out)
  go_wp2_with (refine wpList_store_to rfl 47 _ _ rfl g2 [.slice A n cp] [.slice none 0 0] 47 rfl rfl X25.out sTbP rfl (slice_one _ _ _) ?_)
  intro w20 e1 e2 e3 e4
  go_wp2
  refine bodyPost_ret (v := .tuple #[.agg #[.slice A n cp], .int .i64 13]) ?_ rfl ?_
  ·exact ret_blk2U rfl _ _ g2 47 [.slice A n cp] _ rfl rfl e1 d30 HU.out HD.out sTbP
  ·rw [HE.out.1, HE.out.2]
   have hq := ownsRow_same HO5.out (fun k hk => e4 k (by omega))
   exact ⟨_, rfl, OwnE.rd hq, .inr (OwnE.base hq (by first | exact Nat.le_refl _ | assumption | omega)), HW5.out.trans (e3.mono hw2)⟩
 by_cases hneg : wC x < 0
 ·have HE := lhd (addE_arg l x HBB.out hneg)
  go_wp2_with (refine wpList_store_to rfl 47 _ _ rfl g2 [.slice A n cp] [.slice none 0 0] 47 rfl rfl X25.out sTbP rfl (slice_one _ _ _) ?_)
  intro w20 e1 e2 e3 e4
  go_wp2
  refine bodyPost_ret (v := .tuple #[.agg #[.slice A n cp], .int .i64 1]) ?_ rfl ?_
  ·exact ret_blk2U rfl _ _ g2 47 [.slice A n cp] _ rfl rfl e1 d30 HU.out HD.out sTbP
  ·rw [HE.out.1, HE.out.2]
   have hq := ownsRow_same HO5.out (fun k hk => e4 k (by omega))
   exact ⟨_, rfl, OwnE.rd hq, .inr (OwnE.base hq (by first | exact Nat.le_refl _ | assumption | omega)), HW5.out.trans (e3.mono hw2)⟩
 have HNEG := lhd hneg
 obtain ⟨H, hH⟩ : ∃ H, hasW l x = H := ⟨_, rfl⟩
 have HH := lhd hH
 clear hH
 go_wp2_with fail
 refine (containsIsW l x H HH.out _ w5 HO5.out.rd).mono ?_
 rintro e w6 ⟨rfl, hb⟩
 have HO6 := lhd (HO5.out.below hb (Nat.le_refl _))
 have X16 := lhd (X15.out.below hb (by omega))
 have X26 := lhd (X25.out.below hb (by omega))
 have HW6 := lhd (HW5.out.trans (hb.mono HW5.out.size))
 have hs6 : G ≤ w6.heap.size := by have := hb.size; omega
 clear hb d0 d1 d2 HO5 X15 X25 HW5
 have d0 := X16.out.at_ 0 _ rfl
 have d1 := X16.out.at_ 1 _ rfl
 have d2 := X16.out.at_ 2 _ rfl
 cases H
 rotate_left
 ·have HE := lhd (addE_has l x HBB.out (by have := HNEG.out; omega) HH.out)
  go_wp2_with (refine wpList_store_to rfl 47 _ _ rfl g2 [.slice A n cp] [.slice none 0 0] 47 rfl rfl X26.out sTbP rfl (slice_one _ _ _) ?_)
  intro w20 e1 e2 e3 e4
  go_wp2
  refine bodyPost_ret (v := .tuple #[.agg #[.slice A n cp], .int .i64 0]) ?_ rfl ?_
  ·exact ret_blk2U rfl _ _ g2 47 [.slice A n cp] _ rfl rfl e1 d30 HU.out HD.out sTbP
  ·rw [HE.out.1, HE.out.2]
   have hq := ownsRow_same HO6.out (fun k hk => e4 k (by omega))
   exact ⟨_, rfl, OwnE.rd hq, .inr (OwnE.base hq (by first | exact Nat.le_refl _ | assumption | omega)), HW6.out.trans (e3.mono hw2)⟩
 by_cases hfull : (200 : Int) ≤ (n : Int)
 ·have HE := lhd (addE_full l x HBB.out (by have := HNEG.out; omega) HH.out (by rw [HN.out]; omega))
  go_wp2_with (refine wpList_store_to rfl 47 _ _ rfl g2 [.slice A n cp] [.slice none 0 0] 47 rfl rfl X26.out sTbP rfl (slice_one _ _ _) ?_)
  intro w20 e1 e2 e3 e4
  go_wp2
  refine bodyPost_ret (v := .tuple #[.agg #[.slice A n cp], .int .i64 9]) ?_ rfl ?_
  ·exact ret_blk2U rfl _ _ g2 47 [.slice A n cp] _ rfl rfl e1 d30 HU.out HD.out sTbP
  ·rw [HE.out.1, HE.out.2]
   have hq := ownsRow_same HO6.out (fun k hk => e4 k (by omega))
   exact ⟨_, rfl, OwnE.rd hq, .inr (OwnE.base hq (by first | exact Nat.le_refl _ | assumption | omega)), HW6.out.trans (e3.mono hw2)⟩
 have HE := lhd (addE_ok l x HBB.out (by have := HNEG.out; omega) HH.out (by rw [HN.out]; omega))
 have HO7 : Hid (OwnE WaK 163 (w6.alloc (.cells (wac x).toArray 163)) G (.slice A n cp) l) := HO6.out.alloc _
 have HW7 : Hid (Below G w6 (w6.alloc (.cells (wac x).toArray 163))) := (Below.refl _ _).alloc hs6 _
 go_wp2_with (at_builtin; refine wpList_appE (E := WaK) rfl _ _ 45 rfl 163 32 Tryz.underlying45 kindWaP G _ _ _ l [x] rfl HO7.out rfl (RdE.one w6 163 x) (by simp) ?d1 ?d2 ?d3 ?_)
 case d1 => have := HN.out; simp only [List.length_cons, List.length_nil]; omega
 case d2 => have := HN.out; simp only [List.length_cons, List.length_nil]; omega
 case d3 => simp; omega
 intro v8 w8 h8 hb8 _ _
 have HO8 := lhd h8
 have HW8 := lhd (HW7.out.trans hb8)
 clear h8 hb8 d0 d1 d2
 have Y2 := lhd (X26.out.below HW8.out hG2)
 obtain ⟨Ao, co, hv8, -, -⟩ := HO8.out.rd.shape
 obtain ⟨LL, hLL⟩ : ∃ LL, (l ++ [x]).length = LL := ⟨_, rfl⟩
 rw [hLL] at hv8
 subst hv8
 clear hLL
 go_wp2_with (refine wpList_store_to rfl 47 _ _ rfl g2 [.slice Ao LL co] [.slice none 0 0] 47 rfl rfl Y2.out sTbP rfl (slice_one _ _ _) ?_)
 intro w20 e1 e2 e3 e4
 go_wp2
 refine bodyPost_ret (v := .tuple #[.agg #[.slice Ao LL co], .int .i64 0]) ?_ rfl ?_
 ·exact ret_blk2U rfl _ _ g2 47 [.slice Ao LL co] _ rfl rfl e1 d30 HU.out HD.out sTbP
 ·rw [HE.out.1, HE.out.2]
  have hq := ownsRow_same HO8.out (fun k hk => e4 k (by omega))
  exact ⟨_, rfl, OwnE.rd hq, .inr (OwnE.base hq (by first | exact Nat.le_refl _ | assumption | omega)), HW6.out.trans ((HW8.out.mono hGw).trans (e3.mono hw2))⟩
theorem ownsRow_at {w w' : World} {b : Nat} {e : TypeId} {s : Nat} {v : Value} {n : Nat} {xs : List Value} (h : w.ownsRow b e s v n xs) (hO : ∀ g, v.ownBlock = some g → w'.heap[g]? = w.heap[g]?) : w'.ownsRow b e s v n xs := by
 refine ⟨h.1, ?_⟩
 rcases h.2 with hn | ⟨g, cap, cur, rfl, hg0, hg1, r⟩
 ·exact .inl hn
 ·exact .inr ⟨g, cap, cur, rfl, hg0, by rw [hO g rfl]; exact hg1, r⟩
theorem OwnE.blkOf {α : Type} {E : RowK α} {e : TypeId} {w : World} {base : Nat} {v : Value} {l : List α} (h : OwnE E e w base v l) {g : Nat} (hg : v.ownBlock = some g) : ∃ cs, Blk w g cs e := by
 rcases h.2 with ⟨rfl, _⟩ | ⟨g', cap, cur, rfl, h2, h3, _⟩
 ·cases hg
 ·injection hg with hg
  have hg : g' = g := hg
  subst hg
  exact ⟨cur.toList, by unfold Blk; simpa using h3⟩
theorem waFire_own (l : List Wa) (cs : List Ch) (v u : Value) (w : World) (hr : RdE WaK w.heap.size w v l) (hr2 : RdE ChK w.heap.size w u cs) (hR : RightW l) (hc : cs.length ≤ 1000) : Calls Tryz.prog 125 #[.agg #[v], u] w (FiresO 163 239 (leftW l cs) (fireW l cs) w) := by
 obtain ⟨A2, cp2, rfl, hc2, hm2⟩ := hr2.shape
 unfold maxLen at hm2
 obtain ⟨m, hk⟩ : ∃ n, cs.length = n := ⟨_, rfl⟩
 have HM := lhd hk
 have HR := lhd hr
 have HR2 := lhd hr2
 rw [hk] at hc hc2 HR2 ⊢
 have HL : Hid (l.length ≤ 200) := hR.few
 obtain ⟨d30, hu30, hd30⟩ := rowTbP
 have HU := lhd hu30
 have HD := lhd hd30
 clear hr hr2 hk hu30 hd30 hR
 go_enter Tryz.func125, Tryz.ntmps125
 go_wp2_with (refine wpList_box_blk rfl 47 _ rfl [v] rfl ?_)
 intro w1 b1 b2 b3
 go_wp2_with (refine wpList_alloc_blk rfl 47 rfl [.slice none 0 0] zTbP ?_)
 intro w2 a1 a2 a3
 obtain ⟨g0, hg0⟩ : ∃ g, w.heap.size = g := ⟨_, rfl⟩
 obtain ⟨g1, hg1⟩ : ∃ g, w.heap.size + 1 = g := ⟨_, rfl⟩
 obtain ⟨G, hG⟩ : ∃ G, w2.heap.size = G := ⟨_, rfl⟩
 have X0 := lhd (b1.below a3 (by omega))
 have X1 := lhd a1
 have HB := lhd (b3.trans (a3.mono (by omega)))
 have hwG : w.heap.size ≤ G := by omega
 have h0G : g0 < G := by omega
 have h1G : g1 < G := by omega
 have hw1 : w.heap.size ≤ g1 := by omega
 have HG := lhd hG
 have HRc := lhd ((HR.out.below HB.out).more HB.out.size)
 rw [hg1] at X1 ⊢
 rw [hg0] at X0 ⊢
 have ca := X0.out.at_ 0 _ rfl
 clear b1 b2 b3 a1 a2 a3 hg1 hG
 go_wp2_with fail
 refine (clone_anyWa l v w2 HRc.out (by have := HL.out; omega)).mono ?_
 rintro e w3 ⟨vL, rfl, ho, hb⟩
 rw [HG.out] at ho hb
 have HL3 := lhd ho
 have HW3 := lhd hb
 have hs3 : G ≤ w3.heap.size := by have := hb.size; rw [HG.out] at this; exact this
 have HE0 : Hid (OwnE EvK 239 w3 G (.slice none 0 0) []) := OwnE.nil _ _ _
 clear ho hb ca HRc
 go_wp2
 go_loopw [6, 7, 18] (fun lf o x wr => ∃ i : Nat, i ≤ m ∧ x = .int .i64 (i : Int) ∧ Hid (OwnE WaK 163 wr G lf (leftW l (cs.take i))) ∧ Hid (OwnE EvK 239 wr G o (fireW l (cs.take i))) ∧ Hid (Below G w2 wr) ∧ G ≤ wr.heap.size) (fun _ _ x _ => m - (intOf x).toNat)
 case atStart => exact ⟨0, by omega, rfl, HL3, HE0, HW3, hs3⟩
 case round =>
  obtain ⟨i, hi, rfl, HLF, HEV, HW, hwr⟩ := hrel
  have X1r := lhd (X1.out.below HW.out h1G)
  by_cases hi2 : i < m
  ·have zi : (i : Int) < (m : Int) := by omega
   have HCr := lhd ((HR2.out.below (HB.out.trans (HW.out.mono hwG))).more (by omega : w.heap.size ≤ wr.heap.size))
   obtain ⟨b, hA, c0, c1⟩ := HCr.out.atCh i (by rw [HM.out]; exact hi2)
   subst hA
   obtain ⟨c, hcx⟩ : ∃ c, cs.getD i ch0 = c := ⟨_, rfl⟩
   rw [hcx] at c0 c1
   have ht1 := leftW_snoc l cs i (by rw [HM.out]; exact hi2)
   have ht2 := fireW_snoc l cs i (by rw [HM.out]; exact hi2)
   rw [hcx] at ht1 ht2
   have hlen := leftW_len l (cs.take i)
   have hflen := fire_len l (cs.take i)
   obtain ⟨LW, hLW⟩ : ∃ L, leftW l (cs.take i) = L := ⟨_, rfl⟩
   obtain ⟨EW, hEW⟩ : ∃ L, fireW l (cs.take i) = L := ⟨_, rfl⟩
   rw [hLW] at HLF ht1 ht2 hlen hflen
   rw [hEW] at HEV ht2 hflen
   have HT1 := lhd ht1
   have HT2 := lhd ht2
   have hl9 : LW.length ≤ 200 := Nat.le_trans hlen HL.out
   have hf9 : EW.length ≤ 200 := by have := HL.out; omega
   clear hcx hLW hEW ht1 ht2 hlen hflen
   go_wp2_with (refine wpList_alloc_blk rfl 235 rfl (chc ch0) zeroChP ?_)
   intro wa a1 a2 a3
   obtain ⟨gC, hgC⟩ : ∃ g, wr.heap.size = g := ⟨_, rfl⟩
   have A1 := lhd a1
   have HLa := lhd (HLF.out.below a3 (Nat.le_refl _))
   have HEa := lhd (HEV.out.below a3 (Nat.le_refl _))
   have HWa := lhd (HW.out.trans (a3.mono hwr))
   have HLB : Hid (∀ g, u6.ownBlock = some g → g < gC) := fun g hg => by rw [← hgC]; exact (World.ownsRow.lt HLF.out g hg).2
   have HEB : Hid (∀ g, u7.ownBlock = some g → g < gC) := fun g hg => by rw [← hgC]; exact (World.ownsRow.lt HEV.out g hg).2
   have hsa : wa.heap.size = gC + 1 := by omega
   have hGC : G ≤ gC := by omega
   rw [hgC] at A1 ⊢
   clear a1 a2 a3 c0 c1 hgC HLF HEV HCr HW
   go_wp2_with (refine wpList_store_to rfl 235 _ _ rfl gC (chc c) (chc ch0) 235 rfl rfl A1.out szChP rfl (chc_all c) ?_)
   intro wb e1 e2 e3 e4
   have C1 := lhd e1
   have HLb : Hid (OwnE WaK 163 wb G u6 LW) := ownsRow_at HLa.out (fun g hg => e4 g (by have := HLB.out g hg; omega))
   have HEb : Hid (OwnE EvK 239 wb G u7 EW) := ownsRow_at HEa.out (fun g hg => e4 g (by have := HEB.out g hg; omega))
   have HWb := lhd (HWa.out.trans (e3.mono hGC))
   have hsb : wb.heap.size = gC + 1 := by omega
   have d0 := e1.at_ 0 _ rfl
   have d1 := e1.at_ 1 _ rfl
   clear e1 e2 e3 e4 A1 HLa HEa HWa
   go_wp2_with fail
   refine (touchedBy_any c wb).mono ?_
   rintro e w4 ⟨fv, rfl, ht, hb⟩
   obtain ⟨p9, hp9⟩ : ∃ p, wb.heap.size = p := ⟨_, rfl⟩
   obtain ⟨r9, hr9⟩ : ∃ p, w4.heap.size = p := ⟨_, rfl⟩
   have hpr : p9 ≤ r9 := by have := hb.size; omega
   have hcp : gC < p9 := by omega
   have C4 := lhd (C1.out.below hb (by omega))
   have HL4 := lhd (HLb.out.below hb (Nat.le_refl _))
   have HE4 := lhd (HEb.out.below hb (Nat.le_refl _))
   have HW4 := lhd (HWb.out.trans (hb.mono (by omega)))
   have HT4 := lhd ht
   rw [hp9, hr9] at HT4
   have HEB4 : Hid (∀ g, u7.ownBlock = some g → g < p9 ∨ r9 ≤ g) := fun g hg => .inl (by have := HEB.out g hg; omega)
   have HEL4 : Hid (OwnE EvK 239 w4 G u7 (EW ++ toldW c (LW.take 0))) := by
    have : EW ++ toldW c (LW.take 0) = EW := by rw [List.take_zero]; exact List.append_nil _
    show OwnE _ _ _ _ _ _
    rw [this]
    exact HE4.out
   have hs4 : r9 ≤ w4.heap.size := by omega
   obtain ⟨AL, cL, hvL, hcL, -⟩ := HL4.out.rd.shape
   obtain ⟨n9, hn9⟩ : ∃ n, LW.length = n := ⟨_, rfl⟩
   rw [hn9] at hvL hcL hl9
   have HN9 := lhd hn9
   subst hvL
   clear ht hb hp9 d0 d1 C1 HLb HEb HWb hsb hsa HE4 HEB hr9 hn9
   go_wp2
   go_loopw [7, 26] (fun ev x wr' => ∃ k : Nat, k ≤ n9 ∧ x = .int .i64 (k : Int) ∧ Hid (OwnE WaK 163 wr' G (.slice AL n9 cL) LW) ∧ Hid (OwnE EvK 239 wr' G ev (EW ++ toldW c (LW.take k))) ∧ Hid (∀ g, ev.ownBlock = some g → g < p9 ∨ r9 ≤ g) ∧ Hid (Tests (touchB c) fv p9 r9 wr') ∧ Hid (Blk wr' gC (chc c) 235) ∧ Hid (Below G w2 wr') ∧ r9 ≤ wr'.heap.size) (fun _ x _ => n9 - (intOf x).toNat)
   case atStart => exact ⟨0, by omega, rfl, HL4, HEL4, HEB4, HT4, C4, HW4, hs4⟩
   case round =>
    obtain ⟨k, hk, rfl, HLX, HEX, HBX, HTX, HCX, HWX, hsX⟩ := hrel
    by_cases hk2 : k < n9
    ·have zk : (k : Int) < (n9 : Int) := by omega
     obtain ⟨a, hA, c0, c1, c2⟩ := HLX.out.rd.atWa k (by rw [HN9.out]; exact hk2)
     subst hA
     obtain ⟨x, hx⟩ : ∃ x, LW.getD k wa0 = x := ⟨_, rfl⟩
     have hq2 := toldW_snoc c LW k (by rw [HN9.out]; exact hk2)
     have htl : (toldW c (LW.take k)).length ≤ LW.length := by
      have h1 := told_len c (LW.take k)
      have h2 : (LW.take k).length ≤ LW.length := by rw [List.length_take]; omega
      omega
     rw [hx] at c0 c1 c2 hq2
     have HQ2 := lhd hq2
     have HQL : Hid ((EW ++ toldW c (LW.take k)).length ≤ 400) := by
      show _ ≤ _
      rw [List.length_append]
      rw [HN9.out] at htl
      omega
     clear hx hq2 htl
     go_wp2_with (refine wpList_alloc_blk rfl 163 rfl (wac wa0) zeroWaP ?_)
     intro wc a1 a2 a3
     obtain ⟨gW, hgW⟩ : ∃ g, wr.heap.size = g := ⟨_, rfl⟩
     have A1 := lhd a1
     have HLc := lhd (HLX.out.below a3 (Nat.le_refl _))
     have HEc := lhd (HEX.out.below a3 (Nat.le_refl _))
     have HWc := lhd (HWX.out.trans (a3.mono (by omega)))
     have HTc := lhd (HTX.out.keep (W := wc) (fun k _ k2 => a3.block k (by omega)))
     have HCc := lhd (HCX.out.below a3 (by omega))
     have HLBc : Hid (∀ g, (Value.slice (some a) n9 cL).ownBlock = some g → g < gW) := fun g hg => by rw [← hgW]; exact (World.ownsRow.lt HLX.out g hg).2
     have HEBc : Hid (∀ g, u7.ownBlock = some g → g < gW) := fun g hg => by rw [← hgW]; exact (World.ownsRow.lt HEX.out g hg).2
     have hrW : r9 ≤ gW := by omega
     have hsc : wc.heap.size = gW + 1 := by omega
     rw [hgW] at A1 ⊢
     clear a1 a2 a3 c0 c1 c2 hgW HLX HEX HWX HTX HCX
     go_wp2_with (refine wpList_store_to rfl 163 _ _ rfl gW (wac x) (wac wa0) 163 rfl rfl A1.out szWaP rfl (wac_all x) ?_)
     intro wd e1 e2 e3 e4
     have W1 := lhd e1
     have HLd : Hid (OwnE WaK 163 wd G (.slice (some a) n9 cL) LW) := ownsRow_at HLc.out (fun g hg => e4 g (by have := HLBc.out g hg; omega))
     have HEd : Hid (OwnE EvK 239 wd G u7 (EW ++ toldW c (LW.take k))) := ownsRow_at HEc.out (fun g hg => e4 g (by have := HEBc.out g hg; omega))
     have HWd := lhd (HWc.out.trans (e3.mono (by omega)))
     have HTd := lhd (HTc.out.keep (W := wd) (fun k _ k2 => e4 k (by omega)))
     have HCd := lhd (HCc.out.same (e4 gC (by omega)))
     have hsd : wd.heap.size = gW + 1 := by omega
     have d0 := e1.at_ 0 _ rfl
     have d1 := e1.at_ 1 _ rfl
     have d2 := e1.at_ 2 _ rfl
     clear e1 e2 e3 e4 A1 HLc HEc HWc HTc HCc HLBc HEBc
     obtain ⟨f, lb, hfv, ef, hf⟩ := HTd.out
     subst hfv
     have hcall := hf wd (fun _ _ _ => rfl) x
     obtain ⟨B, hB⟩ : ∃ B, touchB c x = B := ⟨_, rfl⟩
     rw [hB] at hcall HQ2
     have HCL := lhd hcall
     clear hcall hB hf
     go_wp2_with fail
     refine HCL.out.mono ?_
     rintro e w5 ⟨rfl, hb⟩
     have W5 := lhd (W1.out.below hb (by omega))
     have HL5 := lhd (HLd.out.below hb (Nat.le_refl _))
     have HE5 := lhd (HEd.out.below hb (Nat.le_refl _))
     have HW5 := lhd (HWd.out.trans (hb.mono (by omega)))
     have HT5 := lhd (HTd.out.keep (W := w5) (fun k _ k2 => hb.block k (by omega)))
     have HC5 := lhd (HCd.out.below hb (by omega))
     have hs5 : gW + 1 ≤ w5.heap.size := by have := hb.size; omega
     clear hb d0 d1 d2 W1 HLd HEd HWd HTd HCd HCL
     have d0 := W5.out.at_ 0 _ rfl
     have d1 := W5.out.at_ 1 _ rfl
     have d2 := W5.out.at_ 2 _ rfl
     have k0 := HC5.out.at_ 0 _ rfl
     have k1 := HC5.out.at_ 1 _ rfl
     cases B
     ·have HEN : Hid (EW ++ toldW c (LW.take (k + 1)) = EW ++ toldW c (LW.take k)) := by
       show _ = _
       rw [HQ2.out]; simp
      rw [← HEN.out] at HE5
      go_wp2
      go_roundw
      case rel => exact ⟨k + 1, by omega, by go_num, HL5, HE5, HBX, HT5, HC5, HW5, by omega⟩
      case measure => simp [intOf]; omega
     ·have HEN : Hid (EW ++ toldW c (LW.take (k + 1)) = (EW ++ toldW c (LW.take k)) ++ [(x, c)]) := by
       show _ = _
       rw [HQ2.out, List.append_assoc]; rfl
      have HE6 : Hid (OwnE EvK 239 (w5.alloc (.cells (evc (x, c)).toArray 239)) G u7 (EW ++ toldW c (LW.take k))) := HE5.out.alloc _
      have HL6 : Hid (OwnE WaK 163 (w5.alloc (.cells (evc (x, c)).toArray 239)) G (.slice (some a) n9 cL) LW) := HL5.out.alloc _
      have HW6 : Hid (Below G w2 (w5.alloc (.cells (evc (x, c)).toArray 239))) := HW5.out.alloc (by omega) _
      have HT6 : Hid (Tests (touchB c) (.func (.func f) #[] lb) p9 r9 (w5.alloc (.cells (evc (x, c)).toArray 239))) := HT5.out.keep (fun k _ k2 => ((Below.refl w5.heap.size w5).alloc (Nat.le_refl _) _).block k (by omega))
      have HC6 : Hid (Blk (w5.alloc (.cells (evc (x, c)).toArray 239)) gC (chc c) 235) := HC5.out.alloc _
      have hs6 : gW + 1 ≤ (w5.alloc (.cells (evc (x, c)).toArray 239)).heap.size := by simp; omega
      go_wp2_with (at_builtin; refine wpList_appE (E := EvK) rfl _ _ 51 rfl 239 56 Tryz.underlying51 kindEvP G _ _ _ (EW ++ toldW c (LW.take k)) [(x, c)] rfl HE6.out rfl (RdE.one w5 239 (x, c)) (by simp) ?d1 ?d2 ?d3 ?_)
      case d1 => have := HQL.out; first | (simp only [List.length_cons, List.length_nil]; omega) | omega
      case d2 => have := HQL.out; first | (simp only [List.length_cons, List.length_nil]; omega) | omega
      case d3 => exact Nat.le_trans (show G ≤ gW + 1 by omega) hs6
      intro v7 w7 h7 hb7 hg7 hn7
      have HE7 : Hid (OwnE EvK 239 w7 G v7 (EW ++ toldW c (LW.take (k + 1)))) := by
       show OwnE _ _ _ _ _ _
       rw [HEN.out]
       first | exact h7 | (rw [List.append_assoc]; exact h7)
      have HL7 : Hid (OwnE WaK 163 w7 G (.slice (some a) n9 cL) LW) := ownsRow_other (by decide) HL6.out HE6.out hg7
      have HW7 : Hid (Below G w2 w7) := HW6.out.trans (hb7.mono (Nat.le_refl _))
      have HK7 : Hid (∀ k, k < r9 → (p9 ≤ k ∨ k = gC) → w7.heap[k]? = (w5.alloc (.cells (evc (x, c)).toArray 239)).heap[k]?) := fun k k1 k2 => hg7.block k (Nat.lt_of_lt_of_le (show k < gW + 1 by omega) hs6) (fun e => by
       rcases k2 with k2 | rfl
       ·have := HBX.out k e.symm; omega
       ·exact HE6.out.not_blk HC6.out (by decide) e.symm)
      have HT7 := lhd (HT6.out.keep (W := w7) (fun k k1 k2 => HK7.out k k2 (.inl k1)))
      have HC7 := lhd (HC6.out.same (HK7.out gC (by omega) (.inr rfl)))
      have HB7 : Hid (∀ g, v7.ownBlock = some g → g < p9 ∨ r9 ≤ g) := fun g hg => by
       rcases hn7 with hn7 | ⟨q, hq, hq2⟩
       ·rw [hn7] at hg; exact HBX.out g hg
       ·rw [hq] at hg; injection hg with hg; exact .inr (by rw [← hg]; omega)
      have hs7 : r9 ≤ w7.heap.size := Nat.le_trans (Nat.le_trans (show r9 ≤ gW + 1 by omega) hs6) hb7.size
      clear h7 hb7 hg7 hn7 d0 d1 d2 k0 k1
      go_wp2
      go_roundw
      case rel => exact ⟨k + 1, by omega, by go_num, HL7, HE7, HB7, HT7, HC7, HW7, hs7⟩
      case measure => simp [intOf]; omega
    ·have hE : k = n9 := by omega
     subst hE
     have HFL : Hid (LW.take k = LW) := List.take_of_length_le (by rw [HN9.out]; exact Nat.le_refl _)
     rw [HFL.out, ← HT2.out] at HEX
     go_wp2_with fail
     refine (delFunc_any (touchB c) LW (.slice AL k cL) fv p9 r9 G wr HLX.out (by omega) HTX.out hsX (fun g hg => by have := HLB.out g hg; omega)).mono ?_
     rintro e w5 ⟨u5, rfl, ho, hb, he⟩
     have HLN : Hid (OwnE WaK 163 w5 G u5 (leftW l (cs.take (i + 1)))) := by
      show OwnE _ _ _ _ _ _
      rw [HT1.out]
      exact ho
     have HENN : Hid (OwnE EvK 239 w5 G u7 (fireW l (cs.take (i + 1)))) := ownsRow_at HEX.out (fun g hg => he g (World.ownsRow.lt HEX.out g hg).2 (fun e => by
      obtain ⟨q, hq⟩ := HEX.out.blkOf hg
      exact HLX.out.not_blk hq (by decide) e))
     have HWN := lhd (HWX.out.trans hb)
     have hsN : G ≤ w5.heap.size := by have := hb.size; omega
     clear ho hb he
     go_wp2
     go_roundw
     case rel => exact ⟨i + 1, by omega, by go_num, HLN, HENN, HWN, hsN⟩
     case measure => simp [intOf]; omega
  ·have hE : i = m := by omega
   subst hE
   have HFL : Hid (cs.take i = cs) := List.take_of_length_le (by rw [HM.out]; exact Nat.le_refl _)
   rw [HFL.out] at HLF HEV
   obtain ⟨Ao, co, ho, -, -⟩ := HLF.out.rd.shape
   obtain ⟨LL, hLL⟩ : ∃ LL, (leftW l cs).length = LL := ⟨_, rfl⟩
   rw [hLL] at ho
   subst ho
   clear hLL
   go_wp2_with (refine wpList_store_to rfl 47 _ _ rfl g1 [.slice Ao LL co] [.slice none 0 0] 47 rfl rfl X1r.out sTbP rfl (slice_one _ _ _) ?_)
   intro w20 e1 e2 e3 e4
   go_wp2
   refine bodyPost_ret (v := .tuple #[.agg #[.slice Ao LL co], u7]) ?_ rfl ?_
   ·exact ret_blk1W rfl _ _ g1 47 [.slice Ao LL co] _ rfl rfl e1 d30 HU.out HD.out sTbP
   ·have hq := ownsRow_same HLF.out (fun k hk => e4 k (by omega))
    have hq2 := ownsRow_same HEV.out (fun k hk => e4 k (by omega))
    exact ⟨_, _, rfl, OwnE.base hq (by first | exact Nat.le_refl _ | assumption | omega), OwnE.base hq2 (by first | exact Nat.le_refl _ | assumption | omega), HB.out.trans ((HW.out.mono hwG).trans (e3.mono hw1))⟩
end Go.Proofs.YtgfobinklijkpaaGreatDoor
