/-
  The program's watches: touchedBy, Touches, Same, Cancel. Each theorem states its own conditions.
-/
import Derived.Test.YtmiomfonglmfjaaUK
import Derived.Test.YtmiomfonglmfjaaQ4
namespace Go.Proofs.Ytmiomfonglmfjaa
open Go.RowKit

theorem rowTbP : ∃ d, Try.prog.underlying 24 = some d ∧ d.isRow = true := ⟨_, Try.underlying24, rfl⟩
theorem sTbP : (Try.prog.info? 24).map (·.size) = some 1 := by kernel_rfl
theorem zTbP : (Try.prog.info? 24).map (·.zero) = some (some (.agg [Value.slice none 0 0].toArray)) := by kernel_rfl
theorem zStrP : (Try.prog.info? 9).map (·.zero) = some (some (txt [])) := by kernel_rfl
theorem zBoolP : (Try.prog.info? 4).map (·.zero) = some (some (Value.bool false)) := by kernel_rfl
theorem sStrP : (Try.prog.info? 9).map (·.size) = some 1 := by kernel_rfl
theorem sBoolP : (Try.prog.info? 4).map (·.size) = some 1 := by kernel_rfl
theorem pRightIs (s : List UInt8) (b : Bool) (h : rightB s = b) (w : World) : Calls Try.prog 31 #[txt s] w (One (.bool b) w) := by
  rw [← h]
  exact pxRight_any s w
theorem pParentIs (s u : List UInt8) (f : Nat) (h : parentS s = u) (h2 : parentE s = f) (w : World) : Calls Try.prog 39 #[txt s] w (Says u f w) := by
  rw [← h, ← h2]
  exact pxParent_any s w
/-- The call answers a test. -/
def TestsOf (q : Wa → Bool) (w : World) (e : Ending) (w' : World) : Prop := ∃ fv, e = .returned fv ∧ Tests q fv w.heap.size w'.heap.size w' ∧ Below w.heap.size w w'
theorem ask_touch (c : Ch) (h1 : ¬ cK c < 1) (h2 : ¬ 3 < cK c) (h3 : rightB (cP c) = true) : askB c (parentS (cP c)) (decide (parentE (cP c) = 0) && decide (cK c ≠ 2)) = touchB c := by
  funext x
  unfold askB
  cases hk : wK x
  · rw [if_neg (by simp), touch_here c x h1 h2 h3 hk]
    by_cases h : wP x = cP c
    · rw [decide_eq_true h, decide_eq_true h.symm]
    · rw [decide_eq_false h, decide_eq_false (fun e => h e.symm)]
  · rw [if_pos rfl, touch_kids c x h1 h2 h3 hk]
    unfold kidsB
    by_cases h : wP x = parentS (cP c)
    · rw [decide_eq_true h, decide_eq_true h.symm]
      cases decide (parentE (cP c) = 0) <;> simp
    · have h' : ¬ parentS (cP c) = wP x := fun e => h e.symm
      rw [decide_eq_false h, decide_eq_false h']
      simp
theorem none_touch (c : Ch) (h : cK c < 1 ∨ 3 < cK c ∨ rightB (cP c) = false) : (fun _ => false) = touchB c := by
  funext x
  rcases h with h | h | h
  · rw [touch_low c x h]
  · rw [touch_high c x h]
  · rw [touch_bad c x h]

set_option maxRecDepth 100000 in
set_option maxHeartbeats 8000000 in
theorem touchedBy_any (c : Ch) (w : World) : Calls Try.prog 28 #[.agg #[.int .i64 (cK c), txt (cP c)]] w (TestsOf (touchB c) w) := by
  have hnone := none_touch c
  have hask := ask_touch c
  obtain ⟨Q, hQ⟩ : ∃ Q, touchB c = Q := ⟨_, rfl⟩
  rw [hQ] at hnone hask ⊢
  clear hQ
  obtain ⟨par, hpar⟩ : ∃ u, parentS (cP c) = u := ⟨_, rfl⟩
  obtain ⟨f, hf⟩ : ∃ f, parentE (cP c) = f := ⟨_, rfl⟩
  obtain ⟨R, hR⟩ : ∃ R, rightB (cP c) = R := ⟨_, rfl⟩
  rw [hpar, hf, hR] at hask
  rw [hR] at hnone
  have HPar := Lib.hid hpar
  have HF := Lib.hid hf
  have HRR := Lib.hid hR
  have HNO := Lib.hid hnone
  have HAS := Lib.hid hask
  have hmf : ∀ (fn : Fn) (first cap : Array Value) (w : World), (Instr.makeFunc fn first cap).run Try.prog w = .ok (.func fn first cap) w := fun _ _ _ _ => rfl
  clear hnone hask hpar hf hR
  go_enter Try.func28, Try.ntmps28
  go_wp2_with (refine wpList_box_blk rfl 26 _ rfl (chc c) rfl ?_)
  intro w1 b1 b2 b3
  obtain ⟨g0, hg0⟩ : ∃ g, w.heap.size = g := ⟨_, rfl⟩
  have X0 := Lib.hid b1
  have HB := Lib.hid b3
  have hs1 : w1.heap.size = g0 + 1 := by omega
  have HG0 := Lib.hid hg0
  rw [hg0] at X0 HB ⊢
  have ca := X0.out.at_ 0 _ rfl
  have cb := X0.out.at_ 1 _ rfl
  clear b1 b2 b3 hg0
  by_cases hlo : cK c < 1
  · have HX := Lib.hid (HNO.out (.inl hlo))
    go_wp2
    go_ret
    exact ⟨_, rfl, by rw [← HX.out]; exact noneIs _ _ _, by rw [HG0.out]; exact HB.out⟩
  by_cases hhi : 3 < cK c
  · have HX := Lib.hid (HNO.out (.inr (.inl hhi)))
    go_wp2
    go_ret
    exact ⟨_, rfl, by rw [← HX.out]; exact noneIs _ _ _, by rw [HG0.out]; exact HB.out⟩
  go_wp2_with fail
  refine (pRightIs (cP c) R HRR.out w1).mono ?_
  rintro e w2 ⟨rfl, hb⟩
  have X2 := Lib.hid (X0.out.below hb (by omega))
  have HB2 := Lib.hid (HB.out.trans (hb.mono (by omega)))
  have hs2 : g0 + 1 ≤ w2.heap.size := by have := hb.size; omega
  clear hb ca cb X0 HB
  cases R
  · have HX := Lib.hid (HNO.out (.inr (.inr rfl)))
    go_wp2
    go_ret
    exact ⟨_, rfl, by rw [← HX.out]; exact noneIs _ _ _, by rw [HG0.out]; exact HB2.out⟩
  have ca := X2.out.at_ 0 _ rfl
  have cb := X2.out.at_ 1 _ rfl
  go_wp2_with fail
  refine (pParentIs (cP c) par f HPar.out HF.out w2).mono ?_
  rintro e w3 ⟨rfl, hb⟩
  have X3 := Lib.hid (X2.out.below hb (by omega))
  have HB3 := Lib.hid (HB2.out.trans (hb.mono (by omega)))
  have hs3 : g0 + 1 ≤ w3.heap.size := by have := hb.size; omega
  clear hb ca cb X2 HB2
  go_wp2_with (refine wpList_alloc_one rfl 9 rfl (txt []) zStrP rfl ?_)
  intro w4 a1 a2 a3
  obtain ⟨g1, hg1⟩ : ∃ g, w3.heap.size = g := ⟨_, rfl⟩
  have A1 := Lib.hid a1
  have X4 := Lib.hid (X3.out.below a3 (by omega))
  have HB4 := Lib.hid (HB3.out.trans (a3.mono (by omega)))
  have hs4 : w4.heap.size = g1 + 1 := by omega
  have h01 : g0 < g1 := by omega
  rw [hg1] at A1 ⊢
  clear a1 a2 a3 hg1 X3 HB3
  go_wp2_with (refine wpList_put_one rfl 9 _ _ rfl g1 (txt par) (txt []) 9 rfl rfl A1.out sStrP rfl ?_)
  intro w5 e1 e2 e3 e4
  have Y5 := Lib.hid e1
  have X5 := Lib.hid (X4.out.same (e4 g0 (by omega)))
  have HB5 := Lib.hid (HB4.out.trans (e3.mono (by omega)))
  have hs5 : w5.heap.size = g1 + 1 := by omega
  clear e1 e2 e3 e4 A1 X4 HB4
  have ca := X5.out.at_ 0 _ rfl
  obtain ⟨F2, hF2⟩ : ∃ b, decide (f = 0) = b := ⟨_, rfl⟩
  obtain ⟨K2, hK2⟩ : ∃ b, decide (cK c ≠ 2) = b := ⟨_, rfl⟩
  have has := HAS.out hlo hhi (by trivial)
  rw [hF2, hK2] at has
  have HAX := Lib.hid has
  have he1 : ((f : Int) == 0) = F2 := by
    rw [← hF2]
    by_cases h : f = 0
    · rw [decide_eq_true h, h]; rfl
    · rw [decide_eq_false h]; exact int_neE _ _ (by omega)
  have he2 : (cK c != 2) = K2 := by
    rw [← hK2]
    by_cases h : cK c = 2
    · rw [decide_eq_false (by simpa using h), h]; rfl
    · rw [decide_eq_true h]; rw [bne_iff_ne]; exact h
  clear has hF2 hK2 HNO HAS HRR HPar HF hlo hhi
  cases F2
  · have HAY : Hid (askB c par (false) = Q) := by
      show _ = _
      rw [← HAX.out]
      rfl
    go_wp2_with (refine wpList_alloc_one rfl 4 rfl (Value.bool false) zBoolP rfl ?_)
    intro w6 a1 a2 a3
    obtain ⟨g2, hg2⟩ : ∃ g, g1 + 1 = g := ⟨_, rfl⟩
    have A1 := Lib.hid a1
    have X6 := Lib.hid (X5.out.below a3 (by omega))
    have Y6 := Lib.hid (Y5.out.below a3 (by omega))
    have HB6 := Lib.hid (HB5.out.trans (a3.mono (by omega)))
    have hs6 : w6.heap.size = g2 + 1 := by omega
    have h12 : g1 < g2 := by omega
    rw [hg2] at A1 ⊢
    clear a1 a2 a3 hg2 X5 Y5 HB5 ca
    go_wp2_with (refine wpList_put_one rfl 4 _ _ rfl g2 (Value.bool (false)) (Value.bool false) 4 rfl rfl A1.out sBoolP rfl ?_)
    intro w7 e1 e2 e3 e4
    have Z7 := Lib.hid e1
    have X7 := Lib.hid (X6.out.same (e4 g0 (by omega)))
    have Y7 := Lib.hid (Y6.out.same (e4 g1 (by omega)))
    have HB7 := Lib.hid (HB6.out.trans (e3.mono (by omega)))
    have hs7 : w7.heap.size = g2 + 1 := by omega
    clear e1 e2 e3 e4 A1 X6 Y6 HB6
    go_wp2
    go_ret
    refine ⟨_, rfl, ?_, by rw [HG0.out]; exact HB7.out⟩
    rw [← HAY.out, HG0.out]
    exact askIs c par (false) g0 g1 g2 _ _ w7 X7.out Y7.out Z7.out ⟨Nat.le_refl _, by omega⟩ ⟨by omega, by omega⟩ ⟨by omega, by omega⟩
  · have HAY : Hid (askB c par (K2) = Q) := by
      show _ = _
      rw [← HAX.out]
      rfl
    go_wp2_with (refine wpList_alloc_one rfl 4 rfl (Value.bool false) zBoolP rfl ?_)
    intro w6 a1 a2 a3
    obtain ⟨g2, hg2⟩ : ∃ g, g1 + 1 = g := ⟨_, rfl⟩
    have A1 := Lib.hid a1
    have X6 := Lib.hid (X5.out.below a3 (by omega))
    have Y6 := Lib.hid (Y5.out.below a3 (by omega))
    have HB6 := Lib.hid (HB5.out.trans (a3.mono (by omega)))
    have hs6 : w6.heap.size = g2 + 1 := by omega
    have h12 : g1 < g2 := by omega
    rw [hg2] at A1 ⊢
    clear a1 a2 a3 hg2 X5 Y5 HB5 ca
    go_wp2_with (refine wpList_put_one rfl 4 _ _ rfl g2 (Value.bool (K2)) (Value.bool false) 4 rfl rfl A1.out sBoolP rfl ?_)
    intro w7 e1 e2 e3 e4
    have Z7 := Lib.hid e1
    have X7 := Lib.hid (X6.out.same (e4 g0 (by omega)))
    have Y7 := Lib.hid (Y6.out.same (e4 g1 (by omega)))
    have HB7 := Lib.hid (HB6.out.trans (e3.mono (by omega)))
    have hs7 : w7.heap.size = g2 + 1 := by omega
    clear e1 e2 e3 e4 A1 X6 Y6 HB6
    go_wp2
    go_ret
    refine ⟨_, rfl, ?_, by rw [HG0.out]; exact HB7.out⟩
    rw [← HAY.out, HG0.out]
    exact askIs c par (K2) g0 g1 g2 _ _ w7 X7.out Y7.out Z7.out ⟨Nat.le_refl _, by omega⟩ ⟨by omega, by omega⟩ ⟨by omega, by omega⟩

set_option maxRecDepth 100000 in
set_option maxHeartbeats 4000000 in
theorem waSame_any (l m : List Wa) (v u : Value) (w : World) (hr : RdE WaK w.heap.size w v l) (hr2 : RdE WaK w.heap.size w u m) (_hl : l.length ≤ 60) (_hm : m.length ≤ 60) : Calls Try.prog 16 #[.agg #[v], .agg #[u]] w (One (.bool (decide (l = m))) w) := by
  have HR := Lib.hid hr
  have HR2 := Lib.hid hr2
  clear hr hr2
  go_enter Try.func16, Try.ntmps16
  go_wp2_with (refine wpList_box_blk rfl 24 _ rfl [v] rfl ?_)
  intro w1 b1 b2 b3
  go_wp2_with (refine wpList_box_blk rfl 24 _ rfl [u] rfl ?_)
  intro w2 a1 a2 a3
  obtain ⟨g0, hg0⟩ : ∃ g, w.heap.size = g := ⟨_, rfl⟩
  obtain ⟨g1, hg1⟩ : ∃ g, w.heap.size + 1 = g := ⟨_, rfl⟩
  have X0 := Lib.hid (b1.below a3 (by omega))
  have X1 := Lib.hid a1
  have HB := Lib.hid (b3.trans (a3.mono (by omega)))
  have hw2 : w.heap.size ≤ w2.heap.size := by omega
  have HRa := Lib.hid ((HR.out.below HB.out).more hw2)
  have HRb := Lib.hid ((HR2.out.below HB.out).more hw2)
  rw [hg1] at X1 ⊢
  rw [hg0] at X0 ⊢
  have ca := X0.out.at_ 0 _ rfl
  have cb := X1.out.at_ 0 _ rfl
  clear b1 b2 b3 a1 a2 a3 HR HR2
  go_wp2_with fail
  refine (eqFunc_anyWa l m v u w2 HRa.out HRb.out).mono ?_
  rintro e w3 ⟨rfl, hb⟩
  have HB3 := Lib.hid (HB.out.trans (hb.mono hw2))
  clear hb ca cb
  go_wp2
  go_ret
  exact ⟨rfl, HB3.out⟩

end Go.Proofs.Ytmiomfonglmfjaa
