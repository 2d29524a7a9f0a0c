/-
  The program's shelves: children, List. Each theorem states its own conditions.
-/
import Derived.Test.YtlpakfaoaodaiaaDoorG2
import Derived.Test.YtlpakfaoaodaiaaDoorHC
namespace Go.Proofs.YtlpakfaoaodaiaaDoor
open Go.RowKit

set_option maxRecDepth 100000 in
set_option maxHeartbeats 2000000 in
/-- The function that asks whether a node is a child; the path lies in block g. -/
theorem kidFn_any (x : Nd) (p : List UInt8) (g : Nat) (w : World) (hg : g < w.heap.size) (hc : w.cell? ⟨g, 0, none⟩ = some (txt p)) : Calls Tryd.prog 73 #[ndv x, .pointer (some ⟨g, 0, none⟩)] w (One (.bool (kidN p x)) w) := by
  obtain ⟨a, b, c, d⟩ := x
  have HK : Hid (kidN p (a, b, c, d) = (decide (parentE a = 0) && decide (parentS a = p))) := rfl
  obtain ⟨K, hK⟩ : ∃ K, kidN p (a, b, c, d) = K := ⟨_, rfl⟩
  rw [hK] at HK ⊢
  clear hK
  show Calls Tryd.prog _ #[.agg #[txt a, txt b, .int .i64 c, .int .i64 d], _] w _
  go_enter Tryd.func73, Tryd.ntmps73
  go_wp2_with (refine wpList_box_blk rfl 53 _ rfl [txt a, txt b, .int .i64 c, .int .i64 d] rfl ?_)
  intro w1 b1 b2 b3
  have HB := Lib.hid b3
  have c0 := b1.cell 0
  have C1 := Lib.hid ((b3.cell hg).trans hc)
  have hs1 : w.heap.size ≤ w1.heap.size := by omega
  have hg1 : g < w1.heap.size := by omega
  obtain ⟨k, hk⟩ : ∃ k, w.heap.size = k := ⟨_, rfl⟩
  rw [hk] at c0 ⊢
  clear b1 b2 b3 hc hg
  go_wp2_with fail
  refine (pxParent_any a w1).mono ?_
  rintro e w2 ⟨rfl, hb⟩
  have c1 := (hb.cell hg1).trans C1.out
  have HB2 := Lib.hid (HB.out.trans (hb.mono hs1))
  clear hb c0 hs1 hg1
  by_cases h0 : parentE a = 0
  · rw [h0]
    obtain ⟨up, hup⟩ : ∃ up, parentS a = up := ⟨_, rfl⟩
    rw [hup] at HK ⊢
    by_cases h1 : up = p
    · have HF : Hid (K = true) := by
        show _ = _
        rw [HK.out, h0, h1]; simp
      subst h1
      have hb : (up == up) = true := by simp
      clear h0 hup
      go_wp2
      go_ret
      exact ⟨by rw [HF.out]; rfl, HB2.out⟩
    · have HF : Hid (K = false) := by
        show _ = _
        rw [HK.out, decide_eq_false h1]; simp
      have hb : (up == p) = false := by simpa using h1
      clear h0 hup h1
      go_wp2
      go_ret
      exact ⟨by rw [HF.out]; rfl, HB2.out⟩
  · have HF : Hid (K = false) := by
      show _ = _
      rw [HK.out, decide_eq_false h0]; simp
    obtain ⟨f, hf⟩ : ∃ f, parentE a = f := ⟨_, rfl⟩
    have h1 : ((f : Int) == 0) = false := by
      rw [beq_eq_false_iff_ne]
      omega
    rw [hf]
    clear h0 hf
    go_wp2
    go_ret
    exact ⟨by rw [HF.out]; rfl, HB2.out⟩

/-- The call answers the function that asks for children of p. -/
def KidOf (p : List UInt8) (w : World) (e : Ending) (w' : World) : Prop :=
  ∃ g, e = .returned (.func (.func 73) #[] #[.pointer (some ⟨g, 0, none⟩)]) ∧ g < w'.heap.size ∧ w'.cell? ⟨g, 0, none⟩ = some (txt p) ∧ Below w.heap.size w w'
theorem kidEnter (args : Array Value) (w : World) : (callFunc 73 args).run Tryd.prog w = .ok (.enter 73 args) w := enters_of Tryd.func73 (by kernel_rfl) rfl args w
theorem shChild_any (p : List UInt8) (w : World) : Calls Tryd.prog 52 #[txt p] w (KidOf p w) := by
  have hmf : ∀ (fn : Fn) (first cap : Array Value) (w : World), (Instr.makeFunc fn first cap).run Tryd.prog w = .ok (.func fn first cap) w := fun _ _ _ _ => rfl
  go_enter Tryd.func52, Tryd.ntmps52
  go_wp2_with (refine wpList_box_one rfl 9 _ rfl (txt p) rfl rfl ?_)
  intro w1 b1 b2 b3
  have HB := Lib.hid b3
  have c0 := Lib.hid (b1.cell 0)
  have hk1 : w.heap.size < w1.heap.size := by omega
  obtain ⟨k, hk⟩ : ∃ k, w.heap.size = k := ⟨_, rfl⟩
  have HK := Lib.hid hk
  rw [hk] at c0 hk1 ⊢
  clear b1 b2 b3 hk
  go_wp2
  go_ret
  exact ⟨k, rfl, hk1, c0.out, HB.out⟩

set_option maxRecDepth 100000 in
set_option maxHeartbeats 4000000 in
theorem shList_any (l : List Nd) (p : List UInt8) (v : Value) (w : World) (hr : RdNd w.heap.size w v l) (hl : l.length ≤ 1000000) : Calls Tryd.prog 29 #[.agg #[v], txt p] w (Lists (listS l p) (getE l p) w) := by
  obtain ⟨i0, hI, hz0, hz1, hz2⟩ := info_partsStr
  obtain ⟨A, cp, rfl, hc, hm⟩ := hr.shape
  unfold maxLen at hm
  obtain ⟨n, hn⟩ : ∃ n, l.length = n := ⟨_, rfl⟩
  have HN := Lib.hid hn
  have HR := Lib.hid hr
  rw [hn] at hc HR hl ⊢
  have HL := Lib.hid hl
  clear hr hl hn
  go_enter Tryd.func29, Tryd.ntmps29
  go_wp2_with (refine wpList_box_blk rfl 24 _ rfl [.slice A n cp] rfl ?_)
  intro w1 b1 b2 b3
  obtain ⟨g0, hg0⟩ : ∃ g, w.heap.size = g := ⟨_, rfl⟩
  have HRa := Lib.hid ((HR.out.below b3).more (show w.heap.size ≤ w1.heap.size by omega))
  have X0 := Lib.hid b1
  have HB := Lib.hid b3
  have hw1 : w.heap.size ≤ w1.heap.size := by omega
  have hg1 : g0 < w1.heap.size := by omega
  rw [hg0] at X0 ⊢
  have ca := X0.out.cell 0
  clear b1 b2 b3 hg0
  go_wp2_with fail
  refine (shGet_any l p _ w1 HRa.out).mono ?_
  rintro e w2 ⟨rfl, hb⟩
  have hs2 := hb.size
  have X2 := Lib.hid (X0.out.below hb hg1)
  have HB2 := Lib.hid (HB.out.trans (hb.mono hw1))
  have HR2 := Lib.hid ((HRa.out.below hb).more hs2)
  clear hb X0 HB HRa ca
  go_wp2_with (refine wpList_alloc_blk rfl 53 rfl (ndc nd0) zPN ?_)
  intro w3 a1 a2 a3
  obtain ⟨g2, hg2⟩ : ∃ g, w2.heap.size = g := ⟨_, rfl⟩
  have X3 := Lib.hid (X2.out.below a3 (by omega))
  have Y3 := Lib.hid a1
  have HB3 := Lib.hid (HB2.out.trans (a3.mono (by omega)))
  have HR3 := Lib.hid ((HR2.out.below a3).more (show w2.heap.size ≤ w3.heap.size by omega))
  have hw3 : g2 < w3.heap.size := by omega
  have hg02 : g0 < g2 := by omega
  have hwg : w.heap.size ≤ g2 := by omega
  have hw13 : w1.heap.size ≤ w3.heap.size := by omega
  rw [hg2] at Y3 ⊢
  clear a1 a2 a3 X2 HB2 HR2 hg2
  obtain ⟨f, hf⟩ : ∃ f, getE l p = f := ⟨_, rfl⟩
  have HF := Lib.hid hf
  obtain ⟨x, hx⟩ : ∃ x, getS l p = x := ⟨_, rfl⟩
  rw [hx, hf]
  clear hx hf
  go_wp2_with (refine wpList_store_to rfl 53 _ _ rfl g2 (ndc x) (ndc nd0) 53 rfl rfl Y3.out sPN rfl (ndc_one _) ?_)
  intro w4 c1 c2 c3 c4
  have X4 := Lib.hid (X3.out.same (c4 g0 (by omega)))
  have HB4 := Lib.hid (HB3.out.trans (c3.mono hwg))
  have hw4 : w3.heap.size = w4.heap.size := c2.symm
  have HR4 : Hid (RdNd w4.heap.size w4 (.slice A n cp) l) :=
    (HR.out.below HB4.out).more (by omega)
  have ca := X4.out.cell 0
  clear c1 c2 c3 c4 X3 Y3 HB3 HR3
  by_cases h0 : f = 0
  · subst h0
    have HE := Lib.hid (list_yes l p HF.out)
    clear ca
    go_wp2_with fail
    refine (shChild_any p w4).mono ?_
    rintro e w5 ⟨gk, rfl, hk1, hk2, hb⟩
    have hs5 := hb.size
    have X5 := Lib.hid (X4.out.below hb (by omega))
    have HB5 := Lib.hid (HB4.out.trans (hb.mono (show w.heap.size ≤ w4.heap.size by omega)))
    have HR5 := Lib.hid (HR4.out.below hb)
    have HK := Lib.hid hk2
    obtain ⟨G, hG⟩ : ∃ G, w5.heap.size = G := ⟨_, rfl⟩
    have hRG : w4.heap.size ≤ G := by omega
    have hgG : g0 < G := by omega
    have hwG : w.heap.size ≤ G := by omega
    rw [hG] at hk1
    have HGe := Lib.hid hG
    have ca := X5.out.cell 0
    clear hb hk2 hs5 HR4 X4 HB4
    go_wp2
    go_loopw [8, 28] (fun o x wr => ∃ i : Nat, i ≤ n ∧ x = .int .i64 (i : Int) ∧ Hid (OwnS 9 wr G o (bas (kidsN (l.take i) p))) ∧ Hid (Below G w5 wr)) (fun _ x _ => n - (intOf x).toNat)
    case atStart => exact ⟨0, by omega, rfl, OwnS.nil _ _ _, Below.refl _ _⟩
    case round =>
      obtain ⟨i, hi, rfl, HO, HW⟩ := hrel
      have hwr := HW.out.size
      rw [HGe.out] at hwr
      clear ca
      have ca := (X5.out.below HW.out hgG).cell 0
      by_cases hi2 : i < n
      · have zi : (i : Int) < (n : Int) := by omega
        obtain ⟨a, hA, c0, c1, c2, c3⟩ := (HR5.out.below (HW.out.mono hRG)).at_ i (by rw [HN.out]; exact hi2)
        subst hA
        have HS := Lib.hid (kidsN_snoc l p i (by rw [HN.out]; exact hi2))
        have HKL := Lib.hid (Nat.le_trans (kidsN_len (l.take i) p) (List.length_take_le i l))
        obtain ⟨x, hx⟩ : ∃ x, l.getD i nd0 = x := ⟨_, rfl⟩
        rw [hx] at c0 c1 c2 c3 HS
        clear hx
        go_wp2_with (refine wpList_alloc_blk rfl 53 rfl (ndc nd0) zPN ?_)
        intro wa a1 a2 a3
        obtain ⟨gA, hgA⟩ : ∃ g, wr.heap.size = g := ⟨_, rfl⟩
        have A1 := Lib.hid a1
        have HOa := Lib.hid (HO.out.below a3 (Nat.le_refl _))
        have HWa := Lib.hid (HW.out.trans (a3.mono hwr))
        have hne := World.ownsRow.lt HO.out
        rw [hgA] at A1 hwr hne ⊢
        have HNE := Lib.hid hne
        clear hne
        clear a1 a3 HO HW c0 c1 c2 c3 ca hgA
        go_wp2_with (refine wpList_store_to rfl 53 _ _ rfl gA (ndc x) (ndc nd0) 53 rfl rfl A1.out sPN rfl (ndc_one _) ?_)
        intro wb e1 e2 e3 e4
        have HOb : Hid (OwnS 9 wb G u8 (bas (kidsN (l.take i) p))) := by
          refine ownsRow_but HOa.out (fun e => ?_) e4
          have := (HNE.out gA e).2
          omega
        have HWb := Lib.hid (HWa.out.trans (e3.mono hwr))
        have Y4 := Lib.hid e1
        have hsb : gA < wb.heap.size := e1.lt
        have d0 := e1.at_ 0 _ rfl
        have d1 := e1.at_ 1 _ rfl
        have d2 := e1.at_ 2 _ rfl
        have d3 := e1.at_ 3 _ rfl
        have hGb : G ≤ wb.heap.size := by omega
        clear e1 e2 e3 e4 a2 A1 HOa HWa
        go_wp2_with fail
        refine (kidFn_any x p gk wb (Nat.lt_of_lt_of_le hk1 hGb) ((HWb.out.cell hk1).trans HK.out)).mono ?_
        rintro e w6 ⟨rfl, hb⟩
        have hs6 := hb.size
        have HO6 := Lib.hid (HOb.out.below hb (Nat.le_refl _))
        have HW6 := Lib.hid (HWb.out.trans (hb.mono hGb))
        have Y6 := Lib.hid (Y4.out.below hb hsb)
        clear hb d0 d1 d2 d3 HOb HWb Y4
        cases hk : kidN p x
        · have HS2 : Hid (kidsN (l.take (i + 1)) p = kidsN (l.take i) p) := by
            show _ = _
            rw [HS.out, hk]; simp
          clear hk
          go_wp2
          go_roundw
          case rel => exact ⟨i + 1, by omega, by go_num, by rw [HS2.out]; exact HO6, HW6⟩
          case measure => simp [intOf]; omega
        · obtain ⟨k1, k2, k3⟩ := kidN_right p x hk
          have HS2 : Hid (kidsN (l.take (i + 1)) p = kidsN (l.take i) p ++ [lastN (nP x)]) := by
            show _ = _
            rw [HS.out, hk]; simp
          have HNM := Lib.hid (names_yes (nP x) k1)
          obtain ⟨K, hK⟩ : ∃ K, (cutL (nP x)).length = K := ⟨_, rfl⟩
          have hK0 : K ≠ 0 := by
            intro h
            rw [h] at hK
            have hcl : cutL (nP x) = [] := List.eq_nil_of_length_eq_zero hK
            have := (parent_root (nP x) k1 hcl).2
            rw [k2] at this; cases this
          obtain ⟨k, hk2⟩ : ∃ k, K = k + 1 := ⟨K - 1, by omega⟩
          have HLA : Hid (lastN (nP x) = (cutL (nP x)).getD k []) := by
            show _ = _
            unfold lastN
            rw [hK, hk2, Nat.add_sub_cancel]
          have HKK := Lib.hid hK
          have hi1 : (K : Int) - 1 = (k : Int) := by omega
          have hlt : (k : Int) < (K : Int) := by omega
          have HkK := Lib.hid hk2
          have d0 := Y6.out.at_ 0 _ rfl
          obtain ⟨xp, hxp⟩ : ∃ q, nP x = q := ⟨_, rfl⟩
          rw [hxp] at HNM HLA HKK HS2 d0
          clear hk k1 k2 k3 hK hK0 hk2 hxp HS
          go_wp2_with fail
          refine (pxNames_any xp w6).mono ?_
          rintro e w7 ⟨u, rfl, ho, hb⟩
          have hs7 := hb.size
          have HO7 := Lib.hid (HO6.out.below hb (Nat.le_refl _))
          have HW7 := Lib.hid (HW6.out.trans (hb.mono (by omega)))
          rw [HNM.out.1] at ho
          rw [HNM.out.2]
          have hr := ho.rd
          obtain ⟨A2, cp2, rfl, hc2, hm2⟩ := hr.shape
          unfold maxLen at hm2
          rw [bas_length, HKK.out] at hc2 hr ⊢
          obtain ⟨a2, hA2, cb⟩ := hr.at_ k (by rw [bas_length, HKK.out]; have := HkK.out; omega)
          subst hA2
          obtain ⟨y, hy⟩ : ∃ y, (cutL xp).getD k [] = y := ⟨_, rfl⟩
          rw [bas_at (cutL xp) k (by rw [HKK.out]; have := HkK.out; omega) y hy] at cb
          rw [hy] at HLA
          have hwz : G ≤ w7.heap.size := by omega
          clear d0 hb ho hr HO6 HW6 hy
          have HO4 := Lib.hid (HO7.out.alloc (.cells #[.string ⟨y.toArray⟩] 9))
          have HW4 : Hid (Below G w5 (w7.alloc (.cells #[.string ⟨y.toArray⟩] 9))) := HW7.out.alloc (by omega) _
          go_wp2_with (at_builtin; refine wpList_app1S rfl _ _ 45 rfl 9 i0 Tryd.underlying45 hI hz0 hz1 hz2 G _ (bas (kidsN (l.take i) p)) ⟨y.toArray⟩ ⟨w7.heap.size, 0, none⟩ rfl HO4.out rfl ?d1 ?d2 ?d3 ?_)
          case d1 => simp
          case d2 => rw [bas_length]; have := HKL.out; have := HL.out; omega
          case d3 => simp; omega
          intro v8 w8 hown8 hb8
          rw [← bas_snoc] at hown8
          have HO5 : Hid (OwnS 9 w8 G v8 (bas (kidsN (l.take (i + 1)) p))) := by
            show OwnS _ _ _ _ _
            rw [HS2.out, HLA.out]
            exact hown8
          have HW5 : Hid (Below G w5 w8) := HW4.out.trans hb8
          clear hown8 hb8
          go_wp2
          go_roundw
          case rel => exact ⟨i + 1, by omega, by go_num, HO5, HW5⟩
          case measure => simp [intOf]; omega
      · have hE : i = n := by omega
        subst hE
        have HFL : Hid (l.take i = l) := List.take_of_length_le (by rw [HN.out]; exact Nat.le_refl _)
        rw [HFL.out] at HO
        go_wp2
        go_ret2
        rw [HE.out, HF.out]
        exact ⟨_, rfl, HO.out.base hwG, HB5.out.trans (HW.out.mono hwG)⟩
  · have HE := Lib.hid (list_not l p (by rw [HF.out]; exact h0))
    have hz : ((f : Int) != 0) = true := by
      rw [bne_iff_ne]
      omega
    clear ca
    go_wp2
    go_ret2
    rw [HE.out, HF.out]
    exact ⟨_, rfl, OwnS.nil _ _ _, HB4.out⟩
end Go.Proofs.YtlpakfaoaodaiaaDoor
