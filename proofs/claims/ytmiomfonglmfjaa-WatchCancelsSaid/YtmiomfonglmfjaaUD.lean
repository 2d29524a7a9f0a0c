/-
  The document's tables: Fire. Each theorem states its own conditions.
-/
import Derived.Test.YtmiomfonglmfjaaUC
namespace Go.Proofs.Ytmiomfonglmfjaa
open Go.RowKit

theorem touchIs (c : Ch) (x : Wa) (b : Bool) (h : touchB c x = b) (w : World) : Calls Try.prog 11 #[.agg (chc c).toArray, .agg (wac x).toArray] w (One (.bool b) w) := by
  rw [← h]
  exact rfTouches_any c x w
/-- Where a row of one's own lies. -/
theorem own_lt {α : Type} {E : RowK α} {e : TypeId} {w : World} {base : Nat} {v : Value} {l : List α} (h : OwnE E e w base v l) (G : Nat) (hG : w.heap.size = G) : ∀ g, v.ownBlock = some g → g < G := fun g hg => by
  have := (World.ownsRow.lt h g hg).2
  omega
theorem own_ne {v u : Value} {G : Nat} (h1 : ∀ g, v.ownBlock = some g → g < G) (h2 : ∀ g, u.ownBlock = some g → G ≤ g) : v.ownBlock = none ∨ v.ownBlock ≠ u.ownBlock := by
  cases hv : v.ownBlock with
  | none => exact .inl rfl
  | some g =>
    refine .inr fun e => ?_
    have a := h1 g hv
    have b := h2 g e.symm
    omega

set_option maxRecDepth 100000 in
set_option maxHeartbeats 16000000 in
theorem rfFireW_any (l : List Wa) (cs : List Ch) (v u : Value) (w : World) (hr : RdE WaK w.heap.size w v l) (hr2 : RdE ChK w.heap.size w u cs) (hl : l.length ≤ 1000000) : Calls Try.prog 22 #[.agg #[v], u] w (Fires (leftW l cs) (fireW l cs) w) := by
  obtain ⟨A, cp, rfl, hc, hm⟩ := hr.shape
  obtain ⟨A2, cp2, rfl, hc2, hm2⟩ := hr2.shape
  unfold maxLen at hm hm2
  obtain ⟨n, hn⟩ : ∃ n, l.length = n := ⟨_, rfl⟩
  obtain ⟨m, hk⟩ : ∃ n, cs.length = n := ⟨_, rfl⟩
  have HN := Lib.hid hn
  have HM := Lib.hid hk
  have HR := Lib.hid hr
  have HR2 := Lib.hid hr2
  rw [hn] at hc HR hl ⊢
  rw [hk] at hc2 HR2 ⊢
  have HL := Lib.hid hl
  obtain ⟨d30, hu30, hd30⟩ := rowTbR
  have HU := Lib.hid hu30
  have HD := Lib.hid hd30
  clear hr hn hr2 hk hl hu30 hd30
  go_enter Try.func22, Try.ntmps22
  go_wp2_with (refine wpList_box_blk rfl 39 _ rfl [.slice A n cp] rfl ?_)
  intro w1 b1 b2 b3
  go_wp2_with (refine wpList_alloc_blk rfl 39 rfl [.slice none 0 0] zTbR ?_)
  intro w2 a1 a2 a3
  obtain ⟨g0, hg0⟩ : ∃ g, w.heap.size = g := ⟨_, rfl⟩
  obtain ⟨g1, hg1⟩ : ∃ g, w.heap.size + 1 = g := ⟨_, rfl⟩
  obtain ⟨G, hG⟩ : ∃ G, w2.heap.size = G := ⟨_, rfl⟩
  have X0 := Lib.hid (b1.below a3 (by omega))
  have X1 := Lib.hid a1
  have HB := Lib.hid (b3.trans (a3.mono (by omega)))
  have hwG : w.heap.size ≤ G := by omega
  have h0G : g0 < G := by omega
  have h1G : g1 < G := by omega
  have hw1 : w.heap.size ≤ g1 := by omega
  have HG := Lib.hid hG
  rw [hg1] at X1 ⊢
  rw [hg0] at X0 ⊢
  clear b1 b2 b3 a1 a2 a3 hg1
  have HO0 : Hid (OwnE WaK 34 (w2.alloc (.cells #[] 34)) G (.slice (some ⟨G, 0, none⟩) 0 0) []) := by
    have := OwnE.empty (E := WaK) 34 w2 G (by rw [hG]; exact Nat.le_refl _)
    rw [hG] at this
    exact this
  have HW0 : Hid (Below G w2 (w2.alloc (.cells #[] 34))) := (Below.refl _ _).alloc (by rw [hG]; exact Nat.le_refl _) _
  have HR0 : Hid (RdE WaK w.heap.size (w2.alloc (.cells #[] 34)) (.slice A n cp) l) := HR.out.below (HB.out.trans (HW0.out.mono hwG))
  have hGa : G ≤ (w2.alloc (.cells #[] 34)).heap.size := by simp; omega
  have cz := (X0.out.below HW0.out h0G).at_ 0 _ rfl
  have ca := X0.out.at_ 0 _ rfl
  go_wp2_with (at_builtin; refine wpList_appF (E := WaK) rfl _ _ 37 rfl 34 32 Try.underlying37 kindWaR G _ _ _ [] l rfl HO0.out rfl HR0.out ?d1 ?d2 ?d3 ?_)
  case d1 => have := HL.out; have := HN.out; simp; omega
  case d2 => have := HL.out; have := HN.out; simp; omega
  case d3 => exact hGa
  intro vL w3 h3 hb3 _
  have HL3 : Hid (OwnE WaK 34 w3 G vL l) := h3
  have HW3 := Lib.hid (HW0.out.trans hb3)
  have hs3 := HW3.out.size
  clear h3 hb3 ca cz HO0 HW0 HR0 hGa hG
  obtain ⟨G3, hG3⟩ : ∃ q, w3.heap.size = q := ⟨_, rfl⟩
  rw [HG.out, hG3] at hs3
  have HG3 := Lib.hid hG3
  have HE0 : Hid (OwnE EvK 79 (w3.alloc (.cells #[] 79)) G (.slice (some ⟨G3, 0, none⟩) 0 0) []) := by
    have := OwnE.empty (E := EvK) 79 w3 G (by rw [hG3]; exact hs3)
    rw [hG3] at this
    exact this
  have HL4 : Hid (OwnE WaK 34 (w3.alloc (.cells #[] 79)) G vL l) := HL3.out.alloc _
  have HW4 : Hid (Below G w2 (w3.alloc (.cells #[] 79))) := HW3.out.alloc (by rw [hG3]; exact hs3) _
  go_wp2
  clear hG3
  go_loopw [6, 7, 8] (fun lf o x wr => ∃ i : Nat, i ≤ m ∧ x = .int .i64 (i : Int) ∧ Hid (OwnE WaK 34 wr G lf (leftW l (cs.take i))) ∧ Hid (OwnE EvK 79 wr G o (fireW l (cs.take i))) ∧ Hid (Below G w2 wr)) (fun _ _ x _ => m - (intOf x).toNat)
  case atStart => exact ⟨0, by omega, rfl, HL4, HE0, HW4⟩
  case round =>
    obtain ⟨i, hi, rfl, HLF, HEV, HW⟩ := hrel
    have hwr := HW.out.size
    rw [HG.out] at hwr
    by_cases hi2 : i < m
    · have zi : (i : Int) < (m : Int) := by omega
      obtain ⟨b, hA2, q0, q1⟩ := (HR2.out.below (HB.out.trans (HW.out.mono hwG))).atCh i (by rw [HM.out]; exact hi2)
      subst hA2
      clear q0 q1
      have HT1 := Lib.hid (leftW_snoc l cs i (by rw [HM.out]; exact hi2))
      have HT2 := Lib.hid (fireW_snoc l cs i (by rw [HM.out]; exact hi2))
      have HLN : Hid ((leftW l (cs.take i)).length ≤ 1000000 ∧ (fireW l (cs.take i)).length ≤ 1000000) := by
        have a1 := leftW_len l (cs.take i)
        have a2 := fireW_len l (cs.take i)
        have a3 := HN.out
        have a4 := HL.out
        constructor <;> omega
      obtain ⟨c, hcc⟩ : ∃ c, cs.getD i ch0 = c := ⟨_, rfl⟩
      have HC := Lib.hid hcc
      rw [hcc] at HT1 HT2
      obtain ⟨LW, hLW⟩ : ∃ q, leftW l (cs.take i) = q := ⟨_, rfl⟩
      obtain ⟨EW, hEW⟩ : ∃ q, fireW l (cs.take i) = q := ⟨_, rfl⟩
      rw [hLW, hEW] at HLN
      rw [hLW] at HLF HT1 HT2
      rw [hEW] at HEV HT2
      obtain ⟨AL, cL, hu6, hcl, hcm⟩ := HLF.out.rd.shape
      obtain ⟨k9, hk9⟩ : ∃ k, LW.length = k := ⟨_, rfl⟩
      rw [hk9] at hu6 hcl
      subst hu6
      unfold maxLen at hcm
      have HK9 := Lib.hid hk9
      clear hcc hLW hEW hk9
      obtain ⟨GS, hGS⟩ : ∃ q, wr.heap.size = q := ⟨_, rfl⟩
      have HGS := Lib.hid hGS
      have HLB := Lib.hid (own_lt HLF.out GS hGS)
      rw [hGS] at hwr
      have HS0 : Hid (OwnE WaK 34 (wr.alloc (.cells #[] 34)) GS (.slice (some ⟨GS, 0, none⟩) 0 0) []) := by
        have := OwnE.empty (E := WaK) 34 wr GS (by rw [hGS]; exact Nat.le_refl _)
        rw [hGS] at this
        exact this
      have HLF0 : Hid (OwnE WaK 34 (wr.alloc (.cells #[] 34)) G (.slice AL k9 cL) LW) := HLF.out.alloc _
      have HEV0 : Hid (OwnE EvK 79 (wr.alloc (.cells #[] 34)) G u7 EW) := HEV.out.alloc _
      have HW0 : Hid (Below G w2 (wr.alloc (.cells #[] 34))) := HW.out.alloc (by rw [hGS]; exact hwr) _
      have hGS0 : GS ≤ (wr.alloc (.cells #[] 34)).heap.size := by simp; omega
      go_wp2
      clear hGS
      go_loopw [7, 9, 10] (fun o st y wx => ∃ k : Nat, k ≤ k9 ∧ y = .int .i64 (k : Int) ∧ Hid (OwnE WaK 34 wx G (.slice AL k9 cL) LW) ∧ Hid (OwnE EvK 79 wx G o (EW ++ toldW c (LW.take k))) ∧ Hid (OwnE WaK 34 wx GS st (stayW c (LW.take k))) ∧ Hid (Below G w2 wx) ∧ GS ≤ wx.heap.size) (fun _ _ y _ => k9 - (intOf y).toNat)
      case atStart => exact ⟨0, by omega, rfl, HLF0, by rw [List.take_zero]; show Hid (OwnE _ _ _ _ _ (EW ++ [])); rw [List.append_nil]; exact HEV0, HS0, HW0, hGS0⟩
      case round =>
        obtain ⟨k, hk, rfl, HLX, HEX, HSX, HWX, hGX⟩ := hrel
        clear HLF HEV HS0 HLF0 HEV0 HW0
        by_cases hk2 : k < k9
        · have zk : (k : Int) < (k9 : Int) := by omega
          obtain ⟨a, hA, r0, r1, r2⟩ := HLX.out.rd.atWa k (by rw [HK9.out]; exact hk2)
          subst hA
          clear r0 r1 r2
          have HRX := Lib.hid HLX.out.rd
          have HCX : Hid (RdE ChK wr.heap.size wr (.slice (some b) m cp2) cs) := (HR2.out.below (HB.out.trans (HWX.out.mono hwG))).more (HB.out.trans (HWX.out.mono hwG)).size
          have HQ1 := Lib.hid (stayW_snoc c LW k (by rw [HK9.out]; exact hk2))
          have HQ2 := Lib.hid (toldW_snoc c LW k (by rw [HK9.out]; exact hk2))
          have HQL : Hid ((stayW c (LW.take k)).length ≤ 1000000 ∧ (EW ++ toldW c (LW.take k)).length ≤ 2000000) := by
            have a1 := stayW_len c (LW.take k)
            have a2 := told_len c (LW.take k)
            have a3 := List.length_take_le k LW
            have a4 := HK9.out
            have a5 := HLN.out
            obtain ⟨a6, a7⟩ := a5
            refine ⟨by omega, ?_⟩
            rw [List.length_append]
            omega
          obtain ⟨x9, hx9⟩ : ∃ q, LW.getD k wa0 = q := ⟨_, rfl⟩
          have HX9 := Lib.hid hx9
          rw [hx9] at HQ1 HQ2
          obtain ⟨B, hB⟩ : ∃ B, touchB c x9 = B := ⟨_, rfl⟩
          have HBB := Lib.hid hB
          rw [hB] at HQ1 HQ2
          clear hx9 hB
          go_wp2
          refine wp_region_rely2 9 0 (fun x => ⟨#[.agg #[Value.slice A n cp], .slice (some b) m cp2, .pointer (some { block := g0, off := 0 }), undef, .pointer (some { block := g1, off := 0 }), .slice none 0 0, .slice (some a) k9 cL, u7, .int IntKind.i64 ↑i, u9, .int IntKind.i64 ↑k, .slice (some { block := G, off := 0 }) 0 0, .pointer (some { block := g0, off := 0 }), .slice A n cp, vL, .slice (some { block := G3, off := 0 }) 0 0, .int IntKind.i64 ↑i, .slice (some b) m cp2, .int IntKind.i64 ↑m, .bool true, u20, u21, .slice (some { block := GS, off := 0 }) 0 0, .int IntKind.i64 ↑k, .slice (some a) k9 cL, .int IntKind.i64 ↑k9, .bool true, u27, u28, x 0, x 1, x 2, x 3, x 4, x 5, x 6, x 7, x 8, u38, u39, u40, u41, u42, u43, u44, u45, u46, u47, u48, u49, u50, u51, u52, u53, u54, u55, u56, u57, undef, undef, undef], []⟩) (fun jj => ([eqV (.slice (some b) m cp2), eqV (.int IntKind.i64 ↑i), eqV (.pointer (some (b.add (i * 2)))), eqV (.agg (chc c).toArray), eqV (.slice (some a) k9 cL), eqV (.int IntKind.i64 ↑k), eqV (.pointer (some (a.add (k * 3)))), eqV (.agg (wac x9).toArray), (eqV (.bool B))] : List (Value → World → Prop)).getD jj (fun _ _ => True)) rfl ⟨fun kk => [_, _, _, _, _, _, _, _, _].getD kk undef, rfl⟩ (by kernel_rfl) (by kernel_rfl) ?steps ?fin
          case steps =>
            refine StepsAt.val 0 (.slice (some b) m cp2) rfl (fun _ _ => rfl) rfl rfl (fun x wy hb hd => ?_) ?_
            · first | (go_simp; done) | (go_simp; rfl)
            refine StepsAt.val 1 (.int IntKind.i64 ↑i) rfl (fun _ _ => rfl) rfl rfl (fun x wy hb hd => ?_) ?_
            · first | (go_simp; done) | (go_simp; rfl)
            refine StepsAt.val 2 (.pointer (some (b.add (i * 2)))) rfl (fun _ _ => rfl) rfl rfl (fun x wy hb hd => ?_) ?_
            · have h0 : x 0 = .slice (some b) m cp2 := hd 0 (by kernel_rfl)
              have h1 : x 1 = .int IntKind.i64 ↑i := hd 1 (by kernel_rfl)
              rw [h0, h1]
              first | (go_simp; done) | (go_simp; rfl)
            refine StepsAt.val 3 (.agg (chc c).toArray) rfl (fun _ _ => rfl) rfl rfl (fun x wy hb hd => ?_) ?_
            · have h2 : x 2 = .pointer (some (b.add (i * 2))) := hd 2 (by kernel_rfl)
              obtain ⟨b9, hA9, cc0, cc1⟩ := (HCX.out.below hb).atCh i (by rw [HM.out]; exact hi2)
              obtain rfl : b = b9 := Option.some.inj hA9
              rw [HC.out] at cc0 cc1
              rw [h2]
              first | (go_simp; done) | (go_simp; rfl)
            refine StepsAt.val 4 (.slice (some a) k9 cL) rfl (fun _ _ => rfl) rfl rfl (fun x wy hb hd => ?_) ?_
            · first | (go_simp; done) | (go_simp; rfl)
            refine StepsAt.val 5 (.int IntKind.i64 ↑k) rfl (fun _ _ => rfl) rfl rfl (fun x wy hb hd => ?_) ?_
            · first | (go_simp; done) | (go_simp; rfl)
            refine StepsAt.val 6 (.pointer (some (a.add (k * 3)))) rfl (fun _ _ => rfl) rfl rfl (fun x wy hb hd => ?_) ?_
            · have h4 : x 4 = .slice (some a) k9 cL := hd 4 (by kernel_rfl)
              have h5 : x 5 = .int IntKind.i64 ↑k := hd 5 (by kernel_rfl)
              rw [h4, h5]
              first | (go_simp; done) | (go_simp; rfl)
            refine StepsAt.val 7 (.agg (wac x9).toArray) rfl (fun _ _ => rfl) rfl rfl (fun x wy hb hd => ?_) ?_
            · have h6 : x 6 = .pointer (some (a.add (k * 3))) := hd 6 (by kernel_rfl)
              obtain ⟨a9, hA9, cc0, cc1, cc2⟩ := (HRX.out.below hb).atWa k (by rw [HK9.out]; exact hk2)
              obtain rfl : a = a9 := Option.some.inj hA9
              rw [HX9.out] at cc0 cc1 cc2
              rw [h6]
              first | (go_simp; done) | (go_simp; rfl)
            refine StepsAt.cons 8 (fun _ _ _ h hb => h) (fun _ _ => rfl) rfl rfl (fun x wy hb hd K hK => ?_) ?_
            · have h3 : Hid (x 3 = .agg (chc c).toArray) := hd 3 (by kernel_rfl)
              have h7 : Hid (x 7 = .agg (wac x9).toArray) := hd 7 (by kernel_rfl)
              go_simp
              refine calls_args (args2 := #[.agg (chc c).toArray, .agg (wac x9).toArray]) (by rw [h3.out, h7.out]) ?_
              refine (touchIs c x9 B HBB.out _).mono ?_
              rintro e w99 ⟨rfl, hb99⟩
              exact hK.out _ _ hb99 rfl
            exact StepsAt.done
          case fin =>
            intro x wy hb hd
            have hx0 : x 0 = .slice (some b) m cp2 := hd 0 (by omega)
            have hx1 : x 1 = .int IntKind.i64 ↑i := hd 1 (by omega)
            have hx2 : x 2 = .pointer (some (b.add (i * 2))) := hd 2 (by omega)
            have hx3 : x 3 = .agg (chc c).toArray := hd 3 (by omega)
            have hx4 : x 4 = .slice (some a) k9 cL := hd 4 (by omega)
            have hx5 : x 5 = .int IntKind.i64 ↑k := hd 5 (by omega)
            have hx6 : x 6 = .pointer (some (a.add (k * 3))) := hd 6 (by omega)
            have hx7 : x 7 = .agg (wac x9).toArray := hd 7 (by omega)
            have hx8 : x 8 = .bool B := hd 8 (by omega)
            refine AnyTill.any (S := fun _ => True) (m := 9) _ _ _ _ ?_
            refine AnyTill.done (by kernel_rfl) ?_
            refine NoPanic.normal ?_
            try dsimp only
            rw [hx0, hx1, hx2, hx3, hx4, hx5, hx6, hx7, hx8]
            have HLY := Lib.hid (HLX.out.below hb (Nat.le_refl _))
            have HEY := Lib.hid (HEX.out.below hb (Nat.le_refl _))
            have HSY := Lib.hid (HSX.out.below hb (Nat.le_refl _))
            have HWY : Hid (Below G w2 wy) := HWX.out.trans (hb.mono (by have := HWX.out.size; rw [HG.out] at this; exact this))
            have HCY : Hid (RdE ChK wy.heap.size wy (.slice (some b) m cp2) cs) := (HCX.out.below hb).more hb.size
            have hGY : GS ≤ wy.heap.size := Nat.le_trans hGX hb.size
            have HRY := Lib.hid HLY.out.rd
            clear hd hb hx0 hx1 hx2 hx3 hx4 hx5 hx6 hx7 hx8
            clear HLX HEX HSX HWX HCX HRX
            cases B
            · have HSN : Hid (stayW c (LW.take (k + 1)) = stayW c (LW.take k) ++ [x9]) := HQ1.out
              have HEN : Hid (EW ++ toldW c (LW.take (k + 1)) = EW ++ toldW c (LW.take k)) := by
                show _ = _
                rw [HQ2.out]; simp
              obtain ⟨a', hA', c0, c1, c2⟩ := HRY.out.atWa k (by rw [HK9.out]; exact hk2)
              obtain rfl : a = a' := Option.some.inj hA'
              rw [HX9.out] at c0 c1 c2
              have HLZ : Hid (OwnE WaK 34 (wy.alloc (.cells (wac x9).toArray 34)) G (.slice (some a) k9 cL) LW) := HLY.out.alloc _
              have HEZ : Hid (OwnE EvK 79 (wy.alloc (.cells (wac x9).toArray 34)) G u7 (EW ++ toldW c (LW.take k))) := HEY.out.alloc _
              have HSZ : Hid (OwnE WaK 34 (wy.alloc (.cells (wac x9).toArray 34)) GS u9 (stayW c (LW.take k))) := HSY.out.alloc _
              have HWZ : Hid (Below G w2 (wy.alloc (.cells (wac x9).toArray 34))) := HWY.out.alloc (by have := HWY.out.size; rw [HG.out] at this; exact this) _
              have hGZ : GS ≤ (wy.alloc (.cells (wac x9).toArray 34)).heap.size := by simp; omega
              go_wp2_with (at_builtin; refine wpList_appE (E := WaK) rfl _ _ 37 rfl 34 32 Try.underlying37 kindWaR GS _ _ _ (stayW c (LW.take k)) [x9] rfl HSZ.out rfl (RdE.one wy 34 x9) (by simp) ?d1 ?d2 ?d3 ?_)
              case d1 => have := HQL.out; first | (simp only [List.length_cons, List.length_nil]; omega) | omega
              case d2 => have := HQL.out; first | (simp only [List.length_cons, List.length_nil]; omega) | omega
              case d3 => first | exact hGZ | (simp at hGZ; omega)
              intro v5 w5 h5 hb5 hg5 _
              have HS5 : Hid (OwnE WaK 34 w5 GS v5 (stayW c (LW.take (k + 1)))) := by
                show OwnE _ _ _ _ _ _
                rw [HSN.out]; exact h5
              have HE5 : Hid (OwnE EvK 79 w5 G u7 (EW ++ toldW c (LW.take (k + 1)))) := by
                show OwnE _ _ _ _ _ _
                rw [HEN.out]; exact ownsRow_other (by decide) HEZ.out HSZ.out hg5
              have HL5 : Hid (OwnE WaK 34 w5 G (.slice (some a) k9 cL) LW) := World.ownsRow.kept HLZ.out hg5 (own_ne HLB.out (fun g hg => (World.ownsRow.lt HSZ.out g hg).1))
              have HW5 : Hid (Below G w2 w5) := HWZ.out.trans (hb5.mono hwr)
              have hG5 : GS ≤ w5.heap.size := Nat.le_trans hGZ hb5.size
              clear h5 hb5 hg5 c0 c1 c2
              go_wp2
              go_roundw
              case rel => exact ⟨k + 1, by omega, by go_num, HL5, HE5, HS5, HW5, hG5⟩
              case measure => simp [intOf]; omega
            · have HSN : Hid (stayW c (LW.take (k + 1)) = stayW c (LW.take k)) := by
                show _ = _
                rw [HQ1.out]; simp
              have HEN : Hid (EW ++ toldW c (LW.take (k + 1)) = (EW ++ toldW c (LW.take k)) ++ [(x9, c)]) := by
                show _ = _
                rw [HQ2.out, List.append_assoc]; rfl
              go_wp2
              refine wp_region_rely3 11 2 (fun x => ⟨#[.agg #[Value.slice A n cp], .slice (some b) m cp2, .pointer (some { block := g0, off := 0 }), undef, .pointer (some { block := g1, off := 0 }), .slice none 0 0, .slice (some a) k9 cL, u7, .int IntKind.i64 ↑i, u9, .int IntKind.i64 ↑k, .slice (some { block := G, off := 0 }) 0 0, .pointer (some { block := g0, off := 0 }), .slice A n cp, vL, .slice (some { block := G3, off := 0 }) 0 0, .int IntKind.i64 ↑i, .slice (some b) m cp2, .int IntKind.i64 ↑m, .bool true, u20, u21, .slice (some { block := GS, off := 0 }) 0 0, .int IntKind.i64 ↑k, .slice (some a) k9 cL, .int IntKind.i64 ↑k9, .bool true, u27, u28, .slice (some b) m cp2, .int IntKind.i64 ↑i, .pointer (some (b.add (i * 2))), .agg (chc c).toArray, .slice (some a) k9 cL, .int IntKind.i64 ↑k, .pointer (some (a.add (k * 3))), .agg (wac x9).toArray, .bool true, x 0, x 1, x 2, x 3, x 4, x 5, x 6, x 7, x 8, x 9, x 10, u49, u50, u51, u52, u53, u54, u55, u56, u57, undef, undef, undef], []⟩) (fun jj => ([eqV (u7), eqV (.slice (some a) k9 cL), eqV (.int IntKind.i64 ↑k), eqV (.pointer (some (a.add (k * 3)))), eqV (.agg (wac x9).toArray), eqV (.slice (some b) m cp2), eqV (.int IntKind.i64 ↑i), eqV (.pointer (some (b.add (i * 2)))), eqV (.agg (chc c).toArray), eqV (.agg (evc (x9, c)).toArray), (NewE EvK 79 (x9, c) wy.heap.size)] : List (Value → World → Prop)).getD jj (fun _ _ => True)) rfl ⟨fun kk => [_, _, _, _, _, _, _, _, _, _, _].getD kk undef, rfl⟩ (by kernel_rfl) (by kernel_rfl) ?steps ?fin
              case steps =>
                refine StepsAt.val 0 (u7) rfl (fun _ _ => rfl) rfl rfl (fun x wz hb hd => ?_) ?_
                · first | (go_simp; done) | (go_simp; rfl)
                refine StepsAt.val 1 (.slice (some a) k9 cL) rfl (fun _ _ => rfl) rfl rfl (fun x wz hb hd => ?_) ?_
                · first | (go_simp; done) | (go_simp; rfl)
                refine StepsAt.val 2 (.int IntKind.i64 ↑k) rfl (fun _ _ => rfl) rfl rfl (fun x wz hb hd => ?_) ?_
                · first | (go_simp; done) | (go_simp; rfl)
                refine StepsAt.val 3 (.pointer (some (a.add (k * 3)))) rfl (fun _ _ => rfl) rfl rfl (fun x wz hb hd => ?_) ?_
                · have h1 : x 1 = .slice (some a) k9 cL := hd 1 (by kernel_rfl)
                  have h2 : x 2 = .int IntKind.i64 ↑k := hd 2 (by kernel_rfl)
                  rw [h1, h2]
                  first | (go_simp; done) | (go_simp; rfl)
                refine StepsAt.val 4 (.agg (wac x9).toArray) rfl (fun _ _ => rfl) rfl rfl (fun x wz hb hd => ?_) ?_
                · have h3 : x 3 = .pointer (some (a.add (k * 3))) := hd 3 (by kernel_rfl)
                  obtain ⟨a9, hA9, cc0, cc1, cc2⟩ := (HRY.out.below hb).atWa k (by rw [HK9.out]; exact hk2)
                  obtain rfl : a = a9 := Option.some.inj hA9
                  rw [HX9.out] at cc0 cc1 cc2
                  rw [h3]
                  first | (go_simp; done) | (go_simp; rfl)
                refine StepsAt.val 5 (.slice (some b) m cp2) rfl (fun _ _ => rfl) rfl rfl (fun x wz hb hd => ?_) ?_
                · first | (go_simp; done) | (go_simp; rfl)
                refine StepsAt.val 6 (.int IntKind.i64 ↑i) rfl (fun _ _ => rfl) rfl rfl (fun x wz hb hd => ?_) ?_
                · first | (go_simp; done) | (go_simp; rfl)
                refine StepsAt.val 7 (.pointer (some (b.add (i * 2)))) rfl (fun _ _ => rfl) rfl rfl (fun x wz hb hd => ?_) ?_
                · have h5 : x 5 = .slice (some b) m cp2 := hd 5 (by kernel_rfl)
                  have h6 : x 6 = .int IntKind.i64 ↑i := hd 6 (by kernel_rfl)
                  rw [h5, h6]
                  first | (go_simp; done) | (go_simp; rfl)
                refine StepsAt.val 8 (.agg (chc c).toArray) rfl (fun _ _ => rfl) rfl rfl (fun x wz hb hd => ?_) ?_
                · have h7 : x 7 = .pointer (some (b.add (i * 2))) := hd 7 (by kernel_rfl)
                  obtain ⟨b9, hA9, cc0, cc1⟩ := (HCY.out.below hb).atCh i (by rw [HM.out]; exact hi2)
                  obtain rfl : b = b9 := Option.some.inj hA9
                  rw [HC.out] at cc0 cc1
                  rw [h7]
                  first | (go_simp; done) | (go_simp; rfl)
                refine StepsAt.val 9 (.agg (evc (x9, c)).toArray) rfl (fun _ _ => rfl) rfl rfl (fun x wz hb hd => ?_) ?_
                · have h4 : x 4 = .agg (wac x9).toArray := hd 4 (by kernel_rfl)
                  have h8 : x 8 = .agg (chc c).toArray := hd 8 (by kernel_rfl)
                  have e4 : x 4 = .agg #[txt (wP x9), .int .i64 (wC x9), .bool (wK x9)] := h4
                  have e8 : x 8 = .agg #[.int .i64 (cK c), txt (cP c)] := h8
                  rw [e4, e8]
                  first | (go_simp; done) | (go_simp; rfl)
                refine StepsAt.cons 10 (fun _ _ _ h hb => h.keep hb) (fun _ _ => rfl) rfl rfl (fun x wz hb hd K hK => ?_) ?_
                · have h9 : Hid (x 9 = .agg (evc (x9, c)).toArray) := hd 9 (by kernel_rfl)
                  have e9 : x 9 = .agg #[txt (wP x9), .int .i64 (wC x9), .bool (wK x9), .int .i64 (cK c), txt (cP c)] := h9.out
                  rw [e9] at hK ⊢
                  go_simp
                  exact hK.out (.slice (some ⟨wz.heap.size, 0, none⟩) 1 1) (wz.alloc (.cells (evc (x9, c)).toArray 79)) ((Below.refl _ _).alloc (Nat.le_refl _) _) ⟨_, rfl, heap_alloc_new wz _, hb.size⟩
                exact StepsAt.done
              case fin =>
                intro x wz hb hd
                have hx0 : x 0 = u7 := hd 0 (by omega)
                have hx10 : NewE EvK 79 (x9, c) wy.heap.size (x 10) wz := hd 10 (by omega)
                have HLZ := Lib.hid (HLY.out.below hb (Nat.le_refl _))
                have HEZ := Lib.hid (HEY.out.below hb (Nat.le_refl _))
                have HSZ := Lib.hid (HSY.out.below hb (Nat.le_refl _))
                have HWZ : Hid (Below G w2 wz) := HWY.out.trans (hb.mono (by have := HWY.out.size; rw [HG.out] at this; exact this))
                have hGZ : GS ≤ wz.heap.size := Nat.le_trans hGY hb.size
                have hwZ : G ≤ wz.heap.size := Nat.le_trans hwr hGZ
                have HNR := Lib.hid hx10.rd
                obtain ⟨g9, hx10, -, -⟩ := hx10
                rw [hx10] at HNR
                refine AnyTill.any (S := fun _ => True) (m := 13) _ _ _ _ ?_
                rw [hx0, hx10]
                clear hd hb hx0 hx10 HLY HEY HSY HWY HCY HRY
                refine AnyTill.one (i := 11) (by kernel_rfl) rfl (by rfl) (fun K hK => ?_)
                refine wp_of_list rfl (wpList_appE (E := EvK) rfl _ _ 54 rfl 79 56 Try.underlying54 kindEvR G _ _ _ (EW ++ toldW c (LW.take k)) [(x9, c)] rfl HEZ.out rfl HNR.out (by simp) ?d1 ?d2 ?d3 ?_)
                case d1 => have := HQL.out; first | (simp only [List.length_cons, List.length_nil]; omega) | omega
                case d2 => have := HQL.out; first | (simp only [List.length_cons, List.length_nil]; omega) | omega
                case d3 => exact hwZ
                intro v5 w5 h5 hb5 hg5 _
                refine hK.out _ _ (.inr trivial) ?_
                clear hK K
                refine AnyTill.one (i := 12) (by kernel_rfl) rfl (by rfl) (fun K hK => ?_)
                go_simp
                refine hK.out _ _ (.inr trivial) ?_
                clear hK K
                refine AnyTill.done (by kernel_rfl) ?_
                refine NoPanic.normal ?_
                try dsimp only
                have HE5 : Hid (OwnE EvK 79 w5 G v5 (EW ++ toldW c (LW.take (k + 1)))) := by
                  show OwnE _ _ _ _ _ _
                  rw [HEN.out]; exact h5
                have HS5 : Hid (OwnE WaK 34 w5 GS u9 (stayW c (LW.take (k + 1)))) := by
                  show OwnE _ _ _ _ _ _
                  rw [HSN.out]; exact ownsRow_other (by decide) HSZ.out HEZ.out hg5
                have HL5 : Hid (OwnE WaK 34 w5 G (.slice (some a) k9 cL) LW) := ownsRow_other (by decide) HLZ.out HEZ.out hg5
                have HW5 : Hid (Below G w2 w5) := HWZ.out.trans hb5
                have hG5 : GS ≤ w5.heap.size := Nat.le_trans hGZ hb5.size
                clear h5 hb5 hg5
                go_wp2
                go_roundw
                case rel => exact ⟨k + 1, by omega, by go_num, HL5, HE5, HS5, HW5, hG5⟩
                case measure => simp [intOf]; omega
        · have hE : k = k9 := by omega
          subst hE
          have HFL : Hid (LW.take k = LW) := List.take_of_length_le (by rw [HK9.out]; exact Nat.le_refl _)
          rw [HFL.out] at HEX HSX
          have HLF2 : Hid (OwnE WaK 34 wr G u9 (leftW l (cs.take (i + 1)))) := by
            show OwnE _ _ _ _ _ _
            rw [HT1.out]
            exact HSX.out.base hwr
          have HEV2 : Hid (OwnE EvK 79 wr G u7 (fireW l (cs.take (i + 1)))) := by
            show OwnE _ _ _ _ _ _
            rw [HT2.out]
            exact HEX.out
          go_wp2
          go_roundw
          case rel => exact ⟨i + 1, by omega, by go_num, HLF2, HEV2, HWX⟩
          case measure => simp [intOf]; omega
    · have hE : i = m := by omega
      subst hE
      have HFL : Hid (cs.take i = cs) := List.take_of_length_le (by rw [HM.out]; exact Nat.le_refl _)
      rw [HFL.out] at HLF HEV
      obtain ⟨Ao, co, ho, -, -⟩ := HLF.out.rd.shape
      obtain ⟨LL, hLL⟩ : ∃ LL, (leftW l cs).length = LL := ⟨_, rfl⟩
      rw [hLL] at ho
      subst ho
      clear hLL
      have Yr := Lib.hid (X1.out.below HW.out h1G)
      go_wp2_with (refine wpList_store_to rfl 39 _ _ rfl g1 [.slice Ao LL co] [.slice none 0 0] 39 rfl rfl Yr.out sTbR rfl (slice_one _ _ _) ?_)
      intro w20 e1 e2 e3 e4
      go_wp2
      refine bodyPost_ret (v := .tuple #[.agg #[.slice Ao LL co], u7]) ?_ rfl ?_
      · exact ret_blk1W rfl _ _ g1 39 [.slice Ao LL co] _ rfl rfl e1 d30 HU.out HD.out sTbR
      · exact ⟨_, _, rfl, OwnE.rd (ownsRow_same HLF.out (fun k hk => e4 k (by omega))), OwnE.rd (ownsRow_same HEV.out (fun k hk => e4 k (by omega))), HB.out.trans ((HW.out.mono hwG).trans (e3.mono hw1))⟩
end Go.Proofs.Ytmiomfonglmfjaa
