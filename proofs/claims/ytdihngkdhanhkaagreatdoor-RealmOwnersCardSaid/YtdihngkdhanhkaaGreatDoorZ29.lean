/-
  Texts UM.
-/
import Derived.Test.YtdihngkdhanhkaaGreatDoorZ28
namespace Go.Proofs.YtdihngkdhanhkaaGreatDoor
open Go.RowKit

/-- A test, as a value of a region whose order is open. -/
def TsV (q : Wa → Bool) (v : Value) (w : World) : Prop := ∃ p r, r ≤ w.heap.size ∧ Tests q v p r w
theorem TsV.below {q : Wa → Bool} {v : Value} {w w' : World} (h : TsV q v w) (hb : Below w.heap.size w w') : TsV q v w' := by
  obtain ⟨p, r, h1, h2⟩ := h
  exact ⟨p, r, Nat.le_trans h1 hb.size, h2.keep fun k _ k2 => hb.block k (by omega)⟩

set_option maxRecDepth 100000 in
set_option maxHeartbeats 8000000 in
theorem waAdd_own (l : List Wa) (x : Wa) (v : Value) (w : World) (hr : RdE WaK w.heap.size w v l) (hR : RightW l) : Calls Tryz.prog 197 #[.agg #[v], .agg (wac x).toArray] w (TabsO 94 v (addW l x) (addE l x) w) := by
  obtain ⟨d30, hu30, hd30⟩ := rowTbP
  have HU := Lib.hid hu30
  have HD := Lib.hid hd30
  have HR := Lib.hid hr
  obtain ⟨n, hn⟩ : ∃ n, l.length = n := ⟨_, rfl⟩
  have HN := Lib.hid hn
  have hn2 : n ≤ 200 := by
    rw [← hn]
    exact hR.few
  clear hr hR hu30 hd30 hn
  go_enter Tryz.func197, Tryz.ntmps197
  go_wp2_with (refine wpList_box_blk rfl 30 _ rfl [v] rfl ?_)
  intro w1 b1 b2 b3
  go_wp2_with (refine wpList_box_blk rfl 94 _ rfl (wac x) rfl ?_)
  intro w2 a1 a2 a3
  go_wp2_with (refine wpList_alloc_blk rfl 30 rfl [.slice none 0 0] zTbP ?_)
  intro w3 k1 k2 k3
  obtain ⟨g0, hg0⟩ : ∃ g, w.heap.size = g := ⟨_, rfl⟩
  obtain ⟨g1, hg1⟩ : ∃ g, w.heap.size + 1 = g := ⟨_, rfl⟩
  obtain ⟨g2, hg2⟩ : ∃ g, w.heap.size + 1 + 1 = g := ⟨_, rfl⟩
  have X0 := Lib.hid ((b1.below a3 (by omega)).below k3 (by omega))
  have X1 := Lib.hid (a1.below k3 (by omega))
  have X2 := Lib.hid k1
  have HB := Lib.hid ((b3.trans (a3.mono (by omega))).trans (k3.mono (by omega)))
  have hs3 : w3.heap.size = w.heap.size + 3 := by omega
  have hw2 : w.heap.size ≤ g2 := by omega
  rw [hg2] at X2 ⊢
  rw [hg1] at X1 ⊢
  rw [hg0] at X0 ⊢
  have ca := X0.out.at_ 0 _ rfl
  have HRc := Lib.hid ((HR.out.below HB.out).more HB.out.size)
  obtain ⟨G, hG⟩ : ∃ G, w3.heap.size = G := ⟨_, rfl⟩
  have hG2 : g2 < G := by omega
  have hG1 : g1 < G := by omega
  have hGw : w.heap.size ≤ G := by omega
  have HG := Lib.hid hG
  clear b1 b2 b3 a1 a2 a3 k1 k2 k3
  go_wp2_with fail
  refine (clone_anyWa l v w3 HRc.out (by rw [HN.out]; omega)).mono ?_
  rintro e w4 ⟨u, rfl, ho, hb⟩
  rw [HG.out] at ho hb
  obtain ⟨A, cp, hu, -, -⟩ := ho.rd.shape
  rw [HN.out] at hu
  subst hu
  have HO4 := Lib.hid ho
  have X14 := Lib.hid (X1.out.below hb hG1)
  have X24 := Lib.hid (X2.out.below hb hG2)
  have HW4 : Hid (Below w.heap.size w w4) := HB.out.trans (hb.mono hGw)
  have hs4 : G ≤ w4.heap.size := by have := hb.size; omega
  clear ho hb ca X0 X1 X2 HB HRc hG hs3
  have d0 := X14.out.at_ 0 _ rfl
  have d1 := X14.out.at_ 1 _ rfl
  have d2 := X14.out.at_ 2 _ rfl
  obtain ⟨B, hB⟩ : ∃ B, rightB (wP x) = B := ⟨_, rfl⟩
  have HBB := Lib.hid hB
  clear hB
  go_wp2_with fail
  refine (pRightIs (wP x) B HBB.out w4).mono ?_
  rintro e w5 ⟨rfl, hb⟩
  have HO5 := Lib.hid (HO4.out.below hb (Nat.le_refl _))
  have X15 := Lib.hid (X14.out.below hb (by omega))
  have X25 := Lib.hid (X24.out.below hb (by omega))
  have HW5 := Lib.hid (HW4.out.trans (hb.mono HW4.out.size))
  have hs5 : G ≤ w5.heap.size := by have := hb.size; omega
  clear hb d0 d1 d2 HO4 X14 X24 HW4
  have d0 := X15.out.at_ 0 _ rfl
  have d1 := X15.out.at_ 1 _ rfl
  have d2 := X15.out.at_ 2 _ rfl
  cases B
  · have HE := Lib.hid (addE_path l x HBB.out)
    go_wp2_with (refine wpList_store_to rfl 30 _ _ rfl g2 [.slice A n cp] [.slice none 0 0] 30 rfl rfl X25.out sTbP rfl (slice_one _ _ _) ?_)
    intro w20 e1 e2 e3 e4
    go_wp2
    refine bodyPost_ret (v := .tuple #[.agg #[.slice A n cp], .int .i64 13]) ?_ rfl ?_
    · exact ret_blk2U rfl _ _ g2 30 [.slice A n cp] _ rfl rfl e1 d30 HU.out HD.out sTbP
    · rw [HE.out.1, HE.out.2]
      have hq := ownsRow_same HO5.out (fun k hk => e4 k (by omega))
      exact ⟨_, rfl, OwnE.rd hq, .inr (OwnE.base hq (by first | exact Nat.le_refl _ | assumption | omega)), HW5.out.trans (e3.mono hw2)⟩
  by_cases hneg : wC x < 0
  · have HE := Lib.hid (addE_arg l x HBB.out hneg)
    go_wp2_with (refine wpList_store_to rfl 30 _ _ rfl g2 [.slice A n cp] [.slice none 0 0] 30 rfl rfl X25.out sTbP rfl (slice_one _ _ _) ?_)
    intro w20 e1 e2 e3 e4
    go_wp2
    refine bodyPost_ret (v := .tuple #[.agg #[.slice A n cp], .int .i64 1]) ?_ rfl ?_
    · exact ret_blk2U rfl _ _ g2 30 [.slice A n cp] _ rfl rfl e1 d30 HU.out HD.out sTbP
    · rw [HE.out.1, HE.out.2]
      have hq := ownsRow_same HO5.out (fun k hk => e4 k (by omega))
      exact ⟨_, rfl, OwnE.rd hq, .inr (OwnE.base hq (by first | exact Nat.le_refl _ | assumption | omega)), HW5.out.trans (e3.mono hw2)⟩
  have HNEG := Lib.hid hneg
  obtain ⟨H, hH⟩ : ∃ H, hasW l x = H := ⟨_, rfl⟩
  have HH := Lib.hid hH
  clear hH
  go_wp2_with fail
  refine (containsIsW l x H HH.out _ w5 HO5.out.rd).mono ?_
  rintro e w6 ⟨rfl, hb⟩
  have HO6 := Lib.hid (HO5.out.below hb (Nat.le_refl _))
  have X16 := Lib.hid (X15.out.below hb (by omega))
  have X26 := Lib.hid (X25.out.below hb (by omega))
  have HW6 := Lib.hid (HW5.out.trans (hb.mono HW5.out.size))
  have hs6 : G ≤ w6.heap.size := by have := hb.size; omega
  clear hb d0 d1 d2 HO5 X15 X25 HW5
  have d0 := X16.out.at_ 0 _ rfl
  have d1 := X16.out.at_ 1 _ rfl
  have d2 := X16.out.at_ 2 _ rfl
  cases H
  rotate_left
  · have HE := Lib.hid (addE_has l x HBB.out (by have := HNEG.out; omega) HH.out)
    go_wp2_with (refine wpList_store_to rfl 30 _ _ rfl g2 [.slice A n cp] [.slice none 0 0] 30 rfl rfl X26.out sTbP rfl (slice_one _ _ _) ?_)
    intro w20 e1 e2 e3 e4
    go_wp2
    refine bodyPost_ret (v := .tuple #[.agg #[.slice A n cp], .int .i64 0]) ?_ rfl ?_
    · exact ret_blk2U rfl _ _ g2 30 [.slice A n cp] _ rfl rfl e1 d30 HU.out HD.out sTbP
    · rw [HE.out.1, HE.out.2]
      have hq := ownsRow_same HO6.out (fun k hk => e4 k (by omega))
      exact ⟨_, rfl, OwnE.rd hq, .inr (OwnE.base hq (by first | exact Nat.le_refl _ | assumption | omega)), HW6.out.trans (e3.mono hw2)⟩
  by_cases hfull : (200 : Int) ≤ (n : Int)
  · have HE := Lib.hid (addE_full l x HBB.out (by have := HNEG.out; omega) HH.out (by rw [HN.out]; omega))
    go_wp2_with (refine wpList_store_to rfl 30 _ _ rfl g2 [.slice A n cp] [.slice none 0 0] 30 rfl rfl X26.out sTbP rfl (slice_one _ _ _) ?_)
    intro w20 e1 e2 e3 e4
    go_wp2
    refine bodyPost_ret (v := .tuple #[.agg #[.slice A n cp], .int .i64 9]) ?_ rfl ?_
    · exact ret_blk2U rfl _ _ g2 30 [.slice A n cp] _ rfl rfl e1 d30 HU.out HD.out sTbP
    · rw [HE.out.1, HE.out.2]
      have hq := ownsRow_same HO6.out (fun k hk => e4 k (by omega))
      exact ⟨_, rfl, OwnE.rd hq, .inr (OwnE.base hq (by first | exact Nat.le_refl _ | assumption | omega)), HW6.out.trans (e3.mono hw2)⟩
  have HE := Lib.hid (addE_ok l x HBB.out (by have := HNEG.out; omega) HH.out (by rw [HN.out]; omega))
  have HO7 : Hid (OwnE WaK 94 (w6.alloc (.cells (wac x).toArray 94)) G (.slice A n cp) l) := HO6.out.alloc _
  have HW7 : Hid (Below G w6 (w6.alloc (.cells (wac x).toArray 94))) := (Below.refl _ _).alloc hs6 _
  go_wp2_with (at_builtin; refine wpList_appE (E := WaK) rfl _ _ 28 rfl 94 32 Tryz.underlying28 kindWaP G _ _ _ l [x] rfl HO7.out rfl (RdE.one w6 94 x) (by simp) ?d1 ?d2 ?d3 ?_)
  case d1 => have := HN.out; simp only [List.length_cons, List.length_nil]; omega
  case d2 => have := HN.out; simp only [List.length_cons, List.length_nil]; omega
  case d3 => simp; omega
  intro v8 w8 h8 hb8 _ _
  have HO8 := Lib.hid h8
  have HW8 := Lib.hid (HW7.out.trans hb8)
  clear h8 hb8 d0 d1 d2
  have Y2 := Lib.hid (X26.out.below HW8.out hG2)
  obtain ⟨Ao, co, hv8, -, -⟩ := HO8.out.rd.shape
  obtain ⟨LL, hLL⟩ : ∃ LL, (l ++ [x]).length = LL := ⟨_, rfl⟩
  rw [hLL] at hv8
  subst hv8
  clear hLL
  go_wp2_with (refine wpList_store_to rfl 30 _ _ rfl g2 [.slice Ao LL co] [.slice none 0 0] 30 rfl rfl Y2.out sTbP rfl (slice_one _ _ _) ?_)
  intro w20 e1 e2 e3 e4
  go_wp2
  refine bodyPost_ret (v := .tuple #[.agg #[.slice Ao LL co], .int .i64 0]) ?_ rfl ?_
  · exact ret_blk2U rfl _ _ g2 30 [.slice Ao LL co] _ rfl rfl e1 d30 HU.out HD.out sTbP
  · rw [HE.out.1, HE.out.2]
    have hq := ownsRow_same HO8.out (fun k hk => e4 k (by omega))
    exact ⟨_, rfl, OwnE.rd hq, .inr (OwnE.base hq (by first | exact Nat.le_refl _ | assumption | omega)), HW6.out.trans ((HW8.out.mono hGw).trans (e3.mono hw2))⟩
set_option maxRecDepth 100000 in
set_option maxHeartbeats 16000000 in
theorem waRight_anyL (l : List Wa) (v : Value) (w : World) (hr : RdE WaK w.heap.size w v l) (hl : l.length ≤ 200) : Calls Tryz.prog 61 #[.agg #[v]] w (One (.bool (rightW l)) w) := by
  obtain ⟨A, cp, rfl, hc, hm⟩ := hr.shape
  unfold maxLen at hm
  obtain ⟨n, hn⟩ : ∃ n, l.length = n := ⟨_, rfl⟩
  have HN := Lib.hid hn
  have HR := Lib.hid hr
  rw [hn] at hc HR hl ⊢
  clear hr hn
  go_enter Tryz.func61, Tryz.ntmps61
  go_wp2_with (refine wpList_box_blk rfl 30 _ rfl [.slice A n cp] rfl ?_)
  intro w1 b1 b2 b3
  obtain ⟨g0, hg0⟩ : ∃ g, w.heap.size = g := ⟨_, rfl⟩
  have X0 := Lib.hid b1
  have HB := Lib.hid b3
  have hg1 : g0 < w1.heap.size := by omega
  have hw1 : w.heap.size ≤ w1.heap.size := by omega
  rw [hg0] at X0 ⊢
  have ca := X0.out.cell 0
  clear b1 b2 b3 hg0
  have hnl : ¬ (200 : Int) < (n : Int) := by omega
  go_wp2
  go_loopw [3, 12] (fun _ x wr => ∃ i : Nat, i ≤ n ∧ x = .int .i64 (i : Int) ∧ Hid (∀ j, j < i → okW l j = true) ∧ Hid (Below w1.heap.size w1 wr)) (fun _ x _ => n - (intOf x).toNat)
  case atStart => exact ⟨0, by omega, rfl, fun j hj => by omega, Below.refl _ _⟩
  case round =>
    obtain ⟨i, hi, rfl, HA, HW⟩ := hrel
    have hwr := HW.out.size
    clear ca
    by_cases hi2 : i < n
    · have zi : (i : Int) < (n : Int) := by omega
      obtain ⟨a, hA, c0, c1, c2⟩ := (HR.out.below (HB.out.trans (HW.out.mono hw1))).atWa i (by rw [HN.out]; exact hi2)
      subst hA
      obtain ⟨nd, hx⟩ : ∃ x, l.getD i wa0 = x := ⟨_, rfl⟩
      rw [hx] at c0 c1 c2
      have HX := Lib.hid hx
      have HOK : Hid (okW l i = ((rightB (wP nd) && decide (0 ≤ wC nd)) && !hasW (l.take i) nd)) := by
        show _ = _
        unfold okW fineW
        rw [hx]
      clear hx
      go_wp2_with (refine wpList_alloc_blk rfl 94 rfl (wac wa0) zeroWaP ?_)
      intro wa a1 a2 a3
      obtain ⟨gA, hgA⟩ : ∃ g, wr.heap.size = g := ⟨_, rfl⟩
      have A1 := Lib.hid a1
      have HWa := Lib.hid (HW.out.trans (a3.mono hwr))
      have hgA1 : w1.heap.size ≤ gA := by omega
      rw [hgA] at A1 ⊢
      clear a1 a3 HW c0 c1 c2 hgA
      go_wp2_with (refine wpList_store_to rfl 94 _ _ rfl gA (wac nd) (wac wa0) 94 rfl rfl A1.out szWaP rfl (wac_all _) ?_)
      intro wb e1 e2 e3 e4
      have HWb := Lib.hid (HWa.out.trans (e3.mono hgA1))
      have E1 := Lib.hid e1
      have XG := Lib.hid (X0.out.below HWb.out hg1)
      have hwb := HWb.out.size
      have HRr := Lib.hid ((HR.out.below (HB.out.trans (HWb.out.mono hw1))).more (HB.out.trans (HWb.out.mono hw1)).size)
      have hgr : g0 < wb.heap.size := by omega
      have hwwr : w.heap.size ≤ wb.heap.size := by omega
      clear e1 e2 e3 e4 a2 A1 HWa
      obtain ⟨B, hB⟩ : ∃ B, rightB (wP nd) = B := ⟨_, rfl⟩
      obtain ⟨H, hH⟩ : ∃ H, hasW (l.take i) nd = H := ⟨_, rfl⟩
      rw [hB, hH] at HOK
      have HBB := Lib.hid hB
      have HH := Lib.hid hH
      clear hB hH
      go_wp2
      cases B
      · have HF := Lib.hid (okW_not l i (by rw [HN.out]; exact hi2) (by rw [HOK.out]; rfl))
        refine wp_region_rely2 17 0 (fun x => ⟨#[.agg #[Value.slice (some a) n cp], .pointer (some { block := g0, off := 0 }), u2, .int IntKind.i64 ↑i, .pointer (some { block := gA, off := 0 }), .pointer (some { block := g0, off := 0 }), .slice (some a) n cp, .int IntKind.i64 ↑n, .bool false, .pointer (some { block := g0, off := 0 }), .slice (some a) n cp, .int IntKind.i64 ↑n, .int IntKind.i64 ↑i, .bool true, .int IntKind.i64 ↑i, .pointer (some (a.add (i * 3))), .agg #[txt (wP nd), Value.int IntKind.i64 (wC nd), Value.bool (wK nd)], x 0, x 1, x 2, x 3, x 4, x 5, x 6, x 7, x 8, x 9, x 10, x 11, x 12, x 13, x 14, x 15, x 16, u34], []⟩) (fun jj => ([eqV (.pointer (some ⟨gA, 0, none⟩)), eqV (txt (wP nd)), (eqV (.bool false)), eqV (.bool true), eqV (.bool true), (eqV undef), (eqV undef), (eqV undef), eqV (.bool true), eqV (.bool true), (eqV undef), (eqV undef), (eqV undef), (eqV undef), (eqV undef), (eqV undef), eqV (.bool true)] : List (Value → World → Prop)).getD jj (fun _ _ => True)) rfl ⟨fun kk => [_, _, _, _, _, _, _, _, _, _, _, _, _, _, _, _, _].getD kk undef, rfl⟩ (by kernel_rfl) (by kernel_rfl) ?steps ?fin
        case steps =>
          refine StepsAt.val 0 (.pointer (some ⟨gA, 0, none⟩)) rfl (fun _ _ => rfl) rfl rfl (fun x wx hb hd => ?_) ?_
          · first | (go_simp; done) | (go_simp; rfl)
          refine StepsAt.val 1 (txt (wP nd)) rfl (fun _ _ => rfl) rfl rfl (fun x wx hb hd => ?_) ?_
          · have h0 : x 0 = .pointer (some ⟨gA, 0, none⟩) := hd 0 (by kernel_rfl)
            have cc := ((E1.out.below hb E1.out.lt).cell 0).trans (show _ = some (txt (wP nd)) from rfl)
            rw [h0]
            first | (go_simp; done) | (go_simp; rfl)
          refine StepsAt.cons 2 (fun _ _ _ h hb => h) (fun _ _ => rfl) rfl rfl (fun x wx hb hd K hK => ?_) ?_
          · have h1 : Hid (x 1 = txt (wP nd)) := hd 1 (by kernel_rfl)
            go_simp
            refine calls_args (args2 := #[txt (wP nd)]) (by rw [h1.out]) ?_
            refine (pRightIs (wP nd) false HBB.out _).mono ?_
            rintro e w99 ⟨rfl, hb99⟩
            exact hK.out _ _ hb99 rfl
          refine StepsAt.val 3 (.bool true) rfl (fun _ _ => rfl) rfl rfl (fun x wx hb hd => ?_) ?_
          · have h2 : x 2 = .bool false := hd 2 (by kernel_rfl)
            rw [h2]
            first | (go_simp; done) | (go_simp; rfl)
          refine StepsAt.val 4 (.bool true) rfl (fun _ _ => rfl) rfl rfl (fun x wx hb hd => ?_) ?_
          · have h3 : x 3 = .bool true := hd 3 (by kernel_rfl)
            rw [h3]
            first | (go_simp; done) | (go_simp; rfl)
          refine StepsAt.skip 5 rfl (fun _ _ => rfl) rfl (fun x wx hd => ?_) ?_
          · have hG : x 4 = .bool true := hd 4 (by kernel_rfl)
            simp [Region.wanted, yielded, hG]
          refine StepsAt.skip 6 rfl (fun _ _ => rfl) rfl (fun x wx hd => ?_) ?_
          · have hG : x 4 = .bool true := hd 4 (by kernel_rfl)
            simp [Region.wanted, yielded, hG]
          refine StepsAt.skip 7 rfl (fun _ _ => rfl) rfl (fun x wx hd => ?_) ?_
          · have hG : x 4 = .bool true := hd 4 (by kernel_rfl)
            simp [Region.wanted, yielded, hG]
          refine StepsAt.val 8 (.bool true) rfl (fun _ _ => rfl) rfl rfl (fun x wx hb hd => ?_) ?_
          · have h4 : x 4 = .bool true := hd 4 (by kernel_rfl)
            have h7 : x 7 = undef := hd 7 (by kernel_rfl)
            rw [h4, h7]
            first | (go_simp; done) | (go_simp; rfl)
          refine StepsAt.val 9 (.bool true) rfl (fun _ _ => rfl) rfl rfl (fun x wx hb hd => ?_) ?_
          · have h8 : x 8 = .bool true := hd 8 (by kernel_rfl)
            rw [h8]
            first | (go_simp; done) | (go_simp; rfl)
          refine StepsAt.skip 10 rfl (fun _ _ => rfl) rfl (fun x wx hd => ?_) ?_
          · have hG : x 9 = .bool true := hd 9 (by kernel_rfl)
            simp [Region.wanted, yielded, hG]
          refine StepsAt.skip 11 rfl (fun _ _ => rfl) rfl (fun x wx hd => ?_) ?_
          · have hG : x 9 = .bool true := hd 9 (by kernel_rfl)
            simp [Region.wanted, yielded, hG]
          refine StepsAt.skip 12 rfl (fun _ _ => rfl) rfl (fun x wx hd => ?_) ?_
          · have hG : x 9 = .bool true := hd 9 (by kernel_rfl)
            simp [Region.wanted, yielded, hG]
          refine StepsAt.skip 13 rfl (fun _ _ => rfl) rfl (fun x wx hd => ?_) ?_
          · have hG : x 9 = .bool true := hd 9 (by kernel_rfl)
            simp [Region.wanted, yielded, hG]
          refine StepsAt.skip 14 rfl (fun _ _ => rfl) rfl (fun x wx hd => ?_) ?_
          · have hG : x 9 = .bool true := hd 9 (by kernel_rfl)
            simp [Region.wanted, yielded, hG]
          refine StepsAt.skip 15 rfl (fun _ _ => rfl) rfl (fun x wx hd => ?_) ?_
          · have hG : x 9 = .bool true := hd 9 (by kernel_rfl)
            simp [Region.wanted, yielded, hG]
          refine StepsAt.val 16 (.bool true) rfl (fun _ _ => rfl) rfl rfl (fun x wx hb hd => ?_) ?_
          · have h9 : x 9 = .bool true := hd 9 (by kernel_rfl)
            have h15 : x 15 = undef := hd 15 (by kernel_rfl)
            rw [h9, h15]
            first | (go_simp; done) | (go_simp; rfl)
          exact StepsAt.done
        case fin =>
          intro x wx hb hd
          have hx0 : x 0 = .pointer (some ⟨gA, 0, none⟩) := hd 0 (by omega)
          have hx1 : x 1 = txt (wP nd) := hd 1 (by omega)
          have hx2 : x 2 = .bool false := hd 2 (by omega)
          have hx3 : x 3 = .bool true := hd 3 (by omega)
          have hx4 : x 4 = .bool true := hd 4 (by omega)
          have hx5 : x 5 = undef := hd 5 (by omega)
          have hx6 : x 6 = undef := hd 6 (by omega)
          have hx7 : x 7 = undef := hd 7 (by omega)
          have hx8 : x 8 = .bool true := hd 8 (by omega)
          have hx9 : x 9 = .bool true := hd 9 (by omega)
          have hx10 : x 10 = undef := hd 10 (by omega)
          have hx11 : x 11 = undef := hd 11 (by omega)
          have hx12 : x 12 = undef := hd 12 (by omega)
          have hx13 : x 13 = undef := hd 13 (by omega)
          have hx14 : x 14 = undef := hd 14 (by omega)
          have hx15 : x 15 = undef := hd 15 (by omega)
          have hx16 : x 16 = .bool true := hd 16 (by omega)
          refine AnyTill.any (S := fun _ => True) (m := 17) _ _ _ _ ?_
          refine AnyTill.done (by kernel_rfl) ?_
          refine NoPanic.normal ?_
          try dsimp only
          rw [hx0, hx1, hx2, hx3, hx4, hx5, hx6, hx7, hx8, hx9, hx10, hx11, hx12, hx13, hx14, hx15, hx16]
          have HWx : Hid (Below w1.heap.size w1 wx) := HWb.out.trans (hb.mono hwb)
          clear hd hb hx0 hx1 hx2 hx3 hx4 hx5 hx6 hx7 hx8 hx9 hx10 hx11 hx12 hx13 hx14 hx15 hx16
          go_wp2
          go_ret
          exact ⟨by rw [HF.out]; rfl, HB.out.trans (HWx.out.mono hw1)⟩
      by_cases hneg : wC nd < 0
      · have HF := Lib.hid (okW_not l i (by rw [HN.out]; exact hi2) (by rw [HOK.out, decide_eq_false (show ¬ 0 ≤ wC nd by omega)]; rfl))
        refine wp_region_rely2 17 0 (fun x => ⟨#[.agg #[Value.slice (some a) n cp], .pointer (some { block := g0, off := 0 }), u2, .int IntKind.i64 ↑i, .pointer (some { block := gA, off := 0 }), .pointer (some { block := g0, off := 0 }), .slice (some a) n cp, .int IntKind.i64 ↑n, .bool false, .pointer (some { block := g0, off := 0 }), .slice (some a) n cp, .int IntKind.i64 ↑n, .int IntKind.i64 ↑i, .bool true, .int IntKind.i64 ↑i, .pointer (some (a.add (i * 3))), .agg #[txt (wP nd), Value.int IntKind.i64 (wC nd), Value.bool (wK nd)], x 0, x 1, x 2, x 3, x 4, x 5, x 6, x 7, x 8, x 9, x 10, x 11, x 12, x 13, x 14, x 15, x 16, u34], []⟩) (fun jj => ([eqV (.pointer (some ⟨gA, 0, none⟩)), eqV (txt (wP nd)), (eqV (.bool true)), eqV (.bool false), eqV (.bool false), eqV (.pointer (some ⟨gA, 1, none⟩)), eqV (.int .i64 (wC nd)), eqV (.bool true), eqV (.bool true), eqV (.bool true), (eqV undef), (eqV undef), (eqV undef), (eqV undef), (eqV undef), (eqV undef), eqV (.bool true)] : List (Value → World → Prop)).getD jj (fun _ _ => True)) rfl ⟨fun kk => [_, _, _, _, _, _, _, _, _, _, _, _, _, _, _, _, _].getD kk undef, rfl⟩ (by kernel_rfl) (by kernel_rfl) ?steps ?fin
        case steps =>
          refine StepsAt.val 0 (.pointer (some ⟨gA, 0, none⟩)) rfl (fun _ _ => rfl) rfl rfl (fun x wx hb hd => ?_) ?_
          · first | (go_simp; done) | (go_simp; rfl)
          refine StepsAt.val 1 (txt (wP nd)) rfl (fun _ _ => rfl) rfl rfl (fun x wx hb hd => ?_) ?_
          · have h0 : x 0 = .pointer (some ⟨gA, 0, none⟩) := hd 0 (by kernel_rfl)
            have cc := ((E1.out.below hb E1.out.lt).cell 0).trans (show _ = some (txt (wP nd)) from rfl)
            rw [h0]
            first | (go_simp; done) | (go_simp; rfl)
          refine StepsAt.cons 2 (fun _ _ _ h hb => h) (fun _ _ => rfl) rfl rfl (fun x wx hb hd K hK => ?_) ?_
          · have h1 : Hid (x 1 = txt (wP nd)) := hd 1 (by kernel_rfl)
            go_simp
            refine calls_args (args2 := #[txt (wP nd)]) (by rw [h1.out]) ?_
            refine (pRightIs (wP nd) true HBB.out _).mono ?_
            rintro e w99 ⟨rfl, hb99⟩
            exact hK.out _ _ hb99 rfl
          refine StepsAt.val 3 (.bool false) rfl (fun _ _ => rfl) rfl rfl (fun x wx hb hd => ?_) ?_
          · have h2 : x 2 = .bool true := hd 2 (by kernel_rfl)
            rw [h2]
            first | (go_simp; done) | (go_simp; rfl)
          refine StepsAt.val 4 (.bool false) rfl (fun _ _ => rfl) rfl rfl (fun x wx hb hd => ?_) ?_
          · have h3 : x 3 = .bool false := hd 3 (by kernel_rfl)
            rw [h3]
            first | (go_simp; done) | (go_simp; rfl)
          refine StepsAt.valG 5 (.pointer (some ⟨gA, 1, none⟩)) rfl (fun _ _ => rfl) rfl (fun x wx hd => ?_) (fun x wx hb hd => ?_) ?_
          · have hG : x 4 = .bool false := hd 4 (by kernel_rfl)
            simp [Region.wanted, yielded, hG]
          · first | (go_simp; done) | (go_simp; rfl)
          refine StepsAt.valG 6 (.int .i64 (wC nd)) rfl (fun _ _ => rfl) rfl (fun x wx hd => ?_) (fun x wx hb hd => ?_) ?_
          · have hG : x 4 = .bool false := hd 4 (by kernel_rfl)
            simp [Region.wanted, yielded, hG]
          · have h5 : x 5 = .pointer (some ⟨gA, 1, none⟩) := hd 5 (by kernel_rfl)
            have cc := ((E1.out.below hb E1.out.lt).cell 1).trans (show _ = some (.int .i64 (wC nd)) from rfl)
            rw [h5]
            first | (go_simp; done) | (go_simp; rfl)
          refine StepsAt.valG 7 (.bool true) rfl (fun _ _ => rfl) rfl (fun x wx hd => ?_) (fun x wx hb hd => ?_) ?_
          · have hG : x 4 = .bool false := hd 4 (by kernel_rfl)
            simp [Region.wanted, yielded, hG]
          · have h6 : x 6 = .int .i64 (wC nd) := hd 6 (by kernel_rfl)
            rw [h6]
            first | (go_simp; done) | (go_simp; rfl)
          refine StepsAt.val 8 (.bool true) rfl (fun _ _ => rfl) rfl rfl (fun x wx hb hd => ?_) ?_
          · have h4 : x 4 = .bool false := hd 4 (by kernel_rfl)
            have h7 : x 7 = .bool true := hd 7 (by kernel_rfl)
            rw [h4, h7]
            first | (go_simp; done) | (go_simp; rfl)
          refine StepsAt.val 9 (.bool true) rfl (fun _ _ => rfl) rfl rfl (fun x wx hb hd => ?_) ?_
          · have h8 : x 8 = .bool true := hd 8 (by kernel_rfl)
            rw [h8]
            first | (go_simp; done) | (go_simp; rfl)
          refine StepsAt.skip 10 rfl (fun _ _ => rfl) rfl (fun x wx hd => ?_) ?_
          · have hG : x 9 = .bool true := hd 9 (by kernel_rfl)
            simp [Region.wanted, yielded, hG]
          refine StepsAt.skip 11 rfl (fun _ _ => rfl) rfl (fun x wx hd => ?_) ?_
          · have hG : x 9 = .bool true := hd 9 (by kernel_rfl)
            simp [Region.wanted, yielded, hG]
          refine StepsAt.skip 12 rfl (fun _ _ => rfl) rfl (fun x wx hd => ?_) ?_
          · have hG : x 9 = .bool true := hd 9 (by kernel_rfl)
            simp [Region.wanted, yielded, hG]
          refine StepsAt.skip 13 rfl (fun _ _ => rfl) rfl (fun x wx hd => ?_) ?_
          · have hG : x 9 = .bool true := hd 9 (by kernel_rfl)
            simp [Region.wanted, yielded, hG]
          refine StepsAt.skip 14 rfl (fun _ _ => rfl) rfl (fun x wx hd => ?_) ?_
          · have hG : x 9 = .bool true := hd 9 (by kernel_rfl)
            simp [Region.wanted, yielded, hG]
          refine StepsAt.skip 15 rfl (fun _ _ => rfl) rfl (fun x wx hd => ?_) ?_
          · have hG : x 9 = .bool true := hd 9 (by kernel_rfl)
            simp [Region.wanted, yielded, hG]
          refine StepsAt.val 16 (.bool true) rfl (fun _ _ => rfl) rfl rfl (fun x wx hb hd => ?_) ?_
          · have h9 : x 9 = .bool true := hd 9 (by kernel_rfl)
            have h15 : x 15 = undef := hd 15 (by kernel_rfl)
            rw [h9, h15]
            first | (go_simp; done) | (go_simp; rfl)
          exact StepsAt.done
        case fin =>
          intro x wx hb hd
          have hx0 : x 0 = .pointer (some ⟨gA, 0, none⟩) := hd 0 (by omega)
          have hx1 : x 1 = txt (wP nd) := hd 1 (by omega)
          have hx2 : x 2 = .bool true := hd 2 (by omega)
          have hx3 : x 3 = .bool false := hd 3 (by omega)
          have hx4 : x 4 = .bool false := hd 4 (by omega)
          have hx5 : x 5 = .pointer (some ⟨gA, 1, none⟩) := hd 5 (by omega)
          have hx6 : x 6 = .int .i64 (wC nd) := hd 6 (by omega)
          have hx7 : x 7 = .bool true := hd 7 (by omega)
          have hx8 : x 8 = .bool true := hd 8 (by omega)
          have hx9 : x 9 = .bool true := hd 9 (by omega)
          have hx10 : x 10 = undef := hd 10 (by omega)
          have hx11 : x 11 = undef := hd 11 (by omega)
          have hx12 : x 12 = undef := hd 12 (by omega)
          have hx13 : x 13 = undef := hd 13 (by omega)
          have hx14 : x 14 = undef := hd 14 (by omega)
          have hx15 : x 15 = undef := hd 15 (by omega)
          have hx16 : x 16 = .bool true := hd 16 (by omega)
          refine AnyTill.any (S := fun _ => True) (m := 17) _ _ _ _ ?_
          refine AnyTill.done (by kernel_rfl) ?_
          refine NoPanic.normal ?_
          try dsimp only
          rw [hx0, hx1, hx2, hx3, hx4, hx5, hx6, hx7, hx8, hx9, hx10, hx11, hx12, hx13, hx14, hx15, hx16]
          have HWx : Hid (Below w1.heap.size w1 wx) := HWb.out.trans (hb.mono hwb)
          clear hd hb hx0 hx1 hx2 hx3 hx4 hx5 hx6 hx7 hx8 hx9 hx10 hx11 hx12 hx13 hx14 hx15 hx16
          go_wp2
          go_ret
          exact ⟨by rw [HF.out]; rfl, HB.out.trans (HWx.out.mono hw1)⟩
      cases H
      · have HA2 : Hid (∀ j, j < i + 1 → okW l j = true) := by
          intro j hj
          by_cases h : j < i
          · exact HA.out j h
          · have : j = i := by omega
            subst this
            rw [HOK.out, decide_eq_true (show 0 ≤ wC nd by omega)]; rfl
        refine wp_region_rely2 17 0 (fun x => ⟨#[.agg #[Value.slice (some a) n cp], .pointer (some { block := g0, off := 0 }), u2, .int IntKind.i64 ↑i, .pointer (some { block := gA, off := 0 }), .pointer (some { block := g0, off := 0 }), .slice (some a) n cp, .int IntKind.i64 ↑n, .bool false, .pointer (some { block := g0, off := 0 }), .slice (some a) n cp, .int IntKind.i64 ↑n, .int IntKind.i64 ↑i, .bool true, .int IntKind.i64 ↑i, .pointer (some (a.add (i * 3))), .agg #[txt (wP nd), Value.int IntKind.i64 (wC nd), Value.bool (wK nd)], x 0, x 1, x 2, x 3, x 4, x 5, x 6, x 7, x 8, x 9, x 10, x 11, x 12, x 13, x 14, x 15, x 16, u34], []⟩) (fun jj => ([eqV (.pointer (some ⟨gA, 0, none⟩)), eqV (txt (wP nd)), (eqV (.bool true)), eqV (.bool false), eqV (.bool false), eqV (.pointer (some ⟨gA, 1, none⟩)), eqV (.int .i64 (wC nd)), eqV (.bool false), eqV (.bool false), eqV (.bool false), eqV (.pointer (some ⟨g0, 0, none⟩)), eqV (.slice (some a) n cp), eqV (.int IntKind.i64 ↑i), eqV (.slice (some a) i cp), eqV (.agg (wac nd).toArray), (eqV (.bool false)), eqV (.bool false)] : List (Value → World → Prop)).getD jj (fun _ _ => True)) rfl ⟨fun kk => [_, _, _, _, _, _, _, _, _, _, _, _, _, _, _, _, _].getD kk undef, rfl⟩ (by kernel_rfl) (by kernel_rfl) ?steps ?fin
        case steps =>
          refine StepsAt.val 0 (.pointer (some ⟨gA, 0, none⟩)) rfl (fun _ _ => rfl) rfl rfl (fun x wx hb hd => ?_) ?_
          · first | (go_simp; done) | (go_simp; rfl)
          refine StepsAt.val 1 (txt (wP nd)) rfl (fun _ _ => rfl) rfl rfl (fun x wx hb hd => ?_) ?_
          · have h0 : x 0 = .pointer (some ⟨gA, 0, none⟩) := hd 0 (by kernel_rfl)
            have cc := ((E1.out.below hb E1.out.lt).cell 0).trans (show _ = some (txt (wP nd)) from rfl)
            rw [h0]
            first | (go_simp; done) | (go_simp; rfl)
          refine StepsAt.cons 2 (fun _ _ _ h hb => h) (fun _ _ => rfl) rfl rfl (fun x wx hb hd K hK => ?_) ?_
          · have h1 : Hid (x 1 = txt (wP nd)) := hd 1 (by kernel_rfl)
            go_simp
            refine calls_args (args2 := #[txt (wP nd)]) (by rw [h1.out]) ?_
            refine (pRightIs (wP nd) true HBB.out _).mono ?_
            rintro e w99 ⟨rfl, hb99⟩
            exact hK.out _ _ hb99 rfl
          refine StepsAt.val 3 (.bool false) rfl (fun _ _ => rfl) rfl rfl (fun x wx hb hd => ?_) ?_
          · have h2 : x 2 = .bool true := hd 2 (by kernel_rfl)
            rw [h2]
            first | (go_simp; done) | (go_simp; rfl)
          refine StepsAt.val 4 (.bool false) rfl (fun _ _ => rfl) rfl rfl (fun x wx hb hd => ?_) ?_
          · have h3 : x 3 = .bool false := hd 3 (by kernel_rfl)
            rw [h3]
            first | (go_simp; done) | (go_simp; rfl)
          refine StepsAt.valG 5 (.pointer (some ⟨gA, 1, none⟩)) rfl (fun _ _ => rfl) rfl (fun x wx hd => ?_) (fun x wx hb hd => ?_) ?_
          · have hG : x 4 = .bool false := hd 4 (by kernel_rfl)
            simp [Region.wanted, yielded, hG]
          · first | (go_simp; done) | (go_simp; rfl)
          refine StepsAt.valG 6 (.int .i64 (wC nd)) rfl (fun _ _ => rfl) rfl (fun x wx hd => ?_) (fun x wx hb hd => ?_) ?_
          · have hG : x 4 = .bool false := hd 4 (by kernel_rfl)
            simp [Region.wanted, yielded, hG]
          · have h5 : x 5 = .pointer (some ⟨gA, 1, none⟩) := hd 5 (by kernel_rfl)
            have cc := ((E1.out.below hb E1.out.lt).cell 1).trans (show _ = some (.int .i64 (wC nd)) from rfl)
            rw [h5]
            first | (go_simp; done) | (go_simp; rfl)
          refine StepsAt.valG 7 (.bool false) rfl (fun _ _ => rfl) rfl (fun x wx hd => ?_) (fun x wx hb hd => ?_) ?_
          · have hG : x 4 = .bool false := hd 4 (by kernel_rfl)
            simp [Region.wanted, yielded, hG]
          · have h6 : x 6 = .int .i64 (wC nd) := hd 6 (by kernel_rfl)
            rw [h6]
            first | (go_simp; done) | (go_simp; rfl)
          refine StepsAt.val 8 (.bool false) rfl (fun _ _ => rfl) rfl rfl (fun x wx hb hd => ?_) ?_
          · have h4 : x 4 = .bool false := hd 4 (by kernel_rfl)
            have h7 : x 7 = .bool false := hd 7 (by kernel_rfl)
            rw [h4, h7]
            first | (go_simp; done) | (go_simp; rfl)
          refine StepsAt.val 9 (.bool false) rfl (fun _ _ => rfl) rfl rfl (fun x wx hb hd => ?_) ?_
          · have h8 : x 8 = .bool false := hd 8 (by kernel_rfl)
            rw [h8]
            first | (go_simp; done) | (go_simp; rfl)
          refine StepsAt.valG 10 (.pointer (some ⟨g0, 0, none⟩)) rfl (fun _ _ => rfl) rfl (fun x wx hd => ?_) (fun x wx hb hd => ?_) ?_
          · have hG : x 9 = .bool false := hd 9 (by kernel_rfl)
            simp [Region.wanted, yielded, hG]
          · first | (go_simp; done) | (go_simp; rfl)
          refine StepsAt.valG 11 (.slice (some a) n cp) rfl (fun _ _ => rfl) rfl (fun x wx hd => ?_) (fun x wx hb hd => ?_) ?_
          · have hG : x 9 = .bool false := hd 9 (by kernel_rfl)
            simp [Region.wanted, yielded, hG]
          · have h10 : x 10 = .pointer (some ⟨g0, 0, none⟩) := hd 10 (by kernel_rfl)
            have cc := ((XG.out.below hb XG.out.lt).cell 0).trans (show _ = some (.slice (some a) n cp) from rfl)
            rw [h10]
            first | (go_simp; done) | (go_simp; rfl)
          refine StepsAt.valG 12 (.int IntKind.i64 ↑i) rfl (fun _ _ => rfl) rfl (fun x wx hd => ?_) (fun x wx hb hd => ?_) ?_
          · have hG : x 9 = .bool false := hd 9 (by kernel_rfl)
            simp [Region.wanted, yielded, hG]
          · first | (go_simp; done) | (go_simp; rfl)
          refine StepsAt.valG 13 (.slice (some a) i cp) rfl (fun _ _ => rfl) rfl (fun x wx hd => ?_) (fun x wx hb hd => ?_) ?_
          · have hG : x 9 = .bool false := hd 9 (by kernel_rfl)
            simp [Region.wanted, yielded, hG]
          · have h11 : x 11 = .slice (some a) n cp := hd 11 (by kernel_rfl)
            have h12 : x 12 = .int IntKind.i64 ↑i := hd 12 (by kernel_rfl)
            have z1 : ¬ cp < i := by omega
            have z2 : i ≤ cp := by omega
            have z3 : (i : Int) ≤ (cp : Int) := by omega
            rw [h11, h12]
            first | (go_simp; done) | (go_simp; rfl)
          refine StepsAt.valG 14 (.agg (wac nd).toArray) rfl (fun _ _ => rfl) rfl (fun x wx hd => ?_) (fun x wx hb hd => ?_) ?_
          · have hG : x 9 = .bool false := hd 9 (by kernel_rfl)
            simp [Region.wanted, yielded, hG]
          · have cc0 := (E1.out.below hb E1.out.lt).at_ 0 _ rfl
            have cc1 := (E1.out.below hb E1.out.lt).at_ 1 _ rfl
            have cc2 := (E1.out.below hb E1.out.lt).at_ 2 _ rfl
            first | (go_simp; done) | (go_simp; rfl)
          refine StepsAt.consG 15 (fun _ _ _ h hb => h) (fun _ _ => rfl) rfl (fun x wx hd => ?_) (fun x wx hb hd K hK => ?_) ?_
          · have hG : x 9 = .bool false := hd 9 (by kernel_rfl)
            simp [Region.wanted, yielded, hG]
          · have h13 : Hid (x 13 = .slice (some a) i cp) := hd 13 (by kernel_rfl)
            have h14 : Hid (x 14 = .agg (wac nd).toArray) := hd 14 (by kernel_rfl)
            go_simp
            refine calls_args (args2 := #[.slice (some a) i cp, .agg (wac nd).toArray]) (by rw [h13.out, h14.out]) ?_
            refine (containsIsW (l.take i) nd false HH.out _ _ ((HRr.out.below hb).more hb.size |>.take i (by omega))).mono ?_
            rintro e w99 ⟨rfl, hb99⟩
            exact hK.out _ _ hb99 rfl
          refine StepsAt.val 16 (.bool false) rfl (fun _ _ => rfl) rfl rfl (fun x wx hb hd => ?_) ?_
          · have h9 : x 9 = .bool false := hd 9 (by kernel_rfl)
            have h15 : x 15 = .bool false := hd 15 (by kernel_rfl)
            rw [h9, h15]
            first | (go_simp; done) | (go_simp; rfl)
          exact StepsAt.done
        case fin =>
          intro x wx hb hd
          have hx0 : x 0 = .pointer (some ⟨gA, 0, none⟩) := hd 0 (by omega)
          have hx1 : x 1 = txt (wP nd) := hd 1 (by omega)
          have hx2 : x 2 = .bool true := hd 2 (by omega)
          have hx3 : x 3 = .bool false := hd 3 (by omega)
          have hx4 : x 4 = .bool false := hd 4 (by omega)
          have hx5 : x 5 = .pointer (some ⟨gA, 1, none⟩) := hd 5 (by omega)
          have hx6 : x 6 = .int .i64 (wC nd) := hd 6 (by omega)
          have hx7 : x 7 = .bool false := hd 7 (by omega)
          have hx8 : x 8 = .bool false := hd 8 (by omega)
          have hx9 : x 9 = .bool false := hd 9 (by omega)
          have hx10 : x 10 = .pointer (some ⟨g0, 0, none⟩) := hd 10 (by omega)
          have hx11 : x 11 = .slice (some a) n cp := hd 11 (by omega)
          have hx12 : x 12 = .int IntKind.i64 ↑i := hd 12 (by omega)
          have hx13 : x 13 = .slice (some a) i cp := hd 13 (by omega)
          have hx14 : x 14 = .agg (wac nd).toArray := hd 14 (by omega)
          have hx15 : x 15 = .bool false := hd 15 (by omega)
          have hx16 : x 16 = .bool false := hd 16 (by omega)
          refine AnyTill.any (S := fun _ => True) (m := 17) _ _ _ _ ?_
          refine AnyTill.done (by kernel_rfl) ?_
          refine NoPanic.normal ?_
          try dsimp only
          rw [hx0, hx1, hx2, hx3, hx4, hx5, hx6, hx7, hx8, hx9, hx10, hx11, hx12, hx13, hx14, hx15, hx16]
          have HWx : Hid (Below w1.heap.size w1 wx) := HWb.out.trans (hb.mono hwb)
          clear hd hb hx0 hx1 hx2 hx3 hx4 hx5 hx6 hx7 hx8 hx9 hx10 hx11 hx12 hx13 hx14 hx15 hx16
          go_wp2
          go_roundw
          case rel => exact ⟨i + 1, by omega, by go_num, HA2, HWx⟩
          case measure => simp [intOf]; omega
      · have HF := Lib.hid (okW_not l i (by rw [HN.out]; exact hi2) (by rw [HOK.out]; simp))
        refine wp_region_rely2 17 0 (fun x => ⟨#[.agg #[Value.slice (some a) n cp], .pointer (some { block := g0, off := 0 }), u2, .int IntKind.i64 ↑i, .pointer (some { block := gA, off := 0 }), .pointer (some { block := g0, off := 0 }), .slice (some a) n cp, .int IntKind.i64 ↑n, .bool false, .pointer (some { block := g0, off := 0 }), .slice (some a) n cp, .int IntKind.i64 ↑n, .int IntKind.i64 ↑i, .bool true, .int IntKind.i64 ↑i, .pointer (some (a.add (i * 3))), .agg #[txt (wP nd), Value.int IntKind.i64 (wC nd), Value.bool (wK nd)], x 0, x 1, x 2, x 3, x 4, x 5, x 6, x 7, x 8, x 9, x 10, x 11, x 12, x 13, x 14, x 15, x 16, u34], []⟩) (fun jj => ([eqV (.pointer (some ⟨gA, 0, none⟩)), eqV (txt (wP nd)), (eqV (.bool true)), eqV (.bool false), eqV (.bool false), eqV (.pointer (some ⟨gA, 1, none⟩)), eqV (.int .i64 (wC nd)), eqV (.bool false), eqV (.bool false), eqV (.bool false), eqV (.pointer (some ⟨g0, 0, none⟩)), eqV (.slice (some a) n cp), eqV (.int IntKind.i64 ↑i), eqV (.slice (some a) i cp), eqV (.agg (wac nd).toArray), (eqV (.bool true)), eqV (.bool true)] : List (Value → World → Prop)).getD jj (fun _ _ => True)) rfl ⟨fun kk => [_, _, _, _, _, _, _, _, _, _, _, _, _, _, _, _, _].getD kk undef, rfl⟩ (by kernel_rfl) (by kernel_rfl) ?steps ?fin
        case steps =>
          refine StepsAt.val 0 (.pointer (some ⟨gA, 0, none⟩)) rfl (fun _ _ => rfl) rfl rfl (fun x wx hb hd => ?_) ?_
          · first | (go_simp; done) | (go_simp; rfl)
          refine StepsAt.val 1 (txt (wP nd)) rfl (fun _ _ => rfl) rfl rfl (fun x wx hb hd => ?_) ?_
          · have h0 : x 0 = .pointer (some ⟨gA, 0, none⟩) := hd 0 (by kernel_rfl)
            have cc := ((E1.out.below hb E1.out.lt).cell 0).trans (show _ = some (txt (wP nd)) from rfl)
            rw [h0]
            first | (go_simp; done) | (go_simp; rfl)
          refine StepsAt.cons 2 (fun _ _ _ h hb => h) (fun _ _ => rfl) rfl rfl (fun x wx hb hd K hK => ?_) ?_
          · have h1 : Hid (x 1 = txt (wP nd)) := hd 1 (by kernel_rfl)
            go_simp
            refine calls_args (args2 := #[txt (wP nd)]) (by rw [h1.out]) ?_
            refine (pRightIs (wP nd) true HBB.out _).mono ?_
            rintro e w99 ⟨rfl, hb99⟩
            exact hK.out _ _ hb99 rfl
          refine StepsAt.val 3 (.bool false) rfl (fun _ _ => rfl) rfl rfl (fun x wx hb hd => ?_) ?_
          · have h2 : x 2 = .bool true := hd 2 (by kernel_rfl)
            rw [h2]
            first | (go_simp; done) | (go_simp; rfl)
          refine StepsAt.val 4 (.bool false) rfl (fun _ _ => rfl) rfl rfl (fun x wx hb hd => ?_) ?_
          · have h3 : x 3 = .bool false := hd 3 (by kernel_rfl)
            rw [h3]
            first | (go_simp; done) | (go_simp; rfl)
          refine StepsAt.valG 5 (.pointer (some ⟨gA, 1, none⟩)) rfl (fun _ _ => rfl) rfl (fun x wx hd => ?_) (fun x wx hb hd => ?_) ?_
          · have hG : x 4 = .bool false := hd 4 (by kernel_rfl)
            simp [Region.wanted, yielded, hG]
          · first | (go_simp; done) | (go_simp; rfl)
          refine StepsAt.valG 6 (.int .i64 (wC nd)) rfl (fun _ _ => rfl) rfl (fun x wx hd => ?_) (fun x wx hb hd => ?_) ?_
          · have hG : x 4 = .bool false := hd 4 (by kernel_rfl)
            simp [Region.wanted, yielded, hG]
          · have h5 : x 5 = .pointer (some ⟨gA, 1, none⟩) := hd 5 (by kernel_rfl)
            have cc := ((E1.out.below hb E1.out.lt).cell 1).trans (show _ = some (.int .i64 (wC nd)) from rfl)
            rw [h5]
            first | (go_simp; done) | (go_simp; rfl)
          refine StepsAt.valG 7 (.bool false) rfl (fun _ _ => rfl) rfl (fun x wx hd => ?_) (fun x wx hb hd => ?_) ?_
          · have hG : x 4 = .bool false := hd 4 (by kernel_rfl)
            simp [Region.wanted, yielded, hG]
          · have h6 : x 6 = .int .i64 (wC nd) := hd 6 (by kernel_rfl)
            rw [h6]
            first | (go_simp; done) | (go_simp; rfl)
          refine StepsAt.val 8 (.bool false) rfl (fun _ _ => rfl) rfl rfl (fun x wx hb hd => ?_) ?_
          · have h4 : x 4 = .bool false := hd 4 (by kernel_rfl)
            have h7 : x 7 = .bool false := hd 7 (by kernel_rfl)
            rw [h4, h7]
            first | (go_simp; done) | (go_simp; rfl)
          refine StepsAt.val 9 (.bool false) rfl (fun _ _ => rfl) rfl rfl (fun x wx hb hd => ?_) ?_
          · have h8 : x 8 = .bool false := hd 8 (by kernel_rfl)
            rw [h8]
            first | (go_simp; done) | (go_simp; rfl)
          refine StepsAt.valG 10 (.pointer (some ⟨g0, 0, none⟩)) rfl (fun _ _ => rfl) rfl (fun x wx hd => ?_) (fun x wx hb hd => ?_) ?_
          · have hG : x 9 = .bool false := hd 9 (by kernel_rfl)
            simp [Region.wanted, yielded, hG]
          · first | (go_simp; done) | (go_simp; rfl)
          refine StepsAt.valG 11 (.slice (some a) n cp) rfl (fun _ _ => rfl) rfl (fun x wx hd => ?_) (fun x wx hb hd => ?_) ?_
          · have hG : x 9 = .bool false := hd 9 (by kernel_rfl)
            simp [Region.wanted, yielded, hG]
          · have h10 : x 10 = .pointer (some ⟨g0, 0, none⟩) := hd 10 (by kernel_rfl)
            have cc := ((XG.out.below hb XG.out.lt).cell 0).trans (show _ = some (.slice (some a) n cp) from rfl)
            rw [h10]
            first | (go_simp; done) | (go_simp; rfl)
          refine StepsAt.valG 12 (.int IntKind.i64 ↑i) rfl (fun _ _ => rfl) rfl (fun x wx hd => ?_) (fun x wx hb hd => ?_) ?_
          · have hG : x 9 = .bool false := hd 9 (by kernel_rfl)
            simp [Region.wanted, yielded, hG]
          · first | (go_simp; done) | (go_simp; rfl)
          refine StepsAt.valG 13 (.slice (some a) i cp) rfl (fun _ _ => rfl) rfl (fun x wx hd => ?_) (fun x wx hb hd => ?_) ?_
          · have hG : x 9 = .bool false := hd 9 (by kernel_rfl)
            simp [Region.wanted, yielded, hG]
          · have h11 : x 11 = .slice (some a) n cp := hd 11 (by kernel_rfl)
            have h12 : x 12 = .int IntKind.i64 ↑i := hd 12 (by kernel_rfl)
            have z1 : ¬ cp < i := by omega
            have z2 : i ≤ cp := by omega
            have z3 : (i : Int) ≤ (cp : Int) := by omega
            rw [h11, h12]
            first | (go_simp; done) | (go_simp; rfl)
          refine StepsAt.valG 14 (.agg (wac nd).toArray) rfl (fun _ _ => rfl) rfl (fun x wx hd => ?_) (fun x wx hb hd => ?_) ?_
          · have hG : x 9 = .bool false := hd 9 (by kernel_rfl)
            simp [Region.wanted, yielded, hG]
          · have cc0 := (E1.out.below hb E1.out.lt).at_ 0 _ rfl
            have cc1 := (E1.out.below hb E1.out.lt).at_ 1 _ rfl
            have cc2 := (E1.out.below hb E1.out.lt).at_ 2 _ rfl
            first | (go_simp; done) | (go_simp; rfl)
          refine StepsAt.consG 15 (fun _ _ _ h hb => h) (fun _ _ => rfl) rfl (fun x wx hd => ?_) (fun x wx hb hd K hK => ?_) ?_
          · have hG : x 9 = .bool false := hd 9 (by kernel_rfl)
            simp [Region.wanted, yielded, hG]
          · have h13 : Hid (x 13 = .slice (some a) i cp) := hd 13 (by kernel_rfl)
            have h14 : Hid (x 14 = .agg (wac nd).toArray) := hd 14 (by kernel_rfl)
            go_simp
            refine calls_args (args2 := #[.slice (some a) i cp, .agg (wac nd).toArray]) (by rw [h13.out, h14.out]) ?_
            refine (containsIsW (l.take i) nd true HH.out _ _ ((HRr.out.below hb).more hb.size |>.take i (by omega))).mono ?_
            rintro e w99 ⟨rfl, hb99⟩
            exact hK.out _ _ hb99 rfl
          refine StepsAt.val 16 (.bool true) rfl (fun _ _ => rfl) rfl rfl (fun x wx hb hd => ?_) ?_
          · have h9 : x 9 = .bool false := hd 9 (by kernel_rfl)
            have h15 : x 15 = .bool true := hd 15 (by kernel_rfl)
            rw [h9, h15]
            first | (go_simp; done) | (go_simp; rfl)
          exact StepsAt.done
        case fin =>
          intro x wx hb hd
          have hx0 : x 0 = .pointer (some ⟨gA, 0, none⟩) := hd 0 (by omega)
          have hx1 : x 1 = txt (wP nd) := hd 1 (by omega)
          have hx2 : x 2 = .bool true := hd 2 (by omega)
          have hx3 : x 3 = .bool false := hd 3 (by omega)
          have hx4 : x 4 = .bool false := hd 4 (by omega)
          have hx5 : x 5 = .pointer (some ⟨gA, 1, none⟩) := hd 5 (by omega)
          have hx6 : x 6 = .int .i64 (wC nd) := hd 6 (by omega)
          have hx7 : x 7 = .bool false := hd 7 (by omega)
          have hx8 : x 8 = .bool false := hd 8 (by omega)
          have hx9 : x 9 = .bool false := hd 9 (by omega)
          have hx10 : x 10 = .pointer (some ⟨g0, 0, none⟩) := hd 10 (by omega)
          have hx11 : x 11 = .slice (some a) n cp := hd 11 (by omega)
          have hx12 : x 12 = .int IntKind.i64 ↑i := hd 12 (by omega)
          have hx13 : x 13 = .slice (some a) i cp := hd 13 (by omega)
          have hx14 : x 14 = .agg (wac nd).toArray := hd 14 (by omega)
          have hx15 : x 15 = .bool true := hd 15 (by omega)
          have hx16 : x 16 = .bool true := hd 16 (by omega)
          refine AnyTill.any (S := fun _ => True) (m := 17) _ _ _ _ ?_
          refine AnyTill.done (by kernel_rfl) ?_
          refine NoPanic.normal ?_
          try dsimp only
          rw [hx0, hx1, hx2, hx3, hx4, hx5, hx6, hx7, hx8, hx9, hx10, hx11, hx12, hx13, hx14, hx15, hx16]
          have HWx : Hid (Below w1.heap.size w1 wx) := HWb.out.trans (hb.mono hwb)
          clear hd hb hx0 hx1 hx2 hx3 hx4 hx5 hx6 hx7 hx8 hx9 hx10 hx11 hx12 hx13 hx14 hx15 hx16
          go_wp2
          go_ret
          exact ⟨by rw [HF.out]; rfl, HB.out.trans (HWx.out.mono hw1)⟩
    · have hE : i = n := by omega
      subst hE
      have HF := Lib.hid (rightW_end l (by rw [HN.out]; exact HA.out))
      rw [HN.out] at HF
      have HF2 : Hid (rightW l = true) := by show _ = _; rw [HF.out, decide_eq_true (by omega)]
      go_wp2
      go_ret
      exact ⟨by rw [HF2.out]; rfl, HB.out.trans (HW.out.mono hw1)⟩

end Go.Proofs.YtdihngkdhanhkaaGreatDoor
