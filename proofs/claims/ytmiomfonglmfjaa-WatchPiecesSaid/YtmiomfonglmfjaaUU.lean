/-
  The statements on tables: WatchPieces.
-/
import Derived.Test.YtmiomfonglmfjaaUS
import Derived.Test.YtmiomfonglmfjaaR6
import Derived.Test.YtmiomfonglmfjaaR9
namespace Go.Proofs.Ytmiomfonglmfjaa
open Go.RowKit
/-- A row of one's own, as long as it is not appended to. -/
def RowX (B : Nat) (l : List Ch) (a b : Value) (w : World) : Prop := (∃ A n c, a = .slice A n c) ∧ (b = undef → OwnE ChK 26 w B a l)
theorem RowX.keep {B : Nat} {l : List Ch} {a b : Value} {w w' : World} (h : RowX B l a b w) (hb : Below w.heap.size w w') : RowX B l a b w' := ⟨h.1, fun e => (h.2 e).below hb (Nat.le_refl _)⟩
theorem OwnE.isSlice {α : Type} {E : RowK α} {e : TypeId} {w : World} {B : Nat} {v : Value} {l : List α} (h : OwnE E e w B v l) : ∃ A n c, v = .slice A n c := by
  obtain ⟨A, c, hv, -, -⟩ := h.rd.shape
  exact ⟨A, _, c, hv⟩
/-- What an append does: it grows the row that it is given. -/
def GrowV (B : Nat) (l : List Ch) (a : Value) (w w' : World) : Prop := (∃ A n c, a = .slice A n c) ∧ OwnE ChK 26 w B a l ∧ w.grownBy w' a.ownBlock
def GrowX (B : Nat) (l : List Ch) (i : Nat) (x : Nat → Value) (w w' : World) : Prop := if i = 3 then GrowV B [] (x 1) w w' else GrowV B l (x 3) w w'
theorem NewB.keepV {cs : List Value} {B B' : Nat} {l : List Ch} {u a : Value} {w w' : World} (h : NewB 24 cs B u w) (hs : GrowV B' l a w w') : NewB 24 cs B u w' := by
  obtain ⟨g, h1, h2, h3⟩ := h
  have hne := OwnE.not_blk hs.2.1 h2 (by decide)
  exact ⟨g, h1, h2.same (hs.2.2.block g h2.lt (fun e => hne e.symm)), h3⟩
theorem NewB.keepX {cs : List Value} {B B' : Nat} {l : List Ch} {i : Nat} {u : Value} {x : Nat → Value} {w w' : World} (h : NewB 24 cs B u w) (hs : GrowX B' l i x w w') : NewB 24 cs B u w' := by
  unfold GrowX at hs
  split at hs
  · exact h.keepV hs
  · exact h.keepV hs
theorem short_app {l m : List Ch} (h : l.length ≤ 40) (h2 : m.length ≤ 40) : (l ++ m).length ≤ 100 := by rw [List.length_append]; omega

set_option maxRecDepth 1000000 in
set_option maxHeartbeats 16000000 in
theorem piecesW_all (v : Value) (l : List Wa) (u : Value) (cs : List Ch) (u2 : Value) (ds : List Ch) (w : World) (hr : RdE WaK w.heap.size w v l) (hr' : RdE ChK w.heap.size w u cs) (hr2 : RdE ChK w.heap.size w u2 ds) : Calls Try.prog 6 #[.agg #[v], u, u2] w (One (.bool true) w) := by
  have HR := Lib.hid hr
  have HC := Lib.hid hr'
  have HD := Lib.hid hr2
  clear hr hr' hr2
  go_enter Try.func6, Try.ntmps6
  go_wp2_with (refine wpList_box_blk rfl 24 _ rfl [v] rfl ?_)
  intro y0 b1 b2 b3
  obtain ⟨gb0, hg⟩ : ∃ g, w.heap.size = g := ⟨_, rfl⟩
  have X0 := Lib.hid b1
  have EB0 := Lib.hid b3
  rw [hg] at X0 ⊢
  clear b1 b2 b3 hg
  have c_X0 := X0.out.at_ 0 _ rfl
  go_wp2_with fail
  refine (fewW_any l v y0 ((HR.out.below EB0.out).more EB0.out.size)).mono ?_
  rintro e W1 ⟨rfl, hb⟩
  have E1 := Lib.hid hb
  clear hb c_X0
  have P1_w := Lib.hid (EB0.out.trans (E1.out.mono EB0.out.size))
  cases hF : fewB l
  · clear hF
    go_wp2_with fail
    refine (alive11 W1).mono ?_
    rintro e W2 ⟨rfl, hb⟩
    have E2 := Lib.hid hb
    clear hb
    have P2_w := Lib.hid (P1_w.out.trans (E2.out.mono P1_w.out.size))
    clear P1_w
    have P2_y0 := Lib.hid (E1.out.trans (E2.out.mono E1.out.size))
    go_wp2
    go_ret
    exact ⟨rfl, P2_w.out⟩
  have HL := Lib.hid (few_len hF)
  clear hF
  have c_X0 := (X0.out.below E1.out X0.out.lt).at_ 0 _ rfl
  go_wp2_with fail
  refine (plainW_any l v W1 ((HR.out.below P1_w.out).more P1_w.out.size) (by have := HL.out; omega)).mono ?_
  rintro e W2 ⟨vp, rfl, hrd, hb⟩
  have E2 := Lib.hid hb
  clear hb c_X0
  have P2_w := Lib.hid (P1_w.out.trans (E2.out.mono P1_w.out.size))
  clear P1_w
  have P2_y0 := Lib.hid (E1.out.trans (E2.out.mono E1.out.size))
  have RP := Lib.hid hrd
  clear hrd
  go_wp2_with fail
  refine (rfRightW_any l vp W2 RP.out).mono ?_
  rintro e W3 ⟨rfl, hb⟩
  have E3 := Lib.hid hb
  clear hb
  have P3_w := Lib.hid (P2_w.out.trans (E3.out.mono P2_w.out.size))
  clear P2_w
  have P3_y0 := Lib.hid (P2_y0.out.trans (E3.out.mono P2_y0.out.size))
  clear P2_y0
  have P3_W1 := Lib.hid (E2.out.trans (E3.out.mono E2.out.size))
  cases hG : rightW l
  · clear hG
    go_wp2_with fail
    refine (alive11 W3).mono ?_
    rintro e W4 ⟨rfl, hb⟩
    have E4 := Lib.hid hb
    clear hb
    have P4_w := Lib.hid (P3_w.out.trans (E4.out.mono P3_w.out.size))
    clear P3_w
    have P4_y0 := Lib.hid (P3_y0.out.trans (E4.out.mono P3_y0.out.size))
    clear P3_y0
    have P4_W1 := Lib.hid (P3_W1.out.trans (E4.out.mono P3_W1.out.size))
    clear P3_W1
    have P4_W2 := Lib.hid (E3.out.trans (E4.out.mono E3.out.size))
    go_wp2
    go_ret
    exact ⟨rfl, P4_w.out⟩
  have HRT := Lib.hid ((rightW_iff l).1 hG)
  clear hG
  go_wp2_with fail
  refine (shortW_any cs u W3 ((HC.out.below P3_w.out).more P3_w.out.size)).mono ?_
  rintro e W4 ⟨rfl, hb⟩
  have E4 := Lib.hid hb
  clear hb
  have P4_w := Lib.hid (P3_w.out.trans (E4.out.mono P3_w.out.size))
  clear P3_w
  have P4_y0 := Lib.hid (P3_y0.out.trans (E4.out.mono P3_y0.out.size))
  clear P3_y0
  have P4_W1 := Lib.hid (P3_W1.out.trans (E4.out.mono P3_W1.out.size))
  clear P3_W1
  have P4_W2 := Lib.hid (E3.out.trans (E4.out.mono E3.out.size))
  cases hF : shortB cs
  · clear hF
    go_wp2_with fail
    refine (alive11 W4).mono ?_
    rintro e W5 ⟨rfl, hb⟩
    have E5 := Lib.hid hb
    clear hb
    have P5_w := Lib.hid (P4_w.out.trans (E5.out.mono P4_w.out.size))
    clear P4_w
    have P5_y0 := Lib.hid (P4_y0.out.trans (E5.out.mono P4_y0.out.size))
    clear P4_y0
    have P5_W1 := Lib.hid (P4_W1.out.trans (E5.out.mono P4_W1.out.size))
    clear P4_W1
    have P5_W2 := Lib.hid (P4_W2.out.trans (E5.out.mono P4_W2.out.size))
    clear P4_W2
    have P5_W3 := Lib.hid (E4.out.trans (E5.out.mono E4.out.size))
    go_wp2
    go_ret
    exact ⟨rfl, P5_w.out⟩
  have HS := Lib.hid (short_len hF)
  clear hF
  go_wp2_with fail
  refine (shortW_any ds u2 W4 ((HD.out.below P4_w.out).more P4_w.out.size)).mono ?_
  rintro e W5 ⟨rfl, hb⟩
  have E5 := Lib.hid hb
  clear hb
  have P5_w := Lib.hid (P4_w.out.trans (E5.out.mono P4_w.out.size))
  clear P4_w
  have P5_y0 := Lib.hid (P4_y0.out.trans (E5.out.mono P4_y0.out.size))
  clear P4_y0
  have P5_W1 := Lib.hid (P4_W1.out.trans (E5.out.mono P4_W1.out.size))
  clear P4_W1
  have P5_W2 := Lib.hid (P4_W2.out.trans (E5.out.mono P4_W2.out.size))
  clear P4_W2
  have P5_W3 := Lib.hid (E4.out.trans (E5.out.mono E4.out.size))
  cases hF : shortB ds
  · clear hF
    go_wp2_with fail
    refine (alive11 W5).mono ?_
    rintro e W6 ⟨rfl, hb⟩
    have E6 := Lib.hid hb
    clear hb
    have P6_w := Lib.hid (P5_w.out.trans (E6.out.mono P5_w.out.size))
    clear P5_w
    have P6_y0 := Lib.hid (P5_y0.out.trans (E6.out.mono P5_y0.out.size))
    clear P5_y0
    have P6_W1 := Lib.hid (P5_W1.out.trans (E6.out.mono P5_W1.out.size))
    clear P5_W1
    have P6_W2 := Lib.hid (P5_W2.out.trans (E6.out.mono P5_W2.out.size))
    clear P5_W2
    have P6_W3 := Lib.hid (P5_W3.out.trans (E6.out.mono P5_W3.out.size))
    clear P5_W3
    have P6_W4 := Lib.hid (E5.out.trans (E6.out.mono E5.out.size))
    go_wp2
    go_ret
    exact ⟨rfl, P6_w.out⟩
  have HT := Lib.hid (short_len hF)
  clear hF
  obtain ⟨L3, hL⟩ : ∃ q1, leftW l cs = q1 := ⟨_, rfl⟩
  have HL3 := Lib.hid hL
  obtain ⟨E3, hE⟩ : ∃ q1, fireW l cs = q1 := ⟨_, rfl⟩
  have HE3 := Lib.hid hE
  have RT3 := Lib.hid (right_left l cs HRT.out)
  rw [hL] at RT3
  have LL3 : Hid (L3.length ≤ 60 ∧ E3.length ≤ 60) := by
    show _ ∧ _
    have h1 := fire_len l cs
    have h2 := HL.out
    rw [hL, hE] at h1
    constructor <;> omega
  clear hL hE
  have c_X0 := (X0.out.below P5_y0.out X0.out.lt).at_ 0 _ rfl
  go_wp2_with fail
  refine (waFire_any l cs v u W5 ((HR.out.below P5_w.out).more P5_w.out.size) ((HC.out.below P5_w.out).more P5_w.out.size) HRT.out (by have := HS.out; omega)).mono ?_
  rintro e va6 ⟨v3, u3, rfl, hrd, hre, hb⟩
  clear c_X0
  have ONE3 := Lib.hid (tab_rd hrd)
  rw [HL3.out] at hrd
  rw [HE3.out] at hre
  go_wp2_with (refine wpList_alloc_blk rfl 24 rfl [.slice none 0 0] zTbP ?_)
  intro vb6 a1 a2 a3
  obtain ⟨vg6, hg⟩ : ∃ g, va6.heap.size = g := ⟨_, rfl⟩
  have AA := Lib.hid a1
  have EB := Lib.hid (hb.trans (a3.mono hb.size))
  have A3 := Lib.hid a3
  have hbg : W5.heap.size ≤ vg6 := by have := hb.size; omega
  have hgs : vg6 ≤ vb6.heap.size := by omega
  have HG := Lib.hid hg
  have RR0 := Lib.hid hrd
  have RR1 := Lib.hid hre
  rw [hg] at AA A3 RR0 RR1 ⊢
  clear a1 a2 a3 hb hg hrd hre
  go_wp2_with (refine wpList_store_to rfl 24 _ _ rfl vg6 [v3] [.slice none 0 0] 24 rfl rfl AA.out sTbP rfl ONE3.out ?_)
  intro W6 e1 e2 e3 e4
  have X3 := Lib.hid e1
  have E6 := Lib.hid (EB.out.trans (e3.mono hbg))
  have R3 := Lib.hid (((RR0.out.below A3.out).below e3).more (show vg6 ≤ W6.heap.size by omega))
  have S3 := Lib.hid (((RR1.out.below A3.out).below e3).more (show vg6 ≤ W6.heap.size by omega))
  clear e1 e2 e3 e4 AA EB A3 hbg hgs HG RR0 RR1
  have P6_w := Lib.hid (P5_w.out.trans (E6.out.mono P5_w.out.size))
  clear P5_w
  have P6_y0 := Lib.hid (P5_y0.out.trans (E6.out.mono P5_y0.out.size))
  clear P5_y0
  have P6_W1 := Lib.hid (P5_W1.out.trans (E6.out.mono P5_W1.out.size))
  clear P5_W1
  have P6_W2 := Lib.hid (P5_W2.out.trans (E6.out.mono P5_W2.out.size))
  clear P5_W2
  have P6_W3 := Lib.hid (P5_W3.out.trans (E6.out.mono P5_W3.out.size))
  clear P5_W3
  have P6_W4 := Lib.hid (E5.out.trans (E6.out.mono E5.out.size))
  obtain ⟨L4, hL⟩ : ∃ q1, leftW L3 ds = q1 := ⟨_, rfl⟩
  have HL4 := Lib.hid hL
  obtain ⟨E4, hE⟩ : ∃ q1, fireW L3 ds = q1 := ⟨_, rfl⟩
  have HE4 := Lib.hid hE
  have LL4 : Hid (L4.length ≤ 60 ∧ E4.length ≤ 60) := by
    show _ ∧ _
    have h1 := fire_len L3 ds
    have h2 := LL3.out.1
    rw [hL, hE] at h1
    constructor <;> omega
  clear hL hE
  have c_X3 := X3.out.at_ 0 _ rfl
  go_wp2_with fail
  refine (waFire_any L3 ds v3 u2 W6 R3.out ((HD.out.below P6_w.out).more P6_w.out.size) RT3.out (by have := HT.out; omega)).mono ?_
  rintro e va7 ⟨v4, u4, rfl, hrd, hre, hb⟩
  clear c_X3
  have ONE4 := Lib.hid (tab_rd hrd)
  rw [HL4.out] at hrd
  rw [HE4.out] at hre
  go_wp2_with (refine wpList_alloc_blk rfl 24 rfl [.slice none 0 0] zTbP ?_)
  intro vb7 a1 a2 a3
  obtain ⟨vg7, hg⟩ : ∃ g, va7.heap.size = g := ⟨_, rfl⟩
  have AA := Lib.hid a1
  have EB := Lib.hid (hb.trans (a3.mono hb.size))
  have A3 := Lib.hid a3
  have hbg : W6.heap.size ≤ vg7 := by have := hb.size; omega
  have hgs : vg7 ≤ vb7.heap.size := by omega
  have HG := Lib.hid hg
  have RR0 := Lib.hid hrd
  have RR1 := Lib.hid hre
  rw [hg] at AA A3 RR0 RR1 ⊢
  clear a1 a2 a3 hb hg hrd hre
  go_wp2_with (refine wpList_store_to rfl 24 _ _ rfl vg7 [v4] [.slice none 0 0] 24 rfl rfl AA.out sTbP rfl ONE4.out ?_)
  intro W7 e1 e2 e3 e4
  have X4 := Lib.hid e1
  have E7 := Lib.hid (EB.out.trans (e3.mono hbg))
  have R4 := Lib.hid (((RR0.out.below A3.out).below e3).more (show vg7 ≤ W7.heap.size by omega))
  have S4 := Lib.hid (((RR1.out.below A3.out).below e3).more (show vg7 ≤ W7.heap.size by omega))
  clear e1 e2 e3 e4 AA EB A3 hbg hgs HG RR0 RR1
  have P7_w := Lib.hid (P6_w.out.trans (E7.out.mono P6_w.out.size))
  clear P6_w
  have P7_y0 := Lib.hid (P6_y0.out.trans (E7.out.mono P6_y0.out.size))
  clear P6_y0
  have P7_W1 := Lib.hid (P6_W1.out.trans (E7.out.mono P6_W1.out.size))
  clear P6_W1
  have P7_W2 := Lib.hid (P6_W2.out.trans (E7.out.mono P6_W2.out.size))
  clear P6_W2
  have P7_W3 := Lib.hid (P6_W3.out.trans (E7.out.mono P6_W3.out.size))
  clear P6_W3
  have P7_W4 := Lib.hid (P6_W4.out.trans (E7.out.mono P6_W4.out.size))
  clear P6_W4
  have P7_W5 := Lib.hid (E6.out.trans (E7.out.mono E6.out.size))
  obtain ⟨L5, hL⟩ : ∃ q1, leftW l (cs ++ ds) = q1 := ⟨_, rfl⟩
  have HL5 := Lib.hid hL
  obtain ⟨E5, hE⟩ : ∃ q1, fireW l (cs ++ ds) = q1 := ⟨_, rfl⟩
  have HE5 := Lib.hid hE
  have LL5 : Hid (L5.length ≤ 60 ∧ E5.length ≤ 60) := by
    show _ ∧ _
    have h1 := fire_len l (cs ++ ds)
    have h2 := HL.out
    rw [hL, hE] at h1
    constructor <;> omega
  clear hL hE
  go_wp2
  have ZX0 := Lib.hid (X0.out.below P7_y0.out X0.out.lt)
  have ZHR := Lib.hid ((HR.out.below P7_w.out).more P7_w.out.size)
  have ZHC := Lib.hid ((HC.out.below P7_w.out).more P7_w.out.size)
  have ZHD := Lib.hid ((HD.out.below P7_w.out).more P7_w.out.size)
  refine wp_region_relyX [9] [3, 5] (GrowX W7.heap.size cs) (fun k => [undef, undef, undef, undef, undef, undef, undef, undef, undef, undef, undef].getD k undef) 11 2 (fun x => ⟨#[.agg #[v], u, u2, .pointer (some { block := gb0, off := 0 }), undef, undef, .bool false, .pointer (some { block := vg6, off := 0 }), u3, .pointer (some { block := vg7, off := 0 }), u4, x 10, undef, .agg #[v], .bool true, .bool false, .bool false, .agg #[v], .agg #[vp], .bool true, .bool false, .bool false, .bool false, u, .bool true, .bool false, .bool false, .bool false, u2, .bool true, .bool false, .bool false, undef, .tuple #[Value.agg #[v3], u3], .agg #[v], u, .tuple #[Value.agg #[v3], u3], .agg #[v3], u3, .tuple #[Value.agg #[v4], u4], .agg #[v3], u2, .tuple #[Value.agg #[v4], u4], .agg #[v4], u4, x 7, x 0, x 1, x 2, x 3, x 4, x 5, x 6, x 8, x 9, undef, undef, undef, undef, undef, undef, undef, undef, undef, undef, undef, undef, undef, undef, undef, undef, undef], []⟩) (fun jj => ([fun x w => eqV (.agg #[v]) (x 0) w, fun x w => RowX W7.heap.size [] (x 1) (x 3) w, fun x w => eqV u (x 2) w, fun x w => RowX W7.heap.size cs (x 3) (x 5) w, fun x w => eqV u2 (x 4) w, fun x w => (∃ A n c, x 5 = .slice A n c) ∧ OwnE ChK 26 w W7.heap.size (x 5) (cs ++ ds), fun x w => FiresV L5 E5 (x 6) w, fun x w => FiresV L5 E5 (x 7) w, fun x w => PlainW L5 (x 8) w, fun x w => RowP EvK E5 (x 9) w, fun x w => NewB 24 [.slice none 0 0] W7.heap.size (x 10) w] : List ((Nat → Value) → World → Prop)).getD jj (fun _ _ => True)) rfl rfl (by kernel_rfl) (by kernel_rfl) (by kernel_rfl) ?pure ?steps ?fin
  case pure =>
    intro p hp
    obtain rfl := List.mem_singleton.1 hp
    refine ⟨fun op ho xx wx hd => ?_, by decide⟩
    injection ho with ho
    subst ho
    obtain ⟨v99, u99, hv99, -, hr99⟩ : FiresV L5 E5 (xx 7) wx := hd 7 (by kernel_rfl)
    refine ⟨by rfl, u99, fun w9 => ?_, ?_⟩
    · first | (go_simp; done) | (go_simp; rw [hv99]; done) | (go_simp; rw [hv99]; rfl)
    · show RowP EvK E5 (upd xx 9 u99 9) wx
      rw [upd_same]
      exact hr99
  case steps =>
    refine StepsX.val 0 (.agg #[v]) rfl (by decide) (fun _ _ => rfl) rfl rfl (fun x wx hb hd => ?_) ?_
    · have cc := ((ZX0.out.below hb ZX0.out.lt).cell 0).trans (show _ = some (v) from rfl)
      first | (go_simp; done) | (go_simp; rfl)
    refine StepsX.cons 1 (fun x i vv w1 w2 hij hni h1 h2 h3 => ?_) (fun _ _ => rfl) rfl rfl (fun x wx hb hx hd K hK => ?_) ?_
    · change RowX W7.heap.size [] (x 1) (x 3) w1 at h1
      show RowX W7.heap.size [] (upd x i vv 1) (upd x i vv 3) w2
      rw [upd_ne _ _ _ _ (Ne.symm hij)]
      by_cases hnx : i = 3
      · subst hnx
        rw [upd_same]
        obtain ⟨A9, n9, c9, e9⟩ : ∃ A n c, upd x 3 vv 3 = .slice A n c := h3.1
        rw [upd_same] at e9
        exact ⟨h1.1, fun e => by rw [e9] at e; cases e⟩
      rw [upd_ne _ _ _ _ (Ne.symm hnx)]
      unfold effX at h2
      split at h2
      · rename_i hsp
        have hq : i = 3 ∨ i = 5 := by simpa using hsp
        obtain rfl | rfl := hq
        · first | exact absurd rfl hij | exact absurd rfl hnx | (obtain ⟨A9, n9, c9, e9⟩ : ∃ A n c, x 1 = .slice A n c := (show GrowV _ _ _ _ _ from h2).1; exact ⟨h1.1, fun e => by rw [e9] at e; cases e⟩)
        · first | exact absurd rfl hij | exact absurd rfl hnx | (obtain ⟨A9, n9, c9, e9⟩ : ∃ A n c, x 3 = .slice A n c := (show GrowV _ _ _ _ _ from h2).1; exact ⟨h1.1, fun e => by rw [e9] at e; cases e⟩)
      · exact h1.keep h2
    · go_simp
      have hOE := OwnE.empty (E := ChK) 26 wx W7.heap.size hb.size
      refine hK.out (.slice (some ⟨wx.heap.size, 0, none⟩) 0 0) (wx.alloc (.cells #[] 26)) ((Below.refl _ _).alloc hb.size _) ?_ ?_
      · unfold effX
        rw [if_neg (by decide)]
        exact (Below.refl _ _).alloc (Nat.le_refl _) _
      · show RowX W7.heap.size [] (upd x 1 _ 1) (upd x 1 _ 3) _
        rw [upd_same]
        exact ⟨⟨_, _, _, rfl⟩, fun _ => hOE⟩
    refine StepsX.val 2 (u) rfl (by decide) (fun _ _ => rfl) rfl rfl (fun x wx hb hd => ?_) ?_
    · first | (go_simp; done) | (go_simp; rfl)
    refine StepsX.cons 3 (fun x i vv w1 w2 hij hni h1 h2 h3 => ?_) (fun _ _ => rfl) rfl rfl (fun x wx hb hx hd K hK => ?_) ?_
    · change RowX W7.heap.size cs (x 3) (x 5) w1 at h1
      show RowX W7.heap.size cs (upd x i vv 3) (upd x i vv 5) w2
      rw [upd_ne _ _ _ _ (Ne.symm hij)]
      by_cases hnx : i = 5
      · subst hnx
        rw [upd_same]
        obtain ⟨A9, n9, c9, e9⟩ : ∃ A n c, upd x 5 vv 5 = .slice A n c := h3.1
        rw [upd_same] at e9
        exact ⟨h1.1, fun e => by rw [e9] at e; cases e⟩
      rw [upd_ne _ _ _ _ (Ne.symm hnx)]
      unfold effX at h2
      split at h2
      · rename_i hsp
        have hq : i = 3 ∨ i = 5 := by simpa using hsp
        obtain rfl | rfl := hq
        · first | exact absurd rfl hij | exact absurd rfl hnx | (obtain ⟨A9, n9, c9, e9⟩ : ∃ A n c, x 1 = .slice A n c := (show GrowV _ _ _ _ _ from h2).1; exact ⟨h1.1, fun e => by rw [e9] at e; cases e⟩)
        · first | exact absurd rfl hij | exact absurd rfl hnx | (obtain ⟨A9, n9, c9, e9⟩ : ∃ A n c, x 3 = .slice A n c := (show GrowV _ _ _ _ _ from h2).1; exact ⟨h1.1, fun e => by rw [e9] at e; cases e⟩)
      · exact h1.keep h2
    · have h1 : RowX W7.heap.size [] (x 1) (x 3) wx := hd 1 (by kernel_rfl)
      have h2 : x 2 = u := hd 2 (by kernel_rfl)
      have h1 := Lib.hid (h1.2 hx)
      have h4 := Lib.hid ((ZHC.out.below hb).more hb.size)
      refine wp_of_list rfl (wpList_appF (E := ChK) rfl _ _ 44 rfl 26 24 Try.underlying44 kindChP W7.heap.size _ (x 1) u [] cs rfl h1.out h2 h4.out ?d1 ?d2 hb.size ?_)
      case d1 => have := HS.out; simp; omega
      case d2 => have := HS.out; simp; omega
      intro v9 w9 h9 hb9 hg9
      rw [List.nil_append] at h9
      refine hK.out v9 w9 hb9 ?_ ?_
      · unfold effX
        rw [if_pos (by decide)]
        exact ⟨h1.out.isSlice, h1.out, hg9⟩
      · show RowX W7.heap.size cs (upd x 3 v9 3) (upd x 3 v9 5) w9
        rw [upd_same]
        exact ⟨h9.isSlice, fun _ => h9⟩
    refine StepsX.val 4 (u2) rfl (by decide) (fun _ _ => rfl) rfl rfl (fun x wx hb hd => ?_) ?_
    · first | (go_simp; done) | (go_simp; rfl)
    refine StepsX.cons 5 (fun x i vv w1 w2 hij hni h1 h2 h3 => ?_) (fun _ _ => rfl) rfl rfl (fun x wx hb hx hd K hK => ?_) ?_
    · change (∃ A n c, x 5 = .slice A n c) ∧ OwnE ChK 26 w1 W7.heap.size (x 5) (cs ++ ds) at h1
      show (∃ A n c, upd x i vv 5 = .slice A n c) ∧ OwnE ChK 26 w2 W7.heap.size (upd x i vv 5) (cs ++ ds)
      rw [upd_ne _ _ _ _ (Ne.symm hij)]
      unfold effX at h2
      split at h2
      · rename_i hsp
        have hq : i = 3 ∨ i = 5 := by simpa using hsp
        obtain rfl | rfl := hq
        · exact absurd (by kernel_rfl : (clos _ _ (depsOf _ 5)).contains 3 = true) (by simpa using hni)
        · exact absurd rfl hij
      · exact ⟨h1.1, h1.2.below h2 (Nat.le_refl _)⟩
    · have h1 : RowX W7.heap.size cs (x 3) (x 5) wx := hd 3 (by kernel_rfl)
      have h2 : x 4 = u2 := hd 4 (by kernel_rfl)
      have h1 := Lib.hid (h1.2 hx)
      have h4 := Lib.hid ((ZHD.out.below hb).more hb.size)
      refine wp_of_list rfl (wpList_appF (E := ChK) rfl _ _ 44 rfl 26 24 Try.underlying44 kindChP W7.heap.size _ (x 3) u2 cs ds rfl h1.out h2 h4.out ?d1 ?d2 hb.size ?_)
      case d1 => have := HS.out; have := HT.out; omega
      case d2 => have := HS.out; have := HT.out; omega
      intro v9 w9 h9 hb9 hg9
      refine hK.out v9 w9 hb9 ?_ ?_
      · unfold effX
        rw [if_pos (by decide)]
        exact ⟨h1.out.isSlice, h1.out, hg9⟩
      · show (∃ A n c, upd x 5 v9 5 = .slice A n c) ∧ OwnE ChK 26 w9 W7.heap.size (upd x 5 v9 5) (cs ++ ds)
        rw [upd_same]
        exact ⟨h9.isSlice, h9⟩
    refine StepsX.aft 6 (FiresV L5 E5) rfl (by decide) (by kernel_rfl) (fun _ _ _ h hb => h.keep hb) (fun _ _ => rfl) rfl rfl (fun x wx hb hd K hK => ?_) ?_
    · have h0 : Hid (x 0 = .agg #[v]) := hd 0 (by kernel_rfl)
      have h5 : (∃ A n c, x 5 = .slice A n c) ∧ OwnE ChK 26 wx W7.heap.size (x 5) (cs ++ ds) := hd 5 (by kernel_rfl)
      go_simp
      refine calls_args (args2 := #[.agg #[v], x 5]) (by rw [h0.out]) ?_
      have ha := waFire_any l (cs ++ ds) v (x 5) _ ((ZHR.out.below hb).more hb.size) h5.2.rd HRT.out (short_app HS.out HT.out)
      rw [HL5.out, HE5.out] at ha
      refine ha.mono ?_
      rintro e w99 ⟨v99, u99, rfl, hrd, hre, hb99⟩
      exact hK.out _ _ hb99 ⟨v99, u99, rfl, hrd, hre⟩
    refine StepsX.aft 7 (FiresV L5 E5) rfl (by decide) (by kernel_rfl) (fun _ _ _ h hb => h.keep hb) (fun _ _ => rfl) rfl rfl (fun x wx hb hd K hK => ?_) ?_
    · have h6 : FiresV L5 E5 (x 6) wx := hd 6 (by kernel_rfl)
      go_simp
      exact hK.out (x 6) _ (Below.refl _ _) h6
    refine StepsX.aft 8 (PlainW L5) rfl (by decide) (by kernel_rfl) (fun _ _ _ h hb => h.keep hb) (fun _ _ => rfl) rfl rfl (fun x wx hb hd K hK => ?_) ?_
    · obtain ⟨v99, u99, hv99, hr99, -⟩ : FiresV L5 E5 (x 7) wx := hd 7 (by kernel_rfl)
      have H99 := Lib.hid hr99
      rw [hv99] at hK ⊢
      clear hd hv99 hr99
      go_simp
      exact hK.out _ _ (Below.refl _ _) ⟨v99, rfl, H99.out⟩
    refine StepsX.aft 9 (RowP EvK E5) rfl (by decide) (by kernel_rfl) (fun _ _ _ h hb => h.keep hb) (fun _ _ => rfl) rfl rfl (fun x wx hb hd K hK => ?_) ?_
    · obtain ⟨v99, u99, hv99, -, hr99⟩ : FiresV L5 E5 (x 7) wx := hd 7 (by kernel_rfl)
      have H99 := Lib.hid hr99
      rw [hv99] at hK ⊢
      clear hd hv99 hr99
      go_simp
      exact hK.out _ _ (Below.refl _ _) H99.out
    refine StepsX.row 10 (NewB 24 [.slice none 0 0] W7.heap.size) rfl (by decide) (fun _ _ _ h hb => h.keep hb) (fun _ _ _ _ _ _ h hs => h.keepX hs) (fun _ _ => rfl) rfl rfl (fun x wx hb hd K hK => ?_) ?_
    · refine wp_of_list rfl (wpList_alloc_blk rfl 24 rfl [.slice none 0 0] zTbP ?_)
      intro w8 a1 a2 a3
      exact hK.out _ _ a3 ⟨_, rfl, a1, hb.size⟩
    exact StepsX.done
  case fin =>
    intro xx wx hb hd
    obtain ⟨v5, hxv, hrA⟩ : PlainW L5 (xx 8) wx := hd 8 (by omega)
    obtain ⟨g5, hxp, hbA, hgA⟩ : NewB 24 [.slice none 0 0] W7.heap.size (xx 10) wx := hd 10 (by omega)
    have hrS : RowP EvK E5 (xx 9) wx := hd 9 (by omega)
    obtain ⟨u5, hxs⟩ : ∃ u, xx 9 = u := ⟨_, rfl⟩
    rw [hxs] at hrS
    have ONE5 := Lib.hid (tab_rd hrA)
    have EB5 := Lib.hid hb
    have BA5 := Lib.hid hbA
    have RA5 := Lib.hid hrA
    have RS5 := Lib.hid hrS
    refine AnyTill.any (S := fun _ => True) (m := 13) _ _ _ _ ?_
    rw [hxv, hxp, hxs]
    clear hd hb hxv hxp hxs hbA hrA hrS
    refine AnyTill.one (i := 11) (by kernel_rfl) rfl (by rfl) (fun K hK => ?_)
    refine wp_of_list rfl (wpList_store_to rfl 24 _ _ rfl g5 [v5] [.slice none 0 0] 24 rfl rfl BA5.out sTbP rfl ONE5.out ?_)
    intro W8 e1 e2 e3 e4
    refine hK.out _ _ (.inr trivial) ?_
    clear hK K
    refine AnyTill.one (i := 12) (by kernel_rfl) rfl (by rfl) (fun K hK => ?_)
    go_simp
    refine hK.out _ _ (.inr trivial) ?_
    clear hK K
    refine AnyTill.done (by kernel_rfl) ?_
    refine NoPanic.normal ?_
    try dsimp only
    have X5 := Lib.hid e1
    have E8 := Lib.hid (EB5.out.trans (e3.mono hgA))
    have R5 := Lib.hid ((RA5.out.but BA5.out (fun off h => absurd h (by show ¬ off + 3 ≤ 1; omega)) e4).more (show wx.heap.size ≤ W8.heap.size by omega))
    have S5 := Lib.hid ((show RdE _ _ _ _ _ from RS5.out).but BA5.out (fun off h => absurd h (by show ¬ off + 5 ≤ 1; omega)) e4 |>.more (show wx.heap.size ≤ W8.heap.size by omega))
    clear e1 e2 e3 e4 EB5 BA5 RA5 hgA RS5
    have P8_w := Lib.hid (P7_w.out.trans (E8.out.mono P7_w.out.size))
    clear P7_w
    have P8_y0 := Lib.hid (P7_y0.out.trans (E8.out.mono P7_y0.out.size))
    clear P7_y0
    have P8_W1 := Lib.hid (P7_W1.out.trans (E8.out.mono P7_W1.out.size))
    clear P7_W1
    have P8_W2 := Lib.hid (P7_W2.out.trans (E8.out.mono P7_W2.out.size))
    clear P7_W2
    have P8_W3 := Lib.hid (P7_W3.out.trans (E8.out.mono P7_W3.out.size))
    clear P7_W3
    have P8_W4 := Lib.hid (P7_W4.out.trans (E8.out.mono P7_W4.out.size))
    clear P7_W4
    have P8_W5 := Lib.hid (P7_W5.out.trans (E8.out.mono P7_W5.out.size))
    clear P7_W5
    have P8_W6 := Lib.hid (E7.out.trans (E8.out.mono E7.out.size))
    have HSL : Hid (decide (L4 = L5) = true) := by
      show _ = _
      rw [← HL4.out, ← HL5.out, ← HL3.out, leftW_append]
      exact decide_eq_true rfl
    have HSE : Hid (E3 ++ E4 = E5) := by
      show _ = _
      rw [← HE3.out, ← HE4.out, ← HE5.out, ← HL3.out, fireW_append]
    go_wp2_with fail
    refine (alive11 W8).mono ?_
    rintro e W9 ⟨rfl, hb⟩
    have E9 := Lib.hid hb
    clear hb
    have P9_w := Lib.hid (P8_w.out.trans (E9.out.mono P8_w.out.size))
    clear P8_w
    have P9_y0 := Lib.hid (P8_y0.out.trans (E9.out.mono P8_y0.out.size))
    clear P8_y0
    have P9_W1 := Lib.hid (P8_W1.out.trans (E9.out.mono P8_W1.out.size))
    clear P8_W1
    have P9_W2 := Lib.hid (P8_W2.out.trans (E9.out.mono P8_W2.out.size))
    clear P8_W2
    have P9_W3 := Lib.hid (P8_W3.out.trans (E9.out.mono P8_W3.out.size))
    clear P8_W3
    have P9_W4 := Lib.hid (P8_W4.out.trans (E9.out.mono P8_W4.out.size))
    clear P8_W4
    have P9_W5 := Lib.hid (P8_W5.out.trans (E9.out.mono P8_W5.out.size))
    clear P8_W5
    have P9_W6 := Lib.hid (P8_W6.out.trans (E9.out.mono P8_W6.out.size))
    clear P8_W6
    have P9_W7 := Lib.hid (E8.out.trans (E9.out.mono E8.out.size))
    have c_X4 := (X4.out.below P9_W7.out X4.out.lt).at_ 0 _ rfl
    have c_X5 := (X5.out.below E9.out X5.out.lt).at_ 0 _ rfl
    go_wp2_with fail
    refine (waSameIs L4 L5 true HSL.out v4 v5 W9 ((R4.out.below P9_W7.out).more P9_W7.out.size) ((R5.out.below E9.out).more E9.out.size) LL4.out.1 LL5.out.1).mono ?_
    rintro e W10 ⟨rfl, hb⟩
    have E10 := Lib.hid hb
    clear hb c_X4 c_X5
    have P10_w := Lib.hid (P9_w.out.trans (E10.out.mono P9_w.out.size))
    clear P9_w
    have P10_y0 := Lib.hid (P9_y0.out.trans (E10.out.mono P9_y0.out.size))
    clear P9_y0
    have P10_W1 := Lib.hid (P9_W1.out.trans (E10.out.mono P9_W1.out.size))
    clear P9_W1
    have P10_W2 := Lib.hid (P9_W2.out.trans (E10.out.mono P9_W2.out.size))
    clear P9_W2
    have P10_W3 := Lib.hid (P9_W3.out.trans (E10.out.mono P9_W3.out.size))
    clear P9_W3
    have P10_W4 := Lib.hid (P9_W4.out.trans (E10.out.mono P9_W4.out.size))
    clear P9_W4
    have P10_W5 := Lib.hid (P9_W5.out.trans (E10.out.mono P9_W5.out.size))
    clear P9_W5
    have P10_W6 := Lib.hid (P9_W6.out.trans (E10.out.mono P9_W6.out.size))
    clear P9_W6
    have P10_W7 := Lib.hid (P9_W7.out.trans (E10.out.mono P9_W7.out.size))
    clear P9_W7
    have P10_W8 := Lib.hid (E9.out.trans (E10.out.mono E9.out.size))
    obtain ⟨GE, hGE⟩ : ∃ q1, W10.heap.size = q1 := ⟨_, rfl⟩
    have HGE := Lib.hid hGE
    have HO0 : Hid (OwnE EvK 65 (W10.alloc (.cells #[] 65)) GE (.slice (some ⟨GE, 0, none⟩) 0 0) []) := by
      have := OwnE.empty (E := EvK) 65 W10 GE (by rw [hGE]; exact Nat.le_refl _)
      rw [hGE] at this
      exact this
    have HW0 : Hid (Below GE W10 (W10.alloc (.cells #[] 65))) := (Below.refl _ _).alloc (by rw [hGE]; exact Nat.le_refl _) _
    have HA0 := Lib.hid (((S3.out.below P10_W6.out).more P10_W6.out.size))
    have HA1 := Lib.hid (((S4.out.below P10_W7.out).more P10_W7.out.size))
    rw [hGE] at HA0 HA1
    have HB0 := Lib.hid (HA0.out.below HW0.out)
    have hGa : GE ≤ (W10.alloc (.cells #[] 65)).heap.size := by simp; omega
    go_wp2_with (at_builtin; refine wpList_appFG (E := EvK) (by rfl) _ _ 51 rfl 65 56 Try.underlying51 kindEvP GE _ _ _ [] E3 rfl HO0.out rfl HB0.out ?d1 ?d2 hGa ?_)
    case d1 => have := LL3.out.2; simp; omega
    case d2 => have := LL3.out.2; simp; omega
    intro vP wP h5 hb5 _
    replace h5 : OwnE EvK 65 wP GE vP E3 := h5
    have HP := Lib.hid h5
    have HWP := Lib.hid (HW0.out.trans hb5)
    have hGP : GE ≤ wP.heap.size := Nat.le_trans hGa hb5.size
    have HB1 := Lib.hid (HA1.out.below HWP.out)
    clear h5 hb5 HO0 HW0 HB0 hGa HA0
    go_wp2_with (at_builtin; refine wpList_appFG (E := EvK) (by rfl) _ _ 51 rfl 65 56 Try.underlying51 kindEvP GE _ _ _ E3 E4 rfl HP.out rfl HB1.out ?d1 ?d2 hGP ?_)
    case d1 => have := LL3.out.2; have := LL4.out.2; omega
    case d2 => have := LL3.out.2; have := LL4.out.2; omega
    intro vQ wQ h5 hb5 _
    rw [HSE.out] at h5
    have RQ := Lib.hid h5.rd
    have EQ : Hid (Below W10.heap.size W10 wQ) := by
      show Below _ _ _
      rw [HGE.out]
      exact HWP.out.trans hb5
    clear h5 hb5 HP HWP HB1 HA1 hGE hGP
    have P11_w := Lib.hid (P10_w.out.trans (EQ.out.mono P10_w.out.size))
    clear P10_w
    have P11_y0 := Lib.hid (P10_y0.out.trans (EQ.out.mono P10_y0.out.size))
    clear P10_y0
    have P11_W1 := Lib.hid (P10_W1.out.trans (EQ.out.mono P10_W1.out.size))
    clear P10_W1
    have P11_W2 := Lib.hid (P10_W2.out.trans (EQ.out.mono P10_W2.out.size))
    clear P10_W2
    have P11_W3 := Lib.hid (P10_W3.out.trans (EQ.out.mono P10_W3.out.size))
    clear P10_W3
    have P11_W4 := Lib.hid (P10_W4.out.trans (EQ.out.mono P10_W4.out.size))
    clear P10_W4
    have P11_W5 := Lib.hid (P10_W5.out.trans (EQ.out.mono P10_W5.out.size))
    clear P10_W5
    have P11_W6 := Lib.hid (P10_W6.out.trans (EQ.out.mono P10_W6.out.size))
    clear P10_W6
    have P11_W7 := Lib.hid (P10_W7.out.trans (EQ.out.mono P10_W7.out.size))
    clear P10_W7
    have P11_W8 := Lib.hid (P10_W8.out.trans (EQ.out.mono P10_W8.out.size))
    clear P10_W8
    have P11_W9 := Lib.hid (E10.out.trans (EQ.out.mono E10.out.size))
    go_wp2_with fail
    refine (eventsW_any E5 vQ wQ RQ.out (by have := LL5.out.2; omega)).mono ?_
    rintro e W12 ⟨vM, rfl, hrd, hb⟩
    have E12 := Lib.hid hb
    clear hb
    have P12_w := Lib.hid (P11_w.out.trans (E12.out.mono P11_w.out.size))
    clear P11_w
    have P12_y0 := Lib.hid (P11_y0.out.trans (E12.out.mono P11_y0.out.size))
    clear P11_y0
    have P12_W1 := Lib.hid (P11_W1.out.trans (E12.out.mono P11_W1.out.size))
    clear P11_W1
    have P12_W2 := Lib.hid (P11_W2.out.trans (E12.out.mono P11_W2.out.size))
    clear P11_W2
    have P12_W3 := Lib.hid (P11_W3.out.trans (E12.out.mono P11_W3.out.size))
    clear P11_W3
    have P12_W4 := Lib.hid (P11_W4.out.trans (E12.out.mono P11_W4.out.size))
    clear P11_W4
    have P12_W5 := Lib.hid (P11_W5.out.trans (E12.out.mono P11_W5.out.size))
    clear P11_W5
    have P12_W6 := Lib.hid (P11_W6.out.trans (E12.out.mono P11_W6.out.size))
    clear P11_W6
    have P12_W7 := Lib.hid (P11_W7.out.trans (E12.out.mono P11_W7.out.size))
    clear P11_W7
    have P12_W8 := Lib.hid (P11_W8.out.trans (E12.out.mono P11_W8.out.size))
    clear P11_W8
    have P12_W9 := Lib.hid (P11_W9.out.trans (E12.out.mono P11_W9.out.size))
    clear P11_W9
    have P12_W10 := Lib.hid (EQ.out.trans (E12.out.mono EQ.out.size))
    have RM := Lib.hid hrd
    clear hrd
    go_wp2_with fail
    refine (eventsW_any E5 u5 W12 ((S5.out.below P12_W8.out).more P12_W8.out.size) (by have := LL5.out.2; omega)).mono ?_
    rintro e W13 ⟨vN, rfl, hrd, hb⟩
    have E13 := Lib.hid hb
    clear hb
    have P13_w := Lib.hid (P12_w.out.trans (E13.out.mono P12_w.out.size))
    clear P12_w
    have P13_y0 := Lib.hid (P12_y0.out.trans (E13.out.mono P12_y0.out.size))
    clear P12_y0
    have P13_W1 := Lib.hid (P12_W1.out.trans (E13.out.mono P12_W1.out.size))
    clear P12_W1
    have P13_W2 := Lib.hid (P12_W2.out.trans (E13.out.mono P12_W2.out.size))
    clear P12_W2
    have P13_W3 := Lib.hid (P12_W3.out.trans (E13.out.mono P12_W3.out.size))
    clear P12_W3
    have P13_W4 := Lib.hid (P12_W4.out.trans (E13.out.mono P12_W4.out.size))
    clear P12_W4
    have P13_W5 := Lib.hid (P12_W5.out.trans (E13.out.mono P12_W5.out.size))
    clear P12_W5
    have P13_W6 := Lib.hid (P12_W6.out.trans (E13.out.mono P12_W6.out.size))
    clear P12_W6
    have P13_W7 := Lib.hid (P12_W7.out.trans (E13.out.mono P12_W7.out.size))
    clear P12_W7
    have P13_W8 := Lib.hid (P12_W8.out.trans (E13.out.mono P12_W8.out.size))
    clear P12_W8
    have P13_W9 := Lib.hid (P12_W9.out.trans (E13.out.mono P12_W9.out.size))
    clear P12_W9
    have P13_W10 := Lib.hid (P12_W10.out.trans (E13.out.mono P12_W10.out.size))
    clear P12_W10
    have P13_wQ := Lib.hid (E12.out.trans (E13.out.mono E12.out.size))
    have RN := Lib.hid hrd
    clear hrd
    go_wp2_with fail
    refine (rfEventsIs E5 vM vN W13 ((RM.out.below E13.out).more E13.out.size) RN.out).mono ?_
    rintro e W14 ⟨rfl, hb⟩
    have E14 := Lib.hid hb
    clear hb
    have P14_w := Lib.hid (P13_w.out.trans (E14.out.mono P13_w.out.size))
    clear P13_w
    have P14_y0 := Lib.hid (P13_y0.out.trans (E14.out.mono P13_y0.out.size))
    clear P13_y0
    have P14_W1 := Lib.hid (P13_W1.out.trans (E14.out.mono P13_W1.out.size))
    clear P13_W1
    have P14_W2 := Lib.hid (P13_W2.out.trans (E14.out.mono P13_W2.out.size))
    clear P13_W2
    have P14_W3 := Lib.hid (P13_W3.out.trans (E14.out.mono P13_W3.out.size))
    clear P13_W3
    have P14_W4 := Lib.hid (P13_W4.out.trans (E14.out.mono P13_W4.out.size))
    clear P13_W4
    have P14_W5 := Lib.hid (P13_W5.out.trans (E14.out.mono P13_W5.out.size))
    clear P13_W5
    have P14_W6 := Lib.hid (P13_W6.out.trans (E14.out.mono P13_W6.out.size))
    clear P13_W6
    have P14_W7 := Lib.hid (P13_W7.out.trans (E14.out.mono P13_W7.out.size))
    clear P13_W7
    have P14_W8 := Lib.hid (P13_W8.out.trans (E14.out.mono P13_W8.out.size))
    clear P13_W8
    have P14_W9 := Lib.hid (P13_W9.out.trans (E14.out.mono P13_W9.out.size))
    clear P13_W9
    have P14_W10 := Lib.hid (P13_W10.out.trans (E14.out.mono P13_W10.out.size))
    clear P13_W10
    have P14_wQ := Lib.hid (P13_wQ.out.trans (E14.out.mono P13_wQ.out.size))
    clear P13_wQ
    have P14_W12 := Lib.hid (E13.out.trans (E14.out.mono E13.out.size))
    go_wp2
    go_ret
    exact ⟨rfl, P14_w.out⟩
end Go.Proofs.Ytmiomfonglmfjaa
