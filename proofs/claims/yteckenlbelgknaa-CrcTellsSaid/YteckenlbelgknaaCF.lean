/-
  The program's Frame. Each theorem states its own conditions.
-/
import Derived.Test.YteckenlbelgknaaCB
import Derived.Test.YteckenlbelgknaaCU
namespace Go.Proofs.Yteckenlbelgknaa
open Go.RowKit

/-- Four zero bytes in a block from B on. -/
def Fresh4 (B : Nat) (v : Value) (w : World) : Prop := ∃ g, v = .pointer (some ⟨g, 0, none⟩) ∧ B ≤ g ∧ Blk w g (bys [0, 0, 0, 0]) 52
theorem Fresh4.keep {B : Nat} {v : Value} {w w' : World} (h : Fresh4 B v w) (hb : Below w.heap.size w w') : Fresh4 B v w' := by
  obtain ⟨g, h1, h2, h3⟩ := h
  exact ⟨g, h1, h2, h3.below hb h3.lt⟩
set_option maxRecDepth 100000 in
set_option maxHeartbeats 4000000 in
theorem crFrame_any (b d : List UInt8) (v u : Value) (w : World) (hr : Rd w.heap.size w v b) (hd : Rd w.heap.size w u d) (hb : b.length ≤ 1000000) (hl : d.length ≤ 1000000) : Calls Try.prog 15 #[v, u] w (Gives w.heap.size (b ++ frameC d) w) := by
  obtain ⟨i0, hi, hz0, hz1, hz2⟩ := info_parts info5
  obtain ⟨A, c, hv, hc, hm⟩ := hr.shape
  obtain ⟨A2, c2, hu, hc2, hm2⟩ := hd.shape
  obtain ⟨n, hn⟩ : ∃ n, b.length = n := ⟨_, rfl⟩
  obtain ⟨m, hmm⟩ : ∃ n, d.length = n := ⟨_, rfl⟩
  have HN := Lib.hid hn
  have HM := Lib.hid hmm
  rw [hn] at hv hb
  rw [hmm] at hu hl
  subst hv hu
  have HR := Lib.hid hr
  have HD := Lib.hid hd
  have hwm := wid_le m
  clear hr hd hc hc2 hm hm2 hn hmm
  go_enter Try.func15, Try.ntmps15
  go_wp2_with fail
  refine (crLong_w (m : Int) w (by omega)).mono ?_
  rintro e w' ⟨rfl, rfl⟩
  rw [show ((m : Int)).toNat = m by omega]
  obtain ⟨lg, hlg⟩ : ∃ q, longC m = q := ⟨_, rfl⟩
  have hlgb : lg ≤ 1000020 := by rw [← hlg]; unfold longC; omega
  rw [hlg]
  clear hlg
  go_wp2_with (at_make; refine wpList_make_own _ rfl _ _ 22 rfl w.heap.size 5 i0 (.int .u8 0) 1 Try.underlying22 hi hz0 hz1 _ _ _ (n + lg) rfl rfl (by omega) ?b1 ?b2 ?b3 ?_)
  case b1 => rw [hz2]; omega
  case b2 => unfold maxLen; omega
  case b3 => exact Nat.le_refl _
  intro w1 hown1 hgrow1
  have hb1 : Below w.heap.size w w1 := (Below.refl _ _).grown hgrow1 (Nat.le_refl _) (fun k hk => by cases hk)
  have B1 := Lib.hid hb1
  have O1 : Hid (Own 5 w1 w.heap.size (.slice (some ⟨w.heap.size, 0, none⟩) 0 (n + lg)) []) := hown1
  clear hown1 hgrow1 hb1
  go_wp2_with (at_builtin; refine wpList_app rfl _ _ 22 rfl 5 i0 Try.underlying22 hi hz0 hz1 hz2 w.heap.size w.heap.size _ _ [] b rfl O1.out rfl (HR.out.below B1.out) ?c1 B1.out.size ?_)
  case c1 => have := HN.out; simp; omega
  intro v2 w2 hown2 hb2
  have O2 := Lib.hid hown2
  have B2 := Lib.hid (B1.out.trans hb2)
  have S2 := Lib.hid B2.out.size
  clear hown2 hb2 O1 B1
  go_wp2_with (at_builtin; refine wpList_app rfl _ _ 22 rfl 5 i0 Try.underlying22 hi hz0 hz1 hz2 w.heap.size (w2.heap.size + 1) v2 _ b [167] rfl (O2.out.alloc _) rfl (Rd.one 5 w2 167) ?c2 ?s2 ?_)
  case c2 => have := HN.out; simp; omega
  case s2 => have := S2.out; simp; omega
  intro v3 w3 hown3 hb3
  have O3 := Lib.hid hown3
  have B3 := Lib.hid ((B2.out.alloc S2.out (.cells #[.int .u8 167] 5)).trans hb3)
  have S3 := Lib.hid B3.out.size
  clear hown3 hb3 O2 B2 S2
  go_wp2_with fail
  refine (put_any (.slice none 0 0) [] (m : Int) w3 (Rd.nil _ _) (by omega) (by omega) (by decide)).mono ?_
  rintro e w4 ⟨v4, rfl, hown4, hb4⟩
  rw [show ((m : Int)).toNat = m by omega] at hown4
  have O4 := Lib.hid hown4
  have O5 := Lib.hid (O3.out.below hb4 (Nat.le_refl _))
  have B4 := Lib.hid (B3.out.trans (hb4.mono S3.out))
  have S4 := Lib.hid B4.out.size
  have HE : Hid ((enc m).length ≤ 9) := Lib.hid (by rw [enc_length]; omega)
  clear hown4 hb4 O3 B3 S3
  go_wp2_with (at_builtin; refine wpList_app rfl _ _ 22 rfl 5 i0 Try.underlying22 hi hz0 hz1 hz2 w.heap.size w4.heap.size v3 _ (b ++ [167]) (enc m) rfl O5.out rfl O4.out.rd ?c3 S4.out ?_)
  case c3 => have := HN.out; have := HE.out; simp; omega
  intro v5 w5 hown5 hb5
  obtain ⟨P5, hP5⟩ : ∃ q, b ++ 167 :: enc m = q := ⟨_, rfl⟩
  rw [hP5] at hown5
  have HP5 := Lib.hid hP5
  have HPL : Hid (P5.length ≤ 1000010) := Lib.hid (by rw [← hP5]; have := HN.out; have := HE.out; simp; omega)
  have O6 := Lib.hid hown5
  have B5 := Lib.hid (B4.out.trans hb5)
  have S5 := Lib.hid B5.out.size
  clear hown5 hb5 O4 O5 B4 S4 hP5
  go_wp2_with (at_builtin; refine wpList_app rfl _ _ 22 rfl 5 i0 Try.underlying22 hi hz0 hz1 hz2 w.heap.size w.heap.size v5 _ P5 d rfl O6.out rfl (HD.out.below B5.out) ?c4 S5.out ?_)
  case c4 => have := HPL.out; have := HM.out; omega
  intro v6 w6 hown6 hb6
  have HF : Hid (P5 ++ d = b ++ headC d) := Lib.hid (by rw [← HP5.out]; unfold headC; rw [HM.out]; simp)
  rw [HF.out] at hown6
  have B6 := Lib.hid (B5.out.trans hb6)
  have S6 := Lib.hid B6.out.size
  have hfl : (headC d).length = 2 + wid m + m := by unfold headC; rw [List.length_cons, List.length_append, enc_length, HM.out]; omega
  obtain ⟨g6, c6, hv6, hlc6, hc6, hg6, hg6l⟩ := hown6.inBlock8 (by rw [List.length_append, hfl]; omega)
  obtain ⟨L, hL⟩ : ∃ q, (b ++ headC d).length = q := ⟨_, rfl⟩
  have hLb : L = n + (2 + wid m + m) := by rw [← hL, List.length_append, hfl, HN.out]
  rw [hL] at hv6 hlc6
  subst hv6
  have O7 := Lib.hid hown6
  have hnL : n < L := by omega
  have hLb2 : L ≤ 3000000 := by omega
  have HL := Lib.hid hL
  clear hown6 hb6 O6 B5 S5 hL hLb hfl HF HE hwm
  go_wp2
  obtain ⟨s, hs⟩ : ∃ q, sumC (headC d) = q := ⟨_, rfl⟩
  have HS := Lib.hid hs
  have hcN : ¬ c6 = n := by omega
  have hni : (n : Int) ≤ (c6 : Int) := by omega
  have hnLi : (n : Int) ≤ (L : Int) := by omega
  have hrd4 : ∀ W, Below w6.heap.size w6 W → Rd w6.heap.size W (.slice (some ⟨g6, n, none⟩) (L - n) (c6 - n)) (headC d) := by
    intro W hW
    have h1 := (O7.out.rd.below hW).drop n (by omega)
    rw [if_neg hcN, show (b ++ headC d).drop n = headC d by rw [← HN.out, List.drop_left]] at h1
    rw [Addr.add_mid, Nat.zero_add] at h1
    exact h1
  have H4 := Lib.hid hrd4
  clear hrd4 hs
  refine wp_region_rely3 8 1 (fun x => ⟨#[.slice A n c, .slice A2 m c2, undef, undef, .slice none 0 0, .slice (some { block := g6, off := 0 }) L c6, x 7, .slice A n c, .int IntKind.i64 ↑n, .slice A2 m c2, .int IntKind.i64 ↑m, .int IntKind.i64 ↑lg, .int IntKind.i64 (↑n + ↑lg), .slice (some { block := w.heap.size, off := 0 }) 0 (n + lg), .slice A n c, v2, v2, .slice (some { block := w2.heap.size, off := 0 }) 1 1, v3, v3, .slice A2 m c2, .int IntKind.i64 ↑m, .int IntKind.u64 ↑m, v4, v5, v5, .slice A2 m c2, .slice (some { block := g6, off := 0 }) L c6, x 0, x 1, x 2, x 3, x 4, x 5, x 6, undef, undef, undef], []⟩) (fun jj => ([(fun v w => Tab w6.heap.size w v), eqV (.slice (some ⟨g6, 0, none⟩) L c6), eqV (.slice A n c), eqV (.int .i64 (n : Int)), eqV (.slice (some ⟨g6, n, none⟩) (L - n) (c6 - n)), eqV (.int .u32 (s : Int)), eqV (.agg (bys (sum4 s)).toArray), Fresh4 w6.heap.size] : List (Value → World → Prop)).getD jj (fun _ _ => True)) rfl ⟨fun kk => [_, _, _, _, _, _, _, _].getD kk undef, rfl⟩ (by kernel_rfl) (by kernel_rfl) ?steps ?fin
  case steps =>
    refine StepsAt.cons 0 (fun _ _ _ h hb => Tab.below h hb (Nat.le_refl _)) (fun _ _ => rfl) rfl rfl (fun x wx hb hd K hK => ?_) ?_
    · go_simp
      refine (newEffects_any wx).mono ?_
      rintro e w99 ⟨v99, rfl, ⟨g9, hg9, hg9l, hg9b⟩, hb99⟩
      exact hK.out _ _ hb99 ⟨g9, hg9, Nat.le_trans hb.size hg9l, hg9b⟩
    refine StepsAt.val 1 (.slice (some ⟨g6, 0, none⟩) L c6) rfl (fun _ _ => rfl) rfl rfl (fun x wx hb hd => ?_) ?_
    · first | (go_simp; done) | (go_simp; rfl)
    refine StepsAt.val 2 (.slice A n c) rfl (fun _ _ => rfl) rfl rfl (fun x wx hb hd => ?_) ?_
    · first | (go_simp; done) | (go_simp; rfl)
    refine StepsAt.val 3 (.int .i64 (n : Int)) rfl (fun _ _ => rfl) rfl rfl (fun x wx hb hd => ?_) ?_
    · have h2 : x 2 = .slice A n c := hd 2 (by kernel_rfl)
      rw [h2]
      first | (go_simp; done) | (go_simp; rfl)
    refine StepsAt.val 4 (.slice (some ⟨g6, n, none⟩) (L - n) (c6 - n)) rfl (fun _ _ => rfl) rfl rfl (fun x wx hb hd => ?_) ?_
    · have h1 : x 1 = .slice (some ⟨g6, 0, none⟩) L c6 := hd 1 (by kernel_rfl)
      have h3 : x 3 = .int .i64 (n : Int) := hd 3 (by kernel_rfl)
      rw [h1, h3]
      first | (go_simp; done) | (go_simp; rfl) | (go_simp; intro h; exact absurd h hcN)
    refine StepsAt.cons 5 (fun _ _ _ h hb => h) (fun _ _ => rfl) rfl rfl (fun x wx hb hd K hK => ?_) ?_
    · have h0 : Hid (Tab w6.heap.size wx (x 0)) := hd 0 (by kernel_rfl)
      have h4 : Hid (x 4 = .slice (some ⟨g6, n, none⟩) (L - n) (c6 - n)) := hd 4 (by kernel_rfl)
      go_simp
      refine calls_args (args2 := #[x 0, .slice (some ⟨g6, n, none⟩) (L - n) (c6 - n)]) (by rw [h4.out]) ?_
      refine (sumOf_any (x 0) (headC d) _ w6.heap.size w6.heap.size wx h0.out (H4.out wx hb)).mono ?_
      rintro e w99 ⟨rfl, rfl⟩
      rw [HS.out]
      exact hK.out _ _ (Below.refl _ _) rfl
    refine StepsAt.cons 6 (fun _ _ _ h hb => h) (fun _ _ => rfl) rfl rfl (fun x wx hb hd K hK => ?_) ?_
    · have h5 : Hid (x 5 = .int .u32 (s : Int)) := hd 5 (by kernel_rfl)
      go_simp
      refine calls_args (args2 := #[.int .u32 (s : Int)]) (by rw [h5.out]) ?_
      refine (inBytes_any s wx).mono ?_
      rintro e w99 ⟨rfl, hb99⟩
      exact hK.out _ _ hb99 rfl
    refine StepsAt.cons 7 (fun _ _ _ h hb => Fresh4.keep h hb) (fun _ _ => rfl) rfl rfl (fun x wx hb hd K hK => ?_) ?_
    · refine wp_alloc_blk 52 rfl _ infoF ?_
      intro w99 hk99 _ hb99
      exact hK.out _ _ hb99 ⟨_, rfl, hb.size, hk99⟩
    exact StepsAt.done
  case fin =>
    intro x wx hb hd
    have h6 : x 6 = .agg (bys (sum4 s)).toArray := hd 6 (by omega)
    obtain ⟨g, hx7, hgl, hgb⟩ : Fresh4 w6.heap.size (x 7) wx := hd 7 (by omega)
    have HG := Lib.hid hgb
    have EB := Lib.hid hb
    refine AnyTill.any (S := fun _ => True) (m := 9) _ _ _ _ ?_
    refine AnyTill.one (i := 8) (by kernel_rfl) rfl (by rfl) (fun K hK => ?_)
    rw [h6, hx7]
    refine wp_store_blk 52 _ _ rfl g (bys (sum4 s)) (bys [0, 0, 0, 0]) 52 rfl rfl hgb sizeF rfl (bys_one' _) ?_
    refine hK.out _ _ (.inr trivial) ?_
    clear hK K
    refine AnyTill.done (by kernel_rfl) ?_
    refine NoPanic.normal ?_
    obtain ⟨w7, hw7⟩ : ∃ q, wx.setRow g (bys (sum4 s)).toArray = q := ⟨_, rfl⟩
    have K7 := Lib.hid (show Blk w7 g (bys (sum4 s)) 52 by rw [← hw7]; exact hgb.setRow)
    have W7 := Lib.hid (show Below w6.heap.size w6 w7 by rw [← hw7]; exact below_setRow' hb hgl _)
    have O8 := Lib.hid (O7.out.below W7.out (Nat.le_refl _))
    have B7 := Lib.hid (B6.out.trans (W7.out.mono S6.out))
    rw [hw7]
    generalize x 0 = x0
    generalize x 1 = x1
    generalize x 2 = x2
    generalize x 3 = x3
    generalize x 4 = x4
    generalize x 5 = x5
    clear hw7 hb hd h6 hx7 hgb HG EB O7 B6 H4 x
    try dsimp only [Act.put]
    go_wp2_with (at_builtin; refine wpList_app rfl _ _ 22 rfl 5 i0 Try.underlying22 hi hz0 hz1 hz2 w.heap.size w7.heap.size _ _ (b ++ headC d) (sum4 s) rfl O8.out rfl (Rd.blk4 K7.out (by rw [sum4_len]; unfold maxLen; decide)) ?c7 B7.out.size ?_)
    case c7 => have := HL.out; rw [this, sum4_len]; omega
    intro v9 w9 hown9 hb9
    have HFF : Hid (b ++ (headC d ++ sum4 s) = b ++ frameC d) := Lib.hid (by rw [← HS.out]; unfold frameC; rfl)
    rw [HFF.out] at hown9
    have O9 := Lib.hid hown9
    have B9 := Lib.hid (B7.out.trans hb9)
    clear hown9 hb9 O8 B7 HFF
    go_wp2
    go_ret
    exact ⟨v9, rfl, O9.out, B9.out⟩
end Go.Proofs.Yteckenlbelgknaa
