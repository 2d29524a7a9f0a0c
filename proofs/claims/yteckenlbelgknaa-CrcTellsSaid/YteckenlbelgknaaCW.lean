/-
  The law CrcTells. Each theorem states its own conditions.
-/
import Derived.Test.YteckenlbelgknaaCQ
import Derived.Test.YteckenlbelgknaaRX
namespace Go.Proofs.Yteckenlbelgknaa
open Go.RowKit

theorem args15 {P : Program} {f : FuncId} {args args2 : Array Value} {w : World} {R : Ending → World → Prop} (h : args = args2) (hc : Calls P f args2 w R) : Calls P f args w R := by
  subst h
  exact hc
/-- A slice that reads as these bytes. -/
def RdT8 (L : List UInt8) (v : Value) (w : World) : Prop := (∃ A n c, v = .slice A n c) ∧ Rd w.heap.size w v L
theorem RdT8.keep {L : List UInt8} {v : Value} {w w' : World} (h : RdT8 L v w) (hb : Below w.heap.size w w') : RdT8 L v w' := ⟨h.1, (h.2.below hb).more hb.size⟩
theorem Own.isSl {e : TypeId} {w : World} {B : Nat} {v : Value} {l : List UInt8} (h : Own e w B v l) : ∃ A n c, v = .slice A n c := by
  obtain ⟨A, c, hv, -, -⟩ := h.rd.shape
  exact ⟨A, _, c, hv⟩

set_option maxRecDepth 100000 in
set_option maxHeartbeats 4000000 in
theorem tells15_all (v u : Value) (s : Nat) (b d : List UInt8) (w : World) (hs : s < 4294967296) (hb : Rd w.heap.size w v b) (hd : Rd w.heap.size w u d) : Calls Try.prog 3 #[v, u, .int .u32 (s : Int)] w (OneC (.bool true) w) := by
  obtain ⟨i0, hi, hz0, hz1, hz2⟩ := info_parts info5
  obtain ⟨A, c, rfl, hc, hm⟩ := hb.shape
  obtain ⟨A2, c2, rfl, hc2, hm2⟩ := hd.shape
  unfold maxLen at hm hm2
  obtain ⟨n, hn⟩ : ∃ q, b.length = q := ⟨_, rfl⟩
  obtain ⟨m, hmm⟩ : ∃ q, d.length = q := ⟨_, rfl⟩
  have HN := Lib.hid hn
  have HM := Lib.hid hmm
  have HB := Lib.hid hb
  have HD := Lib.hid hd
  have HSL := Lib.hid hs
  rw [hn] at HB hc ⊢
  rw [hmm] at HD hc2 ⊢
  clear hb hd hn hmm hs
  go_enter Try.func3, Try.ntmps3
  by_cases h1 : (3000 : Int) < (n : Int)
  · go_wp2_with fail
    refine (alive15 w).mono ?_
    rintro e w1 ⟨rfl, hb⟩
    have HB := Lib.hid hb
    clear hb
    go_wp2
    go_ret
    exact ⟨rfl, HB.out⟩
  by_cases h2 : (3000 : Int) < (m : Int)
  · go_wp2_with fail
    refine (alive15 w).mono ?_
    rintro e w1 ⟨rfl, hb⟩
    have HB := Lib.hid hb
    clear hb
    go_wp2
    go_ret
    exact ⟨rfl, HB.out⟩
  go_wp2_with (at_builtin; refine wpList_app rfl _ _ 22 rfl 5 i0 Try.underlying22 hi hz0 hz1 hz2 w.heap.size (w.heap.size + 1) (.slice (some ⟨w.heap.size, 0, none⟩) 0 0) _ [] b rfl (Own.made _ w) rfl ?r1 ?c1 ?s1 ?_)
  case r1 => exact (HB.out.below ((Below.refl _ _).alloc (Nat.le_refl _) _)).more (by simp)
  case c1 => have := HN.out; omega
  intro v1 w1 hown hbx
  have HS1 := Lib.hid (show w.heap.size ≤ w1.heap.size by have := hbx.size; simp at this; omega)
  have B1 := Lib.hid (((Below.refl w.heap.size w).alloc (Nat.le_refl _) (.cells #[] 5)).trans hbx)
  have hown2 : Own 5 w1 w.heap.size v1 b := hown
  obtain ⟨A1, c1, rfl, hc1, hm1⟩ := hown2.rd.shape
  rw [HN.out] at hown2 hc1 ⊢
  have O1 := Lib.hid hown2
  unfold maxLen at hm1
  clear hown hown2 hbx
  go_wp2_with fail
  refine (crTake_any b _ w1 O1.out.rd (by rw [HN.out]; omega)).mono ?_
  rintro e w2 ⟨x1, x2, rfl, r1, r2, hb⟩
  have B2 := Lib.hid (B1.out.trans (hb.mono HS1.out))
  have O2 := Lib.hid (O1.out.below hb (Nat.le_refl _))
  have HS2 := Lib.hid (Nat.le_trans HS1.out hb.size)
  have X1 := Lib.hid r1
  have X2 := Lib.hid r2
  clear hb O1 B1 HS1 r1 r2
  go_wp2_with fail
  refine (rfTakeC_any _ b w2.heap.size w2 ((HB.out.below B2.out).more HS2.out) (Nat.le_refl _)).mono ?_
  rintro e w3 ⟨y1, y2, rfl, r1, r2, hb⟩
  have B3 := Lib.hid (B2.out.trans (hb.mono HS2.out))
  have O3 := Lib.hid (O2.out.below hb (Nat.le_refl _))
  have HS3 := Lib.hid (Nat.le_trans HS2.out hb.size)
  have X13 := Lib.hid ((X1.out.below hb).more hb.size)
  have X23 := Lib.hid ((X2.out.below hb).more hb.size)
  have Y1 := Lib.hid (r1.more hb.size)
  have Y2 := Lib.hid (r2.more hb.size)
  obtain ⟨l1, l2, ee, hT⟩ : ∃ l1 l2 ee, takeC b = (l1, l2, ee) := ⟨_, _, _, rfl⟩
  rw [hT] at X13 X23 Y1 Y2 ⊢
  clear hb O2 B2 HS2 X1 X2 r1 r2 hT
  dsimp only at X13 X23 Y1 Y2 ⊢
  have HB3 := Lib.hid ((HB.out.below B3.out).more HS3.out)
  have HD3 := Lib.hid ((HD.out.below B3.out).more HS3.out)
  have OB3 := Lib.hid O3.out.rd
  have LB := Lib.hid (show b.length ≤ 1000000 by rw [HN.out]; omega)
  have LD := Lib.hid (show d.length ≤ 1000000 by rw [HM.out]; omega)
  obtain ⟨sb, hsb⟩ : ∃ q, sumC b = q := ⟨_, rfl⟩
  obtain ⟨mb, hmb⟩ : ∃ q, moreC s b = q := ⟨_, rfl⟩
  have HSB := Lib.hid hsb
  have HMB := Lib.hid hmb
  clear hsb hmb O3
  go_wp2
  refine wp_region_relyZ [] [] (fun _ _ _ _ => True) (fun k => [undef, undef, undef, undef, undef, undef, undef, undef, undef, undef, undef, undef, undef, undef, undef, undef, undef, undef, undef, undef, undef, undef, undef, undef, undef, undef].getD k undef) 26 0 (fun x => ⟨#[.slice A n c, .slice A2 m c2, .int .u32 (s : Int), undef, undef, undef, .bool false, .slice A1 n c1, x1, x2, .int .i64 (ee : Int), y1, y2, .int .i64 (ee : Int), x 25, .slice A n c, .int .i64 (n : Int), .bool false, .bool false, .slice A2 m c2, .int .i64 (m : Int), .bool false, .bool false, undef, .slice (some ⟨w.heap.size, 0, none⟩) 0 0, .slice A n c, .slice A1 n c1, .tuple #[x1, x2, .int .i64 (ee : Int)], .slice A1 n c1, .tuple #[x1, x2, .int .i64 (ee : Int)], x1, x2, .int .i64 (ee : Int), .tuple #[y1, y2, .int .i64 (ee : Int)], .slice A n c, .tuple #[y1, y2, .int .i64 (ee : Int)], y1, y2, .int .i64 (ee : Int), x 0, x 1, x 2, x 3, x 4, x 5, x 6, x 7, x 8, x 9, x 10, x 11, x 12, x 13, x 14, x 15, x 16, x 17, x 18, x 19, x 20, x 21, x 22, x 23, x 24, undef, undef, undef, undef, undef, undef, undef, undef, undef, undef, undef, undef, undef, undef, undef, undef, undef, undef, undef, undef, undef, undef, undef, undef, undef, undef, undef, undef, undef, undef, undef, undef, undef, undef, undef, undef, undef, undef, undef], []⟩) (fun jj => ([fun x w => eqV (.slice A1 n c1) (x 0) w, fun x w => eqV (.int .u32 (sb : Int)) (x 1) w, fun x w => eqV (.slice A n c) (x 2) w, fun x w => eqV (.int .u32 (sb : Int)) (x 3) w, fun x w => eqV (.bool true) (x 4) w, fun x w => eqV (.bool true) (x 5) w, fun x w => eqV (.int .u32 (s : Int)) (x 6) w, fun x w => eqV (.slice A1 n c1) (x 7) w, fun x w => eqV (.int .u32 (mb : Int)) (x 8) w, fun x w => eqV (.int .u32 (s : Int)) (x 9) w, fun x w => eqV (.slice A n c) (x 10) w, fun x w => eqV (.int .u32 (mb : Int)) (x 11) w, fun x w => eqV (.bool true) (x 12) w, fun x w => eqV (.bool true) (x 13) w, fun x w => eqV (.bool true) (x 14) w, fun x w => eqV (.slice A1 n c1) (x 15) w, fun x w => eqV (.slice A2 m c2) (x 16) w, fun x w => RdT8 (b ++ frameC d) (x 17) w, fun x w => eqV (.string ⟨(b ++ frameC d).toArray⟩) (x 18) w, fun x w => eqV (.slice A n c) (x 19) w, fun x w => eqV (.slice A2 m c2) (x 20) w, fun x w => RdT8 (b ++ frameC d) (x 21) w, fun x w => eqV (.string ⟨(b ++ frameC d).toArray⟩) (x 22) w, fun x w => eqV (.bool true) (x 23) w, fun x w => eqV (.bool true) (x 24) w, fun x w => eqV (.bool true) (x 25) w] : List ((Nat → Value) → World → Prop)).getD jj (fun _ _ => True)) rfl rfl (by kernel_rfl) (by kernel_rfl) (by kernel_rfl) (fun p hp => by cases hp) ?steps ?fin
  case steps =>
    refine StepsZ.valW 0 (.slice A1 n c1) rfl (by decide) (fun _ _ => rfl) rfl (fun _ _ _ => rfl) (fun x wx hb hd => ?_) ?_
    · first | (go_simp; done) | (go_simp; rfl) | (go_simp; simp; done)
    refine StepsZ.rowW 1 (eqV (.int .u32 (sb : Int))) rfl (by decide) (fun _ _ _ h _ => h) (fun _ _ _ _ _ hq h _ => absurd hq (by simp)) (fun _ _ => rfl) rfl (fun _ _ _ => rfl) (fun x wx hb hd K hK => ?_) ?_
    · have h0 : Hid (x 0 = .slice A1 n c1) := hd 0 (by kernel_rfl)
      go_simp
      refine args15 (args2 := #[.slice A1 n c1]) (by rw [h0.out]) ?_
      refine (crSum_any b _ wx ((OB3.out.below hb).more hb.size) LB.out).mono ?_
      rintro e w99 ⟨rfl, hb99⟩
      refine hK.out _ _ hb99 ?_
      rw [HSB.out]
      exact rfl
    refine StepsZ.valW 2 (.slice A n c) rfl (by decide) (fun _ _ => rfl) rfl (fun _ _ _ => rfl) (fun x wx hb hd => ?_) ?_
    · first | (go_simp; done) | (go_simp; rfl) | (go_simp; simp; done)
    refine StepsZ.rowW 3 (eqV (.int .u32 (sb : Int))) rfl (by decide) (fun _ _ _ h _ => h) (fun _ _ _ _ _ hq h _ => absurd hq (by simp)) (fun _ _ => rfl) rfl (fun _ _ _ => rfl) (fun x wx hb hd K hK => ?_) ?_
    · have h2 : Hid (x 2 = .slice A n c) := hd 2 (by kernel_rfl)
      go_simp
      refine args15 (args2 := #[.slice A n c]) (by rw [h2.out]) ?_
      refine (rfSum_any b _ wx ((HB3.out.below hb).more hb.size)).mono ?_
      rintro e w99 ⟨rfl, rfl⟩
      refine hK.out _ _ (Below.refl _ _) ?_
      rw [HSB.out]
      exact rfl
    refine StepsZ.valW 4 (.bool true) rfl (by decide) (fun _ _ => rfl) rfl (fun _ _ _ => rfl) (fun x wx hb hd => ?_) ?_
    · have h1 : x 1 = .int .u32 (sb : Int) := hd 1 (by kernel_rfl)
      have h3 : x 3 = .int .u32 (sb : Int) := hd 3 (by kernel_rfl)
      rw [h1, h3]
      first | (go_simp; done) | (go_simp; rfl) | (go_simp; simp; done)
    refine StepsZ.valW 5 (.bool true) rfl (by decide) (fun _ _ => rfl) rfl (fun _ _ _ => rfl) (fun x wx hb hd => ?_) ?_
    · have h4 : x 4 = .bool true := hd 4 (by kernel_rfl)
      rw [h4]
      first | (go_simp; done) | (go_simp; rfl) | (go_simp; simp; done)
    refine StepsZ.valW 6 (.int .u32 (s : Int)) rfl (by decide) (fun _ _ => rfl) rfl (fun x wx hd => ?_) (fun x wx hb hd => ?_) ?_
    · have hG : x 5 = .bool true := hd 5 (by kernel_rfl)
      simp [Region.wanted, yielded, hG]
    · first | (go_simp; done) | (go_simp; rfl) | (go_simp; simp; done)
    refine StepsZ.valW 7 (.slice A1 n c1) rfl (by decide) (fun _ _ => rfl) rfl (fun x wx hd => ?_) (fun x wx hb hd => ?_) ?_
    · have hG : x 5 = .bool true := hd 5 (by kernel_rfl)
      simp [Region.wanted, yielded, hG]
    · first | (go_simp; done) | (go_simp; rfl) | (go_simp; simp; done)
    refine StepsZ.rowW 8 (eqV (.int .u32 (mb : Int))) rfl (by decide) (fun _ _ _ h _ => h) (fun _ _ _ _ _ hq h _ => absurd hq (by simp)) (fun _ _ => rfl) rfl (fun x wx hd => ?_) (fun x wx hb hd K hK => ?_) ?_
    · have hG : x 5 = .bool true := hd 5 (by kernel_rfl)
      simp [Region.wanted, yielded, hG]
    · have h6 : Hid (x 6 = .int .u32 (s : Int)) := hd 6 (by kernel_rfl)
      have h7 : Hid (x 7 = .slice A1 n c1) := hd 7 (by kernel_rfl)
      go_simp
      refine args15 (args2 := #[.int .u32 (s : Int), .slice A1 n c1]) (by rw [h6.out, h7.out]) ?_
      refine (crMore_any s b _ wx HSL.out ((OB3.out.below hb).more hb.size) LB.out).mono ?_
      rintro e w99 ⟨rfl, hb99⟩
      refine hK.out _ _ hb99 ?_
      rw [HMB.out]
      exact rfl
    refine StepsZ.valW 9 (.int .u32 (s : Int)) rfl (by decide) (fun _ _ => rfl) rfl (fun x wx hd => ?_) (fun x wx hb hd => ?_) ?_
    · have hG : x 5 = .bool true := hd 5 (by kernel_rfl)
      simp [Region.wanted, yielded, hG]
    · first | (go_simp; done) | (go_simp; rfl) | (go_simp; simp; done)
    refine StepsZ.valW 10 (.slice A n c) rfl (by decide) (fun _ _ => rfl) rfl (fun x wx hd => ?_) (fun x wx hb hd => ?_) ?_
    · have hG : x 5 = .bool true := hd 5 (by kernel_rfl)
      simp [Region.wanted, yielded, hG]
    · first | (go_simp; done) | (go_simp; rfl) | (go_simp; simp; done)
    refine StepsZ.rowW 11 (eqV (.int .u32 (mb : Int))) rfl (by decide) (fun _ _ _ h _ => h) (fun _ _ _ _ _ hq h _ => absurd hq (by simp)) (fun _ _ => rfl) rfl (fun x wx hd => ?_) (fun x wx hb hd K hK => ?_) ?_
    · have hG : x 5 = .bool true := hd 5 (by kernel_rfl)
      simp [Region.wanted, yielded, hG]
    · have h9 : Hid (x 9 = .int .u32 (s : Int)) := hd 9 (by kernel_rfl)
      have h10 : Hid (x 10 = .slice A n c) := hd 10 (by kernel_rfl)
      go_simp
      refine args15 (args2 := #[.int .u32 (s : Int), .slice A n c]) (by rw [h9.out, h10.out]) ?_
      refine (rfMore_any s b _ wx HSL.out ((HB3.out.below hb).more hb.size)).mono ?_
      rintro e w99 ⟨rfl, rfl⟩
      refine hK.out _ _ (Below.refl _ _) ?_
      rw [HMB.out]
      exact rfl
    refine StepsZ.valW 12 (.bool true) rfl (by decide) (fun _ _ => rfl) rfl (fun x wx hd => ?_) (fun x wx hb hd => ?_) ?_
    · have hG : x 5 = .bool true := hd 5 (by kernel_rfl)
      simp [Region.wanted, yielded, hG]
    · have h8 : x 8 = .int .u32 (mb : Int) := hd 8 (by kernel_rfl)
      have h11 : x 11 = .int .u32 (mb : Int) := hd 11 (by kernel_rfl)
      rw [h8, h11]
      first | (go_simp; done) | (go_simp; rfl) | (go_simp; simp; done)
    refine StepsZ.valW 13 (.bool true) rfl (by decide) (fun _ _ => rfl) rfl (fun _ _ _ => rfl) (fun x wx hb hd => ?_) ?_
    · have h5 : x 5 = .bool true := hd 5 (by kernel_rfl)
      have h12 : x 12 = .bool true := hd 12 (by kernel_rfl)
      rw [h5, h12]
      first | (go_simp; done) | (go_simp; rfl) | (go_simp; simp; done)
    refine StepsZ.valW 14 (.bool true) rfl (by decide) (fun _ _ => rfl) rfl (fun _ _ _ => rfl) (fun x wx hb hd => ?_) ?_
    · have h13 : x 13 = .bool true := hd 13 (by kernel_rfl)
      rw [h13]
      first | (go_simp; done) | (go_simp; rfl) | (go_simp; simp; done)
    refine StepsZ.valW 15 (.slice A1 n c1) rfl (by decide) (fun _ _ => rfl) rfl (fun x wx hd => ?_) (fun x wx hb hd => ?_) ?_
    · have hG : x 14 = .bool true := hd 14 (by kernel_rfl)
      simp [Region.wanted, yielded, hG]
    · first | (go_simp; done) | (go_simp; rfl) | (go_simp; simp; done)
    refine StepsZ.valW 16 (.slice A2 m c2) rfl (by decide) (fun _ _ => rfl) rfl (fun x wx hd => ?_) (fun x wx hb hd => ?_) ?_
    · have hG : x 14 = .bool true := hd 14 (by kernel_rfl)
      simp [Region.wanted, yielded, hG]
    · first | (go_simp; done) | (go_simp; rfl) | (go_simp; simp; done)
    refine StepsZ.rowW 17 (RdT8 (b ++ frameC d)) rfl (by decide) (fun _ _ _ h hb => RdT8.keep h hb) (fun _ _ _ _ _ hq h _ => absurd hq (by simp)) (fun _ _ => rfl) rfl (fun x wx hd => ?_) (fun x wx hb hd K hK => ?_) ?_
    · have hG : x 14 = .bool true := hd 14 (by kernel_rfl)
      simp [Region.wanted, yielded, hG]
    · have h15 : Hid (x 15 = .slice A1 n c1) := hd 15 (by kernel_rfl)
      have h16 : Hid (x 16 = .slice A2 m c2) := hd 16 (by kernel_rfl)
      go_simp
      refine args15 (args2 := #[.slice A1 n c1, .slice A2 m c2]) (by rw [h15.out, h16.out]) ?_
      refine (crFrame_any b d _ _ wx ((OB3.out.below hb).more hb.size) ((HD3.out.below hb).more hb.size) LB.out LD.out).mono ?_
      rintro e w99 ⟨v99, rfl, hown, hb99⟩
      refine hK.out v99 w99 hb99 ?_
      exact ⟨hown.isSl, hown.rd⟩
    refine StepsZ.valW 18 (.string ⟨(b ++ frameC d).toArray⟩) rfl (by decide) (fun _ _ => rfl) rfl (fun x wx hd => ?_) (fun x wx hb hd => ?_) ?_
    · have hG : x 14 = .bool true := hd 14 (by kernel_rfl)
      simp [Region.wanted, yielded, hG]
    · obtain ⟨⟨A9, n9, c9, h9⟩, hq⟩ : RdT8 (b ++ frameC d) (x 17) wx := hd 17 (by kernel_rfl)
      rw [h9] at hq ⊢
      have cc := run_string_rd 22 9 5 Try.underlying22 Try.underlying5 Try.underlying9 hq
      clear hd hq h9
      first | (go_simp; done) | (go_simp; rfl)
    refine StepsZ.valW 19 (.slice A n c) rfl (by decide) (fun _ _ => rfl) rfl (fun x wx hd => ?_) (fun x wx hb hd => ?_) ?_
    · have hG : x 14 = .bool true := hd 14 (by kernel_rfl)
      simp [Region.wanted, yielded, hG]
    · first | (go_simp; done) | (go_simp; rfl) | (go_simp; simp; done)
    refine StepsZ.valW 20 (.slice A2 m c2) rfl (by decide) (fun _ _ => rfl) rfl (fun x wx hd => ?_) (fun x wx hb hd => ?_) ?_
    · have hG : x 14 = .bool true := hd 14 (by kernel_rfl)
      simp [Region.wanted, yielded, hG]
    · first | (go_simp; done) | (go_simp; rfl) | (go_simp; simp; done)
    refine StepsZ.rowW 21 (RdT8 (b ++ frameC d)) rfl (by decide) (fun _ _ _ h hb => RdT8.keep h hb) (fun _ _ _ _ _ hq h _ => absurd hq (by simp)) (fun _ _ => rfl) rfl (fun x wx hd => ?_) (fun x wx hb hd K hK => ?_) ?_
    · have hG : x 14 = .bool true := hd 14 (by kernel_rfl)
      simp [Region.wanted, yielded, hG]
    · have h19 : Hid (x 19 = .slice A n c) := hd 19 (by kernel_rfl)
      have h20 : Hid (x 20 = .slice A2 m c2) := hd 20 (by kernel_rfl)
      go_simp
      refine args15 (args2 := #[.slice A n c, .slice A2 m c2]) (by rw [h19.out, h20.out]) ?_
      refine (rfFrame_any b d _ _ wx ((HB3.out.below hb).more hb.size) ((HD3.out.below hb).more hb.size) LB.out LD.out).mono ?_
      rintro e w99 ⟨v99, rfl, hown, hb99⟩
      refine hK.out v99 w99 hb99 ?_
      exact ⟨hown.isSl, hown.rd⟩
    refine StepsZ.valW 22 (.string ⟨(b ++ frameC d).toArray⟩) rfl (by decide) (fun _ _ => rfl) rfl (fun x wx hd => ?_) (fun x wx hb hd => ?_) ?_
    · have hG : x 14 = .bool true := hd 14 (by kernel_rfl)
      simp [Region.wanted, yielded, hG]
    · obtain ⟨⟨A9, n9, c9, h9⟩, hq⟩ : RdT8 (b ++ frameC d) (x 21) wx := hd 21 (by kernel_rfl)
      rw [h9] at hq ⊢
      have cc := run_string_rd 22 9 5 Try.underlying22 Try.underlying5 Try.underlying9 hq
      clear hd hq h9
      first | (go_simp; done) | (go_simp; rfl)
    refine StepsZ.valW 23 (.bool true) rfl (by decide) (fun _ _ => rfl) rfl (fun x wx hd => ?_) (fun x wx hb hd => ?_) ?_
    · have hG : x 14 = .bool true := hd 14 (by kernel_rfl)
      simp [Region.wanted, yielded, hG]
    · have h18 : x 18 = .string ⟨(b ++ frameC d).toArray⟩ := hd 18 (by kernel_rfl)
      have h22 : x 22 = .string ⟨(b ++ frameC d).toArray⟩ := hd 22 (by kernel_rfl)
      rw [h18, h22]
      first | (go_simp; done) | (go_simp; rfl) | (go_simp; simp; done)
    refine StepsZ.valW 24 (.bool true) rfl (by decide) (fun _ _ => rfl) rfl (fun _ _ _ => rfl) (fun x wx hb hd => ?_) ?_
    · have h14 : x 14 = .bool true := hd 14 (by kernel_rfl)
      have h23 : x 23 = .bool true := hd 23 (by kernel_rfl)
      rw [h14, h23]
      first | (go_simp; done) | (go_simp; rfl) | (go_simp; simp; done)
    refine StepsZ.valW 25 (.bool true) rfl (by decide) (fun _ _ => rfl) rfl (fun _ _ _ => rfl) (fun x wx hb hd => ?_) ?_
    · have h24 : x 24 = .bool true := hd 24 (by kernel_rfl)
      rw [h24]
      first | (go_simp; done) | (go_simp; rfl) | (go_simp; simp; done)
    exact StepsZ.done
  case fin =>
    intro x w4 hb hd
    have hx0 : x 0 = .slice A1 n c1 := hd 0 (by omega)
    have hx1 : x 1 = .int .u32 (sb : Int) := hd 1 (by omega)
    have hx2 : x 2 = .slice A n c := hd 2 (by omega)
    have hx3 : x 3 = .int .u32 (sb : Int) := hd 3 (by omega)
    have hx4 : x 4 = .bool true := hd 4 (by omega)
    have hx5 : x 5 = .bool true := hd 5 (by omega)
    have hx6 : x 6 = .int .u32 (s : Int) := hd 6 (by omega)
    have hx7 : x 7 = .slice A1 n c1 := hd 7 (by omega)
    have hx8 : x 8 = .int .u32 (mb : Int) := hd 8 (by omega)
    have hx9 : x 9 = .int .u32 (s : Int) := hd 9 (by omega)
    have hx10 : x 10 = .slice A n c := hd 10 (by omega)
    have hx11 : x 11 = .int .u32 (mb : Int) := hd 11 (by omega)
    have hx12 : x 12 = .bool true := hd 12 (by omega)
    have hx13 : x 13 = .bool true := hd 13 (by omega)
    have hx14 : x 14 = .bool true := hd 14 (by omega)
    have hx15 : x 15 = .slice A1 n c1 := hd 15 (by omega)
    have hx16 : x 16 = .slice A2 m c2 := hd 16 (by omega)
    obtain ⟨z17, hx17⟩ : ∃ q, x 17 = q := ⟨_, rfl⟩
    have hx18 : x 18 = .string ⟨(b ++ frameC d).toArray⟩ := hd 18 (by omega)
    have hx19 : x 19 = .slice A n c := hd 19 (by omega)
    have hx20 : x 20 = .slice A2 m c2 := hd 20 (by omega)
    obtain ⟨z21, hx21⟩ : ∃ q, x 21 = q := ⟨_, rfl⟩
    have hx22 : x 22 = .string ⟨(b ++ frameC d).toArray⟩ := hd 22 (by omega)
    have hx23 : x 23 = .bool true := hd 23 (by omega)
    have hx24 : x 24 = .bool true := hd 24 (by omega)
    have hx25 : x 25 = .bool true := hd 25 (by omega)
    refine AnyTill.any (S := fun _ => True) (m := 26) _ _ _ _ ?_
    refine AnyTill.done (by kernel_rfl) ?_
    refine NoPanic.normal ?_
    try dsimp only
    rw [hx0, hx1, hx2, hx3, hx4, hx5, hx6, hx7, hx8, hx9, hx10, hx11, hx12, hx13, hx14, hx15, hx16, hx17, hx18, hx19, hx20, hx21, hx22, hx23, hx24, hx25]
    have EB := Lib.hid hb
    clear hd hb hx0 hx1 hx2 hx3 hx4 hx5 hx6 hx7 hx8 hx9 hx10 hx11 hx12 hx13 hx14 hx15 hx16 hx17 hx18 hx19 hx20 hx21 hx22 hx23 hx24 hx25
    go_wp2_with fail
    have HS4 := Lib.hid (Nat.le_trans HS3.out EB.out.size)
    have B4 := Lib.hid (B3.out.trans (EB.out.mono HS3.out))
    refine (alive15 w4).mono ?_
    rintro e w5 ⟨rfl, hb⟩
    have E5 := Lib.hid (EB.out.trans (hb.mono EB.out.size))
    have B5 := Lib.hid (B4.out.trans (hb.mono HS4.out))
    have HS5 := Lib.hid (Nat.le_trans HS4.out hb.size)
    have P1 := (X13.out.below E5.out).more E5.out.size
    have P2 := (X23.out.below E5.out).more E5.out.size
    have Q1 := (Y1.out.below E5.out).more E5.out.size
    have Q2 := (Y2.out.below E5.out).more E5.out.size
    have R1 := (OB3.out.below E5.out).more E5.out.size
    have R2 := (HB3.out.below E5.out).more E5.out.size
    clear hb EB B4 HS4 X13 X23 Y1 Y2
    obtain ⟨Ap1, cp1, rfl, -, -⟩ := P1.shape
    obtain ⟨Ap2, cp2, rfl, -, -⟩ := P2.shape
    obtain ⟨Aq1, cq1, rfl, -, -⟩ := Q1.shape
    obtain ⟨Aq2, cq2, rfl, -, -⟩ := Q2.shape
    have k1 := run_string_rd 22 9 5 Try.underlying22 Try.underlying5 Try.underlying9 P1
    have k2 := run_string_rd 22 9 5 Try.underlying22 Try.underlying5 Try.underlying9 P2
    have k3 := run_string_rd 22 9 5 Try.underlying22 Try.underlying5 Try.underlying9 Q1
    have k4 := run_string_rd 22 9 5 Try.underlying22 Try.underlying5 Try.underlying9 Q2
    have k5 := run_string_rd 22 9 5 Try.underlying22 Try.underlying5 Try.underlying9 R1
    have k6 := run_string_rd 22 9 5 Try.underlying22 Try.underlying5 Try.underlying9 R2
    clear P1 P2 Q1 Q2 R1 R2
    go_wp2_with fail
    refine (crLong_any (n : Int) w5 (by omega)).mono ?_
    rintro e w6 ⟨rfl, hb⟩
    have B6 := Lib.hid (B5.out.trans (hb.mono HS5.out))
    obtain ⟨q, hq⟩ : ∃ q, longC ((n : Int)).toNat = q := ⟨_, rfl⟩
    have HQ := Lib.hid hq
    rw [hq]
    clear hb k1 k2 k3 k4 k5 k6 hq
    go_wp2_with fail
    refine (rfLong_any (n : Int) w6 (by omega)).mono ?_
    rintro e w7 ⟨rfl, rfl⟩
    rw [HQ.out]
    go_wp2
    go_ret
    exact ⟨rfl, B6.out⟩
end Go.Proofs.Yteckenlbelgknaa
