/-
  The document's lms: Leaf, for every bytes.
-/
import Derived.Test.YtllncnnigjgadaaGreatLE
import Derived.Test.YtllncnnigjgadaaGreatMA
namespace Go.Proofs.YtllncnnigjgadaaGreat
open Go.RowKit

theorem wrap_i64s (n : Int) (h0 : -9223372036854775808 ≤ n) (h1 : n ≤ 9223372036854775807) : IntKind.i64.wrap n = n := by
  unfold IntKind.wrap
  simp [IntKind.signed, IntKind.bits]
  omega
theorem Rd.cellE {B : Nat} {w : World} {a : Addr} {n c : Nat} {l : List UInt8} (h : Rd B w (.slice (some a) n c) l) (j : Nat) (hj : j < l.length) : w.cell? (a.add j) = some (.int .u8 (((l.getD j 0).toNat : Nat) : Int)) := by
  obtain ⟨A', c', hv, hc, hm, hn, hr⟩ := h
  injection hv with h1 h2 h3
  subst h1 h2 h3
  rw [(hr a rfl).2 j hj]
  simp [hj]
theorem Rd.blockE {B : Nat} {w : World} {a : Addr} {n c : Nat} {l : List UInt8} (h : Rd B w (.slice (some a) n c) l) (h0 : 0 < l.length) : a.block < B := by
  obtain ⟨A', c', hv, hc, hm, hn, hr⟩ := h
  injection hv with h1 h2 h3
  subst h1 h2 h3
  exact (hr a rfl).1 h0

set_option maxRecDepth 100000 in
set_option maxHeartbeats 1000000 in
theorem rfLeaf_short (v : Value) (s : List UInt8) (w : World) (hr : Rd w.heap.size w v s) (hs : s.length < 4) : Calls Tryz.prog 8 #[v] w (TwoD (.int .i64 0) (.int .i64 2) w) := by
  obtain ⟨A, c, rfl, hc, hm⟩ := hr.shape
  obtain ⟨n, hn⟩ : ∃ n, s.length = n := ⟨_, rfl⟩
  rw [hn] at hs ⊢
  have zn : (n : Int) < 4 := by omega
  clear hr hc hm hn
  go_enter Tryz.func8, Tryz.ntmps8
  go_wp2
  go_ret2
  exact ⟨rfl, Below.refl _ _⟩

set_option maxRecDepth 100000 in
set_option maxHeartbeats 1000000 in
theorem rfLeaf_yes (v : Value) (s : List UInt8) (w : World) (hr : Rd w.heap.size w v s) (hs : 4 ≤ s.length) : Calls Tryz.prog 8 #[v] w (TwoD (.int .i64 (wd s 0 : Nat)) (.int .i64 0) w) := by
  obtain ⟨a, c, rfl, hc, hm⟩ := hr.some_ (by omega)
  have e := wd_sum s 0
  have c0 := Lib.hid (hr.cellE 0 (by omega))
  have c1 := Lib.hid (hr.cellE 1 (by omega))
  have c2 := Lib.hid (hr.cellE 2 (by omega))
  have c3 := Lib.hid (hr.cellE 3 (by omega))
  have HB := Lib.hid (hr.blockE (by omega))
  simp only [Nat.mul_zero, Nat.zero_add] at e
  obtain ⟨B0, h0⟩ : ∃ x, (s.getD 0 0).toNat = x := ⟨_, rfl⟩
  obtain ⟨B1, h1⟩ : ∃ x, (s.getD 1 0).toNat = x := ⟨_, rfl⟩
  obtain ⟨B2, h2⟩ : ∃ x, (s.getD 2 0).toNat = x := ⟨_, rfl⟩
  obtain ⟨B3, h3⟩ : ∃ x, (s.getD 3 0).toNat = x := ⟨_, rfl⟩
  have y0 : B0 < 256 := by rw [← h0]; exact UInt8.toNat_lt _
  have y1 : B1 < 256 := by rw [← h1]; exact UInt8.toNat_lt _
  have y2 : B2 < 256 := by rw [← h2]; exact UInt8.toNat_lt _
  have y3 : B3 < 256 := by rw [← h3]; exact UInt8.toNat_lt _
  rw [h0, h1, h2, h3] at e
  rw [h0] at c0
  rw [h1] at c1
  rw [h2] at c2
  rw [h3] at c3
  rw [e]
  obtain ⟨n, hn⟩ : ∃ n, s.length = n := ⟨_, rfl⟩
  rw [hn] at hs hc ⊢
  unfold maxLen at hm
  have z4 : decide ((n : Int) < 4) = false := decide_eq_false (by omega)
  clear hr hn h0 h1 h2 h3 e
  go_enter Tryz.func8, Tryz.ntmps8
  go_wp2_with fail
  refine wp_region_rely2 24 0 (fun x => ⟨#[.slice (some a) n c, undef, x 22, x 23, .slice (some a) n c, .int .i64 (n : Int), .bool false, x 0, x 1, x 2, x 3, x 4, x 5, x 6, x 7, x 8, x 9, x 10, x 11, x 12, x 13, x 14, x 15, x 16, x 17, x 18, x 19, x 20, x 21], []⟩) (fun jj => ([eqV (.slice (some a) n c), eqV (.pointer (some (a.add 0))), eqV (.int .u8 (B0 : Int)), eqV (.int .i64 (B0 : Int)), eqV (.int .i64 ((B0 : Int) * 16777216)), eqV (.slice (some a) n c), eqV (.pointer (some (a.add 1))), eqV (.int .u8 (B1 : Int)), eqV (.int .i64 (B1 : Int)), eqV (.int .i64 ((B1 : Int) * 65536)), eqV (.int .i64 ((B0 : Int) * 16777216 + (B1 : Int) * 65536)), eqV (.slice (some a) n c), eqV (.pointer (some (a.add 2))), eqV (.int .u8 (B2 : Int)), eqV (.int .i64 (B2 : Int)), eqV (.int .i64 ((B2 : Int) * 256)), eqV (.int .i64 ((B0 : Int) * 16777216 + (B1 : Int) * 65536 + (B2 : Int) * 256)), eqV (.slice (some a) n c), eqV (.pointer (some (a.add 3))), eqV (.int .u8 (B3 : Int)), eqV (.int .i64 (B3 : Int)), eqV (.int .i64 ((B0 : Int) * 16777216 + (B1 : Int) * 65536 + (B2 : Int) * 256 + (B3 : Int))), eqV (.int .i64 ((B0 : Int) * 16777216 + (B1 : Int) * 65536 + (B2 : Int) * 256 + (B3 : Int))), eqV (.int .i64 0)] : List (Value → World → Prop)).getD jj (fun _ _ => True)) rfl ⟨fun kk => [_, _, _, _, _, _, _, _, _, _, _, _, _, _, _, _, _, _, _, _, _, _, _, _].getD kk undef, rfl⟩ (by kernel_rfl) (by kernel_rfl) ?steps ?fin
  case steps =>
    refine StepsAt.val 0 (.slice (some a) n c) rfl (fun _ _ => rfl) rfl rfl (fun x w1 hb hd => ?_) ?_
    · first | (go_simp; done) | (go_simp; rfl)
    refine StepsAt.val 1 (.pointer (some (a.add 0))) rfl (fun _ _ => rfl) rfl rfl (fun x w1 hb hd => ?_) ?_
    · have h0 : x 0 = .slice (some a) n c := hd 0 (by kernel_rfl)
      have zi : (0 : Int) < (n : Int) := by omega
      have zi0 : ¬ n = 0 := by omega
      rw [h0]
      first | (go_simp; done) | (go_simp; rfl)
    refine StepsAt.val 2 (.int .u8 (B0 : Int)) rfl (fun _ _ => rfl) rfl rfl (fun x w1 hb hd => ?_) ?_
    · have h1 : x 1 = .pointer (some (a.add 0)) := hd 1 (by kernel_rfl)
      have cc := (hb.cell (p := a.add 0) (by rw [addr_block]; exact HB.out)).trans c0.out
      simp [Addr.add] at cc
      rw [h1]
      simp only [Addr.add]
      first | (go_simp; done) | (go_simp; rfl)
    refine StepsAt.val 3 (.int .i64 (B0 : Int)) rfl (fun _ _ => rfl) rfl rfl (fun x w1 hb hd => ?_) ?_
    · have h2 : x 2 = .int .u8 (B0 : Int) := hd 2 (by kernel_rfl)
      first | (rw [h2]; go_simp; done) | (rw [h2]; go_simp; rfl) | (rw [h2]; go_simp; exact wrap_i64s _ (by omega) (by omega))
    refine StepsAt.val 4 (.int .i64 ((B0 : Int) * 16777216)) rfl (fun _ _ => rfl) rfl rfl (fun x w1 hb hd => ?_) ?_
    · have h3 : x 3 = .int .i64 (B0 : Int) := hd 3 (by kernel_rfl)
      first | (rw [h3]; go_simp; done) | (rw [h3]; go_simp; rfl) | (rw [h3]; go_simp; exact wrap_i64s _ (by omega) (by omega))
    refine StepsAt.val 5 (.slice (some a) n c) rfl (fun _ _ => rfl) rfl rfl (fun x w1 hb hd => ?_) ?_
    · first | (go_simp; done) | (go_simp; rfl)
    refine StepsAt.val 6 (.pointer (some (a.add 1))) rfl (fun _ _ => rfl) rfl rfl (fun x w1 hb hd => ?_) ?_
    · have h5 : x 5 = .slice (some a) n c := hd 5 (by kernel_rfl)
      have zi : (1 : Int) < (n : Int) := by omega
      have zi0 : ¬ n = 0 := by omega
      rw [h5]
      first | (go_simp; done) | (go_simp; rfl)
    refine StepsAt.val 7 (.int .u8 (B1 : Int)) rfl (fun _ _ => rfl) rfl rfl (fun x w1 hb hd => ?_) ?_
    · have h6 : x 6 = .pointer (some (a.add 1)) := hd 6 (by kernel_rfl)
      have cc := (hb.cell (p := a.add 1) (by rw [addr_block]; exact HB.out)).trans c1.out
      simp [Addr.add] at cc
      rw [h6]
      simp only [Addr.add]
      first | (go_simp; done) | (go_simp; rfl)
    refine StepsAt.val 8 (.int .i64 (B1 : Int)) rfl (fun _ _ => rfl) rfl rfl (fun x w1 hb hd => ?_) ?_
    · have h7 : x 7 = .int .u8 (B1 : Int) := hd 7 (by kernel_rfl)
      first | (rw [h7]; go_simp; done) | (rw [h7]; go_simp; rfl) | (rw [h7]; go_simp; exact wrap_i64s _ (by omega) (by omega))
    refine StepsAt.val 9 (.int .i64 ((B1 : Int) * 65536)) rfl (fun _ _ => rfl) rfl rfl (fun x w1 hb hd => ?_) ?_
    · have h8 : x 8 = .int .i64 (B1 : Int) := hd 8 (by kernel_rfl)
      first | (rw [h8]; go_simp; done) | (rw [h8]; go_simp; rfl) | (rw [h8]; go_simp; exact wrap_i64s _ (by omega) (by omega))
    refine StepsAt.val 10 (.int .i64 ((B0 : Int) * 16777216 + (B1 : Int) * 65536)) rfl (fun _ _ => rfl) rfl rfl (fun x w1 hb hd => ?_) ?_
    · have h4 : x 4 = .int .i64 ((B0 : Int) * 16777216) := hd 4 (by kernel_rfl)
      have h9 : x 9 = .int .i64 ((B1 : Int) * 65536) := hd 9 (by kernel_rfl)
      first | (rw [h4, h9]; go_simp; done) | (rw [h4, h9]; go_simp; rfl) | (rw [h4, h9]; go_simp; exact wrap_i64s _ (by omega) (by omega))
    refine StepsAt.val 11 (.slice (some a) n c) rfl (fun _ _ => rfl) rfl rfl (fun x w1 hb hd => ?_) ?_
    · first | (go_simp; done) | (go_simp; rfl)
    refine StepsAt.val 12 (.pointer (some (a.add 2))) rfl (fun _ _ => rfl) rfl rfl (fun x w1 hb hd => ?_) ?_
    · have h11 : x 11 = .slice (some a) n c := hd 11 (by kernel_rfl)
      have zi : (2 : Int) < (n : Int) := by omega
      have zi0 : ¬ n = 0 := by omega
      rw [h11]
      first | (go_simp; done) | (go_simp; rfl)
    refine StepsAt.val 13 (.int .u8 (B2 : Int)) rfl (fun _ _ => rfl) rfl rfl (fun x w1 hb hd => ?_) ?_
    · have h12 : x 12 = .pointer (some (a.add 2)) := hd 12 (by kernel_rfl)
      have cc := (hb.cell (p := a.add 2) (by rw [addr_block]; exact HB.out)).trans c2.out
      simp [Addr.add] at cc
      rw [h12]
      simp only [Addr.add]
      first | (go_simp; done) | (go_simp; rfl)
    refine StepsAt.val 14 (.int .i64 (B2 : Int)) rfl (fun _ _ => rfl) rfl rfl (fun x w1 hb hd => ?_) ?_
    · have h13 : x 13 = .int .u8 (B2 : Int) := hd 13 (by kernel_rfl)
      first | (rw [h13]; go_simp; done) | (rw [h13]; go_simp; rfl) | (rw [h13]; go_simp; exact wrap_i64s _ (by omega) (by omega))
    refine StepsAt.val 15 (.int .i64 ((B2 : Int) * 256)) rfl (fun _ _ => rfl) rfl rfl (fun x w1 hb hd => ?_) ?_
    · have h14 : x 14 = .int .i64 (B2 : Int) := hd 14 (by kernel_rfl)
      first | (rw [h14]; go_simp; done) | (rw [h14]; go_simp; rfl) | (rw [h14]; go_simp; exact wrap_i64s _ (by omega) (by omega))
    refine StepsAt.val 16 (.int .i64 ((B0 : Int) * 16777216 + (B1 : Int) * 65536 + (B2 : Int) * 256)) rfl (fun _ _ => rfl) rfl rfl (fun x w1 hb hd => ?_) ?_
    · have h10 : x 10 = .int .i64 ((B0 : Int) * 16777216 + (B1 : Int) * 65536) := hd 10 (by kernel_rfl)
      have h15 : x 15 = .int .i64 ((B2 : Int) * 256) := hd 15 (by kernel_rfl)
      first | (rw [h10, h15]; go_simp; done) | (rw [h10, h15]; go_simp; rfl) | (rw [h10, h15]; go_simp; exact wrap_i64s _ (by omega) (by omega))
    refine StepsAt.val 17 (.slice (some a) n c) rfl (fun _ _ => rfl) rfl rfl (fun x w1 hb hd => ?_) ?_
    · first | (go_simp; done) | (go_simp; rfl)
    refine StepsAt.val 18 (.pointer (some (a.add 3))) rfl (fun _ _ => rfl) rfl rfl (fun x w1 hb hd => ?_) ?_
    · have h17 : x 17 = .slice (some a) n c := hd 17 (by kernel_rfl)
      have zi : (3 : Int) < (n : Int) := by omega
      have zi0 : ¬ n = 0 := by omega
      rw [h17]
      first | (go_simp; done) | (go_simp; rfl)
    refine StepsAt.val 19 (.int .u8 (B3 : Int)) rfl (fun _ _ => rfl) rfl rfl (fun x w1 hb hd => ?_) ?_
    · have h18 : x 18 = .pointer (some (a.add 3)) := hd 18 (by kernel_rfl)
      have cc := (hb.cell (p := a.add 3) (by rw [addr_block]; exact HB.out)).trans c3.out
      simp [Addr.add] at cc
      rw [h18]
      simp only [Addr.add]
      first | (go_simp; done) | (go_simp; rfl)
    refine StepsAt.val 20 (.int .i64 (B3 : Int)) rfl (fun _ _ => rfl) rfl rfl (fun x w1 hb hd => ?_) ?_
    · have h19 : x 19 = .int .u8 (B3 : Int) := hd 19 (by kernel_rfl)
      first | (rw [h19]; go_simp; done) | (rw [h19]; go_simp; rfl) | (rw [h19]; go_simp; exact wrap_i64s _ (by omega) (by omega))
    refine StepsAt.val 21 (.int .i64 ((B0 : Int) * 16777216 + (B1 : Int) * 65536 + (B2 : Int) * 256 + (B3 : Int))) rfl (fun _ _ => rfl) rfl rfl (fun x w1 hb hd => ?_) ?_
    · have h16 : x 16 = .int .i64 ((B0 : Int) * 16777216 + (B1 : Int) * 65536 + (B2 : Int) * 256) := hd 16 (by kernel_rfl)
      have h20 : x 20 = .int .i64 (B3 : Int) := hd 20 (by kernel_rfl)
      first | (rw [h16, h20]; go_simp; done) | (rw [h16, h20]; go_simp; rfl) | (rw [h16, h20]; go_simp; exact wrap_i64s _ (by omega) (by omega))
    refine StepsAt.val 22 (.int .i64 ((B0 : Int) * 16777216 + (B1 : Int) * 65536 + (B2 : Int) * 256 + (B3 : Int))) rfl (fun _ _ => rfl) rfl rfl (fun x w1 hb hd => ?_) ?_
    · have h21 : x 21 = .int .i64 ((B0 : Int) * 16777216 + (B1 : Int) * 65536 + (B2 : Int) * 256 + (B3 : Int)) := hd 21 (by kernel_rfl)
      rw [h21]
      first | (go_simp; done) | (go_simp; rfl)
    refine StepsAt.val 23 (.int .i64 0) rfl (fun _ _ => rfl) rfl rfl (fun x w1 hb hd => ?_) ?_
    · first | (go_simp; done) | (go_simp; rfl)
    exact StepsAt.done
  case fin =>
    intro x w1 hb hd
    have hx0 : x 0 = .slice (some a) n c := hd 0 (by omega)
    have hx1 : x 1 = .pointer (some (a.add 0)) := hd 1 (by omega)
    have hx2 : x 2 = .int .u8 (B0 : Int) := hd 2 (by omega)
    have hx3 : x 3 = .int .i64 (B0 : Int) := hd 3 (by omega)
    have hx4 : x 4 = .int .i64 ((B0 : Int) * 16777216) := hd 4 (by omega)
    have hx5 : x 5 = .slice (some a) n c := hd 5 (by omega)
    have hx6 : x 6 = .pointer (some (a.add 1)) := hd 6 (by omega)
    have hx7 : x 7 = .int .u8 (B1 : Int) := hd 7 (by omega)
    have hx8 : x 8 = .int .i64 (B1 : Int) := hd 8 (by omega)
    have hx9 : x 9 = .int .i64 ((B1 : Int) * 65536) := hd 9 (by omega)
    have hx10 : x 10 = .int .i64 ((B0 : Int) * 16777216 + (B1 : Int) * 65536) := hd 10 (by omega)
    have hx11 : x 11 = .slice (some a) n c := hd 11 (by omega)
    have hx12 : x 12 = .pointer (some (a.add 2)) := hd 12 (by omega)
    have hx13 : x 13 = .int .u8 (B2 : Int) := hd 13 (by omega)
    have hx14 : x 14 = .int .i64 (B2 : Int) := hd 14 (by omega)
    have hx15 : x 15 = .int .i64 ((B2 : Int) * 256) := hd 15 (by omega)
    have hx16 : x 16 = .int .i64 ((B0 : Int) * 16777216 + (B1 : Int) * 65536 + (B2 : Int) * 256) := hd 16 (by omega)
    have hx17 : x 17 = .slice (some a) n c := hd 17 (by omega)
    have hx18 : x 18 = .pointer (some (a.add 3)) := hd 18 (by omega)
    have hx19 : x 19 = .int .u8 (B3 : Int) := hd 19 (by omega)
    have hx20 : x 20 = .int .i64 (B3 : Int) := hd 20 (by omega)
    have hx21 : x 21 = .int .i64 ((B0 : Int) * 16777216 + (B1 : Int) * 65536 + (B2 : Int) * 256 + (B3 : Int)) := hd 21 (by omega)
    have hx22 : x 22 = .int .i64 ((B0 : Int) * 16777216 + (B1 : Int) * 65536 + (B2 : Int) * 256 + (B3 : Int)) := hd 22 (by omega)
    have hx23 : x 23 = .int .i64 0 := hd 23 (by omega)
    refine AnyTill.any (S := fun _ => True) (m := 24) _ _ _ _ ?_
    refine AnyTill.done (by kernel_rfl) ?_
    refine NoPanic.normal ?_
    try dsimp only
    rw [hx0, hx1, hx2, hx3, hx4, hx5, hx6, hx7, hx8, hx9, hx10, hx11, hx12, hx13, hx14, hx15, hx16, hx17, hx18, hx19, hx20, hx21, hx22, hx23]
    clear hd hx0 hx1 hx2 hx3 hx4 hx5 hx6 hx7 hx8 hx9 hx10 hx11 hx12 hx13 hx14 hx15 hx16 hx17 hx18 hx19 hx20 hx21 hx22 hx23
    try clear x
    go_wp2
    go_ret2
    exact ⟨by congr 3, hb⟩

end Go.Proofs.YtllncnnigjgadaaGreat
