/-
  The law CrcPieces. Each theorem states its own conditions.
-/
import Derived.Test.YteckenlbelgknaaCQ
import Derived.Test.YteckenlbelgknaaCU
namespace Go.Proofs.Yteckenlbelgknaa
open Go.RowKit

theorem sumC_set (l : List UInt8) (k : Nat) (hk : k < l.length) (y : UInt8) (hy : y ≠ 0) : sumC (l.set k (l.getD k 0 ^^^ y)) ≠ sumC l := by
  obtain ⟨a, c, h1, h2⟩ := set_mid l k hk (l.getD k 0 ^^^ y)
  rw [h2]
  intro h
  rw [show sumC l = sumC (a ++ l.getD k 0 :: c) by rw [← h1]] at h
  exact sumC_spoilt a c _ _ 0 (by decide) (xor8_ne _ _ hy) h.symm

set_option maxRecDepth 100000 in
set_option maxHeartbeats 4000000 in
theorem pieces15_all (v u : Value) (y : UInt8) (a b : List UInt8) (w : World) (ha : Rd w.heap.size w v a) (hb : Rd w.heap.size w u b) : Calls Try.prog 7 #[v, u, .int .u8 (y.toNat : Int)] w (OneC (.bool true) w) := by
  obtain ⟨i0, hi, hz0, hz1, hz2⟩ := info_parts info5
  obtain ⟨A, c, rfl, hc, hm⟩ := ha.shape
  obtain ⟨A2, c2, rfl, hc2, hm2⟩ := hb.shape
  unfold maxLen at hm hm2
  obtain ⟨n, hn⟩ : ∃ q, a.length = q := ⟨_, rfl⟩
  obtain ⟨m, hmm⟩ : ∃ q, b.length = q := ⟨_, rfl⟩
  have HN := Lib.hid hn
  have HM := Lib.hid hmm
  have HA := Lib.hid ha
  have HB := Lib.hid hb
  rw [hn] at HA hc ⊢
  rw [hmm] at HB hc2 ⊢
  clear ha hb hn hmm
  go_enter Try.func7, Try.ntmps7
  by_cases h1 : (3000 : Int) < (n : Int)
  · go_wp2_with fail
    refine (alive15 w).mono ?_
    rintro e w1 ⟨rfl, hb⟩
    have HB := Lib.hid hb
    clear hb
    go_wp2
    go_ret
    exact ⟨rfl, HB.out⟩
  by_cases h2 : (3000 : Int) < (m : Int)
  · go_wp2_with fail
    refine (alive15 w).mono ?_
    rintro e w1 ⟨rfl, hb⟩
    have HB := Lib.hid hb
    clear hb
    go_wp2
    go_ret
    exact ⟨rfl, HB.out⟩
  go_wp2_with (at_builtin; refine wpList_app rfl _ _ 22 rfl 5 i0 Try.underlying22 hi hz0 hz1 hz2 w.heap.size (w.heap.size + 1) (.slice (some ⟨w.heap.size, 0, none⟩) 0 0) _ [] a rfl (Own.made _ w) rfl ?r1 ?c1 ?s1 ?_)
  case r1 => exact (HA.out.below ((Below.refl _ _).alloc (Nat.le_refl _) _)).more (by simp)
  case c1 => have := HN.out; omega

  intro v1 w1 hown hbx
  have HS1 := Lib.hid (show w.heap.size + 1 ≤ w1.heap.size by have := hbx.size; simp at this; omega)
  have B1 := Lib.hid (((Below.refl w.heap.size w).alloc (Nat.le_refl _) (.cells #[] 5)).trans hbx)
  have O1 := Lib.hid (show Own 5 w1 w.heap.size v1 a from hown)
  clear hown hbx
  go_wp2_with (at_builtin; refine wpList_app rfl _ _ 22 rfl 5 i0 Try.underlying22 hi hz0 hz1 hz2 w.heap.size w.heap.size v1 _ a b rfl O1.out rfl (HB.out.below B1.out) ?c2 ?s2 ?_)
  case c2 => rw [HN.out, HM.out]; omega
  case s2 => have := HS1.out; omega
  intro v2 w2 hown hbx
  obtain ⟨F, hF⟩ : ∃ q, a ++ b = q := ⟨_, rfl⟩
  rw [hF] at hown
  have HF := Lib.hid hF
  have HFL := Lib.hid (show F.length = n + m by rw [← hF, List.length_append, HN.out, HM.out])
  have B2 := Lib.hid (B1.out.trans hbx)
  have O2 := Lib.hid hown
  have HS2 := Lib.hid (show w.heap.size ≤ w2.heap.size from Nat.le_trans (by have := HS1.out; omega) hbx.size)
  clear hown hbx O1 B1 HS1 hF
  obtain ⟨A3, c3, rfl, hc3, hm3⟩ := O2.out.rd.shape
  rw [HFL.out] at O2 hc3 ⊢
  unfold maxLen at hm3
  go_wp2_with fail
  refine (crSum_any F _ w2 O2.out.rd (by rw [HFL.out]; omega)).mono ?_
  rintro e w3 ⟨rfl, hb⟩
  have B3 := Lib.hid (B2.out.trans (hb.mono HS2.out))
  have O3 := Lib.hid (O2.out.below hb (Nat.le_refl _))
  have HS3 := Lib.hid (Nat.le_trans HS2.out hb.size)
  clear hb O2 B2 HS2
  obtain ⟨s, hs⟩ : ∃ q, sumC F = q := ⟨_, rfl⟩
  have HS := Lib.hid hs
  rw [hs]
  clear hs
  go_wp2_with fail
  refine (crSum_any a _ w3 ((HA.out.below B3.out).more HS3.out) (by rw [HN.out]; omega)).mono ?_
  rintro e w4 ⟨rfl, hb⟩
  have B4 := Lib.hid (B3.out.trans (hb.mono HS3.out))
  have O4 := Lib.hid (O3.out.below hb (Nat.le_refl _))
  have HS4 := Lib.hid (Nat.le_trans HS3.out hb.size)
  clear hb O3 B3 HS3
  have hal : sumC a < 4294967296 := moreC_lt _ _ (by decide)
  obtain ⟨sa, hsa⟩ : ∃ q, sumC a = q := ⟨_, rfl⟩
  have HSA := Lib.hid hsa
  rw [hsa] at hal ⊢
  clear hsa
  go_wp2_with fail
  refine (crMore_any sa b _ w4 hal ((HB.out.below B4.out).more HS4.out) (by rw [HM.out]; omega)).mono ?_
  rintro e w5 ⟨rfl, hb⟩
  have B5 := Lib.hid (B4.out.trans (hb.mono HS4.out))
  have O5 := Lib.hid (O4.out.below hb (Nat.le_refl _))
  have HS5 := Lib.hid (Nat.le_trans HS4.out hb.size)
  rw [show moreC sa b = s by rw [← HSA.out, ← HS.out, ← HF.out]; exact (moreC_append 0 a b).symm]
  clear hb O4 B4 HS4 hal
  go_wp2_with fail
  · refine (alive15 w5).mono ?_
    rintro e w6 ⟨rfl, hb⟩
    have B6 := Lib.hid (B5.out.trans (hb.mono HS5.out))
    clear hb
    go_wp2
    go_ret
    exact ⟨rfl, B6.out⟩
  · refine (alive15 w5).mono ?_
    rintro e w6 ⟨rfl, hb⟩
    have B6 := Lib.hid (B5.out.trans (hb.mono HS5.out))
    clear hb
    go_wp2
    go_ret
    exact ⟨rfl, B6.out⟩
  rename_i h0 hy K1 hK1 K2 hK2
  obtain ⟨g, cap, hv, hcap, hcm, hg1, hg2⟩ := O5.out.inBlock8 (by rw [HFL.out]; omega)
  injection hv with e1 e2 e3
  subst e1 e3
  clear e2
  obtain ⟨k, hk⟩ : ∃ k : Nat, (n : Int) % ((n : Int) + (m : Int)) = (k : Int) := ⟨n % (n + m), by simp⟩
  have hk1 : (0 : Int) ≤ (n : Int) % ((n : Int) + (m : Int)) := Int.emod_nonneg _ h0
  have hk2 : (n : Int) % ((n : Int) + (m : Int)) < (n : Int) + (m : Int) := Int.emod_lt_of_pos _ (by omega)
  rw [hk] at hk1 hk2 ⊢
  have hkF : k < F.length := by rw [HFL.out]; omega
  have zk : k < n + m := by omega
  have h6 : n + m ≤ 6000 := by omega
  generalize hN : n + m = N at *
  have zi : (k : Int) < (N : Int) := by omega
  obtain ⟨x, hx⟩ : ∃ x, F.getD k 0 = x := ⟨_, rfl⟩
  obtain ⟨f1, f2⟩ := O5.out.cell8 k hkF
  have f3 := u8_xor_nat x.toNat y.toNat x.toNat_lt y.toNat_lt
  rw [hx] at f1
  have S5 := O5.out.stored8 k hkF ((x.toNat ^^^ y.toNat : Nat) : Int) (x ^^^ y) (by rw [xor8])
  have S6 := Lib.hid S5.1
  have B6 := Lib.hid (B5.out.trans S5.2)
  clear S5
  have hy0 : y ≠ 0 := by
    intro h
    subst h
    simp at hy
  have HX := Lib.hid hx
  have H6 := Lib.hid h6
  have HY := Lib.hid hy0
  have HKF := Lib.hid hkF
  clear h6 hy hk hk1 hk2 hN h0 hkF zk hx hy0 hi hz0 hz1 hz2 hm hm2 hg1 hg2 hcap hc hc2 h1 h2
  go_simp
  go_wp2_with fail
  have HS6 := Lib.hid (show w.heap.size ≤ (w5.setCell ⟨g, k, none⟩ (.int .u8 ((x.toNat ^^^ y.toNat : Nat) : Int))).heap.size from B6.out.size)
  refine (alive15 _).mono ?_
  rintro e w7 ⟨rfl, hb⟩
  have B7 := Lib.hid (B6.out.trans (hb.mono HS6.out))
  have O7 := Lib.hid (S6.out.below hb (Nat.le_refl _))
  have HS7 := Lib.hid (Nat.le_trans HS6.out hb.size)
  clear hb S6 B6 HS6 f1 f2 f3
  go_wp2_with fail
  refine (crSum_any (F.set k (x ^^^ y)) _ w7 O7.out.rd (by rw [List.length_set, HFL.out]; have := H6.out; omega)).mono ?_
  rintro e w8 ⟨rfl, hb⟩
  have B8 := Lib.hid (B7.out.trans (hb.mono HS7.out))
  have hne : (sumC (F.set k (x ^^^ y)) : Int) ≠ (s : Int) := by
    have := sumC_set F k HKF.out y HY.out
    rw [HX.out, HS.out] at this
    omega
  obtain ⟨z, hz⟩ : ∃ q, sumC (F.set k (x ^^^ y)) = q := ⟨_, rfl⟩
  rw [hz] at hne ⊢
  clear hb hz
  go_wp2
  go_ret
  refine ⟨?_, B8.out⟩
  have hb : ((z : Int) != (s : Int)) = true := by simpa [bne_iff_ne] using hne
  show Ending.returned (.bool ((z : Int) != (s : Int))) = _
  rw [hb]
end Go.Proofs.Yteckenlbelgknaa
