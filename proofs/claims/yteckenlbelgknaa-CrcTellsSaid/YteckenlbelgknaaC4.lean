/-
  The document's Sum, Long, Frame. Each theorem states its own conditions.
-/
import Derived.Test.YteckenlbelgknaaC3
import Derived.Test.YteckenlbelgknaaES
import Derived.Lib.MinMax
namespace Go.Proofs.Yteckenlbelgknaa
open Go.RowKit

set_option maxHeartbeats 400000 in
theorem rfSum_any (l : List UInt8) (v : Value) (w : World) (hr : Rd w.heap.size w v l) : Calls Try.prog 12 #[v] w fun e w' => e = .returned (.int .u32 (sumC l : Int)) ∧ w = w' := by
  obtain ⟨A, c, rfl, hc, hm⟩ := hr.shape
  have HR := Lib.hid hr
  clear hr
  go_enter Try.func12, Try.ntmps12
  go_wp2_with fail
  refine (rfMore_any 0 l _ w (by decide) HR.out).mono ?_
  rintro e w' ⟨rfl, rfl⟩
  go_wp2
  go_ret
  exact ⟨rfl, rfl⟩
set_option maxHeartbeats 400000 in
theorem rfLong_any (z : Int) (w : World) (hz : z ≤ 1000000000) : Calls Try.prog 18 #[.int .i64 z] w fun e w' => e = .returned (.int .i64 (longC z.toNat : Int)) ∧ w = w' := by
  obtain ⟨m, hm⟩ : ∃ q, z.toNat = q := ⟨_, rfl⟩
  have hm2 : m ≤ 1000000000 := by omega
  have hw := wid_le m
  have hmx : max z 0 = (m : Int) := by omega
  have HM := Lib.hid hm
  rw [hm]
  clear hm
  go_enter Try.func18, Try.ntmps18
  go_wp2_with fail
  refine (refSize_any (m : Int) w (by omega) (by omega)).mono ?_
  rintro e w' ⟨rfl, rfl⟩
  go_wp2
  go_ret
  refine ⟨?_, rfl⟩
  simp only [longC]
  congr 2
theorem Rd.four (e : TypeId) (fr : Nat × Nat) (w : World) (x1 x2 x3 x4 : Int) (b1 b2 b3 b4 : UInt8) (h1 : x1 = (b1.toNat : Int)) (h2 : x2 = (b2.toNat : Int)) (h3 : x3 = (b3.toNat : Int)) (h4 : x4 = (b4.toNat : Int)) : Rd (w.heap.size + 1) (w.alloc (.cells #[.int .u8 x1, .int .u8 x2, .int .u8 x3, .int .u8 x4] e fr)) (.slice (some ⟨w.heap.size, 0, none⟩) 4 4) [b1, b2, b3, b4] := by
  subst h1 h2 h3 h4
  refine ⟨some ⟨w.heap.size, 0, none⟩, 4, rfl, Nat.le_refl _, by unfold maxLen; decide, fun h => (by cases h), fun a ha => ?_⟩
  cases ha
  refine ⟨fun _ => Nat.lt_succ_self _, fun j hj => ?_⟩
  rw [Addr.add_mid, cell_of_row _ _ _ _ e fr (heap_alloc_new w _)]
  have : j = 0 ∨ j = 1 ∨ j = 2 ∨ j = 3 := by simp at hj; omega
  rcases this with rfl | rfl | rfl | rfl <;> simp
set_option maxRecDepth 100000 in
set_option maxHeartbeats 4000000 in
theorem rfFrame_any (b d : List UInt8) (v u : Value) (w : World) (hr : Rd w.heap.size w v b) (hd : Rd w.heap.size w u d) (hb : b.length ≤ 1000000) (hl : d.length ≤ 1000000) : Calls Try.prog 16 #[v, u] w (Gives w.heap.size (b ++ frameC d) w) := by
  obtain ⟨i0, hi, hz0, hz1, hz2⟩ := info_parts info5
  obtain ⟨A, c, hv, hc, hm⟩ := hr.shape
  obtain ⟨A2, c2, hu, hc2, hm2⟩ := hd.shape
  obtain ⟨n, hn⟩ : ∃ n, b.length = n := ⟨_, rfl⟩
  obtain ⟨m, hmm⟩ : ∃ n, d.length = n := ⟨_, rfl⟩
  have HN := Lib.hid hn
  have HM := Lib.hid hmm
  rw [hn] at hv hb
  rw [hmm] at hu hl
  subst hv hu
  have HR := Lib.hid hr
  have HD := Lib.hid hd
  have hwm := wid_le m
  clear hr hd hc hc2 hm hm2 hn hmm
  go_enter Try.func16, Try.ntmps16
  go_wp2_with fail
  have hb0 : Below w.heap.size w (w.alloc (.cells #[.int .u8 167] 5)) := (Below.refl _ _).alloc (Nat.le_refl _) _
  have B0 := Lib.hid hb0
  refine (refPut_any (.slice (some ⟨w.heap.size, 0, none⟩) 1 1) [167] (m : Int) _ (by simpa using Rd.one 5 w 167) (by omega) (by omega) (by decide)).mono ?_
  rintro e w1 ⟨v1, rfl, hown, hb1⟩
  rw [show ((m : Int)).toNat = m by omega] at hown
  have hs0 : (w.alloc (.cells #[.int .u8 167] 5)).heap.size = w.heap.size + 1 := by simp
  rw [hs0] at hown hb1
  have O1 := Lib.hid hown
  have B1 := Lib.hid (B0.out.trans (hb1.mono (Nat.le_succ _)))
  have HS1 := Lib.hid (show w.heap.size + 1 ≤ w1.heap.size by have := hb1.size; omega)
  have HL1 : Hid (([167] ++ enc m : List UInt8).length = wid m + 2) := Lib.hid (by simp [enc_length])
  clear hown hb0 hs0 B0 hb1
  go_wp2_with (at_builtin; refine wpList_app rfl _ _ 22 rfl 5 i0 Try.underlying22 hi hz0 hz1 hz2 (w.heap.size + 1) w.heap.size v1 _ ([167] ++ enc m) d rfl O1.out rfl (HD.out.below B1.out) ?c1 HS1.out ?_)
  case c1 => rw [HL1.out, HM.out]; omega
  intro v2 w2 hown2 hb2
  have O2 := Lib.hid hown2
  have B2 := Lib.hid (B1.out.trans (hb2.mono (Nat.le_succ _)))
  have HS2 := Lib.hid (Nat.le_trans HS1.out hb2.size)
  obtain ⟨F, hF⟩ : ∃ q, (167 :: (enc m ++ d) : List UInt8) = q := ⟨_, rfl⟩
  have HF := Lib.hid hF
  have HFL : Hid (F.length ≤ 1000020) := Lib.hid (by have h1 := HL1.out; have h2 := HM.out; rw [← hF]; simp only [List.length_append, List.length_cons, List.length_nil] at h1 ⊢; omega)
  rw [hF] at O2
  clear hown2 hb2 O1 B1 HS1 hF
  go_wp2_with fail
  refine (rfSum_any F _ w2 O2.out.rd).mono ?_
  rintro e w3 ⟨rfl, rfl⟩
  obtain ⟨s, hs⟩ : ∃ q, sumC F = q := ⟨_, rfl⟩
  have hsl : s < 4294967296 := by rw [← hs]; exact moreC_lt _ _ (by decide)
  have HS := Lib.hid hs
  rw [hs]
  clear hs
  go_wp2_with (at_builtin; refine wpList_app rfl _ _ 22 rfl 5 i0 Try.underlying22 hi hz0 hz1 hz2 (w.heap.size + 1) (w2.heap.size + 1) v2 _ F (sum4 s) rfl (O2.out.alloc _) rfl ?r4 ?c2 ?s2 ?_)
  case r4 => exact Rd.four _ _ w2 _ _ _ _ _ _ _ _ (by simp; omega) (by simp) (by simp) (by simp)
  case c2 => have := HFL.out; rw [sum4_len]; omega
  case s2 => have := HS2.out; simp; omega
  intro v4 w4 hown4 hb4
  have B4 := Lib.hid (B2.out.trans (((Below.refl w.heap.size w2).alloc (by have := HS2.out; omega) _).trans (hb4.mono (Nat.le_succ _))))
  have HS4 := Lib.hid (show w.heap.size + 1 ≤ w4.heap.size by have := hb4.size; have := HS2.out; simp at *; omega)
  have HFC : Hid (F ++ sum4 s = frameC d) := Lib.hid (by rw [← HS.out, ← HF.out, ← HM.out]; rfl)
  rw [HFC.out] at hown4
  have O4 := Lib.hid hown4
  have HL4 : Hid ((frameC d).length ≤ 1000020) := Lib.hid (by rw [frameC_len, HM.out]; unfold longC; omega)
  clear hown4 hb4 O2 B2 HS2 HFC HFL HF HS hsl
  go_wp2_with (at_builtin; refine wpList_app rfl _ _ 22 rfl 5 i0 Try.underlying22 hi hz0 hz1 hz2 w4.heap.size (w4.heap.size + 1) (.slice (some ⟨w4.heap.size, 0, none⟩) 0 0) _ [] b rfl (Own.made _ w4) rfl ?r5 ?c3 ?s3 ?_)
  case r5 => exact (HR.out.below (B4.out.alloc (by have := HS4.out; omega) _)).more (by have := HS4.out; omega)
  case c3 => rw [HN.out]; simp; omega
  case s3 => simp
  intro v5 w5 hown5 hb5
  have HS5 := Lib.hid (show w4.heap.size + 1 ≤ w5.heap.size by have := hb5.size; simp at this; omega)
  have BQ := Lib.hid (((Below.refl w4.heap.size w4).alloc (Nat.le_refl _) (.cells #[] 5)).trans hb5)
  have O5 := Lib.hid (show Own 5 w5 w4.heap.size v5 b from hown5)
  clear hown5 hb5
  go_wp2_with (at_builtin; refine wpList_app rfl _ _ 22 rfl 5 i0 Try.underlying22 hi hz0 hz1 hz2 w4.heap.size w4.heap.size v5 v4 b (frameC d) rfl O5.out rfl (O4.out.rd.below BQ.out) ?c4 ?s4 ?_)
  case c4 => have := HL4.out; have := HN.out; omega
  case s4 => have := HS5.out; omega
  intro v6 w6 hown6 hb6
  have O6 := Lib.hid hown6
  have B6 := Lib.hid (B4.out.trans ((BQ.out.trans hb6).mono (by have := HS4.out; omega)))
  have HBS := Lib.hid (show w.heap.size ≤ w4.heap.size by have := HS4.out; omega)
  clear hown6 hb6 O5 O4 BQ B4 HS5 HS4
  go_wp2
  go_ret
  exact ⟨v6, rfl, O6.out.base HBS.out, B6.out⟩
end Go.Proofs.Yteckenlbelgknaa
