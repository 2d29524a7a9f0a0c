/-
  OctetTakes: the walk.
-/
import Derived.Test.YtibapagfpadiiaaR2
namespace Go.Proofs.Ytibapagfpadiiaa
open Go.RowKit
set_option linter.unusedVariables false

theorem takeL_len (l : List UInt8) (many m : Int) : (takeL l many m).1.length ≤ l.length := by
  by_cases h : (takeL l many m).2.2 = 0
  · have h2 : takeL l many m = ((takeL l many m).1, (takeL l many m).2.1, 0) := by rw [← h]
    have h3 := congrArg List.length (takeL_only _ _ _ _ _ h2)
    generalize (takeL l many m).1 = ss at *
    have h4 : ss.length ≤ (encs ss).length := by
      clear h h2 h3
      induction ss with
      | nil => simp
      | cons s r ih =>
        have := encS_length s
        simp only [encs, List.length_append, List.length_cons]
        omega
    rw [List.length_append, encL, List.length_append] at h3
    omega
  · by_cases h1 : (takeN l).2.2 = 0
    · have hT : takeN l = ((takeN l).1, (takeN l).2.1, 0) := by rw [← h1]
      by_cases h2 : max many 0 < ((takeN l).1 : Int)
      · rw [takeL_large m hT h2]
        simp
      · rw [takeL_ok m hT (by omega)] at h ⊢
        rw [takeK_err _ _ _ h]
        simp
    · rw [takeL_err many m (show takeN l = ((takeN l).1, (takeN l).2.1, (takeN l).2.2) from rfl) h1]
      simp

set_option maxRecDepth 100000 in
set_option maxHeartbeats 4000000 in
theorem takes_walk (v : Value) (l : List UInt8) (many long : Int) (w : World) (hr : Rd w.heap.size w v l) (y0 : -9223372036854775808 ≤ many) (y1 : many ≤ 9223372036854775807) (m0 : -9223372036854775808 ≤ long) (m1 : long ≤ 9223372036854775807) :
    Calls Try.prog 4 #[v, .int .i64 many, .int .i64 long] w (TrueStays w) := by
  obtain ⟨A, c, hv, _, hcm⟩ := hr.shape
  unfold maxLen at hcm
  rw [hv] at hr ⊢
  have HM := Lib.hid hr
  clear hr hv
  by_cases hbig : 4000 < (l.length : Int)
  · go_enter Try.func4, Try.ntmps4
    go_wp2_with fail
    refine (alive_any w).mono ?_
    rintro e w1 ⟨rfl, hb1⟩
    go_wp2
    go_ret
    exact ⟨rfl, hb1⟩
  · have hl : (l.length : Int) ≤ 4000 := by omega
    clear hbig
    have hll := takeL_len l many long
    go_enter Try.func4, Try.ntmps4
    go_wp2_with fail
    refine (take_any _ l w HM.out (by omega)).mono ?_
    rintro e w1 ⟨v1, rfl, hown1, hb1⟩
    have HO1 := Lib.hid hown1
    have HF1 := Lib.hid hb1
    have hs1 := hb1.size
    clear hown1 hb1
    go_wp2_with fail
    refine (refTake_any _ l w.heap.size w1 (HM.out.below HF1.out) hs1).mono ?_
    rintro e w2 ⟨v2, rfl, hr2, hb2⟩
    have HR2 := Lib.hid hr2
    have HB2 := Lib.hid hb2
    have HF2 := Lib.hid (HF1.out.trans (hb2.mono hs1))
    have hs2 := hb2.size
    clear hr2 hb2
    go_wp2_with fail
    refine (takeText_any _ l long w2 ((HM.out.below HF2.out).more HF2.out.size) m0 m1 (by omega)).mono ?_
    rintro e w3 ⟨v3, rfl, hown3, hb3⟩
    have HO3 := Lib.hid hown3
    have HB3 := Lib.hid hb3
    have HF3 := Lib.hid (HF2.out.trans (hb3.mono HF2.out.size))
    have hs3 := hb3.size
    clear hown3 hb3
    go_wp2_with fail
    refine (refText_any _ l long w.heap.size w3 (HM.out.below HF3.out) HF3.out.size m0 m1).mono ?_
    rintro e w4 ⟨v4, rfl, hr4, hb4⟩
    have HB4 := Lib.hid hb4
    have HF4 := Lib.hid (HF3.out.trans (hb4.mono HF3.out.size))
    have hs4 := hb4.size
    have q1 : Rd w1.heap.size w4 v1 (takeN l).2.1 := ((HO1.out.rd.below HB2.out).below (HB3.out.mono hs2)).below (HB4.out.mono (by omega))
    have q2 : Rd w.heap.size w4 v2 (takeN l).2.1 := (HR2.out.below (HB3.out.mono (by omega))).below (HB4.out.mono (by omega))
    have q3 : Rd w3.heap.size w4 v3 (takeS l long).2.1 := HO3.out.rd.below HB4.out
    have q4 : Rd w.heap.size w4 v4 (takeS l long).2.1 := hr4
    clear hr4 hb4 HO1 HR2 HO3
    generalize takeN l = t at *
    generalize takeS l long = u at *
    obtain ⟨n, r, er⟩ := t
    obtain ⟨s, r', er'⟩ := u
    dsimp only at q1 q2 q3 q4 ⊢
    obtain ⟨A1, c1, hv1, _, _⟩ := q1.shape
    obtain ⟨A2, c2, hv2, _, _⟩ := q2.shape
    obtain ⟨A3, c3, hv3, _, _⟩ := q3.shape
    obtain ⟨A4, c4, hv4, _, _⟩ := q4.shape
    rw [hv1] at q1 ⊢
    rw [hv2] at q2 ⊢
    rw [hv3] at q3 ⊢
    rw [hv4] at q4 ⊢
    have e1 := run_string_rd 22 9 5 Try.underlying22 Try.underlying5 Try.underlying9 q1
    have e2 := run_string_rd 22 9 5 Try.underlying22 Try.underlying5 Try.underlying9 q2
    have e3 := run_string_rd 22 9 5 Try.underlying22 Try.underlying5 Try.underlying9 q3
    have e4 := run_string_rd 22 9 5 Try.underlying22 Try.underlying5 Try.underlying9 q4
    clear q1 q2 q3 q4 hv1 hv2 hv3 hv4
    go_wp2_with fail
    refine (takeList_any _ l many long w4 ((HM.out.below HF4.out).more HF4.out.size) y0 y1 m0 m1 (by omega)).mono ?_
    rintro e w5 ⟨x5, v5, rfl, howns5, hown5, hb5⟩
    have HS5 := Lib.hid howns5
    have HO5 := Lib.hid hown5
    have HF5 := Lib.hid (HF4.out.trans (hb5.mono HF4.out.size))
    have hs5 := hb5.size
    clear howns5 hown5 hb5 e1 e2 e3 e4
    go_wp2_with fail
    refine (refList_any _ l many long w5 ((HM.out.below HF5.out).more HF5.out.size) y0 y1 m0 m1 (by omega)).mono ?_
    rintro e w6 ⟨x6, v6, rfl, howns6, hr6, hb6⟩
    have HS6 := Lib.hid howns6
    have HR6 := Lib.hid hr6
    have HB6 := Lib.hid hb6
    have HF6 := Lib.hid (HF5.out.trans (hb6.mono HF5.out.size))
    have hs6 := hb6.size
    clear howns6 hr6 hb6
    go_wp2_with fail
    refine (takeInt_any _ l w6 ((HM.out.below HF6.out).more HF6.out.size) (by omega)).mono ?_
    rintro e w7 ⟨v7, rfl, hown7, hb7⟩
    have HO7 := Lib.hid hown7
    have HB7 := Lib.hid hb7
    have HF7 := Lib.hid (HF6.out.trans (hb7.mono HF6.out.size))
    have hs7 := hb7.size
    clear hown7 hb7
    go_wp2_with fail
    refine (refInt_any _ l w.heap.size w7 (HM.out.below HF7.out) HF7.out.size).mono ?_
    rintro e w8 ⟨v8, rfl, hr8, hb8⟩
    have HR8 := Lib.hid hr8
    have HB8 := Lib.hid hb8
    have HF8 := Lib.hid (HF7.out.trans (hb8.mono HF7.out.size))
    have hs8 := hb8.size
    clear hr8 hb8
    go_wp2_with fail
    refine (alive_any w8).mono ?_
    rintro e w9 ⟨rfl, hb9⟩
    have HB9 := Lib.hid hb9
    have HF9 := Lib.hid (HF8.out.trans (hb9.mono HF8.out.size))
    have hs9 := hb9.size
    clear hb9
    have hB69 : Below w6.heap.size w6 w9 := (HB7.out.trans (HB8.out.mono hs7)).trans (HB9.out.mono (by omega))
    have hB59 : Below w5.heap.size w5 w9 := HB6.out.trans (hB69.mono hs6)
    have HB69 := Lib.hid hB69
    have HB59 := Lib.hid hB59
    clear hB69 hB59
    go_wp2_with fail
    refine (strings_same x5 x6 (takeL l many long).1 w5.heap.size w6.heap.size w9 (HS5.out.rd.below HB59.out) (HS6.out.rd.below HB69.out) HB59.out.size HB69.out.size (by omega)).mono ?_
    rintro e w10 ⟨rfl, hb10⟩
    have HF10 := Lib.hid (HF9.out.trans (hb10.mono HF9.out.size))
    have q1 : Rd w5.heap.size w10 v5 (takeL l many long).2.1 := (HO5.out.rd.below HB59.out).below (hb10.mono HB59.out.size)
    have q2 : Rd w5.heap.size w10 v6 (takeL l many long).2.1 := (HR6.out.below (HB69.out.mono hs6)).below (hb10.mono HB59.out.size)
    have q3 : Rd w7.heap.size w10 v7 (takeN l).2.1 := ((HO7.out.rd.below HB8.out).below (HB9.out.mono hs8)).below (hb10.mono (by omega))
    have q4 : Rd w.heap.size w10 v8 (takeN l).2.1 := (HR8.out.below (HB9.out.mono HF8.out.size)).below (hb10.mono HF9.out.size)
    clear hb10
    generalize takeN l = t at *
    generalize takeL l many long = q at *
    obtain ⟨n, r, er⟩ := t
    obtain ⟨ss, r'', er''⟩ := q
    dsimp only at q1 q2 q3 q4 ⊢
    obtain ⟨A1, c1, hv1, _, _⟩ := q1.shape
    obtain ⟨A2, c2, hv2, _, _⟩ := q2.shape
    obtain ⟨A3, c3, hv3, _, _⟩ := q3.shape
    obtain ⟨A4, c4, hv4, _, _⟩ := q4.shape
    rw [hv1] at q1 ⊢
    rw [hv2] at q2 ⊢
    rw [hv3] at q3 ⊢
    rw [hv4] at q4 ⊢
    have e1 := run_string_rd 22 9 5 Try.underlying22 Try.underlying5 Try.underlying9 q1
    have e2 := run_string_rd 22 9 5 Try.underlying22 Try.underlying5 Try.underlying9 q2
    have e3 := run_string_rd 22 9 5 Try.underlying22 Try.underlying5 Try.underlying9 q3
    have e4 := run_string_rd 22 9 5 Try.underlying22 Try.underlying5 Try.underlying9 q4
    clear q1 q2 q3 q4 hv1 hv2 hv3 hv4
    go_wp2
    go_ret
    exact ⟨rfl, HF10.out⟩
end Go.Proofs.Ytibapagfpadiiaa
