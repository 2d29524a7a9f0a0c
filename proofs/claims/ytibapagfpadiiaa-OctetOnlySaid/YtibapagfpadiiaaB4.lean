/-
  OctetOnly: the walk.
-/
import Derived.Test.YtibapagfpadiiaaB2
import Derived.Test.YtibapagfpadiiaaStep
namespace Go.Proofs.Ytibapagfpadiiaa
open Go.RowKit
set_option linter.unusedVariables false
attribute [local go_sem ↓] Go.wp_at_zero Go.wp_at_succ

set_option maxRecDepth 100000 in
set_option maxHeartbeats 4000000 in
theorem only_walk (v : Value) (l : List UInt8) (w : World) (hr : Rd w.heap.size w v l) : Calls Try.prog 6 #[v] w (TrueStays w) := by
  obtain ⟨i0, hi, hz0, hz1, hz2⟩ := info_parts info5
  obtain ⟨A, c, hv, _, hcm⟩ := hr.shape
  unfold maxLen at hcm
  rw [hv] at hr ⊢
  have HM := Lib.hid hr
  clear hr hv
  by_cases hbig : 4000 < (l.length : Int)
  · go_enter Try.func6, Try.ntmps6
    go_wp2_with fail
    refine (alive_any w).mono ?_
    rintro e w1 ⟨rfl, hb1⟩
    go_wp2
    go_ret
    exact ⟨rfl, hb1⟩
  · have hl : (l.length : Int) ≤ 4000 := by omega
    clear hbig
    have HK : Hid (∀ w', Below w.heap.size w w' → (convert 22 9 (.slice A l.length c)).run Try.prog w' = .ok (.string ⟨l.toArray⟩) w') := fun w' hb => run_string_rd 22 9 5 Try.underlying22 Try.underlying5 Try.underlying9 (HM.out.below hb)
    go_enter Try.func6, Try.ntmps6
    go_wp2_with fail
    refine (take_any _ l w HM.out (by omega)).mono ?_
    rintro e w1 ⟨v1, rfl, hown1, hb1⟩
    have HO1 := Lib.hid hown1
    have HF1 := Lib.hid hb1
    have hs1 := hb1.size
    clear hown1 hb1
    go_wp2_with fail
    refine (takeList_any _ l 4000 4000 w1 ((HM.out.below HF1.out).more hs1) (by omega) (by omega) (by omega) (by omega) (by omega)).mono ?_
    rintro e w2 ⟨x2, v2, rfl, howns2, hown2, hb2⟩
    have HS2 := Lib.hid howns2
    have HO2 := Lib.hid hown2
    have HB2 := Lib.hid hb2
    have HF2 := Lib.hid (HF1.out.trans (hb2.mono hs1))
    have hs2 := hb2.size
    clear howns2 hown2 hb2
    go_wp2_with fail
    refine (takeInt_any _ l w2 ((HM.out.below HF2.out).more HF2.out.size) (by omega)).mono ?_
    rintro e w3 ⟨v3, rfl, hown3, hb3⟩
    have HO3 := Lib.hid hown3
    have HB3 := Lib.hid hb3
    have HF3 := Lib.hid (HF2.out.trans (hb3.mono HF2.out.size))
    have hs3 := hb3.size
    clear hown3 hb3
    generalize hT : takeN l = t at *
    generalize hQ : takeL l 4000 4000 = q at *
    obtain ⟨n, r, er⟩ := t
    obtain ⟨ss, r', er'⟩ := q
    have HT := Lib.hid hT
    have HQ := Lib.hid hQ
    clear hT hQ
    dsimp only
    by_cases he : er = 0
    · subst he
      have hz : ((((0 : Nat) : Int)) == 0) = true := rfl
      obtain ⟨hsplit, hnlt⟩ := takeN_only _ _ _ HT.out
      have hn1 : (n : Int) ≤ 18446744073709551615 := by omega
      have hzb : -9223372036854775808 ≤ zag n ∧ zag n ≤ 9223372036854775807 := by unfold zag; split <;> omega
      have hrl : r.length ≤ 4000 := by have h := congrArg List.length hsplit; rw [List.length_append] at h; omega
      have hel : (enc n).length ≤ 9 := by rw [enc_length]; have := wid_le n; omega
      have HSP := Lib.hid hsplit
      have HEL := Lib.hid hel
      have HZZ : Hid ((zig (zag n)).toNat = n) := zig_zag n
      clear hsplit hel hnlt
      have HR1 : Hid (Rd w1.heap.size w3 v1 r) := (HO1.out.rd.below HB2.out).below (HB3.out.mono hs2)
      have HR3 : Hid (Rd w3.heap.size w3 v3 r) := HO3.out.rd
      go_wp2_with fail
      refine wp_region_noPanic ?_
      go_region_held_law (fun w' => (convert 22 9 (.slice A l.length c)).run Try.prog w' = .ok (.string ⟨l.toArray⟩) w')
        (first | exact HK.out _ HF3.out | exact HK.out _ HF3.out.drew | exact HK.out _ HF4.out | exact HK.out _ HF5.out | exact HK.out _ HF6.out | exact HK.out _ HF7.out)
        (first
          | (go_at_call 10; refine (put_any _ [] (n : Int) _ (Rd.nil _ _) (by omega) hn1 (by simp)).mono ?_; rintro e w4 ⟨v4, rfl, hown4, hb4⟩; rw [List.nil_append, Int.toNat_natCast] at hown4; have HO4 := Lib.hid hown4; have hb4' : Below w3.heap.size w3 w4 := (Below.refl w3.heap.size w3).drew.trans hb4; have HB4 := Lib.hid hb4'; have hs4 := hb4'.size; have HF4 := Lib.hid (HF3.out.trans (hb4'.mono HF3.out.size)); have HG4 := Lib.hid (HB3.out.trans (hb4'.mono hs3)); clear hown4 hb4 hb4')
          | (go_at_call 14; refine (int_any _ [] (zag n) _ (Rd.nil _ _) hzb.1 hzb.2 (by simp)).mono ?_; rintro e w6 ⟨v6, rfl, hown6, hb6⟩; rw [List.nil_append, HZZ.out] at hown6; have HO6 := Lib.hid hown6; have hs6 := hb6.size; have HF6 := Lib.hid (HF5.out.trans (hb6.mono HF5.out.size)); have HG6 := Lib.hid (HG5.out.trans (hb6.mono HG5.out.size)); have HR36 := Lib.hid (HR35.out.below (hb6.mono (by omega))); clear hown6 hb6)
          | (refine step_app (by rfl) _ _ 22 (by rfl) 5 i0 Try.underlying22 hi hz0 hz1 hz2 w3.heap.size w1.heap.size v4 v1 (enc n) r (by rfl) HO4.out (by rfl) (HR1.out.below (HB4.out.mono (by omega))) (by have := HEL.out; omega) hs4 ?_; intro v5 w5 hown5 hb5; rw [HSP.out] at hown5; obtain ⟨A5, c5, hv5, _, _⟩ := hown5.rd.shape; have q5 := hown5.rd; rw [hv5] at q5 ⊢; have e5 := run_string_rd 22 9 5 Try.underlying22 Try.underlying5 Try.underlying9 q5; have HF5 := Lib.hid (HF4.out.trans (hb5.mono HF3.out.size)); have HG5 := Lib.hid (HG4.out.trans (hb5.mono hs3)); have hs5 := hb5.size; have HR35 := Lib.hid ((HR3.out.below HB4.out).below hb5); clear hown5 hb5 hv5 q5)
          | (refine step_app (by rfl) _ _ 22 (by rfl) 5 i0 Try.underlying22 hi hz0 hz1 hz2 w5.heap.size w3.heap.size v6 v3 (enc n) r (by rfl) HO6.out (by rfl) HR36.out (by have := HEL.out; omega) hs6 ?_; intro v7 w7 hown7 hb7; rw [HSP.out] at hown7; obtain ⟨A7, c7, hv7, _, _⟩ := hown7.rd.shape; have q7 := hown7.rd; rw [hv7] at q7 ⊢; have e7 := run_string_rd 22 9 5 Try.underlying22 Try.underlying5 Try.underlying9 q7; have HF7 := Lib.hid (HF6.out.trans (hb7.mono HF5.out.size)); have HG7 := Lib.hid (HG6.out.trans (hb7.mono HG5.out.size)); have hs7 := hb7.size; clear hown7 hb7 hv7 q7)
          | fail)
      refine NoPanic.normal ?_
      have HX7 := Lib.hid (HS2.out.rd.below HG7.out)
      have HR7 := Lib.hid (HO2.out.rd.below HG7.out)
      have hg7 := HG7.out.size
      have hf7 := HF7.out.size
      by_cases hf : er' = 0
      · subst hf
        have hsp2 := takeL_only _ _ _ _ _ HQ.out
        have HSP2 := Lib.hid hsp2
        have hll : (encL ss).length + r'.length = l.length := by rw [← hsp2, List.length_append]
        have hle : (encs ss).length ≤ (encL ss).length := by unfold encL; rw [List.length_append]; omega
        have hls : ss.length ≤ 4000 := by have h := takeL_len l 4000 4000; rw [HQ.out] at h; dsimp only at h; omega
        have he1 : (encs ss).length ≤ 4000 := by omega
        have he2 : (encL ss).length + r'.length ≤ 4000 := by omega
        have HE1 := Lib.hid he1
        have HE2 := Lib.hid he2
        clear hsp2 hll hle he1 he2
        go_wp2_with fail
        refine wp_region_noPanic ?_
        go_region_held_law (fun w' => (convert 22 9 (.slice A l.length c)).run Try.prog w' = .ok (.string ⟨l.toArray⟩) w')
          (first | exact HK.out _ HF7.out | exact HK.out _ HF7.out.drew | exact HK.out _ HF8.out | exact HK.out _ HF9.out | exact HK.out _ HF10.out)
          (first
            | (go_at_call 9; refine (alive_any _).mono ?_; rintro e w8 ⟨rfl, hb8⟩; have HB8 : Hid (Below w7.heap.size w7 w8) := (Below.refl w7.heap.size w7).drew.trans hb8; have HF8 := Lib.hid (HF7.out.trans (HB8.out.mono hf7)); have hs8 := HB8.out.size; have HX8 := Lib.hid (HX7.out.below (HB8.out.mono hg7)); have HR8 := Lib.hid (HR7.out.below (HB8.out.mono hg7)); clear hb8)
            | (go_at_call 18; refine (list_any _ x2 [] ss w8 (Rd.nil _ _) (HX8.out.more (by omega)) (by have := HE1.out; simp; omega) (by omega)).mono ?_; rintro e w9 ⟨v9, rfl, hown9, hb9⟩; rw [List.nil_append] at hown9; have HO9 := Lib.hid hown9; have HF9 := Lib.hid (HF8.out.trans (hb9.mono (by omega))); have HR9 := Lib.hid (HR8.out.below (hb9.mono (by omega))); have hs9 := hb9.size; clear hown9 hb9)
            | (refine step_app (by rfl) _ _ 22 (by rfl) 5 i0 Try.underlying22 hi hz0 hz1 hz2 w8.heap.size w2.heap.size v9 v2 (encL ss) r' (by rfl) HO9.out (by rfl) HR9.out (by have := HE2.out; omega) hs9 ?_; intro v10 w10 hown10 hb10; rw [HSP2.out] at hown10; obtain ⟨A10, c10, hv10, _, _⟩ := hown10.rd.shape; have q10 := hown10.rd; rw [hv10] at q10 ⊢; have e10 := run_string_rd 22 9 5 Try.underlying22 Try.underlying5 Try.underlying9 q10; have HF10 := Lib.hid (HF9.out.trans (hb10.mono (by omega))); clear hown10 hb10 hv10 q10)
            | fail)
        refine NoPanic.normal ?_
        go_wp2
        go_ret
        exact ⟨rfl, HF10.out⟩
      · have hf2 : ((er' : Int) != 0) = true := by simp; omega
        go_wp2_with fail
        refine wp_region_noPanic ?_
        refine wp_region_held_drew (S := fun _ => True) (by kernel_rfl) trivial (fun _ => ?_)
        refine wpAnyH_ready (rs := [0]) (by kernel_rfl) (by simp) ?_
        refine AllReadyH.cons rfl (fun K hK => ?_) AllReadyH.nil
        go_simp
        refine (alive_any _).mono ?_
        rintro e w8 ⟨rfl, hb8⟩
        have HF8 : Hid (Below w.heap.size w w8) := HF7.out.drew.trans (hb8.mono hf7)
        clear hb8
        refine hK.out _ _ trivial (fun _ => ?_)
        clear hK K
        refine wpAnyH_take1 (i := 1) (v := ?v1) rfl (by kernel_rfl) (by kernel_rfl) (by kernel_rfl) (fun _ _ _ h => h) (by rfl) ?h1 trivial ?r1
        case h1 => (intro w _; go_simp; try with_reducible rfl)
        simp only [Act.put, List.setIfInBounds_toArray, List.set_cons_zero, List.set_cons_succ]
        refine wpAnyH_take1 (i := 2) (v := ?v2) rfl (by kernel_rfl) (by kernel_rfl) (by kernel_rfl) (fun _ _ _ h => h) (by rfl) ?h2 trivial ?r2
        case h2 => (intro w _; go_simp; try with_reducible rfl)
        simp only [Act.put, List.setIfInBounds_toArray, List.set_cons_zero, List.set_cons_succ]
        refine wpAnyH_take1 (i := 3) (v := ?v3) rfl (by kernel_rfl) (by kernel_rfl) (by kernel_rfl) (fun _ _ _ h => h) (by rfl) ?h3 trivial ?r3
        case h3 => (intro w _; go_simp; try with_reducible rfl)
        simp only [Act.put, List.setIfInBounds_toArray, List.set_cons_zero, List.set_cons_succ]
        refine wpAnyH_take1 (i := 4) (v := ?v4) rfl (by kernel_rfl) (by kernel_rfl) (by kernel_rfl) (fun _ _ _ h => h) (by rfl) ?h4 trivial ?r4
        case h4 => (intro w _; go_simp; try with_reducible rfl)
        simp only [Act.put, List.setIfInBounds_toArray, List.set_cons_zero, List.set_cons_succ]
        refine wpAnyH_take1 (i := 5) (v := ?v5) rfl (by kernel_rfl) (by kernel_rfl) (by kernel_rfl) (fun _ _ _ h => h) (by rfl) ?h5 trivial ?r5
        case h5 => (intro w _; go_simp; try with_reducible rfl)
        simp only [Act.put, List.setIfInBounds_toArray, List.set_cons_zero, List.set_cons_succ]
        refine wpAnyH_take1 (i := 6) (v := ?v6) rfl (by kernel_rfl) (by kernel_rfl) (by kernel_rfl) (fun _ _ _ h => h) (by rfl) ?h6 trivial ?r6
        case h6 => (intro w _; go_simp; try with_reducible rfl)
        simp only [Act.put, List.setIfInBounds_toArray, List.set_cons_zero, List.set_cons_succ]
        refine wpAnyH_take1 (i := 7) (v := ?v7) rfl (by kernel_rfl) (by kernel_rfl) (by kernel_rfl) (fun _ _ _ h => h) (by rfl) ?h7 trivial ?r7
        case h7 => (intro w _; go_simp; try with_reducible rfl)
        simp only [Act.put, List.setIfInBounds_toArray, List.set_cons_zero, List.set_cons_succ]
        refine wpAnyH_take1 (i := 8) (v := ?v8) rfl (by kernel_rfl) (by kernel_rfl) (by kernel_rfl) (fun _ _ _ h => h) (by rfl) ?h8 trivial ?r8
        case h8 => (intro w _; go_simp; try with_reducible rfl)
        simp only [Act.put, List.setIfInBounds_toArray, List.set_cons_zero, List.set_cons_succ]
        refine wpAnyH_take1 (i := 9) (v := ?v9) rfl (by kernel_rfl) (by kernel_rfl) (by kernel_rfl) (fun _ _ _ h => h) (by rfl) ?h9 trivial ?r9
        case h9 => (intro w _; go_simp; try with_reducible rfl)
        simp only [Act.put, List.setIfInBounds_toArray, List.set_cons_zero, List.set_cons_succ]
        refine wpAnyH_skip (i := 10) rfl (by kernel_rfl) (by kernel_rfl) (by kernel_rfl) (fun _ _ _ h => h) (by rfl) trivial ?_
        simp only [Act.put, List.setIfInBounds_toArray, List.set_cons_zero, List.set_cons_succ]
        refine wpAnyH_skip (i := 11) rfl (by kernel_rfl) (by kernel_rfl) (by kernel_rfl) (fun _ _ _ h => h) (by rfl) trivial ?_
        simp only [Act.put, List.setIfInBounds_toArray, List.set_cons_zero, List.set_cons_succ]
        refine wpAnyH_skip (i := 12) rfl (by kernel_rfl) (by kernel_rfl) (by kernel_rfl) (fun _ _ _ h => h) (by rfl) trivial ?_
        simp only [Act.put, List.setIfInBounds_toArray, List.set_cons_zero, List.set_cons_succ]
        refine wpAnyH_skip (i := 13) rfl (by kernel_rfl) (by kernel_rfl) (by kernel_rfl) (fun _ _ _ h => h) (by rfl) trivial ?_
        simp only [Act.put, List.setIfInBounds_toArray, List.set_cons_zero, List.set_cons_succ]
        refine wpAnyH_skip (i := 14) rfl (by kernel_rfl) (by kernel_rfl) (by kernel_rfl) (fun _ _ _ h => h) (by rfl) trivial ?_
        simp only [Act.put, List.setIfInBounds_toArray, List.set_cons_zero, List.set_cons_succ]
        refine wpAnyH_skip (i := 15) rfl (by kernel_rfl) (by kernel_rfl) (by kernel_rfl) (fun _ _ _ h => h) (by rfl) trivial ?_
        simp only [Act.put, List.setIfInBounds_toArray, List.set_cons_zero, List.set_cons_succ]
        refine wpAnyH_skip (i := 16) rfl (by kernel_rfl) (by kernel_rfl) (by kernel_rfl) (fun _ _ _ h => h) (by rfl) trivial ?_
        simp only [Act.put, List.setIfInBounds_toArray, List.set_cons_zero, List.set_cons_succ]
        refine wpAnyH_skip (i := 17) rfl (by kernel_rfl) (by kernel_rfl) (by kernel_rfl) (fun _ _ _ h => h) (by rfl) trivial ?_
        simp only [Act.put, List.setIfInBounds_toArray, List.set_cons_zero, List.set_cons_succ]
        refine wpAnyH_take1 (i := 18) (v := ?v18) rfl (by kernel_rfl) (by kernel_rfl) (by kernel_rfl) (fun _ _ _ h => h) (by rfl) ?h18 trivial ?r18
        case h18 => (intro w _; go_simp; try with_reducible rfl)
        simp only [Act.put, List.setIfInBounds_toArray, List.set_cons_zero, List.set_cons_succ]
        refine wpAnyH_take1 (i := 19) (v := ?v19) rfl (by kernel_rfl) (by kernel_rfl) (by kernel_rfl) (fun _ _ _ h => h) (by rfl) ?h19 trivial ?r19
        case h19 => (intro w _; go_simp; try with_reducible rfl)
        simp only [Act.put, List.setIfInBounds_toArray, List.set_cons_zero, List.set_cons_succ]
        refine wpAnyH_take1 (i := 20) (v := ?v20) rfl (by kernel_rfl) (by kernel_rfl) (by kernel_rfl) (fun _ _ _ h => h) (by rfl) ?h20 trivial ?r20
        case h20 => (intro w _; go_simp; try with_reducible rfl)
        simp only [Act.put, List.setIfInBounds_toArray, List.set_cons_zero, List.set_cons_succ]
        refine wpAnyH_done (by kernel_rfl) ?_ _
        refine NoPanic.normal ?_
        go_wp2
        go_ret
        exact ⟨rfl, HF8.out⟩
    · have hz : ((er : Int) == 0) = false := by simp; omega
      obtain rfl : er' = er := by
        have h := takeL_err 4000 4000 HT.out he
        rw [HQ.out] at h
        injection h with _ h
        injection h
      have hf2 : ((er' : Int) != 0) = true := by simp; omega
      go_wp2_with fail
      go_quiet (fail)
      go_wp2_with fail
      have HF7 : Hid (Below w.heap.size w (w3.drewN nq)) := HF3.out.trans (below_drewN _ _ _)
      have hf7 : w.heap.size ≤ (w3.drewN nq).heap.size := HF7.out.size
      refine wp_region_noPanic ?_
      refine wp_region_held_drew (S := fun _ => True) (by kernel_rfl) trivial (fun _ => ?_)
      refine wpAnyH_ready (rs := [0]) (by kernel_rfl) (by simp) ?_
      refine AllReadyH.cons rfl (fun K hK => ?_) AllReadyH.nil
      go_simp
      refine (alive_any _).mono ?_
      rintro e w8 ⟨rfl, hb8⟩
      have HF8 : Hid (Below w.heap.size w w8) := HF7.out.drew.trans (hb8.mono hf7)
      clear hb8
      refine hK.out _ _ trivial (fun _ => ?_)
      clear hK K
      refine wpAnyH_take1 (i := 1) (v := ?vv1) rfl (by kernel_rfl) (by kernel_rfl) (by kernel_rfl) (fun _ _ _ h => h) (by rfl) ?hh1 trivial ?rr1
      case hh1 => (intro w _; go_simp; try with_reducible rfl)
      simp only [Act.put, List.setIfInBounds_toArray, List.set_cons_zero, List.set_cons_succ]
      refine wpAnyH_take1 (i := 2) (v := ?vv2) rfl (by kernel_rfl) (by kernel_rfl) (by kernel_rfl) (fun _ _ _ h => h) (by rfl) ?hh2 trivial ?rr2
      case hh2 => (intro w _; go_simp; try with_reducible rfl)
      simp only [Act.put, List.setIfInBounds_toArray, List.set_cons_zero, List.set_cons_succ]
      refine wpAnyH_take1 (i := 3) (v := ?vv3) rfl (by kernel_rfl) (by kernel_rfl) (by kernel_rfl) (fun _ _ _ h => h) (by rfl) ?hh3 trivial ?rr3
      case hh3 => (intro w _; go_simp; try with_reducible rfl)
      simp only [Act.put, List.setIfInBounds_toArray, List.set_cons_zero, List.set_cons_succ]
      refine wpAnyH_take1 (i := 4) (v := ?vv4) rfl (by kernel_rfl) (by kernel_rfl) (by kernel_rfl) (fun _ _ _ h => h) (by rfl) ?hh4 trivial ?rr4
      case hh4 => (intro w _; go_simp; try with_reducible rfl)
      simp only [Act.put, List.setIfInBounds_toArray, List.set_cons_zero, List.set_cons_succ]
      refine wpAnyH_take1 (i := 5) (v := ?vv5) rfl (by kernel_rfl) (by kernel_rfl) (by kernel_rfl) (fun _ _ _ h => h) (by rfl) ?hh5 trivial ?rr5
      case hh5 => (intro w _; go_simp; try with_reducible rfl)
      simp only [Act.put, List.setIfInBounds_toArray, List.set_cons_zero, List.set_cons_succ]
      refine wpAnyH_take1 (i := 6) (v := ?vv6) rfl (by kernel_rfl) (by kernel_rfl) (by kernel_rfl) (fun _ _ _ h => h) (by rfl) ?hh6 trivial ?rr6
      case hh6 => (intro w _; go_simp; try with_reducible rfl)
      simp only [Act.put, List.setIfInBounds_toArray, List.set_cons_zero, List.set_cons_succ]
      refine wpAnyH_take1 (i := 7) (v := ?vv7) rfl (by kernel_rfl) (by kernel_rfl) (by kernel_rfl) (fun _ _ _ h => h) (by rfl) ?hh7 trivial ?rr7
      case hh7 => (intro w _; go_simp; try with_reducible rfl)
      simp only [Act.put, List.setIfInBounds_toArray, List.set_cons_zero, List.set_cons_succ]
      refine wpAnyH_take1 (i := 8) (v := ?vv8) rfl (by kernel_rfl) (by kernel_rfl) (by kernel_rfl) (fun _ _ _ h => h) (by rfl) ?hh8 trivial ?rr8
      case hh8 => (intro w _; go_simp; try with_reducible rfl)
      simp only [Act.put, List.setIfInBounds_toArray, List.set_cons_zero, List.set_cons_succ]
      refine wpAnyH_take1 (i := 9) (v := ?vv9) rfl (by kernel_rfl) (by kernel_rfl) (by kernel_rfl) (fun _ _ _ h => h) (by rfl) ?hh9 trivial ?rr9
      case hh9 => (intro w _; go_simp; try with_reducible rfl)
      simp only [Act.put, List.setIfInBounds_toArray, List.set_cons_zero, List.set_cons_succ]
      refine wpAnyH_skip (i := 10) rfl (by kernel_rfl) (by kernel_rfl) (by kernel_rfl) (fun _ _ _ h => h) (by rfl) trivial ?_
      simp only [Act.put, List.setIfInBounds_toArray, List.set_cons_zero, List.set_cons_succ]
      refine wpAnyH_skip (i := 11) rfl (by kernel_rfl) (by kernel_rfl) (by kernel_rfl) (fun _ _ _ h => h) (by rfl) trivial ?_
      simp only [Act.put, List.setIfInBounds_toArray, List.set_cons_zero, List.set_cons_succ]
      refine wpAnyH_skip (i := 12) rfl (by kernel_rfl) (by kernel_rfl) (by kernel_rfl) (fun _ _ _ h => h) (by rfl) trivial ?_
      simp only [Act.put, List.setIfInBounds_toArray, List.set_cons_zero, List.set_cons_succ]
      refine wpAnyH_skip (i := 13) rfl (by kernel_rfl) (by kernel_rfl) (by kernel_rfl) (fun _ _ _ h => h) (by rfl) trivial ?_
      simp only [Act.put, List.setIfInBounds_toArray, List.set_cons_zero, List.set_cons_succ]
      refine wpAnyH_skip (i := 14) rfl (by kernel_rfl) (by kernel_rfl) (by kernel_rfl) (fun _ _ _ h => h) (by rfl) trivial ?_
      simp only [Act.put, List.setIfInBounds_toArray, List.set_cons_zero, List.set_cons_succ]
      refine wpAnyH_skip (i := 15) rfl (by kernel_rfl) (by kernel_rfl) (by kernel_rfl) (fun _ _ _ h => h) (by rfl) trivial ?_
      simp only [Act.put, List.setIfInBounds_toArray, List.set_cons_zero, List.set_cons_succ]
      refine wpAnyH_skip (i := 16) rfl (by kernel_rfl) (by kernel_rfl) (by kernel_rfl) (fun _ _ _ h => h) (by rfl) trivial ?_
      simp only [Act.put, List.setIfInBounds_toArray, List.set_cons_zero, List.set_cons_succ]
      refine wpAnyH_skip (i := 17) rfl (by kernel_rfl) (by kernel_rfl) (by kernel_rfl) (fun _ _ _ h => h) (by rfl) trivial ?_
      simp only [Act.put, List.setIfInBounds_toArray, List.set_cons_zero, List.set_cons_succ]
      refine wpAnyH_take1 (i := 18) (v := ?vv18) rfl (by kernel_rfl) (by kernel_rfl) (by kernel_rfl) (fun _ _ _ h => h) (by rfl) ?hh18 trivial ?rr18
      case hh18 => (intro w _; go_simp; try with_reducible rfl)
      simp only [Act.put, List.setIfInBounds_toArray, List.set_cons_zero, List.set_cons_succ]
      refine wpAnyH_take1 (i := 19) (v := ?vv19) rfl (by kernel_rfl) (by kernel_rfl) (by kernel_rfl) (fun _ _ _ h => h) (by rfl) ?hh19 trivial ?rr19
      case hh19 => (intro w _; go_simp; try with_reducible rfl)
      simp only [Act.put, List.setIfInBounds_toArray, List.set_cons_zero, List.set_cons_succ]
      refine wpAnyH_take1 (i := 20) (v := ?vv20) rfl (by kernel_rfl) (by kernel_rfl) (by kernel_rfl) (fun _ _ _ h => h) (by rfl) ?hh20 trivial ?rr20
      case hh20 => (intro w _; go_simp; try with_reducible rfl)
      simp only [Act.put, List.setIfInBounds_toArray, List.set_cons_zero, List.set_cons_succ]
      refine wpAnyH_done (by kernel_rfl) ?_ _
      refine NoPanic.normal ?_
      go_wp2
      go_ret
      exact ⟨rfl, HF8.out⟩
end Go.Proofs.Ytibapagfpadiiaa
