/-
  OctetBack: the walk.
-/
import Derived.Test.YtibapagfpadiiaaC2
namespace Go.Proofs.Ytibapagfpadiiaa
open Go.RowKit
set_option linter.unusedVariables false

/-- Three strings in a new block. -/
theorem RdS.three (e : TypeId) (w : World) (a b c : ByteArray) : RdS (w.heap.size + 1) (w.alloc (.cells #[.string a, .string b, .string c] e)) (.slice (some ⟨w.heap.size, 0, none⟩) 3 3) [a, b, c] := by
  refine ⟨some ⟨w.heap.size, 0, none⟩, 3, rfl, Nat.le_refl _, by unfold maxLen; decide, fun h => (by cases h), fun x hx => ?_⟩
  cases hx
  refine ⟨fun _ => Nat.lt_succ_self _, fun j hj => ?_⟩
  have hj3 : j < 3 := hj
  match j, hj3 with
  | 0, _ => simp [Addr.add]
  | 1, _ => simp [Addr.add]
  | 2, _ => simp [Addr.add]

theorem wrap64_bd (x : Int) : -9223372036854775808 ≤ wrap64 x ∧ wrap64 x ≤ 9223372036854775807 := by
  unfold wrap64
  omega

theorem back_bytes (n : Nat) (k : Int) (s : ByteArray) (more : List UInt8) (hn : n < 18446744073709551616) (h0 : -9223372036854775808 ≤ k) (h1 : k ≤ 9223372036854775807) (hs : s.size ≤ 4000) :
    takeN ((enc n ++ enc (zig k).toNat) ++ encL [s, ⟨#[]⟩, s] ++ more) = (n, enc (zig k).toNat ++ (encL [s, ⟨#[]⟩, s] ++ more), 0) ∧
    takeN (enc (zig k).toNat ++ (encL [s, ⟨#[]⟩, s] ++ more)) = ((zig k).toNat, encL [s, ⟨#[]⟩, s] ++ more, 0) ∧
    takeL (encL [s, ⟨#[]⟩, s] ++ more) 3 (s.size : Int) = ([s, ⟨#[]⟩, s], more, 0) := by
  refine ⟨?_, takeN_enc _ (zig_bound k h0 h1) _, takeL_enc _ _ _ _ (by simp) (show ((3 : Nat) : Int) ≤ max 3 0 by decide) ?_⟩
  · rw [List.append_assoc, List.append_assoc]
    exact takeN_enc n hn _
  · intro t ht
    have h00 : (ByteArray.mk #[]).size = 0 := rfl
    simp only [List.mem_cons, List.not_mem_nil, or_false] at ht
    rcases ht with rfl | rfl | rfl
    · omega
    · rw [h00]; omega
    · omega

set_option maxHeartbeats 2000000 in
theorem back_walk (n : Nat) (s : ByteArray) (vm : Value) (more : List UInt8) (w : World) (hx1 : (n : Int) ≤ 18446744073709551615) (hr : Rd w.heap.size w vm more) (hs : s.size ≤ 140737488355328) (hm : more.length ≤ 140737488355328) :
    Calls Try.prog 5 #[.int .u64 (n : Int), .string s, vm] w (TrueStays w) := by
  obtain ⟨i0, hi, hz0, hz1, hz2⟩ := info_parts info5
  obtain ⟨Am, cm, hvm, _, _⟩ := hr.shape
  rw [hvm] at hr ⊢
  have HM := Lib.hid hr
  clear hr hvm
  by_cases hbig : 4000 < (s.size : Int) + (more.length : Int)
  · go_enter Try.func5, Try.ntmps5
    go_wp2_with fail
    refine (alive_any w).mono ?_
    rintro e w1 ⟨rfl, hb1⟩
    go_wp2
    go_ret
    exact ⟨rfl, hb1⟩
  · go_enter Try.func5, Try.ntmps5
    have hs2 : s.size ≤ 4000 := by omega
    have hm2 : more.length ≤ 4000 := by omega
    have hbig2 : (s.size : Int) + (more.length : Int) ≤ 4000 := by omega
    clear hbig hs hm
    have hwb := wrap64_bd (n : Int)
    have hen := enc_length n
    have hwx := wid_le n
    go_wp2_with fail
    generalize wrap64 (n : Int) = k at *
    have hek := enc_length (zig k).toNat
    have hwk := wid_le (zig k).toNat
    have hel : (encL [s, ⟨#[]⟩, s]).length ≤ 8100 := by
      have h1 := wid_le s.size
      have h2 := encS_length s
      have h3 : (encS ⟨#[]⟩).length = 1 := rfl
      have h4 := enc_length 3
      have h5 := wid_le 3
      show (enc 3 ++ (encS s ++ (encS ⟨#[]⟩ ++ (encS s ++ [])))).length ≤ _
      simp only [List.length_append, List.length_nil]
      omega
    have hes : (encs [s, ⟨#[]⟩, s]).length ≤ 8100 := by
      have h : (encL [s, ⟨#[]⟩, s]).length = (enc 3).length + (encs [s, ⟨#[]⟩, s]).length := by unfold encL; rw [List.length_append]; rfl
      omega
    obtain ⟨q1, q2, q3⟩ := back_bytes n k s more (by omega) hwb.1 hwb.2 hs2
    have Q1 := Lib.hid q1
    have Q2 := Lib.hid q2
    have Q3 := Lib.hid q3
    have HEN := Lib.hid hen
    have HEK := Lib.hid hek
    have HEL := Lib.hid hel
    have HES := Lib.hid hes
    clear q1 q2 q3 hen hek hel hes
    refine (put_any _ [] (n : Int) w (Rd.nil _ _) (by omega) hx1 (by simp)).mono ?_
    rintro e w1 ⟨v1, rfl, hown1, hb1⟩
    rw [List.nil_append, Int.toNat_natCast] at hown1
    have HO1 := Lib.hid hown1
    have HF1 := Lib.hid hb1
    have hs1 := hb1.size
    clear hown1 hb1
    go_wp2_with fail
    refine (int_any v1 _ k w1 HO1.out.rd hwb.1 hwb.2 (by rw [HEN.out]; omega)).mono ?_
    rintro e w2 ⟨v2, rfl, hown2, hb2⟩
    have HO2 := Lib.hid hown2
    have HF2 := Lib.hid (HF1.out.trans (hb2.mono hs1))
    have hs22 := HF2.out.size
    clear hown2 hb2 HO1
    go_wp2_with fail
    refine (list_any v2 _ _ [s, ⟨#[]⟩, s] _ ((HO2.out.alloc _).rd) ((RdS.three 9 w2 s ⟨#[]⟩ s).more (by simp)) (by rw [List.length_append, HEN.out, HEK.out]; have := HES.out; omega) (by simp)).mono ?_
    rintro e w3 ⟨v3, rfl, hown3, hb3⟩
    have HO3 : Hid (Own 5 w3 w2.heap.size v3 ((enc n ++ enc (zig k).toNat) ++ encL [s, ⟨#[]⟩, s])) := hown3.base (by simp)
    have hb3' : Below w2.heap.size w2 w3 := ((Below.refl _ _).alloc (Nat.le_refl _) _).trans (hb3.mono (by simp))
    have HB3 := Lib.hid hb3'
    have HF3 := Lib.hid (HF2.out.trans (hb3'.mono hs22))
    have hs3 := HB3.out.size
    clear hown3 hb3 hb3' HO2
    go_wp2_with (at_builtin; refine wpList_app rfl _ _ 22 rfl 5 i0 Try.underlying22 hi hz0 hz1 hz2 w2.heap.size w.heap.size _ _ _ more rfl HO3.out rfl (HM.out.below HF3.out) ?c1 hs3 ?_)
    case c1 =>
      have := HEL.out
      rw [List.length_append, List.length_append, HEN.out, HEK.out]
      omega
    intro v4 w4 hown4 hb4
    have HO4 : Hid (Own 5 w4 w2.heap.size v4 ((enc n ++ enc (zig k).toNat) ++ encL [s, ⟨#[]⟩, s] ++ more)) := by
      first | exact hown4 | (simp only [Hid, List.append_assoc] at hown4 ⊢; exact hown4)
    have HF4 := Lib.hid (HF3.out.trans (hb4.mono hs22))
    have hs4 := HF4.out.size
    clear hown4 hb4 HO3
    go_wp2_with fail
    refine (take_any v4 _ w4 HO4.out.rd (by have := HEL.out; rw [List.length_append, List.length_append, List.length_append, HEN.out, HEK.out]; omega)).mono ?_
    rintro e w5 ⟨v5, rfl, hown5, hb5⟩
    rw [Q1.out] at hown5 ⊢
    have HO5 := Lib.hid hown5
    have HF5 := Lib.hid (HF4.out.trans (hb5.mono hs4))
    have hs5 := HF5.out.size
    clear hown5 hb5 HO4 Q1
    go_wp2_with fail
    refine (takeInt_any v5 _ w5 HO5.out.rd (by have := HEL.out; rw [List.length_append, List.length_append, HEK.out]; omega)).mono ?_
    rintro e w6 ⟨v6, rfl, hown6, hb6⟩
    rw [Q2.out] at hown6 ⊢
    dsimp only
    rw [zag_zig]
    have HO6 := Lib.hid hown6
    have HF6 := Lib.hid (HF5.out.trans (hb6.mono hs5))
    have hs6 := HF6.out.size
    clear hown6 hb6 HO5 Q2
    go_wp2_with fail
    refine (takeList_any v6 _ 3 (s.size : Int) w6 HO6.out.rd (by omega) (by omega) (by omega) (by omega) (by have := HEL.out; rw [List.length_append]; omega)).mono ?_
    rintro e w7 ⟨vl, vr, rfl, hownl, hownr, hb7⟩
    rw [Q3.out] at hownl hownr ⊢
    have HOL := Lib.hid hownl
    have HOR := Lib.hid hownr
    have HF7 := Lib.hid (HF6.out.trans (hb7.mono hs6))
    have hs7 := HF7.out.size
    clear hownl hownr hb7 HO6 Q3
    go_wp2_with fail
    refine (alive_any w7).mono ?_
    rintro e w8 ⟨rfl, hb8⟩
    have HB8 := Lib.hid hb8
    have hs8 := hb8.size
    clear hb8
    go_wp2_with fail
    refine (strings_same vl _ [s, ⟨#[]⟩, s] w7.heap.size (w8.heap.size + 1) _ ((HOL.out.rd.below HB8.out).below ((Below.refl _ _).alloc hs8 _)) (RdS.three 9 w8 s ⟨#[]⟩ s) (by simp; omega) (by simp) (by simp)).mono ?_
    rintro e w9 ⟨rfl, hb9⟩
    have hb9' : Below w8.heap.size w8 w9 := ((Below.refl _ _).alloc (Nat.le_refl _) _).trans (hb9.mono (by simp))
    have HF9 := Lib.hid ((HF7.out.trans (HB8.out.mono hs7)).trans (hb9'.mono (by omega)))
    have hrr : Rd w7.heap.size w9 vr more := (HOR.out.rd.below HB8.out).below (hb9'.mono hs8)
    clear hb9 hb9'
    obtain ⟨Ar, cr, hvr, _, _⟩ := hrr.shape
    rw [hvr] at hrr ⊢
    have hrm := HM.out.below HF9.out
    have hst1 := run_string_rd 22 9 5 Try.underlying22 Try.underlying5 Try.underlying9 hrr
    have hst2 := run_string_rd 22 9 5 Try.underlying22 Try.underlying5 Try.underlying9 hrm
    clear hvr hrr hrm
    go_wp2
    go_ret
    exact ⟨rfl, HF9.out⟩
end Go.Proofs.Ytibapagfpadiiaa
