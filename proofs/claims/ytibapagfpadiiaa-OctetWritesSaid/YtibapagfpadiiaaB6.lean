/-
  OctetLimits: the walk.
-/
import Derived.Test.YtibapagfpadiiaaC2
namespace Go.Proofs.Ytibapagfpadiiaa
open Go.RowKit
set_option linter.unusedVariables false

/-- The lengths of strings, with 9 more for each, together. -/
def tot : List ByteArray → Nat
  | [] => 0
  | s :: r => s.size + 9 + tot r
/-- The length of the longest string. -/
def mx : List ByteArray → Nat
  | [] => 0
  | s :: r => max s.size (mx r)

theorem tot_append (a b : List ByteArray) : tot (a ++ b) = tot a + tot b := by
  induction a with
  | nil => simp [tot]
  | cons s r ih => simp only [List.cons_append, tot, ih]; omega
theorem mx_append (a b : List ByteArray) : mx (a ++ b) = max (mx a) (mx b) := by
  induction a with
  | nil => simp [mx]
  | cons s r ih => simp only [List.cons_append, mx, ih]; omega
theorem tot_take (ss : List ByteArray) (k : Nat) (h : k < ss.length) : tot (ss.take (k + 1)) = tot (ss.take k) + ss[k].size + 9 := by
  rw [List.take_succ_eq_append_getElem h, tot_append]; simp only [tot]; omega
theorem mx_take (ss : List ByteArray) (k : Nat) (h : k < ss.length) : mx (ss.take (k + 1)) = max (mx (ss.take k)) ss[k].size := by
  rw [List.take_succ_eq_append_getElem h, mx_append]; simp [mx]
theorem encs_tot (ss : List ByteArray) : (encs ss).length ≤ tot ss := by
  induction ss with
  | nil => simp [encs]
  | cons s r ih =>
    have h := encS_length s
    have h2 := wid_le s.size
    simp only [encs, tot, List.length_append]
    omega
theorem len_tot (ss : List ByteArray) : 9 * ss.length ≤ tot ss := by
  induction ss with
  | nil => simp
  | cons s r ih => simp only [tot, List.length_cons]; omega
theorem mx_tot (ss : List ByteArray) : mx ss ≤ tot ss := by
  induction ss with
  | nil => simp [mx]
  | cons s r ih => simp only [tot, mx]; omega
theorem le_mx (ss : List ByteArray) : ∀ s ∈ ss, s.size ≤ mx ss := by
  induction ss with
  | nil => intro s hs; cases hs
  | cons b r ih =>
    intro s hs
    simp only [mx]
    rcases List.mem_cons.1 hs with rfl | h
    · omega
    · have := ih s h; omega
theorem mx_big (ss : List ByteArray) (m : Nat) (h : m < mx ss) : ∃ s ∈ ss, m < s.size := by
  induction ss with
  | nil => simp [mx] at h
  | cons b r ih =>
    by_cases hb : m < b.size
    · exact ⟨b, by simp, hb⟩
    · obtain ⟨s, hs, h2⟩ := ih (by simp only [mx] at h; omega)
      exact ⟨s, by simp [hs], h2⟩

set_option maxRecDepth 100000 in
set_option maxHeartbeats 2000000 in
theorem limits_walk (vl : Value) (ss : List ByteArray) (many long : Int) (w : World) (hr : RdS w.heap.size w vl ss) (hs : ∀ s ∈ ss, s.size ≤ 140737488355328) (hlen : ss.length ≤ 140737488355328)
    (y0 : -9223372036854775808 ≤ many) (y1 : many ≤ 9223372036854775807) (m0 : -9223372036854775808 ≤ long) (m1 : long ≤ 9223372036854775807) :
    Calls Try.prog 8 #[vl, .int .i64 many, .int .i64 long] w (TrueStays w) := by
  obtain ⟨A, c, hv, _, _⟩ := hr.shape
  rw [hv] at hr ⊢
  have HR := Lib.hid hr
  have HS := Lib.hid hs
  clear hr hv hs
  go_enter Try.func8, Try.ntmps8
  go_wp2
  go_loop [7, 8, 9] (fun n m i => ∃ k T M : Nat, k ≤ ss.length ∧ i = .int .i64 k ∧ n = .int .i64 T ∧ m = .int .i64 M ∧ T ≤ 4000 ∧ M ≤ 4000 ∧ Hid (T = tot (ss.take k)) ∧ Hid (M = mx (ss.take k))) (fun _ _ i => ss.length - (intOf i).toNat)
  case atStart => exact ⟨0, 0, 0, Nat.zero_le _, rfl, rfl, rfl, by omega, by omega, rfl, rfl⟩
  case round =>
    obtain ⟨k, T, M, hk, rfl, rfl, rfl, hT, hM, HT, HM⟩ := hrel
    by_cases hlt : k < ss.length
    · obtain ⟨a, rfl, hcell⟩ := HR.out.at_ k hlt
      have hsz := HS.out ss[k] (List.getElem_mem hlt)
      have HT2 := Lib.hid (tot_take ss k hlt)
      have HM2 := Lib.hid (mx_take ss k hlt)
      generalize ss[k] = s at *
      by_cases hbig : 4000 < (T : Int) + (s.size : Int) + 9
      · go_wp2_with fail
        refine (alive_any w).mono ?_
        rintro e w1 ⟨rfl, hb1⟩
        go_wp2
        go_ret
        exact ⟨rfl, hb1⟩
      · have hbig2 : (T : Int) + (s.size : Int) + 9 ≤ 4000 := by omega
        clear hbig
        go_wp2
        go_round
        case rel => exact ⟨k + 1, T + s.size + 9, max M s.size, by omega, by go_num, by go_num, by go_num, by omega, by omega, by unfold Hid; rw [HT2.out, ← HT.out], by unfold Hid; rw [HM2.out, ← HM.out]⟩
        case measure => simp [intOf]; omega
    · obtain rfl : k = ss.length := by omega
      have HT2 : Hid (T = tot ss) := by unfold Hid; rw [HT.out, List.take_length]
      have HM2 : Hid (M = mx ss) := by unfold Hid; rw [HM.out, List.take_length]
      clear HT HM
      have he : (encs ss).length ≤ 4000 := by have := encs_tot ss; have := HT2.out; omega
      have hl : ss.length ≤ 4000 := by have := len_tot ss; have := HT2.out; omega
      have hel : (encL ss).length ≤ 4020 := by
        have h1 := enc_length ss.length
        have h2 := wid_le ss.length
        unfold encL
        rw [List.length_append]
        omega
      have HE := Lib.hid he
      have HEL := Lib.hid hel
      clear he hel
      go_wp2_with fail
      refine (list_any _ _ [] ss w (Rd.nil _ _) HR.out (by have := HE.out; simp; omega) (by omega)).mono ?_
      rintro e w1 ⟨v1, rfl, hown1, hb1⟩
      rw [List.nil_append] at hown1
      have HO1 := Lib.hid hown1
      have HF1 := Lib.hid hb1
      have hs1 := hb1.size
      clear hown1 hb1
      go_wp2_with fail
      refine (takeList_any v1 (encL ss) many long w1 HO1.out.rd y0 y1 m0 m1 (by have := HEL.out; omega)).mono ?_
      rintro e w2 ⟨vx, vr, rfl, hownx, hownr, hb2⟩
      have hsz : ∀ s ∈ ss, s.size < 18446744073709551616 := fun s hs => by have := HS.out s hs; omega
      have hrw : encL ss = encL ss ++ [] := by rw [List.append_nil]
      by_cases h1 : max many 0 < (ss.length : Int)
      · rw [hrw, takeL_many ss [] many long (by omega) h1] at hownx hownr ⊢
        have HOX := Lib.hid hownx
        have HF2 := Lib.hid (HF1.out.trans (hb2.mono hs1))
        have hs2 := HF2.out.size
        clear hownx hownr hb2 hsz hrw
        obtain ⟨Ax, cx, hvx, _, _⟩ := HOX.out.rd.shape
        rw [hvx]
        clear hvx HOX
        go_wp2_with fail
        refine (alive_any w2).mono ?_
        rintro e w3 ⟨rfl, hb3⟩
        have HF3 := Lib.hid (HF2.out.trans (hb3.mono hs2))
        clear hb3
        go_wp2
        go_ret
        exact ⟨rfl, HF3.out⟩
      · have h1' : (ss.length : Int) ≤ max many 0 := by omega
        by_cases h2 : max long 0 < (M : Int)
        · have hbig : ∃ s ∈ ss, max long 0 < (s.size : Int) := by
            obtain ⟨s, hs, h⟩ := mx_big ss (max long 0).toNat (by have := HM2.out; omega)
            exact ⟨s, hs, by omega⟩
          rw [hrw, takeL_big ss [] many long (by omega) h1' hsz hbig] at hownx hownr ⊢
          have HOX := Lib.hid hownx
          have HF2 := Lib.hid (HF1.out.trans (hb2.mono hs1))
          have hs2 := HF2.out.size
          clear hownx hownr hb2 hsz hrw hbig h1
          obtain ⟨Ax, cx, hvx, _, _⟩ := HOX.out.rd.shape
          rw [hvx]
          clear hvx HOX
          go_wp2_with fail
          refine (alive_any w2).mono ?_
          rintro e w3 ⟨rfl, hb3⟩
          have HF3 := Lib.hid (HF2.out.trans (hb3.mono hs2))
          clear hb3
          go_wp2
          go_ret
          exact ⟨rfl, HF3.out⟩
        · have hall : ∀ s ∈ ss, s.size < 18446744073709551616 ∧ (s.size : Int) ≤ max long 0 := fun s hs => ⟨hsz s hs, by have := le_mx ss s hs; have := HM2.out; omega⟩
          rw [hrw, takeL_enc ss [] many long (by omega) h1' hall] at hownx hownr ⊢
          have HOX := Lib.hid hownx
          have HOR := Lib.hid hownr
          have HF2 := Lib.hid (HF1.out.trans (hb2.mono hs1))
          have hs2 := HF2.out.size
          have h2' : (M : Int) ≤ max long 0 := by omega
          clear hownx hownr hb2 hsz hrw hall h1 h2
          obtain ⟨Ar, cr, hvr, _, _⟩ := HOR.out.rd.shape
          rw [hvr]
          clear hvr HOR
          go_wp2_with fail
          refine (alive_any w2).mono ?_
          rintro e w3 ⟨rfl, hb3⟩
          have HB3 := Lib.hid hb3
          have HF3 := Lib.hid (HF2.out.trans (hb3.mono hs2))
          have hs3 := hb3.size
          clear hb3
          go_wp2_with fail
          refine (strings_same vx _ ss w2.heap.size w.heap.size w3 (HOX.out.rd.below HB3.out) (HR.out.below HF3.out) hs3 HF3.out.size (by omega)).mono ?_
          rintro e w4 ⟨rfl, hb4⟩
          have HF4 := Lib.hid (HF3.out.trans (hb4.mono HF3.out.size))
          clear hb4
          go_wp2
          go_ret
          exact ⟨rfl, HF4.out⟩
end Go.Proofs.Ytibapagfpadiiaa
