/-
  What octet.TakeList answers for every byte slice of at most 2^40 bytes that is read and all limits: the strings ahead, what is left, or the error.
-/
import Derived.Test.YtibapagfpadiiaaA8
namespace Go.Proofs.Ytibapagfpadiiaa
open Go.RowKit
set_option linter.unusedVariables false

theorem info9 : (Try.prog.info? 9).map (fun i => (i.zero, i.size, i.bytes)) = some (some (.string ⟨#[]⟩), 1, 16) := by kernel_rfl

/-- k strings, one behind the other: the strings, what is left, and the first error. -/
def takeK : Nat → List UInt8 → Int → List ByteArray × List UInt8 × Nat
  | 0, l, _ => ([], l, 0)
  | k + 1, l, m =>
    if (takeS l m).2.2 ≠ 0 then ([], [], (takeS l m).2.2)
    else if (takeK k (takeS l m).2.1 m).2.2 ≠ 0 then ([], [], (takeK k (takeS l m).2.1 m).2.2)
    else (⟨(takeS l m).1.toArray⟩ :: (takeK k (takeS l m).2.1 m).1, (takeK k (takeS l m).2.1 m).2.1, 0)

/-- What a list is taken of. -/
def takeL (l : List UInt8) (many most : Int) : List ByteArray × List UInt8 × Nat :=
  if (takeN l).2.2 ≠ 0 then ([], [], (takeN l).2.2)
  else if max many 0 < ((takeN l).1 : Int) then ([], [], 5)
  else takeK (takeN l).1 (takeN l).2.1 most

/-- What was taken so far, ahead of what is still taken. -/
def pre (acc : List ByteArray) (r : List ByteArray × List UInt8 × Nat) : List ByteArray × List UInt8 × Nat :=
  if r.2.2 ≠ 0 then ([], [], r.2.2) else (acc ++ r.1, r.2.1, 0)

theorem takeK_err (k : Nat) (l : List UInt8) (m : Int) (h : (takeK k l m).2.2 ≠ 0) : takeK k l m = ([], [], (takeK k l m).2.2) := by
  cases k with
  | zero => simp [takeK] at h
  | succ k =>
    revert h
    rw [takeK]
    split
    · simp
    · split
      · simp
      · simp

theorem pre_nil (k : Nat) (l : List UInt8) (m : Int) : pre [] (takeK k l m) = takeK k l m := by
  unfold pre
  by_cases h : (takeK k l m).2.2 = 0
  · rw [if_neg (by simp [h]), List.nil_append, ← h]
  · rw [if_pos h, ← takeK_err k l m h]

theorem pre_step (acc : List ByteArray) (k : Nat) (l s r : List UInt8) (m : Int) (h : takeS l m = (s, r, 0)) : pre acc (takeK (k + 1) l m) = pre (acc ++ [⟨s.toArray⟩]) (takeK k r m) := by
  unfold pre
  rw [takeK, h]
  simp only [ne_eq, not_true_eq_false, if_false]
  by_cases h2 : (takeK k r m).2.2 = 0
  · simp [h2]
  · simp [h2]

theorem pre_stop (acc : List ByteArray) (k : Nat) (l : List UInt8) (m : Int) (h : (takeS l m).2.2 ≠ 0) : pre acc (takeK (k + 1) l m) = ([], [], (takeS l m).2.2) := by
  unfold pre
  rw [takeK, if_pos h]
  simp [h]

theorem takeN_used (l : List UInt8) (h : (takeN l).2.2 = 0) : (takeN l).2.1.length + 1 ≤ l.length := by
  have h2 : takeN l = ((takeN l).1, (takeN l).2.1, 0) := by rw [← h]
  have h3 := (takeN_only l _ _ h2).1
  have h4 := congrArg List.length h3
  rw [List.length_append, enc_length] at h4
  omega

theorem takeS_used (l s r : List UInt8) (m : Int) (h : takeS l m = (s, r, 0)) : r.length + 1 ≤ l.length := by
  unfold takeS at h
  by_cases he : (takeN l).2.2 = 0
  · have hu := takeN_used l he
    rw [if_neg (by simp [he])] at h
    split at h
    · simp at h
    · split at h
      · simp at h
      · injection h with h1 h2
        injection h2 with h2 h3
        rw [← h2, List.length_drop]
        omega
  · rw [if_pos he] at h
    injection h with h1 h2
    injection h2 with h2 h3
    exact absurd h3 he

theorem takeL_err {l : List UInt8} {n : Nat} {rest : List UInt8} {er : Nat} (many most : Int) (h : takeN l = (n, rest, er)) (he : er ≠ 0) : takeL l many most = ([], [], er) := by
  unfold takeL; rw [h, if_pos he]
theorem takeL_large {l : List UInt8} {n : Nat} {rest : List UInt8} {many : Int} (most : Int) (h : takeN l = (n, rest, 0)) (hm : max many 0 < (n : Int)) : takeL l many most = ([], [], 5) := by
  unfold takeL; rw [h, if_neg (by simp), if_pos hm]
theorem takeL_ok {l : List UInt8} {n : Nat} {rest : List UInt8} {many : Int} (most : Int) (h : takeN l = (n, rest, 0)) (hm : (n : Int) ≤ max many 0) : takeL l many most = takeK n rest most := by
  unfold takeL; rw [h, if_neg (by simp), if_neg (show ¬ max many 0 < (n : Int) by omega)]

/-- The call answers strings, a slice of its own that holds what is left, and an error. -/
def TakesL (r : List ByteArray × List UInt8 × Nat) (w : World) (e : Ending) (w' : World) : Prop :=
  ∃ vl vr, e = .returned (.tuple #[vl, vr, .int .i64 (r.2.2 : Int)]) ∧ OwnS 9 w' w.heap.size vl r.1 ∧ Own 5 w' w.heap.size vr r.2.1 ∧ Below w.heap.size w w'

set_option maxHeartbeats 1000000 in
theorem takeList_any (v : Value) (l : List UInt8) (many m : Int) (w : World) (hr : Rd w.heap.size w v l) (y0 : -9223372036854775808 ≤ many) (y1 : many ≤ 9223372036854775807) (m0 : -9223372036854775808 ≤ m) (m1 : m ≤ 9223372036854775807) (hl : l.length ≤ 1099511627776) :
    Calls Try.prog 24 #[v, .int .i64 many, .int .i64 m] w (TakesL (takeL l many m) w) := by
  obtain ⟨i0, hi, hz0, hz1, hz2⟩ := info_parts info9
  have hn := takeN_lt l
  have hrest := takeN_rest l
  have HR := Lib.hid hr
  clear hr
  go_enter Try.func24, Try.ntmps24
  go_wp2_with fail
  refine (cutNumber_any v l w.heap.size w HR.out (Nat.le_refl _)).mono ?_
  rintro e w1 ⟨v1, rfl, hr1, hb1⟩
  generalize hT : takeN l = r at *
  obtain ⟨n, rest, er⟩ := r
  have hn2 : (n : Int) ≤ 18446744073709551615 := by have h : n < 18446744073709551616 := hn; omega
  have hrest2 : rest.length ≤ l.length := hrest
  have hr1' : Rd w.heap.size w1 v1 rest := hr1
  have HR1 := Lib.hid hr1'
  have HB1 := Lib.hid hb1
  have HT := Lib.hid hT
  have hs1 := hb1.size
  clear hr1 hr1' hb1 hn hT hrest
  by_cases he : er = 0
  · subst he
    by_cases hab : max many 0 < (n : Int)
    · have HS := Lib.hid (takeL_large m HT.out hab)
      go_wp2_with fail
      refine (above_yes (n : Int) many w1 (by omega) hn2 y0 y1 hab).mono ?_
      rintro e w2 ⟨rfl, rfl⟩
      go_wp2
      go_ret3
      rw [HS.out]
      exact ⟨_, _, rfl, OwnS.nil _ _ _, Own.nil _ _ _, HB1.out⟩
    · have hab2 : (n : Int) ≤ max many 0 := by omega
      have HAB := Lib.hid hab2
      clear hab hab2
      have HS := Lib.hid (takeL_ok m HT.out HAB.out)
      go_wp2_with fail
      refine (above_no (n : Int) many w1 (by omega) hn2 y0 y1 HAB.out).mono ?_
      rintro e w2 ⟨rfl, rfl⟩
      go_wp2
      go_loopw [10, 11, 12, 13, 27] (fun vr er vl _ i wr => ∃ k : Nat, k ≤ n ∧ i = .int .u64 k ∧ ∃ (acc : List ByteArray) (r : List UInt8), er = .int .i64 0 ∧ acc.length + r.length ≤ rest.length ∧ Hid (takeK n rest m = pre acc (takeK (n - k) r m)) ∧
          Hid (Rd w.heap.size wr vr r) ∧ Hid (OwnS 9 wr w.heap.size vl acc) ∧ Hid (Below w.heap.size w wr)) (fun _ _ _ _ i _ => n - (intOf i).toNat)
      case atStart => exact ⟨0, Nat.zero_le _, rfl, [], rest, rfl, by simp, (pre_nil _ _ _).symm, HR1, OwnS.nil _ _ _, HB1⟩
      case round =>
        obtain ⟨k, hk, rfl, acc, r, rfl, hlen, HK, HRr, HO, HB⟩ := hrel
        have hsz := HB.out.size
        by_cases hlt : k < n
        · have hlt2 : decide ((k : Int) < (n : Int)) = true := by simp; omega
          go_wp2_with fail
          refine (cutText_any u10 r m w.heap.size wr HRr.out hsz m0 m1).mono ?_
          rintro e w3 ⟨v3, rfl, hr3, hb3⟩
          generalize hq : takeS r m = q at *
          obtain ⟨s, r', er'⟩ := q
          have hr3' : Rd w.heap.size w3 v3 r' := hr3
          have HR3 := Lib.hid hr3'
          have HB3 := Lib.hid hb3
          have HQ := Lib.hid hq
          have hs3 := hb3.size
          clear hr3 hr3' hb3 hq
          have ek : n - k = (n - (k + 1)) + 1 := by omega
          have HE := Lib.hid ek
          clear ek
          by_cases he3 : er' = 0
          · subst he3
            have hu := takeS_used _ _ _ _ HQ.out
            have hK2 : takeK n rest m = pre (acc ++ [⟨s.toArray⟩]) (takeK (n - (k + 1)) r' m) := by rw [HK.out, HE.out, pre_step _ _ _ _ _ _ HQ.out]
            have HK2 := Lib.hid hK2
            clear hK2
            go_wp2_with (at_builtin; refine wpList_app1S rfl _ _ 24 rfl 9 i0 Try.underlying24 hi hz0 hz1 hz2 w.heap.size u12 acc ⟨s.toArray⟩ ⟨w3.heap.size, 0, none⟩ rfl ((HO.out.below HB3.out (Nat.le_refl _)).alloc _) rfl ?d1 ?d2 ?d3 ?_)
            case d1 => simp
            case d2 => omega
            case d3 => simp; omega
            intro v4 w4 hown4 hb4
            have HO4 := Lib.hid hown4
            have hb4' : Below w.heap.size w3 w4 := ((Below.refl _ _).alloc (by omega) _).trans hb4
            have HR4 := Lib.hid (HR3.out.below hb4')
            have HB4 : Hid (Below w.heap.size w w4) := (HB.out.trans (HB3.out.mono hsz)).trans hb4'
            clear hown4 hb4 hb4'
            go_wp2
            go_roundw
            case rel => exact ⟨k + 1, by omega, by go_num, acc ++ [⟨s.toArray⟩], r', rfl, by simp only [List.length_append, List.length_cons, List.length_nil]; omega, HK2, HR4, HO4, HB4⟩
            case measure => simp [intOf]; omega
          · have he4 : ((er' : Int) != 0) = true := by simp; omega
            have hK2 : takeK n rest m = ([], [], er') := by
              have h : (takeS r m).2.2 ≠ 0 := by rw [HQ.out]; exact he3
              rw [HK.out, HE.out, pre_stop _ _ _ _ h, HQ.out]
            have HK2 := Lib.hid hK2
            clear hK2
            go_wp2
            go_ret3
            rw [HS.out, HK2.out]
            exact ⟨_, _, rfl, OwnS.nil _ _ _, Own.nil _ _ _, HB.out.trans (HB3.out.mono hsz)⟩
        · obtain rfl : k = n := by omega
          have hK2 : takeK k rest m = (acc, r, 0) := by
            rw [HK.out, Nat.sub_self]
            simp [pre, takeK]
          have HK2 := Lib.hid hK2
          clear hK2
          go_wp2_with fail
          refine (detached_any u10 r wr (HRr.out.more hsz) (by omega)).mono ?_
          rintro e w3 ⟨v3, rfl, hown3, hb3⟩
          have HO3 := Lib.hid hown3
          have HB3 := Lib.hid hb3
          clear hown3 hb3
          go_wp2
          go_ret3
          rw [HS.out, HK2.out]
          exact ⟨_, _, rfl, HO.out.below HB3.out (Nat.le_refl _), HO3.out.base hsz, HB.out.trans (HB3.out.mono hsz)⟩
  · have he1 : ((er : Int) != 0) = true := by simp; omega
    have HS := Lib.hid (takeL_err many m HT.out he)
    go_wp2
    go_ret3
    rw [HS.out]
    exact ⟨_, _, rfl, OwnS.nil _ _ _, Own.nil _ _ _, HB1.out⟩
end Go.Proofs.Ytibapagfpadiiaa
