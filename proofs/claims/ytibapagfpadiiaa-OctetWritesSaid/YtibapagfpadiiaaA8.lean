/-
  What octet.TakeInt, octet.above, octet.cutText and octet.TakeText answer for every byte slice that is read and every limit: the number with a sign or the string ahead, what is left, or the error.
-/
import Derived.Test.YtibapagfpadiiaaA7
namespace Go.Proofs.Ytibapagfpadiiaa
open Go.RowKit
set_option linter.unusedVariables false

/-- The number with a sign that a number of 64 bits says. -/
def zag (u : Nat) : Int := if u % 2 = 1 then -((u / 2 : Nat) : Int) - 1 else ((u / 2 : Nat) : Int)

theorem takeN_lt (l : List UInt8) : (takeN l).1 < 18446744073709551616 := by
  by_cases h : (takeN l).2.2 = 0
  · have h2 : takeN l = ((takeN l).1, (takeN l).2.1, 0) := by rw [← h]
    exact (takeN_only l _ _ h2).2
  · cases l with
    | nil => simp [takeN]
    | cons k t =>
      revert h
      rw [takeN]
      split
      · simp
      · split
        · simp
        · simp

/-- The call answers a number with a sign, a slice of its own that holds what is left, and an error. -/
def TakesI (r : Nat × List UInt8 × Nat) (w : World) (e : Ending) (w' : World) : Prop :=
  ∃ vr, e = .returned (.tuple #[.int .i64 (zag r.1), vr, .int .i64 (r.2.2 : Int)]) ∧ Own 5 w' w.heap.size vr r.2.1 ∧ Below w.heap.size w w'

theorem ret3_int {k : IntKind} {a b : Int} {x y : Value} (h : a = b) : Ending.returned (.tuple #[.int k a, x, y]) = .returned (.tuple #[.int k b, x, y]) := by rw [h]

set_option maxHeartbeats 400000 in
theorem takeInt_any (v : Value) (l : List UInt8) (w : World) (hr : Rd w.heap.size w v l) (hl : l.length ≤ 140737488355328) : Calls Try.prog 26 #[v] w (TakesI (takeN l) w) := by
  have hn := takeN_lt l
  have HR := Lib.hid hr
  clear hr
  go_enter Try.func26, Try.ntmps26
  go_wp2_with fail
  refine (take_any v l w HR.out hl).mono ?_
  rintro e w1 ⟨v1, rfl, hown1, hb1⟩
  generalize takeN l = r at *
  obtain ⟨n, rest, er⟩ := r
  have hn2 : (n : Int) ≤ 18446744073709551615 := by have h : n < 18446744073709551616 := hn; omega
  have HO1 := Lib.hid hown1
  have HB1 := Lib.hid hb1
  clear hown1 hb1 hn
  by_cases hodd : n % 2 = 1
  · have ho : (((n : Int) % 2) == 1) = true := by simp; omega
    have hz : zag n = -((n : Int) / 2) - 1 := by unfold zag; rw [if_pos hodd]; omega
    have HZ := Lib.hid hz
    clear hz
    go_wp2
    go_ret3
    exact ⟨v1, ret3_int HZ.out.symm, HO1.out, HB1.out⟩
  · have ho : (((n : Int) % 2) == 1) = false := by simp; omega
    have hz : zag n = (n : Int) / 2 := by unfold zag; rw [if_neg hodd]; omega
    have HZ := Lib.hid hz
    clear hz
    go_wp2
    go_ret3
    exact ⟨v1, ret3_int HZ.out.symm, HO1.out, HB1.out⟩

set_option maxHeartbeats 400000 in
theorem above_any (x m : Int) (w : World) (h0 : 0 ≤ x) (h1 : x ≤ 18446744073709551615) (m0 : -9223372036854775808 ≤ m) (m1 : m ≤ 9223372036854775807) :
    Calls Try.prog 38 #[.int .u64 x, .int .i64 m] w fun e w' => e = .returned (.bool (decide (max m 0 < x))) ∧ w = w' := by
  go_enter Try.func38, Try.ntmps38
  go_wp2
  go_ret
  exact ⟨rfl, rfl⟩

theorem above_yes (x m : Int) (w : World) (h0 : 0 ≤ x) (h1 : x ≤ 18446744073709551615) (m0 : -9223372036854775808 ≤ m) (m1 : m ≤ 9223372036854775807) (h : max m 0 < x) :
    Calls Try.prog 38 #[.int .u64 x, .int .i64 m] w fun e w' => e = .returned (.bool true) ∧ w = w' := by
  refine (above_any x m w h0 h1 m0 m1).mono ?_
  rintro e w' ⟨rfl, rfl⟩
  exact ⟨by rw [decide_eq_true h], rfl⟩
theorem above_no (x m : Int) (w : World) (h0 : 0 ≤ x) (h1 : x ≤ 18446744073709551615) (m0 : -9223372036854775808 ≤ m) (m1 : m ≤ 9223372036854775807) (h : x ≤ max m 0) :
    Calls Try.prog 38 #[.int .u64 x, .int .i64 m] w fun e w' => e = .returned (.bool false) ∧ w = w' := by
  refine (above_any x m w h0 h1 m0 m1).mono ?_
  rintro e w' ⟨rfl, rfl⟩
  exact ⟨by rw [decide_eq_false (by omega)], rfl⟩

/-- What a string is taken of: its bytes, what is left, and the error: 5 large. -/
def takeS (l : List UInt8) (most : Int) : List UInt8 × List UInt8 × Nat :=
  if (takeN l).2.2 ≠ 0 then ([], [], (takeN l).2.2)
  else if max most 0 < ((takeN l).1 : Int) then ([], [], 5)
  else if (takeN l).2.1.length < (takeN l).1 then ([], [], 2)
  else ((takeN l).2.1.take (takeN l).1, (takeN l).2.1.drop (takeN l).1, 0)

/-- The call answers a string, a slice that reads as what is left, and an error; what was there stays. -/
def CutS (B : Nat) (r : List UInt8 × List UInt8 × Nat) (w : World) (e : Ending) (w' : World) : Prop :=
  ∃ vr, e = .returned (.tuple #[.string ⟨r.1.toArray⟩, vr, .int .i64 (r.2.2 : Int)]) ∧ Rd B w' vr r.2.1 ∧ Below w.heap.size w w'

theorem Rd.take {B : Nat} {w : World} {a : Addr} {n c : Nat} {l : List UInt8} (h : Rd B w (.slice (some a) n c) l) (m : Nat) (hm : m ≤ n) : Rd B w (.slice (some a) m c) (l.take m) := by
  obtain ⟨A, c', hv, hc, hmx, hn, hcell⟩ := h
  injection hv with h1 h2 h3
  subst h1 h2 h3
  have hl : (l.take m).length = m := by rw [List.length_take]; omega
  refine ⟨some a, c, by rw [hl], by omega, hmx, fun h => (by cases h), fun x hx => ⟨fun h0 => ?_, fun j hj => ?_⟩⟩
  · cases hx
    exact (hcell a rfl).1 (by omega)
  · cases hx
    rw [(hcell a rfl).2 j (by omega)]
    simp

theorem takeS_err {l : List UInt8} {n : Nat} {rest : List UInt8} {er : Nat} (m : Int) (h : takeN l = (n, rest, er)) (he : er ≠ 0) : takeS l m = ([], [], er) := by
  unfold takeS; rw [h, if_pos he]
theorem takeS_large {l : List UInt8} {n : Nat} {rest : List UInt8} {m : Int} (h : takeN l = (n, rest, 0)) (hm : max m 0 < (n : Int)) : takeS l m = ([], [], 5) := by
  unfold takeS; rw [h, if_neg (by simp), if_pos hm]
theorem takeS_short {l : List UInt8} {n : Nat} {rest : List UInt8} {m : Int} (h : takeN l = (n, rest, 0)) (hm : (n : Int) ≤ max m 0) (hs : rest.length < n) : takeS l m = ([], [], 2) := by
  unfold takeS; rw [h, if_neg (by simp), if_neg (show ¬ max m 0 < (n : Int) by omega), if_pos hs]
theorem takeS_ok {l : List UInt8} {n : Nat} {rest : List UInt8} {m : Int} (h : takeN l = (n, rest, 0)) (hm : (n : Int) ≤ max m 0) (hs : ¬ rest.length < n) : takeS l m = (rest.take n, rest.drop n, 0) := by
  unfold takeS; rw [h, if_neg (by simp), if_neg (show ¬ max m 0 < (n : Int) by omega), if_neg hs]

set_option maxHeartbeats 1000000 in
theorem cutText_any (v : Value) (l : List UInt8) (m : Int) (B : Nat) (w : World) (hr : Rd B w v l) (hB : B ≤ w.heap.size) (m0 : -9223372036854775808 ≤ m) (m1 : m ≤ 9223372036854775807) :
    Calls Try.prog 37 #[v, .int .i64 m] w (CutS B (takeS l m) w) := by
  have hn := takeN_lt l
  have HR := Lib.hid hr
  clear hr
  go_enter Try.func37, Try.ntmps37
  go_wp2_with fail
  refine (cutNumber_any v l B w HR.out hB).mono ?_
  rintro e w1 ⟨v1, rfl, hr1, hb1⟩
  generalize hT : takeN l = r at *
  obtain ⟨n, rest, er⟩ := r
  have hn2 : (n : Int) ≤ 18446744073709551615 := by have h : n < 18446744073709551616 := hn; omega
  have hr1' : Rd B w1 v1 rest := hr1
  have HR1 := Lib.hid hr1'
  have HB1 := Lib.hid hb1
  have HT := Lib.hid hT
  clear hr1 hr1' hb1 hn hT
  by_cases he : er = 0
  · subst he
    by_cases hab : max m 0 < (n : Int)
    · have HS := Lib.hid (takeS_large HT.out hab)
      go_wp2_with fail
      refine (above_yes (n : Int) m w1 (by omega) hn2 m0 m1 hab).mono ?_
      rintro e w2 ⟨rfl, rfl⟩
      go_wp2
      go_ret3
      rw [HS.out]
      exact ⟨_, rfl, Rd.nil _ _, HB1.out⟩
    · have hab2 : (n : Int) ≤ max m 0 := by omega
      have HAB := Lib.hid hab2
      clear hab hab2
      obtain ⟨A1, c1, hv1, hc1, hm1⟩ := HR1.out.shape
      unfold maxLen at hm1
      rw [hv1] at HR1 ⊢
      clear hv1
      go_wp2_with fail
      refine (above_no (n : Int) m w1 (by omega) hn2 m0 m1 HAB.out).mono ?_
      rintro e w2 ⟨rfl, rfl⟩
      by_cases hsh : rest.length < n
      · have HS := Lib.hid (takeS_short HT.out HAB.out hsh)
        go_wp2
        go_ret3
        rw [HS.out]
        exact ⟨_, rfl, Rd.nil _ _, HB1.out⟩
      · have HS := Lib.hid (takeS_ok HT.out HAB.out hsh)
        cases A1 with
        | none =>
          obtain ⟨A', c', hv', h1', h2', h3', _⟩ := HR1.out
          injection hv' with e1 e2 e3
          subst e1 e3
          have hc0 := h3' rfl
          subst hc0
          have hr0 : rest = [] := List.eq_nil_of_length_eq_zero (by omega)
          subst hr0
          have hn0 : n = 0 := by simp at hsh; exact hsh
          subst hn0
          have hst : ∀ nq, (convert 22 9 (.slice none 0 0)).run Try.prog (w1.drewN nq) = .ok (.string ⟨#[]⟩) (w1.drewN nq) := fun nq => run_string_rd (l := []) 22 9 5 Try.underlying22 Try.underlying5 Try.underlying9 (Rd.nil B (w1.drewN nq))
          go_wp2
          go_quiet (fail)
          go_wp2
          go_ret3
          rw [HS.out]
          exact ⟨_, rfl, Rd.nil _ _, HB1.out.trans (below_drewN _ _ _)⟩
        | some a =>
          have hst : ∀ nq, (convert 22 9 (.slice (some a) n c1)).run Try.prog (w1.drewN nq) = .ok (.string ⟨(rest.take n).toArray⟩) (w1.drewN nq) := fun nq => run_string_rd (w := w1.drewN nq) 22 9 5 Try.underlying22 Try.underlying5 Try.underlying9 (HR1.out.take n (by omega))
          have hdr := HR1.out.drop n (by omega)
          by_cases hcn : c1 = n
          · subst hcn
            rw [if_pos rfl, Nat.sub_self, show rest.length - c1 = 0 by omega] at hdr
            have HD := Lib.hid hdr
            clear hdr
            go_wp2
            go_quiet (fail)
            go_wp2
            go_ret3
            rw [HS.out]
            exact ⟨_, rfl, HD.out, HB1.out.trans (below_drewN _ _ _)⟩
          · rw [if_neg hcn] at hdr
            have HD := Lib.hid hdr
            clear hdr
            go_wp2
            go_quiet (fail)
            go_wp2
            go_ret3
            rw [HS.out]
            exact ⟨_, rfl, HD.out, HB1.out.trans (below_drewN _ _ _)⟩
  · have he1 : ((er : Int) != 0) = true := by simp; omega
    have HS := Lib.hid (takeS_err m HT.out he)
    go_wp2
    go_ret3
    rw [HS.out]
    exact ⟨_, rfl, Rd.nil _ _, HB1.out⟩

/-- The call answers a string, a slice of its own that holds what is left, and an error. -/
def TakesS (r : List UInt8 × List UInt8 × Nat) (w : World) (e : Ending) (w' : World) : Prop :=
  ∃ vr, e = .returned (.tuple #[.string ⟨r.1.toArray⟩, vr, .int .i64 (r.2.2 : Int)]) ∧ Own 5 w' w.heap.size vr r.2.1 ∧ Below w.heap.size w w'

theorem takeS_rest (l : List UInt8) (m : Int) : (takeS l m).2.1.length ≤ l.length := by
  have h := takeN_rest l
  unfold takeS
  split
  · simp
  · split
    · simp
    · split
      · simp
      · simp only [List.length_drop]; omega

set_option maxHeartbeats 400000 in
theorem takeText_any (v : Value) (l : List UInt8) (m : Int) (w : World) (hr : Rd w.heap.size w v l) (m0 : -9223372036854775808 ≤ m) (m1 : m ≤ 9223372036854775807) (hl : l.length ≤ 140737488355328) :
    Calls Try.prog 22 #[v, .int .i64 m] w (TakesS (takeS l m) w) := by
  have hrest := takeS_rest l m
  have HR := Lib.hid hr
  clear hr
  go_enter Try.func22, Try.ntmps22
  go_wp2_with fail
  refine (cutText_any v l m w.heap.size w HR.out (Nat.le_refl _) m0 m1).mono ?_
  rintro e w1 ⟨v1, rfl, hr1, hb1⟩
  generalize takeS l m = r at *
  obtain ⟨s, rest, er⟩ := r
  have hrest2 : rest.length ≤ l.length := hrest
  clear hrest
  have HR1 := Lib.hid hr1
  have HB1 := Lib.hid hb1
  have hsz := hb1.size
  clear hr1 hb1
  go_wp2_with fail
  refine (detached_any v1 rest w1 (HR1.out.more hsz) (by omega)).mono ?_
  rintro e w2 ⟨v2, rfl, hown2, hb2⟩
  have HO2 := Lib.hid hown2
  have HB2 := Lib.hid hb2
  clear hown2 hb2
  go_wp2
  go_ret3
  exact ⟨v2, rfl, HO2.out.base hsz, HB1.out.trans (HB2.out.mono hsz)⟩
end Go.Proofs.Ytibapagfpadiiaa
