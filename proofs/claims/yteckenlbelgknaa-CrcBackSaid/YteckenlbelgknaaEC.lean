/-
  What octet.listSize and octet.List answer, for every slice of strings that is read and every byte slice, while the lengths stay below 2^47: how many bytes the encoding has, and the bytes followed by it, in memory of the call's own.
  What octet.TakeInt, octet.above, octet.cutText and octet.TakeText answer for every byte slice that is read and every limit: the number with a sign or the string ahead, what is left, or the error.
  What octet.TakeList answers for every byte slice of at most 2^40 bytes that is read and all limits: the strings ahead, what is left, or the error.
-/
import Derived.Test.YteckenlbelgknaaCC
import Derived.Test.YteckenlbelgknaaEB
namespace Go.Proofs.Yteckenlbelgknaa
open Go.RowKit
set_option linter.unusedVariables false

end Go.Proofs.Yteckenlbelgknaa

namespace Go.Proofs.Yteckenlbelgknaa
open Go.RowKit
set_option linter.unusedVariables false

/-- The number with a sign that a number of 64 bits says. -/
def zag (u : Nat) : Int := if u % 2 = 1 then -((u / 2 : Nat) : Int) - 1 else ((u / 2 : Nat) : Int)

theorem takeN_lt (l : List UInt8) : (takeN l).1 < 18446744073709551616 := by
  by_cases h : (takeN l).2.2 = 0
  · have h2 : takeN l = ((takeN l).1, (takeN l).2.1, 0) := by rw [← h]
    exact (takeN_only l _ _ h2).2
  · cases l with
    | nil => simp [takeN]
    | cons k t =>
      revert h
      rw [takeN]
      split
      · simp
      · split
        · simp
        · simp

/-- The call answers a number with a sign, a slice of its own that holds what is left, and an error. -/
def TakesI (r : Nat × List UInt8 × Nat) (w : World) (e : Ending) (w' : World) : Prop :=
  ∃ vr, e = .returned (.tuple #[.int .i64 (zag r.1), vr, .int .i64 (r.2.2 : Int)]) ∧ Own 5 w' w.heap.size vr r.2.1 ∧ Below w.heap.size w w'

theorem ret3_int {k : IntKind} {a b : Int} {x y : Value} (h : a = b) : Ending.returned (.tuple #[.int k a, x, y]) = .returned (.tuple #[.int k b, x, y]) := by rw [h]

/-- What a string is taken of: its bytes, what is left, and the error: 5 large. -/
def takeS (l : List UInt8) (most : Int) : List UInt8 × List UInt8 × Nat :=
  if (takeN l).2.2 ≠ 0 then ([], [], (takeN l).2.2)
  else if max most 0 < ((takeN l).1 : Int) then ([], [], 5)
  else if (takeN l).2.1.length < (takeN l).1 then ([], [], 2)
  else ((takeN l).2.1.take (takeN l).1, (takeN l).2.1.drop (takeN l).1, 0)

/-- The call answers a string, a slice that reads as what is left, and an error; what was there stays. -/
def CutS (B : Nat) (r : List UInt8 × List UInt8 × Nat) (w : World) (e : Ending) (w' : World) : Prop :=
  ∃ vr, e = .returned (.tuple #[.string ⟨r.1.toArray⟩, vr, .int .i64 (r.2.2 : Int)]) ∧ Rd B w' vr r.2.1 ∧ Below w.heap.size w w'

theorem takeS_err {l : List UInt8} {n : Nat} {rest : List UInt8} {er : Nat} (m : Int) (h : takeN l = (n, rest, er)) (he : er ≠ 0) : takeS l m = ([], [], er) := by
  unfold takeS; rw [h, if_pos he]
theorem takeS_large {l : List UInt8} {n : Nat} {rest : List UInt8} {m : Int} (h : takeN l = (n, rest, 0)) (hm : max m 0 < (n : Int)) : takeS l m = ([], [], 5) := by
  unfold takeS; rw [h, if_neg (by simp), if_pos hm]
theorem takeS_short {l : List UInt8} {n : Nat} {rest : List UInt8} {m : Int} (h : takeN l = (n, rest, 0)) (hm : (n : Int) ≤ max m 0) (hs : rest.length < n) : takeS l m = ([], [], 2) := by
  unfold takeS; rw [h, if_neg (by simp), if_neg (show ¬ max m 0 < (n : Int) by omega), if_pos hs]
theorem takeS_ok {l : List UInt8} {n : Nat} {rest : List UInt8} {m : Int} (h : takeN l = (n, rest, 0)) (hm : (n : Int) ≤ max m 0) (hs : ¬ rest.length < n) : takeS l m = (rest.take n, rest.drop n, 0) := by
  unfold takeS; rw [h, if_neg (by simp), if_neg (show ¬ max m 0 < (n : Int) by omega), if_neg hs]

/-- The call answers a string, a slice of its own that holds what is left, and an error. -/
def TakesS (r : List UInt8 × List UInt8 × Nat) (w : World) (e : Ending) (w' : World) : Prop :=
  ∃ vr, e = .returned (.tuple #[.string ⟨r.1.toArray⟩, vr, .int .i64 (r.2.2 : Int)]) ∧ Own 5 w' w.heap.size vr r.2.1 ∧ Below w.heap.size w w'

theorem takeS_rest (l : List UInt8) (m : Int) : (takeS l m).2.1.length ≤ l.length := by
  have h := takeN_rest l
  unfold takeS
  split
  · simp
  · split
    · simp
    · split
      · simp
      · simp only [List.length_drop]; omega

end Go.Proofs.Yteckenlbelgknaa

namespace Go.Proofs.Yteckenlbelgknaa
open Go.RowKit
set_option linter.unusedVariables false

theorem info9 : (Try.prog.info? 9).map (fun i => (i.zero, i.size, i.bytes)) = some (some (.string ⟨#[]⟩), 1, 16) := by kernel_rfl

/-- k strings, one behind the other: the strings, what is left, and the first error. -/
def takeK : Nat → List UInt8 → Int → List ByteArray × List UInt8 × Nat
  | 0, l, _ => ([], l, 0)
  | k + 1, l, m =>
    if (takeS l m).2.2 ≠ 0 then ([], [], (takeS l m).2.2)
    else if (takeK k (takeS l m).2.1 m).2.2 ≠ 0 then ([], [], (takeK k (takeS l m).2.1 m).2.2)
    else (⟨(takeS l m).1.toArray⟩ :: (takeK k (takeS l m).2.1 m).1, (takeK k (takeS l m).2.1 m).2.1, 0)

/-- What a list is taken of. -/
def takeL (l : List UInt8) (many most : Int) : List ByteArray × List UInt8 × Nat :=
  if (takeN l).2.2 ≠ 0 then ([], [], (takeN l).2.2)
  else if max many 0 < ((takeN l).1 : Int) then ([], [], 5)
  else takeK (takeN l).1 (takeN l).2.1 most

/-- What was taken so far, ahead of what is still taken. -/
def pre (acc : List ByteArray) (r : List ByteArray × List UInt8 × Nat) : List ByteArray × List UInt8 × Nat :=
  if r.2.2 ≠ 0 then ([], [], r.2.2) else (acc ++ r.1, r.2.1, 0)

theorem takeK_err (k : Nat) (l : List UInt8) (m : Int) (h : (takeK k l m).2.2 ≠ 0) : takeK k l m = ([], [], (takeK k l m).2.2) := by
  cases k with
  | zero => simp [takeK] at h
  | succ k =>
    revert h
    rw [takeK]
    split
    · simp
    · split
      · simp
      · simp

theorem pre_nil (k : Nat) (l : List UInt8) (m : Int) : pre [] (takeK k l m) = takeK k l m := by
  unfold pre
  by_cases h : (takeK k l m).2.2 = 0
  · rw [if_neg (by simp [h]), List.nil_append, ← h]
  · rw [if_pos h, ← takeK_err k l m h]

theorem pre_step (acc : List ByteArray) (k : Nat) (l s r : List UInt8) (m : Int) (h : takeS l m = (s, r, 0)) : pre acc (takeK (k + 1) l m) = pre (acc ++ [⟨s.toArray⟩]) (takeK k r m) := by
  unfold pre
  rw [takeK, h]
  simp only [ne_eq, not_true_eq_false, if_false]
  by_cases h2 : (takeK k r m).2.2 = 0
  · simp [h2]
  · simp [h2]

theorem pre_stop (acc : List ByteArray) (k : Nat) (l : List UInt8) (m : Int) (h : (takeS l m).2.2 ≠ 0) : pre acc (takeK (k + 1) l m) = ([], [], (takeS l m).2.2) := by
  unfold pre
  rw [takeK, if_pos h]
  simp [h]

theorem takeN_used (l : List UInt8) (h : (takeN l).2.2 = 0) : (takeN l).2.1.length + 1 ≤ l.length := by
  have h2 : takeN l = ((takeN l).1, (takeN l).2.1, 0) := by rw [← h]
  have h3 := (takeN_only l _ _ h2).1
  have h4 := congrArg List.length h3
  rw [List.length_append, enc_length] at h4
  omega

theorem takeS_used (l s r : List UInt8) (m : Int) (h : takeS l m = (s, r, 0)) : r.length + 1 ≤ l.length := by
  unfold takeS at h
  by_cases he : (takeN l).2.2 = 0
  · have hu := takeN_used l he
    rw [if_neg (by simp [he])] at h
    split at h
    · simp at h
    · split at h
      · simp at h
      · injection h with h1 h2
        injection h2 with h2 h3
        rw [← h2, List.length_drop]
        omega
  · rw [if_pos he] at h
    injection h with h1 h2
    injection h2 with h2 h3
    exact absurd h3 he

theorem takeL_err {l : List UInt8} {n : Nat} {rest : List UInt8} {er : Nat} (many most : Int) (h : takeN l = (n, rest, er)) (he : er ≠ 0) : takeL l many most = ([], [], er) := by
  unfold takeL; rw [h, if_pos he]
theorem takeL_large {l : List UInt8} {n : Nat} {rest : List UInt8} {many : Int} (most : Int) (h : takeN l = (n, rest, 0)) (hm : max many 0 < (n : Int)) : takeL l many most = ([], [], 5) := by
  unfold takeL; rw [h, if_neg (by simp), if_pos hm]
theorem takeL_ok {l : List UInt8} {n : Nat} {rest : List UInt8} {many : Int} (most : Int) (h : takeN l = (n, rest, 0)) (hm : (n : Int) ≤ max many 0) : takeL l many most = takeK n rest most := by
  unfold takeL; rw [h, if_neg (by simp), if_neg (show ¬ max many 0 < (n : Int) by omega)]

/-- The call answers strings, a slice of its own that holds what is left, and an error. -/
def TakesL (r : List ByteArray × List UInt8 × Nat) (w : World) (e : Ending) (w' : World) : Prop :=
  ∃ vl vr, e = .returned (.tuple #[vl, vr, .int .i64 (r.2.2 : Int)]) ∧ OwnS 9 w' w.heap.size vl r.1 ∧ Own 5 w' w.heap.size vr r.2.1 ∧ Below w.heap.size w w'

end Go.Proofs.Yteckenlbelgknaa
