/-
  What the document's own TakeText, TakeInt and TakeList (consistoryref01) answer for every byte slice that is read: the same as octet's; what was there stays.
-/
import Derived.Test.YtibapagfpadiiaaR1
namespace Go.Proofs.Ytibapagfpadiiaa
open Go.RowKit
set_option linter.unusedVariables false

theorem OwnS.made (e : TypeId) (w : World) : OwnS e (w.alloc (.cells #[] e)) w.heap.size (.slice (some ⟨w.heap.size, 0, none⟩) 0 0) [] :=
  World.ownsRow_made w #[] 0 (Nat.le_refl _) (Nat.zero_le _) rfl

set_option maxHeartbeats 1000000 in
theorem refText_any (v : Value) (l : List UInt8) (m : Int) (B : Nat) (w : World) (hr : Rd B w v l) (hB : B ≤ w.heap.size) (m0 : -9223372036854775808 ≤ m) (m1 : m ≤ 9223372036854775807) :
    Calls Try.prog 23 #[v, .int .i64 m] w (CutS B (takeS l m) w) := by
  have hn := takeN_lt l
  have HR := Lib.hid hr
  clear hr
  go_enter Try.func23, Try.ntmps23
  go_wp2_with fail
  refine (refTake_any v l B w HR.out hB).mono ?_
  rintro e w1 ⟨v1, rfl, hr1, hb1⟩
  generalize hT : takeN l = r at *
  obtain ⟨n, rest, er⟩ := r
  have hn2 : (n : Int) ≤ 18446744073709551615 := by have h : n < 18446744073709551616 := hn; omega
  have hr1' : Rd B w1 v1 rest := hr1
  have HR1 := Lib.hid hr1'
  have HB1 := Lib.hid hb1
  have HT := Lib.hid hT
  clear hr1 hr1' hb1 hn hT
  by_cases he : er = 0
  · subst he
    by_cases hab : max m 0 < (n : Int)
    · have HS := Lib.hid (takeS_large HT.out hab)
      have hab3 : decide (max m 0 < (n : Int)) = true := by simpa using hab
      go_wp2
      go_ret3
      rw [HS.out]
      exact ⟨_, rfl, Rd.nil _ _, HB1.out⟩
    · have hab2 : (n : Int) ≤ max m 0 := by omega
      have HAB := Lib.hid hab2
      clear hab hab2
      obtain ⟨A1, c1, hv1, hc1, hm1⟩ := HR1.out.shape
      unfold maxLen at hm1
      rw [hv1] at HR1 ⊢
      clear hv1
      have hab3 : decide (max m 0 < (n : Int)) = false := by simpa using HAB.out
      by_cases hsh : rest.length < n
      · have HS := Lib.hid (takeS_short HT.out HAB.out hsh)
        go_wp2
        go_ret3
        rw [HS.out]
        exact ⟨_, rfl, Rd.nil _ _, HB1.out⟩
      · have HS := Lib.hid (takeS_ok HT.out HAB.out hsh)
        cases A1 with
        | none =>
          obtain ⟨A', c', hv', h1', h2', h3', _⟩ := HR1.out
          injection hv' with e1 e2 e3
          subst e1 e3
          have hc0 := h3' rfl
          subst hc0
          have hr0 : rest = [] := List.eq_nil_of_length_eq_zero (by omega)
          subst hr0
          have hn0 : n = 0 := by simp at hsh; exact hsh
          subst hn0
          have hst : ∀ nq, (convert 22 9 (.slice none 0 0)).run Try.prog (w1.drewN nq) = .ok (.string ⟨#[]⟩) (w1.drewN nq) := fun nq => run_string_rd (l := []) 22 9 5 Try.underlying22 Try.underlying5 Try.underlying9 (Rd.nil B (w1.drewN nq))
          go_wp2
          go_quiet (fail)
          go_wp2
          go_ret3
          rw [HS.out]
          exact ⟨_, rfl, Rd.nil _ _, HB1.out.trans (below_drewN _ _ _)⟩
        | some a =>
          have hst : ∀ nq, (convert 22 9 (.slice (some a) n c1)).run Try.prog (w1.drewN nq) = .ok (.string ⟨(rest.take n).toArray⟩) (w1.drewN nq) := fun nq => run_string_rd (w := w1.drewN nq) 22 9 5 Try.underlying22 Try.underlying5 Try.underlying9 (HR1.out.take n (by omega))
          have hdr := HR1.out.drop n (by omega)
          by_cases hcn : c1 = n
          · subst hcn
            rw [if_pos rfl, Nat.sub_self, show rest.length - c1 = 0 by omega] at hdr
            have HD := Lib.hid hdr
            clear hdr
            go_wp2
            go_quiet (fail)
            go_wp2
            go_ret3
            rw [HS.out]
            exact ⟨_, rfl, HD.out, HB1.out.trans (below_drewN _ _ _)⟩
          · rw [if_neg hcn] at hdr
            have HD := Lib.hid hdr
            clear hdr
            go_wp2
            go_quiet (fail)
            go_wp2
            go_ret3
            rw [HS.out]
            exact ⟨_, rfl, HD.out, HB1.out.trans (below_drewN _ _ _)⟩
  · have he1 : ((er : Int) != 0) = true := by simp; omega
    have HS := Lib.hid (takeS_err m HT.out he)
    go_wp2
    go_ret3
    rw [HS.out]
    exact ⟨_, rfl, Rd.nil _ _, HB1.out⟩


theorem takeN_err (l : List UInt8) (n : Nat) (rest : List UInt8) (er : Nat) (h : takeN l = (n, rest, er)) (he : er ≠ 0) : n = 0 ∧ rest = [] := by
  cases l with
  | nil =>
    rw [takeN] at h
    injection h with h1 h2
    injection h2 with h2 _
    exact ⟨h1.symm, h2.symm⟩
  | cons k t =>
    rw [takeN] at h
    split at h
    · injection h with h1 h2
      injection h2 with h2 _
      exact ⟨h1.symm, h2.symm⟩
    · split at h
      · injection h with h1 h2
        injection h2 with h2 _
        exact ⟨h1.symm, h2.symm⟩
      · injection h with h1 h2
        injection h2 with h2 h3
        exact absurd h3.symm he

/-- The call answers a number with a sign, a slice that reads as what is left, and an error. -/
def CutI (B : Nat) (r : Nat × List UInt8 × Nat) (w : World) (e : Ending) (w' : World) : Prop :=
  ∃ vr, e = .returned (.tuple #[.int .i64 (zag r.1), vr, .int .i64 (r.2.2 : Int)]) ∧ Rd B w' vr r.2.1 ∧ Below w.heap.size w w'

set_option maxHeartbeats 400000 in
theorem refInt_any (v : Value) (l : List UInt8) (B : Nat) (w : World) (hr : Rd B w v l) (hB : B ≤ w.heap.size) : Calls Try.prog 27 #[v] w (CutI B (takeN l) w) := by
  have hn := takeN_lt l
  have HR := Lib.hid hr
  clear hr
  go_enter Try.func27, Try.ntmps27
  go_wp2_with fail
  refine (refTake_any v l B w HR.out hB).mono ?_
  rintro e w1 ⟨v1, rfl, hr1, hb1⟩
  generalize hT : takeN l = r at *
  obtain ⟨n, rest, er⟩ := r
  have hn2 : (n : Int) ≤ 18446744073709551615 := by have h : n < 18446744073709551616 := hn; omega
  have hr1' : Rd B w1 v1 rest := hr1
  have HR1 := Lib.hid hr1'
  have HB1 := Lib.hid hb1
  have HT := Lib.hid hT
  clear hr1 hr1' hb1 hn hT
  by_cases he : er = 0
  · subst he
    by_cases hodd : n % 2 = 1
    · have ho : (((n : Int) % 2) == 1) = true := by simp; omega
      have hz : zag n = -((n : Int) / 2) - 1 := by unfold zag; rw [if_pos hodd]; omega
      have HZ := Lib.hid hz
      clear hz
      go_wp2
      go_ret3
      exact ⟨v1, ret3_int HZ.out.symm, HR1.out, HB1.out⟩
    · have ho : (((n : Int) % 2) == 1) = false := by simp; omega
      have hz : zag n = (n : Int) / 2 := by unfold zag; rw [if_neg hodd]; omega
      have HZ := Lib.hid hz
      clear hz
      go_wp2
      go_ret3
      exact ⟨v1, ret3_int HZ.out.symm, HR1.out, HB1.out⟩
  · have he1 : ((er : Int) != 0) = true := by simp; omega
    obtain ⟨h1, h2⟩ := takeN_err _ _ _ _ HT.out he
    subst h1 h2
    go_wp2
    go_ret3
    exact ⟨_, ret3_int (show (0 : Int) = zag 0 from rfl), Rd.nil _ _, HB1.out⟩

/-- The call answers strings, a slice that reads as what is left, and an error. -/
def CutL (B : Nat) (r : List ByteArray × List UInt8 × Nat) (w : World) (e : Ending) (w' : World) : Prop :=
  ∃ vl vr, e = .returned (.tuple #[vl, vr, .int .i64 (r.2.2 : Int)]) ∧ OwnS 9 w' w.heap.size vl r.1 ∧ Rd B w' vr r.2.1 ∧ Below w.heap.size w w'

set_option maxHeartbeats 1000000 in
theorem refList_any (v : Value) (l : List UInt8) (many m : Int) (w : World) (hr : Rd w.heap.size w v l) (y0 : -9223372036854775808 ≤ many) (y1 : many ≤ 9223372036854775807) (m0 : -9223372036854775808 ≤ m) (m1 : m ≤ 9223372036854775807) (hl : l.length ≤ 1099511627776) :
    Calls Try.prog 25 #[v, .int .i64 many, .int .i64 m] w (CutL w.heap.size (takeL l many m) w) := by
  obtain ⟨i0, hi, hz0, hz1, hz2⟩ := info_parts info9
  have hn := takeN_lt l
  have hrest := takeN_rest l
  have HR := Lib.hid hr
  clear hr
  go_enter Try.func25, Try.ntmps25
  go_wp2_with fail
  refine (refTake_any v l w.heap.size w HR.out (Nat.le_refl _)).mono ?_
  rintro e w1 ⟨v1, rfl, hr1, hb1⟩
  generalize hT : takeN l = r at *
  obtain ⟨n, rest, er⟩ := r
  have hn2 : (n : Int) ≤ 18446744073709551615 := by have h : n < 18446744073709551616 := hn; omega
  have hrest2 : rest.length ≤ l.length := hrest
  have hr1' : Rd w.heap.size w1 v1 rest := hr1
  have HR1 := Lib.hid hr1'
  have HB1 := Lib.hid hb1
  have HT := Lib.hid hT
  have hs1 := hb1.size
  clear hr1 hr1' hb1 hn hT hrest
  by_cases he : er = 0
  · subst he
    by_cases hab : max many 0 < (n : Int)
    · have HS := Lib.hid (takeL_large m HT.out hab)
      have hab3 : decide (max many 0 < (n : Int)) = true := by simpa using hab
      go_wp2
      go_ret3
      rw [HS.out]
      exact ⟨_, _, rfl, OwnS.nil _ _ _, Rd.nil _ _, HB1.out⟩
    · have hab2 : (n : Int) ≤ max many 0 := by omega
      have HAB := Lib.hid hab2
      clear hab hab2
      have HS := Lib.hid (takeL_ok m HT.out HAB.out)
      have hab3 : decide (max many 0 < (n : Int)) = false := by simpa using HAB.out
      go_wp2
      go_loopw [10, 12, 13, 14, 15, 16] (fun vr vl i _ _ _ wr => ∃ k : Nat, k ≤ n ∧ i = .int .u64 k ∧ ∃ (acc : List ByteArray) (r : List UInt8), acc.length + r.length ≤ rest.length ∧ Hid (takeK n rest m = pre acc (takeK (n - k) r m)) ∧
          Hid (Rd w.heap.size wr vr r) ∧ Hid (OwnS 9 wr w.heap.size vl acc) ∧ Hid (Below w.heap.size w wr)) (fun _ _ i _ _ _ _ => n - (intOf i).toNat)
      case atStart => exact ⟨0, Nat.zero_le _, rfl, [], rest, by simp, (pre_nil _ _ _).symm, HR1.out.below ((Below.refl _ _).alloc (by omega) _), (OwnS.made 9 w1).base hs1, HB1.out.alloc hs1 _⟩
      case round =>
        obtain ⟨k, hk, rfl, acc, r, hlen, HK, HRr, HO, HB⟩ := hrel
        have hsz := HB.out.size
        by_cases hlt : k < n
        · have hlt2 : decide ((k : Int) < (n : Int)) = true := by simp; omega
          go_wp2_with fail
          refine (refText_any u10 r m w.heap.size wr HRr.out hsz m0 m1).mono ?_
          rintro e w3 ⟨v3, rfl, hr3, hb3⟩
          generalize hq : takeS r m = q at *
          obtain ⟨s, r', er'⟩ := q
          have hr3' : Rd w.heap.size w3 v3 r' := hr3
          have HR3 := Lib.hid hr3'
          have HB3 := Lib.hid hb3
          have HQ := Lib.hid hq
          have hs3 := hb3.size
          clear hr3 hr3' hb3 hq
          have ek : n - k = (n - (k + 1)) + 1 := by omega
          have HE := Lib.hid ek
          clear ek
          by_cases he3 : er' = 0
          · subst he3
            have hu := takeS_used _ _ _ _ HQ.out
            have hK2 : takeK n rest m = pre (acc ++ [⟨s.toArray⟩]) (takeK (n - (k + 1)) r' m) := by rw [HK.out, HE.out, pre_step _ _ _ _ _ _ HQ.out]
            have HK2 := Lib.hid hK2
            clear hK2
            go_wp2_with (at_builtin; refine wpList_app1S rfl _ _ 24 rfl 9 i0 Try.underlying24 hi hz0 hz1 hz2 w.heap.size u12 acc ⟨s.toArray⟩ ⟨w3.heap.size, 0, none⟩ rfl ((HO.out.below HB3.out (Nat.le_refl _)).alloc _) rfl ?d1 ?d2 ?d3 ?_)
            case d1 => simp
            case d2 => omega
            case d3 => simp; omega
            intro v4 w4 hown4 hb4
            have HO4 := Lib.hid hown4
            have hb4' : Below w.heap.size w3 w4 := ((Below.refl _ _).alloc (by omega) _).trans hb4
            have HR4 := Lib.hid (HR3.out.below hb4')
            have HB4 : Hid (Below w.heap.size w w4) := (HB.out.trans (HB3.out.mono hsz)).trans hb4'
            clear hown4 hb4 hb4'
            go_wp2
            go_roundw
            case rel => exact ⟨k + 1, by omega, by go_num, acc ++ [⟨s.toArray⟩], r', by simp only [List.length_append, List.length_cons, List.length_nil]; omega, HK2, HR4, HO4, HB4⟩
            case measure => simp [intOf]; omega
          · have he4 : ((er' : Int) != 0) = true := by simp; omega
            have hK2 : takeK n rest m = ([], [], er') := by
              have h : (takeS r m).2.2 ≠ 0 := by rw [HQ.out]; exact he3
              rw [HK.out, HE.out, pre_stop _ _ _ _ h, HQ.out]
            have HK2 := Lib.hid hK2
            clear hK2
            go_wp2
            go_ret3
            rw [HS.out, HK2.out]
            exact ⟨_, _, rfl, OwnS.nil _ _ _, Rd.nil _ _, HB.out.trans (HB3.out.mono hsz)⟩
        · obtain rfl : k = n := by omega
          have hK2 : takeK k rest m = (acc, r, 0) := by
            rw [HK.out, Nat.sub_self]
            simp [pre, takeK]
          have HK2 := Lib.hid hK2
          clear hK2
          go_wp2
          go_ret3
          rw [HS.out, HK2.out]
          exact ⟨_, _, rfl, HO.out, HRr.out, HB.out⟩
  · have he1 : ((er : Int) != 0) = true := by simp; omega
    have HS := Lib.hid (takeL_err many m HT.out he)
    go_wp2
    go_ret3
    rw [HS.out]
    exact ⟨_, _, rfl, OwnS.nil _ _ _, Rd.nil _ _, HB1.out⟩
end Go.Proofs.Ytibapagfpadiiaa
