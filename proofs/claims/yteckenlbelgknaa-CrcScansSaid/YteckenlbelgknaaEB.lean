/-
  What octet.cutNumber, octet.detached, octet.Take and octet.TakeInt answer for every byte slice that is read: the number ahead, what is left, or the error.
  The law's live question 'alive' answers true, in every world; what was there stays.
-/
import Derived.Test.YteckenlbelgknaaEA
import Derived.BigQuiet
import Derived.LoopN
import Derived.Deep.QuietTactic
import Derived.Laws.BitsAllLaws
namespace Go.Proofs.Yteckenlbelgknaa
open Go.RowKit
set_option linter.unusedVariables false

/-- The call answers three results: a number, a slice that reads as r, and an error; what was there stays. -/
def CutN (B : Nat) (r : Nat × List UInt8 × Nat) (w : World) (e : Ending) (w' : World) : Prop :=
  ∃ vr, e = .returned (.tuple #[.int .u64 (r.1 : Int), vr, .int .i64 (r.2.2 : Int)]) ∧ Rd B w' vr r.2.1 ∧ Below w.heap.size w w'

set_option maxHeartbeats 400000 in
theorem cutNumber_nil (A : Option Addr) (c : Nat) (B : Nat) (w : World) : Calls Try.prog 39 #[.slice A 0 c] w (CutN B (takeN []) w) := by
  go_enter Try.func39, Try.ntmps39
  go_wp2
  go_ret3
  exact ⟨_, rfl, Rd.nil _ _, Below.refl _ _⟩

set_option maxHeartbeats 400000 in
theorem cutNumber_big (a : Addr) (k : UInt8) (n c : Nat) (B : Nat) (w : World) (h0 : 0 < n) (hn : n ≤ 9223372036854775807) (hc0 : w.cell? a = some (.int .u8 (k.toNat : Int))) (hk : 8 < (k.toNat : Int)) : Calls Try.prog 39 #[.slice (some a) n c] w (CutN B (0, [], 3) w) := by
  have hk2 := UInt8.toNat_lt k
  have hz : ((n : Int) == 0) = false := by simp; omega
  go_enter Try.func39, Try.ntmps39
  go_wp2
  go_ret3
  exact ⟨_, rfl, Rd.nil _ _, Below.refl _ _⟩

set_option maxHeartbeats 400000 in
theorem cutNumber_zero (a : Addr) (k : UInt8) (n c : Nat) (B : Nat) (w : World) (h0 : 1 < n) (hn : n ≤ 9223372036854775807) (hc0 : w.cell? a = some (.int .u8 (k.toNat : Int))) (hc1 : w.cell? ⟨a.block, a.off + 1, none⟩ = some (.int .u8 0)) (hk : (k.toNat : Int) ≤ 8) (hk0 : 0 < (k.toNat : Int)) : Calls Try.prog 39 #[.slice (some a) n c] w (CutN B (0, [], 3) w) := by
  have hz : ((n : Int) == 0) = false := by simp; omega
  have h8 : decide (8 < (k.toNat : Int)) = false := by simp; omega
  go_enter Try.func39, Try.ntmps39
  go_wp2
  go_ret3
  exact ⟨_, rfl, Rd.nil _ _, Below.refl _ _⟩

/-- Bytes are missing: only the first byte is there, or the second one is not 0. -/
theorem cutNumber_short1 (a : Addr) (k : UInt8) (c : Nat) (B : Nat) (w : World) (hc0 : w.cell? a = some (.int .u8 (k.toNat : Int))) (hk : (k.toNat : Int) ≤ 8) (hk0 : 0 < (k.toNat : Int)) : Calls Try.prog 39 #[.slice (some a) 1 c] w (CutN B (0, [], 2) w) := by
  have h8 : decide (8 < (k.toNat : Int)) = false := by simp; omega
  go_enter Try.func39, Try.ntmps39
  go_wp2
  go_ret3
  exact ⟨_, rfl, Rd.nil _ _, Below.refl _ _⟩

set_option maxHeartbeats 400000 in
theorem cutNumber_short2 (a : Addr) (k d : UInt8) (n c : Nat) (B : Nat) (w : World) (h0 : 1 < n) (hn : n ≤ 9223372036854775807) (hc0 : w.cell? a = some (.int .u8 (k.toNat : Int))) (hc1 : w.cell? ⟨a.block, a.off + 1, none⟩ = some (.int .u8 (d.toNat : Int))) (hd : 0 < (d.toNat : Int)) (hk : (k.toNat : Int) ≤ 8) (hk0 : 0 < (k.toNat : Int)) (hs : (n : Int) < 1 + (k.toNat : Int)) :
    Calls Try.prog 39 #[.slice (some a) n c] w (CutN B (0, [], 2) w) := by
  have hz : ((n : Int) == 0) = false := by simp; omega
  have hd2 : ((d.toNat : Int) == 0) = false := by simp; omega
  have h8 : decide (8 < (k.toNat : Int)) = false := by simp; omega
  go_enter Try.func39, Try.ntmps39
  go_wp2
  go_ret3
  exact ⟨_, rfl, Rd.nil _ _, Below.refl _ _⟩

theorem below_drewN (B : Nat) (w : World) (n : Nat) : Below B w (w.drewN n) := ⟨rfl, rfl, rfl, Nat.le_refl _, fun _ _ => rfl⟩

/-- The single byte 0. -/
theorem cutNumber_none (a : Addr) (n c : Nat) (w : World) (h0 : 0 < n) (hn : n ≤ c) (hc : c ≤ 9223372036854775807) (hc0 : w.cell? a = some (.int .u8 0)) :
    Calls Try.prog 39 #[.slice (some a) n c] w fun e w' => e = .returned (.tuple #[.int .u64 0, .slice (if c = 1 then some a else some ⟨a.block, a.off + 1, none⟩) (n - 1) (c - 1), .int .i64 0]) ∧ Below w.heap.size w w' := by
  have hz : ((n : Int) == 0) = false := by simp; omega
  by_cases hc1 : c = 1
  · subst hc1
    obtain rfl : n = 1 := by omega
    go_enter Try.func39, Try.ntmps39
    go_wp2
    refine wp_loop_rounds 1 ?_
    rw [rounds_succ]
    go_wp2
    go_quiet (fail)
    go_wp2
    go_ret3
    exact ⟨rfl, below_drewN _ _ _⟩
  · go_enter Try.func39, Try.ntmps39
    go_wp2
    refine wp_loop_rounds 1 ?_
    rw [rounds_succ]
    go_wp2
    go_quiet (fail)
    go_wp2
    go_ret3
    exact ⟨rfl, below_drewN _ _ _⟩

theorem or_byte (v c : Nat) (hv : v < 72057594037927936) (hc : c < 256) : bits .or .u64 (IntKind.u64.wrap ((v : Int) * 256)) (IntKind.u64.wrap (c : Int)) = ((256 * v + c : Nat) : Int) := by
  have e1 : IntKind.u64.wrap ((v : Int) * 256) = ((2 ^ 8 * v : Nat) : Int) := by rw [IntKind.wrap_u64]; omega
  have e2 : IntKind.u64.wrap (c : Int) = (c : Int) := by rw [IntKind.wrap_u64]; omega
  rw [e1, e2, u64_or_nat _ _ (by omega) (by omega), ← Nat.two_pow_add_eq_or_of_lt (by omega) v]

theorem val_take (t : List UInt8) (j : Nat) (h : j < t.length) : val (t.take (j + 1)) = 256 * val (t.take j) + t[j].toNat := by
  rw [List.take_succ_eq_append_getElem h, val_snoc]

theorem val_take_lt (t : List UInt8) (j : Nat) (h : j ≤ 7) : val (t.take j) < 72057594037927936 := by
  have h1 := val_lt (t.take j)
  have h2 : (t.take j).length ≤ 7 := by rw [List.length_take]; omega
  have h3 : 256 ^ (t.take j).length ≤ 256 ^ 7 := Nat.pow_le_pow_right (by omega) h2
  omega

theorem round_value (t : List UInt8) (j : Nat) (h : j < t.length) (h7 : j ≤ 7) :
    Value.int .u64 (bits .or .u64 (IntKind.u64.wrap ((val (t.take j) : Int) * 256)) (IntKind.u64.wrap (t[j].toNat : Int))) = .int .u64 (val (t.take (j + 1)) : Int) := by
  rw [or_byte _ _ (val_take_lt t j h7) (UInt8.toNat_lt _), val_take t j h]

set_option maxHeartbeats 1000000 in
theorem cutNumber_ok (a : Addr) (k d : UInt8) (t : List UInt8) (n c : Nat) (w : World) (hnc : n ≤ c) (hc : c ≤ 9223372036854775807) (hc0 : w.cell? a = some (.int .u8 (k.toNat : Int))) (hc1 : w.cell? ⟨a.block, a.off + 1, none⟩ = some (.int .u8 (d.toNat : Int))) (hd : 0 < (d.toNat : Int))
    (hk : (k.toNat : Int) ≤ 8) (hk0 : 0 < (k.toNat : Int)) (hs : 1 + (k.toNat : Int) ≤ (n : Int)) (ht : k.toNat ≤ t.length) (hct : ∀ j (h : j < t.length), w.cell? ⟨a.block, a.off + 1 + j, none⟩ = some (.int .u8 (t[j].toNat : Int))) :
    Calls Try.prog 39 #[.slice (some a) n c] w fun e w' => e = .returned (.tuple #[.int .u64 (val (t.take k.toNat) : Int), .slice (if c = 1 + k.toNat then some a else some (a.add (1 + k.toNat))) (n - (1 + k.toNat)) (c - (1 + k.toNat)), .int .i64 0]) ∧ Below w.heap.size w w' := by
  have hz : ((n : Int) == 0) = false := by simp; omega
  have hd2 : ((d.toNat : Int) == 0) = false := by simp; omega
  have h8 : decide (8 < (k.toNat : Int)) = false := by simp; omega
  have hs2 : decide ((n : Int) < 1 + (k.toNat : Int)) = false := by simp; omega
  have hc2 : ¬ c = 1 := by omega
  have HT := Lib.hid hct
  clear hct
  go_enter Try.func39, Try.ntmps39
  go_wp2
  go_loop [6, 8, 43] (fun x _ i => ∃ j : Nat, j ≤ k.toNat ∧ i = .int .i64 j ∧ x = .int .u64 (val (t.take j) : Int)) (fun _ _ i => k.toNat - (intOf i).toNat)
  case atStart => exact ⟨0, Nat.zero_le _, rfl, rfl⟩
  case round =>
    obtain ⟨j, hj, rfl, rfl⟩ := hrel
    by_cases hlt : j < k.toNat
    · have hcj := HT.out j (by omega)
      go_wp2
      go_round
      case rel => exact ⟨j + 1, by omega, by go_num, round_value t j (by omega) (by omega)⟩
      case measure => simp [intOf]; omega
    · obtain rfl : j = k.toNat := by omega
      go_wp2
      go_quiet (fail)
      go_wp2
      all_goals
        go_ret3
        exact ⟨rfl, below_drewN _ _ _⟩

theorem cutNumber_any (v : Value) (l : List UInt8) (B : Nat) (w : World) (hr : Rd B w v l) (hB : B ≤ w.heap.size) : Calls Try.prog 39 #[v] w (CutN B (takeN l) w) := by
  have hr0 := hr
  obtain ⟨A, c, rfl, hc, hm, hn, hcell⟩ := hr
  unfold maxLen at hm
  match l with
  | [] => exact cutNumber_nil A c B w
  | k :: t =>
    cases A with
    | none =>
      have := hn rfl
      simp at hc
      omega
    | some a =>
      have hl : (k :: t).length = t.length + 1 := rfl
      rw [hl] at hc hr0
      have hc0 : w.cell? a = some (.int .u8 (k.toNat : Int)) := by
        have h := (hcell a rfl).2 0 (by simp)
        simpa [Addr.add] using h
      have hct : ∀ j (h : j < t.length), w.cell? ⟨a.block, a.off + 1 + j, none⟩ = some (.int .u8 (t[j].toNat : Int)) := by
        intro j h
        have h2 := (hcell a rfl).2 (j + 1) (by simpa using h)
        rw [show a.add (j + 1) = ⟨a.block, a.off + 1 + j, none⟩ from by simp [Addr.add]; omega] at h2
        simpa using h2
      have hk2 := UInt8.toNat_lt k
      show Calls Try.prog 39 #[.slice (some a) (t.length + 1) c] w _
      rw [takeN]
      by_cases h8 : 8 < k.toNat
      · rw [if_pos (.inl h8)]
        exact cutNumber_big a k _ c B w (by omega) (by omega) hc0 (by omega)
      by_cases hk0 : k.toNat = 0
      · have hk : k = 0 := UInt8.toNat_inj.1 (by simpa using hk0)
        subst hk
        rw [if_neg (by simp), if_neg (by simp)]
        refine (cutNumber_none a (t.length + 1) c w (by omega) hc (by omega) hc0).mono ?_
        rintro e w' ⟨rfl, hb⟩
        have hd := (hr0.below (hb.mono hB)).drop 1 (by omega)
        refine ⟨_, rfl, ?_, hb⟩
        simpa [Addr.add] using hd
      cases t with
      | nil =>
        rw [if_neg (by simp; omega), if_pos (by simp; omega)]
        exact cutNumber_short1 a k c B w hc0 (by omega) (by omega)
      | cons d u =>
        have hc1 : w.cell? ⟨a.block, a.off + 1, none⟩ = some (.int .u8 (d.toNat : Int)) := hct 0 (by simp)
        by_cases hd0 : d = 0
        · subst hd0
          rw [if_pos (.inr ⟨by omega, rfl⟩)]
          exact cutNumber_zero a k _ c B w (by simp) (by omega) hc0 hc1 (by omega) (by omega)
        · have hdp : 0 < (d.toNat : Int) := by
            rcases Nat.eq_zero_or_pos d.toNat with h | h
            · exact absurd (UInt8.toNat_inj.1 (by simpa using h)) hd0
            · omega
          rw [if_neg (by rintro (h | ⟨_, h⟩); exact h8 h; simp at h; exact hd0 h)]
          by_cases hs : (d :: u).length < k.toNat
          · rw [if_pos hs]
            exact cutNumber_short2 a k d _ c B w (by simp) (by omega) hc0 hc1 hdp (by omega) (by omega) (by omega)
          · rw [if_neg hs]
            refine (cutNumber_ok a k d (d :: u) _ c w hc (by omega) hc0 hc1 hdp (by omega) (by omega) (by omega) (by omega) hct).mono ?_
            rintro e w' ⟨rfl, hb⟩
            have hd := (hr0.below (hb.mono hB)).drop (1 + k.toNat) (by omega)
            refine ⟨_, rfl, ?_, hb⟩
            rw [show (k :: d :: u).drop (1 + k.toNat) = (d :: u).drop k.toNat from by rw [Nat.add_comm]; rfl] at hd
            exact hd

/-- A copy of its own. -/
theorem detached_any (v : Value) (l : List UInt8) (w : World) (hr : Rd w.heap.size w v l) (hl : l.length ≤ 140737488355328) : Calls Try.prog 40 #[v] w (Gives w.heap.size l w) := by
  obtain ⟨i0, hi, hz0, hz1, hz2⟩ := info_parts info5
  have HR := Lib.hid hr
  clear hr
  go_enter Try.func40, Try.ntmps40
  go_wp2_with (at_builtin; refine wpList_app rfl _ _ 22 rfl 5 i0 Try.underlying22 hi hz0 hz1 hz2 w.heap.size w.heap.size _ _ [] l rfl (Own.nil _ _ _) rfl HR.out ?c1 (Nat.le_refl _) ?_)
  case c1 => simpa using hl
  intro v' w2 hown2 hb2
  have HO2 := Lib.hid hown2
  clear hown2
  go_wp2
  go_ret
  exact ⟨v', rfl, HO2.out, hb2⟩

/-- The call answers a number, a slice of its own that holds what is left, and an error. -/
def Takes (r : Nat × List UInt8 × Nat) (w : World) (e : Ending) (w' : World) : Prop :=
  ∃ vr, e = .returned (.tuple #[.int .u64 (r.1 : Int), vr, .int .i64 (r.2.2 : Int)]) ∧ Own 5 w' w.heap.size vr r.2.1 ∧ Below w.heap.size w w'

theorem takeN_rest (l : List UInt8) : (takeN l).2.1.length ≤ l.length := by
  cases l with
  | nil => simp [takeN]
  | cons k t =>
    rw [takeN]
    split
    · simp
    · split
      · simp
      · simp; omega

set_option maxHeartbeats 400000 in
theorem take_any (v : Value) (l : List UInt8) (w : World) (hr : Rd w.heap.size w v l) (hl : l.length ≤ 140737488355328) : Calls Try.prog 33 #[v] w (Takes (takeN l) w) := by
  have hrest := takeN_rest l
  have HR := Lib.hid hr
  clear hr
  go_enter Try.func33, Try.ntmps33
  go_wp2_with fail
  refine (cutNumber_any v l w.heap.size w HR.out (Nat.le_refl _)).mono ?_
  rintro e w1 ⟨v1, rfl, hr1, hb1⟩
  generalize takeN l = r at *
  obtain ⟨n, rest, er⟩ := r
  have hrest2 : rest.length ≤ l.length := hrest
  clear hrest
  have HR1 := Lib.hid hr1
  have HB1 := Lib.hid hb1
  have hsz := hb1.size
  clear hr1 hb1
  go_wp2_with fail
  refine (detached_any v1 rest w1 (HR1.out.more hsz) (by omega)).mono ?_
  rintro e w2 ⟨v2, rfl, hown2, hb2⟩
  have HO2 := Lib.hid hown2
  have HB2 := Lib.hid hb2
  clear hown2 hb2
  go_wp2
  go_ret3
  exact ⟨v2, rfl, HO2.out.base hsz, HB1.out.trans (HB2.out.mono hsz)⟩
end Go.Proofs.Yteckenlbelgknaa

namespace Go.Proofs.Yteckenlbelgknaa
open Go.RowKit
set_option linter.unusedVariables false

def TrueStays (w : World) (e : Ending) (w' : World) : Prop := e = .returned (.bool true) ∧ Below w.heap.size w w'

theorem Own.made (e : TypeId) (w : World) : Own e (w.alloc (.cells #[] e)) w.heap.size (.slice (some ⟨w.heap.size, 0, none⟩) 0 0) [] :=
  World.ownsRow_made w #[] 0 (Nat.le_refl _) (Nat.zero_le _) rfl

end Go.Proofs.Yteckenlbelgknaa
