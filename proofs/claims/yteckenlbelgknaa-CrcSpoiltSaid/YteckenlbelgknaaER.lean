/-
  What the document's own Take, TakeText, TakeInt and TakeList (consistoryref01) answer for every byte slice that is read: the same as octet's; what was there stays.
  What the document's own TakeText, TakeInt and TakeList (consistoryref01) answer for every byte slice that is read: the same as octet's; what was there stays.
-/
import Derived.Test.YteckenlbelgknaaEC
namespace Go.Proofs.Yteckenlbelgknaa
open Go.RowKit
set_option linter.unusedVariables false

set_option maxHeartbeats 400000 in
theorem refTake_nil (A : Option Addr) (c : Nat) (B : Nat) (w : World) : Calls Try.prog 25 #[.slice A 0 c] w (CutN B (takeN []) w) := by
  go_enter Try.func25, Try.ntmps25
  go_wp2
  go_ret3
  exact ⟨_, rfl, Rd.nil _ _, Below.refl _ _⟩

set_option maxHeartbeats 400000 in
theorem refTake_big (a : Addr) (k : UInt8) (n c : Nat) (B : Nat) (w : World) (h0 : 0 < n) (hn : n ≤ 9223372036854775807) (hc0 : w.cell? a = some (.int .u8 (k.toNat : Int))) (hk : 8 < (k.toNat : Int)) : Calls Try.prog 25 #[.slice (some a) n c] w (CutN B (0, [], 3) w) := by
  have hk2 := UInt8.toNat_lt k
  have hz : ((n : Int) == 0) = false := by simp; omega
  go_enter Try.func25, Try.ntmps25
  go_wp2
  go_ret3
  exact ⟨_, rfl, Rd.nil _ _, Below.refl _ _⟩

set_option maxHeartbeats 400000 in
theorem refTake_zero (a : Addr) (k : UInt8) (n c : Nat) (B : Nat) (w : World) (h0 : 1 < n) (hn : n ≤ 9223372036854775807) (hc0 : w.cell? a = some (.int .u8 (k.toNat : Int))) (hc1 : w.cell? ⟨a.block, a.off + 1, none⟩ = some (.int .u8 0)) (hk : (k.toNat : Int) ≤ 8) (hk0 : 0 < (k.toNat : Int)) : Calls Try.prog 25 #[.slice (some a) n c] w (CutN B (0, [], 3) w) := by
  have hz : ((n : Int) == 0) = false := by simp; omega
  have h8 : decide (8 < (k.toNat : Int)) = false := by simp; omega
  go_enter Try.func25, Try.ntmps25
  go_wp2
  go_ret3
  exact ⟨_, rfl, Rd.nil _ _, Below.refl _ _⟩

/-- Bytes are missing: only the first byte is there, or the second one is not 0. -/
theorem refTake_short1 (a : Addr) (k : UInt8) (c : Nat) (B : Nat) (w : World) (hc0 : w.cell? a = some (.int .u8 (k.toNat : Int))) (hk : (k.toNat : Int) ≤ 8) (hk0 : 0 < (k.toNat : Int)) : Calls Try.prog 25 #[.slice (some a) 1 c] w (CutN B (0, [], 2) w) := by
  have h8 : decide (8 < (k.toNat : Int)) = false := by simp; omega
  go_enter Try.func25, Try.ntmps25
  go_wp2
  go_ret3
  exact ⟨_, rfl, Rd.nil _ _, Below.refl _ _⟩

set_option maxHeartbeats 400000 in
theorem refTake_short2 (a : Addr) (k d : UInt8) (n c : Nat) (B : Nat) (w : World) (h0 : 1 < n) (hn : n ≤ 9223372036854775807) (hc0 : w.cell? a = some (.int .u8 (k.toNat : Int))) (hc1 : w.cell? ⟨a.block, a.off + 1, none⟩ = some (.int .u8 (d.toNat : Int))) (hd : 0 < (d.toNat : Int)) (hk : (k.toNat : Int) ≤ 8) (hk0 : 0 < (k.toNat : Int)) (hs : (n : Int) < 1 + (k.toNat : Int)) :
    Calls Try.prog 25 #[.slice (some a) n c] w (CutN B (0, [], 2) w) := by
  have hz : ((n : Int) == 0) = false := by simp; omega
  have hd2 : ((d.toNat : Int) == 0) = false := by simp; omega
  have h8 : decide (8 < (k.toNat : Int)) = false := by simp; omega
  go_enter Try.func25, Try.ntmps25
  go_wp2
  go_ret3
  exact ⟨_, rfl, Rd.nil _ _, Below.refl _ _⟩

/-- The single byte 0. -/
theorem refTake_none (a : Addr) (n c : Nat) (w : World) (h0 : 0 < n) (hn : n ≤ c) (hc : c ≤ 9223372036854775807) (hc0 : w.cell? a = some (.int .u8 0)) :
    Calls Try.prog 25 #[.slice (some a) n c] w fun e w' => e = .returned (.tuple #[.int .u64 0, .slice (if c = 1 then some a else some ⟨a.block, a.off + 1, none⟩) (n - 1) (c - 1), .int .i64 0]) ∧ Below w.heap.size w w' := by
  have hz : ((n : Int) == 0) = false := by simp; omega
  by_cases hc1 : c = 1
  · subst hc1
    obtain rfl : n = 1 := by omega
    go_enter Try.func25, Try.ntmps25
    go_wp2
    refine wp_loop_rounds 1 ?_
    rw [rounds_succ]
    go_wp2
    go_quiet (fail)
    go_wp2
    go_ret3
    exact ⟨rfl, below_drewN _ _ _⟩
  · go_enter Try.func25, Try.ntmps25
    go_wp2
    refine wp_loop_rounds 1 ?_
    rw [rounds_succ]
    go_wp2
    go_quiet (fail)
    go_wp2
    go_ret3
    exact ⟨rfl, below_drewN _ _ _⟩

set_option maxHeartbeats 1000000 in
theorem refTake_ok (a : Addr) (k d : UInt8) (t : List UInt8) (n c : Nat) (w : World) (hnc : n ≤ c) (hc : c ≤ 9223372036854775807) (hc0 : w.cell? a = some (.int .u8 (k.toNat : Int))) (hc1 : w.cell? ⟨a.block, a.off + 1, none⟩ = some (.int .u8 (d.toNat : Int))) (hd : 0 < (d.toNat : Int))
    (hk : (k.toNat : Int) ≤ 8) (hk0 : 0 < (k.toNat : Int)) (hs : 1 + (k.toNat : Int) ≤ (n : Int)) (ht : k.toNat ≤ t.length) (hct : ∀ j (h : j < t.length), w.cell? ⟨a.block, a.off + 1 + j, none⟩ = some (.int .u8 (t[j].toNat : Int))) :
    Calls Try.prog 25 #[.slice (some a) n c] w fun e w' => e = .returned (.tuple #[.int .u64 (val (t.take k.toNat) : Int), .slice (if c = 1 + k.toNat then some a else some (a.add (1 + k.toNat))) (n - (1 + k.toNat)) (c - (1 + k.toNat)), .int .i64 0]) ∧ Below w.heap.size w w' := by
  have hz : ((n : Int) == 0) = false := by simp; omega
  have hd2 : ((d.toNat : Int) == 0) = false := by simp; omega
  have h8 : decide (8 < (k.toNat : Int)) = false := by simp; omega
  have hs2 : decide ((n : Int) < 1 + (k.toNat : Int)) = false := by simp; omega
  have hc2 : ¬ c = 1 := by omega
  have HT := Lib.hid hct
  clear hct
  go_enter Try.func25, Try.ntmps25
  go_wp2
  go_loop [6, 7] (fun x i => ∃ j : Nat, j ≤ k.toNat ∧ i = .int .i64 ((j : Int) + 1) ∧ x = .int .u64 (val (t.take j) : Int)) (fun _ i => (k.toNat + 1 - intOf i).toNat)
  case atStart => exact ⟨0, Nat.zero_le _, rfl, rfl⟩
  case round =>
    obtain ⟨j, hj, rfl, rfl⟩ := hrel
    by_cases hlt : j < k.toNat
    · have hcj : w.cell? ⟨a.block, a.off + (j + 1), none⟩ = some (.int .u8 (t[j].toNat : Int)) := by
        have h := HT.out j (by omega)
        rw [show a.off + 1 + j = a.off + (j + 1) by omega] at h
        exact h
      have hv := val_take_lt t j (by omega)
      have hb := UInt8.toNat_lt t[j]
      have HV := Lib.hid (val_take t j (by omega))
      generalize val (t.take j) = V at *
      generalize t[j].toNat = C at *
      have hv2 : (V : Int) ≤ 72057594037927935 := by omega
      have hb2 : (C : Int) ≤ 255 := by omega
      clear hv hb
      go_wp2
      go_round
      case rel => exact ⟨j + 1, by omega, by go_num, by rw [HV.out]; go_num⟩
      case measure => simp [intOf]; omega
    · obtain rfl : j = k.toNat := by omega
      go_wp2
      go_quiet (fail)
      go_wp2
      all_goals
        go_ret3
        exact ⟨rfl, below_drewN _ _ _⟩

theorem refTake_any (v : Value) (l : List UInt8) (B : Nat) (w : World) (hr : Rd B w v l) (hB : B ≤ w.heap.size) : Calls Try.prog 25 #[v] w (CutN B (takeN l) w) := by
  have hr0 := hr
  obtain ⟨A, c, rfl, hc, hm, hn, hcell⟩ := hr
  unfold maxLen at hm
  match l with
  | [] => exact refTake_nil A c B w
  | k :: t =>
    cases A with
    | none =>
      have := hn rfl
      simp at hc
      omega
    | some a =>
      have hl : (k :: t).length = t.length + 1 := rfl
      rw [hl] at hc hr0
      have hc0 : w.cell? a = some (.int .u8 (k.toNat : Int)) := by
        have h := (hcell a rfl).2 0 (by simp)
        simpa [Addr.add] using h
      have hct : ∀ j (h : j < t.length), w.cell? ⟨a.block, a.off + 1 + j, none⟩ = some (.int .u8 (t[j].toNat : Int)) := by
        intro j h
        have h2 := (hcell a rfl).2 (j + 1) (by simpa using h)
        rw [show a.add (j + 1) = ⟨a.block, a.off + 1 + j, none⟩ from by simp [Addr.add]; omega] at h2
        simpa using h2
      have hk2 := UInt8.toNat_lt k
      show Calls Try.prog 25 #[.slice (some a) (t.length + 1) c] w _
      rw [takeN]
      by_cases h8 : 8 < k.toNat
      · rw [if_pos (.inl h8)]
        exact refTake_big a k _ c B w (by omega) (by omega) hc0 (by omega)
      by_cases hk0 : k.toNat = 0
      · have hk : k = 0 := UInt8.toNat_inj.1 (by simpa using hk0)
        subst hk
        rw [if_neg (by simp), if_neg (by simp)]
        refine (refTake_none a (t.length + 1) c w (by omega) hc (by omega) hc0).mono ?_
        rintro e w' ⟨rfl, hb⟩
        have hd := (hr0.below (hb.mono hB)).drop 1 (by omega)
        refine ⟨_, rfl, ?_, hb⟩
        simpa [Addr.add] using hd
      cases t with
      | nil =>
        rw [if_neg (by simp; omega), if_pos (by simp; omega)]
        exact refTake_short1 a k c B w hc0 (by omega) (by omega)
      | cons d u =>
        have hc1 : w.cell? ⟨a.block, a.off + 1, none⟩ = some (.int .u8 (d.toNat : Int)) := hct 0 (by simp)
        by_cases hd0 : d = 0
        · subst hd0
          rw [if_pos (.inr ⟨by omega, rfl⟩)]
          exact refTake_zero a k _ c B w (by simp) (by omega) hc0 hc1 (by omega) (by omega)
        · have hdp : 0 < (d.toNat : Int) := by
            rcases Nat.eq_zero_or_pos d.toNat with h | h
            · exact absurd (UInt8.toNat_inj.1 (by simpa using h)) hd0
            · omega
          rw [if_neg (by rintro (h | ⟨_, h⟩); exact h8 h; simp at h; exact hd0 h)]
          by_cases hs : (d :: u).length < k.toNat
          · rw [if_pos hs]
            exact refTake_short2 a k d _ c B w (by simp) (by omega) hc0 hc1 hdp (by omega) (by omega) (by omega)
          · rw [if_neg hs]
            refine (refTake_ok a k d (d :: u) _ c w hc (by omega) hc0 hc1 hdp (by omega) (by omega) (by omega) (by omega) hct).mono ?_
            rintro e w' ⟨rfl, hb⟩
            have hd := (hr0.below (hb.mono hB)).drop (1 + k.toNat) (by omega)
            refine ⟨_, rfl, ?_, hb⟩
            rw [show (k :: d :: u).drop (1 + k.toNat) = (d :: u).drop k.toNat from by rw [Nat.add_comm]; rfl] at hd
            exact hd

end Go.Proofs.Yteckenlbelgknaa

namespace Go.Proofs.Yteckenlbelgknaa
open Go.RowKit
set_option linter.unusedVariables false

theorem OwnS.made (e : TypeId) (w : World) : OwnS e (w.alloc (.cells #[] e)) w.heap.size (.slice (some ⟨w.heap.size, 0, none⟩) 0 0) [] :=
  World.ownsRow_made w #[] 0 (Nat.le_refl _) (Nat.zero_le _) rfl

theorem takeN_err (l : List UInt8) (n : Nat) (rest : List UInt8) (er : Nat) (h : takeN l = (n, rest, er)) (he : er ≠ 0) : n = 0 ∧ rest = [] := by
  cases l with
  | nil =>
    rw [takeN] at h
    injection h with h1 h2
    injection h2 with h2 _
    exact ⟨h1.symm, h2.symm⟩
  | cons k t =>
    rw [takeN] at h
    split at h
    · injection h with h1 h2
      injection h2 with h2 _
      exact ⟨h1.symm, h2.symm⟩
    · split at h
      · injection h with h1 h2
        injection h2 with h2 _
        exact ⟨h1.symm, h2.symm⟩
      · injection h with h1 h2
        injection h2 with h2 h3
        exact absurd h3.symm he

/-- The call answers a number with a sign, a slice that reads as what is left, and an error. -/
def CutI (B : Nat) (r : Nat × List UInt8 × Nat) (w : World) (e : Ending) (w' : World) : Prop :=
  ∃ vr, e = .returned (.tuple #[.int .i64 (zag r.1), vr, .int .i64 (r.2.2 : Int)]) ∧ Rd B w' vr r.2.1 ∧ Below w.heap.size w w'

/-- The call answers strings, a slice that reads as what is left, and an error. -/
def CutL (B : Nat) (r : List ByteArray × List UInt8 × Nat) (w : World) (e : Ending) (w' : World) : Prop :=
  ∃ vl vr, e = .returned (.tuple #[vl, vr, .int .i64 (r.2.2 : Int)]) ∧ OwnS 9 w' w.heap.size vl r.1 ∧ Rd B w' vr r.2.1 ∧ Below w.heap.size w w'

end Go.Proofs.Yteckenlbelgknaa
