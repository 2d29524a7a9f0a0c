/-
  appendDigits and All of package digits: for every width, every hash, and every byte slice that is read.
-/
import Derived.Test.YtnemkefmlffigaaGreatD4
import Derived.Test.YtnemkefmlffigaaGreatMs
namespace Go.Proofs.YtnemkefmlffigaaGreat
open Go.RowKit

theorem info3 : (Tryz.prog.info? 3).map (fun i => (i.zero, i.size, i.bytes)) = some (some (.int .i64 0), 1, 8) := by kernel_rfl
theorem info5D : (Tryz.prog.info? 5).map (fun i => (i.zero, i.size, i.bytes)) = some (some (.int .u8 0), 1, 1) := by kernel_rfl
theorem info_parts3 : ∃ i, Tryz.prog.info? 3 = some i ∧ i.zero = some (.int .i64 0) ∧ i.size = 1 ∧ i.bytes = 8 := by
  have h := info3
  cases hq : Tryz.prog.info? 3 with
  | none => rw [hq] at h; cases h
  | some i => rw [hq] at h; simp at h; exact ⟨i, rfl, h.1, h.2.1, h.2.2⟩

/-- The call answers a slice of ints of its own, from block 'base' on; nothing below 'base' has changed. -/
def GivesI (base : Nat) (l : List Nat) (w : World) (e : Ending) (w' : World) : Prop := ∃ v, e = .returned v ∧ OwnI 3 w' base v l ∧ Below base w w'

set_option maxHeartbeats 400000 in
theorem appendDigits_any (v vb : Value) (l0 : List Nat) (lb : List UInt8) (n k base : Nat) (w : World) (hk : Wd k) (hown : OwnI 3 w base v l0) (hbase : base ≤ w.heap.size) (hr : Rd base w vb lb) (hl0 : l0.length ≤ 1000) (hlb : lb.length ≤ 1000) (hn : n ≤ lb.length * (8 / k)) :
    Calls Tryz.prog 90 #[v, vb, .int .i64 (n : Int), .int .i64 (k : Int)] w (GivesI base (l0 ++ digs lb k n) w) := by
  obtain ⟨i0, hi, hz0, hz1, hz2⟩ := info_parts3
  have HI := Lib.hid hi
  have H0 := Lib.hid hz0
  have H1 := Lib.hid hz1
  have H2 := Lib.hid hz2
  have HK := Lib.hid hk
  have HO := Lib.hid hown
  have HR := Lib.hid hr
  have HN := Lib.hid hn
  have hn2 : n ≤ 8000 := Nat.le_trans hn (Nat.mul_le_mul hlb (Nat.div_le_self 8 k))
  clear hi hz0 hz1 hz2 hk hown hr hn
  go_enter Tryz.func90, Tryz.ntmps90
  go_wp2
  go_loopw [0, 11] (fun v x wr => ∃ i : Nat, i ≤ n ∧ x = .int .i64 i ∧ Hid (OwnI 3 wr base v (l0 ++ digs lb k i)) ∧ Hid (Below base w wr)) (fun _ x _ => n - (intOf x).toNat)
  case atStart => exact ⟨0, by omega, rfl, by simpa [digs, Hid] using HO.out, Below.refl _ _⟩
  case round =>
    clear HO
    obtain ⟨i, hi, rfl, O, B⟩ := hrel
    by_cases hlt : i < n
    · have HLL : Hid ((l0 ++ digs lb k i).length = l0.length + i) := by show _ = _; rw [List.length_append, digs_length]
      have HS : Hid ((l0 ++ digs lb k i) ++ [dig lb i k] = l0 ++ digs lb k (i + 1)) := by show _ = _; rw [List.append_assoc, digs_succ]
      have hs := B.out.size
      generalize l0 ++ digs lb k i = L at O HLL HS
      obtain ⟨D, hD⟩ : ∃ D, dig lb i k = D := ⟨_, rfl⟩
      rw [hD] at HS
      have HD := Lib.hid hD
      clear hD
      go_wp2_with fail
      refine (digit_any base _ lb i k _ HK.out (HR.out.below B.out) (by omega) (Nat.lt_of_lt_of_le hlt HN.out)).mono ?_
      rintro e w2 ⟨rfl, m, rfl⟩
      rw [HD.out]
      have O2 : Hid (OwnI 3 (wr.drewN m) base _ L) := O.out.below (B := wr.heap.size) (Below.drewN' (Below.refl _ _)) (Nat.le_refl _)
      have B2 : Hid (Below base w (wr.drewN m)) := Below.drewN' B.out
      have hs2 : base ≤ (wr.drewN m).heap.size := Nat.le_trans hbase B2.out.size
      generalize wr.drewN m = w3 at O2 B2 hs2 ⊢
      clear O B hs
      go_wp2_with (at_builtin; refine wpList_app1I rfl _ _ 90 rfl 3 i0 Tryz.underlying90 HI.out H0.out H1.out H2.out base _ L D ⟨w3.heap.size, 0, none⟩ rfl (O2.out.alloc _) rfl (by simp) (by rw [HLL.out]; omega) (by simp; omega) ?_)
      intro v' w' hown hb
      rw [HS.out] at hown
      have O' := Lib.hid hown
      have B' : Hid (Below base w w') := (B2.out.alloc hs2 _).trans hb
      clear hown hb O2 B2
      go_wp2
      go_roundw
      case rel => exact ⟨i + 1, by omega, by go_num, O', B'⟩
      case measure => simp [intOf]; omega
    · obtain rfl : i = n := by omega
      go_wp2
      go_ret
      exact ⟨_, rfl, O.out, B.out⟩
end Go.Proofs.YtnemkefmlffigaaGreat
