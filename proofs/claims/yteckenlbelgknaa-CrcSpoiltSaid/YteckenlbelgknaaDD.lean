/-
  isWidth, greatest, count and digit of package digits, and the document's own 'width': for every width, every byte slice that is read and every digit of it.
  digit of package digits: for every width, every byte slice that is read and every digit of it.
  own, check, shift and number of package digits: for every width and every hash.
  number of package digits: for every width and every hash.
  appendDigits and All of package digits: for every width, every hash, and every byte slice that is read.
  All of package digits: for every width and every hash; and what is no width.
  Digit, Own, Check, Shift and Number of package digits: for every input; and the statements' live question, which is answered with true.
  The document's own comparison of two slices of ints answers true for two that read alike.
  TwoD arrays of bytes are equal just if their bytes are, as the program compares them.
-/
import Derived.Test.YteckenlbelgknaaChecked
import Derived.Test.YteckenlbelgknaaPs
import Derived.Test.YteckenlbelgknaaMs
import Derived.WalkKit
import Derived.WalkLawsBesides
import Derived.Outline
import Derived.IntWalk
import Derived.Lib.Hide
import Derived.Deep.QuietTactic
import Derived.BigQuiet
import Derived.Deep.Draws
import Derived.Laws.BitsAllLaws
import Derived.ChangeKeysEq
namespace Go.Proofs.Yteckenlbelgknaa
open Go.RowKit

theorem ret_intD {k : IntKind} {a b : Int} (h : a = b) : Ending.returned (.int k a) = .returned (.int k b) := by rw [h]

/-- The call answers this value, and the world is as it was. -/
def Just (v : Value) (w : World) (e : Ending) (w' : World) : Prop := e = .returned v ∧ w = w'
/-- The call answers this value, and no old memory has changed. -/
def One (v : Value) (w : World) (e : Ending) (w' : World) : Prop := e = .returned v ∧ Below w.heap.size w w'
/-- The call answers this value, and has only drawn. -/
def Drew (v : Value) (w : World) (e : Ending) (w' : World) : Prop := e = .returned v ∧ ∃ n, w' = w.drewN n

end Go.Proofs.Yteckenlbelgknaa

namespace Go.Proofs.Yteckenlbelgknaa
open Go.RowKit

theorem Just.quiet {f : FuncId} {args : Array Value} {w : World} {n : Nat} {v : Value} (h : Calls Try.prog f args (w.drewN n) (Just v (w.drewN n))) : Calls Try.prog f args (w.drewN n) fun e w'' => e = .returned v ∧ ∃ m, w'' = w.drewN m :=
  h.mono fun _ _ ⟨he, hw⟩ => ⟨he, n, hw.symm⟩
theorem Drew.quiet {f : FuncId} {args : Array Value} {w : World} {n : Nat} {v : Value} (h : Calls Try.prog f args (w.drewN n) (Drew v (w.drewN n))) : Calls Try.prog f args (w.drewN n) fun e w'' => e = .returned v ∧ ∃ m, w'' = w.drewN m :=
  h.mono fun _ _ ⟨he, m, hm⟩ => ⟨he, n + m, by rw [hm, World.drewN_drewN]⟩

theorem Rd.cellAt {B : Nat} {w : World} {v : Value} {l : List UInt8} (h : Rd B w v l) (i : Nat) (hi : i < l.length) : ∃ a c, v = .slice (some a) l.length c ∧ l.length ≤ c ∧ c ≤ maxLen ∧ w.cell? (a.add i) = some (.int .u8 ((l.getD i 0).toNat : Int)) := by
  obtain ⟨A, c, rfl, hc, hm, hn, hcell⟩ := h
  cases A with
  | none => have := hn rfl; omega
  | some a => exact ⟨a, c, rfl, hc, hm, by rw [(hcell a rfl).2 i hi]; simp [hi]⟩

theorem wraps_i64 (n : Int) (h₀ : 0 ≤ n) (h₁ : n < 2 ^ 62) : IntKind.i64.wrap n = n := by rw [IntKind.wrap_i64]; omega
theorem mask (k x m : Nat) (hk : Wd k) (hx : x < 256) : bits .and .i64 ((x : Int) / 2 ^ m) (gr k : Nat) = ((x / 2 ^ m % 2 ^ k : Nat) : Int) := by
  have e : (x : Int) / 2 ^ m = ((x / 2 ^ m : Nat) : Int) := by simp
  have hlt : x / 2 ^ m < 256 := Nat.lt_of_le_of_lt (Nat.div_le_self _ _) hx
  have hg : gr k < 256 := by rcases hk with rfl | rfl | rfl | rfl <;> decide
  rw [e, (bits_nat .i64 62 (by decide) wraps_i64 _ _ (by omega) (by omega)).1]
  unfold gr
  rw [Nat.and_two_pow_sub_one_eq_mod]


end Go.Proofs.Yteckenlbelgknaa

namespace Go.Proofs.Yteckenlbelgknaa
open Go.RowKit

def z32D : List Value := bys (List.replicate 32 0)
theorem z32D_length : z32D.length = 32 := by decide
/-- The whole array of a block, as a slice, reads as its bytes. -/
theorem Blk.rd {w : World} {g : Nat} {l : List UInt8} {t : TypeId} (h : Blk w g (bys l) t) (hl : l.length ≤ maxLen) : Rd (g + 1) w (.slice (some ⟨g, 0, none⟩) l.length l.length) l := by
  refine ⟨some ⟨g, 0, none⟩, l.length, rfl, Nat.le_refl _, hl, fun h => (by cases h), fun a ha => ?_⟩
  cases ha
  refine ⟨fun _ => Nat.lt_succ_self _, fun j hj => ?_⟩
  rw [Addr.add_mid, Nat.zero_add, h.cell, bys_get l j hj]

/-- How many digits a hash has. -/
def onn (k : Nat) : Nat := 256 / k

theorem chk_cap (k : Nat) (hk : Wd k) : onn k * gr k < 2 ^ (k * chk k) := by rcases hk with rfl | rfl | rfl | rfl <;> decide
theorem chk_zero (k j : Nat) (hk : Wd k) (h : chk k ≤ j) : onn k * gr k / 2 ^ (k * j) = 0 :=
  Nat.div_eq_of_lt (Nat.lt_of_lt_of_le (chk_cap k hk) (Nat.pow_le_pow_right (by omega) (Nat.mul_le_mul_left _ h)))
theorem chk_pos (k j : Nat) (hk : Wd k) (h : j < chk k) : 0 < onn k * gr k / 2 ^ (k * j) := by
  revert j
  rcases hk with rfl | rfl | rfl | rfl <;> decide
theorem chk_le (k : Nat) : chk k ≤ 9 := by unfold chk; repeat' split
                                           all_goals omega
theorem Wd.le {k : Nat} (hk : Wd k) : 1 ≤ k ∧ k ≤ 8 ∧ onn k ≤ 256 ∧ gr k ≤ 255 := by rcases hk with rfl | rfl | rfl | rfl <;> decide


end Go.Proofs.Yteckenlbelgknaa

namespace Go.Proofs.Yteckenlbelgknaa
open Go.RowKit

theorem ssum_small (l : List UInt8) (k i : Nat) (hk : Wd k) (hi : i ≤ onn k) : ssum l k i ≤ 65280 := by
  obtain ⟨_, _, h1, h2⟩ := hk.le
  exact Nat.le_trans (ssum_le l k i) (Nat.mul_le_mul (Nat.le_trans hi h1) h2)
theorem onn_eq (k : Nat) (hk : Wd k) : onn k = 32 * (8 / k) := by rcases hk with rfl | rfl | rfl | rfl <;> rfl
theorem shf_le (k : Nat) (hk : Wd k) : shf k ≤ 7 := by rcases hk with rfl | rfl | rfl | rfl <;> decide

end Go.Proofs.Yteckenlbelgknaa

namespace Go.Proofs.Yteckenlbelgknaa
open Go.RowKit

theorem info3 : (Try.prog.info? 3).map (fun i => (i.zero, i.size, i.bytes)) = some (some (.int .i64 0), 1, 8) := by kernel_rfl
theorem info5D : (Try.prog.info? 5).map (fun i => (i.zero, i.size, i.bytes)) = some (some (.int .u8 0), 1, 1) := by kernel_rfl
theorem info_parts3 : ∃ i, Try.prog.info? 3 = some i ∧ i.zero = some (.int .i64 0) ∧ i.size = 1 ∧ i.bytes = 8 := by
  have h := info3
  cases hq : Try.prog.info? 3 with
  | none => rw [hq] at h; cases h
  | some i => rw [hq] at h; simp at h; exact ⟨i, rfl, h.1, h.2.1, h.2.2⟩

/-- The call answers a slice of ints of its own, from block 'base' on; nothing below 'base' has changed. -/
def GivesI (base : Nat) (l : List Nat) (w : World) (e : Ending) (w' : World) : Prop := ∃ v, e = .returned v ∧ OwnI 3 w' base v l ∧ Below base w w'

end Go.Proofs.Yteckenlbelgknaa

namespace Go.Proofs.Yteckenlbelgknaa
open Go.RowKit

/-- The call answers two values, and no old memory has changed. -/
def TwoD (x y : Value) (w : World) (e : Ending) (w' : World) : Prop := e = .returned (.tuple #[x, y]) ∧ Below w.heap.size w w'
/-- The call answers a slice of ints of its own, and OK. -/
def GivesI2 (l : List Nat) (w : World) (e : Ending) (w' : World) : Prop := ∃ v, e = .returned (.tuple #[v, .int .i64 0]) ∧ OwnI 3 w' w.heap.size v l ∧ Below w.heap.size w w'

/-- It is no width. -/
def NoW (z : Int) : Prop := (z == 1) = false ∧ (z == 2) = false ∧ (z == 4) = false ∧ (z == 8) = false
theorem width_or (z : Int) : (∃ k : Nat, Wd k ∧ z = (k : Int)) ∨ NoW z := by
  by_cases h1 : z = 1
  · exact .inl ⟨1, by simp [Wd], h1⟩
  by_cases h2 : z = 2
  · exact .inl ⟨2, by simp [Wd], h2⟩
  by_cases h4 : z = 4
  · exact .inl ⟨4, by simp [Wd], h4⟩
  by_cases h8 : z = 8
  · exact .inl ⟨8, by simp [Wd], h8⟩
  exact .inr (by simp [NoW, h1, h2, h4, h8])

theorem Rd.two (e : TypeId) (fr : Nat × Nat) (w : World) (x y : Int) (b c : UInt8) (hx : x = (b.toNat : Int)) (hy : y = (c.toNat : Int)) : Rd (w.heap.size + 1) (w.alloc (.cells #[.int .u8 x, .int .u8 y] e fr)) (.slice (some ⟨w.heap.size, 0, none⟩) 2 2) [b, c] := by
  subst hx hy
  refine ⟨some ⟨w.heap.size, 0, none⟩, 2, rfl, Nat.le_refl _, by unfold maxLen; decide, fun h => (by cases h), fun a ha => ?_⟩
  cases ha
  refine ⟨fun _ => Nat.lt_succ_self _, fun j hj => ?_⟩
  rw [Addr.add_mid, cell_of_row _ _ _ _ e fr (heap_alloc_new w _)]
  have : j = 0 ∨ j = 1 := by simp at hj; omega
  rcases this with rfl | rfl <;> simp


end Go.Proofs.Yteckenlbelgknaa

namespace Go.Proofs.Yteckenlbelgknaa
open Go.RowKit



end Go.Proofs.Yteckenlbelgknaa

namespace Go.Proofs.Yteckenlbelgknaa
open Go.RowKit

end Go.Proofs.Yteckenlbelgknaa

namespace Go.Proofs.Yteckenlbelgknaa
open Go.RowKit

def sameAt (l m : List UInt8) : List Nat → Bool
  | [] => true
  | i :: is => if l.getD i 0 = m.getD i 0 then sameAt l m is else false
theorem sameAt_eq (l m : List UInt8) : ∀ is, sameAt l m is = true ↔ ∀ i ∈ is, l.getD i 0 = m.getD i 0
  | [] => by simp [sameAt]
  | i :: is => by
    rw [sameAt]
    by_cases h : l.getD i 0 = m.getD i 0
    · rw [if_pos h, sameAt_eq l m is]
      exact ⟨fun h1 j hj => by rcases List.mem_cons.1 hj with rfl | h2; exact h; exact h1 j h2, fun h1 j hj => h1 j (List.mem_cons_of_mem _ hj)⟩
    · rw [if_neg h]
      exact ⟨(fun h1 => by cases h1), fun h1 => absurd (h1 i (by simp)) h⟩

theorem eqItems_bytes {P : Program} (w : World) (d : Nat) (e : TypeId) (he : P.underlying e = some (.int .u8)) (l m : List UInt8) :
    ∀ is : List Nat, (∀ i ∈ is, i < l.length ∧ i < m.length) → (Op.eqItems (d + 1) e 1 (bys l).toArray (bys m).toArray is).run P w = .ok (sameAt l m is) w
  | [], _ => by simp [Op.eqItems, sameAt]
  | i :: is, hi => by
    obtain ⟨h1, h2⟩ := hi i (by simp)
    have hp : (part e (bys l).toArray (i * 1)).run P w = .ok (.int .u8 ((l.getD i 0).toNat : Int)) w := by
      simp [part, isAgg, run_underlying he, bys_get l i h1, h1]
    have hq : (part e (bys m).toArray (i * 1)).run P w = .ok (.int .u8 ((m.getD i 0).toNat : Int)) w := by
      simp [part, isAgg, run_underlying he, bys_get m i h2, h2]
    have hr : (Op.equalIn (d + 1) e (.int .u8 ((l.getD i 0).toNat : Int)) (.int .u8 ((m.getD i 0).toNat : Int))).run P w = .ok (decide (l.getD i 0 = m.getD i 0)) w := by
      rw [run_equalIn_int w d e .u8 .u8 _ _ he]
      congr 1
      rw [Bool.eq_iff_iff, decide_eq_true_iff]
      generalize l.getD i 0 = x
      generalize m.getD i 0 = y
      rw [← UInt8.toNat_inj]
      simp
      omega
    simp only [Op.eqItems, Sem.run_bind, hp, hq, hr, Result.andThen_ok, sameAt]
    by_cases h : l.getD i 0 = m.getD i 0
    · rw [if_pos h, decide_eq_true h]
      simpa using eqItems_bytes w d e he l m is (fun j hj => hi j (by simp [hj]))
    · rw [if_neg h]
      simp only [decide_eq_false h]
      simp

theorem c5D : Try.prog.cellsOf 5 = 1 := by kernel_rfl
theorem info_parts5 : ∃ i, Try.prog.info? 5 = some i := by
  have h := info5D
  cases hq : Try.prog.info? 5 with
  | none => rw [hq] at h; cases h
  | some i => exact ⟨i, rfl⟩

end Go.Proofs.Yteckenlbelgknaa
