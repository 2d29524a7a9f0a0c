/-
  The document's own comparison of two slices of ints answers true for two that read alike.
  TwoD arrays of bytes are equal just if their bytes are, as the program compares them.
-/
import Derived.Test.YtnemkefmlffigaaGreatD7
import Derived.ChangeKeysEq
namespace Go.Proofs.YtnemkefmlffigaaGreat
open Go.RowKit

end Go.Proofs.YtnemkefmlffigaaGreat

namespace Go.Proofs.YtnemkefmlffigaaGreat
open Go.RowKit

def sameAt (l m : List UInt8) : List Nat → Bool
  | [] => true
  | i :: is => if l.getD i 0 = m.getD i 0 then sameAt l m is else false
theorem sameAt_eq (l m : List UInt8) : ∀ is, sameAt l m is = true ↔ ∀ i ∈ is, l.getD i 0 = m.getD i 0
  | [] => by simp [sameAt]
  | i :: is => by
    rw [sameAt]
    by_cases h : l.getD i 0 = m.getD i 0
    · rw [if_pos h, sameAt_eq l m is]
      exact ⟨fun h1 j hj => by rcases List.mem_cons.1 hj with rfl | h2; exact h; exact h1 j h2, fun h1 j hj => h1 j (List.mem_cons_of_mem _ hj)⟩
    · rw [if_neg h]
      exact ⟨(fun h1 => by cases h1), fun h1 => absurd (h1 i (by simp)) h⟩

theorem eqItems_bytes {P : Program} (w : World) (d : Nat) (e : TypeId) (he : P.underlying e = some (.int .u8)) (l m : List UInt8) :
    ∀ is : List Nat, (∀ i ∈ is, i < l.length ∧ i < m.length) → (Op.eqItems (d + 1) e 1 (bys l).toArray (bys m).toArray is).run P w = .ok (sameAt l m is) w
  | [], _ => by simp [Op.eqItems, sameAt]
  | i :: is, hi => by
    obtain ⟨h1, h2⟩ := hi i (by simp)
    have hp : (part e (bys l).toArray (i * 1)).run P w = .ok (.int .u8 ((l.getD i 0).toNat : Int)) w := by
      simp [part, isAgg, run_underlying he, bys_get l i h1, h1]
    have hq : (part e (bys m).toArray (i * 1)).run P w = .ok (.int .u8 ((m.getD i 0).toNat : Int)) w := by
      simp [part, isAgg, run_underlying he, bys_get m i h2, h2]
    have hr : (Op.equalIn (d + 1) e (.int .u8 ((l.getD i 0).toNat : Int)) (.int .u8 ((m.getD i 0).toNat : Int))).run P w = .ok (decide (l.getD i 0 = m.getD i 0)) w := by
      rw [run_equalIn_int w d e .u8 .u8 _ _ he]
      congr 1
      rw [Bool.eq_iff_iff, decide_eq_true_iff]
      generalize l.getD i 0 = x
      generalize m.getD i 0 = y
      rw [← UInt8.toNat_inj]
      simp
      omega
    simp only [Op.eqItems, Sem.run_bind, hp, hq, hr, Result.andThen_ok, sameAt]
    by_cases h : l.getD i 0 = m.getD i 0
    · rw [if_pos h, decide_eq_true h]
      simpa using eqItems_bytes w d e he l m is (fun j hj => hi j (by simp [hj]))
    · rw [if_neg h]
      simp only [decide_eq_false h]
      simp

theorem c5D : Tryz.prog.cellsOf 5 = 1 := by kernel_rfl
theorem info_parts5 : ∃ i, Tryz.prog.info? 5 = some i := by
  have h := info5D
  cases hq : Tryz.prog.info? 5 with
  | none => rw [hq] at h; cases h
  | some i => exact ⟨i, rfl⟩

/-- Equal hashes. -/
theorem eqHash (l m : List UInt8) (hl : l.length = 32) (hm : m.length = 32) (w : World) : (Op.equalIn 10000 23 (.agg (bys l).toArray) (.agg (bys m).toArray)).run Tryz.prog w = .ok (sameAt l m (List.range 32)) w := by
  obtain ⟨i, hi⟩ := info_parts5
  rw [show 10000 = 9999 + 1 from rfl, run_equalIn_array w 9999 _ _ tu28 hi, c5D]
  exact eqItems_bytes w 9998 5 Tryz.underlying5 l m _ (fun j hj => by rw [hl, hm]; simpa using hj)
theorem eqHash_yes (l : List UInt8) (hl : l.length = 32) (w : World) : (Op.equalIn 10000 23 (.agg (bys l).toArray) (.agg (bys l).toArray)).run Tryz.prog w = .ok true w := by
  rw [eqHash l l hl hl w, (sameAt_eq l l _).2 (fun _ _ => rfl)]
theorem eqHash_no (l m : List UInt8) (hl : l.length = 32) (hm : m.length = 32) (hne : l ≠ m) (w : World) : (Op.equalIn 10000 23 (.agg (bys l).toArray) (.agg (bys m).toArray)).run Tryz.prog w = .ok false w := by
  rw [eqHash l m hl hm w]
  cases hq : sameAt l m (List.range 32) with
  | false => rfl
  | true =>
    have h := (sameAt_eq l m _).1 hq
    refine absurd (List.ext_getElem (by omega) (fun k h1 h2 => ?_)) hne
    have := h k (by simp; omega)
    simpa [h1, h2] using this
end Go.Proofs.YtnemkefmlffigaaGreat
