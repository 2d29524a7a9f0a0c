/-
  More plain facts, of no program: a byte of the bytes of words.
-/
import Derived.Test.YtnemkefmlffigaaPs
namespace Go.Proofs.Ytnemkefmlffigaa

theorem joinl_at : ∀ (s : List Nat) (i : Nat), i < 4 * s.length → (joinl s).getD i 0 = UInt8.ofNat (s.getD (i / 4) 0 / 256 ^ (3 - i % 4))
  | [], i, h => by simp at h
  | x :: s, i, h => by
    have hb : joinl (x :: s) = be 4 x ++ joinl s := rfl
    rw [hb]
    by_cases h4 : i < 4
    · have : i = 0 ∨ i = 1 ∨ i = 2 ∨ i = 3 := by omega
      rcases this with rfl | rfl | rfl | rfl <;> simp [be]
    · obtain ⟨j, rfl⟩ : ∃ j, i = j + 4 := ⟨i - 4, by omega⟩
      have ih := joinl_at s j (by simp at h; omega)
      have e1 : (be 4 x ++ joinl s).getD (j + 4) 0 = (joinl s).getD j 0 := by
        simp [List.getElem?_append, be_length, show ¬ j + 4 < 4 by omega]
      rw [e1, ih, show (j + 4) / 4 = j / 4 + 1 by omega, show (j + 4) % 4 = j % 4 by omega]
      rfl
theorem joinl_int (s : List Nat) (i : Nat) (h : i < 4 * s.length) : (((joinl s).getD i 0).toNat : Int) = (s.getD (i / 4) 0 : Int) / 2 ^ (24 - 8 * (i % 4)) % 256 := by
  rw [joinl_at s i h]
  have hb := byte_shift (s.getD (i / 4) 0 : Int) (3 - i % 4) (by omega)
  rw [Int.toNat_natCast, show 8 * (3 - i % 4) = 24 - 8 * (i % 4) by omega] at hb
  exact hb.symm
end Go.Proofs.Ytnemkefmlffigaa
