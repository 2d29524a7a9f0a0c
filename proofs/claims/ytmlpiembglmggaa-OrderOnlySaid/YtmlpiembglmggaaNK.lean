/-
  slices.Grow of the nil slice, slices.Concat of byte slices, numbers encoded one behind the other. Each theorem states its own conditions.
-/
import Derived.Test.YtmlpiembglmggaaNI
import Derived.Test.YtmlpiembglmggaaRZ
import Derived.Lib.AppendZeros
namespace Go.Proofs.Ytmlpiembglmggaa
open Go.RowKit

set_option maxRecDepth 100000 in
set_option maxHeartbeats 4000000 in
theorem grow_nil (n : Nat) (w : World) (hn : n ≤ 10000000) : Calls Try.prog 42 #[.slice none 0 0, .int .i64 (n : Int)] w (Gives w.heap.size [] w) := by
  obtain ⟨i0, hi, hz0, hz1, hz2⟩ := info_parts info5
  go_enter Try.func42, Try.ntmps42
  by_cases h0 : n = 0
  · subst h0
    go_wp2
    go_ret
    exact ⟨_, rfl, Own.nil _ _ _, Below.refl _ _⟩
  have hp : 0 < n := by omega
  have hp2 : (0 : Int) < (n : Int) := by omega
  have hrz := fun ty => Lib.run_append_nil_zeros (P := Try.prog) w 22 3 ty 5 i0 (.int .u8 0) .i64 .i64 Try.underlying22 Try.underlying3 hi hz0 n hp (by rw [hz1]; decide) (by omega) (by rw [hz2]; omega)
  obtain ⟨G, hG⟩ : ∃ G, grownCap w n 0 5 = G := ⟨_, rfl⟩
  have hG1 : n ≤ G := by rw [← hG]; exact grownCap_ge w _ _ _
  have hG2 : G ≤ maxLen := by rw [← hG]; exact grownCap_le_maxLen w _ _ _ (by unfold maxLen; omega)
  rw [hG] at hrz
  obtain ⟨ROW, hROW⟩ : ∃ R : Array Value, Builtin.zeroCells (Value.int .u8 0).cells n ++ Builtin.zeroCells (Value.int .u8 0).cells (G - n) = R := ⟨_, rfl⟩
  rw [hROW] at hrz
  have hRl : ROW.toList.length = G := by
    rw [← hROW]
    simp only [Array.toList_append, List.length_append, Array.length_toList, size_zeroCells]
    show n * 1 + (G - n) * 1 = G
    omega
  obtain ⟨N, hN⟩ : ∃ N, w.heap.size = N := ⟨_, rfl⟩
  obtain ⟨V, hV⟩ : ∃ V, w.drew.alloc (.cells ROW 5) = V := ⟨_, rfl⟩
  have hbN : Blk V N ROW.toList 5 := by
    rw [← hN, ← hV]
    exact heap_alloc_new w.drew (.cells ROW 5)
  have hWV : Below N w V := by
    rw [← hV]
    exact ((Below.refl N w).drew).alloc (by show N ≤ w.heap.size; omega) _
  rw [hN, hV] at hrz
  have HO : Hid (Own 5 V N (.slice (some ⟨N, 0, none⟩) 0 G) []) := by
    refine OwnE.toB (OwnE.of (E := U8K) (l := []) ROW.toList hbN (Nat.le_refl _) (Nat.zero_le _) hG2 ?_ ?_)
    · rw [hRl]; exact (Nat.mul_one G).symm
    · rfl
  have HWV := Lib.hid hWV
  have HRZ := Lib.hid hrz
  have HG2 := Lib.hid hG2
  clear hRl hbN hWV hrz hROW hV hG hz0 hz1 hz2 hi hG2
  go_wp2_with (at_builtin; refine Lib.wpList_append_run _ rfl _ _ _ _ rfl _ _ rfl rfl _ _ (HRZ.out _) ?_)
  go_wp2
  go_ret
  refine ⟨_, rfl, ?_, ?_⟩
  · rw [hN]; exact HO.out
  · rw [hN]; exact HWV.out
end Go.Proofs.Ytmlpiembglmggaa
