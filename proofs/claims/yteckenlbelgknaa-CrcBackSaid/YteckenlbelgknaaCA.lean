/-
  The program's table of the effects of bytes. Each theorem states its own conditions.
-/
import Derived.Test.YteckenlbelgknaaC3
import Derived.Test.YteckenlbelgknaaCT
import Derived.StillTailTactics
namespace Go.Proofs.Yteckenlbelgknaa
open Go.RowKit

set_option maxRecDepth 100000 in
set_option maxHeartbeats 4000000 in
theorem effect_any (x : Nat) (w : World) (hx : x < 4294967296) : Calls Try.prog 35 #[.int .u32 (x : Int)] w fun e w' => e = .returned (.int .u32 (tabC x : Int)) ∧ w = w' := by
  have HX := Lib.hid hx
  clear hx
  go_enter Try.func35, Try.ntmps35
  go_wp2
  go_loop [0, 4] (fun u x1 => ∃ k : Nat, k ≤ 8 ∧ x1 = .int .i64 (k : Int) ∧ u = .int .u32 ((bitsC 0 0 k x : Nat) : Int)) (fun _ x1 => 8 - (intOf x1).toNat)
  case atStart => exact ⟨0, Nat.zero_le _, rfl, rfl⟩
  case round =>
    obtain ⟨k, hk, rfl, rfl⟩ := hrel
    by_cases hk2 : k < 8
    · have zk : (k : Int) < 8 := by omega
      have hs2 := bitsC_snoc 0 k 0 x
      rw [Nat.zero_div, Nat.zero_mod] at hs2
      obtain ⟨z, hz⟩ : ∃ q, bitsC 0 0 k x = q := ⟨_, rfl⟩
      have hzl : z < 4294967296 := by rw [← hz]; exact bitsC_lt _ _ _ _ HX.out
      rw [hz] at hs2 ⊢
      have HS2 := Lib.hid hs2
      clear hs2 hz
      have hz2 : (z : Int) / 2 = ((z / 2 : Nat) : Int) := by omega
      have hand := u32_and_nat z 1 hzl (by decide)
      rw [Nat.and_one_is_mod, show ((1 : Nat) : Int) = 1 from rfl] at hand
      obtain ⟨t, ht⟩ : ∃ q, z % 2 = q := ⟨_, rfl⟩
      rw [ht] at hand
      by_cases hq : t = 1
      · subst hq
        have HR2 : Hid (bitsC 0 0 (k + 1) x = z / 2 ^^^ 2197175160) := Lib.hid (by rw [HS2.out, bitC, if_neg (by omega)]; rfl)
        have hx9 := u32_xor_nat (z / 2) 2197175160 (by omega) (by decide)
        rw [← hz2, show ((2197175160 : Nat) : Int) = 2197175160 from rfl] at hx9
        clear ht hz2
        go_wp2
        go_round
        case rel => exact ⟨k + 1, by omega, by go_num, by rw [HR2.out]⟩
        case measure => simp [intOf]; omega
      · have ht0 : t = 0 := by omega
        subst ht0
        have HR2 : Hid (bitsC 0 0 (k + 1) x = z / 2) := Lib.hid (by rw [HS2.out, bitC, if_pos (by omega), Nat.xor_zero])
        have HZ2 := Lib.hid hz2
        clear ht hz2 hq
        go_wp2
        go_round
        case rel => exact ⟨k + 1, by omega, by go_num, by rw [HR2.out, HZ2.out]⟩
        case measure => simp [intOf]; omega
    · obtain rfl : k = 8 := by omega
      have zk : ¬ ((8 : Nat) : Int) < 8 := by omega
      go_wp2
      go_ret
      exact ⟨rfl, rfl⟩
/-- The table in memory: a block of the call's own. -/
def rowT (k : Nat) : List Value := (List.range 256).map fun i => Value.int .u32 (((if i < k then tabC i else 0) : Nat) : Int)
theorem rowT_len (k : Nat) : (rowT k).length = 256 := by unfold rowT; rw [List.length_map, List.length_range]
theorem rowT_at (k i : Nat) (hi : i < 256) : (rowT k)[i]? = some (.int .u32 (((if i < k then tabC i else 0) : Nat) : Int)) := by
  unfold rowT
  rw [List.getElem?_map, List.getElem?_range hi]
  rfl
theorem rowT_set (k : Nat) (h : k < 256) : (rowT k).set k (.int .u32 ((tabC k : Nat) : Int)) = rowT (k + 1) := by
  apply List.ext_getElem?
  intro i
  by_cases hi : i < 256
  · rw [List.getElem?_set, rowT_at _ _ hi, rowT_at _ _ hi, rowT_len]
    by_cases e : k = i
    · subst e
      rw [if_pos rfl, if_pos h, if_pos (by omega)]
    · rw [if_neg e]
      by_cases h2 : i < k
      · rw [if_pos h2, if_pos (by omega)]
      · rw [if_neg h2, if_neg (by omega)]
  · rw [List.getElem?_eq_none (by rw [List.length_set, rowT_len]; omega), List.getElem?_eq_none (by rw [rowT_len]; omega)]
theorem infoT : (Try.prog.info? 57).map (·.zero) = some (some (.agg (rowT 0).toArray)) := by kernel_rfl
/-- A pointer to the table, in a block from B on. -/
def Tab (B : Nat) (w : World) (v : Value) : Prop := ∃ g, v = .pointer (some ⟨g, 0, none⟩) ∧ B ≤ g ∧ Blk w g (rowT 256) 57
theorem Tab.below {B C : Nat} {w w' : World} {v : Value} (h : Tab B w v) (hb : Below C w w') (hC : w.heap.size ≤ C) : Tab B w' v := by
  obtain ⟨g, rfl, h1, h2⟩ := h
  exact ⟨g, rfl, h1, h2.below hb (Nat.lt_of_lt_of_le h2.lt hC)⟩
set_option maxRecDepth 100000 in
set_option maxHeartbeats 4000000 in
theorem newEffects_any (w : World) : Calls Try.prog 23 #[] w fun e w' => ∃ v, e = .returned v ∧ Tab w.heap.size w' v ∧ Below w.heap.size w w' := by
  go_enter Try.func23, Try.ntmps23
  go_wp2_with (refine wpList_alloc_blk rfl 57 rfl _ infoT ?_)
  intro w1 hb1 hs1 hbl1
  have HB1 := Lib.hid hb1
  have HBL1 := Lib.hid hbl1
  clear hb1 hs1 hbl1
  go_wp2
  go_loopw [3] (fun i wr => ∃ k : Nat, k ≤ 256 ∧ i = .int .i64 (k : Int) ∧ Hid (Blk wr w.heap.size (rowT k) 57) ∧ Hid (Below w.heap.size w wr)) (fun i _ => 256 - (intOf i).toNat)
  case atStart => exact ⟨0, by omega, rfl, HB1, HBL1⟩
  case round =>
    clear HB1 HBL1
    obtain ⟨k, hk, rfl, G1, GB⟩ := hrel
    by_cases hk2 : k < 256
    · have zk : (k : Int) < 256 := by omega
      have hwr : IntKind.u32.wrap (k : Int) = (k : Int) := by rw [IntKind.wrap_u32']; omega
      have hcs := G1.out.cell k
      rw [rowT_at k k hk2] at hcs
      have hfs := G1.out.frozen k
      go_wp2_with fail
      refine (effect_any k wr (by omega)).mono ?_
      rintro e w' ⟨rfl, rfl⟩
      go_wp2
      go_roundw
      case rel =>
        refine ⟨k + 1, by omega, by go_num, ?_, GB.out.setCell (by simp) _⟩
        have h := G1.out.set k (.int .u32 ((tabC k : Nat) : Int))
        rw [rowT_set k hk2] at h
        exact h
      case measure => simp [intOf]; omega
    · obtain rfl : k = 256 := by omega
      have zk : ¬ ((256 : Nat) : Int) < 256 := by omega
      go_wp2
      go_ret
      exact ⟨_, rfl, ⟨_, rfl, Nat.le_refl _, G1.out⟩, GB.out⟩
end Go.Proofs.Yteckenlbelgknaa
