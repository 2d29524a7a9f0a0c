/-
  The number of bits that math/bits.Len64 answers takes just as many bytes as the number without leading zero bytes, for every number of 64 bits; the world is as it was.
-/
import Derived.Test.YteckenlbelgknaaProg
import Derived.Test.YteckenlbelgknaaPs
import Derived.Lib.Strings
import Derived.Lib.Slices
import Derived.Lib.Small
import Derived.Lib.Walk
import Derived.Lib.BitFns
namespace Go.Proofs.Yteckenlbelgknaa

/-- What Len64 answers: a number of bits that takes just wid n bytes. -/
def LenOf (n : Nat) (w : World) (e : Ending) (w' : World) : Prop := ∃ L : Int, 0 ≤ L ∧ L ≤ 64 ∧ (L + 7) / 8 = wid n ∧ e = .returned (.int .i64 L) ∧ w = w'

theorem bl_pos : ∀ n : Fin 256, 0 < n.val → 1 ≤ Lib.bitLen n.val := by decide +kernel
theorem bl (x : Int) (h0 : 0 ≤ x) (h1 : x ≤ 255) : 0 ≤ (Lib.bitLen x.toNat : Int) ∧ (Lib.bitLen x.toNat : Int) ≤ 8 ∧ (0 < x → 1 ≤ (Lib.bitLen x.toNat : Int)) := by
  have l := Lib.bitLen_le8 ⟨x.toNat, by omega⟩
  have p := bl_pos ⟨x.toNat, by omega⟩
  simp only at l p
  omega

theorem lenOf_mk {x : Int} {w : World} {L : Int} (k : Nat) (h1 : 0 ≤ L) (h2 : L ≤ 64) (h3 : (L + 7) / 8 = k) (h4 : wid x.toNat = k) : LenOf x.toNat w (.returned (.int .i64 L)) w :=
  ⟨L, h1, h2, by omega, rfl, rfl⟩

theorem wid_case (n k : Nat) (h : (n = 0 ∧ k = 0) ∨ (0 < n ∧ n < 256 ∧ k = 1) ∨ (256 ≤ n ∧ n < 65536 ∧ k = 2) ∨ (65536 ≤ n ∧ n < 16777216 ∧ k = 3) ∨ (16777216 ≤ n ∧ n < 4294967296 ∧ k = 4) ∨
    (4294967296 ≤ n ∧ n < 1099511627776 ∧ k = 5) ∨ (1099511627776 ≤ n ∧ n < 281474976710656 ∧ k = 6) ∨ (281474976710656 ≤ n ∧ n < 72057594037927936 ∧ k = 7) ∨ (72057594037927936 ≤ n ∧ k = 8)) : wid n = k := by
  unfold wid
  repeat' split
  all_goals omega

theorem len8_bd (y : Int) (h0 : 0 ≤ y) (h1 : y ≤ 255) : 0 ≤ Lib.len8 y ∧ Lib.len8 y ≤ 8 ∧ (0 < y → 1 ≤ Lib.len8 y) := by
  rw [Lib.len8_of y h0 h1]
  exact bl y h0 h1

theorem lenfin {x : Int} {w : World} (y c : Int) (k : Nat) (h0 : 0 ≤ y) (h1 : y ≤ 255) (hp : 0 < y) (hc : c + 8 = 8 * (k : Int)) (hk : 1 ≤ k) (hk8 : k ≤ 8) (hw : wid x.toNat = k) :
    LenOf x.toNat w (.returned (.int .i64 ((c + ((Lib.len8 y + 9223372036854775808) % 18446744073709551616 - 9223372036854775808) + 9223372036854775808) % 18446744073709551616 - 9223372036854775808))) w := by
  obtain ⟨b0, b1, b2⟩ := len8_bd y h0 h1
  have b3 := b2 hp
  exact lenOf_mk k (by omega) (by omega) (by omega) hw

theorem lenfin0 {x : Int} {w : World} (y : Int) (h0 : 0 ≤ y) (h1 : y ≤ 255) (hxy : y = x) :
    LenOf x.toNat w (.returned (.int .i64 ((Lib.len8 y + 9223372036854775808) % 18446744073709551616 - 9223372036854775808))) w := by
  subst hxy
  obtain ⟨b0, b1, b2⟩ := len8_bd y h0 h1
  by_cases hp : 0 < y
  · have b3 := b2 hp
    exact lenOf_mk 1 (by omega) (by omega) (by omega) (wid_case _ _ (by omega))
  · obtain rfl : y = 0 := by omega
    have hz : Lib.len8 0 = 0 := by decide +kernel
    exact lenOf_mk 0 (by omega) (by omega) (by omega) (wid_case _ _ (by omega))

set_option maxRecDepth 100000 in
set_option maxHeartbeats 1000000 in
theorem len64_any (x : Int) (w : World) (h0 : 0 ≤ x) (h1 : x ≤ 18446744073709551615) : Calls Try.prog 41 #[.int .u64 x] w (LenOf x.toNat w) := by
  go_enter Try.func41, Try.ntmps41
  go_wp2
  all_goals go_ret
  · exact lenfin (x / 4294967296 / 65536 / 256 % 256) 56 8 (by omega) (by omega) (by omega) (by omega) (by omega) (by omega) (wid_case _ _ (by omega))
  · exact lenfin (x / 4294967296 / 65536 % 256) 48 7 (by omega) (by omega) (by omega) (by omega) (by omega) (by omega) (wid_case _ _ (by omega))
  · exact lenfin (x / 4294967296 / 256 % 256) 40 6 (by omega) (by omega) (by omega) (by omega) (by omega) (by omega) (wid_case _ _ (by omega))
  · exact lenfin (x / 4294967296 % 256) 32 5 (by omega) (by omega) (by omega) (by omega) (by omega) (by omega) (wid_case _ _ (by omega))
  · exact lenfin (x / 65536 / 256 % 256) 24 4 (by omega) (by omega) (by omega) (by omega) (by omega) (by omega) (wid_case _ _ (by omega))
  · exact lenfin (x / 65536 % 256) 16 3 (by omega) (by omega) (by omega) (by omega) (by omega) (by omega) (wid_case _ _ (by omega))
  · exact lenfin (x / 256 % 256) 8 2 (by omega) (by omega) (by omega) (by omega) (by omega) (by omega) (wid_case _ _ (by omega))
  · exact lenfin0 (x % 256) (by omega) (by omega) (by omega)
end Go.Proofs.Yteckenlbelgknaa
