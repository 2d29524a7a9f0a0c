/-
  The document's own padding of every number of bytes up to 2^40.
-/
import Derived.Test.YtnemkefmlffigaaSa9
namespace Go.Proofs.Ytnemkefmlffigaa
open Go.RowKit

theorem Own.first (w : World) (b : UInt8) : Own 5 (w.alloc (.cells #[.int .u8 (b.toNat : Int)] 5)) w.heap.size (.slice (some ⟨w.heap.size, 0, none⟩) 1 1) [b] :=
  World.ownsRow_lit w #[.int .u8 (b.toNat : Int)] 1 (Nat.le_refl _) (by unfold maxLen; omega) rfl

def lenOf : Value → Nat
  | .slice _ n _ => n
  | _ => 0
/-- Padding with so many zero bytes so far. -/
def pz (j : Nat) : List UInt8 := 128 :: List.replicate j 0
theorem pz_length (j : Nat) : (pz j).length = j + 1 := by simp [pz]
theorem pz_snoc (j : Nat) : pz j ++ [0] = pz (j + 1) := by simp [pz, List.replicate_succ']
theorem zn_stop (N j : Nat) (h : (N + (j + 1) + 8) % 64 = 0) (hj : j ≤ zn N) : j = zn N := by unfold zn at *; omega
theorem zn_go (N j : Nat) (h : (N + (j + 1) + 8) % 64 ≠ 0) (hj : j ≤ zn N) : j < zn N := by unfold zn at *; omega

theorem pe_snoc (C p : Nat) (h : p < 8) : (be 8 C).take (8 - (p + 1)) ++ [UInt8.ofNat (C / 256 ^ p)] = (be 8 C).take (8 - p) := by
  have : p = 0 ∨ p = 1 ∨ p = 2 ∨ p = 3 ∨ p = 4 ∨ p = 5 ∨ p = 6 ∨ p = 7 := by omega
  rcases this with rfl | rfl | rfl | rfl | rfl | rfl | rfl | rfl <;> rfl

set_option maxHeartbeats 1000000 in
theorem refPad_any (n : Int) (w : World) (h0 : -9223372036854775808 ≤ n) (h1 : n ≤ 1099511627776) : Calls Try.prog 89 #[.int .i64 n] w (Gives w.heap.size (padl n.toNat) w) := by
  obtain ⟨i0, hi, hz0, hz1, hz2⟩ := info_parts info5
  obtain ⟨N, hN⟩ : ∃ N : Nat, n.toNat = N := ⟨_, rfl⟩
  have hmax : max n 0 = (N : Int) := by omega
  have hN1 : (N : Int) ≤ 1099511627776 := by omega
  rw [hN]
  have HI := Lib.hid hi
  have H0 := Lib.hid hz0
  have H1 := Lib.hid hz1
  have H2 := Lib.hid hz2
  have hzn : zn N < 64 := by unfold zn; omega
  clear hi hz0 hz1 hz2 hN h0 h1
  have O1 : Hid (Own 5 (w.alloc (.cells #[.int .u8 128] 5)) w.heap.size (.slice (some ⟨w.heap.size, 0, none⟩) 1 1) (pz 0)) := Own.first w 128
  have B1 : Hid (Below w.heap.size w (w.alloc (.cells #[.int .u8 128] 5))) := (Below.refl _ _).alloc (Nat.le_refl _) _
  go_enter Try.func89, Try.ntmps89
  go_wp2
  generalize w.alloc (.cells #[.int .u8 128] 5) = w1 at O1 B1 ⊢
  clear hmax
  go_loopw [3] (fun v wr => ∃ j : Nat, j ≤ zn N ∧ ∃ A c, v = .slice A (j + 1) c ∧ j + 1 ≤ c ∧ c ≤ maxLen ∧ Hid (Own 5 wr w.heap.size v (pz j)) ∧ Hid (Below w.heap.size w wr)) (fun v _ => 64 - lenOf v)
  case atStart => exact ⟨0, by omega, _, 1, rfl, by omega, by unfold maxLen; omega, O1, B1⟩
  case round =>
    clear O1 B1
    obtain ⟨j, hj, A, c, rfl, hc, hcm, O, B⟩ := hrel
    have hs := B.out.size
    unfold maxLen at hcm
    by_cases hz : (N + (j + 1) + 8) % 64 = 0
    · have hjz := zn_stop N j hz hj
      have heq : (((N : Int) + ((j : Int) + 1) + 8) % 64 != 0) = false := by simp; omega
      obtain ⟨C, hC⟩ : ∃ C : Nat, N * 8 = C := ⟨_, rfl⟩
      have eC : IntKind.u64.wrap ((N : Int) * 8) = (C : Int) := by rw [IntKind.wrap_u64]; omega
      have hC1 : C ≤ 8796093022208 := by omega
      have HP : Hid (pz j ++ be 8 C = padl N) := by
        show pz j ++ be 8 C = padl N
        unfold pz padl
        rw [hjz, Nat.mod_eq_of_lt (by omega), hC]
        rfl
      have hj64 : j < 64 := by omega
      clear hC hz hjz hj hzn
      go_wp2
      clear heq eC
      go_loopw [3, 5] (fun v x wr => ∃ m : Nat, m ≤ 8 ∧ x = .int .i64 ((m : Int) - 1) ∧ ∃ A c, v = .slice A (j + 9 - m) c ∧ j + 9 - m ≤ c ∧ c ≤ maxLen ∧ Hid (Own 5 wr w.heap.size v (pz j ++ (be 8 C).take (8 - m))) ∧ Hid (Below w.heap.size w wr)) (fun _ x _ => (intOf x + 1).toNat)
      case atStart => exact ⟨8, by omega, rfl, A, c, rfl, hc, hcm, by simpa using O, B⟩
      case round =>
        clear O B hc hcm
        obtain ⟨m, hm, rfl, A, c, rfl, hc, hcm, O, B⟩ := hrel
        have hs := B.out.size
        unfold maxLen at hcm
        by_cases hm2 : m = 0
        · subst hm2
          rw [show ((0 : Nat) : Int) - 1 = -1 from rfl]
          go_wp2
          go_ret
          refine ⟨_, rfl, ?_, B.out⟩
          have h := O.out
          rw [show 8 - 0 = (be 8 C).length by rw [be_length], List.take_length, HP.out] at h
          exact h
        · obtain ⟨p, rfl⟩ : ∃ p, m = p + 1 := ⟨m - 1, by omega⟩
          rw [show ((p + 1 : Nat) : Int) - 1 = (p : Int) by omega]
          obtain ⟨bb, hbb⟩ : ∃ b : UInt8, UInt8.ofNat (C / 256 ^ p) = b := ⟨_, rfl⟩
          have eb : (C : Int) / 2 ^ (8 * p) % 256 = (bb.toNat : Int) := by
            have h := byte_shift (C : Int) p (by omega)
            rw [Int.toNat_natCast, hbb] at h
            exact h
          have HN : Hid (pz j ++ (be 8 C).take (8 - (p + 1)) ++ [bb] = pz j ++ (be 8 C).take (8 - p)) := by
            show _ = _
            rw [List.append_assoc, ← hbb, pe_snoc C p (by omega)]
          have HLL : Hid ((pz j ++ (be 8 C).take (8 - (p + 1))).length = j + 9 - (p + 1)) := by
            show _ = _
            rw [List.length_append, pz_length, List.length_take, be_length]; omega
          obtain ⟨lp, hlp⟩ : ∃ x, pz j ++ (be 8 C).take (8 - (p + 1)) = x := ⟨_, rfl⟩
          rw [hlp] at HN HLL O
          clear hlp
          obtain ⟨n1, hn1⟩ : ∃ n, j + 9 - (p + 1) = n := ⟨_, rfl⟩
          rw [hn1] at HLL hc O ⊢
          have hn2 : n1 ≤ 80 := by omega
          clear hbb hn1
          go_wp2_with (at_builtin; refine wpList_app1 rfl _ _ 24 rfl 5 i0 Try.underlying24 HI.out H0.out H1.out H2.out w.heap.size _ _ bb ⟨wr.heap.size, 0, none⟩ rfl (O.out.alloc _) rfl (by first | (simp; done) | (rw [← eb]; simp)) (by rw [HLL.out]; omega) (by simp; omega) ?_)
          intro v' w' hown hb
          rw [HN.out] at hown
          have hsh := hown.rd.shape
          rw [List.length_append, pz_length, List.length_take, be_length] at hsh
          obtain ⟨A', c', hv', hc', hcm'⟩ := hsh
          rw [show j + 1 + min (8 - p) 8 = j + 9 - p by omega] at hv' hc'
          subst hv'
          have O' := Lib.hid hown
          have B' : Hid (Below w.heap.size w w') := (B.out.alloc hs _).trans hb
          clear hown hb O B eb
          go_wp2
          go_roundw
          case rel => exact ⟨p, by omega, by go_num, A', c', rfl, hc', hcm', O', B'⟩
          case measure => simp [intOf]
    · have hjz := zn_go N j hz hj
      have hne : (((N : Int) + ((j : Int) + 1) + 8) % 64 != 0) = true := by simp; omega
      go_wp2_with (at_builtin; refine wpList_app1 rfl _ _ 24 rfl 5 i0 Try.underlying24 HI.out H0.out H1.out H2.out w.heap.size _ (pz j) 0 ⟨wr.heap.size, 0, none⟩ rfl (O.out.alloc _) rfl (by simp) (by rw [pz_length]; omega) (by simp; omega) ?_)
      intro v' w' hown hb
      rw [pz_snoc] at hown
      have hsh := hown.rd.shape
      rw [pz_length] at hsh
      obtain ⟨A', c', hv', hc', hcm'⟩ := hsh
      subst hv'
      have O' := Lib.hid hown
      have B' : Hid (Below w.heap.size w w') := (B.out.alloc hs _).trans hb
      clear hown hb O B hne
      go_wp2
      go_roundw
      case rel => exact ⟨j + 1, by omega, A', c', rfl, hc', hcm', O', B'⟩
      case measure => simp [lenOf]; omega
end Go.Proofs.Ytnemkefmlffigaa
