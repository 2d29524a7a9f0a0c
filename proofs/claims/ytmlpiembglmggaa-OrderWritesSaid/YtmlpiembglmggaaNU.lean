/-
  slices.Equal over the same strings; the program's orders: two replies that differ in their versions alone. Each theorem states its own conditions.
-/
import Derived.Test.YtmlpiembglmggaaNO
namespace Go.Proofs.Ytmlpiembglmggaa
open Go.RowKit

set_option maxRecDepth 100000 in
set_option maxHeartbeats 4000000 in
theorem equalS_same (l : List ByteArray) (v u : Value) (w : World) (hr : RdS w.heap.size w v l) (hr2 : RdS w.heap.size w u l) : Calls Try.prog 34 #[v, u] w (One (.bool true) w) := by
  obtain ⟨A, cp, rfl, hc, hm⟩ := hr.shape
  obtain ⟨A2, cp2, rfl, hc2, hm2⟩ := hr2.shape
  unfold maxLen at hm hm2
  obtain ⟨n, hn⟩ : ∃ n, l.length = n := ⟨_, rfl⟩
  have HN := Lib.hid hn
  have HRa := Lib.hid hr
  have HRb := Lib.hid hr2
  rw [hn] at hc HRa hc2 HRb ⊢
  clear hr hn hr2
  go_enter Try.func34, Try.ntmps34
  go_wp2
  go_loopw [5, 13] (fun _ x wr => ∃ i : Nat, i ≤ n ∧ x = .int .i64 (i : Int) ∧ Hid (Below w.heap.size w wr)) (fun _ x _ => n - (intOf x).toNat)
  case atStart => exact ⟨0, by omega, rfl, Below.refl _ _⟩
  case round =>
    obtain ⟨i, hi, rfl, HD⟩ := hrel
    by_cases hi2 : i < n
    · have zi : (i : Int) < (n : Int) := by omega
      have hlt : i < l.length := by rw [HN.out]; exact hi2
      obtain ⟨a, hA, c0⟩ := (HRa.out.below HD.out).at_ i hlt
      obtain ⟨b, hA2, d0⟩ := (HRb.out.below HD.out).at_ i hlt
      subst hA hA2
      obtain ⟨x, hx⟩ : ∃ x, l[i] = x := ⟨_, rfl⟩
      rw [hx] at c0 d0
      have hne : (x.toList != x.toList) = false := by simp
      have hne1 : (x.toList == x.toList) = true := beq_self_eq_true _
      clear hx
      go_wp2
      refine wp_region_quiet_lit (by kernel_rfl) (by kernel_rfl) ?_
      repeat (first | go_big_quiet_step (fail) | quiet_step (fail))
      refine wpQuiet_nil ?_
      intro _ hw'
      obtain ⟨nq, hw''⟩ := hw'
      subst hw''
      have HD2 : Hid (Below w.heap.size w (wr.drewN nq)) := Below.drewN' HD.out
      go_wp2
      go_roundw
      case rel => exact ⟨i + 1, by omega, by go_num, HD2⟩
      case measure => simp [intOf]; omega
    · have hE : i = n := by omega
      subst hE
      go_wp2
      go_ret
      exact ⟨rfl, HD.out⟩

set_option maxRecDepth 100000 in
set_option maxHeartbeats 4000000 in
theorem orSame_any (r : Rp) (z : Int) (nv nu : Value) (w : World) (hr : RdS w.heap.size w nv (pN r)) (hr2 : RdS w.heap.size w nu (pN r)) (hn : (pN r).length ≤ 1000000) : Calls Try.prog 18 #[.agg (rpc r nv).toArray, .agg (rpc (pC r, pQ r, pE r, pV r, z, pN r) nu).toArray] w (One (.bool (decide (pR r = z))) w) := by
  have HR := Lib.hid hr
  have HS := Lib.hid hr2
  have HN := Lib.hid hn
  clear hr hr2 hn HN
  have n1 : (pC r == pC r) = true := beq_self_eq_true _
  have n2 : (pQ r == pQ r) = true := beq_self_eq_true _
  have n3 : (pE r == pE r) = true := beq_self_eq_true _
  have n4 : ((⟨(pV r).toArray⟩ : ByteArray).toList == (⟨(pV r).toArray⟩ : ByteArray).toList) = true := beq_self_eq_true _
  go_enter Try.func18, Try.ntmps18
  go_wp2_with (refine wpList_box_blk rfl 28 _ rfl (rpc r nv) rfl ?_)
  intro y0 b1 b2 b3
  obtain ⟨gb0, hg⟩ : ∃ g, w.heap.size = g := ⟨_, rfl⟩
  have X0 := Lib.hid b1
  have EB0 := Lib.hid b3
  rw [hg] at X0 ⊢
  clear b1 b2 b3 hg
  go_wp2_with (refine wpList_box_blk rfl 28 _ rfl (rpc (pC r, pQ r, pE r, pV r, z, pN r) nu) rfl ?_)
  intro y1 b1 b2 b3
  obtain ⟨gb1, hg⟩ : ∃ g, y0.heap.size = g := ⟨_, rfl⟩
  have X1 := Lib.hid b1
  have EB1 := Lib.hid b3
  rw [hg] at X1 ⊢
  clear b1 b2 b3 hg
  have P0_w := Lib.hid (EB0.out.trans (EB1.out.mono EB0.out.size))
  have c_X0 := (X0.out.below EB1.out X0.out.lt).at_ 0 _ rfl
  have c_X0_1 := (X0.out.below EB1.out X0.out.lt).at_ 1 _ rfl
  have c_X0_2 := (X0.out.below EB1.out X0.out.lt).at_ 2 _ rfl
  have c_X0_3 := (X0.out.below EB1.out X0.out.lt).at_ 3 _ rfl
  have c_X0_4 := (X0.out.below EB1.out X0.out.lt).at_ 4 _ rfl
  have c_X0_5 := (X0.out.below EB1.out X0.out.lt).at_ 5 _ rfl
  have c_X1 := X1.out.at_ 0 _ rfl
  have c_X1_1 := X1.out.at_ 1 _ rfl
  have c_X1_2 := X1.out.at_ 2 _ rfl
  have c_X1_3 := X1.out.at_ 3 _ rfl
  have c_X1_4 := X1.out.at_ 4 _ rfl
  have c_X1_5 := X1.out.at_ 5 _ rfl
  by_cases hz : pR r = z
  · subst hz
    have n5 : (pR r == pR r) = true := beq_self_eq_true _
    have HD : Hid (decide (pR r = pR r) = true) := decide_eq_true rfl
    go_wp2_with fail
    refine (equalS_same (pN r) nv nu _ ((HR.out.below P0_w.out).more P0_w.out.size) ((HS.out.below P0_w.out).more P0_w.out.size)).mono ?_
    rintro e w9 ⟨rfl, hb⟩
    have E9 := Lib.hid hb
    clear hb
    have P1_w := Lib.hid (P0_w.out.trans (E9.out.mono P0_w.out.size))
    clear P0_w
    have P1_y0 := Lib.hid (EB1.out.trans (E9.out.mono EB1.out.size))
    go_wp2
    go_ret
    exact ⟨by rw [HD.out]; rfl, P1_w.out⟩
  · have n5 : (pR r == z) = false := by rw [beq_eq_false_iff_ne]; exact hz
    have HD : Hid (decide (pR r = z) = false) := decide_eq_false hz
    clear hz
    go_wp2
    go_ret
    exact ⟨by rw [HD.out]; rfl, P0_w.out⟩
end Go.Proofs.Ytmlpiembglmggaa
