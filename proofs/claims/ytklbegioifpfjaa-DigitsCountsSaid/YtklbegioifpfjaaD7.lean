/-
  Digit, Own, Check, Shift and Number of package digits: for every input; and the statements' live question, which is answered with true.
-/
import Derived.Test.YtklbegioifpfjaaD6
namespace Go.Proofs.Ytklbegioifpfjaa
open Go.RowKit

set_option maxHeartbeats 400000 in
theorem digitX_in (B : Nat) (v : Value) (l : List UInt8) (i k : Nat) (w : World) (hk : Wd k) (hr : Rd B w v l) (hl : l.length ≤ 1099511627776) (hi : i < l.length * (8 / k)) : Calls Try.prog 9 #[v, .int .i64 (i : Int), .int .i64 (k : Int)] w (Drew (.tuple #[.int .i64 (dig l i k : Nat), .int .i64 0]) w) := by
  have HK := Lib.hid hk
  have HR := Lib.hid hr
  have HI := Lib.hid hi
  obtain ⟨A, c, rfl, hc, hm⟩ := hr.shape
  obtain ⟨D, hD⟩ : ∃ D, dig l i k = D := ⟨_, rfl⟩
  have HD := Lib.hid hD
  rw [hD]
  obtain ⟨T, hT⟩ : ∃ T, l.length * (8 / k) = T := ⟨_, rfl⟩
  have hT2 : T ≤ 8796093022208 := by rw [← hT]; exact Nat.le_trans (Nat.mul_le_mul hl (Nat.div_le_self 8 k)) (by omega)
  rw [hT] at hi
  have HT := Lib.hid hT
  unfold maxLen at hm
  have zi : ¬ ((T : Int) ≤ (i : Int)) := by omega
  clear hk hr hD hT
  go_enter Try.func9, Try.ntmps9
  go_wp2_with fail
  refine (isWidth_yes k _ HK.out).mono ?_
  rintro e w2 ⟨rfl, rfl⟩
  go_wp2_with fail
  refine (count_any A l.length c k _ HK.out hl).mono ?_
  rintro e w2 ⟨rfl, rfl⟩
  rw [HT.out]
  go_wp2_with fail
  refine (digit_any B _ l i k _ HK.out HR.out hl HI.out).mono ?_
  rintro e w2 ⟨rfl, n, rfl⟩
  rw [HD.out]
  go_wp2
  go_ret2
  exact ⟨rfl, n, rfl⟩
set_option maxHeartbeats 400000 in
theorem digitX_out (B : Nat) (v : Value) (l : List UInt8) (i : Int) (k : Nat) (w : World) (hk : Wd k) (hr : Rd B w v l) (hl : l.length ≤ 1099511627776) (hi : i < 0 ∨ ((l.length * (8 / k) : Nat) : Int) ≤ i) : Calls Try.prog 9 #[v, .int .i64 i, .int .i64 (k : Int)] w (Just (.tuple #[.int .i64 0, .int .i64 1]) w) := by
  have HK := Lib.hid hk
  obtain ⟨A, c, rfl, hc, hm⟩ := hr.shape
  obtain ⟨T, hT⟩ : ∃ T, l.length * (8 / k) = T := ⟨_, rfl⟩
  rw [hT] at hi
  have HT := Lib.hid hT
  unfold maxLen at hm
  clear hk hr hT
  by_cases h0 : i < 0
  · clear hi
    go_enter Try.func9, Try.ntmps9
    go_wp2_with fail
    refine (isWidth_yes k _ HK.out).mono ?_
    rintro e w2 ⟨rfl, rfl⟩
    go_wp2
    go_ret2
    exact ⟨rfl, rfl⟩
  · have zi : (T : Int) ≤ i := by omega
    clear hi
    go_enter Try.func9, Try.ntmps9
    go_wp2_with fail
    refine (isWidth_yes k _ HK.out).mono ?_
    rintro e w2 ⟨rfl, rfl⟩
    go_wp2_with fail
    refine (count_any A l.length c k _ HK.out hl).mono ?_
    rintro e w2 ⟨rfl, rfl⟩
    rw [HT.out]
    go_wp2
    go_ret2
    exact ⟨rfl, rfl⟩
set_option maxHeartbeats 400000 in
theorem digitX_no (v : Value) (i z : Int) (w : World) (hz : NoW z) : Calls Try.prog 9 #[v, .int .i64 i, .int .i64 z] w (Just (.tuple #[.int .i64 0, .int .i64 1]) w) := by
  obtain ⟨h1, h2, h4, h8⟩ := hz
  go_enter Try.func9, Try.ntmps9
  go_wp2_with fail
  refine (isWidth_no z _ h1 h2 h4 h8).mono ?_
  rintro e w2 ⟨rfl, rfl⟩
  go_wp2
  go_ret2
  exact ⟨rfl, rfl⟩

set_option maxHeartbeats 400000 in
theorem ownX_yes (k : Nat) (w : World) (hk : Wd k) : Calls Try.prog 15 #[.int .i64 (k : Int)] w (Two (.int .i64 (onn k : Nat)) (.int .i64 0) w) := by
  have HK := Lib.hid hk
  clear hk
  go_enter Try.func15, Try.ntmps15
  go_wp2_with fail
  refine (isWidth_yes k _ HK.out).mono ?_
  rintro e w2 ⟨rfl, rfl⟩
  go_wp2_with fail
  refine (own_any k _ HK.out).mono ?_
  rintro e w2 ⟨rfl, hb⟩
  have B := Lib.hid hb
  clear hb
  go_wp2
  go_ret2
  exact ⟨rfl, B.out⟩
set_option maxHeartbeats 400000 in
theorem ownX_no (z : Int) (w : World) (hz : NoW z) : Calls Try.prog 15 #[.int .i64 z] w (Two (.int .i64 0) (.int .i64 1) w) := by
  obtain ⟨h1, h2, h4, h8⟩ := hz
  go_enter Try.func15, Try.ntmps15
  go_wp2_with fail
  refine (isWidth_no z _ h1 h2 h4 h8).mono ?_
  rintro e w2 ⟨rfl, rfl⟩
  go_wp2
  go_ret2
  exact ⟨rfl, Below.refl _ _⟩
set_option maxHeartbeats 400000 in
theorem checkX_yes (k : Nat) (w : World) (hk : Wd k) : Calls Try.prog 18 #[.int .i64 (k : Int)] w (Two (.int .i64 (chk k : Nat)) (.int .i64 0) w) := by
  have HK := Lib.hid hk
  clear hk
  go_enter Try.func18, Try.ntmps18
  go_wp2_with fail
  refine (isWidth_yes k _ HK.out).mono ?_
  rintro e w2 ⟨rfl, rfl⟩
  go_wp2_with fail
  refine (check_any k _ HK.out).mono ?_
  rintro e w2 ⟨rfl, hb⟩
  have B := Lib.hid hb
  clear hb
  go_wp2
  go_ret2
  exact ⟨rfl, B.out⟩
set_option maxHeartbeats 400000 in
theorem checkX_no (z : Int) (w : World) (hz : NoW z) : Calls Try.prog 18 #[.int .i64 z] w (Two (.int .i64 0) (.int .i64 1) w) := by
  obtain ⟨h1, h2, h4, h8⟩ := hz
  go_enter Try.func18, Try.ntmps18
  go_wp2_with fail
  refine (isWidth_no z _ h1 h2 h4 h8).mono ?_
  rintro e w2 ⟨rfl, rfl⟩
  go_wp2
  go_ret2
  exact ⟨rfl, Below.refl _ _⟩
set_option maxHeartbeats 400000 in
theorem shiftX_yes (k : Nat) (w : World) (hk : Wd k) : Calls Try.prog 20 #[.int .i64 (k : Int)] w (Two (.int .i64 (shf k : Nat)) (.int .i64 0) w) := by
  have HK := Lib.hid hk
  clear hk
  go_enter Try.func20, Try.ntmps20
  go_wp2_with fail
  refine (isWidth_yes k _ HK.out).mono ?_
  rintro e w2 ⟨rfl, rfl⟩
  go_wp2_with fail
  refine (shift_any k _ HK.out).mono ?_
  rintro e w2 ⟨rfl, hb⟩
  have B := Lib.hid hb
  clear hb
  go_wp2
  go_ret2
  exact ⟨rfl, B.out⟩
set_option maxHeartbeats 400000 in
theorem shiftX_no (z : Int) (w : World) (hz : NoW z) : Calls Try.prog 20 #[.int .i64 z] w (Two (.int .i64 0) (.int .i64 1) w) := by
  obtain ⟨h1, h2, h4, h8⟩ := hz
  go_enter Try.func20, Try.ntmps20
  go_wp2_with fail
  refine (isWidth_no z _ h1 h2 h4 h8).mono ?_
  rintro e w2 ⟨rfl, rfl⟩
  go_wp2
  go_ret2
  exact ⟨rfl, Below.refl _ _⟩
set_option maxHeartbeats 400000 in
theorem numberX_yes (l : List UInt8) (k : Nat) (w : World) (hk : Wd k) (hl : l.length = 32) : Calls Try.prog 13 #[.agg (bys l).toArray, .int .i64 (k : Int)] w (Two (.int .i64 (num l k : Nat)) (.int .i64 0) w) := by
  have HK := Lib.hid hk
  have HL := Lib.hid hl
  have h28 : (Try.prog.info? 28).map (·.size) = some (bys l).length := by rw [bys_length, hl]; exact s28
  have H28 := Lib.hid h28
  clear hk hl h28
  go_enter Try.func13, Try.ntmps13
  go_wp2_with (refine wpList_box_blk rfl 28 _ rfl (bys l) rfl ?_)
  intro w1 a1 a2 a3
  have A1 := Lib.hid a1
  have A2 := Lib.hid a2
  have A3 := Lib.hid a3
  clear a1 a2 a3
  go_wp2_with fail
  refine (isWidth_yes k _ HK.out).mono ?_
  rintro e w2 ⟨rfl, rfl⟩
  go_wp2_with (refine wpList_load_blk rfl 28 _ rfl w.heap.size rfl (bys l) 28 A1.out 32 5 tu28 H28.out ?_)
  refine (number_any l k _ HK.out HL.out).mono ?_
  rintro e w2 ⟨rfl, hb⟩
  have hsz := A2.out
  have B : Hid (Below w.heap.size w w2) := A3.out.trans (hb.mono (by omega))
  clear hb hsz A1 A2 A3
  go_wp2
  go_ret2
  exact ⟨rfl, B.out⟩
set_option maxHeartbeats 400000 in
theorem numberX_no (cs : List Value) (z : Int) (w : World) (hz : NoW z) : Calls Try.prog 13 #[.agg cs.toArray, .int .i64 z] w (Two (.int .i64 0) (.int .i64 1) w) := by
  obtain ⟨h1, h2, h4, h8⟩ := hz
  go_enter Try.func13, Try.ntmps13
  go_wp2_with (refine wpList_box_blk rfl 28 _ rfl cs rfl ?_)
  intro w1 a1 a2 a3
  have A3 := Lib.hid a3
  clear a1 a2 a3
  go_wp2_with fail
  refine (isWidth_no z _ h1 h2 h4 h8).mono ?_
  rintro e w2 ⟨rfl, rfl⟩
  go_wp2
  go_ret2
  exact ⟨rfl, A3.out⟩

set_option maxHeartbeats 400000 in
theorem alive_any (w : World) : Calls Try.prog 8 #[] w (One (.bool true) w) := by
  have w4 : Wd 4 := by simp [Wd]
  have W4 := Lib.hid w4
  clear w4
  go_enter Try.func8, Try.ntmps8
  go_wp2_with fail
  refine (digitX_in _ _ [18, 52] 2 4 _ W4.out (Rd.two 5 _ w 18 52 18 52 rfl rfl) (by simp) (by simp)).mono ?_
  rintro e w2 ⟨rfl, n, rfl⟩
  rw [show dig [18, 52] 2 4 = 3 by decide]
  have B1 : Hid (Below w.heap.size w ((w.alloc (.cells #[.int .u8 18, .int .u8 52] 5)).drewN n)) := Below.drewN' ((Below.refl _ _).alloc (Nat.le_refl _) _)
  generalize (w.alloc (.cells #[.int .u8 18, .int .u8 52] 5)).drewN n = w2 at B1 ⊢
  go_wp2_with fail
  refine (digitX_out _ _ [18] 2 4 _ W4.out (Rd.one 5 w2 18) (by simp) (by simp)).mono ?_
  rintro e w3 ⟨rfl, rfl⟩
  have B2 : Hid (Below w.heap.size w (w2.alloc (.cells #[.int .u8 18] 5))) := B1.out.alloc B1.out.size _
  go_wp2_with fail
  refine (checkX_yes 4 _ W4.out).mono ?_
  rintro e w4 ⟨rfl, hb⟩
  rw [show chk 4 = 3 by decide]
  have B3 : Hid (Below w.heap.size w w4) := B2.out.trans (hb.mono B2.out.size)
  clear hb B1 B2
  go_wp2
  go_ret
  exact ⟨rfl, B3.out⟩
end Go.Proofs.Ytklbegioifpfjaa
