/-
  The program's sums of CRC-32C by its table. Each theorem states its own conditions.
-/
import Derived.Test.YteckenlbelgknaaCA
import Derived.Test.YteckenlbelgknaaC8
namespace Go.Proofs.Yteckenlbelgknaa
open Go.RowKit

theorem byteC_tab2 (x : Nat) (b : UInt8) : byteC x b = tabC (x % 256 ^^^ b.toNat) ^^^ (x / 256) := by
  have hb : b.toNat < 256 := b.toNat_lt
  have h := Nat.xor_mod_two_pow (a := x) (b := b.toNat) (n := 8)
  rw [show (2 : Nat) ^ 8 = 256 from rfl] at h
  rw [byteC_tab, h, Nat.mod_eq_of_lt hb]
theorem cpl32 (s : Nat) (hs : s < 4294967296) : bits .xor .u32 IntKind.u32.max (s : Int) = ((s ^^^ 4294967295 : Nat) : Int) := by
  have hm : IntKind.u32.max = ((4294967295 : Nat) : Int) := by decide
  rw [hm, u32_xor_nat _ _ (by decide) hs, Nat.xor_comm]
set_option maxRecDepth 100000 in
set_option maxHeartbeats 4000000 in
theorem sumAfter_any (p : Value) (s : Nat) (l : List UInt8) (v : Value) (B C : Nat) (w : World) (ht : Tab B w p) (hs : s < 4294967296) (hr : Rd C w v l) : Calls Try.prog 27 #[p, .int .u32 (s : Int), v] w fun e w' => e = .returned (.int .u32 (moreC s l : Int)) ∧ w = w' := by
  obtain ⟨g, rfl, hg, hB⟩ := ht
  have HB := Lib.hid hB
  obtain ⟨A, c, hv, hc, hm⟩ := hr.shape
  unfold maxLen at hm
  obtain ⟨n, hn⟩ : ∃ n, l.length = n := ⟨_, rfl⟩
  have HN := Lib.hid hn
  rw [hn] at hv hc
  subst hv
  have HR := Lib.hid hr
  clear hr hn hB hg
  have hx0 := cpl32 s hs
  obtain ⟨y0, hy0⟩ : ∃ q, s ^^^ 4294967295 = q := ⟨_, rfl⟩
  have hyl : y0 < 4294967296 := by rw [← hy0]; exact Nat.xor_lt_two_pow (n := 32) hs (by decide)
  rw [hy0] at hx0
  have HY := Lib.hid hy0
  have HYL := Lib.hid hyl
  clear hy0
  go_enter Try.func27, Try.ntmps27
  go_wp2
  clear hx0
  go_loop [7, 14] (fun u x => ∃ i : Nat, i ≤ n ∧ x = .int .i64 (i : Int) ∧ u = .int .u32 ((feedC y0 (l.take i) : Nat) : Int)) (fun _ x => n - (intOf x).toNat)
  case atStart => exact ⟨0, Nat.zero_le _, rfl, rfl⟩
  case round =>
    obtain ⟨i, hi, rfl, rfl⟩ := hrel
    by_cases hi2 : i < n
    · have zi : (i : Int) < (n : Int) := by omega
      have hil : i < l.length := by rw [HN.out]; exact hi2
      have hfs := feedC_snoc y0 l i hil
      obtain ⟨A9, c9, hv9, -, -, -, hrd⟩ := HR.out
      obtain rfl : A = A9 := by injection hv9
      cases A with
      | none =>
        have h9 := HR.out
        obtain ⟨A8, c8, hv8, h81, -, h83, -⟩ := h9
        injection hv8 with e1 e2 e3
        subst e1
        have := h83 rfl
        omega
      | some a =>
      have hcell := (hrd a rfl).2 i hil
      obtain ⟨b, hb⟩ : ∃ q, l.getD i 0 = q := ⟨_, rfl⟩
      have hb2 : l[i] = b := by rw [← hb, List.getD_eq_getElem?_getD, List.getElem?_eq_getElem hil]; rfl
      rw [hb2] at hcell
      rw [hb] at hfs
      obtain ⟨y, hy⟩ : ∃ q, feedC y0 (l.take i) = q := ⟨_, rfl⟩
      have hyy : y < 4294967296 := by rw [← hy]; exact feedC_lt _ _ HYL.out
      rw [hy] at hfs ⊢
      rw [byteC_tab2] at hfs
      obtain ⟨bn, hbn⟩ : ∃ q, b.toNat = q := ⟨_, rfl⟩
      have hb256 : bn < 256 := by rw [← hbn]; exact b.toNat_lt
      rw [hbn] at hcell hfs
      have hxx := u8_xor_nat (y % 256) bn (by omega) hb256
      rw [show ((y % 256 : Nat) : Int) = (y : Int) % 256 by omega] at hxx
      obtain ⟨j, hj⟩ : ∃ q, y % 256 ^^^ bn = q := ⟨_, rfl⟩
      have hj256 : j < 256 := by rw [← hj]; exact Nat.xor_lt_two_pow (n := 8) (by omega) hb256
      rw [hj] at hxx hfs
      have hct := HB.out.cell j
      rw [rowT_at 256 j hj256, if_pos hj256] at hct
      obtain ⟨t, ht⟩ : ∃ q, tabC j = q := ⟨_, rfl⟩
      have htl : t < 4294967296 := by rw [← ht]; exact tabC_lt j (by omega)
      rw [ht] at hct hfs
      have hd8 : (y : Int) / 256 = ((y / 256 : Nat) : Int) := by omega
      have hx2 := u32_xor_nat t (y / 256) htl (by omega)
      rw [← hd8] at hx2
      have zj : (j : Int) < 256 := by omega
      have HFS := Lib.hid hfs
      obtain ⟨z, hz⟩ : ∃ q, t ^^^ y / 256 = q := ⟨_, rfl⟩
      rw [hz] at hx2 HFS
      clear hrd hv9 hb hb2 hbn hy hfs hil hyy hj ht htl hz hd8
      go_wp2
      go_round
      case rel => exact ⟨i + 1, by omega, by go_num, by rw [HFS.out]⟩
      case measure => simp [intOf]; omega
    · obtain rfl : i = n := by omega
      have zi : ¬ (i : Int) < (i : Int) := by omega
      have HF : Hid (l.take i = l) := Lib.hid (List.take_of_length_le (by rw [HN.out]; exact Nat.le_refl _))
      rw [HF.out]
      obtain ⟨z, hz⟩ : ∃ q, feedC y0 l = q := ⟨_, rfl⟩
      have hzl : z < 4294967296 := by rw [← hz]; exact feedC_lt _ _ HYL.out
      have hx1 := cpl32 z hzl
      have HZ : Hid (moreC s l = z ^^^ 4294967295) := Lib.hid (by unfold moreC; rw [HY.out, hz])
      rw [hz]
      clear hz
      go_wp2
      go_ret
      exact ⟨by rw [HZ.out]; rfl, rfl⟩
set_option maxHeartbeats 400000 in
theorem sumOf_any (p : Value) (l : List UInt8) (v : Value) (B C : Nat) (w : World) (ht : Tab B w p) (hr : Rd C w v l) : Calls Try.prog 26 #[p, v] w fun e w' => e = .returned (.int .u32 (sumC l : Int)) ∧ w = w' := by
  have HT := Lib.hid ht
  obtain ⟨g, rfl, -⟩ := ht
  obtain ⟨A, c, rfl, hc, hm⟩ := hr.shape
  have HR := Lib.hid hr
  clear hr
  go_enter Try.func26, Try.ntmps26
  go_wp2_with fail
  refine (sumAfter_any _ 0 l _ B C w HT.out (by decide) HR.out).mono ?_
  rintro e w' ⟨rfl, rfl⟩
  go_wp2
  go_ret
  exact ⟨rfl, rfl⟩
set_option maxHeartbeats 400000 in
theorem crSum_w (l : List UInt8) (v : Value) (w : World) (hr : Rd w.heap.size w v l) : Calls Try.prog 11 #[v] w (OneC (.int .u32 (sumC l : Int)) w) := by
  obtain ⟨A, c, rfl, hc, hm⟩ := hr.shape
  have HR := Lib.hid hr
  clear hr
  go_enter Try.func11, Try.ntmps11
  go_wp2_with fail
  refine (newEffects_any w).mono ?_
  rintro e w1 ⟨p, rfl, ht, hb⟩
  have HT := Lib.hid ht
  have HB := Lib.hid hb
  clear ht hb
  go_wp2_with fail
  refine (sumOf_any p l _ w.heap.size w.heap.size w1 HT.out (HR.out.below HB.out)).mono ?_
  rintro e w' ⟨rfl, rfl⟩
  go_wp2
  go_ret
  exact ⟨rfl, HB.out⟩
set_option maxHeartbeats 400000 in
theorem crMore_w (s : Nat) (l : List UInt8) (v : Value) (w : World) (hs : s < 4294967296) (hr : Rd w.heap.size w v l) : Calls Try.prog 13 #[.int .u32 (s : Int), v] w (OneC (.int .u32 (moreC s l : Int)) w) := by
  obtain ⟨A, c, rfl, hc, hm⟩ := hr.shape
  have HR := Lib.hid hr
  have HS := Lib.hid hs
  clear hr hs
  go_enter Try.func13, Try.ntmps13
  go_wp2_with fail
  refine (newEffects_any w).mono ?_
  rintro e w1 ⟨p, rfl, ht, hb⟩
  have HT := Lib.hid ht
  have HB := Lib.hid hb
  clear ht hb
  go_wp2_with fail
  refine (sumAfter_any p s l _ w.heap.size w.heap.size w1 HT.out HS.out (HR.out.below HB.out)).mono ?_
  rintro e w' ⟨rfl, rfl⟩
  go_wp2
  go_ret
  exact ⟨rfl, HB.out⟩
set_option maxHeartbeats 400000 in
theorem crLong_w (z : Int) (w : World) (hz : z ≤ 1000000000) : Calls Try.prog 17 #[.int .i64 z] w fun e w' => e = .returned (.int .i64 (longC z.toNat : Int)) ∧ w = w' := by
  obtain ⟨m, hm⟩ : ∃ q, z.toNat = q := ⟨_, rfl⟩
  have hm2 : m ≤ 1000000000 := by omega
  have hw := wid_le m
  have hmx : max z 0 = (m : Int) := by omega
  have HM := Lib.hid hm
  rw [hm]
  clear hm
  go_enter Try.func17, Try.ntmps17
  go_wp2_with fail
  refine (size_any (m : Int) w (by omega) (by omega)).mono ?_
  rintro e w' ⟨rfl, rfl⟩
  go_wp2
  go_ret
  refine ⟨?_, rfl⟩
  simp only [longC]
  congr 2
set_option maxHeartbeats 400000 in
theorem crDetached_any (v : Value) (l : List UInt8) (w : World) (hr : Rd w.heap.size w v l) (hl : l.length ≤ 140737488355328) : Calls Try.prog 24 #[v] w (Gives w.heap.size l w) := by
  obtain ⟨i0, hi, hz0, hz1, hz2⟩ := info_parts info5
  obtain ⟨A, c, hv, hc, hm⟩ := hr.shape
  have HR := Lib.hid hr
  have HL := Lib.hid hl
  have hv' := Lib.hid hv
  subst hv
  clear hr hc hm hl
  go_enter Try.func24, Try.ntmps24
  go_wp2_with (at_builtin; refine wpList_app rfl _ _ 22 rfl 5 i0 Try.underlying22 hi hz0 hz1 hz2 w.heap.size w.heap.size (.slice none 0 0) _ [] l rfl (Own.nil _ _ _) rfl HR.out ?c1 (Nat.le_refl _) ?_)
  case c1 => have := HL.out; simp; omega
  intro v' w' hown hb
  have O1 := Lib.hid hown
  have B1 := Lib.hid hb
  clear hown hb
  go_wp2
  go_ret
  exact ⟨v', rfl, O1.out, B1.out⟩
/-- The four bytes of a sum, as an array. -/
theorem sum4_int (s : Nat) : bys (sum4 s) = [.int .u8 ((s : Int) / 16777216 % 256), .int .u8 ((s : Int) / 65536 % 256), .int .u8 ((s : Int) / 256 % 256), .int .u8 ((s : Int) % 256)] := by
  unfold bys sum4
  simp
theorem infoF : (Try.prog.info? 52).map (·.zero) = some (some (.agg (bys [0, 0, 0, 0]).toArray)) := by kernel_rfl
theorem sizeF {s : Nat} : (Try.prog.info? 52).map (·.size) = some (bys (sum4 s)).length := by kernel_rfl
set_option maxHeartbeats 400000 in
theorem inBytes_any (s : Nat) (w : World) : Calls Try.prog 29 #[.int .u32 (s : Int)] w (Arr (bys (sum4 s)) w) := by
  go_enter Try.func29, Try.ntmps29
  go_wp2_with (refine wpList_alloc_blk rfl 52 rfl _ infoF ?_)
  intro w1 hb1 hs1 hbl1
  have HB1 := Lib.hid hb1
  have HBL1 := Lib.hid hbl1
  clear hb1 hs1 hbl1
  go_wp2_with (refine wpList_store_blk rfl 52 _ _ rfl w.heap.size (bys (sum4 s)) (bys [0, 0, 0, 0]) 52 rfl (by rw [sum4_int]; rfl) HB1.out sizeF rfl (bys_one' _) ?_)
  refine bodyPost_ret (v := .agg (bys (sum4 s)).toArray) ?_ rfl ?_
  · exact ret_blk rfl _ _ w.heap.size 52 (bys (sum4 s)) rfl HB1.out.setRow 4 5 Try.underlying52 sizeF
  · exact ⟨rfl, below_setRow' HBL1.out (Nat.le_refl _) _⟩
end Go.Proofs.Yteckenlbelgknaa
