/-
  The law CrcSpoilt. Each theorem states its own conditions.
-/
import Derived.Test.YteckenlbelgknaaCX0
namespace Go.Proofs.Yteckenlbelgknaa
open Go.RowKit

theorem RdM.lt_ {B : Nat} {w : World} {A : Option Addr} {n c : Nat} {ls : List (List UInt8)} (h : RdM B w (.slice A n c) ls) (j : Nat) (hj : j < ls.length) (a : Addr) (ha : A = some a) : (a.add j).block < B := by
  obtain ⟨vs, h1, ⟨A2, c2, hv, _, _, _, h3⟩, _⟩ := h
  injection hv with e1 _ _
  have := (h3 a (by rw [← e1]; exact ha)).1 (by omega)
  unfold Addr.add
  split <;> exact this
set_option maxRecDepth 100000 in
set_option maxHeartbeats 4000000 in
theorem spoilt15_all (v : Value) (z : Int) (y : UInt8) (l : List (List UInt8)) (w : World) (hr : RdM w.heap.size w v l) (hz : -9223372036854775808 ≤ z ∧ z ≤ 9223372036854775807) (hbig : ∀ j, (l.getD j []).length ≤ 140737488355328) : Calls Try.prog 6 #[v, .int .i64 z, .int .u8 (y.toNat : Int)] w (OneC (.bool true) w) := by
  obtain ⟨A, c, rfl, hc, hm⟩ := hr.shape
  unfold maxLen at hm
  obtain ⟨n, hn⟩ : ∃ q, l.length = q := ⟨_, rfl⟩
  have HN := Lib.hid hn
  have HR := Lib.hid hr
  rw [hn] at HR hc ⊢
  have HBG := Lib.hid hbig
  clear hr hn hbig
  go_enter Try.func6, Try.ntmps6
  go_wp2
  have b0 : Below w.heap.size w (w.alloc (.cells #[] 5)) := (Below.refl _ _).alloc (Nat.le_refl _) _
  go_loopw [7, 8, 9, 10] (fun vb va vg x wr => ∃ (i : Nat) (Ab : Option Addr) (nb cb : Nat), i ≤ n ∧ i ≤ 30 ∧ x = .int .i64 (i : Int) ∧ vb = .slice Ab nb cb ∧ nb ≤ cb ∧ cb ≤ 9223372036854775807 ∧ nb ≤ 114 * i ∧ Hid ((framesC (l.take i)).length = nb) ∧ Hid (∀ q ∈ l.take i, q.length ≤ 100000) ∧ Hid (Own 5 wr w.heap.size vb (framesC (l.take i))) ∧ Hid (Spot l z i va vg) ∧ Hid (Below w.heap.size w wr)) (fun _ _ _ x _ => n - (intOf x).toNat)
  case atStart => exact ⟨0, some ⟨w.heap.size, 0, none⟩, 0, 0, by omega, by omega, rfl, rfl, by omega, by omega, by omega, Lib.hid rfl, Lib.hid (by simp), Lib.hid (Own.made 5 w), Lib.hid (.inl ⟨rfl, rfl, fun h => by have h2 : z < (0 : Int) := h.2; omega⟩), Lib.hid b0⟩
  case round =>
    clear b0
    obtain ⟨i, Ab, nb, cb, hi, hi30, rfl, rfl, hnb, hcb, hn3, HL, HQ, HO, HSp, HW⟩ := hrel
    have hsz := HW.out.size
    by_cases hi2 : i < n
    · have zi : (i : Int) < (n : Int) := by omega
      by_cases h30 : i = 30
      · have z30 : (i : Int) = 30 := by omega
        go_wp2_with fail
        refine (alive15 wr).mono ?_
        rintro e w6 ⟨rfl, hb⟩
        have B6 := Lib.hid (HW.out.trans (hb.mono hsz))
        clear hb
        dsimp only
        apply_assumption
        go_wp2
        go_ret
        exact ⟨rfl, B6.out⟩
      have z30 : ¬ ((i : Int) = 30) := by omega
      have z30b : ((i : Int) == 30) = false := by simpa using z30
      obtain ⟨a, B1, e1, hA, c0, r1⟩ := (HR.out.below HW.out).at_ i (by rw [HN.out]; exact hi2)
      have hal : (a.add i).block < w.heap.size := HR.out.lt_ i (by rw [HN.out]; exact hi2) a hA
      subst hA
      obtain ⟨x, hx⟩ : ∃ x, l.getD i [] = x := ⟨_, rfl⟩
      rw [hx] at c0 r1
      have HX := Lib.hid hx
      have HR1 := Lib.hid r1
      obtain ⟨nx, hnx⟩ : ∃ q, x.length = q := ⟨_, rfl⟩
      have HNX := Lib.hid hnx
      rw [hnx] at c0 HR1
      have hxb : nx ≤ 140737488355328 := by have := HBG.out i; rw [hx, hnx] at this; exact this
      clear hx r1 hnx
      by_cases hlong : (100 : Int) < (nx : Int)
      · go_wp2_with fail
        refine (alive15 wr).mono ?_
        rintro e w6 ⟨rfl, hb⟩
        have B6 := Lib.hid (HW.out.trans (hb.mono hsz))
        clear hb
        dsimp only
        apply_assumption
        go_wp2
        go_ret
        exact ⟨rfl, B6.out⟩
      go_wp2_with fail
      refine (crFrame_any (framesC (l.take i)) x _ _ wr HO.out.rd ((HR1.out).more hsz) (by rw [HL.out]; omega) (by rw [HNX.out]; omega)).mono ?_
      rintro e w2 ⟨v2, rfl, hown, hb⟩
      have hfs : framesC (l.take i) ++ frameC x = framesC (l.take (i + 1)) := by rw [← HX.out]; exact frames_step l i (by rw [HN.out]; exact hi2)
      rw [hfs] at hown
      have hlen : (framesC (l.take (i + 1))).length = nb + longC nx := by rw [← hfs, List.length_append, HL.out, frameC_len, HNX.out]
      have hwx := wid_le nx
      have hwx2 : wid nx ≤ 1 := by unfold wid; split; omega; split; omega; omega
      obtain ⟨N2, hN2⟩ : ∃ q, nb + longC nx = q := ⟨_, rfl⟩
      have hN2b : N2 = nb + (2 + wid nx) + nx + 4 := by rw [← hN2]; unfold longC; omega
      rw [hN2] at hlen
      have O2 := Lib.hid (hown.base hsz)
      have W2 := Lib.hid (HW.out.trans (hb.mono hsz))
      obtain ⟨Ab2, cb2, rfl, hcb2, hcm2⟩ := hown.rd.shape
      rw [hlen] at O2 hcb2 ⊢
      unfold maxLen at hcm2
      have HLN := Lib.hid hlen
      have c1 : w2.cell? (a.add i) = some (.slice B1 nx e1) := (hb.cell (Nat.lt_of_lt_of_le hal hsz)).trans c0
      have HQ2 : Hid (∀ q ∈ l.take (i + 1), q.length ≤ 100000) := Lib.hid (by
        intro q hq
        rw [List.take_succ_eq_append_getElem (by rw [HN.out]; exact hi2)] at hq
        rcases List.mem_append.1 hq with h | h
        · exact HQ.out q h
        · have e : q = x := by
            rw [← HX.out, List.getD_eq_getElem?_getD, List.getElem?_eq_getElem (by rw [HN.out]; exact hi2)]
            simpa using h
          rw [e, HNX.out]
          omega)
      have hlg : longC nx = (2 + wid nx) + nx + 4 := by unfold longC; omega
      have HLG := Lib.hid hlg
      have HN2 := Lib.hid hN2b
      have hN2c : N2 ≤ 114 * (i + 1) := by omega
      clear hb hown hfs hlen c0 hwx hN2 hN2b hlg
      by_cases hza : z < (nb : Int)
      · have hz1 : ¬ ((nb : Int) ≤ z) := by omega
        have HSP := Lib.hid (HSp.out.below (by rw [HL.out]; exact hza))
        go_wp2
        go_roundw
        case rel => exact ⟨i + 1, Ab2, N2, cb2, by omega, by omega, by go_num, rfl, hcb2, by omega, hN2c, HLN, HQ2, O2, HSP, W2⟩
        case measure => simp [intOf]; omega
      · have hz1 : (nb : Int) ≤ z := by omega
        by_cases hzb : z < (N2 : Int)
        · obtain ⟨k, rfl⟩ : ∃ k : Nat, z = (k : Int) := ⟨z.toNat, by omega⟩
          obtain ⟨f, hf⟩ : ∃ q, (2 + wid nx) + nx + 4 = q := ⟨_, rfl⟩
          obtain ⟨q1, hq1⟩ : ∃ q, (2 + wid nx) + 4 = q := ⟨_, rfl⟩
          obtain ⟨hh, hhh⟩ : ∃ q, 2 + wid nx = q := ⟨_, rfl⟩
          obtain ⟨e5, he5⟩ : ∃ q, nb + hh = q := ⟨_, rfl⟩
          have hn2 := HN2.out
          have d1 : (N2 : Int) - (nb : Int) = (f : Int) := by omega
          have d2 : (f : Int) - (nx : Int) = (q1 : Int) := by omega
          have d3 : (q1 : Int) - 4 = (hh : Int) := by omega
          have d4 : (nb : Int) + (hh : Int) = (e5 : Int) := by omega
          have hbd : N2 ≤ 4000 ∧ f ≤ 4000 ∧ q1 ≤ 4000 ∧ hh ≤ 4000 ∧ e5 ≤ 4000 := by omega
          have HHH := Lib.hid hhh
          have HE5 := Lib.hid he5
          have hkN : k < N2 := by omega
          clear hf hq1 hn2 hhh he5 hza
          by_cases hin : nb < k ∧ k < e5
          · have hi1 : (nb : Int) < (k : Int) := by omega
            have hi2' : (k : Int) < (e5 : Int) := by omega
            go_wp2_with fail
            have hsz2 := W2.out.size
            refine (alive15 w2).mono ?_
            rintro e w6 ⟨rfl, hb⟩
            have B6 := Lib.hid (W2.out.trans (hb.mono hsz2))
            clear hb
            dsimp only
            apply_assumption
            go_wp2
            go_ret
            exact ⟨rfl, B6.out⟩
          · have HSP := Lib.hid (show Spot l (k : Int) (i + 1) (.int .i64 (i : Int)) (.int .i64 (nb : Int)) from .inr ⟨i, k, nb, rfl, rfl, rfl, by omega, HL.out.symm, by omega, by
              rw [HX.out, HNX.out, HLG.out]; have := HN2.out; omega, by
              rw [HX.out, HNX.out, HHH.out, HE5.out]; omega⟩)
            by_cases hi1 : nb < k
            · have hi1' : (nb : Int) < (k : Int) := by omega
              have hi2' : ¬ (k : Int) < (e5 : Int) := by omega
              clear HSp HO HL
              go_wp2
              go_roundw
              case rel => exact ⟨i + 1, Ab2, N2, cb2, by omega, by omega, by go_num, rfl, hcb2, by omega, hN2c, HLN, HQ2, O2, HSP, W2⟩
              case measure => simp [intOf]; omega
            · have hi1' : ¬ (nb : Int) < (k : Int) := by omega
              clear HSp HO HL
              go_wp2
              go_roundw
              case rel => exact ⟨i + 1, Ab2, N2, cb2, by omega, by omega, by go_num, rfl, hcb2, by omega, hN2c, HLN, HQ2, O2, HSP, W2⟩
              case measure => simp [intOf]; omega
        · have HSP := Lib.hid (HSp.out.above (by rw [HLN.out]; omega))
          clear HSp HO HL
          go_wp2
          go_roundw
          case rel => exact ⟨i + 1, Ab2, N2, cb2, by omega, by omega, by go_num, rfl, hcb2, by omega, hN2c, HLN, HQ2, O2, HSP, W2⟩
          case measure => simp [intOf]; omega
    · have zi : ¬ ((i : Int) < (n : Int)) := by omega
      obtain rfl : i = n := by omega
      have HT : Hid (l.take i = l) := Lib.hid (List.take_of_length_le (by rw [HN.out]; exact Nat.le_refl _))
      rw [HT.out] at HL HQ HO
      rcases HSp.out with ⟨rfl, rfl, -⟩ | ⟨j, k, g, rfl, rfl, rfl, hj, hg, hg1, hk1, hp⟩
      · go_wp2_with fail
        refine (alive15 wr).mono ?_
        rintro e w6 ⟨rfl, hb⟩
        have B6 := Lib.hid (HW.out.trans (hb.mono hsz))
        clear hb
        go_wp2
        go_ret
        exact ⟨rfl, B6.out⟩
      · have hj0 : ¬ ((j : Int) < 0) := by omega
        by_cases hy0 : y = 0
        · subst hy0
          rw [show (((0 : UInt8).toNat : Nat) : Int) = 0 from rfl]
          go_wp2_with fail
          refine (alive15 wr).mono ?_
          rintro e w6 ⟨rfl, hb⟩
          have B6 := Lib.hid (HW.out.trans (hb.mono hsz))
          clear hb
          go_wp2
          go_ret
          exact ⟨rfl, B6.out⟩
        have hyn : ((y.toNat : Int) == 0) = false := by
          have h : y.toNat ≠ 0 := fun h => hy0 (UInt8.toNat_inj.1 (by simpa using h))
          simp
          omega
        have hjl : j < l.length := by rw [HN.out]; exact hj
        have hset := scan_set l j k y hjl HQ.out (by omega) (by omega) (by omega) hy0
        rw [HL.out] at hset
        obtain ⟨hkn, hsc⟩ := hset
        rw [← hg] at hsc
        obtain ⟨gb, cb', hvb, hlc, hcm, hgb, hgl⟩ := HO.out.inBlock8 (by rw [HL.out]; omega)
        injection hvb with e1 e2 e3
        subst e1 e3
        clear e2
        obtain ⟨hcell, hfroz⟩ := HO.out.cell8 k (by rw [HL.out]; exact hkn)
        obtain ⟨x, hx⟩ : ∃ q, (framesC l).getD k 0 = q := ⟨_, rfl⟩
        rw [hx] at hcell hsc
        have hxx := u8_xor_nat x.toNat y.toNat x.toNat_lt y.toNat_lt
        rw [← xor8] at hxx
        obtain ⟨hst, hbs⟩ := HO.out.stored8 k (by rw [HL.out]; exact hkn) (((x ^^^ y).toNat : Nat) : Int) (x ^^^ y) rfl
        have HST := Lib.hid hst
        have WS := Lib.hid (HW.out.trans hbs)
        have HSC := Lib.hid hsc
        have hki : (k : Int) < (nb : Int) := by omega
        have hji : (j : Int) ≤ (i : Int) := by omega
        have hjc : (j : Int) ≤ (c : Int) := by omega
        obtain ⟨yn, hyn2⟩ : ∃ q, y.toNat = q := ⟨_, rfl⟩
        obtain ⟨xn, hxn⟩ : ∃ q, x.toNat = q := ⟨_, rfl⟩
        obtain ⟨xy, hxy⟩ : ∃ q, (x ^^^ y).toNat = q := ⟨_, rfl⟩
        rw [hyn2] at hyn hxx ⊢
        rw [hxn] at hxx hcell
        rw [hxy] at hxx HST WS
        clear hx hsc hst hbs hgb hgl hcm hlc hyn2 hxn hxy HSp HO hg hp hk1 hg1
        go_wp2_with fail
        obtain ⟨wS, hwS⟩ : ∃ q, wr.setCell ⟨gb, k, none⟩ (.int .u8 (xy : Int)) = q := ⟨_, rfl⟩
        rw [hwS] at HST WS ⊢
        clear hwS hfroz hcell
        refine (crScan_any _ _ wS HST.out.rd (by have := HL.out; rw [List.length_set]; omega)).mono ?_
        rintro e w3 ⟨vS, rfl, hrm, hb⟩
        rw [HSC.out] at hrm ⊢
        dsimp only at hrm ⊢
        have RS := Lib.hid hrm
        have W3 := Lib.hid (WS.out.trans (hb.mono WS.out.size))
        have hs3 := W3.out.size
        clear hrm hb WS HST HSC
        go_wp2_with fail
        refine (alive15 w3).mono ?_
        rintro e w4 ⟨rfl, hb⟩
        have W4 := Lib.hid (W3.out.trans (hb.mono hs3))
        have RS4 := Lib.hid ((RS.out.below hb).more hb.size)
        have RT4 := Lib.hid (((HR.out.below W4.out).more W4.out.size).take j (by omega))
        clear hb RS W3 hs3
        go_wp2_with fail
        refine (rfRowsC_any (l.take j) (l.take j) vS _ w4 RS4.out RT4.out).mono ?_
        rintro e w5 ⟨rfl, hb⟩
        have W5 := Lib.hid (W4.out.trans (hb.mono W4.out.size))
        rw [decide_eq_true rfl]
        clear hb RS4 RT4 W4
        go_wp2
        go_ret
        exact ⟨rfl, W5.out⟩
end Go.Proofs.Yteckenlbelgknaa
