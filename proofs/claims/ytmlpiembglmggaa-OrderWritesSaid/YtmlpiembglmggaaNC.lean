/-
  The document's orders: so many numbers ahead. Each theorem states its own conditions.
-/
import Derived.Test.YtmlpiembglmggaaNB
import Derived.Test.YtmlpiembglmggaaEF
import Derived.Test.YtmlpiembglmggaaJA
namespace Go.Proofs.Ytmlpiembglmggaa
open Go.RowKit

theorem kindIn : KindOf Try.prog 3 InK 8 := kind_of (z := .int .i64 0) (by kernel_rfl) rfl
/-- Numbers, what is left, a fault. -/
def IntsOf (B : Nat) (r : List Int × List UInt8 × Nat) (w : World) (e : Ending) (w' : World) : Prop :=
  ∃ vl vr, e = .returned (.tuple #[vl, vr, .int .i64 (r.2.2 : Int)]) ∧ RdE InK w'.heap.size w' vl r.1 ∧ Rd B w' vr r.2.1 ∧ Below w.heap.size w w'

set_option maxRecDepth 100000 in
set_option maxHeartbeats 4000000 in
theorem rfInts_any (v : Value) (l : List UInt8) (m B : Nat) (w : World) (hr : Rd B w v l) (hB : B ≤ w.heap.size) (hm : m ≤ 1000) : Calls Try.prog 38 #[v, .int .i64 (m : Int)] w (IntsOf B (takeIs m l) w) := by
  obtain ⟨G, hG⟩ : ∃ G, w.heap.size = G := ⟨_, rfl⟩
  have HG := Lib.hid hG
  have HR : Hid (Rd B (w.alloc (.cells #[] 3)) v l) := hr.below ((Below.refl B w).alloc hB (.cells #[] 3))
  have HO0 : Hid (OwnE InK 3 (w.alloc (.cells #[] 3)) G (.slice (some ⟨G, 0, none⟩) 0 0) []) := by
    have := OwnE.empty (E := InK) 3 w G (by rw [hG]; exact Nat.le_refl _)
    rw [hG] at this
    exact this
  have HW0 : Hid (Below G w (w.alloc (.cells #[] 3))) := (Below.refl _ _).alloc (by rw [hG]; exact Nat.le_refl _) _
  have HT0 : Hid (preI [] (takeIs (m - 0) l) = takeIs m l) := preI_nil m l
  have HBG : Hid (B ≤ G) := by
    rw [hG] at hB
    exact hB
  clear hr hB
  go_enter Try.func38, Try.ntmps38
  go_wp2
  clear hG
  go_loopw [0, 7, 8] (fun b o x wr => ∃ (i : Nat) (lb : List UInt8) (acc : List Int), i ≤ m ∧ x = .int .i64 (i : Int) ∧ Hid (acc.length = i) ∧ Hid (Rd B wr b lb) ∧ Hid (OwnE InK 3 wr G o acc) ∧ Hid (preI acc (takeIs (m - i) lb) = takeIs m l) ∧ Hid (Below G w wr)) (fun _ _ x _ => m - (intOf x).toNat)
  case atStart => exact ⟨0, l, [], by omega, rfl, rfl, HR, HO0, HT0, HW0⟩
  case round =>
    obtain ⟨i, lb, acc, hi, rfl, HAL, HB, HO, HT, HW⟩ := hrel
    have hwr := HW.out.size
    rw [HG.out] at hwr
    clear HR HO0 HW0 HT0
    by_cases hi2 : i < m
    · have zi : (i : Int) < (m : Int) := by omega
      obtain ⟨q1, hq1⟩ : ∃ q1, m - i = q1 + 1 := ⟨m - i - 1, by omega⟩
      rw [hq1] at HT
      have HQ : Hid (m - (i + 1) = q1) := by show _ = _; omega
      clear hq1
      go_wp2_with fail
      refine (refInt_any u0 lb B wr HB.out (Nat.le_trans HBG.out hwr)).mono ?_
      rintro e w2 ⟨vr, rfl, hrd, hb⟩
      obtain ⟨N9, R9, E9, hT9⟩ : ∃ a b c, takeN lb = (a, b, c) := ⟨_, _, _, rfl⟩
      rw [hT9] at hrd ⊢
      have HT9 := Lib.hid hT9
      have HB2 : Hid (Rd B w2 vr R9) := hrd
      have HO2 := Lib.hid (HO.out.below hb (Nat.le_refl _))
      have HW2 := Lib.hid (HW.out.trans (hb.mono hwr))
      have hw2 : G ≤ w2.heap.size := Nat.le_trans hwr hb.size
      clear hrd hb hT9
      by_cases he : E9 = 0
      · subst he
        obtain ⟨z9, hz9⟩ : ∃ z, zag N9 = z := ⟨_, rfl⟩
        have HZ9 := Lib.hid hz9
        dsimp only
        rw [hz9]
        clear hz9
        have HO4 : Hid (OwnE InK 3 (w2.alloc (.cells #[.int .i64 z9] 3)) G u7 acc) := HO2.out.alloc _
        have HW4 : Hid (Below G w (w2.alloc (.cells #[.int .i64 z9] 3))) := HW2.out.alloc hw2 _
        have HB4 : Hid (Rd B (w2.alloc (.cells #[.int .i64 z9] 3)) vr R9) := HB2.out.below ((Below.refl _ _).alloc (Nat.le_trans HBG.out hw2) _)
        go_wp2_with (at_builtin; refine wpList_appE (E := InK) rfl _ _ 58 rfl 3 8 Try.underlying58 kindIn G _ _ _ acc [z9] rfl HO4.out rfl (RdE.one w2 3 z9) (by simp) ?d1 ?d2 ?d3 ?_)
        case d1 => have := HAL.out; (try simp only [List.length_cons, List.length_nil]); omega
        case d2 => have := HAL.out; (try simp only [List.length_cons, List.length_nil]); omega
        case d3 => first | exact hw2 | omega | exact Nat.le_trans hw2 (by simp)
        intro v5 w5 h5 hb5 hg5 _
        have HO5 := Lib.hid h5
        have HW5 := Lib.hid (HW4.out.trans hb5)
        have HB5 := Lib.hid (HB4.out.below (hb5.mono HBG.out))
        have HT5 : Hid (preI (acc ++ [z9]) (takeIs (m - (i + 1)) R9) = takeIs m l) := by
          show _ = _
          rw [HQ.out, ← HZ9.out, ← preI_step acc q1 lb R9 N9 HT9.out]
          exact HT.out
        have HA5 : Hid ((acc ++ [z9]).length = i + 1) := by
          show _ = _
          simp [HAL.out]
        clear h5 hb5 hg5
        go_wp2
        go_roundw
        case rel => exact ⟨i + 1, R9, acc ++ [z9], by omega, by go_num, HA5, HB5, HO5, HT5, HW5⟩
        case measure => first | (simp [intOf]; done) | (simp [intOf]; omega)
      · have hne : ((E9 : Int) != 0) = true := by rw [bne_iff_ne]; omega
        have HF : Hid (takeIs m l = ([], [], E9)) := by
          show _ = _
          have h1 := preI_stop acc q1 lb (by rw [HT9.out]; exact he)
          rw [HT9.out] at h1
          rw [← HT.out]
          exact h1
        clear he
        go_wp2
        go_ret3
        refine ⟨.slice none 0 0, .slice none 0 0, ?_, ?_, ?_, HW2.out.mono (by rw [HG.out]; exact Nat.le_refl _)⟩
        · rw [HF.out]; rfl
        · rw [HF.out]; exact RdE.nil _ _
        · rw [HF.out]; exact Rd.nil _ _
    · obtain rfl : i = m := by omega
      have HF : Hid (takeIs i l = (acc, lb, 0)) := by
        show _ = _
        rw [← HT.out, Nat.sub_self]
        simp [takeIs, preI]
      go_wp2
      go_ret3
      refine ⟨u7, u0, ?_, ?_, ?_, HW.out.mono (by rw [HG.out]; exact Nat.le_refl _)⟩
      · rw [HF.out]; rfl
      · rw [HF.out]; exact HO.out.rd
      · rw [HF.out]; exact HB.out
end Go.Proofs.Ytmlpiembglmggaa
