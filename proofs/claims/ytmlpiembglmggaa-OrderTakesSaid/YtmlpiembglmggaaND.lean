/-
  The document's orders: how one is written. Each theorem states its own conditions.
-/
import Derived.Test.YtmlpiembglmggaaNC
namespace Go.Proofs.Ytmlpiembglmggaa
open Go.RowKit

def nsO (o : Or) : List Int := [oC o, oQ o, oK o, oR o, oS o, oT o]
theorem encI_len (n : Int) : (encI n).length ≤ 9 := by
  unfold encI
  rw [enc_length]
  have := wid_le (zig n).toNat
  omega
theorem encIs_len : ∀ l : List Int, (encIs l).length ≤ 9 * l.length
  | [] => Nat.zero_le _
  | n :: r => by
    have h1 := encI_len n
    have h2 := encIs_len r
    simp only [encIs, List.length_append, List.length_cons]
    omega
theorem encIs_take (l : List Int) (i : Nat) (hi : i < l.length) : encIs (l.take (i + 1)) = encIs (l.take i) ++ encI (l.getD i 0) := by
  rw [List.take_succ_eq_append_getElem hi, encIs_append, List.getD_eq_getElem?_getD, List.getElem?_eq_getElem hi]
  simp [encIs]
theorem encX_len (s : List UInt8) : (encX s).length ≤ 9 + s.length := by
  unfold encX
  rw [encS_length, ba_size]
  have := wid_le s.length
  omega

set_option maxRecDepth 100000 in
set_option maxHeartbeats 4000000 in
theorem rfPutO_any (v : Value) (l : List UInt8) (o : Or) (w : World) (hr : Rd w.heap.size w v l) (hf : ∀ n ∈ nsO o, fit64 n) (hl : l.length + (oP o).length + (oV o).length ≤ 1000000) : Calls Try.prog 11 #[v, .agg (orc o).toArray] w (Gives w.heap.size (l ++ encO o) w) := by
  have HR := Lib.hid hr
  have HF := Lib.hid hf
  have HL := Lib.hid hl
  clear hr hf hl
  go_enter Try.func11, Try.ntmps11
  go_wp2_with (refine wpList_box_blk rfl 33 _ rfl (orc o) rfl ?_)
  intro y0 b1 b2 b3
  obtain ⟨gb0, hg⟩ : ∃ g, w.heap.size = g := ⟨_, rfl⟩
  have X0 := Lib.hid b1
  have EB0 := Lib.hid b3
  rw [hg] at X0 ⊢
  clear b1 b2 b3 hg
  have c_X0 := X0.out.at_ 0 _ rfl
  have c_X0_1 := X0.out.at_ 1 _ rfl
  have c_X0_2 := X0.out.at_ 2 _ rfl
  have c_X0_3 := X0.out.at_ 3 _ rfl
  have c_X0_4 := X0.out.at_ 4 _ rfl
  have c_X0_5 := X0.out.at_ 5 _ rfl
  have c_X0_6 := X0.out.at_ 6 _ rfl
  have c_X0_7 := X0.out.at_ 7 _ rfl
  have HCB := Lib.hid (heap_alloc_new y0 (.cells (rowsE InK (nsO o)).toArray 3))
  obtain ⟨gC, hgC⟩ : ∃ g, y0.heap.size = g := ⟨_, rfl⟩
  have HBL : Hid (Below y0.heap.size y0 (y0.alloc (.cells (rowsE InK (nsO o)).toArray 3))) := (Below.refl _ _).alloc (Nat.le_refl _) _
  have RC : Hid (RdE InK (y0.alloc (.cells (rowsE InK (nsO o)).toArray 3)).heap.size (y0.alloc (.cells (rowsE InK (nsO o)).toArray 3)) (.slice (some ⟨gC, 0, none⟩) 6 6) (nsO o)) := by
    have h := RdE.ofBlks (E := InK) (l := nsO o) HCB.out (by show (6 : Nat) ≤ _; decide)
    rw [hgC] at h
    exact h.more (by simp; omega)
  have HB0 : Hid (Rd (y0.alloc (.cells (rowsE InK (nsO o)).toArray 3)).heap.size (y0.alloc (.cells (rowsE InK (nsO o)).toArray 3)) v (l ++ encIs ((nsO o).take 0))) := by
    show Rd _ _ _ _
    rw [show l ++ encIs ((nsO o).take 0) = l by simp [encIs]]
    exact (((HR.out.below EB0.out).more EB0.out.size).below HBL.out).more HBL.out.size
  go_wp2
  obtain ⟨WA, hWA⟩ : ∃ W9, (y0.alloc (.cells (rowsE InK (nsO o)).toArray 3)) = W9 := ⟨_, rfl⟩
  rw [hWA] at HBL RC HB0
  obtain ⟨aC, haC⟩ : ∃ a, (⟨gC, 0, none⟩ : Addr) = a := ⟨_, rfl⟩
  rw [haC] at RC ⊢
  clear HCB hgC haC c_X0 c_X0_1 c_X0_2 c_X0_3 c_X0_4 c_X0_5 c_X0_6 c_X0_7
  have P1_w := Lib.hid (EB0.out.trans (HBL.out.mono EB0.out.size))
  go_loopw [0, 6] (fun b x wr => ∃ i : Nat, i ≤ 6 ∧ x = .int .i64 (i : Int) ∧ Hid (Rd wr.heap.size wr b (l ++ encIs ((nsO o).take i))) ∧ Hid (Below WA.heap.size WA wr)) (fun _ x _ => 6 - (intOf x).toNat)
  case atStart =>
    subst hWA
    exact ⟨0, by omega, rfl, HB0, Below.refl _ _⟩
  case round =>
    obtain ⟨i, hi, rfl, HB, EL⟩ := hrel
    obtain ⟨wO, rfl⟩ : ∃ q, q = wr := ⟨_, rfl⟩
    clear HB0 hWA
    have P2_w := Lib.hid (P1_w.out.trans (EL.out.mono P1_w.out.size))
    clear P1_w
    have P2_y0 := Lib.hid (HBL.out.trans (EL.out.mono HBL.out.size))
    by_cases hi2 : i < 6
    · have zi : (i : Int) < 6 := by omega
      obtain ⟨a, hA, c0⟩ := ((RC.out.below EL.out).more EL.out.size).at1 i hi2
      obtain ⟨n9, hn9⟩ : ∃ n, (nsO o).getD i 0 = n := ⟨_, rfl⟩
      have HT := Lib.hid (encIs_take (nsO o) i hi2)
      have HN : Hid (fit64 n9) := by
        show fit64 _
        rw [← hn9]
        refine HF.out _ ?_
        rw [List.getD_eq_getElem?_getD, List.getElem?_eq_getElem (show i < (nsO o).length from hi2)]
        exact List.getElem_mem _
      rw [hn9] at c0 HT
      clear hn9
      have HLL : Hid ((l ++ encIs ((nsO o).take i)).length ≤ 2000000) := by
        show _ ≤ _
        have h1 := encIs_len ((nsO o).take i)
        have h2 := List.length_take_le i (nsO o)
        have h3 := HL.out
        rw [List.length_append]
        omega
      obtain rfl : aC = a := Option.some.inj hA
      clear hA
      go_wp2_with fail
      refine (refInt2_any u0 (l ++ encIs ((nsO o).take i)) n9 wO HB.out HN.out.1 HN.out.2 (by have := HLL.out; omega)).mono ?_
      rintro e w3 ⟨v3, rfl, hown, hb⟩
      have HB3 : Hid (Rd w3.heap.size w3 v3 (l ++ encIs ((nsO o).take (i + 1)))) := by
        show Rd _ _ _ _
        rw [HT.out, ← List.append_assoc]
        exact hown.rd
      have EL3 := Lib.hid (EL.out.trans (hb.mono EL.out.size))
      clear hown hb c0
      go_wp2
      go_roundw
      case rel => exact ⟨i + 1, by omega, by go_num, HB3, EL3⟩
      case measure => first | (simp [intOf]; done) | (simp [intOf]; omega)
    obtain rfl : i = 6 := by omega
    have HLL : Hid ((l ++ encIs (nsO o)).length ≤ l.length + 54) := by
      show _ ≤ _
      have h1 := encIs_len (nsO o)
      rw [List.length_append]
      have h2 : (nsO o).length = 6 := rfl
      omega
    have HB6 : Hid (Rd wO.heap.size wO u0 (l ++ encIs (nsO o))) := HB.out
    clear HB
    have c_X0 := (X0.out.below P2_y0.out X0.out.lt).at_ 0 _ rfl
    have c_X0_1 := (X0.out.below P2_y0.out X0.out.lt).at_ 1 _ rfl
    have c_X0_2 := (X0.out.below P2_y0.out X0.out.lt).at_ 2 _ rfl
    have c_X0_3 := (X0.out.below P2_y0.out X0.out.lt).at_ 3 _ rfl
    have c_X0_4 := (X0.out.below P2_y0.out X0.out.lt).at_ 4 _ rfl
    have c_X0_5 := (X0.out.below P2_y0.out X0.out.lt).at_ 5 _ rfl
    have c_X0_6 := (X0.out.below P2_y0.out X0.out.lt).at_ 6 _ rfl
    have c_X0_7 := (X0.out.below P2_y0.out X0.out.lt).at_ 7 _ rfl
    go_wp2_with fail
    refine (refText2_any u0 (l ++ encIs (nsO o)) (ba (oP o)) wO HB6.out (by have h1 := HLL.out; have h2 := HL.out; rw [ba_size]; omega)).mono ?_
    rintro e w4 ⟨v4, rfl, hown, hb⟩
    have H4 := Lib.hid hown.rd
    have E4 := Lib.hid hb
    clear hown hb c_X0 c_X0_1 c_X0_2 c_X0_3 c_X0_4 c_X0_5 c_X0_6 c_X0_7
    have P3_w := Lib.hid (P2_w.out.trans (E4.out.mono P2_w.out.size))
    clear P2_w
    have P3_y0 := Lib.hid (P2_y0.out.trans (E4.out.mono P2_y0.out.size))
    clear P2_y0
    have P3_WA := Lib.hid (EL.out.trans (E4.out.mono EL.out.size))
    have hs4 : w.heap.size ≤ w4.heap.size := P3_w.out.size
    have c_X0 := (X0.out.below P3_y0.out X0.out.lt).at_ 0 _ rfl
    have c_X0_1 := (X0.out.below P3_y0.out X0.out.lt).at_ 1 _ rfl
    have c_X0_2 := (X0.out.below P3_y0.out X0.out.lt).at_ 2 _ rfl
    have c_X0_3 := (X0.out.below P3_y0.out X0.out.lt).at_ 3 _ rfl
    have c_X0_4 := (X0.out.below P3_y0.out X0.out.lt).at_ 4 _ rfl
    have c_X0_5 := (X0.out.below P3_y0.out X0.out.lt).at_ 5 _ rfl
    have c_X0_6 := (X0.out.below P3_y0.out X0.out.lt).at_ 6 _ rfl
    have c_X0_7 := (X0.out.below P3_y0.out X0.out.lt).at_ 7 _ rfl
    go_wp2_with fail
    refine (refText2_any v4 (l ++ encIs (nsO o) ++ encS (ba (oP o))) (ba (oV o)) w4 H4.out (by have h1 := HLL.out; have h2 := HL.out; have h3 : (encS (ba (oP o))).length ≤ 9 + (oP o).length := encX_len (oP o); rw [ba_size, List.length_append]; omega)).mono ?_
    rintro e w5 ⟨v5, rfl, hown, hb⟩
    have H5 := Lib.hid hown
    have E5 := Lib.hid hb
    clear hown hb c_X0 c_X0_1 c_X0_2 c_X0_3 c_X0_4 c_X0_5 c_X0_6 c_X0_7
    have P4_w := Lib.hid (P3_w.out.trans (E5.out.mono P3_w.out.size))
    clear P3_w
    have P4_y0 := Lib.hid (P3_y0.out.trans (E5.out.mono P3_y0.out.size))
    clear P3_y0
    have P4_WA := Lib.hid (P3_WA.out.trans (E5.out.mono P3_WA.out.size))
    clear P3_WA
    have P4_wO := Lib.hid (E4.out.trans (E5.out.mono E4.out.size))
    go_wp2
    go_ret
    refine ⟨_, rfl, ?_, P4_w.out⟩
    have h := H5.out.base hs4
    have e : l ++ encO o = l ++ encIs (nsO o) ++ encS (ba (oP o)) ++ encS (ba (oV o)) := by simp [encO, nsO, encX, List.append_assoc]
    rw [e]
    exact h
end Go.Proofs.Ytmlpiembglmggaa
