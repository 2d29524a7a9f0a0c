/-
  The document's orders: how one is written. Each theorem states its own conditions.
-/
import Derived.Test.YtmlpiembglmggaaND
namespace Go.Proofs.Ytmlpiembglmggaa
open Go.RowKit

def nsR (r : Rp) : List Int := [pC r, pQ r, pE r, pR r]
/-- A reply's cells, with the slice of its names. -/
def rpc (r : Rp) (nv : Value) : List Value := [.int .i64 (pC r), .int .i64 (pQ r), .int .i64 (pE r), txt (pV r), .int .i64 (pR r), nv]

set_option maxRecDepth 100000 in
set_option maxHeartbeats 4000000 in
theorem rfPutR_any (v : Value) (l : List UInt8) (r : Rp) (nv : Value) (w : World) (hr : Rd w.heap.size w v l) (hr2 : RdS w.heap.size w nv (pN r)) (hf : ∀ n ∈ nsR r, fit64 n) (hl : l.length + (pV r).length + (encs (pN r)).length ≤ 1000000) (hn : (pN r).length ≤ 1000000) : Calls Try.prog 14 #[v, .agg (rpc r nv).toArray] w (Gives w.heap.size (l ++ encR r) w) := by
  have HS := Lib.hid hr2
  have HNN := Lib.hid hn
  have HR := Lib.hid hr
  have HF := Lib.hid hf
  have HL := Lib.hid hl
  clear hr hf hl hr2 hn
  go_enter Try.func14, Try.ntmps14
  go_wp2_with (refine wpList_box_blk rfl 37 _ rfl (rpc r nv) rfl ?_)
  intro y0 b1 b2 b3
  obtain ⟨gb0, hg⟩ : ∃ g, w.heap.size = g := ⟨_, rfl⟩
  have X0 := Lib.hid b1
  have EB0 := Lib.hid b3
  rw [hg] at X0 ⊢
  clear b1 b2 b3 hg
  have c_X0 := X0.out.at_ 0 _ rfl
  have c_X0_1 := X0.out.at_ 1 _ rfl
  have c_X0_2 := X0.out.at_ 2 _ rfl
  have c_X0_3 := X0.out.at_ 3 _ rfl
  have c_X0_4 := X0.out.at_ 4 _ rfl
  have c_X0_5 := X0.out.at_ 5 _ rfl
  have HCB := Lib.hid (heap_alloc_new y0 (.cells (rowsE InK (nsR r)).toArray 3))
  obtain ⟨gC, hgC⟩ : ∃ g, y0.heap.size = g := ⟨_, rfl⟩
  have HBL : Hid (Below y0.heap.size y0 (y0.alloc (.cells (rowsE InK (nsR r)).toArray 3))) := (Below.refl _ _).alloc (Nat.le_refl _) _
  have RC : Hid (RdE InK (y0.alloc (.cells (rowsE InK (nsR r)).toArray 3)).heap.size (y0.alloc (.cells (rowsE InK (nsR r)).toArray 3)) (.slice (some ⟨gC, 0, none⟩) 4 4) (nsR r)) := by
    have h := RdE.ofBlks (E := InK) (l := nsR r) HCB.out (by show (4 : Nat) ≤ _; decide)
    rw [hgC] at h
    exact h.more (by simp; omega)
  have HB0 : Hid (Rd (y0.alloc (.cells (rowsE InK (nsR r)).toArray 3)).heap.size (y0.alloc (.cells (rowsE InK (nsR r)).toArray 3)) v (l ++ encIs ((nsR r).take 0))) := by
    show Rd _ _ _ _
    rw [show l ++ encIs ((nsR r).take 0) = l by simp [encIs]]
    exact (((HR.out.below EB0.out).more EB0.out.size).below HBL.out).more HBL.out.size
  go_wp2
  obtain ⟨WA, hWA⟩ : ∃ W9, (y0.alloc (.cells (rowsE InK (nsR r)).toArray 3)) = W9 := ⟨_, rfl⟩
  rw [hWA] at HBL RC HB0
  obtain ⟨aC, haC⟩ : ∃ a, (⟨gC, 0, none⟩ : Addr) = a := ⟨_, rfl⟩
  rw [haC] at RC ⊢
  clear HCB hgC haC c_X0 c_X0_1 c_X0_2 c_X0_3 c_X0_4 c_X0_5
  have P1_w := Lib.hid (EB0.out.trans (HBL.out.mono EB0.out.size))
  go_loopw [0, 6] (fun b x wr => ∃ i : Nat, i ≤ 4 ∧ x = .int .i64 (i : Int) ∧ Hid (Rd wr.heap.size wr b (l ++ encIs ((nsR r).take i))) ∧ Hid (Below WA.heap.size WA wr)) (fun _ x _ => 4 - (intOf x).toNat)
  case atStart =>
    subst hWA
    exact ⟨0, by omega, rfl, HB0, Below.refl _ _⟩
  case round =>
    obtain ⟨i, hi, rfl, HB, EL⟩ := hrel
    obtain ⟨wO, rfl⟩ : ∃ q, q = wr := ⟨_, rfl⟩
    clear HB0 hWA
    have P2_w := Lib.hid (P1_w.out.trans (EL.out.mono P1_w.out.size))
    clear P1_w
    have P2_y0 := Lib.hid (HBL.out.trans (EL.out.mono HBL.out.size))
    by_cases hi2 : i < 4
    · have zi : (i : Int) < 4 := by omega
      obtain ⟨a, hA, c0⟩ := ((RC.out.below EL.out).more EL.out.size).at1 i hi2
      obtain ⟨n9, hn9⟩ : ∃ n, (nsR r).getD i 0 = n := ⟨_, rfl⟩
      have HT := Lib.hid (encIs_take (nsR r) i hi2)
      have HN : Hid (fit64 n9) := by
        show fit64 _
        rw [← hn9]
        refine HF.out _ ?_
        rw [List.getD_eq_getElem?_getD, List.getElem?_eq_getElem (show i < (nsR r).length from hi2)]
        exact List.getElem_mem _
      rw [hn9] at c0 HT
      clear hn9
      have HLL : Hid ((l ++ encIs ((nsR r).take i)).length ≤ 2000000) := by
        show _ ≤ _
        have h1 := encIs_len ((nsR r).take i)
        have h2 := List.length_take_le i (nsR r)
        have h3 := HL.out
        rw [List.length_append]
        omega
      obtain rfl : aC = a := Option.some.inj hA
      clear hA
      go_wp2_with fail
      refine (refInt2_any u0 (l ++ encIs ((nsR r).take i)) n9 wO HB.out HN.out.1 HN.out.2 (by have := HLL.out; omega)).mono ?_
      rintro e w3 ⟨v3, rfl, hown, hb⟩
      have HB3 : Hid (Rd w3.heap.size w3 v3 (l ++ encIs ((nsR r).take (i + 1)))) := by
        show Rd _ _ _ _
        rw [HT.out, ← List.append_assoc]
        exact hown.rd
      have EL3 := Lib.hid (EL.out.trans (hb.mono EL.out.size))
      clear hown hb c0
      go_wp2
      go_roundw
      case rel => exact ⟨i + 1, by omega, by go_num, HB3, EL3⟩
      case measure => first | (simp [intOf]; done) | (simp [intOf]; omega)
    obtain rfl : i = 4 := by omega
    have HLL : Hid ((l ++ encIs (nsR r)).length ≤ l.length + 36) := by
      show _ ≤ _
      have h1 := encIs_len (nsR r)
      rw [List.length_append]
      have h2 : (nsR r).length = 4 := rfl
      omega
    have HB6 : Hid (Rd wO.heap.size wO u0 (l ++ encIs (nsR r))) := HB.out
    clear HB
    have c_X0 := (X0.out.below P2_y0.out X0.out.lt).at_ 0 _ rfl
    have c_X0_1 := (X0.out.below P2_y0.out X0.out.lt).at_ 1 _ rfl
    have c_X0_2 := (X0.out.below P2_y0.out X0.out.lt).at_ 2 _ rfl
    have c_X0_3 := (X0.out.below P2_y0.out X0.out.lt).at_ 3 _ rfl
    have c_X0_4 := (X0.out.below P2_y0.out X0.out.lt).at_ 4 _ rfl
    have c_X0_5 := (X0.out.below P2_y0.out X0.out.lt).at_ 5 _ rfl
    go_wp2_with fail
    refine (refText2_any u0 (l ++ encIs (nsR r)) (ba (pV r)) wO HB6.out (by have h1 := HLL.out; have h2 := HL.out; rw [ba_size]; omega)).mono ?_
    rintro e w4 ⟨v4, rfl, hown, hb⟩
    have H4 := Lib.hid hown.rd
    have E4 := Lib.hid hb
    clear hown hb c_X0 c_X0_1 c_X0_2 c_X0_3 c_X0_4 c_X0_5
    have P3_w := Lib.hid (P2_w.out.trans (E4.out.mono P2_w.out.size))
    clear P2_w
    have P3_y0 := Lib.hid (P2_y0.out.trans (E4.out.mono P2_y0.out.size))
    clear P2_y0
    have P3_WA := Lib.hid (EL.out.trans (E4.out.mono EL.out.size))
    have hs4 : w.heap.size ≤ w4.heap.size := P3_w.out.size
    have c_X0 := (X0.out.below P3_y0.out X0.out.lt).at_ 0 _ rfl
    have c_X0_1 := (X0.out.below P3_y0.out X0.out.lt).at_ 1 _ rfl
    have c_X0_2 := (X0.out.below P3_y0.out X0.out.lt).at_ 2 _ rfl
    have c_X0_3 := (X0.out.below P3_y0.out X0.out.lt).at_ 3 _ rfl
    have c_X0_4 := (X0.out.below P3_y0.out X0.out.lt).at_ 4 _ rfl
    have c_X0_5 := (X0.out.below P3_y0.out X0.out.lt).at_ 5 _ rfl
    have HS4 := Lib.hid ((HS.out.below P3_w.out).more P3_w.out.size)
    go_wp2_with fail
    refine (refList2_any v4 nv (l ++ encIs (nsR r) ++ encS (ba (pV r))) (pN r) w4 H4.out HS4.out (by have h1 := HLL.out; have h2 := HL.out; have h3 : (encS (ba (pV r))).length ≤ 9 + (pV r).length := encX_len (pV r); rw [List.length_append]; omega) (by have := HNN.out; omega)).mono ?_
    rintro e w5 ⟨v5, rfl, hown, hb⟩
    have H5 := Lib.hid hown
    have E5 := Lib.hid hb
    clear hown hb c_X0 c_X0_1 c_X0_2 c_X0_3 c_X0_4 c_X0_5
    have P4_w := Lib.hid (P3_w.out.trans (E5.out.mono P3_w.out.size))
    clear P3_w
    have P4_y0 := Lib.hid (P3_y0.out.trans (E5.out.mono P3_y0.out.size))
    clear P3_y0
    have P4_WA := Lib.hid (P3_WA.out.trans (E5.out.mono P3_WA.out.size))
    clear P3_WA
    have P4_wO := Lib.hid (E4.out.trans (E5.out.mono E4.out.size))
    go_wp2
    go_ret
    refine ⟨_, rfl, ?_, P4_w.out⟩
    have h := H5.out.base hs4
    have e : l ++ encR r = l ++ encIs (nsR r) ++ encS (ba (pV r)) ++ encL (pN r) := by simp [encR, nsR, encX, List.append_assoc]
    rw [e]
    exact h
end Go.Proofs.Ytmlpiembglmggaa
