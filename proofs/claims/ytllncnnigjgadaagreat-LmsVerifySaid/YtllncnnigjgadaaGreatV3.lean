/-
  The document's lms: Verify, for every bytes.
-/
import Derived.Test.YtllncnnigjgadaaGreatV2
namespace Go.Proofs.YtllncnnigjgadaaGreat
open Go.RowKit

theorem lng_le {k : Nat} (hk : Wd k) : 36 ≤ lng k ∧ lng k ≤ 8516 := by rcases hk with rfl | rfl | rfl | rfl <;> decide
theorem list4 (l : List UInt8) (h : l.length = 4) : ∃ a b c d, l = [a, b, c, d] := by
  match l, h with
  | [a, b, c, d], _ => exact ⟨a, b, c, d, rfl⟩
/-- Four bytes are the number that they tell. -/
theorem take4_wd (l : List UInt8) (h : 4 ≤ l.length) : l.take 4 = be 4 (wd l 0) := by
  obtain ⟨a, b, c, d, e⟩ := list4 (l.take 4) (by rw [List.length_take]; omega)
  have hl : l = [a, b, c, d] ++ l.drop 4 := by rw [← e]; exact (List.take_append_drop 4 l).symm
  rw [e]
  have e2 := wd_sum l 0
  have g0 : l.getD 0 0 = a := by rw [hl]; rfl
  have g1 : l.getD 1 0 = b := by rw [hl]; rfl
  have g2 : l.getD 2 0 = c := by rw [hl]; rfl
  have g3 : l.getD 3 0 = d := by rw [hl]; rfl
  simp only [Nat.mul_zero, Nat.zero_add, g0, g1, g2, g3] at e2
  have e3 : val [a, b, c, d] = wd l 0 := by
    rw [e2]
    simp [val]
    omega
  have e4 := be_val [a, b, c, d]
  rw [e3] at e4
  exact e4.symm
theorem take4_iff (l : List UInt8) (n : Nat) (h : 4 ≤ l.length) (hn : n < 4294967296) : l.take 4 = be 4 n ↔ wd l 0 = n := by
  rw [take4_wd l h]
  constructor
  · intro e
    have := congrArg (fun x => wd (x ++ []) 0) e
    simp only [wd_be _ _ hn, wd_be _ _ (wd_lt l 0)] at this
    exact this
  · intro e; rw [e]

theorem rfForm_yes (v : Value) (p : List UInt8) (k h : Nat) (w : World) (hr : Rd w.heap.size w v p) (hl : p.length = 56) (hf : LFit (wd p 0) (wd (p.drop 4) 0) k h) : Calls Tryz.prog 34 #[v] w (TwoD (.agg (tcs ((p.drop 8).take 16) Z32 (k : Int) (h : Int)).toArray) (.bool true) w) := by
  obtain ⟨hk, hh, h1, h2⟩ := hf
  exact rfForm_any v p _ k h true w hr hl rfl (wSel_hit _ k hk (by rw [h2]; exact (take4_wd _ (by rw [List.length_drop]; omega)).symm)) (hSel_hit _ h hh (by rw [h1]; exact (take4_wd _ (by omega)).symm)) (fun w' => rfMay_yes _ Z32 k h w' (by rw [List.length_take, List.length_drop, hl]; omega) Z32l hk hh)
theorem rfForm_no (v : Value) (p : List UInt8) (w : World) (hr : Rd w.heap.size w v p) (hl : p.length = 56) (hn : ∀ k h, ¬ LFit (wd p 0) (wd (p.drop 4) 0) k h) : ∃ W H : Nat, Calls Tryz.prog 34 #[v] w (TwoD (.agg (tcs ((p.drop 8).take 16) Z32 (W : Int) (H : Int)).toArray) (.bool false) w) := by
  refine ⟨wSel ((p.drop 4).take 4), hSel (p.take 4), ?_⟩
  refine rfForm_any v p _ _ _ false w hr hl rfl rfl rfl (fun w' => rfMay_no _ Z32 _ _ w' (by rw [List.length_take, List.length_drop, hl]; omega) Z32l ?_)
  rcases wFrom_or ((p.drop 4).take 4) with ⟨hk, e1⟩ | e1
  · rcases hSel_or (p.take 4) with ⟨hh, e2⟩ | e2
    · exact absurd ⟨hk, hh, ((take4_iff p _ (by omega) (knd_lt hh)).1 e2.symm).symm, ((take4_iff (p.drop 4) _ (by rw [List.length_drop]; omega) (typ_lt hk)).1 e1.symm).symm⟩ (hn _ _)
    · refine .inr ?_
      rw [e2]
      unfold NoH
      decide
  · refine .inl ?_
    rw [show wSel ((p.drop 4).take 4) = 0 from e1]
    exact noW0

set_option maxRecDepth 100000 in
set_option maxHeartbeats 4000000 in
theorem rfVer_noform (R : List UInt8) (z y : Int) (pv tv sv : Value) (w : World) (hR : R.length = 16) (hform : Calls Tryz.prog 34 #[pv] w (TwoD (.agg (tcs R Z32 z y).toArray) (.bool false) w)) : Calls Tryz.prog 10 #[pv, tv, sv] w (One (.int .i64 3) w) := by
  have HR := Lib.hid hR
  have HF := Lib.hid hform
  clear hR hform
  go_enter Tryz.func10, Tryz.ntmps10
  go_wp2_with fail
  refine (HF.out).mono ?_
  rintro e w1 ⟨rfl, hb⟩
  have A3 : Hid (Below w.heap.size w w1) := hb
  clear hb
  go_wp2_with (refine wpList_alloc_blk rfl 38 rfl _ ziTreeV ?_)
  intro w2 a1 a2 a3
  obtain ⟨g7, hg7⟩ : ∃ g, w1.heap.size = g := ⟨_, rfl⟩
  have hw7 : w.heap.size ≤ g7 := by have := A3.out.size; omega
  rw [hg7] at a1 a2 a3 ⊢
  have G7 := Lib.hid a1
  obtain ⟨w3, hw3⟩ : ∃ u, w2.setRow g7 (tcs R Z32 z y).toArray = u := ⟨_, rfl⟩
  have B7 : Hid (Blk w3 g7 (tcs R Z32 z y) 38) := by show Blk _ _ _ _; rw [← hw3]; exact a1.setRow
  have B3 : Hid (Below w.heap.size w w3) := by show Below _ _ _; rw [← hw3]; exact below_setRow' (A3.out.trans (a3.mono hw7)) hw7 _
  have HW3 := Lib.hid hw3
  clear a1 a2 a3 hg7 hw3 A3
  go_wp2_with (first | (refine wpList_store_blk rfl 38 _ _ rfl g7 (tcs R Z32 z y) (tcs Z16 Z32 0 0) 38 rfl rfl G7.out (sTreeV _ _ _ _ HR.out Z32l) (by rw [tcs_length _ _ _ _ HR.out Z32l]; rfl) (tcs_one _ _ _ _) ?_; rw [HW3.out]; clear HW3))
  go_ret
  exact ⟨rfl, B3.out⟩

end Go.Proofs.YtllncnnigjgadaaGreat
