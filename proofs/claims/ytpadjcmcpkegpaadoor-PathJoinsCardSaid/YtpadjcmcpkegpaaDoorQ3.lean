/-
  The program's paths: strings.Split at a slash, Names.
-/
import Derived.Test.YtpadjcmcpkegpaaDoorQ2
import Derived.Lib.IndexBytes
namespace Go.Proofs.YtpadjcmcpkegpaaDoor
open Go.RowKit

theorem count_head : ∀ s : List UInt8, s.count 47 = if hasS s = true then 1 + (tailS s).count 47 else 0
  | [] => rfl
  | c :: r => by
    unfold hasS tailS
    by_cases hc : c = 47
    · subst hc
      rw [List.count_cons_self, if_pos rfl, if_pos rfl, if_pos rfl]; omega
    · rw [List.count_cons_of_ne (by simpa using hc), if_neg hc, if_neg hc, count_head r]
theorem indexB_head (s : List UInt8) : Lib.indexB ⟨s.toArray⟩ ⟨#[47]⟩ = if hasS s = true then ((headS s).length : Int) else -1 := by
  show Lib.index s [47] = _
  rw [Lib.index_one, index_head]
theorem splitB_bas : ∀ (k : Nat) (s : List UInt8), s.count 47 = k → Lib.splitB ⟨#[47]⟩ 0 k ⟨s.toArray⟩ = bas (splitL [] s)
  | 0, s, h => by
    have hb : hasS s = false := by
      rw [count_head] at h
      cases hb : hasS s
      · rfl
      · rw [hb] at h; simp at h
    rw [split_not s hb]
    rfl
  | k + 1, s, h => by
    have hb : hasS s = true := by
      rw [count_head] at h
      cases hb : hasS s
      · rw [hb] at h; simp at h
      · rfl
    have hk : (tailS s).count 47 = k := by
      rw [count_head, hb] at h; simp at h; omega
    have hix : Lib.indexB ⟨s.toArray⟩ ⟨#[47]⟩ = ((headS s).length : Int) := by rw [indexB_head, hb]; rfl
    have hl := hasS_len s hb
    rw [Lib.splitB_hit _ _ _ _ _ hix, split_yes s hb]
    have e1 : (⟨s.toArray⟩ : ByteArray).extract 0 ((headS s).length + 0) = ⟨(headS s).toArray⟩ := by
      rw [Lib.extract_eq]
      simp [headS_take s hb]
    have e2 : (⟨s.toArray⟩ : ByteArray).extract ((headS s).length + (⟨#[47]⟩ : ByteArray).size) (⟨s.toArray⟩ : ByteArray).size = ⟨(tailS s).toArray⟩ := by
      rw [Lib.extract_eq]
      show (⟨((s.drop ((headS s).length + 1)).take (s.length - ((headS s).length + 1))).toArray⟩ : ByteArray) = _
      rw [tailS_drop s hb, List.take_of_length_le (by omega)]
    rw [e1, e2, splitB_bas k (tailS s) hk]
    rfl

theorem infoSp : (Tryd.prog.info? 9).map (fun i => (i.zero, i.size, i.bytes)) = some (some (.string ByteArray.empty), 1, 16) := by kernel_rfl

/-- The call answers texts of its own. -/
def Rows (l : List (List UInt8)) (w : World) (e : Ending) (w' : World) : Prop := ∃ v, e = .returned v ∧ OwnS 9 w' w.heap.size v (bas l) ∧ Below w.heap.size w w'

theorem genSplit_any (s : List UInt8) (w : World) (hs : s.length ≤ 1000000) : Calls Tryd.prog 35 #[txt s, .string ⟨#[47]⟩, .int .i64 0, .int .i64 (-1)] w (Rows (splitL [] s) w) := by
  have hC := Tryd.strings_Count_one ⟨s.toArray⟩ 47 w
  have ec : Lib.countB ⟨s.toArray⟩ ⟨#[47]⟩ = s.count 47 := Lib.count_one 47 s
  have hN : (((s.count 47 + 1 : Nat)) : Int) = min (if (-1 : Int) < 0 then (Lib.countB ⟨s.toArray⟩ ⟨#[47]⟩ : Int) + 1 else -1) (((⟨s.toArray⟩ : ByteArray).size : Int) + 1) := by
    rw [ec, if_pos (by decide)]
    have h1 : s.count 47 ≤ s.length := List.count_le_length
    have h2 : (⟨s.toArray⟩ : ByteArray).size = s.length := rfl
    rw [h2]; omega
  have H := Any.strings_genSplit_core Tryd.lays221 infoSp ⟨s.toArray⟩ ⟨#[47]⟩ 0 (-1) (s.count 47 + 1) w (by show s.length < _; omega) (by decide) (by decide)
    (fun x c _ => by
      have h := Tryd.strings_Index_one x 47 (w.alloc (.cells c 9))
      have e : Lib.indexB x ⟨#[47]⟩ = Lib.indexByte x.data.toList 47 := Lib.index_one _ _
      rw [e]
      exact h)
    (by rw [ec]; exact hC) (by decide) (by decide) hN
  refine Calls.mono H ?_
  rintro e w' ⟨rfl, rfl⟩
  rw [Nat.add_sub_cancel, splitB_bas _ s rfl]
  have hl : (bas (splitL [] s)).length = s.count 47 + 1 := by rw [bas_length, split_count]
  rw [← hl, Lib.cellsOf_full]
  have hle : s.count 47 ≤ s.length := List.count_le_length
  refine ⟨_, rfl, ?_, (Below.refl _ _).alloc (Nat.le_refl _) _⟩
  have h := World.ownsRow_lit (base := w.heap.size) (e := 9) (size := 1) w ((bas (splitL [] s)).map Value.string).toArray (bas (splitL [] s)).length (Nat.le_refl _) (by rw [hl]; unfold maxLen; omega) (by simp)
  exact h

set_option maxHeartbeats 1000000 in
theorem split_any (s : List UInt8) (w : World) (hs : s.length ≤ 1000000) : Calls Tryd.prog 24 #[txt s, .string ⟨#[47]⟩] w (Rows (splitL [] s) w) := by
  have H := Lib.hid (genSplit_any s w hs)
  clear hs
  go_enter Tryd.func24, Tryd.ntmps24
  go_wp2_with fail
  refine H.out.mono ?_
  rintro e w1 ⟨v, rfl, ho, hb⟩
  have HO := Lib.hid ho
  have HB := Lib.hid hb
  clear ho hb H
  go_wp2
  go_ret
  exact ⟨_, rfl, HO.out, HB.out⟩

theorem right_tail (s : List UInt8) (h : rightB s = true) (h1 : s ≠ [47]) : ∃ r, s = 47 :: r ∧ cutL s = splitL [] r := by
  have hs := right_slash s h
  cases s with
  | nil => cases hs
  | cons c r =>
    have hc : c = 47 := by simpa [slashB] using hs
    subst hc
    refine ⟨r, rfl, ?_⟩
    rw [cutL, if_pos rfl, if_neg (fun e => h1 (by rw [e]))]

set_option maxRecDepth 100000 in
set_option maxHeartbeats 2000000 in
theorem pxNames_any (s : List UInt8) (w : World) : Calls Tryd.prog 9 #[txt s] w (Lists (namesL s) (namesE s) w) := by
  go_enter Tryd.func9, Tryd.ntmps9
  go_wp2_with fail
  refine (pxRight_any s w).mono ?_
  rintro e w1 ⟨rfl, hb⟩
  have hs1 := hb.size
  have HB := Lib.hid hb
  clear hb
  cases hR : rightB s
  · have HN := Lib.hid (names_not s hR)
    clear hR
    go_wp2
    go_ret2
    rw [HN.out.1, HN.out.2]
    exact ⟨_, rfl, OwnS.nil _ _ _, HB.out⟩
  · have HN := Lib.hid (names_yes s hR)
    by_cases hr : s = [47]
    · subst hr
      clear hR
      go_wp2
      go_ret2
      rw [HN.out.1, HN.out.2]
      exact ⟨_, rfl, OwnS.nil _ _ _, HB.out⟩
    · have hr2 := txt_ne s [47] hr
      have HQ := Lib.hid (rightB_len s hR).1
      obtain ⟨r, hsr, hc⟩ := right_tail s hR hr
      have HC := Lib.hid hc
      have HR : Hid (r.length ≤ 1000000) := by
        show _ ≤ _
        have h := HQ.out
        rw [hsr] at h
        simp at h
        omega
      have hz : (⟨s.toArray⟩ : ByteArray).size = r.length + 1 := by
        show s.length = _
        rw [hsr]; rfl
      have HX : Hid (Value.string ((⟨s.toArray⟩ : ByteArray).extract 1 (r.length + 1)) = txt r) := by
        show _ = _
        rw [txt_extract, hsr]
        simp
      have H1 : Hid (Calls Tryd.prog 24 #[Value.string ((⟨s.toArray⟩ : ByteArray).extract 1 (r.length + 1)), .string ⟨#[47]⟩] w1 (Rows (splitL [] r) w1)) := by
        show Calls _ _ _ _ _
        rw [HX.out]
        exact split_any r w1 HR.out
      clear hR hr hsr hc
      have c1 : (1 : Int) ≤ (r.length : Int) + 1 := by omega
      go_wp2_with fail
      refine H1.out.mono ?_
      rintro e w2 ⟨v, rfl, ho, hb⟩
      have HO := Lib.hid (ho.base hs1)
      have HB2 := Lib.hid (HB.out.trans (hb.mono hs1))
      clear ho hb H1
      go_wp2
      go_ret2
      rw [HN.out.1, HN.out.2, HC.out]
      exact ⟨_, rfl, HO.out, HB2.out⟩
end Go.Proofs.YtpadjcmcpkegpaaDoor
