/-
  Texts Q3 Q4 Q6 YL YO YP H0.
-/
import Derived.Test.YtgfobinklijkpaaGreatDoorW01
import Derived.Lib.IndexBytes
import Derived.Test.YtgfobinklijkpaaGreatDoorW07
namespace Go.Proofs.YtgfobinklijkpaaGreatDoor
set_option maxRecDepth 100000
set_option maxHeartbeats 16000000
open Go.RowKit
theorem count_head : ∀ s : List UInt8, s.count 47 = if hasS s = true then 1 + (tailS s).count 47 else 0
 | [] => rfl
 | c :: r => by
   unfold hasS tailS
   by_cases hc : c = 47
   ·subst hc
    rw [List.count_cons_self, if_pos rfl, if_pos rfl, if_pos rfl]; omega
   ·rw [List.count_cons_of_ne (by simpa using hc), if_neg hc, if_neg hc, count_head r]
theorem indexB_head (s : List UInt8) : Lib.indexB ⟨s.toArray⟩ ⟨#[47]⟩ = if hasS s = true then ((headS s).length : Int) else -1 := by
 show Lib.index s [47] = _
 rw [Lib.index_one, index_head]
theorem splitB_bas : ∀ (k : Nat) (s : List UInt8), s.count 47 = k → Lib.splitB ⟨#[47]⟩ 0 k ⟨s.toArray⟩ = bas (splitL [] s)
 | 0, s, h => by
   have hb : hasS s = false := by
    rw [count_head] at h
    cases hb : hasS s
    ·rfl
    ·rw [hb] at h; simp at h
   rw [split_not s hb]
   rfl
 | k + 1, s, h => by
   have hb : hasS s = true := by
    rw [count_head] at h
    cases hb : hasS s
    ·rw [hb] at h; simp at h
    ·rfl
   have hk : (tailS s).count 47 = k := by
    rw [count_head, hb] at h; simp at h; omega
   have hix : Lib.indexB ⟨s.toArray⟩ ⟨#[47]⟩ = ((headS s).length : Int) := by rw [indexB_head, hb]; rfl
   have hl := hasS_len s hb
   rw [Lib.splitB_hit _ _ _ _ _ hix, split_yes s hb]
   have e1 : (⟨s.toArray⟩ : ByteArray).extract 0 ((headS s).length + 0) = ⟨(headS s).toArray⟩ := by
    rw [Lib.extract_eq]
    simp [headS_take s hb]
   have e2 : (⟨s.toArray⟩ : ByteArray).extract ((headS s).length + (⟨#[47]⟩ : ByteArray).size) (⟨s.toArray⟩ : ByteArray).size = ⟨(tailS s).toArray⟩ := by
    rw [Lib.extract_eq]
    show (⟨((s.drop ((headS s).length + 1)).take (s.length - ((headS s).length + 1))).toArray⟩ : ByteArray) = _
    rw [tailS_drop s hb, List.take_of_length_le (by omega)]
   rw [e1, e2, splitB_bas k (tailS s) hk]
   rfl
theorem infoSp : (Tryz.prog.info? 9).map (fun i => (i.zero, i.size, i.bytes)) = some (some (.string ByteArray.empty), 1, 16) := by kernel_rfl
def Rows (l : List (List UInt8)) (w : World) (e : Ending) (w' : World) : Prop := ∃ v, e = .returned v ∧ OwnS 9 w' w.heap.size v (bas l) ∧ Below w.heap.size w w'
theorem genSplit_any (s : List UInt8) (w : World) (hs : s.length ≤ 1000000) : Calls Tryz.prog 256 #[txt s, .string ⟨#[47]⟩, .int .i64 0, .int .i64 (-1)] w (Rows (splitL [] s) w) := by
 have hC := Tryz.strings_Count_one ⟨s.toArray⟩ 47 w
 have ec : Lib.countB ⟨s.toArray⟩ ⟨#[47]⟩ = s.count 47 := Lib.count_one 47 s
 have hN : (((s.count 47 + 1 : Nat)) : Int) = min (if (-1 : Int) < 0 then (Lib.countB ⟨s.toArray⟩ ⟨#[47]⟩ : Int) + 1 else -1) (((⟨s.toArray⟩ : ByteArray).size : Int) + 1) := by
  rw [ec, if_pos (by decide)]
  have h1 : s.count 47 ≤ s.length := List.count_le_length
  have h2 : (⟨s.toArray⟩ : ByteArray).size = s.length := rfl
  rw [h2]; omega
 have H := Any.strings_genSplit_core Tryz.lays221 infoSp ⟨s.toArray⟩ ⟨#[47]⟩ 0 (-1) (s.count 47 + 1) w (by show s.length < _; omega) (by decide) (by decide)
  (fun x c _ => by
    have h := Tryz.strings_Index_one x 47 (w.alloc (.cells c 9))
    have e : Lib.indexB x ⟨#[47]⟩ = Lib.indexByte x.data.toList 47 := Lib.index_one _ _
    rw [e]
    exact h)
  (by rw [ec]; exact hC) (by decide) (by decide) hN
 refine Calls.mono H ?_
 rintro e w' ⟨rfl, rfl⟩
 rw [Nat.add_sub_cancel, splitB_bas _ s rfl]
 have hl : (bas (splitL [] s)).length = s.count 47 + 1 := by rw [bas_length, split_count]
 rw [← hl, Lib.cellsOf_full]
 have hle : s.count 47 ≤ s.length := List.count_le_length
 refine ⟨_, rfl, ?_, (Below.refl _ _).alloc (Nat.le_refl _) _⟩
 have h := World.ownsRow_lit (base := w.heap.size) (e := 9) (size := 1) w ((bas (splitL [] s)).map Value.string).toArray (bas (splitL [] s)).length (Nat.le_refl _) (by rw [hl]; unfold maxLen; omega) (by simp)
 exact h
theorem split_any (s : List UInt8) (w : World) (hs : s.length ≤ 1000000) : Calls Tryz.prog 241 #[txt s, .string ⟨#[47]⟩] w (Rows (splitL [] s) w) := by
 have H := lhd (genSplit_any s w hs)
 clear hs
 go_enter Tryz.func241, Tryz.ntmps241
 go_wp2_with fail
 refine H.out.mono ?_
 rintro e w1 ⟨v, rfl, ho, hb⟩
 have HO := lhd ho
 have HB := lhd hb
 clear ho hb H
 go_wp2
 go_ret
 exact ⟨_, rfl, HO.out, HB.out⟩
theorem right_tail (s : List UInt8) (h : rightB s = true) (h1 : s ≠ [47]) : ∃ r, s = 47 :: r ∧ cutL s = splitL [] r := by
 have hs := right_slash s h
 cases s with
 | nil => cases hs
 | cons c r =>
   have hc : c = 47 := by simpa [slashB] using hs
   subst hc
   refine ⟨r, rfl, ?_⟩
   rw [cutL, if_pos rfl, if_neg (fun e => h1 (by rw [e]))]
theorem pxNames_any (s : List UInt8) (w : World) : Calls Tryz.prog 219 #[txt s] w (Lists (namesL s) (namesE s) w) := by
 go_enter Tryz.func219, Tryz.ntmps219
 go_wp2_with fail
 refine (pxRight_any s w).mono ?_
 rintro e w1 ⟨rfl, hb⟩
 have hs1 := hb.size
 have HB := lhd hb
 clear hb
 cases hR : rightB s
 ·have HN := lhd (names_not s hR)
  clear hR
  go_wp2
  go_ret2
  rw [HN.out.1, HN.out.2]
  exact ⟨_, rfl, OwnS.nil _ _ _, HB.out⟩
 ·have HN := lhd (names_yes s hR)
  by_cases hr : s = [47]
  ·subst hr
   clear hR
   go_wp2
   go_ret2
   rw [HN.out.1, HN.out.2]
   exact ⟨_, rfl, OwnS.nil _ _ _, HB.out⟩
  ·have hr2 := txt_ne s [47] hr
   have HQ := lhd (rightB_len s hR).1
   obtain ⟨r, hsr, hc⟩ := right_tail s hR hr
   have HC := lhd hc
   have HR : Hid (r.length ≤ 1000000) := by
    show _ ≤ _
    have h := HQ.out
    rw [hsr] at h
    simp at h
    omega
   have hz : (⟨s.toArray⟩ : ByteArray).size = r.length + 1 := by
    show s.length = _
    rw [hsr]; rfl
   have HX : Hid (Value.string ((⟨s.toArray⟩ : ByteArray).extract 1 (r.length + 1)) = txt r) := by
    show _ = _
    rw [txt_extract, hsr]
    simp
   have H1 : Hid (Calls Tryz.prog 241 #[Value.string ((⟨s.toArray⟩ : ByteArray).extract 1 (r.length + 1)), .string ⟨#[47]⟩] w1 (Rows (splitL [] r) w1)) := by
    show Calls _ _ _ _ _
    rw [HX.out]
    exact split_any r w1 HR.out
   clear hR hr hsr hc
   have c1 : (1 : Int) ≤ (r.length : Int) + 1 := by omega
   go_wp2_with fail
   refine H1.out.mono ?_
   rintro e w2 ⟨v, rfl, ho, hb⟩
   have HO := lhd (ho.base hs1)
   have HB2 := lhd (HB.out.trans (hb.mono hs1))
   clear ho hb H1
   go_wp2
   go_ret2
   rw [HN.out.1, HN.out.2, HC.out]
   exact ⟨_, rfl, HO.out, HB2.out⟩
theorem pxParent_any (s : List UInt8) (w : World) : Calls Tryz.prog 190 #[txt s] w (Says (parentS s) (parentE s) w) := by
 go_enter Tryz.func190, Tryz.ntmps190
 go_wp2_with fail
 refine (pxRight_any s w).mono ?_
 rintro e w1 ⟨rfl, hb⟩
 have hs1 := hb.size
 have HB := lhd hb
 clear hb
 cases hR : rightB s
 ·have HP := lhd (parent_not s hR)
  clear hR
  go_wp2
  go_ret2
  rw [HP.out.1, HP.out.2]
  exact ⟨rfl, HB.out⟩
 ·by_cases hr : s = [47]
  ·have HP := lhd (parent_root s hR ((cut_root s (right_slash s hR)).2 hr))
   subst hr
   clear hR
   go_wp2
   go_ret2
   rw [HP.out.1, HP.out.2]
   exact ⟨rfl, HB.out⟩
  ·have hr2 := txt_ne s [47] hr
   obtain ⟨m, hm, h1, h2, h3, h4⟩ := last_slash s hR hr
   have hl := (rightB_len s hR).1
   have HI := Tryz.strings_LastIndex_one ⟨s.toArray⟩ ⟨#[47]⟩ rfl (by show s.length < _; omega) w1
   have e1 : Lib.lastIndexByte ⟨s.toArray⟩ (((⟨#[47]⟩ : ByteArray)[0]'(by decide)).toNat : Int) = (m : Int) := last_of s m hm h1 h2
   rw [e1] at HI
   have HI2 := lhd HI
   have H3 := lhd h3
   have H4 := lhd h4
   obtain ⟨n, hn⟩ : ∃ n, s.length = n := ⟨_, rfl⟩
   have hsz : (⟨s.toArray⟩ : ByteArray).size = n := hn
   rw [hn] at hm hl
   have zi : (m : Int) ≤ (n : Int) := by omega
   clear hR hr HI e1 h1 h2 h3 h4 hn
   go_wp2_with fail
   refine HI2.out.mono ?_
   rintro e w' ⟨rfl, rfl⟩
   by_cases h0 : m = 0
   ·subst h0
    clear HI2
    go_wp2
    go_ret2
    rw [H3.out, H4.out]
    exact ⟨rfl, HB.out⟩
   ·have hz : ((m : Int) == 0) = false := by simpa using h0
    clear HI2
    go_wp2
    go_ret2
    rw [H3.out, H4.out, if_neg h0]
    refine ⟨?_, HB.out⟩
    show Ending.returned (.tuple #[Value.string ((⟨s.toArray⟩ : ByteArray).extract 0 m), _]) = _
    rw [txt_extract]
    rfl
def cmpB (x y : List UInt8) : Int := if lessB x y = true then -1 else if lessB y x = true then 1 else 0
theorem cmpB_same (x : List UInt8) : cmpB x x = 0 := by
 unfold cmpB
 rw [lessB_irrefl]; rfl
theorem cmpB_ne (x y : List UInt8) (h : x ≠ y) : (lessB x y = true ∧ cmpB x y = -1) ∨ (lessB x y = false ∧ lessB y x = true ∧ cmpB x y = 1) := by
 have h1 := lessB_or x y h
 unfold cmpB
 cases h2 : lessB x y
 ·right
  rw [h2] at h1
  have h3 : lessB y x = true := by cases h4 : lessB y x <;> simp_all
  simp [h3]
 ·left; simp
theorem cmp_any (x y : List UInt8) (w : World) : Calls Tryz.prog 265 #[txt x, txt y] w fun e w' => e = .returned (.int .i64 (cmpB x y)) ∧ w' = w := by
 go_enter Tryz.func265, Tryz.ntmps265
 have HL := lhd (lessB_eq x y)
 go_wp2
 ·rename_i h
  rw [← HL.out] at h
  have HC : Hid (cmpB x y = -1) := by
   show _ = _
   unfold cmpB
   rw [h]; rfl
  go_ret
  exact ⟨by rw [HC.out]; rfl, rfl⟩
 ·rename_i h2 _ _ h
  rw [← HL.out] at h2
  have hne : x ≠ y := by simpa using h
  have HC : Hid (cmpB x y = 1) := by
   show _ = _
   rcases cmpB_ne x y hne with ⟨h3, _⟩ | ⟨_, _, h3⟩
   ·rw [h2] at h3; cases h3
   ·exact h3
  go_ret
  exact ⟨by rw [HC.out]; rfl, rfl⟩
 ·rename_i h
  have he : x = y := by simpa using h
  have HC : Hid (cmpB x y = 0) := by
   show _ = _
   rw [he, cmpB_same]
  go_ret
  exact ⟨by rw [HC.out]; rfl, rfl⟩
theorem compare_any (a b : List (List UInt8)) (v1 v2 : Value) (w : World) (hr1 : RdS w.heap.size w v1 (bas a)) (hr2 : RdS w.heap.size w v2 (bas b)) :
 Calls Tryz.prog 255 #[v1, v2] w fun e w' => ∃ r : Int, e = .returned (.int .i64 r) ∧ decide (r < 0) = aheadL a b ∧ w' = w := by
 obtain ⟨A, cp, rfl, hc, hm⟩ := hr1.shape
 obtain ⟨A2, cp2, rfl, hc2, hm3⟩ := hr2.shape
 unfold maxLen at hm hm3
 rw [bas_length] at hc hr1 hc2 hr2 ⊢
 rw [bas_length]
 obtain ⟨m, hm2⟩ : ∃ m, a.length = m := ⟨_, rfl⟩
 obtain ⟨n, hn2⟩ : ∃ n, b.length = n := ⟨_, rfl⟩
 have HM := lhd hm2
 have HNN := lhd hn2
 rw [hm2] at hc hr1 ⊢
 rw [hn2] at hc2 hr2 ⊢
 have HR1 := lhd hr1
 have HR2 := lhd hr2
 clear hm2 hn2 hr1 hr2
 go_enter Tryz.func255, Tryz.ntmps255
 go_wp2
 go_loop [11] (fun vi => ∃ i : Nat, i ≤ m ∧ i ≤ n ∧ vi = .int .i64 (i : Int) ∧ Hid (∀ j, j < i → a.getD j [] = b.getD j [])) (fun vi => m - (intOf vi).toNat)
 case atStart => exact ⟨0, by omega, by omega, rfl, fun j hj => by omega⟩
 case round =>
  obtain ⟨i, hi, hin, rfl, HA⟩ := hrel
  by_cases hi2 : i < m
  ·have zj : (i : Int) < (m : Int) := by omega
   obtain ⟨a1, hA1, ca⟩ := HR1.out.at_ i (by rw [bas_length, HM.out]; exact hi2)
   subst hA1
   obtain ⟨x, hx⟩ : ∃ x, a.getD i [] = x := ⟨_, rfl⟩
   rw [bas_at a i (by rw [HM.out]; exact hi2) x hx] at ca
   by_cases hi3 : i < n
   ·have zk : (i : Int) < (n : Int) := by omega
    obtain ⟨a2, hA2, cb⟩ := HR2.out.at_ i (by rw [bas_length, HNN.out]; exact hi3)
    subst hA2
    obtain ⟨y, hy⟩ : ∃ y, b.getD i [] = y := ⟨_, rfl⟩
    rw [bas_at b i (by rw [HNN.out]; exact hi3) y hy] at cb
    have HX := lhd hx
    have HY := lhd hy
    clear hx hy
    go_wp2_with fail
    refine (cmp_any x y w).mono ?_
    rintro e w' ⟨rfl, rfl⟩
    by_cases hxy : x = y
    ·have hc0 := cmpB_same y
     rw [hxy, hc0]
     have HA2 : Hid (∀ j, j < i + 1 → a.getD j [] = b.getD j []) := by
      intro j hj
      by_cases h : j < i
      ·exact HA.out j h
      ·have : j = i := by omega
       subst this
       rw [HX.out, HY.out, hxy]
     clear hxy hc0
     go_wp2
     go_round
     case rel => exact ⟨i + 1, by omega, by omega, by go_num, HA2⟩
     case measure => simp [intOf]; omega
    ·have HL := lhd (aheadL_diff a b i (by rw [HM.out]; exact hi2) (by rw [HNN.out]; exact hi3) HA.out (by rw [HX.out, HY.out]; exact hxy))
     rw [HX.out, HY.out] at HL
     rcases cmpB_ne x y hxy with ⟨h1, h2⟩ | ⟨h1, _, h2⟩
     ·rw [h2]
      have H1 := lhd h1
      clear hxy h1 h2
      go_wp2
      go_ret
      exact ⟨-1, rfl, by rw [HL.out, H1.out]; rfl, rfl⟩
     ·rw [h2]
      have H1 := lhd h1
      clear hxy h1 h2
      go_wp2
      go_ret
      exact ⟨1, rfl, by rw [HL.out, H1.out]; rfl, rfl⟩
   ·have hE : i = n := by omega
    subst hE
    have HL := lhd (aheadL_end a b (fun j h1 h2 => HA.out j (by rw [HNN.out] at h2; exact h2)))
    rw [HM.out, HNN.out] at HL
    have zk : ¬ ((i : Int) < (i : Int)) := by omega
    go_wp2
    go_ret
    refine ⟨1, rfl, ?_, rfl⟩
    rw [HL.out]
    simp
    omega
  ·have hE : i = m := by omega
   subst hE
   have HL := lhd (aheadL_end a b (fun j h1 h2 => HA.out j (by rw [HM.out] at h1; exact h1)))
   rw [HM.out, HNN.out] at HL
   by_cases hmn : i < n
   ·have zk : (i : Int) < (n : Int) := by omega
    go_wp2
    go_ret
    refine ⟨-1, rfl, ?_, rfl⟩
    rw [HL.out]
    simp
    omega
   ·have zk : ¬ ((i : Int) < (n : Int)) := by omega
    go_wp2
    go_ret
    refine ⟨0, rfl, ?_, rfl⟩
    rw [HL.out]
    simp
    omega
theorem pxAhead_any (p q : List UInt8) (w : World) : Calls Tryz.prog 237 #[txt p, txt q] w (One (.bool (aheadB p q)) w) := by
 go_enter Tryz.func237, Tryz.ntmps237
 go_wp2_with fail
 refine (pxNames_any p w).mono ?_
 rintro e w1 ⟨v, rfl, ho, hb⟩
 have hs1 := hb.size
 have HB := lhd hb
 have HO := lhd ho
 clear hb ho
 rcases namesE_or p with ⟨h1, h2, h3⟩ | ⟨h1, h2, h3⟩
 ·rw [h3] at HO
  rw [h2]
  have HR := lhd h1
  clear h1 h2 h3
  go_wp2_with fail
  refine (pxNames_any q w1).mono ?_
  rintro e w2 ⟨v2, rfl, ho, hb⟩
  have HB2 := lhd (HB.out.trans (hb.mono hs1))
  have HO1 := lhd (HO.out.below hb (Nat.le_refl _))
  have HO2 := lhd ho
  clear hb ho HO
  rcases namesE_or q with ⟨h4, h5, h6⟩ | ⟨h4, h5, h6⟩
  ·rw [h6] at HO2
   rw [h5]
   have HF := lhd (aheadB_yes p q HR.out h4)
   have HC := lhd (compare_any (cutL p) (cutL q) v v2 w2 HO1.out.rd HO2.out.rd)
   clear h4 h5 h6
   go_wp2_with fail
   refine HC.out.mono ?_
   rintro e w' ⟨r, rfl, hr, rfl⟩
   rw [← HF.out] at hr
   clear HC
   have HH := lhd hr
   clear hr
   go_wp2
   go_ret
   exact ⟨by rw [← HH.out]; rfl, HB2.out⟩
  ·rw [h5]
   have HF := lhd (aheadB_not p q (by rw [h4]; simp))
   clear h4 h5 h6
   go_wp2
   go_ret
   exact ⟨by rw [HF.out]; rfl, HB2.out⟩
 ·rw [h2]
  have HF := lhd (aheadB_not p q (by rw [h1]; rfl))
  clear h1 h2 h3
  go_wp2
  go_ret
  exact ⟨by rw [HF.out]; rfl, HB.out⟩
theorem ahead_or (p q : List UInt8) (hp : rightB p = true) (hq : rightB q = true) (h : p ≠ q) : aheadB q p = !aheadB p q := by
 rw [aheadB_yes p q hp hq, aheadB_yes q p hq hp]
 exact aheadL_or _ _ (fun e => h (cut_inj p q (right_slash p hp) (right_slash q hq) e.symm))
theorem nameB_parts (x : List UInt8) (h : nameB x = true) : x.all chrB = true ∧ x ≠ [] := by
 unfold nameB at h
 simp only [Bool.and_eq_true, decide_eq_true_eq] at h
 refine ⟨h.1.1, ?_⟩
 rintro rfl
 simp at h
theorem slash_made (l : List (List UInt8)) : slashB (madeL l) = true := by
 unfold madeL
 cases l with
 | nil => rfl
 | cons x l => rw [joinL_cons]; rfl
theorem made_len (l : List (List UInt8)) (h : (joinL l).length ≤ 100) : (madeL l).length ≤ 100 := by
 unfold madeL
 split
 ·decide
 ·exact h
theorem cut_made (l : List (List UInt8)) (h : l.all nameB = true) : cutL (madeL l) = l := by
 rw [List.all_eq_true] at h
 exact cutL_made l (fun y hy => (nameB_parts y (h y hy)).1) (fun y hy => (nameB_parts y (h y hy)).2)
theorem right_made (l : List (List UInt8)) (h : l.all nameB = true) (h8 : l.length ≤ 8) (h100 : (joinL l).length ≤ 100) : rightB (madeL l) = true := by
 unfold rightB
 rw [cut_made l h, h, slash_made]
 have h1 := made_len l h100
 simp [h1, h8]
theorem all_take (l : List (List UInt8)) (k : Nat) (h : l.all nameB = true) : (l.take k).all nameB = true := by
 rw [List.all_eq_true] at *
 exact fun x hx => h x (List.mem_of_mem_take hx)
abbrev Nd := List UInt8 × List UInt8 × Int × Int
abbrev nP (x : Nd) : List UInt8 := x.1
abbrev nV (x : Nd) : List UInt8 := x.2.1
abbrev nR (x : Nd) : Int := x.2.2.1
abbrev nO (x : Nd) : Int := x.2.2.2
def nd0 : Nd := ([], [], 0, 0)
def placeN : List Nd → List UInt8 → Nat
 | [], _ => 0
 | x :: r, p => if nP x = p then 0 else placeN r p + 1
def hasN (l : List Nd) (p : List UInt8) : Bool := decide (placeN l p < l.length)
def nodeN (l : List Nd) (p : List UInt8) : Nd := l.getD (placeN l p) nd0
def fineN (x : Nd) : Bool := rightB (nP x) && decide ((nV x).length ≤ 1000) && decide (0 ≤ nR x) && decide (nR x ≤ 1000000000) && decide (0 ≤ nO x)
def upN (l : List Nd) (x : Nd) : Bool := if parentE (nP x) = 0 then hasN l (parentS (nP x)) && decide (nO (nodeN l (parentS (nP x))) = 0) else decide (nO x = 0)
def okN (l : List Nd) (i : Nat) : Bool := fineN (l.getD i nd0) && (decide (i = 0) || aheadB (nP (l.getD (i - 1) nd0)) (nP (l.getD i nd0))) && upN l (l.getD i nd0)
def rightN (l : List Nd) : Bool := decide (1 ≤ l.length) && decide (l.length ≤ 200) && (List.range l.length).all (okN l) && decide (placeN l [47] = 0)
theorem placeN_at : ∀ (l : List Nd) (p : List UInt8), placeN l p < l.length → nP (nodeN l p) = p ∧ nodeN l p ∈ l
 | [], _, h => by simp [placeN] at h
 | x :: r, p, h => by
   unfold placeN at h
   unfold nodeN placeN
   by_cases hx : nP x = p
   ·rw [if_pos hx]
    exact ⟨hx, by simp⟩
   ·rw [if_neg hx] at h
    rw [if_neg hx]
    have := placeN_at r p (by simpa using h)
    exact ⟨this.1, List.mem_cons_of_mem _ this.2⟩
theorem hasN_iff (l : List Nd) (p : List UInt8) : hasN l p = true ↔ ∃ x ∈ l, nP x = p := by
 unfold hasN
 rw [decide_eq_true_eq]
 constructor
 ·intro h
  exact ⟨nodeN l p, (placeN_at l p h).2, (placeN_at l p h).1⟩
 ·rintro ⟨x, hx, hp⟩
  induction l with
  | nil => simp at hx
  | cons y r ih =>
    unfold placeN
    split
    ·simp
    ·rename_i h
     rcases List.mem_cons.1 hx with rfl | hx
     ·exact absurd hp h
     ·have := ih hx
      simpa using this
theorem hasN_not (l : List Nd) (p : List UInt8) (h : hasN l p = false) : ∀ x ∈ l, nP x ≠ p := by
 intro x hx hp
 have := (hasN_iff l p).2 ⟨x, hx, hp⟩
 rw [h] at this
 cases this
theorem hasN_node (l : List Nd) (p : List UInt8) (h : hasN l p = true) : nP (nodeN l p) = p ∧ nodeN l p ∈ l := by
 unfold hasN at h
 rw [decide_eq_true_eq] at h
 exact placeN_at l p h
theorem placeN_here (l : List Nd) (p : List UInt8) (i : Nat) (hi : i < l.length) (h : nP (l.getD i nd0) = p) (hf : ∀ j, j < i → nP (l.getD j nd0) ≠ p) : placeN l p = i := by
 induction l generalizing i with
 | nil => simp at hi
 | cons x r ih =>
   unfold placeN
   cases i with
   | zero =>
     have : nP x = p := by simpa using h
     rw [if_pos this]
   | succ i =>
     have h0 : nP x ≠ p := by simpa using hf 0 (by omega)
     rw [if_neg h0, ih i (by simpa using hi) (by simpa using h) (fun j hj => by simpa using hf (j + 1) (by omega))]
def inOrder (l : List Nd) : Prop := l.Pairwise fun x y => aheadB (nP x) (nP y) = true
theorem ahead_irr (p : List UInt8) : aheadB p p = false := by unfold aheadB; rw [aheadL_irrefl]; simp
theorem ahead_tr (p q r : List UInt8) (h : aheadB p q = true) (h2 : aheadB q r = true) : aheadB p r = true := by
 unfold aheadB at *
 simp only [Bool.and_eq_true] at *
 exact ⟨⟨h.1.1, h2.1.2⟩, aheadL_trans _ _ _ h.2 h2.2⟩
theorem ahead_else (p q : List UInt8) (hp : rightB p = true) (hq : rightB q = true) (h : p ≠ q) (h2 : aheadB p q = false) : aheadB q p = true := by
 rw [ahead_or p q hp hq h, h2]; rfl
theorem inOrder_steps : ∀ (l : List Nd), (∀ i, i + 1 < l.length → aheadB (nP (l.getD i nd0)) (nP (l.getD (i + 1) nd0)) = true) → inOrder l
 | [], _ => List.Pairwise.nil
 | [x], _ => by unfold inOrder; simp
 | x :: y :: r, h => by
   have ih := inOrder_steps (y :: r) (fun i hi => by simpa using h (i + 1) (by simpa using hi))
   unfold inOrder at *
   have hxy : aheadB (nP x) (nP y) = true := by simpa using h 0 (by simp)
   refine List.Pairwise.cons ?_ ih
   intro z hz
   rcases List.mem_cons.1 hz with rfl | hz
   ·exact hxy
   ·exact ahead_tr _ _ _ hxy ((List.pairwise_cons.1 ih).1 z hz)
theorem inOrder_at (l : List Nd) (h : inOrder l) (i j : Nat) (hij : i < j) (hj : j < l.length) : aheadB (nP (l.getD i nd0)) (nP (l.getD j nd0)) = true := by
 have := List.pairwise_iff_getElem.1 h i j (by omega) hj hij
 rw [List.getD_eq_getElem?_getD, List.getD_eq_getElem?_getD, List.getElem?_eq_getElem hj, List.getElem?_eq_getElem (by omega)]
 exact this
theorem inOrder_same (l : List Nd) (h : inOrder l) (x y : Nd) (hx : x ∈ l) (hy : y ∈ l) (hp : nP x = nP y) : x = y := by
 obtain ⟨i, hi, rfl⟩ := List.getElem_of_mem hx
 obtain ⟨j, hj, rfl⟩ := List.getElem_of_mem hy
 rcases Nat.lt_trichotomy i j with h1 | h1 | h1
 ·have := List.pairwise_iff_getElem.1 h i j hi hj h1
  rw [hp, ahead_irr] at this; cases this
 ·subst h1; rfl
 ·have := List.pairwise_iff_getElem.1 h j i hj hi h1
  rw [hp, ahead_irr] at this; cases this
theorem nodeN_mem (l : List Nd) (h : inOrder l) (x : Nd) (hx : x ∈ l) : hasN l (nP x) = true ∧ nodeN l (nP x) = x := by
 have h1 := (hasN_iff l (nP x)).2 ⟨x, hx, rfl⟩
 have h2 := hasN_node l (nP x) h1
 exact ⟨h1, inOrder_same l h _ _ h2.2 hx h2.1⟩
structure RightP (l : List Nd) : Prop where
 some : l ≠ []
 few : l.length ≤ 200
 fine : ∀ x ∈ l, fineN x = true
 order : inOrder l
 up : ∀ x ∈ l, upN l x = true
 root : nP (l.getD 0 nd0) = [47]
theorem rightN_iff (l : List Nd) : rightN l = true ↔ RightP l := by
 unfold rightN
 simp only [Bool.and_eq_true, decide_eq_true_eq, List.all_eq_true, List.mem_range]
 constructor
 ·rintro ⟨⟨⟨h1, h2⟩, h3⟩, h4⟩
  have hk : ∀ i, i < l.length → fineN (l.getD i nd0) = true ∧ (i = 0 ∨ aheadB (nP (l.getD (i - 1) nd0)) (nP (l.getD i nd0)) = true) ∧ upN l (l.getD i nd0) = true := by
   intro i hi
   have := h3 i hi
   unfold okN at this
   simp only [Bool.and_eq_true, Bool.or_eq_true, decide_eq_true_eq] at this
   exact ⟨this.1.1, this.1.2, this.2⟩
  have hm : ∀ x ∈ l, ∃ i, i < l.length ∧ l.getD i nd0 = x := by
   intro x hx
   obtain ⟨i, hi, rfl⟩ := List.getElem_of_mem hx
   exact ⟨i, hi, by rw [List.getD_eq_getElem?_getD, List.getElem?_eq_getElem hi]; rfl⟩
  refine ⟨by rintro rfl; simp at h1, h2, ?_, ?_, ?_, ?_⟩
  ·intro x hx
   obtain ⟨i, hi, rfl⟩ := hm x hx
   exact (hk i hi).1
  ·refine inOrder_steps l fun i hi => ?_
   rcases (hk (i + 1) hi).2.1 with h | h
   ·omega
   ·simpa using h
  ·intro x hx
   obtain ⟨i, hi, rfl⟩ := hm x hx
   exact (hk i hi).2.2
  ·have := (placeN_at l [47] (by omega)).1
   unfold nodeN at this
   rw [h4] at this
   exact this
 ·rintro ⟨h1, h2, h3, h4, h5, h6⟩
  have hl : 1 ≤ l.length := by
   have := List.length_pos_iff.2 h1
   omega
  have hm : ∀ i, i < l.length → l.getD i nd0 ∈ l := by
   intro i hi
   rw [List.getD_eq_getElem?_getD, List.getElem?_eq_getElem hi]
   exact List.getElem_mem _
  refine ⟨⟨⟨hl, h2⟩, ?_⟩, ?_⟩
  ·intro i hi
   unfold okN
   simp only [Bool.and_eq_true, Bool.or_eq_true, decide_eq_true_eq]
   refine ⟨⟨h3 _ (hm i hi), ?_⟩, h5 _ (hm i hi)⟩
   by_cases h0 : i = 0
   ·exact .inl h0
   ·exact .inr (inOrder_at l h4 (i - 1) i (by omega) hi)
  ·exact placeN_here l [47] 0 (by omega) h6 (fun j hj => by omega)
def insN (n : Nd) : List Nd → List Nd
 | [] => [n]
 | x :: r => if aheadB (nP n) (nP x) = true then n :: x :: r else x :: insN n r
def createE (l : List Nd) (p v : List UInt8) (o : Int) : Nat :=
 if rightB p = false then 13 else if hasN l p = true then 7 else if hasN l (parentS p) = false then 6 else if nO (nodeN l (parentS p)) ≠ 0 then 10 else if 1000 < v.length then 5 else if o < 0 then 1 else if 200 ≤ l.length then 9 else 0
def createS (l : List Nd) (p v : List UInt8) (o : Int) : List Nd := if createE l p v o = 0 then insN (p, v, 0, o) l else l
def getE (l : List Nd) (p : List UInt8) : Nat := if rightB p = false then 13 else if hasN l p = false then 6 else 0
def getS (l : List Nd) (p : List UInt8) : Nd := if getE l p = 0 then nodeN l p else nd0
def setE (l : List Nd) (p v : List UInt8) (ver : Int) : Nat :=
 if getE l p ≠ 0 then getE l p else if ver ≠ -1 ∧ ver ≠ nR (nodeN l p) then 8 else if 1000 < v.length then 5 else if nR (nodeN l p) = 1000000000 then 9 else 0
def setS (l : List Nd) (p v : List UInt8) (ver : Int) : List Nd := if setE l p v ver = 0 then l.set (placeN l p) (p, v, Go.IntKind.i64.wrap (nR (nodeN l p) + 1), nO (nodeN l p)) else l
def kidN (p : List UInt8) (x : Nd) : Bool := decide (parentE (nP x) = 0) && decide (parentS (nP x) = p)
def lastN (q : List UInt8) : List UInt8 := (cutL q).getD ((cutL q).length - 1) []
def kidsN (l : List Nd) (p : List UInt8) : List (List UInt8) := (l.filter (kidN p)).map fun x => lastN (nP x)
def delE (l : List Nd) (p : List UInt8) (ver : Int) : Nat :=
 if getE l p ≠ 0 then getE l p else if p = [47] then 13 else if ver ≠ -1 ∧ ver ≠ nR (nodeN l p) then 8 else if kidsN l p ≠ [] then 10 else 0
def delS (l : List Nd) (p : List UInt8) (ver : Int) : List Nd := if delE l p ver = 0 then l.eraseIdx (placeN l p) else l
def ownB (o : Int) (x : Nd) : Bool := decide (0 < o) && decide (nO x = o)
def dropS (l : List Nd) (o : Int) : List Nd := l.filter fun x => !ownB o x
def goneN (l : List Nd) (o : Int) : List (List UInt8) := (l.filter (ownB o)).map nP
def listS (l : List Nd) (p : List UInt8) : List (List UInt8) := if getE l p = 0 then kidsN l p else []
end Go.Proofs.YtgfobinklijkpaaGreatDoor
