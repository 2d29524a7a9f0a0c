/-
  Texts Y3 Y4 Y5 Y6 Y7 Q0.
-/
import Derived.Test.YtdihngkdhanhkaaGreatDoorV01
import Derived.Deep.QuietTactic
import Derived.BigQuiet
import Derived.Lib.SplitLaws
import Derived.Lib.LastIndexByte
import Derived.Test.YtdihngkdhanhkaaGreatDoorV03
namespace Go.Proofs.YtdihngkdhanhkaaGreatDoor
set_option maxRecDepth 100000
set_option maxHeartbeats 16000000
open Go.RowKit
def Cuts (l : List (List UInt8)) (b : Bool) (w : World) (e : Ending) (w' : World) : Prop :=
 ∃ v, e = .returned (.tuple #[v, .bool b]) ∧ OwnS 9 w' w.heap.size v (bas l) ∧ Below w.heap.size w w'
theorem OwnS.empty (e : TypeId) (w : World) (base : Nat) (hb : base ≤ w.heap.size) : OwnS e (w.alloc (.cells #[] e)) base (.slice (some ⟨w.heap.size, 0, none⟩) 0 0) [] :=
 World.ownsRow_made w #[] 0 hb (by decide) rfl
theorem infoStr : (Tryz.prog.info? 9).map (fun i => (i.zero, i.size, i.bytes)) = some (some (.string ⟨#[]⟩), 1, 16) := by kernel_rfl
theorem info_partsStr : ∃ i, Tryz.prog.info? 9 = some i ∧ i.zero = some (.string ⟨#[]⟩) ∧ i.size = 1 ∧ i.bytes = 16 := by
 have h := infoStr
 cases hi : Tryz.prog.info? 9 with
 | none => rw [hi] at h; simp at h
 | some i =>
   rw [hi] at h
   simp at h
   exact ⟨i, rfl, h.1, h.2.1, h.2.2⟩
theorem drop_next (s : List UInt8) (i : Nat) (hi : i < s.length) (c : UInt8) (hc : s.getD i 0 = c) : s.drop i = c :: s.drop (i + 1) := by
 have e : s[i] = c := by
  rw [← hc, List.getD_eq_getElem?_getD, List.getElem?_eq_getElem hi]
  rfl
 rw [List.drop_eq_getElem_cons hi, e]
theorem bas_snoc (l : List (List UInt8)) (x : List UInt8) : bas (l ++ [x]) = bas l ++ [⟨x.toArray⟩] := by simp [bas]
theorem cutL_next (s : List UInt8) (h0 : s.getD 0 0 = 47) (hl : 1 ≤ s.length) (h1 : s ≠ [47]) : cutL s = splitL [] (s.drop 1) ∧ slashB s = true := by
 match s, hl with
 | c :: r, _ =>
   have hc : c = 47 := h0
   subst hc
   have hr : r ≠ [] := fun h => h1 (by rw [h])
   exact ⟨by simp [cutL, hr], by simp [slashB]⟩
theorem cutL_not (s : List UInt8) (hl : 1 ≤ s.length) (h0 : s.getD 0 0 ≠ 47) : cutL s = [] ∧ slashB s = false := by
 match s, hl with
 | c :: r, _ =>
   have hc : c ≠ 47 := h0
   exact ⟨by simp [cutL, hc], by simp [slashB, hc]⟩
theorem b_add1 (y : List UInt8) (c : UInt8) : (⟨y.toArray⟩ : ByteArray) ++ ⟨[c].toArray⟩ = ⟨(y ++ [c]).toArray⟩ := by
 apply ByteArray.ext
 simp [ByteArray.data_append]
theorem rfCut_any (s : List UInt8) (w : World) (hs : s.length ≤ 1000000) : Calls Tryz.prog 105 #[txt s] w (Cuts (cutL s) (slashB s) w) := by
 obtain ⟨i0, hI, hz0, hz1, hz2⟩ := info_partsStr
 obtain ⟨n, hn⟩ : ∃ n, s.length = n := ⟨_, rfl⟩
 have hsz : (⟨s.toArray⟩ : ByteArray).size = n := hn
 have HN := lhd hn
 rw [hn] at hs
 have HE0 := lhd (OwnS.empty 9 w w.heap.size (Nat.le_refl _))
 have HB0 : Hid (Below w.heap.size w (w.alloc (.cells #[] 9))) := (Below.refl _ _).alloc (Nat.le_refl _) _
 go_enter Tryz.func105, Tryz.ntmps105
 by_cases h0 : n = 0
 ·have : s = [] := List.eq_nil_of_length_eq_zero (by omega)
  subst this
  clear hn HN
  subst h0
  go_wp2
  go_ret2
  exact ⟨_, rfl, HE0.out, HB0.out⟩
 ·have hpos : (0 : Int) < (n : Int) := by omega
  have hne : ((n : Int) == 0) = false := by simp; omega
  obtain ⟨c, hc⟩ : ∃ c, s.getD 0 0 = c := ⟨_, rfl⟩
  obtain ⟨C, hCE⟩ : ∃ C, c.toNat = C := ⟨_, rfl⟩
  have hix : ∀ w, (Instr.index 9 (txt s) (.int .i64 0)).run Tryz.prog w = .ok (.int .u8 (C : Int)) w := by
   intro w
   have h := run_index_txt s 0 (by omega) w
   rw [hc, hCE] at h
   exact h
  have HC := lhd hc
  have HCE := lhd hCE
  clear hc hCE hn
  by_cases h47 : C = 47
  ·subst h47
   have hb : ((47 : Nat) : Int) = 47 := rfl
   have hcc : c = 47 := by
    have h := HCE.out
    exact UInt8.toNat_inj.1 (by rw [h]; rfl)
   by_cases h1 : s = [47]
   ·subst h1
    go_wp2
    go_ret2
    exact ⟨_, rfl, HE0.out, HB0.out⟩
   ·have hs1 : (s == [47]) = false := by simpa using h1
    have HQ := lhd (cutL_next s (by rw [HC.out, hcc]) (by rw [HN.out]; omega) h1)
    clear h1 hcc
    go_wp2
    go_loopw [4, 5, 6] (fun vo vn vi wr => ∃ i : Nat, 1 ≤ i ∧ i ≤ n ∧ vi = .int .i64 (i : Int) ∧ ∃ (acc : List (List UInt8)) (nm : List UInt8), vn = txt nm ∧ nm.length ≤ i ∧ acc.length ≤ i ∧
     Hid (splitL [] (s.drop 1) = acc ++ splitL nm (s.drop i)) ∧ Hid (OwnS 9 wr w.heap.size vo (bas acc)) ∧ Hid (Below w.heap.size w wr)) (fun _ _ vi _ => n - (intOf vi).toNat)
    case atStart => exact ⟨1, by omega, by omega, rfl, [], [], rfl, by simp, by simp, rfl, HE0, HB0⟩
    case round =>
     obtain ⟨i, hi1, hi, rfl, acc, nm, rfl, hnl, hal, HS, HO, HB⟩ := hrel
     have hwr := HB.out.size
     by_cases hi2 : i < n
     ·have zi : (i : Int) < (n : Int) := by omega
      have hiy := run_index_txt s i (by rw [HN.out]; exact hi2)
      obtain ⟨d, hd⟩ : ∃ d, s.getD i 0 = d := ⟨_, rfl⟩
      have HD := lhd (drop_next s i (by rw [HN.out]; exact hi2) d hd)
      rw [hd] at hiy
      obtain ⟨D, hDE⟩ : ∃ D, d.toNat = D := ⟨_, rfl⟩
      rw [hDE] at hiy
      have HDE := lhd hDE
      clear hd hDE
      by_cases d47 : D = 47
      ·subst d47
       have hS2 : splitL [] (s.drop 1) = (acc ++ [nm]) ++ splitL [] (s.drop (i + 1)) := by
        have hd : d = 47 := UInt8.toNat_inj.1 (by rw [HDE.out]; rfl)
        rw [HS.out, HD.out, hd, splitL, if_pos rfl]
        simp
       have HS2 := lhd hS2
       clear hS2
       go_wp2_with (at_builtin; refine wpList_app1S rfl _ _ 55 rfl 9 i0 Tryz.underlying55 hI hz0 hz1 hz2 w.heap.size u4 (bas acc) ⟨nm.toArray⟩ ⟨wr.heap.size, 0, none⟩ rfl (HO.out.alloc _) rfl ?d1 ?d2 ?d3 ?_)
       case d1 => simp
       case d2 => rw [bas_length]; omega
       case d3 => simp; omega
       intro v4 w4 hown4 hb4
       rw [← bas_snoc] at hown4
       have HO4 := lhd hown4
       have HB4 : Hid (Below w.heap.size w w4) := (HB.out.alloc hwr _).trans hb4
       clear hown4 hb4
       go_wp2
       go_roundw
       case rel => exact ⟨i + 1, by omega, by omega, by go_num, acc ++ [nm], [], rfl, by simp, by simp; omega, HS2, HO4, HB4⟩
       case measure => simp [intOf]; omega
      ·have d472 : ((D : Int) == 47) = false := by simp; omega
       have hS2 : splitL [] (s.drop 1) = acc ++ splitL (nm ++ [d]) (s.drop (i + 1)) := by
        have hd : d ≠ 47 := fun h => d47 (by rw [← HDE.out, h]; rfl)
        rw [HS.out, HD.out, splitL, if_neg hd]
       have HS2 := lhd hS2
       clear hS2
       have hcv : (convert 119 9 (.slice (some ⟨wr.heap.size, 0, none⟩) 1 1)).run Tryz.prog (wr.alloc (.cells #[.int .u8 (D : Int)] 5)) = .ok (.string ⟨[d].toArray⟩) (wr.alloc (.cells #[.int .u8 (D : Int)] 5)) := by
        have h := Rd.one 5 wr d
        rw [HDE.out] at h
        exact run_string_rd 119 9 5 Tryz.underlying119 Tryz.underlying5 Tryz.underlying9 h
       have b1 : ¬ 9223372036854775807 < nm.length + 1 := by omega
       have HB4 : Hid (Below w.heap.size w (wr.alloc (.cells #[.int .u8 (D : Int)] 5))) := HB.out.alloc hwr _
       have HO4 := lhd (HO.out.alloc (.cells #[.int .u8 (D : Int)] 5))
       go_wp2
       go_roundw
       case rel => exact ⟨i + 1, by omega, by omega, by go_num, acc, nm ++ [d], congrArg Value.string (b_add1 nm d), by simp; omega, by omega, HS2, HO4, HB4⟩
       case measure => simp [intOf]; omega
     ·have hE : i = n := by omega
      subst hE
      have hS2 : splitL [] (s.drop 1) = acc ++ [nm] := by
       have hd : s.drop i = [] := List.drop_eq_nil_of_le (by rw [HN.out]; exact Nat.le_refl _)
       rw [HS.out, hd, splitL]
      have HS2 := lhd hS2
      clear hS2
      go_wp2_with (at_builtin; refine wpList_app1S rfl _ _ 55 rfl 9 i0 Tryz.underlying55 hI hz0 hz1 hz2 w.heap.size u4 (bas acc) ⟨nm.toArray⟩ ⟨wr.heap.size, 0, none⟩ rfl (HO.out.alloc _) rfl ?d1 ?d2 ?d3 ?_)
      case d1 => simp
      case d2 => rw [bas_length]; omega
      case d3 => simp; omega
      intro v4 w4 hown4 hb4
      rw [← bas_snoc] at hown4
      have HO4 := lhd hown4
      have HB4 : Hid (Below w.heap.size w w4) := (HB.out.alloc hwr _).trans hb4
      clear hown4 hb4
      go_wp2
      go_ret2
      rw [HQ.out.1, HQ.out.2, HS2.out]
      exact ⟨_, rfl, HO4.out, HB4.out⟩
  ·have hb : ((C : Int) != 47) = true := by simp; omega
   have HQ := lhd (cutL_not s (by rw [HN.out]; omega) (by rw [HC.out]; intro h; apply h47; rw [← HCE.out, h]; rfl))
   go_wp2
   go_ret2
   rw [HQ.out.1, HQ.out.2]
   exact ⟨_, rfl, HE0.out, HB0.out⟩
theorem splitL_len (s nm : List UInt8) : ∀ x ∈ splitL nm s, x.length ≤ nm.length + s.length := by
 induction s generalizing nm with
 | nil => intro x hx; simp [splitL] at hx; subst hx; simp
 | cons c r ih =>
   intro x hx
   rw [splitL] at hx
   split at hx
   ·rcases List.mem_cons.1 hx with rfl | hx
    ·simp
    ·have := ih [] x hx; simp at this ⊢; omega
   ·have := ih (nm ++ [c]) x hx; simp at this ⊢; omega
theorem cutL_len (s : List UInt8) : ∀ x ∈ cutL s, x.length ≤ s.length := by
 match s with
 | [] => intro x hx; simp [cutL] at hx
 | c :: r =>
   intro x hx
   rw [cutL] at hx
   split at hx
   ·split at hx
    ·simp at hx
    ·have := splitL_len r [] x hx; simp at this ⊢; omega
   ·simp at hx
theorem bas_at (l : List (List UInt8)) (i : Nat) (hi : i < l.length) (x : List UInt8) (hx : l.getD i [] = x) : (bas l)[i]'(by rw [bas_length]; exact hi) = ⟨x.toArray⟩ := by
 simp only [bas, List.getElem_map]
 congr 2
 rw [← hx, List.getD_eq_getElem?_getD, List.getElem?_eq_getElem hi]
 rfl
theorem rightB_long (s : List UInt8) (h : 100 < s.length) : rightB s = false := by
 unfold rightB
 have : decide (s.length ≤ 100) = false := by simp; omega
 rw [this]; simp
theorem rightB_not (s : List UInt8) (h : (cutL s).all nameB = false) : rightB s = false := by
 unfold rightB
 rw [h]; simp
theorem rightB_yes (s : List UInt8) (h1 : s.length ≤ 100) (h : (cutL s).all nameB = true) : rightB s = (slashB s && decide ((cutL s).length ≤ 8)) := by
 unfold rightB
 rw [h]
 have : decide (s.length ≤ 100) = true := by simp; omega
 rw [this]; simp
theorem rfRight_any (s : List UInt8) (w : World) : Calls Tryz.prog 64 #[txt s] w (One (.bool (rightB s)) w) := by
 obtain ⟨n, hn⟩ : ∃ n, s.length = n := ⟨_, rfl⟩
 have hsz : (⟨s.toArray⟩ : ByteArray).size = n := hn
 have HN := lhd hn
 go_enter Tryz.func64, Tryz.ntmps64
 by_cases h100 : 100 < (n : Int)
 ·go_wp2
  go_ret
  exact ⟨by rw [rightB_long s (by omega)]; rfl, Below.refl _ _⟩
 ·have hle : n ≤ 100 := by omega
  clear hn
  go_wp2_with fail
  refine (rfCut_any s w (by rw [HN.out]; omega)).mono ?_
  rintro e w1 ⟨v, rfl, ho, hb⟩
  have hs1 := hb.size
  have HB := lhd hb
  have hr := ho.rd
  obtain ⟨A, cp, rfl, hc, hm⟩ := hr.shape
  unfold maxLen at hm
  rw [bas_length] at hc hr ⊢
  have HL := lhd (cutL_len s)
  obtain ⟨l, hl⟩ : ∃ l, cutL s = l := ⟨_, rfl⟩
  have HY := lhd (rightB_yes s (by rw [HN.out]; exact hle))
  have HX := lhd (rightB_not s)
  rw [hl] at hc hr HL HY HX ⊢
  obtain ⟨m, hm2⟩ : ∃ m, l.length = m := ⟨_, rfl⟩
  have HM := lhd hm2
  have HR := lhd hr
  rw [hm2] at hc HR ⊢
  clear hr hm2 ho hb hl
  go_wp2
  go_loopw [5] (fun vi wr => ∃ i : Nat, i ≤ m ∧ vi = .int .i64 (i : Int) ∧ Hid ((l.take i).all nameB = true) ∧ Hid (Below w1.heap.size w1 wr)) (fun vi _ => m - (intOf vi).toNat)
  case atStart => exact ⟨0, by omega, rfl, by simp [Hid], Below.refl _ _⟩
  case round =>
   obtain ⟨i, hi, rfl, HA, HBr⟩ := hrel
   have hwr := HBr.out.size
   by_cases hi2 : i < m
   ·have zi : (i : Int) < (m : Int) := by omega
    have HRr := HR.out.below HBr.out
    obtain ⟨a, hA, ca⟩ := HRr.at_ i (by rw [bas_length, HM.out]; exact hi2)
    subst hA
    obtain ⟨x, hx⟩ : ∃ x, l.getD i [] = x := ⟨_, rfl⟩
    rw [bas_at l i (by rw [HM.out]; exact hi2) x hx] at ca
    have hxm : x ∈ l := by
     rw [← hx, List.getD_eq_getElem?_getD, List.getElem?_eq_getElem (by rw [HM.out]; exact hi2)]
     exact List.getElem_mem _
    have HXM := lhd hxm
    have hxl : x.length ≤ 1000000 := by
     have h := HL.out x hxm
     rw [HN.out] at h
     omega
    have HT : Hid (l.take (i + 1) = l.take i ++ [x]) := by
     show _ = _
     rw [List.take_add_one]
     have e : l[i]? = some x := by
      rw [List.getElem?_eq_getElem (by rw [HM.out]; exact hi2)]
      congr 1
      rw [← hx, List.getD_eq_getElem?_getD, List.getElem?_eq_getElem (by rw [HM.out]; exact hi2)]
      rfl
     rw [e]; rfl
    have HXL := lhd hxl
    clear HRr hx hxm hxl
    go_wp2_with fail
    refine (rfName_any x wr HXL.out).mono ?_
    rintro e w3 ⟨rfl, hb3⟩
    have HB3 := lhd (HBr.out.trans (hb3.mono hwr))
    clear hb3
    cases hxb : nameB x
    ·have HF : Hid (l.all nameB = false) := by
      show _ = _
      rw [List.all_eq_false]
      exact ⟨x, HXM.out, by rw [hxb]; simp⟩
     go_wp2
     go_ret
     exact ⟨by rw [HX.out HF.out]; rfl, HB.out.trans (HB3.out.mono hs1)⟩
    ·go_wp2
     go_roundw
     case rel =>
      refine ⟨i + 1, by omega, by go_num, ?_, HB3⟩
      show _ = _
      rw [HT.out, List.all_append, HA.out]
      simp [hxb]
     case measure => simp [intOf]; omega
   ·have hE : i = m := by omega
    subst hE
    have HF : Hid (l.all nameB = true) := by
     show _ = _
     have h := HA.out
     rw [List.take_of_length_le (by rw [HM.out]; exact Nat.le_refl _)] at h
     exact h
    have HZ := lhd (HY.out HF.out)
    rw [HM.out] at HZ
    cases hb : slashB s
    ·rw [hb] at HZ
     go_wp2
     go_ret
     exact ⟨by rw [HZ.out]; rfl, HB.out.trans (HBr.out.mono hs1)⟩
    ·rw [hb] at HZ
     go_wp2
     go_ret
     exact ⟨by rw [HZ.out]; simp; omega, HB.out.trans (HBr.out.mono hs1)⟩
def Lists (l : List (List UInt8)) (f : Nat) (w : World) (e : Ending) (w' : World) : Prop :=
 ∃ v, e = .returned (.tuple #[v, .int .i64 (f : Int)]) ∧ OwnS 9 w' w.heap.size v (bas l) ∧ Below w.heap.size w w'
def namesL (s : List UInt8) : List (List UInt8) := if rightB s = true then cutL s else []
def namesE (s : List UInt8) : Nat := if rightB s = true then 0 else 13
theorem names_yes (s : List UInt8) (h : rightB s = true) : namesL s = cutL s ∧ namesE s = 0 := by simp [namesL, namesE, h]
theorem names_not (s : List UInt8) (h : rightB s = false) : namesL s = [] ∧ namesE s = 13 := by simp [namesL, namesE, h]
theorem rightB_len (s : List UInt8) (h : rightB s = true) : s.length ≤ 100 ∧ (cutL s).all nameB = true ∧ slashB s = true ∧ (cutL s).length ≤ 8 := by
 unfold rightB at h
 simp only [Bool.and_eq_true, decide_eq_true_eq] at h
 exact ⟨h.1.1.1, h.1.1.2, h.1.2, h.2⟩
theorem rfNames_any (s : List UInt8) (w : World) : Calls Tryz.prog 107 #[txt s] w (Lists (namesL s) (namesE s) w) := by
 go_enter Tryz.func107, Tryz.ntmps107
 go_wp2_with fail
 refine (rfRight_any s w).mono ?_
 rintro e w1 ⟨rfl, hb⟩
 have hs1 := hb.size
 have HB := lhd hb
 clear hb
 cases hR : rightB s
 ·have HN := lhd (names_not s hR)
  clear hR
  go_wp2
  go_ret2
  rw [HN.out.1, HN.out.2]
  exact ⟨_, rfl, OwnS.nil _ _ _, HB.out⟩
 ·have HN := lhd (names_yes s hR)
  have HQ := lhd (rightB_len s hR)
  clear hR
  go_wp2_with fail
  refine (rfCut_any s w1 (by have := HQ.out.1; omega)).mono ?_
  rintro e w2 ⟨v, rfl, ho, hb⟩
  have HO := lhd (ho.base hs1)
  have HB2 := lhd (HB.out.trans (hb.mono hs1))
  clear ho hb
  go_wp2
  go_ret2
  rw [HN.out.1, HN.out.2]
  exact ⟨_, rfl, HO.out, HB2.out⟩
theorem joinL_split (s nm : List UInt8) : (joinL (splitL nm s)).length = 1 + nm.length + s.length := by
 induction s generalizing nm with
 | nil => simp [splitL, joinL]; omega
 | cons c r ih =>
   rw [splitL]
   split
   ·rw [joinL_cons]
    have := ih []
    simp at this ⊢; omega
   ·have := ih (nm ++ [c]); simp at this ⊢; omega
theorem joinL_cut (s : List UInt8) : (joinL (cutL s)).length ≤ s.length := by
 match s with
 | [] => simp [cutL, joinL]
 | c :: r =>
   rw [cutL]
   split
   ·split
    ·simp [joinL]
    ·rw [joinL_split]; simp; omega
   ·simp [joinL]
theorem RdS.take {B : Nat} {w : World} {A : Option Addr} {n c : Nat} {l : List ByteArray} (h : RdS B w (.slice A n c) l) (k : Nat) (hk : k ≤ n) : RdS B w (.slice A k c) (l.take k) := by
 obtain ⟨A', c', hv, hc, hm, hn, hr⟩ := h
 injection hv with h1 h2 h3
 subst h1 h2 h3
 have hl : (l.take k).length = k := by simp; omega
 refine ⟨A, c, by rw [hl], by rw [hl]; omega, hm, hn, fun a ha => ⟨fun h0 => (hr a ha).1 (by omega), fun j hj => ?_⟩⟩
 rw [(hr a ha).2 j (by omega)]
 simp
theorem bas_take (l : List (List UInt8)) (k : Nat) : (bas l).take k = bas (l.take k) := by simp [bas]
def parentS (s : List UInt8) : List UInt8 := if rightB s = true ∧ cutL s ≠ [] then madeL ((cutL s).take ((cutL s).length - 1)) else []
def parentE (s : List UInt8) : Nat := if rightB s = true then (if cutL s = [] then 6 else 0) else 13
theorem parent_not (s : List UInt8) (h : rightB s = false) : parentS s = [] ∧ parentE s = 13 := by simp [parentS, parentE, h]
theorem parent_root (s : List UInt8) (h : rightB s = true) (h2 : cutL s = []) : parentS s = [] ∧ parentE s = 6 := by simp [parentS, parentE, h, h2]
theorem parent_yes (s : List UInt8) (h : rightB s = true) (h2 : cutL s ≠ []) : parentS s = madeL ((cutL s).take ((cutL s).length - 1)) ∧ parentE s = 0 := by simp [parentS, parentE, h, h2]
def Says (l : List UInt8) (f : Nat) (w : World) (e : Ending) (w' : World) : Prop := e = .returned (.tuple #[txt l, .int .i64 (f : Int)]) ∧ Below w.heap.size w w'
theorem rfParent_any (s : List UInt8) (w : World) : Calls Tryz.prog 66 #[txt s] w (Says (parentS s) (parentE s) w) := by
 go_enter Tryz.func66, Tryz.ntmps66
 go_wp2_with fail
 refine (rfNames_any s w).mono ?_
 rintro e w1 ⟨v, rfl, ho, hb⟩
 have hs1 := hb.size
 have HB := lhd hb
 cases hR : rightB s
 ·have HN := lhd (names_not s hR)
  have HP := lhd (parent_not s hR)
  rw [HN.out.2]
  clear hR ho hb
  go_wp2
  go_ret2
  rw [HP.out.1, HP.out.2]
  exact ⟨rfl, HB.out⟩
 ·have HN := lhd (names_yes s hR)
  have HQ := lhd (rightB_len s hR)
  rw [HN.out.1] at ho
  rw [HN.out.2]
  have hr := ho.rd
  obtain ⟨A, cp, rfl, hc, hm⟩ := hr.shape
  unfold maxLen at hm
  rw [bas_length] at hc hr ⊢
  by_cases h0 : cutL s = []
  ·have HP := lhd (parent_root s hR h0)
   have hl : (cutL s).length = 0 := by rw [h0]; rfl
   rw [hl] at hc ⊢
   clear hR ho hb hr h0 hl
   go_wp2
   go_ret2
   rw [HP.out.1, HP.out.2]
   exact ⟨rfl, HB.out⟩
  ·have HP := lhd (parent_yes s hR h0)
   have hj : (joinL ((cutL s).take ((cutL s).length - 1))).length ≤ 1000000 := by
    have h1 := joinL_take (cutL s) ((cutL s).length - 1)
    have h2 := joinL_cut s
    have h3 := HQ.out.1
    omega
   have HJ := lhd hj
   have hl8 := HQ.out.2.2.2
   obtain ⟨m, hm2⟩ : ∃ m, (cutL s).length = m := ⟨_, rfl⟩
   have hmp : m ≠ 0 := by
    intro h
    exact h0 (List.eq_nil_of_length_eq_zero (by omega))
   rw [hm2] at hc hr HP HJ hl8 ⊢
   have hr2 := hr.take (m - 1) (by omega)
   rw [bas_take] at hr2
   have HR2 := lhd hr2
   clear hR ho hb hr h0 hr2 hj hm2
   go_wp2_with fail
   refine (rfMade_any _ _ w1 HR2.out HJ.out).mono ?_
   rintro e w2 ⟨rfl, hb2⟩
   have HB2 := lhd (HB.out.trans (hb2.mono hs1))
   clear hb2
   go_wp2
   go_ret2
   rw [HP.out.1, HP.out.2]
   exact ⟨rfl, HB2.out⟩
theorem aheadL_diff : ∀ (a b : List (List UInt8)) (i : Nat), i < a.length → i < b.length → (∀ j, j < i → a.getD j [] = b.getD j []) → a.getD i [] ≠ b.getD i [] → aheadL a b = lessB (a.getD i []) (b.getD i [])
 | [], _, _, h, _, _, _ => by simp at h
 | _ :: _, [], _, _, h, _, _ => by simp at h
 | x :: a, y :: b, i, h, h2, hj, hd => by
   unfold aheadL
   cases i with
   | zero =>
     have : x ≠ y := by simpa using hd
     rw [if_neg this]
     rfl
   | succ i =>
     have h0 : x = y := by simpa using hj 0 (by omega)
     rw [if_pos h0]
     simpa using aheadL_diff a b i (by simpa using h) (by simpa using h2) (fun j hj2 => by simpa using hj (j + 1) (by omega)) (by simpa using hd)
theorem aheadL_end : ∀ (a b : List (List UInt8)), (∀ i, i < a.length → i < b.length → a.getD i [] = b.getD i []) → aheadL a b = decide (a.length < b.length)
 | [], [], _ => rfl
 | [], _ :: _, _ => by simp [aheadL]
 | _ :: _, [], _ => by simp [aheadL]
 | x :: a, y :: b, hd => by
   unfold aheadL
   have h0 : x = y := by simpa using hd 0 (by simp) (by simp)
   rw [if_pos h0, aheadL_end a b (fun i h1 h2 => by simpa using hd (i + 1) (by simpa using h1) (by simpa using h2))]
   simp
def aheadB (p q : List UInt8) : Bool := rightB p && rightB q && aheadL (cutL p) (cutL q)
theorem aheadB_not (p q : List UInt8) (h : (rightB p && rightB q) = false) : aheadB p q = false := by simp [aheadB, h]
theorem aheadB_yes (p q : List UInt8) (h : rightB p = true) (h2 : rightB q = true) : aheadB p q = aheadL (cutL p) (cutL q) := by simp [aheadB, h, h2]
theorem namesE_or (p : List UInt8) : (rightB p = true ∧ namesE p = 0 ∧ namesL p = cutL p) ∨ (rightB p = false ∧ namesE p = 13 ∧ namesL p = []) := by
 cases h : rightB p
 ·exact .inr ⟨rfl, (names_not p h).2, (names_not p h).1⟩
 ·exact .inl ⟨rfl, (names_yes p h).2, (names_yes p h).1⟩
theorem txt_ne (x y : List UInt8) (h : x ≠ y) : (x == y) = false := by simpa using h
theorem rfAhead_any (p q : List UInt8) (w : World) : Calls Tryz.prog 65 #[txt p, txt q] w (One (.bool (aheadB p q)) w) := by
 go_enter Tryz.func65, Tryz.ntmps65
 go_wp2_with fail
 refine (rfNames_any p w).mono ?_
 rintro e w1 ⟨v, rfl, ho, hb⟩
 have hs1 := hb.size
 have HB := lhd hb
 have HO := lhd ho
 clear hb ho
 obtain ⟨E, hE⟩ : ∃ E, namesE p = E := ⟨_, rfl⟩
 obtain ⟨F, hF⟩ : ∃ F, namesE q = F := ⟨_, rfl⟩
 rw [hE]
 go_wp2_with fail
 refine (rfNames_any q w1).mono ?_
 rintro e w2 ⟨v2, rfl, ho, hb⟩
 have hs2 := hb.size
 have HB2 := lhd (HB.out.trans (hb.mono hs1))
 have HO1 := lhd (HO.out.below hb (Nat.le_refl _))
 have HO2 := lhd ho
 clear hb ho HO
 rw [hF]
 by_cases hR : (rightB p && rightB q) = false
 ·have HP := lhd (aheadB_not p q hR)
  rcases namesE_or p with ⟨h1, h2, h3⟩ | ⟨h1, h2, h3⟩
  ·rcases namesE_or q with ⟨h4, h5, h6⟩ | ⟨h4, h5, h6⟩
   ·rw [h1, h4] at hR; simp at hR
   ·rw [h2] at hE
    rw [h5] at hF
    subst hE hF
    clear hR h1 h2 h3 h4 h5 h6
    go_wp2
    go_ret
    exact ⟨by rw [HP.out]; rfl, HB2.out⟩
  ·rw [h2] at hE
   subst hE
   clear hR h1 h2 h3
   go_wp2
   go_ret
   exact ⟨by rw [HP.out]; rfl, HB2.out⟩
 ·have hRR : rightB p = true ∧ rightB q = true := by
   rw [Bool.not_eq_false] at hR
   simpa using hR
  have HP := lhd (aheadB_yes p q hRR.1 hRR.2)
  have HN1 := names_yes p hRR.1
  have HN2 := names_yes q hRR.2
  rw [HN1.2] at hE
  rw [HN2.2] at hF
  subst hE hF
  rw [HN1.1] at HO1
  rw [HN2.1] at HO2
  have hl1 := (rightB_len p hRR.1).2.2.2
  have hl2 := (rightB_len q hRR.2).2.2.2
  obtain ⟨a, ha⟩ : ∃ a, cutL p = a := ⟨_, rfl⟩
  obtain ⟨b, hb⟩ : ∃ b, cutL q = b := ⟨_, rfl⟩
  rw [ha] at HO1 HP hl1
  rw [hb] at HO2 HP hl2
  have hr1 := HO1.out.rd
  have hr2 := HO2.out.rd
  clear hR hRR HN1 HN2 ha hb HO1 HO2
  obtain ⟨A, cp, rfl, hc, hm⟩ := hr1.shape
  obtain ⟨A2, cp2, rfl, hc2, hm3⟩ := hr2.shape
  unfold maxLen at hm hm3
  rw [bas_length] at hc hr1 hc2 hr2 ⊢
  rw [bas_length]
  obtain ⟨m, hm2⟩ : ∃ m, a.length = m := ⟨_, rfl⟩
  obtain ⟨n, hn2⟩ : ∃ n, b.length = n := ⟨_, rfl⟩
  have HM := lhd hm2
  have HNN := lhd hn2
  rw [hm2] at hc hr1 hl1 ⊢
  rw [hn2] at hc2 hr2 hl2 ⊢
  have HR1 := lhd hr1
  have HR2 := lhd hr2
  clear hm2 hn2 hr1 hr2
  go_wp2
  go_loopw [9] (fun vi wr => ∃ i : Nat, i ≤ m ∧ i ≤ n ∧ vi = .int .i64 (i : Int) ∧ Hid (∀ j, j < i → a.getD j [] = b.getD j []) ∧ Hid (Below w2.heap.size w2 wr)) (fun vi _ => m - (intOf vi).toNat)
  case atStart => exact ⟨0, by omega, by omega, rfl, fun j hj => by omega, Below.refl _ _⟩
  case round =>
   obtain ⟨i, hi, hin, rfl, HA, HBr⟩ := hrel
   have hwr := HBr.out.size
   by_cases hi2 : i < m
   ·have zj : (i : Int) < (m : Int) := by omega
    by_cases hi3 : i < n
    ·have zk : (i : Int) < (n : Int) := by omega
     obtain ⟨a1, hA1, ca⟩ := (HR1.out.below HBr.out).at_ i (by rw [bas_length, HM.out]; exact hi2)
     obtain ⟨a2, hA2, cb⟩ := (HR2.out.below HBr.out).at_ i (by rw [bas_length, HNN.out]; omega)
     subst hA1 hA2
     obtain ⟨x, hx⟩ : ∃ x, a.getD i [] = x := ⟨_, rfl⟩
     obtain ⟨y, hy⟩ : ∃ y, b.getD i [] = y := ⟨_, rfl⟩
     rw [bas_at a i (by rw [HM.out]; exact hi2) x hx] at ca
     rw [bas_at b i (by rw [HNN.out]; omega) y hy] at cb
     have HX := lhd hx
     have HY := lhd hy
     clear hx hy
     go_wp2
     refine wp_region_quiet_lit (by kernel_rfl) (by kernel_rfl) ?_
     repeat (first | go_big_quiet_step (fail) | quiet_step (fail))
     refine wpQuiet_nil ?_
     intro _ hw'
     obtain ⟨nq, hw''⟩ := hw'
     subst hw''
     have HBn : Hid (Below w2.heap.size w2 (wr.drewN nq)) := Below.drewN' HBr.out
     by_cases hxy : x = y
     ·have hxy2 : (x == y) = true := by simpa using hxy
      have HA2 : Hid (∀ j, j < i + 1 → a.getD j [] = b.getD j []) := by
       intro j hj
       by_cases h : j < i
       ·exact HA.out j h
       ·have : j = i := by omega
        subst this
        rw [HX.out, HY.out, hxy]
      clear hxy
      rw [hxy2]
      simp only [Bool.not_true]
      go_wp2
      go_roundw
      case rel => exact ⟨i + 1, by omega, by omega, by go_num, HA2, HBn⟩
      case measure => simp [intOf]; omega
     ·have hxy2 := txt_ne x y hxy
      have hl := aheadL_diff a b i (by rw [HM.out]; exact hi2) (by rw [HNN.out]; exact hi3) HA.out (by rw [HX.out, HY.out]; exact hxy)
      rw [HX.out, HY.out, lessB_eq] at hl
      have HL := lhd hl
      clear hxy hl
      rw [hxy2]
      simp only [Bool.not_false]
      go_wp2
      refine wp_region_quiet_lit (by kernel_rfl) (by kernel_rfl) ?_
      repeat (first | go_big_quiet_step (fail) | quiet_step (fail))
      refine wpQuiet_nil ?_
      intro _ hw'
      obtain ⟨nr, hw''⟩ := hw'
      subst hw''
      have HBm : Hid (Below w2.heap.size w2 ((wr.drewN nq).drewN nr)) := Below.drewN' HBn.out
      go_wp2
      go_ret
      exact ⟨by rw [HP.out, HL.out]; rfl, HB2.out.trans (HBm.out.mono (Nat.le_trans hs1 hs2))⟩
    ·have zk : ¬ ((i : Int) < (n : Int)) := by omega
     have hE : i = n := by omega
     have HL := lhd (aheadL_end a b (fun j h1 h2 => HA.out j (by rw [HNN.out] at h2; omega)))
     go_wp2
     go_ret
     exact ⟨by rw [HP.out, HL.out, HM.out, HNN.out]; simp, HB2.out.trans (HBr.out.mono (Nat.le_trans hs1 hs2))⟩
   ·have zj : ¬ ((i : Int) < (m : Int)) := by omega
    have hE : i = m := by omega
    have HL := lhd (aheadL_end a b (fun j h1 h2 => HA.out j (by rw [HM.out] at h1; omega)))
    go_wp2
    go_ret
    exact ⟨by rw [HP.out, HL.out, HM.out, HNN.out]; simp, HB2.out.trans (HBr.out.mono (Nat.le_trans hs1 hs2))⟩
def headS : List UInt8 → List UInt8
 | [] => []
 | c :: r => if c = 47 then [] else c :: headS r
def tailS : List UInt8 → List UInt8
 | [] => []
 | c :: r => if c = 47 then r else tailS r
def hasS : List UInt8 → Bool
 | [] => false
 | c :: r => if c = 47 then true else hasS r
theorem hasS_not : ∀ s, hasS s = false → headS s = s ∧ tailS s = []
 | [], _ => ⟨rfl, rfl⟩
 | c :: r, h => by
   unfold hasS at h
   by_cases hc : c = 47
   ·rw [if_pos hc] at h; cases h
   ·rw [if_neg hc] at h
    obtain ⟨h1, h2⟩ := hasS_not r h
    unfold headS tailS
    rw [if_neg hc, if_neg hc, h1, h2]
    exact ⟨rfl, rfl⟩
theorem hasS_yes : ∀ s, hasS s = true → s = headS s ++ 47 :: tailS s
 | [], h => by cases h
 | c :: r, h => by
   unfold hasS at h
   by_cases hc : c = 47
   ·unfold headS tailS
    rw [if_pos hc, if_pos hc, hc]
    rfl
   ·rw [if_neg hc] at h
    unfold headS tailS
    rw [if_neg hc, if_neg hc, List.cons_append, ← hasS_yes r h]
theorem hasS_len (s : List UInt8) (h : hasS s = true) : (headS s).length + 1 + (tailS s).length = s.length := by
 have e := congrArg List.length (hasS_yes s h)
 simp at e
 omega
theorem headS_take (s : List UInt8) (h : hasS s = true) : s.take (headS s).length = headS s := by
 have e := congrArg (List.take (headS s).length) (hasS_yes s h)
 exact e.trans (by simp)
theorem tailS_drop (s : List UInt8) (h : hasS s = true) : s.drop ((headS s).length + 1) = tailS s := by
 have e := congrArg (List.drop ((headS s).length + 1)) (hasS_yes s h)
 exact e.trans (by rw [← List.drop_drop]; simp)
theorem headS_le (s : List UInt8) : (headS s).length ≤ s.length := by
 cases h : hasS s
 ·rw [(hasS_not s h).1]; exact Nat.le_refl _
 ·have := hasS_len s h; omega
theorem index_head : ∀ s, Lib.indexByte s 47 = if hasS s = true then ((headS s).length : Int) else -1
 | [] => rfl
 | c :: r => by
   unfold Lib.indexByte hasS headS
   by_cases hc : c = 47
   ·subst hc; simp
   ·have h1 : (c == 47) = false := by simpa using hc
    rw [h1, if_neg hc, if_neg hc, index_head r]
    cases h : hasS r <;> simp
theorem split_head : ∀ s nm, splitL nm s = if hasS s = true then (nm ++ headS s) :: splitL [] (tailS s) else [nm ++ s]
 | [], nm => by simp [splitL, hasS]
 | c :: r, nm => by
   by_cases hc : c = 47
   ·simp [splitL, hasS, headS, tailS, hc]
   ·simp only [splitL, hasS, headS, tailS, if_neg hc]
    rw [split_head r (nm ++ [c])]
    simp
theorem split_not (s : List UInt8) (h : hasS s = false) : splitL [] s = [s] := by rw [split_head, h]; simp
theorem split_yes (s : List UInt8) (h : hasS s = true) : splitL [] s = headS s :: splitL [] (tailS s) := by rw [split_head, h]; simp
theorem split_count : ∀ s nm, (splitL nm s).length = s.count 47 + 1
 | [], nm => rfl
 | c :: r, nm => by
   unfold splitL
   by_cases hc : c = 47
   ·subst hc
    rw [if_pos rfl, List.length_cons, split_count r [], List.count_cons_self]
   ·rw [if_neg hc, split_count r, List.count_cons_of_ne (by simpa using hc)]
theorem right_root : rightB [47] = true := by decide
theorem right_many (p : List UInt8) (h : 8 < p.count 47) : rightB p = false := by
 cases p with
 | nil => rfl
 | cons c r =>
   by_cases hc : c = 47
   ·subst hc
    have hr : r ≠ [] := by
     intro e; subst e; simp at h
    have e : (cutL (47 :: r)).length = r.count 47 + 1 := by
     rw [cutL, if_pos rfl, if_neg hr, split_count]
    rw [List.count_cons_self] at h
    unfold rightB
    have : decide ((cutL (47 :: r)).length ≤ 8) = false := by rw [e]; simp; omega
    rw [this]; simp
   ·unfold rightB slashB
    simp [hc]
theorem right_start (p : List UInt8) (h : slashB p = false) : rightB p = false := by
 unfold rightB
 rw [h]; simp
theorem right_rest (r : List UInt8) (hr : r ≠ []) (hl : (47 :: r).length ≤ 100) (hc : (47 :: r).count 47 ≤ 8) : rightB (47 :: r) = (splitL [] r).all nameB := by
 have e : cutL (47 :: r) = splitL [] r := by rw [cutL, if_pos rfl, if_neg hr]
 rw [List.count_cons_self] at hc
 have h3 : (splitL [] r).length ≤ 8 := by rw [split_count]; omega
 unfold rightB
 rw [e]
 simp [slashB, h3]
 intro _
 simpa using hl
theorem slash_prefix (p : List UInt8) : Lib.hasPrefix p [47] = slashB p := by
 cases p with
 | nil => rfl
 | cons c r =>
   unfold Lib.hasPrefix slashB
   by_cases hc : c = 47
   ·subst hc; simp [List.isPrefixOf]
   ·have : ((47 : UInt8) == c) = false := by simpa using fun e => hc e.symm
    simp [List.isPrefixOf, this, hc]
theorem slash_trim (p : List UInt8) (h : slashB p = true) : p = 47 :: Lib.trimPrefix p [47] := by
 cases p with
 | nil => cases h
 | cons c r =>
   have hc : c = 47 := by simpa [slashB] using h
   subst hc
   unfold Lib.trimPrefix
   rw [slash_prefix, h]
   rfl
theorem right_slash (p : List UInt8) (h : rightB p = true) : slashB p = true := (rightB_len p h).2.2.1
theorem cut_root (p : List UInt8) (h : slashB p = true) : cutL p = [] ↔ p = [47] := by
 cases p with
 | nil => cases h
 | cons c r =>
   have hc : c = 47 := by simpa [slashB] using h
   subst hc
   rw [cutL, if_pos rfl]
   by_cases hr : r = []
   ·subst hr; simp
   ·rw [if_neg hr]
    constructor
    ·intro e
     have := split_count r []
     rw [e] at this; simp at this
    ·intro e; injection e with _ e; exact absurd e hr
theorem join_cut (p : List UInt8) (h : slashB p = true) (h2 : p ≠ [47]) : joinL (cutL p) = p := by
 have e := made_cut p h
 have hn : cutL p ≠ [] := fun e => h2 ((cut_root p h).1 e)
 unfold madeL at e
 split at e
 ·rename_i hj
  cases hc : cutL p with
  | nil => exact absurd hc hn
  | cons x l => rw [hc] at hj; simp [joinL] at hj
 ·exact e
theorem right_names (p : List UInt8) (h : rightB p = true) : ∀ y ∈ cutL p, y.all chrB = true := by
 intro y hy
 have h1 := (rightB_len p h).2.1
 rw [List.all_eq_true] at h1
 have := h1 y hy
 unfold nameB at this
 simp only [Bool.and_eq_true] at this
 exact this.1.1
theorem last_slash (p : List UInt8) (h : rightB p = true) (h1 : p ≠ [47]) : ∃ m : Nat, m < p.length ∧ p.getD m 0 = 47 ∧ (∀ j, m < j → j < p.length → p.getD j 0 ≠ 47) ∧ parentE p = 0 ∧ parentS p = if m = 0 then [47] else p.take m := by
 have sp := right_slash p h
 have hj := join_cut p sp h1
 have hn : cutL p ≠ [] := fun e => h1 ((cut_root p sp).1 e)
 obtain ⟨l, x, hlx⟩ : ∃ l x, cutL p = l ++ [x] := ⟨(cutL p).dropLast, (cutL p).getLast hn, (List.dropLast_concat_getLast hn).symm⟩
 have hx := right_names p h x (by rw [hlx]; simp)
 have e : p = joinL l ++ 47 :: x := by rw [← hj, hlx, joinL_snoc]
 have hy := parent_yes p h hn
 refine ⟨(joinL l).length, ?_, ?_, ?_, hy.2, ?_⟩
 ·have := congrArg List.length e
  simp at this; omega
 ·rw [e]; simp
 ·intro j hj1 hj2 hc
  have hl := congrArg List.length e
  simp at hl
  rw [e] at hc
  rw [List.getD_eq_getElem?_getD, List.getElem?_append_right (by omega)] at hc
  obtain ⟨k, hk⟩ : ∃ k, j - (joinL l).length = k + 1 := ⟨j - (joinL l).length - 1, by omega⟩
  rw [hk, List.getElem?_cons_succ, List.getElem?_eq_getElem (by omega)] at hc
  rw [List.all_eq_true] at hx
  have := hx _ (List.getElem_mem (l := x) (n := k) (by omega))
  simp at hc
  rw [hc] at this
  exact absurd this (by decide)
 ·rw [hy.1, hlx]
  simp only [List.length_append, List.length_cons, List.length_nil, Nat.zero_add, Nat.add_sub_cancel]
  rw [List.take_append_of_le_length (Nat.le_refl _), List.take_length]
  unfold madeL
  by_cases h0 : joinL l = []
  ·rw [if_pos h0, h0]; rfl
  ·rw [if_neg h0, if_neg (fun h2 => h0 (List.eq_nil_of_length_eq_zero h2))]
   conv => rhs; rw [e]
   simp
theorem last_of (p : List UInt8) (m : Nat) (hm : m < p.length) (h1 : p.getD m 0 = 47) (h2 : ∀ j, m < j → j < p.length → p.getD j 0 ≠ 47) : Lib.lastIndexByte ⟨p.toArray⟩ 47 = (m : Int) := by
 have hsz : (⟨p.toArray⟩ : ByteArray).size = p.length := rfl
 have hb : ∀ j, j < p.length → (⟨p.toArray⟩ : ByteArray).data[j]! = p.getD j 0 := by
  intro j hj
  rw [getElem!_pos _ j (by simpa using hj)]
  simp [List.getD_eq_getElem?_getD, List.getElem?_eq_getElem hj]
 unfold Lib.lastIndexByte
 rw [hsz]
 rcases Lib.lastIdx_spec ⟨p.toArray⟩ 47 p.length with ⟨_, hn⟩ | ⟨i, hi, e, hc, hn⟩
 ·have := hn m hm
  rw [hb m hm, h1] at this
  exact absurd rfl this
 ·rw [e]
  rw [hb i hi] at hc
  have hci : p.getD i 0 = 47 := by
   apply UInt8.toNat_inj.1
   have : ((47 : UInt8).toNat : Int) = 47 := rfl
   omega
  by_cases h : i < m
  ·have := hn m h hm
   rw [hb m hm, h1] at this
   exact absurd rfl this
  ·by_cases h3 : m < i
   ·exact absurd hci (h2 i h3 hi)
   ·congr 1; omega
end Go.Proofs.YtdihngkdhanhkaaGreatDoor
