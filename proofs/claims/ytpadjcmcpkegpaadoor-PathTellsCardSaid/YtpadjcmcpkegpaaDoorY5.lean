/-
  The document's paths: Parent, Join.
-/
import Derived.Test.YtpadjcmcpkegpaaDoorY4
namespace Go.Proofs.YtpadjcmcpkegpaaDoor
open Go.RowKit

theorem joinL_split (s nm : List UInt8) : (joinL (splitL nm s)).length = 1 + nm.length + s.length := by
  induction s generalizing nm with
  | nil => simp [splitL, joinL]; omega
  | cons c r ih =>
    rw [splitL]
    split
    · rw [joinL_cons]
      have := ih []
      simp at this ⊢; omega
    · have := ih (nm ++ [c]); simp at this ⊢; omega
theorem joinL_cut (s : List UInt8) : (joinL (cutL s)).length ≤ s.length := by
  match s with
  | [] => simp [cutL, joinL]
  | c :: r =>
    rw [cutL]
    split
    · split
      · simp [joinL]
      · rw [joinL_split]; simp; omega
    · simp [joinL]
theorem RdS.take {B : Nat} {w : World} {A : Option Addr} {n c : Nat} {l : List ByteArray} (h : RdS B w (.slice A n c) l) (k : Nat) (hk : k ≤ n) : RdS B w (.slice A k c) (l.take k) := by
  obtain ⟨A', c', hv, hc, hm, hn, hr⟩ := h
  injection hv with h1 h2 h3
  subst h1 h2 h3
  have hl : (l.take k).length = k := by simp; omega
  refine ⟨A, c, by rw [hl], by rw [hl]; omega, hm, hn, fun a ha => ⟨fun h0 => (hr a ha).1 (by omega), fun j hj => ?_⟩⟩
  rw [(hr a ha).2 j (by omega)]
  simp
theorem bas_take (l : List (List UInt8)) (k : Nat) : (bas l).take k = bas (l.take k) := by simp [bas]

def parentS (s : List UInt8) : List UInt8 := if rightB s = true ∧ cutL s ≠ [] then madeL ((cutL s).take ((cutL s).length - 1)) else []
def parentE (s : List UInt8) : Nat := if rightB s = true then (if cutL s = [] then 6 else 0) else 13
theorem parent_not (s : List UInt8) (h : rightB s = false) : parentS s = [] ∧ parentE s = 13 := by simp [parentS, parentE, h]
theorem parent_root (s : List UInt8) (h : rightB s = true) (h2 : cutL s = []) : parentS s = [] ∧ parentE s = 6 := by simp [parentS, parentE, h, h2]
theorem parent_yes (s : List UInt8) (h : rightB s = true) (h2 : cutL s ≠ []) : parentS s = madeL ((cutL s).take ((cutL s).length - 1)) ∧ parentE s = 0 := by simp [parentS, parentE, h, h2]
/-- The call answers a text and a fault. -/
def Says (l : List UInt8) (f : Nat) (w : World) (e : Ending) (w' : World) : Prop := e = .returned (.tuple #[txt l, .int .i64 (f : Int)]) ∧ Below w.heap.size w w'

set_option maxRecDepth 100000 in
set_option maxHeartbeats 2000000 in
theorem rfParent_any (s : List UInt8) (w : World) : Calls Tryd.prog 12 #[txt s] w (Says (parentS s) (parentE s) w) := by
  go_enter Tryd.func12, Tryd.ntmps12
  go_wp2_with fail
  refine (rfNames_any s w).mono ?_
  rintro e w1 ⟨v, rfl, ho, hb⟩
  have hs1 := hb.size
  have HB := Lib.hid hb
  cases hR : rightB s
  · have HN := Lib.hid (names_not s hR)
    have HP := Lib.hid (parent_not s hR)
    rw [HN.out.2]
    clear hR ho hb
    go_wp2
    go_ret2
    rw [HP.out.1, HP.out.2]
    exact ⟨rfl, HB.out⟩
  · have HN := Lib.hid (names_yes s hR)
    have HQ := Lib.hid (rightB_len s hR)
    rw [HN.out.1] at ho
    rw [HN.out.2]
    have hr := ho.rd
    obtain ⟨A, cp, rfl, hc, hm⟩ := hr.shape
    unfold maxLen at hm
    rw [bas_length] at hc hr ⊢
    by_cases h0 : cutL s = []
    · have HP := Lib.hid (parent_root s hR h0)
      have hl : (cutL s).length = 0 := by rw [h0]; rfl
      rw [hl] at hc ⊢
      clear hR ho hb hr h0 hl
      go_wp2
      go_ret2
      rw [HP.out.1, HP.out.2]
      exact ⟨rfl, HB.out⟩
    · have HP := Lib.hid (parent_yes s hR h0)
      have hj : (joinL ((cutL s).take ((cutL s).length - 1))).length ≤ 1000000 := by
        have h1 := joinL_take (cutL s) ((cutL s).length - 1)
        have h2 := joinL_cut s
        have h3 := HQ.out.1
        omega
      have HJ := Lib.hid hj
      have hl8 := HQ.out.2.2.2
      obtain ⟨m, hm2⟩ : ∃ m, (cutL s).length = m := ⟨_, rfl⟩
      have hmp : m ≠ 0 := by
        intro h
        exact h0 (List.eq_nil_of_length_eq_zero (by omega))
      rw [hm2] at hc hr HP HJ hl8 ⊢
      have hr2 := hr.take (m - 1) (by omega)
      rw [bas_take] at hr2
      have HR2 := Lib.hid hr2
      clear hR ho hb hr h0 hr2 hj hm2
      go_wp2_with fail
      refine (rfMade_any _ _ w1 HR2.out HJ.out).mono ?_
      rintro e w2 ⟨rfl, hb2⟩
      have HB2 := Lib.hid (HB.out.trans (hb2.mono hs1))
      clear hb2
      go_wp2
      go_ret2
      rw [HP.out.1, HP.out.2]
      exact ⟨rfl, HB2.out⟩

def joinP (s nm : List UInt8) : List UInt8 := madeL (cutL s ++ [nm])
def joinOk (s nm : List UInt8) : Bool := rightB s && nameB nm && rightB (joinP s nm)
def joinS (s nm : List UInt8) : List UInt8 := if joinOk s nm = true then joinP s nm else []
def joinE (s nm : List UInt8) : Nat := if joinOk s nm = true then 0 else 13
theorem join_not (s nm : List UInt8) (h : joinOk s nm = false) : joinS s nm = [] ∧ joinE s nm = 13 := by simp [joinS, joinE, h]
theorem join_yes (s nm : List UInt8) (h : joinOk s nm = true) : joinS s nm = joinP s nm ∧ joinE s nm = 0 := by simp [joinS, joinE, h]

set_option maxRecDepth 100000 in
set_option maxHeartbeats 2000000 in
theorem rfJoin_any (s nm : List UInt8) (w : World) (hn : nm.length ≤ 1000000) : Calls Tryd.prog 19 #[txt s, txt nm] w (Says (joinS s nm) (joinE s nm) w) := by
  obtain ⟨i0, hI, hz0, hz1, hz2⟩ := info_partsStr
  have HNM := Lib.hid hn
  clear hn
  go_enter Tryd.func19, Tryd.ntmps19
  go_wp2_with fail
  refine (rfNames_any s w).mono ?_
  rintro e w1 ⟨v, rfl, ho, hb⟩
  have hs1 := hb.size
  have HB := Lib.hid hb
  cases hR : rightB s
  · have HN := Lib.hid (names_not s hR)
    have HP := Lib.hid (join_not s nm (by simp [joinOk, hR]))
    rw [HN.out.2]
    clear hR ho hb
    go_wp2
    go_ret2
    rw [HP.out.1, HP.out.2]
    exact ⟨rfl, HB.out⟩
  · have HN := Lib.hid (names_yes s hR)
    have HQ := Lib.hid (rightB_len s hR)
    have HR := Lib.hid hR
    rw [HN.out.1] at ho
    rw [HN.out.2]
    have HO := Lib.hid ho
    clear hR ho hb
    go_wp2_with fail
    refine (rfName_any nm w1 HNM.out).mono ?_
    rintro e w2 ⟨rfl, hb2⟩
    have hs2 := hb2.size
    have HB2 := Lib.hid (HB.out.trans (hb2.mono hs1))
    have HO2 := Lib.hid (HO.out.below hb2 (Nat.le_refl _))
    clear hb2
    cases hnm : nameB nm
    · have HP := Lib.hid (join_not s nm (by simp [joinOk, hnm]))
      go_wp2
      go_ret2
      rw [HP.out.1, HP.out.2]
      exact ⟨rfl, HB2.out⟩
    · have hl30 : nm.length ≤ 30 := by
        unfold nameB at hnm
        simp only [Bool.and_eq_true, decide_eq_true_eq] at hnm
        exact hnm.2
      have HNB := Lib.hid hnm
      have h8 := HQ.out.2.2.2
      have hj : (joinL (cutL s ++ [nm])).length ≤ 1000000 := by
        have h2 := joinL_cut s
        have h3 := HQ.out.1
        rw [joinL_snoc]
        simp
        omega
      have HJ := Lib.hid hj
      clear hj hnm
      have hB2s := HB2.out.size
      go_wp2_with (at_builtin; refine wpList_app1S rfl _ _ 23 rfl 9 i0 Tryd.underlying23 hI hz0 hz1 hz2 w.heap.size v (bas (cutL s)) ⟨nm.toArray⟩ ⟨w2.heap.size, 0, none⟩ rfl (HO2.out.alloc _) rfl ?d1 ?d2 ?d3 ?_)
      case d1 => simp
      case d2 => rw [bas_length]; omega
      case d3 => simp; omega
      intro v4 w4 hown4 hb4
      rw [← bas_snoc] at hown4
      have HR4 := Lib.hid hown4.rd
      have hB4 : Below w.heap.size w w4 := (HB2.out.alloc hB2s _).trans hb4
      have hs4 := hB4.size
      have HB4 := Lib.hid hB4
      clear hown4 hb4 hB4
      go_wp2_with fail
      refine (rfMade_any _ _ w4 HR4.out HJ.out).mono ?_
      rintro e w5 ⟨rfl, hb5⟩
      have HB5 := Lib.hid (HB4.out.trans (hb5.mono hs4))
      have hs5 := HB5.out.size
      clear hb5
      go_wp2_with fail
      refine (rfRight_any _ w5).mono ?_
      rintro e w6 ⟨rfl, hb6⟩
      have HB6 := Lib.hid (HB5.out.trans (hb6.mono hs5))
      clear hb6
      cases hq : rightB (madeL (cutL s ++ [nm]))
      · have HP := Lib.hid (join_not s nm (by simp [joinOk, joinP, hq]))
        go_wp2
        go_ret2
        rw [HP.out.1, HP.out.2]
        exact ⟨rfl, HB6.out⟩
      · have HP := Lib.hid (join_yes s nm (by simp [joinOk, joinP, hq, HR.out, HNB.out]))
        go_wp2
        go_ret2
        rw [HP.out.1, HP.out.2]
        exact ⟨rfl, HB6.out⟩
end Go.Proofs.YtpadjcmcpkegpaaDoor
