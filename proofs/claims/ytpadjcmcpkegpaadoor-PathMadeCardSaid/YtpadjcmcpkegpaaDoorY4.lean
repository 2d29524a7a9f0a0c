/-
  The document's paths: Right, Names.
-/
import Derived.Test.YtpadjcmcpkegpaaDoorY3
namespace Go.Proofs.YtpadjcmcpkegpaaDoor
open Go.RowKit

theorem splitL_len (s nm : List UInt8) : ∀ x ∈ splitL nm s, x.length ≤ nm.length + s.length := by
  induction s generalizing nm with
  | nil => intro x hx; simp [splitL] at hx; subst hx; simp
  | cons c r ih =>
    intro x hx
    rw [splitL] at hx
    split at hx
    · rcases List.mem_cons.1 hx with rfl | hx
      · simp
      · have := ih [] x hx; simp at this ⊢; omega
    · have := ih (nm ++ [c]) x hx; simp at this ⊢; omega
theorem cutL_len (s : List UInt8) : ∀ x ∈ cutL s, x.length ≤ s.length := by
  match s with
  | [] => intro x hx; simp [cutL] at hx
  | c :: r =>
    intro x hx
    rw [cutL] at hx
    split at hx
    · split at hx
      · simp at hx
      · have := splitL_len r [] x hx; simp at this ⊢; omega
    · simp at hx
theorem bas_at (l : List (List UInt8)) (i : Nat) (hi : i < l.length) (x : List UInt8) (hx : l.getD i [] = x) : (bas l)[i]'(by rw [bas_length]; exact hi) = ⟨x.toArray⟩ := by
  simp only [bas, List.getElem_map]
  congr 2
  rw [← hx, List.getD_eq_getElem?_getD, List.getElem?_eq_getElem hi]
  rfl
theorem rightB_long (s : List UInt8) (h : 100 < s.length) : rightB s = false := by
  unfold rightB
  have : decide (s.length ≤ 100) = false := by simp; omega
  rw [this]; simp
theorem rightB_not (s : List UInt8) (h : (cutL s).all nameB = false) : rightB s = false := by
  unfold rightB
  rw [h]; simp
theorem rightB_yes (s : List UInt8) (h1 : s.length ≤ 100) (h : (cutL s).all nameB = true) : rightB s = (slashB s && decide ((cutL s).length ≤ 8)) := by
  unfold rightB
  rw [h]
  have : decide (s.length ≤ 100) = true := by simp; omega
  rw [this]; simp

set_option maxRecDepth 100000 in
set_option maxHeartbeats 2000000 in
theorem rfRight_any (s : List UInt8) (w : World) : Calls Tryd.prog 16 #[txt s] w (One (.bool (rightB s)) w) := by
  obtain ⟨n, hn⟩ : ∃ n, s.length = n := ⟨_, rfl⟩
  have hsz : (⟨s.toArray⟩ : ByteArray).size = n := hn
  have HN := Lib.hid hn
  go_enter Tryd.func16, Tryd.ntmps16
  by_cases h100 : 100 < (n : Int)
  · go_wp2
    go_ret
    exact ⟨by rw [rightB_long s (by omega)]; rfl, Below.refl _ _⟩
  · have hle : n ≤ 100 := by omega
    clear hn
    go_wp2_with fail
    refine (rfCut_any s w (by rw [HN.out]; omega)).mono ?_
    rintro e w1 ⟨v, rfl, ho, hb⟩
    have hs1 := hb.size
    have HB := Lib.hid hb
    have hr := ho.rd
    obtain ⟨A, cp, rfl, hc, hm⟩ := hr.shape
    unfold maxLen at hm
    rw [bas_length] at hc hr ⊢
    have HL := Lib.hid (cutL_len s)
    obtain ⟨l, hl⟩ : ∃ l, cutL s = l := ⟨_, rfl⟩
    have HY := Lib.hid (rightB_yes s (by rw [HN.out]; exact hle))
    have HX := Lib.hid (rightB_not s)
    rw [hl] at hc hr HL HY HX ⊢
    obtain ⟨m, hm2⟩ : ∃ m, l.length = m := ⟨_, rfl⟩
    have HM := Lib.hid hm2
    have HR := Lib.hid hr
    rw [hm2] at hc HR ⊢
    clear hr hm2 ho hb hl
    go_wp2
    go_loopw [5] (fun vi wr => ∃ i : Nat, i ≤ m ∧ vi = .int .i64 (i : Int) ∧ Hid ((l.take i).all nameB = true) ∧ Hid (Below w1.heap.size w1 wr)) (fun vi _ => m - (intOf vi).toNat)
    case atStart => exact ⟨0, by omega, rfl, by simp [Hid], Below.refl _ _⟩
    case round =>
      obtain ⟨i, hi, rfl, HA, HBr⟩ := hrel
      have hwr := HBr.out.size
      by_cases hi2 : i < m
      · have zi : (i : Int) < (m : Int) := by omega
        have HRr := HR.out.below HBr.out
        obtain ⟨a, hA, ca⟩ := HRr.at_ i (by rw [bas_length, HM.out]; exact hi2)
        subst hA
        obtain ⟨x, hx⟩ : ∃ x, l.getD i [] = x := ⟨_, rfl⟩
        rw [bas_at l i (by rw [HM.out]; exact hi2) x hx] at ca
        have hxm : x ∈ l := by
          rw [← hx, List.getD_eq_getElem?_getD, List.getElem?_eq_getElem (by rw [HM.out]; exact hi2)]
          exact List.getElem_mem _
        have HXM := Lib.hid hxm
        have hxl : x.length ≤ 1000000 := by
          have h := HL.out x hxm
          rw [HN.out] at h
          omega
        have HT : Hid (l.take (i + 1) = l.take i ++ [x]) := by
          show _ = _
          rw [List.take_add_one]
          have e : l[i]? = some x := by
            rw [List.getElem?_eq_getElem (by rw [HM.out]; exact hi2)]
            congr 1
            rw [← hx, List.getD_eq_getElem?_getD, List.getElem?_eq_getElem (by rw [HM.out]; exact hi2)]
            rfl
          rw [e]; rfl
        have HXL := Lib.hid hxl
        clear HRr hx hxm hxl
        go_wp2_with fail
        refine (rfName_any x wr HXL.out).mono ?_
        rintro e w3 ⟨rfl, hb3⟩
        have HB3 := Lib.hid (HBr.out.trans (hb3.mono hwr))
        clear hb3
        cases hxb : nameB x
        · have HF : Hid (l.all nameB = false) := by
            show _ = _
            rw [List.all_eq_false]
            exact ⟨x, HXM.out, by rw [hxb]; simp⟩
          go_wp2
          go_ret
          exact ⟨by rw [HX.out HF.out]; rfl, HB.out.trans (HB3.out.mono hs1)⟩
        · go_wp2
          go_roundw
          case rel =>
            refine ⟨i + 1, by omega, by go_num, ?_, HB3⟩
            show _ = _
            rw [HT.out, List.all_append, HA.out]
            simp [hxb]
          case measure => simp [intOf]; omega
      · have hE : i = m := by omega
        subst hE
        have HF : Hid (l.all nameB = true) := by
          show _ = _
          have h := HA.out
          rw [List.take_of_length_le (by rw [HM.out]; exact Nat.le_refl _)] at h
          exact h
        have HZ := Lib.hid (HY.out HF.out)
        rw [HM.out] at HZ
        cases hb : slashB s
        · rw [hb] at HZ
          go_wp2
          go_ret
          exact ⟨by rw [HZ.out]; rfl, HB.out.trans (HBr.out.mono hs1)⟩
        · rw [hb] at HZ
          go_wp2
          go_ret
          exact ⟨by rw [HZ.out]; simp; omega, HB.out.trans (HBr.out.mono hs1)⟩

/-- The call answers texts of its own, and a fault. -/
def Lists (l : List (List UInt8)) (f : Nat) (w : World) (e : Ending) (w' : World) : Prop :=
  ∃ v, e = .returned (.tuple #[v, .int .i64 (f : Int)]) ∧ OwnS 9 w' w.heap.size v (bas l) ∧ Below w.heap.size w w'
def namesL (s : List UInt8) : List (List UInt8) := if rightB s = true then cutL s else []
def namesE (s : List UInt8) : Nat := if rightB s = true then 0 else 13
theorem names_yes (s : List UInt8) (h : rightB s = true) : namesL s = cutL s ∧ namesE s = 0 := by simp [namesL, namesE, h]
theorem names_not (s : List UInt8) (h : rightB s = false) : namesL s = [] ∧ namesE s = 13 := by simp [namesL, namesE, h]
theorem rightB_len (s : List UInt8) (h : rightB s = true) : s.length ≤ 100 ∧ (cutL s).all nameB = true ∧ slashB s = true ∧ (cutL s).length ≤ 8 := by
  unfold rightB at h
  simp only [Bool.and_eq_true, decide_eq_true_eq] at h
  exact ⟨h.1.1.1, h.1.1.2, h.1.2, h.2⟩

set_option maxRecDepth 100000 in
set_option maxHeartbeats 2000000 in
theorem rfNames_any (s : List UInt8) (w : World) : Calls Tryd.prog 10 #[txt s] w (Lists (namesL s) (namesE s) w) := by
  go_enter Tryd.func10, Tryd.ntmps10
  go_wp2_with fail
  refine (rfRight_any s w).mono ?_
  rintro e w1 ⟨rfl, hb⟩
  have hs1 := hb.size
  have HB := Lib.hid hb
  clear hb
  cases hR : rightB s
  · have HN := Lib.hid (names_not s hR)
    clear hR
    go_wp2
    go_ret2
    rw [HN.out.1, HN.out.2]
    exact ⟨_, rfl, OwnS.nil _ _ _, HB.out⟩
  · have HN := Lib.hid (names_yes s hR)
    have HQ := Lib.hid (rightB_len s hR)
    clear hR
    go_wp2_with fail
    refine (rfCut_any s w1 (by have := HQ.out.1; omega)).mono ?_
    rintro e w2 ⟨v, rfl, ho, hb⟩
    have HO := Lib.hid (ho.base hs1)
    have HB2 := Lib.hid (HB.out.trans (hb.mono hs1))
    clear ho hb
    go_wp2
    go_ret2
    rw [HN.out.1, HN.out.2]
    exact ⟨_, rfl, HO.out, HB2.out⟩
end Go.Proofs.YtpadjcmcpkegpaaDoor
