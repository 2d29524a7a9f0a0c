/-
  The document's paths: cut, the names between a text's slashes.
-/
import Derived.Test.YtpadjcmcpkegpaaDoorY2
namespace Go.Proofs.YtpadjcmcpkegpaaDoor
open Go.RowKit

/-- The call answers texts of its own, and a truth. -/
def Cuts (l : List (List UInt8)) (b : Bool) (w : World) (e : Ending) (w' : World) : Prop :=
  ∃ v, e = .returned (.tuple #[v, .bool b]) ∧ OwnS 9 w' w.heap.size v (bas l) ∧ Below w.heap.size w w'
theorem OwnS.empty (e : TypeId) (w : World) (base : Nat) (hb : base ≤ w.heap.size) : OwnS e (w.alloc (.cells #[] e)) base (.slice (some ⟨w.heap.size, 0, none⟩) 0 0) [] :=
  World.ownsRow_made w #[] 0 hb (by decide) rfl
theorem infoStr : (Tryd.prog.info? 9).map (fun i => (i.zero, i.size, i.bytes)) = some (some (.string ⟨#[]⟩), 1, 16) := by kernel_rfl
theorem info_partsStr : ∃ i, Tryd.prog.info? 9 = some i ∧ i.zero = some (.string ⟨#[]⟩) ∧ i.size = 1 ∧ i.bytes = 16 := by
  have h := infoStr
  cases hi : Tryd.prog.info? 9 with
  | none => rw [hi] at h; simp at h
  | some i =>
    rw [hi] at h
    simp at h
    exact ⟨i, rfl, h.1, h.2.1, h.2.2⟩
theorem drop_next (s : List UInt8) (i : Nat) (hi : i < s.length) (c : UInt8) (hc : s.getD i 0 = c) : s.drop i = c :: s.drop (i + 1) := by
  have e : s[i] = c := by
    rw [← hc, List.getD_eq_getElem?_getD, List.getElem?_eq_getElem hi]
    rfl
  rw [List.drop_eq_getElem_cons hi, e]
theorem bas_snoc (l : List (List UInt8)) (x : List UInt8) : bas (l ++ [x]) = bas l ++ [⟨x.toArray⟩] := by simp [bas]
theorem cutL_next (s : List UInt8) (h0 : s.getD 0 0 = 47) (hl : 1 ≤ s.length) (h1 : s ≠ [47]) : cutL s = splitL [] (s.drop 1) ∧ slashB s = true := by
  match s, hl with
  | c :: r, _ =>
    have hc : c = 47 := h0
    subst hc
    have hr : r ≠ [] := fun h => h1 (by rw [h])
    exact ⟨by simp [cutL, hr], by simp [slashB]⟩
theorem cutL_not (s : List UInt8) (hl : 1 ≤ s.length) (h0 : s.getD 0 0 ≠ 47) : cutL s = [] ∧ slashB s = false := by
  match s, hl with
  | c :: r, _ =>
    have hc : c ≠ 47 := h0
    exact ⟨by simp [cutL, hc], by simp [slashB, hc]⟩
theorem b_add1 (y : List UInt8) (c : UInt8) : (⟨y.toArray⟩ : ByteArray) ++ ⟨[c].toArray⟩ = ⟨(y ++ [c]).toArray⟩ := by
  apply ByteArray.ext
  simp [ByteArray.data_append]

set_option maxRecDepth 100000 in
set_option maxHeartbeats 2000000 in
theorem rfCut_any (s : List UInt8) (w : World) (hs : s.length ≤ 1000000) : Calls Tryd.prog 25 #[txt s] w (Cuts (cutL s) (slashB s) w) := by
  obtain ⟨i0, hI, hz0, hz1, hz2⟩ := info_partsStr
  obtain ⟨n, hn⟩ : ∃ n, s.length = n := ⟨_, rfl⟩
  have hsz : (⟨s.toArray⟩ : ByteArray).size = n := hn
  have HN := Lib.hid hn
  rw [hn] at hs
  have HE0 := Lib.hid (OwnS.empty 9 w w.heap.size (Nat.le_refl _))
  have HB0 : Hid (Below w.heap.size w (w.alloc (.cells #[] 9))) := (Below.refl _ _).alloc (Nat.le_refl _) _
  go_enter Tryd.func25, Tryd.ntmps25
  by_cases h0 : n = 0
  · have : s = [] := List.eq_nil_of_length_eq_zero (by omega)
    subst this
    clear hn HN
    subst h0
    go_wp2
    go_ret2
    exact ⟨_, rfl, HE0.out, HB0.out⟩
  · have hpos : (0 : Int) < (n : Int) := by omega
    have hne : ((n : Int) == 0) = false := by simp; omega
    obtain ⟨c, hc⟩ : ∃ c, s.getD 0 0 = c := ⟨_, rfl⟩
    obtain ⟨C, hCE⟩ : ∃ C, c.toNat = C := ⟨_, rfl⟩
    have hix : ∀ w, (Instr.index 9 (txt s) (.int .i64 0)).run Tryd.prog w = .ok (.int .u8 (C : Int)) w := by
      intro w
      have h := run_index_txt s 0 (by omega) w
      rw [hc, hCE] at h
      exact h
    have HC := Lib.hid hc
    have HCE := Lib.hid hCE
    clear hc hCE hn
    by_cases h47 : C = 47
    · subst h47
      have hb : ((47 : Nat) : Int) = 47 := rfl
      have hcc : c = 47 := by
        have h := HCE.out
        exact UInt8.toNat_inj.1 (by rw [h]; rfl)
      by_cases h1 : s = [47]
      · subst h1
        go_wp2
        go_ret2
        exact ⟨_, rfl, HE0.out, HB0.out⟩
      · have hs1 : (s == [47]) = false := by simpa using h1
        have HQ := Lib.hid (cutL_next s (by rw [HC.out, hcc]) (by rw [HN.out]; omega) h1)
        clear h1 hcc
        go_wp2
        go_loopw [4, 5, 6] (fun vo vn vi wr => ∃ i : Nat, 1 ≤ i ∧ i ≤ n ∧ vi = .int .i64 (i : Int) ∧ ∃ (acc : List (List UInt8)) (nm : List UInt8), vn = txt nm ∧ nm.length ≤ i ∧ acc.length ≤ i ∧
          Hid (splitL [] (s.drop 1) = acc ++ splitL nm (s.drop i)) ∧ Hid (OwnS 9 wr w.heap.size vo (bas acc)) ∧ Hid (Below w.heap.size w wr)) (fun _ _ vi _ => n - (intOf vi).toNat)
        case atStart => exact ⟨1, by omega, by omega, rfl, [], [], rfl, by simp, by simp, rfl, HE0, HB0⟩
        case round =>
          obtain ⟨i, hi1, hi, rfl, acc, nm, rfl, hnl, hal, HS, HO, HB⟩ := hrel
          have hwr := HB.out.size
          by_cases hi2 : i < n
          · have zi : (i : Int) < (n : Int) := by omega
            have hiy := run_index_txt s i (by rw [HN.out]; exact hi2)
            obtain ⟨d, hd⟩ : ∃ d, s.getD i 0 = d := ⟨_, rfl⟩
            have HD := Lib.hid (drop_next s i (by rw [HN.out]; exact hi2) d hd)
            rw [hd] at hiy
            obtain ⟨D, hDE⟩ : ∃ D, d.toNat = D := ⟨_, rfl⟩
            rw [hDE] at hiy
            have HDE := Lib.hid hDE
            clear hd hDE
            by_cases d47 : D = 47
            · subst d47
              have hS2 : splitL [] (s.drop 1) = (acc ++ [nm]) ++ splitL [] (s.drop (i + 1)) := by
                have hd : d = 47 := UInt8.toNat_inj.1 (by rw [HDE.out]; rfl)
                rw [HS.out, HD.out, hd, splitL, if_pos rfl]
                simp
              have HS2 := Lib.hid hS2
              clear hS2
              go_wp2_with (at_builtin; refine wpList_app1S rfl _ _ 23 rfl 9 i0 Tryd.underlying23 hI hz0 hz1 hz2 w.heap.size u4 (bas acc) ⟨nm.toArray⟩ ⟨wr.heap.size, 0, none⟩ rfl (HO.out.alloc _) rfl ?d1 ?d2 ?d3 ?_)
              case d1 => simp
              case d2 => rw [bas_length]; omega
              case d3 => simp; omega
              intro v4 w4 hown4 hb4
              rw [← bas_snoc] at hown4
              have HO4 := Lib.hid hown4
              have HB4 : Hid (Below w.heap.size w w4) := (HB.out.alloc hwr _).trans hb4
              clear hown4 hb4
              go_wp2
              go_roundw
              case rel => exact ⟨i + 1, by omega, by omega, by go_num, acc ++ [nm], [], rfl, by simp, by simp; omega, HS2, HO4, HB4⟩
              case measure => simp [intOf]; omega
            · have d472 : ((D : Int) == 47) = false := by simp; omega
              have hS2 : splitL [] (s.drop 1) = acc ++ splitL (nm ++ [d]) (s.drop (i + 1)) := by
                have hd : d ≠ 47 := fun h => d47 (by rw [← HDE.out, h]; rfl)
                rw [HS.out, HD.out, splitL, if_neg hd]
              have HS2 := Lib.hid hS2
              clear hS2
              have hcv : (convert 45 9 (.slice (some ⟨wr.heap.size, 0, none⟩) 1 1)).run Tryd.prog (wr.alloc (.cells #[.int .u8 (D : Int)] 5)) = .ok (.string ⟨[d].toArray⟩) (wr.alloc (.cells #[.int .u8 (D : Int)] 5)) := by
                have h := Rd.one 5 wr d
                rw [HDE.out] at h
                exact run_string_rd 45 9 5 Tryd.underlying45 Tryd.underlying5 Tryd.underlying9 h
              have b1 : ¬ 9223372036854775807 < nm.length + 1 := by omega
              have HB4 : Hid (Below w.heap.size w (wr.alloc (.cells #[.int .u8 (D : Int)] 5))) := HB.out.alloc hwr _
              have HO4 := Lib.hid (HO.out.alloc (.cells #[.int .u8 (D : Int)] 5))
              go_wp2
              go_roundw
              case rel => exact ⟨i + 1, by omega, by omega, by go_num, acc, nm ++ [d], congrArg Value.string (b_add1 nm d), by simp; omega, by omega, HS2, HO4, HB4⟩
              case measure => simp [intOf]; omega
          · have hE : i = n := by omega
            subst hE
            have hS2 : splitL [] (s.drop 1) = acc ++ [nm] := by
              have hd : s.drop i = [] := List.drop_eq_nil_of_le (by rw [HN.out]; exact Nat.le_refl _)
              rw [HS.out, hd, splitL]
            have HS2 := Lib.hid hS2
            clear hS2
            go_wp2_with (at_builtin; refine wpList_app1S rfl _ _ 23 rfl 9 i0 Tryd.underlying23 hI hz0 hz1 hz2 w.heap.size u4 (bas acc) ⟨nm.toArray⟩ ⟨wr.heap.size, 0, none⟩ rfl (HO.out.alloc _) rfl ?d1 ?d2 ?d3 ?_)
            case d1 => simp
            case d2 => rw [bas_length]; omega
            case d3 => simp; omega
            intro v4 w4 hown4 hb4
            rw [← bas_snoc] at hown4
            have HO4 := Lib.hid hown4
            have HB4 : Hid (Below w.heap.size w w4) := (HB.out.alloc hwr _).trans hb4
            clear hown4 hb4
            go_wp2
            go_ret2
            rw [HQ.out.1, HQ.out.2, HS2.out]
            exact ⟨_, rfl, HO4.out, HB4.out⟩
    · have hb : ((C : Int) != 47) = true := by simp; omega
      have HQ := Lib.hid (cutL_not s (by rw [HN.out]; omega) (by rw [HC.out]; intro h; apply h47; rw [← HCE.out, h]; rfl))
      go_wp2
      go_ret2
      rw [HQ.out.1, HQ.out.2]
      exact ⟨_, rfl, HE0.out, HB0.out⟩
end Go.Proofs.YtpadjcmcpkegpaaDoor
