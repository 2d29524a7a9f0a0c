/-
  Rows of watch.Watch: words of the kind, slices.Equal, slices.Clone. Each theorem states its own conditions.
-/
import Derived.Test.YtmiomfonglmfjaaUF
namespace Go.Proofs.Ytmiomfonglmfjaa
open Go.RowKit

/-- The zero value. -/
abbrev zWa : Value := .agg (wac wa0).toArray
theorem infoQWa : (Try.prog.info? 31).map (fun i => (i.zero, i.size, i.bytes)) = some (some zWa, 3, 32) := by kernel_rfl
theorem infoPWa : ∃ i, Try.prog.info? 31 = some i ∧ i.zero = some zWa ∧ i.size = 3 ∧ i.bytes = 32 := by
  have h := infoQWa
  cases hi : Try.prog.info? 31 with
  | none => rw [hi] at h; simp at h
  | some i =>
    rw [hi] at h
    simp at h
    exact ⟨i, rfl, h.1, h.2.1, h.2.2⟩
theorem kindPWa : KindOf Try.prog 31 WaK 32 := kind_of (z := zWa) (by kernel_rfl) rfl
theorem sizeWa : (Try.prog.info? 31).map (·.size) = some 3 := by kernel_rfl
theorem rwLenWa (l : List Wa) : (rowsE WaK l).length = l.length * 3 := rowsE_length WaK l
theorem rwCutWa (l : List Wa) (i : Nat) (hi : i < l.length) : (rowsE WaK l).take (i * 3) = rowsE WaK (l.take i) ∧ (rowsE WaK l).drop (i * 3 + 3) = rowsE WaK (l.drop (i + 1)) := rowsE_cut (E := WaK) l i hi
theorem ownBlkWa {e : TypeId} {w : World} {base n cap g : Nat} {l : List Wa} (h : OwnE WaK e w base (.slice (some ⟨g, 0, none⟩) n cap) l) : ∃ cur : Array Value, Blk w g cur.toList e ∧ base ≤ g ∧ l.length ≤ cap ∧ cap ≤ maxLen ∧ cur.size = cap * 3 ∧ cur.toList.take (l.length * 3) = rowsE WaK l ∧ n = l.length := h.block
theorem insRWa (l : List Wa) (x : Wa) (m : Nat) : rowsE WaK (insE l x m) = rowsE WaK (l.take m) ++ (wac x ++ rowsE WaK (l.drop m)) := insE_rows l x m
theorem same_atWa (l m : List Wa) (i : Nat) (h : l.getD i wa0 ≠ m.getD i wa0) : decide (l = m) = false := by
  rw [decide_eq_false_iff_not]
  rintro rfl
  exact h rfl
theorem same_allWa (l m : List Wa) (hl : l.length = m.length) (h : ∀ i, i < l.length → l.getD i wa0 = m.getD i wa0) : decide (l = m) = true := by
  rw [decide_eq_true_eq]
  refine List.ext_getElem hl fun i h1 h2 => ?_
  have := h i h1
  rw [List.getD_eq_getElem?_getD, List.getD_eq_getElem?_getD, List.getElem?_eq_getElem h1, List.getElem?_eq_getElem h2] at this
  exact this
theorem same_lenWa (l m : List Wa) (hl : l.length ≠ m.length) : decide (l = m) = false := by
  rw [decide_eq_false_iff_not]
  rintro rfl
  exact hl rfl
theorem run_copyEWa (w : World) (dT sT ty elem : TypeId) (b o dLen dCap : Nat) (a : Addr) (sLen sCap : Nat) (cs : List Value)
    (hu : Try.prog.underlying dT = some (.slice elem)) (hs : (Try.prog.info? elem).map (·.size) = some 3) (hn : cs.length = Nat.min sLen dLen * 3)
    (hsrc : ∀ j v, cs[j]? = some v → w.cell? (a.add j) = some v) (hc : ∀ j, j < cs.length → (w.cell? ⟨b, o + j, none⟩).isSome = true ∧ w.frozen? ⟨b, o + j, none⟩ = false) (h1 : ∀ v ∈ cs, v.oneCell' = true) :
    (Builtin.copy_ #[dT, sT] ty #[.slice (some ⟨b, o, none⟩) dLen dCap, .slice (some a) sLen sCap]).run Try.prog w = .ok (goInt (Nat.min sLen dLen)) (w.setCells b o cs) := run_copy_rowE w dT sT ty elem 3 b o dLen dCap a sLen sCap cs hu hs hn hsrc hc h1
theorem run_clearEWa (w : World) (t e ty : TypeId) (i : TypeInfo) (ht : Try.prog.underlying t = some (.slice e)) (hi : Try.prog.info? e = some i) (hz : i.zero = some zWa) (g o c : Nat)
    (hc : ∀ j, j < 3 → (w.cell? ⟨g, o + j, none⟩).isSome = true ∧ w.frozen? ⟨g, o + j, none⟩ = false) :
    (Builtin.clear_ #[t] ty #[.slice (some ⟨g, o, none⟩) 1 c]).run Try.prog w = .ok (.tuple #[]) (w.setCells g o (wac wa0)) := run_clear_rowE w t e ty i zWa (wac wa0) 3 ht hi hz g o c (by kernel_rfl) rfl (WaK.one wa0) hc
set_option maxRecDepth 100000 in
set_option maxHeartbeats 2000000 in
/-- slices.Equal over nodes. -/
theorem eqFunc_anyWa (l m : List Wa) (v u : Value) (w : World) (hr : RdE WaK w.heap.size w v l) (hr2 : RdE WaK w.heap.size w u m) : Calls Try.prog 34 #[v, u] w (One (.bool (decide (l = m))) w) := by
  obtain ⟨A, cp, rfl, hc, hm⟩ := hr.shape
  obtain ⟨A2, cp2, rfl, hc2, hm2⟩ := hr2.shape
  unfold maxLen at hm hm2
  obtain ⟨n, hn⟩ : ∃ n, l.length = n := ⟨_, rfl⟩
  obtain ⟨k, hk⟩ : ∃ n, m.length = n := ⟨_, rfl⟩
  have HN := Lib.hid hn
  have HK := Lib.hid hk
  have HRa := Lib.hid hr
  have HRb := Lib.hid hr2
  rw [hn] at hc HRa ⊢
  rw [hk] at hc2 HRb ⊢
  clear hr hn hr2 hk
  go_enter Try.func34, Try.ntmps34
  by_cases hnk : n = k
  · subst hnk
    go_wp2
    go_loopw [5, 13] (fun _ x wr => ∃ i : Nat, i ≤ n ∧ x = .int .i64 (i : Int) ∧ Hid (∀ j, j < i → l.getD j wa0 = m.getD j wa0) ∧ Hid (Below w.heap.size w wr)) (fun _ x _ => n - (intOf x).toNat)
    case atStart => exact ⟨0, by omega, rfl, fun j hj => by omega, Below.refl _ _⟩
    case round =>
      obtain ⟨i, hi, rfl, HA, HD⟩ := hrel
      by_cases hi2 : i < n
      · have zi : (i : Int) < (n : Int) := by omega
        obtain ⟨a, hA, c0, c1, c2⟩ := (HRa.out.below HD.out).atWa i (by rw [HN.out]; exact hi2)
        obtain ⟨b, hA2, d0, d1, d2⟩ := (HRb.out.below HD.out).atWa i (by rw [HK.out]; exact hi2)
        subst hA hA2
        obtain ⟨x, hx⟩ : ∃ x, l.getD i wa0 = x := ⟨_, rfl⟩
        obtain ⟨y, hy⟩ : ∃ y, m.getD i wa0 = y := ⟨_, rfl⟩
        rw [hx] at c0 c1 c2
        rw [hy] at d0 d1 d2
        have hne := run_neqEWa x y
        obtain ⟨B, hB⟩ : ∃ B, decide (x = y) = B := ⟨_, rfl⟩
        rw [hB] at hne
        go_wp2
        refine wp_region_quiet_lit (by kernel_rfl) (by kernel_rfl) ?_
        repeat (first | go_big_quiet_step (fail) | quiet_step (fail))
        refine wpQuiet_nil ?_
        intro _ hw'
        obtain ⟨nq, hw''⟩ := hw'
        subst hw''
        have HD2 : Hid (Below w.heap.size w (wr.drewN nq)) := Below.drewN' HD.out
        cases B
        · have HF := Lib.hid (same_atWa l m i (by rw [hx, hy]; simpa using hB))
          clear hne
          go_wp2
          go_ret
          exact ⟨by rw [HF.out]; rfl, HD2.out⟩
        · have HA2 : Hid (∀ j, j < i + 1 → l.getD j wa0 = m.getD j wa0) := by
            intro j hj
            by_cases h : j < i
            · exact HA.out j h
            · have : j = i := by omega
              subst this
              rw [hx, hy]
              simpa using hB
          clear hne
          go_wp2
          go_roundw
          case rel => exact ⟨i + 1, by omega, by go_num, HA2, HD2⟩
          case measure => simp [intOf]; omega
      · have hE : i = n := by omega
        subst hE
        have HF := Lib.hid (same_allWa l m (by rw [HN.out, HK.out]) (by rw [HN.out]; exact HA.out))
        go_wp2
        go_ret
        exact ⟨by rw [HF.out]; rfl, HD.out⟩
  · have hz : ¬ (n : Int) = (k : Int) := by omega
    have hzb : ((n : Int) != (k : Int)) = true := by
      rw [bne_iff_ne]; exact hz
    have hzb2 : ((n : Int) == (k : Int)) = false := by
      rw [beq_eq_false_iff_ne]; exact hz
    have HF := Lib.hid (same_lenWa l m (by rw [HN.out, HK.out]; exact hnk))
    clear hnk
    go_wp2
    go_ret
    exact ⟨by rw [HF.out]; rfl, Below.refl _ _⟩

set_option maxRecDepth 100000 in
set_option maxHeartbeats 2000000 in
/-- slices.Clone over nodes. -/
theorem clone_anyWa (l : List Wa) (v : Value) (w : World) (hr : RdE WaK w.heap.size w v l) (hl : l.length ≤ 100000) : Calls Try.prog 35 #[v] w (OwnsE WaK 31 l w) := by
  obtain ⟨i1, hJ, hy0, hy1, hy2⟩ := infoPWa
  obtain ⟨A, cp, rfl, hc, hm⟩ := hr.shape
  unfold maxLen at hm
  cases A with
  | none =>
    obtain ⟨A', c', hv, _, _, hn, _⟩ := hr
    injection hv with q1 q2 q3
    subst q1 q3
    have h0 := hn rfl
    have h1 : l = [] := List.eq_nil_of_length_eq_zero (by omega)
    subst h1
    subst h0
    have he : ∀ w, (binOp .eql 22 (.slice none 0 0) (.slice none 0 0)).run Try.prog w = .ok (.bool true) w := fun _ => rfl
    go_enter Try.func35, Try.ntmps35
    go_wp2
    go_ret
    exact ⟨_, rfl, OwnE.nil _ _ _, Below.refl _ _⟩
  | some a =>
    have HR := Lib.hid hr
    have HL := Lib.hid hl
    obtain ⟨n, hn⟩ : ∃ n, l.length = n := ⟨_, rfl⟩
    rw [hn] at HR hc ⊢
    clear hr hl hn
    have he : ∀ w, (binOp .eql 22 (.slice (some a) n cp) (.slice none 0 0)).run Try.prog w = .ok (.bool false) w := fun _ => rfl
    have HO : Hid (OwnE WaK 31 (w.alloc (.cells #[] 31)) w.heap.size (.slice (some ⟨w.heap.size, 0, none⟩) 0 0) []) := OwnE.empty (E := WaK) 31 w w.heap.size (Nat.le_refl _)
    have HA : Hid (Below w.heap.size w (w.alloc (.cells #[] 31))) := (Below.refl _ _).alloc (Nat.le_refl _) _
    have HR2 := Lib.hid (HR.out.below HA.out)
    go_enter Try.func35, Try.ntmps35
    go_wp2_with (at_builtin; refine wpList_appF (E := WaK) rfl _ _ 22 rfl 31 32 Try.underlying22 kindPWa w.heap.size _ _ _ [] l rfl HO.out rfl HR2.out ?d1 ?d2 ?d3 ?_)
    case d1 => have := HL.out; simp; omega
    case d2 => have := HL.out; simp; omega
    case d3 => simp
    intro v' w' h1 h2 h3
    have H1 := Lib.hid h1
    have H2 := Lib.hid (HA.out.trans h2)
    clear h1 h2 h3
    go_wp2
    go_ret
    exact ⟨_, rfl, H1.out, H2.out⟩

end Go.Proofs.Ytmiomfonglmfjaa
