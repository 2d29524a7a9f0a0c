/-
  Texts JL0 JL1.
-/
import Derived.Test.YtgfobinklijkpaaGreatDoorW01
import Derived.Test.YtgfobinklijkpaaGreatDoorW15
namespace Go.Proofs.YtgfobinklijkpaaGreatDoor
set_option maxRecDepth 100000
set_option maxHeartbeats 16000000
open Go.RowKit
abbrev zSe : Value := .agg (sec se0).toArray
theorem infoQSe : (Tryz.prog.info? 160).map (fun i => (i.zero, i.size, i.bytes)) = some (some zSe, 3, 24) := by kernel_rfl
theorem infoPSe : ∃ i, Tryz.prog.info? 160 = some i ∧ i.zero = some zSe ∧ i.size = 3 ∧ i.bytes = 24 := by
 have h := infoQSe
 cases hi : Tryz.prog.info? 160 with
 | none => rw [hi] at h; simp at h
 | some i =>
   rw [hi] at h
   simp at h
   exact ⟨i, rfl, h.1, h.2.1, h.2.2⟩
theorem kindPSe : KindOf Tryz.prog 160 SeK 24 := kind_of (z := zSe) (by kernel_rfl) rfl
theorem sizeSe : (Tryz.prog.info? 160).map (·.size) = some 3 := by kernel_rfl
theorem rwLenSe (l : List Se) : (rowsE SeK l).length = l.length * 3 := rowsE_length SeK l
theorem rwCutSe (l : List Se) (i : Nat) (hi : i < l.length) : (rowsE SeK l).take (i * 3) = rowsE SeK (l.take i) ∧ (rowsE SeK l).drop (i * 3 + 3) = rowsE SeK (l.drop (i + 1)) := rowsE_cut (E := SeK) l i hi
theorem ownBlkSe {e : TypeId} {w : World} {base n cap g : Nat} {l : List Se} (h : OwnE SeK e w base (.slice (some ⟨g, 0, none⟩) n cap) l) : ∃ cur : Array Value, Blk w g cur.toList e ∧ base ≤ g ∧ l.length ≤ cap ∧ cap ≤ maxLen ∧ cur.size = cap * 3 ∧ cur.toList.take (l.length * 3) = rowsE SeK l ∧ n = l.length := h.block
theorem insRSe (l : List Se) (x : Se) (m : Nat) : rowsE SeK (insE l x m) = rowsE SeK (l.take m) ++ (sec x ++ rowsE SeK (l.drop m)) := insE_rows l x m
theorem same_atSe (l m : List Se) (i : Nat) (h : l.getD i se0 ≠ m.getD i se0) : decide (l = m) = false := by
 rw [decide_eq_false_iff_not]
 rintro rfl
 exact h rfl
theorem same_allSe (l m : List Se) (hl : l.length = m.length) (h : ∀ i, i < l.length → l.getD i se0 = m.getD i se0) : decide (l = m) = true := by
 rw [decide_eq_true_eq]
 refine List.ext_getElem hl fun i h1 h2 => ?_
 have := h i h1
 rw [List.getD_eq_getElem?_getD, List.getD_eq_getElem?_getD, List.getElem?_eq_getElem h1, List.getElem?_eq_getElem h2] at this
 exact this
theorem same_lenSe (l m : List Se) (hl : l.length ≠ m.length) : decide (l = m) = false := by
 rw [decide_eq_false_iff_not]
 rintro rfl
 exact hl rfl
theorem run_copyESe (w : World) (dT sT ty elem : TypeId) (b o dLen dCap : Nat) (a : Addr) (sLen sCap : Nat) (cs : List Value)
 (hu : Tryz.prog.underlying dT = some (.slice elem)) (hs : (Tryz.prog.info? elem).map (·.size) = some 3) (hn : cs.length = Nat.min sLen dLen * 3)
 (hsrc : ∀ j v, cs[j]? = some v → w.cell? (a.add j) = some v) (hc : ∀ j, j < cs.length → (w.cell? ⟨b, o + j, none⟩).isSome = true ∧ w.frozen? ⟨b, o + j, none⟩ = false) (h1 : ∀ v ∈ cs, v.oneCell' = true) :
 (Builtin.copy_ #[dT, sT] ty #[.slice (some ⟨b, o, none⟩) dLen dCap, .slice (some a) sLen sCap]).run Tryz.prog w = .ok (goInt (Nat.min sLen dLen)) (w.setCells b o cs) := run_copy_rowE w dT sT ty elem 3 b o dLen dCap a sLen sCap cs hu hs hn hsrc hc h1
theorem run_clearESe (w : World) (t e ty : TypeId) (i : TypeInfo) (ht : Tryz.prog.underlying t = some (.slice e)) (hi : Tryz.prog.info? e = some i) (hz : i.zero = some zSe) (g o c : Nat)
 (hc : ∀ j, j < 3 → (w.cell? ⟨g, o + j, none⟩).isSome = true ∧ w.frozen? ⟨g, o + j, none⟩ = false) :
 (Builtin.clear_ #[t] ty #[.slice (some ⟨g, o, none⟩) 1 c]).run Tryz.prog w = .ok (.tuple #[]) (w.setCells g o (sec se0)) := run_clear_rowE w t e ty i zSe (sec se0) 3 ht hi hz g o c (by kernel_rfl) rfl (SeK.one se0) hc
theorem eqFunc_anySe (l m : List Se) (v u : Value) (w : World) (hr : RdE SeK w.heap.size w v l) (hr2 : RdE SeK w.heap.size w u m) : Calls Tryz.prog 105 #[v, u] w (One (.bool (decide (l = m))) w) := by
 obtain ⟨A, cp, rfl, hc, hm⟩ := hr.shape
 obtain ⟨A2, cp2, rfl, hc2, hm2⟩ := hr2.shape
 unfold maxLen at hm hm2
 obtain ⟨n, hn⟩ : ∃ n, l.length = n := ⟨_, rfl⟩
 obtain ⟨k, hk⟩ : ∃ n, m.length = n := ⟨_, rfl⟩
 have HN := lhd hn
 have HK := lhd hk
 have HRa := lhd hr
 have HRb := lhd hr2
 rw [hn] at hc HRa ⊢
 rw [hk] at hc2 HRb ⊢
 clear hr hn hr2 hk
 go_enter Tryz.func105, Tryz.ntmps105
 by_cases hnk : n = k
 ·subst hnk
  go_wp2
  go_loopw [5, 13] (fun _ x wr => ∃ i : Nat, i ≤ n ∧ x = .int .i64 (i : Int) ∧ Hid (∀ j, j < i → l.getD j se0 = m.getD j se0) ∧ Hid (Below w.heap.size w wr)) (fun _ x _ => n - (intOf x).toNat)
  case atStart => exact ⟨0, by omega, rfl, fun j hj => by omega, Below.refl _ _⟩
  case round =>
   obtain ⟨i, hi, rfl, HA, HD⟩ := hrel
   by_cases hi2 : i < n
   ·have zi : (i : Int) < (n : Int) := by omega
    obtain ⟨a, hA, c0, c1, c2⟩ := (HRa.out.below HD.out).at3 i (by rw [HN.out]; exact hi2)
    obtain ⟨b, hA2, d0, d1, d2⟩ := (HRb.out.below HD.out).at3 i (by rw [HK.out]; exact hi2)
    subst hA hA2
    obtain ⟨x, hx⟩ : ∃ x, l.getD i se0 = x := ⟨_, rfl⟩
    obtain ⟨y, hy⟩ : ∃ y, m.getD i se0 = y := ⟨_, rfl⟩
    rw [hx] at c0 c1 c2
    rw [hy] at d0 d1 d2
    have hne := run_neqESe x y
    obtain ⟨B, hB⟩ : ∃ B, decide (x = y) = B := ⟨_, rfl⟩
    rw [hB] at hne
    go_wp2
    refine wp_region_quiet_lit (by kernel_rfl) (by kernel_rfl) ?_
    repeat (first | go_big_quiet_step (fail) | quiet_step (fail))
    refine wpQuiet_nil ?_
    intro _ hw'
    obtain ⟨nq, hw''⟩ := hw'
    subst hw''
    have HD2 : Hid (Below w.heap.size w (wr.drewN nq)) := Below.drewN' HD.out
    cases B
    ·have HF := lhd (same_atSe l m i (by rw [hx, hy]; simpa using hB))
     clear hne
     go_wp2
     go_ret
     exact ⟨by rw [HF.out]; rfl, HD2.out⟩
    ·have HA2 : Hid (∀ j, j < i + 1 → l.getD j se0 = m.getD j se0) := by
      intro j hj
      by_cases h : j < i
      ·exact HA.out j h
      ·have : j = i := by omega
       subst this
       rw [hx, hy]
       simpa using hB
     clear hne
     go_wp2
     go_roundw
     case rel => exact ⟨i + 1, by omega, by go_num, HA2, HD2⟩
     case measure => simp [intOf]; omega
   ·have hE : i = n := by omega
    subst hE
    have HF := lhd (same_allSe l m (by rw [HN.out, HK.out]) (by rw [HN.out]; exact HA.out))
    go_wp2
    go_ret
    exact ⟨by rw [HF.out]; rfl, HD.out⟩
 ·have hz : ¬ (n : Int) = (k : Int) := by omega
  have hzb : ((n : Int) != (k : Int)) = true := by
   rw [bne_iff_ne]; exact hz
  have hzb2 : ((n : Int) == (k : Int)) = false := by
   rw [beq_eq_false_iff_ne]; exact hz
  have HF := lhd (same_lenSe l m (by rw [HN.out, HK.out]; exact hnk))
  clear hnk
  go_wp2
  go_ret
  exact ⟨by rw [HF.out]; rfl, Below.refl _ _⟩
theorem clone_anySe (l : List Se) (v : Value) (w : World) (hr : RdE SeK w.heap.size w v l) (hl : l.length ≤ 100000) : Calls Tryz.prog 87 #[v] w (OwnsE SeK 160 l w) := by
 obtain ⟨i1, hJ, hy0, hy1, hy2⟩ := infoPSe
 obtain ⟨A, cp, rfl, hc, hm⟩ := hr.shape
 unfold maxLen at hm
 cases A with
 | none =>
   obtain ⟨A', c', hv, _, _, hn, _⟩ := hr
   injection hv with q1 q2 q3
   subst q1 q3
   have h0 := hn rfl
   have h1 : l = [] := List.eq_nil_of_length_eq_zero (by omega)
   subst h1
   subst h0
   have he : ∀ w, (binOp .eql 42 (.slice none 0 0) (.slice none 0 0)).run Tryz.prog w = .ok (.bool true) w := fun _ => rfl
   go_enter Tryz.func87, Tryz.ntmps87
   go_wp2
   go_ret
   exact ⟨_, rfl, OwnE.nil _ _ _, Below.refl _ _⟩
 | some a =>
   have HR := lhd hr
   have HL := lhd hl
   obtain ⟨n, hn⟩ : ∃ n, l.length = n := ⟨_, rfl⟩
   rw [hn] at HR hc ⊢
   clear hr hl hn
   have he : ∀ w, (binOp .eql 42 (.slice (some a) n cp) (.slice none 0 0)).run Tryz.prog w = .ok (.bool false) w := fun _ => rfl
   have HO : Hid (OwnE SeK 160 (w.alloc (.cells #[] 160)) w.heap.size (.slice (some ⟨w.heap.size, 0, none⟩) 0 0) []) := OwnE.empty (E := SeK) 160 w w.heap.size (Nat.le_refl _)
   have HA : Hid (Below w.heap.size w (w.alloc (.cells #[] 160))) := (Below.refl _ _).alloc (Nat.le_refl _) _
   have HR2 := lhd (HR.out.below HA.out)
   go_enter Tryz.func87, Tryz.ntmps87
   go_wp2_with (at_builtin; refine wpList_appF (E := SeK) rfl _ _ 42 rfl 160 24 Tryz.underlying42 kindPSe w.heap.size _ _ _ [] l rfl HO.out rfl HR2.out ?d1 ?d2 ?d3 ?_)
   case d1 => have := HL.out; simp; omega
   case d2 => have := HL.out; simp; omega
   case d3 => simp
   intro v' w' h1 h2 h3
   have H1 := lhd h1
   have H2 := lhd (HA.out.trans h2)
   clear h1 h2 h3
   go_wp2
   go_ret
   exact ⟨_, rfl, H1.out, H2.out⟩
theorem erased_ownSe {e : TypeId} {W : World} {base g cap : Nat} {l : List Se} {i m : Nat} (hm : l.length = i + 1 + m) (h : OwnE SeK e W base (.slice (some ⟨g, 0, none⟩) (i + 1 + m) cap) l) :
 (∀ j u, (rowsE SeK (l.drop (i + 1)))[j]? = some u → W.cell? ⟨g, (i + 1) * 3 + j, none⟩ = some u) ∧ (∀ j, j < 3 * (i + 1 + m) → (W.cell? ⟨g, j, none⟩).isSome = true ∧ W.frozen? ⟨g, j, none⟩ = false) ∧
 OwnE SeK e ((W.setCells g (i * 3) (rowsE SeK (l.drop (i + 1)))).setCells g ((i + m) * 3) (sec se0)) base (.slice (some ⟨g, 0, none⟩) (i + m) cap) (l.eraseIdx i) ∧
 Below base W ((W.setCells g (i * 3) (rowsE SeK (l.drop (i + 1)))).setCells g ((i + m) * 3) (sec se0)) ∧
 (∀ j, j < 3 → ((W.setCells g (i * 3) (rowsE SeK (l.drop (i + 1)))).cell? ⟨g, (i + m) * 3 + j, none⟩).isSome = true ∧ (W.setCells g (i * 3) (rowsE SeK (l.drop (i + 1)))).frozen? ⟨g, (i + m) * 3 + j, none⟩ = false) := by
 obtain ⟨cur, hb, h2, h4, h5, h6, h7, hn⟩ := ownBlkSe h
 have hcl : cur.toList.length = cap * 3 := by rw [Array.length_toList, h6]
 have hnl : (rowsE SeK (l.drop (i + 1))).length = m * 3 := by rw [rwLenSe, List.length_drop, hm]; omega
 have hc1 : ∀ j, j < 3 * (i + 1 + m) → W.cell? ⟨g, j, none⟩ = (rowsE SeK l)[j]? := by
  intro j hj
  rw [hb.cell j, ← h7, List.getElem?_take, if_pos (by omega)]
 refine ⟨?_, ?_, ?_, below_setCellsE h2 _ _ _ (below_setCellsE h2 _ _ _ (Below.refl _ _)), ?_⟩
 ·intro j u hu
  have hj : j < m * 3 := by have := (List.getElem?_eq_some_iff.1 hu).1; rwa [hnl] at this
  rw [hc1 _ (by omega), ← hu]
  have := (rwCutSe l i (by omega)).2
  rw [show i * 3 + 3 = (i + 1) * 3 by omega] at this
  rw [← this, List.getElem?_drop]
 ·intro j hj
  rw [hc1 j hj, List.getElem?_eq_getElem (by rw [rwLenSe]; omega)]
  exact ⟨rfl, hb.frozen j⟩
 ·have b1 := hb.setCells (rowsE SeK (l.drop (i + 1))) (i * 3) (by rw [hnl, hcl]; omega)
  have hx : (sec se0).length = 3 := rfl
  have hel : (l.eraseIdx i).length = i + m := by rw [List.length_eraseIdx, if_pos (by omega)]; omega
  have t1 := writtenE_more cur.toList (rowsE SeK (l.drop (i + 1))) (i * 3) (by rw [hnl, hcl]; omega)
  have t2 := writtenE_len cur.toList (rowsE SeK (l.drop (i + 1))) (i * 3) (by rw [hnl, hcl]; omega)
  rw [hnl, show i * 3 + m * 3 = (i + m) * 3 by omega] at t1
  have t3 : cur.toList.take (i * 3) ++ rowsE SeK (l.drop (i + 1)) = rowsE SeK (l.eraseIdx i) := by
   rw [eraseE_rows l i]
   congr 1
   rw [← (rwCutSe l i (by omega)).1, ← h7, List.take_take, Nat.min_eq_left (by omega)]
  rw [t3] at t1
  rw [hnl] at t2 b1
  rw [show i * 3 + m * 3 = (i + m) * 3 by omega] at t2 b1
  obtain ⟨C1, hC1⟩ : ∃ C, cur.toList.take (i * 3) ++ (rowsE SeK (l.drop (i + 1)) ++ cur.toList.drop ((i + m) * 3)) = C := ⟨_, rfl⟩
  rw [hC1] at t1 t2 b1
  rw [hcl] at t2
  have b2 := b1.setCells (sec se0) ((i + m) * 3) (by rw [hx, t2]; omega)
  have t4 := (writtenE_take C1 (sec se0) ((i + m) * 3) (by rw [t2]; omega)).trans t1
  have t5 := writtenE_len C1 (sec se0) ((i + m) * 3) (by rw [hx, t2]; omega)
  rw [t2] at t5
  obtain ⟨C2, hC2⟩ : ∃ C, C1.take ((i + m) * 3) ++ (sec se0 ++ C1.drop ((i + m) * 3 + (sec se0).length)) = C := ⟨_, rfl⟩
  rw [hC2] at t4 t5 b2
  have := OwnE.of (E := SeK) (e := e) (base := base) (cap := cap) (l := l.eraseIdx i) C2 b2 h2 (by rw [hel]; omega) h5 t5 (by rw [hel]; exact t4)
  rw [hel] at this
  exact this
 ·intro j hj
  have b1 := hb.setCells (rowsE SeK (l.drop (i + 1))) (i * 3) (by rw [hnl, hcl]; omega)
  have t2 := writtenE_len cur.toList (rowsE SeK (l.drop (i + 1))) (i * 3) (by rw [hnl, hcl]; omega)
  rw [hcl] at t2
  obtain ⟨C1, hC1⟩ : ∃ C, cur.toList.take (i * 3) ++ (rowsE SeK (l.drop (i + 1)) ++ cur.toList.drop (i * 3 + (rowsE SeK (l.drop (i + 1))).length)) = C := ⟨_, rfl⟩
  rw [hC1] at b1 t2
  rw [b1.cell, List.getElem?_eq_getElem (by rw [t2]; omega)]
  exact ⟨rfl, b1.frozen _⟩
theorem delE_anySe (l : List Se) (i base : Nat) (u : Value) (W : World) (ho : OwnE SeK 160 W base u l) (hi : i < l.length) :
 Calls Tryz.prog 223 #[u, .int .i64 (i : Int), .int .i64 ((i : Int) + 1)] W (EditsE SeK 160 u base (l.eraseIdx i) W) := by
 obtain ⟨i1, hJ, hy0, hy1, hy2⟩ := infoPSe
 obtain ⟨g, cap, rfl, hcap, hbg, hgW⟩ := ho.inBlock (by omega)
 obtain ⟨m, hm⟩ : ∃ m, l.length = i + 1 + m := ⟨l.length - (i + 1), by omega⟩
 have hcm : cap ≤ maxLen := by
  obtain ⟨_, _, _, _, h5, _⟩ := ownBlkSe ho
  exact h5
 unfold maxLen at hcm
 rw [hm] at hcap ho ⊢
 obtain ⟨q1, q2, q3, q4, q5⟩ := erased_ownSe (W := W.drew) hm ho
 have hnl : (rowsE SeK (l.drop (i + 1))).length = m * 3 := by rw [rwLenSe, List.length_drop, hm]; omega
 obtain ⟨news, hnews⟩ : ∃ news, rowsE SeK (l.drop (i + 1)) = news := ⟨_, rfl⟩
 have h1c : ∀ v ∈ news, v.oneCell' = true := by rw [← hnews]; exact rowsE_cell SeK _
 rw [hnews] at q1 q3 q4 q5 hnl
 have Q1 := lhd q1
 have Q2 := lhd q2
 have Q3 := lhd q3
 have Q4 := lhd q4
 have Q5 := lhd q5
 have HC := lhd h1c
 have HNL := lhd hnl
 clear q1 q2 q3 q4 q5 h1c hnl hnews ho hm hi
 have w1 : IntKind.i64.wrap ((i : Int) + 1) = (i : Int) + 1 := by rw [IntKind.wrap_i64]; omega
 have z1 : ¬ ((i : Int) = (i : Int) + 1) := by omega
 go_enter Tryz.func223, Tryz.ntmps223
 go_wp2
 by_cases hci : cap = i + 1
 ·subst hci
  have HM0 : Hid (m = 0) := by
   show _ = _
   omega
  have q3 := Q3.out
  have q4 := Q4.out
  have q5 := Q5.out
  rw [HM0.out, Nat.add_zero] at q3 q4 q5
  have Q3b := lhd q3
  have Q4b := lhd q4
  have Q5b := lhd q5
  clear q3 q4 q5
  have hj9 : i + 1 + m - i = 1 := by have := HM0.out; omega
  have hi0 : (i : Int) ≤ (i : Int) + 1 := by omega
  have hic : ¬ ((i + 1) = i) := by omega
  have hi1 : i ≤ (i + 1) := by omega
  have hi2 : i + 1 ≤ i + 1 + m := by omega
  have hi3 : i + 1 ≤ (i + 1) := by omega
  have hi4 : (i : Int) + 1 ≤ (i : Int) + 1 + (m : Int) := by omega
  have hi5 : (0 : Int) ≤ (i : Int) + 1 := by omega
  have hi6 : ((i : Int) + 1).toNat = i + 1 := by omega
  go_region_law (refine step_append_room rfl (.tmp 22) (.tmp 25) 42 rfl 160 i1 3 Tryz.underlying42 hJ hy1 g 0 i (i + 1) (by simp [Act.eval, Act.put]) ⟨g, 0, none⟩ 0 0 news (by simp [Act.eval, Act.put]) (by rw [HNL.out, HM0.out]) (fun j u hj => by have h := (List.getElem?_eq_some_iff.1 hj).1; rw [HNL.out, HM0.out] at h; omega) HC.out (by omega) (fun j hj => by rw [HNL.out] at hj; rw [Nat.zero_add]; exact Q2.out _ (by omega)) ?_)
  have hj1 : (i : Int) + (m : Int) ≤ (i : Int) + 1 + (m : Int) := by omega
  have hj2 : ¬ ((i + 1) = i + m) := by omega
  have hj3 : (0 : Int) ≤ (i : Int) + (m : Int) := by omega
  have hj4 : ((i : Int) + (m : Int)).toNat = i + m := by omega
  have hj5 : ((i : Int) + 1 + (m : Int)).toNat = i + 1 + m := by omega
  have hj6 : i + 1 + m - (i + m) = 1 := by omega
  have hj7 : i + m ≤ (i + 1) := by omega
  have hj8 : i + 1 + m ≤ (i + 1) := by omega
  go_wp2_with (refine wpList_clearE_run rfl _ 42 rfl _ rfl (run_clearESe _ 42 160 _ i1 Tryz.underlying42 hJ hy0 g (i * 3) _ Q5b.out) ?_)
  go_wp2
  go_ret
  exact ⟨_, rfl, Q3b.out, ((Below.refl _ _).drew).trans Q4b.out, fun k _ hk => by rw [setCells_otherE g _ _ _ k (fun e => hk (by rw [e]; rfl)), setCells_otherE g _ _ _ k (fun e => hk (by rw [e]; rfl))]; rfl⟩
 ·skip
  have hic : ¬ (cap = i) := by omega
  have hi1 : i ≤ cap := by omega
  have hi2 : i + 1 ≤ i + 1 + m := by omega
  have hi3 : i + 1 ≤ cap := by omega
  have hi4 : (i : Int) + 1 ≤ (i : Int) + 1 + (m : Int) := by omega
  have hi5 : (0 : Int) ≤ (i : Int) + 1 := by omega
  have hi6 : ((i : Int) + 1).toNat = i + 1 := by omega
  go_region_law (refine step_append_room rfl (.tmp 22) (.tmp 25) 42 rfl 160 i1 3 Tryz.underlying42 hJ hy1 g 0 i cap (by simp [Act.eval, Act.put]) ⟨g, (i + 1) * 3, none⟩ m (cap - (i + 1)) news (by simp [Act.eval, Act.put]) HNL.out (fun j u hj => by rw [Addr.add_lit]; exact Q1.out j u hj) HC.out (by omega) (fun j hj => by rw [HNL.out] at hj; rw [Nat.zero_add]; exact Q2.out _ (by omega)) ?_)
  have hj1 : (i : Int) + (m : Int) ≤ (i : Int) + 1 + (m : Int) := by omega
  have hj2 : ¬ (cap = i + m) := by omega
  have hj3 : (0 : Int) ≤ (i : Int) + (m : Int) := by omega
  have hj4 : ((i : Int) + (m : Int)).toNat = i + m := by omega
  have hj5 : ((i : Int) + 1 + (m : Int)).toNat = i + 1 + m := by omega
  have hj6 : i + 1 + m - (i + m) = 1 := by omega
  have hj7 : i + m ≤ cap := by omega
  have hj8 : i + 1 + m ≤ cap := by omega
  go_wp2_with (refine wpList_clearE_run rfl _ 42 rfl _ rfl (run_clearESe _ 42 160 _ i1 Tryz.underlying42 hJ hy0 g ((i + m) * 3) _ Q5.out) ?_)
  go_wp2
  go_ret
  exact ⟨_, rfl, Q3.out, ((Below.refl _ _).drew).trans Q4.out, fun k _ hk => by rw [setCells_otherE g _ _ _ k (fun e => hk (by rw [e]; rfl)), setCells_otherE g _ _ _ k (fun e => hk (by rw [e]; rfl))]; rfl⟩
end Go.Proofs.YtgfobinklijkpaaGreatDoor
