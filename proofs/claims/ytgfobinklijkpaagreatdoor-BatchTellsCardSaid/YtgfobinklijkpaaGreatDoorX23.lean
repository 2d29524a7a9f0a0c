/-
  Texts IL0 IL2 IL3 IM0 JG JH JK.
-/
import Derived.Test.YtgfobinklijkpaaGreatDoorX01
import Derived.Laws.StructEq
import Derived.Test.YtgfobinklijkpaaGreatDoorX09
import Derived.Test.YtgfobinklijkpaaGreatDoorX10
import Derived.Test.YtgfobinklijkpaaGreatDoorX22
namespace Go.Proofs.YtgfobinklijkpaaGreatDoor
set_option maxRecDepth 100000
set_option maxHeartbeats 16000000
open Go.RowKit
abbrev zRv : Value := .agg (rvc rv0).toArray
theorem infoQRv : (Tryz.prog.info? 79).map (fun i => (i.zero, i.size, i.bytes)) = some (some zRv, 6, 72) := by kernel_rfl
theorem infoPRv : ∃ i, Tryz.prog.info? 79 = some i ∧ i.zero = some zRv ∧ i.size = 6 ∧ i.bytes = 72 := by
 have h := infoQRv
 cases hi : Tryz.prog.info? 79 with
 | none => rw [hi] at h; simp at h
 | some i =>
   rw [hi] at h
   simp at h
   exact ⟨i, rfl, h.1, h.2.1, h.2.2⟩
theorem kindPRv : KindOf Tryz.prog 79 RvK 72 := kind_of (z := zRv) (by kernel_rfl) rfl
theorem sizeRv : (Tryz.prog.info? 79).map (·.size) = some 6 := by kernel_rfl
theorem rwLenRv (l : List RpV) : (rowsE RvK l).length = l.length * 6 := rowsE_length RvK l
theorem rwCutRv (l : List RpV) (i : Nat) (hi : i < l.length) : (rowsE RvK l).take (i * 6) = rowsE RvK (l.take i) ∧ (rowsE RvK l).drop (i * 6 + 6) = rowsE RvK (l.drop (i + 1)) := rowsE_cut (E := RvK) l i hi
theorem ownBlkRv {e : TypeId} {w : World} {base n cap g : Nat} {l : List RpV} (h : OwnE RvK e w base (.slice (some ⟨g, 0, none⟩) n cap) l) : ∃ cur : Array Value, Blk w g cur.toList e ∧ base ≤ g ∧ l.length ≤ cap ∧ cap ≤ maxLen ∧ cur.size = cap * 6 ∧ cur.toList.take (l.length * 6) = rowsE RvK l ∧ n = l.length := h.block
theorem insRRv (l : List RpV) (x : RpV) (m : Nat) : rowsE RvK (insE l x m) = rowsE RvK (l.take m) ++ (rvc x ++ rowsE RvK (l.drop m)) := insE_rows l x m
theorem run_copyERv (w : World) (dT sT ty elem : TypeId) (b o dLen dCap : Nat) (a : Addr) (sLen sCap : Nat) (cs : List Value)
 (hu : Tryz.prog.underlying dT = some (.slice elem)) (hs : (Tryz.prog.info? elem).map (·.size) = some 6) (hn : cs.length = Nat.min sLen dLen * 6)
 (hsrc : ∀ j v, cs[j]? = some v → w.cell? (a.add j) = some v) (hc : ∀ j, j < cs.length → (w.cell? ⟨b, o + j, none⟩).isSome = true ∧ w.frozen? ⟨b, o + j, none⟩ = false) (h1 : ∀ v ∈ cs, v.oneCell' = true) :
 (Builtin.copy_ #[dT, sT] ty #[.slice (some ⟨b, o, none⟩) dLen dCap, .slice (some a) sLen sCap]).run Tryz.prog w = .ok (goInt (Nat.min sLen dLen)) (w.setCells b o cs) := run_copy_rowE w dT sT ty elem 6 b o dLen dCap a sLen sCap cs hu hs hn hsrc hc h1
theorem clone_anyRv (l : List RpV) (v : Value) (w : World) (hr : RdE RvK w.heap.size w v l) (hl : l.length ≤ 100000) : Calls Tryz.prog 89 #[v] w (OwnsE RvK 79 l w) := by
 obtain ⟨i1, hJ, hy0, hy1, hy2⟩ := infoPRv
 obtain ⟨A, cp, rfl, hc, hm⟩ := hr.shape
 unfold maxLen at hm
 cases A with
 | none =>
   obtain ⟨A', c', hv, _, _, hn, _⟩ := hr
   injection hv with q1 q2 q3
   subst q1 q3
   have h0 := hn rfl
   have h1 : l = [] := List.eq_nil_of_length_eq_zero (by omega)
   subst h1
   subst h0
   have he : ∀ w, (binOp .eql 48 (.slice none 0 0) (.slice none 0 0)).run Tryz.prog w = .ok (.bool true) w := fun _ => rfl
   go_enter Tryz.func89, Tryz.ntmps89
   go_wp2
   go_ret
   exact ⟨_, rfl, OwnE.nil _ _ _, Below.refl _ _⟩
 | some a =>
   have HR := lhd hr
   have HL := lhd hl
   obtain ⟨n, hn⟩ : ∃ n, l.length = n := ⟨_, rfl⟩
   rw [hn] at HR hc ⊢
   clear hr hl hn
   have he : ∀ w, (binOp .eql 48 (.slice (some a) n cp) (.slice none 0 0)).run Tryz.prog w = .ok (.bool false) w := fun _ => rfl
   have HO : Hid (OwnE RvK 79 (w.alloc (.cells #[] 79)) w.heap.size (.slice (some ⟨w.heap.size, 0, none⟩) 0 0) []) := OwnE.empty (E := RvK) 79 w w.heap.size (Nat.le_refl _)
   have HA : Hid (Below w.heap.size w (w.alloc (.cells #[] 79))) := (Below.refl _ _).alloc (Nat.le_refl _) _
   have HR2 := lhd (HR.out.below HA.out)
   go_enter Tryz.func89, Tryz.ntmps89
   go_wp2_with (at_builtin; refine wpList_appF (E := RvK) rfl _ _ 48 rfl 79 72 Tryz.underlying48 kindPRv w.heap.size _ _ _ [] l rfl HO.out rfl HR2.out ?d1 ?d2 ?d3 ?_)
   case d1 => have := HL.out; simp; omega
   case d2 => have := HL.out; simp; omega
   case d3 => simp
   intro v' w' h1 h2 h3
   have H1 := lhd h1
   have H2 := lhd (HA.out.trans h2)
   clear h1 h2 h3
   go_wp2
   go_ret
   exact ⟨_, rfl, H1.out, H2.out⟩
theorem ins_row1Rv (C : List Value) (l : List RpV) (x : RpV) (m cap : Nat) (hC : C.length = cap * 6) (hr : l.length + 1 ≤ cap) (hm : m ≤ l.length) (h : C.take (m * 6) = rowsE RvK (l.take m)) (C1 C2 : List Value)
 (e1 : C1 = C.take (m * 6) ++ (rvc x ++ C.drop (m * 6 + (rvc x).length))) (e2 : C2 = C1.take ((m + 1) * 6) ++ (rowsE RvK (l.drop m) ++ C1.drop ((m + 1) * 6 + (rowsE RvK (l.drop m)).length))) :
 C1.length = cap * 6 ∧ C2.length = cap * 6 ∧ C2.take ((l.length + 1) * 6) = rowsE RvK (insE l x m) := by
 have hx : (rvc x).length = 6 := rfl
 have hd : (rowsE RvK (l.drop m)).length = (l.length - m) * 6 := by rw [rwLenRv, List.length_drop]
 have l1 : C1.length = cap * 6 := by rw [e1, writtenE_len C (rvc x) (m * 6) (by rw [hx, hC]; omega), hC]
 have l2 : C2.length = cap * 6 := by rw [e2, writtenE_len C1 _ ((m + 1) * 6) (by rw [hd, l1]; omega), l1]
 refine ⟨l1, l2, ?_⟩
 have t1 := writtenE_more C (rvc x) (m * 6) (by rw [hx, hC]; omega)
 rw [← e1, hx, show m * 6 + 6 = (m + 1) * 6 by omega, h] at t1
 have t2 := writtenE_more C1 (rowsE RvK (l.drop m)) ((m + 1) * 6) (by rw [hd, l1]; omega)
 rw [← e2, hd, t1, show (m + 1) * 6 + (l.length - m) * 6 = (l.length + 1) * 6 by omega] at t2
 rw [t2, insRRv, List.append_assoc]
theorem ins_row2Rv (C : List Value) (l : List RpV) (x : RpV) (m cap : Nat) (hC : C.length = cap * 6) (hr : l.length + 1 ≤ cap) (hm : m ≤ l.length) (h : C.take (m * 6) = rowsE RvK (l.take m)) (C1 C2 : List Value)
 (e1 : C1 = C.take ((m + 1) * 6) ++ (rowsE RvK (l.drop m) ++ C.drop ((m + 1) * 6 + (rowsE RvK (l.drop m)).length))) (e2 : C2 = C1.take (m * 6) ++ (rvc x ++ C1.drop (m * 6 + (rvc x).length))) :
 C1.length = cap * 6 ∧ C2.length = cap * 6 ∧ C2.take ((l.length + 1) * 6) = rowsE RvK (insE l x m) := by
 have hx : (rvc x).length = 6 := rfl
 have hd : (rowsE RvK (l.drop m)).length = (l.length - m) * 6 := by rw [rwLenRv, List.length_drop]
 have l1 : C1.length = cap * 6 := by rw [e1, writtenE_len C _ ((m + 1) * 6) (by rw [hd, hC]; omega), hC]
 have l2 : C2.length = cap * 6 := by rw [e2, writtenE_len C1 (rvc x) (m * 6) (by rw [hx, l1]; omega), l1]
 refine ⟨l1, l2, ?_⟩
 have t1 := writtenE_more C (rowsE RvK (l.drop m)) ((m + 1) * 6) (by rw [hd, hC]; omega)
 rw [← e1, hd] at t1
 have t0 : C1.take (m * 6) = rowsE RvK (l.take m) := by
  have := congrArg (List.take (m * 6)) t1
  rw [List.take_take, Nat.min_eq_left (by omega), List.take_append_of_le_length (by rw [List.length_take]; omega), List.take_take, Nat.min_eq_left (by omega), h] at this
  exact this
 have t3 : (C1.drop (m * 6 + 6)).take ((l.length - m) * 6) = rowsE RvK (l.drop m) := by
  have := congrArg (List.drop ((m + 1) * 6)) t1
  rw [List.drop_take, List.drop_left' (by rw [List.length_take]; omega)] at this
  rw [show (m + 1) * 6 + (l.length - m) * 6 - (m + 1) * 6 = (l.length - m) * 6 by omega, show (m + 1) * 6 = m * 6 + 6 by omega] at this
  exact this
 rw [e2, t0, insRRv, hx]
 have hl0 : (rowsE RvK (l.take m)).length = m * 6 := by rw [rwLenRv, List.length_take]; omega
 rw [show (l.length + 1) * 6 = (rowsE RvK (l.take m)).length + (rvc x).length + (l.length - m) * 6 by rw [hl0, hx]; omega, takeE3, t3]
theorem insEnd_anyRv (l : List RpV) (x : RpV) (base gv : Nat) (u : Value) (W : World) (hB : base ≤ W.heap.size) (ho : OwnE RvK 79 W base u l) (hl : l.length ≤ 100000) (hv : Blk W gv (rvc x) 79) :
 Calls Tryz.prog 161 #[u, .int .i64 (l.length : Int), .slice (some ⟨gv, 0, none⟩) 1 1] W (EditsE RvK 79 u base (insE l x l.length) W) := by
 obtain ⟨i1, hJ, hy0, hy1, hy2⟩ := infoPRv
 obtain ⟨A, cp, rfl, hc, hm⟩ := ho.rd.shape
 unfold maxLen at hm
 have HO := lhd ho
 have HL := lhd hl
 have HV := lhd hv
 have hR := RdE.ofBlk (E := RvK) hv
 have HR := lhd hR
 have HE : Hid (insE l x l.length = l ++ [x]) := by
  show _ = _
  unfold insE
  rw [List.take_length, List.drop_length]
 obtain ⟨n, hn⟩ : ∃ n, l.length = n := ⟨_, rfl⟩
 have HN := lhd hn
 obtain ⟨L, hL⟩ : ∃ L, insE l x l.length = L := ⟨_, rfl⟩
 rw [hL] at HE ⊢
 rw [hn] at HO HL hc ⊢
 clear ho hl hv hR hn hL
 go_enter Tryz.func161, Tryz.ntmps161
 go_wp2_with (at_builtin; refine wpList_appF (E := RvK) rfl _ _ 48 rfl 79 72 Tryz.underlying48 kindPRv base _ _ _ l [x] rfl HO.out rfl HR.out (by have := HL.out; have := HN.out; simp only [List.length_cons, List.length_nil]; omega) (by have := HL.out; have := HN.out; simp only [List.length_cons, List.length_nil]; omega) hB ?_)
 all_goals
  intro v' w' h1 h2 h3
  have H1 := lhd h1
  have H2 := lhd h2
  have H3 := lhd h3
  clear h1 h2 h3
  go_wp2
  go_ret
  rw [HE.out]
  exact ⟨_, rfl, H1.out, H2.out, fun k hk hu => H3.out.block k hk (fun e => hu (by cases A <;> first | exact e.symm | simpa [Value.ownBlock] using e.symm))⟩
theorem ins_roomRv {e : TypeId} {W : World} {base g cap m : Nat} {l : List RpV} (x : RpV) (h : OwnE RvK e W base (.slice (some ⟨g, 0, none⟩) l.length cap) l) (hm : m < l.length) (hr : l.length + 1 ≤ cap) :
 (∀ j u, (rowsE RvK (l.drop m))[j]? = some u → W.cell? ⟨g, m * 6 + j, none⟩ = some u) ∧
 (∀ j, j < (l.length - m) * 6 → (W.cell? ⟨g, (m + 1) * 6 + j, none⟩).isSome = true ∧ W.frozen? ⟨g, (m + 1) * 6 + j, none⟩ = false) ∧
 (∀ j, j < 6 → ((W.setCells g ((m + 1) * 6) (rowsE RvK (l.drop m))).cell? ⟨g, m * 6 + j, none⟩).isSome = true ∧ (W.setCells g ((m + 1) * 6) (rowsE RvK (l.drop m))).frozen? ⟨g, m * 6 + j, none⟩ = false) ∧
 OwnE RvK e ((W.setCells g ((m + 1) * 6) (rowsE RvK (l.drop m))).setCells g (m * 6) (rvc x)) base (.slice (some ⟨g, 0, none⟩) (l.length + 1) cap) (insE l x m) ∧
 Below base W ((W.setCells g ((m + 1) * 6) (rowsE RvK (l.drop m))).setCells g (m * 6) (rvc x)) ∧ W.shape? g = some (e, cap * 6) := by
 obtain ⟨cur, hb, h2, h4, h5, h6, h7, hn⟩ := ownBlkRv h
 have hcl : cur.toList.length = cap * 6 := by rw [Array.length_toList, h6]
 have hnl : (rowsE RvK (l.drop m)).length = (l.length - m) * 6 := by rw [rwLenRv, List.length_drop]
 have hx : (rvc x).length = 6 := rfl
 have h0 : cur.toList.take (m * 6) = rowsE RvK (l.take m) := by
  rw [← (rwCutRv l m hm).1, ← h7, List.take_take, Nat.min_eq_left (by omega)]
 have b1 := hb.setCells (rowsE RvK (l.drop m)) ((m + 1) * 6) (by rw [hnl, hcl]; omega)
 obtain ⟨C1, hC1⟩ : ∃ C, cur.toList.take ((m + 1) * 6) ++ (rowsE RvK (l.drop m) ++ cur.toList.drop ((m + 1) * 6 + (rowsE RvK (l.drop m)).length)) = C := ⟨_, rfl⟩
 rw [hC1] at b1
 have r1 := ins_row2Rv cur.toList l x m cap hcl hr (by omega) h0 C1 _ hC1.symm rfl
 have b2 := b1.setCells (rvc x) (m * 6) (by rw [hx, r1.1]; omega)
 obtain ⟨C2, hC2⟩ : ∃ C, C1.take (m * 6) ++ (rvc x ++ C1.drop (m * 6 + (rvc x).length)) = C := ⟨_, rfl⟩
 rw [hC2] at b2
 have r2 := ins_row2Rv cur.toList l x m cap hcl hr (by omega) h0 C1 C2 hC1.symm hC2.symm
 refine ⟨?_, ?_, ?_, ?_, below_setCellsE h2 _ _ _ (below_setCellsE h2 _ _ _ (Below.refl _ _)), ?_⟩
 ·intro j u hu
  have hj : j < (l.length - m) * 6 := by have := (List.getElem?_eq_some_iff.1 hu).1; rwa [hnl] at this
  have e0 : rowsE RvK l = rowsE RvK (l.take m) ++ rowsE RvK (l.drop m) := by rw [← rowsE_append, List.take_append_drop]
  have hl0 : (rowsE RvK (l.take m)).length = m * 6 := by rw [rwLenRv, List.length_take]; omega
  have : (cur.toList.take (l.length * 6))[m * 6 + j]? = some u := by
   rw [h7, e0, List.getElem?_append_right (by omega), hl0, Nat.add_sub_cancel_left]
   exact hu
  rw [List.getElem?_take, if_pos (by omega)] at this
  exact (hb.cell _).trans this
 ·intro j hj
  rw [hb.cell, List.getElem?_eq_getElem (by rw [hcl]; omega)]
  exact ⟨rfl, hb.frozen _⟩
 ·intro j hj
  rw [b1.cell, List.getElem?_eq_getElem (by rw [r1.1]; omega)]
  exact ⟨rfl, b1.frozen _⟩
 ·have := OwnE.of (E := RvK) (e := e) (base := base) (cap := cap) (l := insE l x m) C2 b2 h2 (by rw [insE_len l x m (by omega)]; exact hr) h5 r2.2.1 (by rw [insE_len l x m (by omega)]; exact r2.2.2)
  rw [insE_len l x m (by omega)] at this
  exact this
 ·have := shapeE_blk hb
  rw [hcl] at this
  exact this
theorem insRoom_anyRv (l : List RpV) (x : RpV) (m base gv g cap : Nat) (W : World) (ho : OwnE RvK 79 W base (.slice (some ⟨g, 0, none⟩) l.length cap) l) (hl : l.length ≤ 100000) (hv : Blk W gv (rvc x) 79) (hne : gv ≠ g) (hm : m < l.length) (hr : l.length + 1 ≤ cap) (_hcm : cap ≤ 9223372036854775807) :
 Calls Tryz.prog 161 #[.slice (some ⟨g, 0, none⟩) l.length cap, .int .i64 (m : Int), .slice (some ⟨gv, 0, none⟩) 1 1] W (EditsE RvK 79 (.slice (some ⟨g, 0, none⟩) l.length cap) base (insE l x m) W) := by
 obtain ⟨i1, hJ, hy0, hy1, hy2⟩ := infoPRv
 obtain ⟨q1, q2, q3, q4, q5, q6⟩ := ins_roomRv (W := W.drew) x ho hm hr
 have hnl : (rowsE RvK (l.drop m)).length = (l.length - m) * 6 := by rw [rwLenRv, List.length_drop]
 obtain ⟨n, hn⟩ : ∃ n, l.length = n := ⟨_, rfl⟩
 obtain ⟨tl, htl⟩ : ∃ t, rowsE RvK (l.drop m) = t := ⟨_, rfl⟩
 have h1t : ∀ v ∈ tl, v.oneCell' = true := by rw [← htl]; exact rowsE_cell RvK _
 rw [hn] at q2 q4 hnl hm hr hl ⊢
 rw [htl] at q1 q3 q4 q5 hnl
 have hov : ∀ lb cb, (callFunc 193 #[.slice (some ⟨gv, 0, none⟩) 1 1, .slice (some ⟨g, (m + 1) * 6, none⟩) lb cb]).run Tryz.prog W = .ok (.value (.bool false)) W := fun lb cb => by
  rw [run_callFunc_extern Tryz.func193 (by kernel_rfl) (by kernel_rfl) (by kernel_rfl) (e := Extern.SlicesOverlaps.overlaps #[48, 48] #[4]) (by kernel_rfl),
   Lib.run_overlaps_apart W 48 4 79 Tryz.underlying48 6 Tryz.sizeOf79 ⟨gv, 0, none⟩ ⟨g, (m + 1) * 6, none⟩ 1 1 lb cb hne 79 79 6 (cap * 6) (shapeE_blk hv) q6 (by omega) (hv.frozen 0) (hv.frozen 6)]
  rfl
 have hcp1 : ∀ ty dl dc sl sc, Nat.min sl dl = n - m → (Builtin.copy_ #[48, 48] ty #[.slice (some ⟨g, (m + 1) * 6, none⟩) dl dc, .slice (some ⟨g, m * 6, none⟩) sl sc]).run Tryz.prog W.drew = .ok (goInt (Nat.min sl dl)) (W.drew.setCells g ((m + 1) * 6) tl) := fun ty dl dc sl sc hmn =>
  run_copyERv W.drew _ _ ty 79 g ((m + 1) * 6) dl dc ⟨g, m * 6, none⟩ sl sc tl Tryz.underlying48 sizeRv (by rw [hnl, hmn]) (fun j v hj => by rw [Addr.add_lit]; exact q1 j v hj) (fun j hj => q2 j (by rwa [hnl] at hj)) h1t
 have hvx : ∀ j v, (rvc x)[j]? = some v → (W.drew.setCells g ((m + 1) * 6) tl).cell? ⟨gv, j, none⟩ = some v := fun j v hj => by
  rw [World.cell?_setCells_out g _ _ _ _ (fun h => absurd h hne)]
  exact (hv.cell j).trans hj
 have hcp2 : ∀ ty dl dc, 1 ≤ dl → (Builtin.copy_ #[48, 48] ty #[.slice (some ⟨g, m * 6, none⟩) dl dc, .slice (some ⟨gv, 0, none⟩) 1 1]).run Tryz.prog (W.drew.setCells g ((m + 1) * 6) tl) = .ok (goInt (Nat.min 1 dl)) ((W.drew.setCells g ((m + 1) * 6) tl).setCells g (m * 6) (rvc x)) := fun ty dl dc hd =>
  run_copyERv _ _ _ ty 79 g (m * 6) dl dc ⟨gv, 0, none⟩ 1 1 (rvc x) Tryz.underlying48 sizeRv (by rw [show Nat.min 1 dl = 1 from Nat.min_eq_left hd]; rfl) (fun j v hj => by rw [Addr.add_lit, Nat.zero_add]; exact hvx j v hj) q3 (fun v hv => rowsE_cell RvK [x] v (by rw [rowsE_one]; exact hv))
 have HC1 := lhd hcp1
 have HC2 := lhd hcp2
 have HO := lhd q4
 have HB := lhd (((Below.refl base W).drew).trans q5)
 obtain ⟨L, hL⟩ : ∃ L, insE l x m = L := ⟨_, rfl⟩
 rw [hL] at HO ⊢
 clear hcp1 hcp2 q1 q2 q3 q4 q5 q6 hvx h1t hnl htl hn ho hv hL
 have w1 : IntKind.i64.wrap ((m : Int) + 1) = (m : Int) + 1 := by rw [IntKind.wrap_i64]; omega
 have w2 : IntKind.i64.wrap ((n : Int) + 1) = (n : Int) + 1 := by rw [IntKind.wrap_i64]; omega
 have z2 : ¬ ((m : Int) = (n : Int)) := by omega
 have z3 : ¬ ((cap : Int) < (n : Int) + 1) := by omega
 have b1 : (0 : Int) ≤ (m : Int) + 1 := by omega
 have b2 : ((m : Int) + 1).toNat = m + 1 := by omega
 have b3 : (m : Int) ≤ (n : Int) := by omega
 have b4 : ¬ (cap = m) := by omega
 have b5 : ¬ (cap = m + 1) := by omega
 have b6 : ((n : Int) + 1).toNat = n + 1 := by omega
 have b7 : (m : Int) ≤ (n : Int) + 1 := by omega
 have b8 : (m : Int) + 1 ≤ (n : Int) + 1 := by omega
 have b9 : n + 1 ≤ cap := by omega
 go_enter Tryz.func161, Tryz.ntmps161
 go_wp2_with (simp only [hov])
 go_region_law (refine step_copyE_run rfl _ _ 48 48 rfl (.slice (some ⟨g, (m + 1) * 6, none⟩) (n - m) (cap - (m + 1))) (.slice (some ⟨g, m * 6, none⟩) (n + 1 - m) (cap - m)) (by simp [Act.eval, Act.put]) (by simp [Act.eval, Act.put]) (HC1.out _ (n - m) (cap - (m + 1)) (n + 1 - m) (cap - m) (by simp only [Nat.min_def]; split <;> omega)) ?_)
 go_wp2_with (refine wpList_copyE_run rfl _ _ 48 48 rfl _ _ rfl rfl (HC2.out _ (n + 1 - m) (cap - m) (by omega)) ?_)
 go_ret
 exact ⟨_, rfl, HO.out, HB.out, fun k _ hk => by rw [setCells_otherE g _ _ _ k (fun e => hk (by rw [e]; rfl)), setCells_otherE g _ _ _ k (fun e => hk (by rw [e]; rfl))]; rfl⟩
theorem ins_growRv {e : TypeId} {V : World} {base N G m : Nat} {l : List RpV} (x : RpV) (C : List Value) (hb : Blk V N C e) (hC : C.length = G * 6) (h0 : C.take (m * 6) = rowsE RvK (l.take m)) (hbN : base ≤ N) (hG : G ≤ maxLen) (hm : m < l.length) (hr : l.length + 1 ≤ G) :
 (∀ j, j < 6 → (V.cell? ⟨N, m * 6 + j, none⟩).isSome = true ∧ V.frozen? ⟨N, m * 6 + j, none⟩ = false) ∧
 (∀ j, j < (l.length - m) * 6 → ((V.setCells N (m * 6) (rvc x)).cell? ⟨N, (m + 1) * 6 + j, none⟩).isSome = true ∧ (V.setCells N (m * 6) (rvc x)).frozen? ⟨N, (m + 1) * 6 + j, none⟩ = false) ∧
 OwnE RvK e ((V.setCells N (m * 6) (rvc x)).setCells N ((m + 1) * 6) (rowsE RvK (l.drop m))) base (.slice (some ⟨N, 0, none⟩) (l.length + 1) G) (insE l x m) ∧
 Below N V ((V.setCells N (m * 6) (rvc x)).setCells N ((m + 1) * 6) (rowsE RvK (l.drop m))) := by
 have hnl : (rowsE RvK (l.drop m)).length = (l.length - m) * 6 := by rw [rwLenRv, List.length_drop]
 have hx : (rvc x).length = 6 := rfl
 have b1 := hb.setCells (rvc x) (m * 6) (by rw [hx, hC]; omega)
 obtain ⟨C1, hC1⟩ : ∃ D, C.take (m * 6) ++ (rvc x ++ C.drop (m * 6 + (rvc x).length)) = D := ⟨_, rfl⟩
 rw [hC1] at b1
 have r1 := ins_row1Rv C l x m G hC hr (by omega) h0 C1 _ hC1.symm rfl
 have b2 := b1.setCells (rowsE RvK (l.drop m)) ((m + 1) * 6) (by rw [hnl, r1.1]; omega)
 obtain ⟨C2, hC2⟩ : ∃ D, C1.take ((m + 1) * 6) ++ (rowsE RvK (l.drop m) ++ C1.drop ((m + 1) * 6 + (rowsE RvK (l.drop m)).length)) = D := ⟨_, rfl⟩
 rw [hC2] at b2
 have r2 := ins_row1Rv C l x m G hC hr (by omega) h0 C1 C2 hC1.symm hC2.symm
 refine ⟨?_, ?_, ?_, below_setCellsE (Nat.le_refl _) _ _ _ (below_setCellsE (Nat.le_refl _) _ _ _ (Below.refl _ _))⟩
 ·intro j hj
  rw [hb.cell, List.getElem?_eq_getElem (by rw [hC]; omega)]
  exact ⟨rfl, hb.frozen _⟩
 ·intro j hj
  rw [b1.cell, List.getElem?_eq_getElem (by rw [r1.1]; omega)]
  exact ⟨rfl, b1.frozen _⟩
 ·have := OwnE.of (E := RvK) (e := e) (base := base) (cap := G) (l := insE l x m) C2 b2 hbN (by rw [insE_len l x m (by omega)]; exact hr) hG r2.2.1 (by rw [insE_len l x m (by omega)]; exact r2.2.2)
  rw [insE_len l x m (by omega)] at this
  exact this
theorem insGrow_anyRv (l : List RpV) (x : RpV) (m base gv g cap : Nat) (W : World) (hB : base ≤ W.heap.size) (ho : OwnE RvK 79 W base (.slice (some ⟨g, 0, none⟩) l.length cap) l) (hl : l.length ≤ 100000) (hv : Blk W gv (rvc x) 79) (hm : m < l.length) (hr : cap < l.length + 1) :
 Calls Tryz.prog 161 #[.slice (some ⟨g, 0, none⟩) l.length cap, .int .i64 (m : Int), .slice (some ⟨gv, 0, none⟩) 1 1] W (EditsE RvK 79 (.slice (some ⟨g, 0, none⟩) l.length cap) base (insE l x m) W) := by
 obtain ⟨i1, hJ, hy0, hy1, hy2⟩ := infoPRv
 obtain ⟨cur, hbk, k2, k4, k5, k6, k7, kn⟩ := ownBlkRv ho
 obtain rfl : cap = l.length := by omega
 have hcl : cur.toList.length = l.length * 6 := by rw [Array.length_toList, k6]
 have hcur : cur.toList = rowsE RvK l := by rw [← k7, List.take_of_length_le (by rw [hcl]; omega)]
 rw [hcur] at hbk
 have hgW := hbk.lt
 have hvW := hv.lt
 obtain ⟨n, hn⟩ : ∃ n, l.length = n := ⟨_, rfl⟩
 obtain ⟨N, hN⟩ : ∃ N, W.heap.size = N := ⟨_, rfl⟩
 have ht0 : (rowsE RvK (l.take m)).length = m * 6 := by rw [rwLenRv, List.length_take]; omega
 have hold : (Builtin.firstCells i1.size m (.slice (some ⟨g, 0, none⟩) m n)).run Tryz.prog W.drew = .ok (rowsE RvK (l.take m)).toArray W.drew := by
  rw [hy1]
  refine run_firstCells_some (P := Tryz.prog) W.drew 6 m ⟨g, 0, none⟩ m n (rowsE RvK (l.take m)) ht0 (fun j v hj => ?_)
  have hj4 : j < m * 6 := by have := (List.getElem?_eq_some_iff.1 hj).1; rwa [ht0] at this
  have hadd : (⟨g, 0, none⟩ : Addr).add j = ⟨g, j, none⟩ := by unfold Addr.add; split <;> simp_all
  rw [hadd]
  refine (hbk.cell j).trans ?_
  have e0 : rowsE RvK l = rowsE RvK (l.take m) ++ rowsE RvK (l.drop m) := by rw [← rowsE_append, List.take_append_drop]
  rw [e0, List.getElem?_append_left (by omega)]
  exact hj
 have hrz := fun ty => Lib.run_append_grow_zeros (P := Tryz.prog) W 48 3 ty 79 i1 zRv .i64 .i64 Tryz.underlying48 Tryz.underlying3 hJ hy0 (some ⟨g, 0, none⟩) m n (rowsE RvK (l.take m)) hold (n + 1 - m) (by omega) (by omega) (by omega) (by omega) (by rw [hy2]; omega) (by rw [hy2]; exact growslice_fits (by omega) (by omega))
 rw [show m + (n + 1 - m) = n + 1 by omega] at hrz
 obtain ⟨G, hG⟩ : ∃ G, grownCap W (n + 1) n 79 = G := ⟨_, rfl⟩
 have hG1 : n + 1 ≤ G := by rw [← hG]; exact grownCap_ge W _ _ _
 have hG2 : G ≤ maxLen := by rw [← hG]; exact grownCap_le_maxLen W _ _ _ (by unfold maxLen; omega)
 rw [hG] at hrz
 obtain ⟨ROW, hROW⟩ : ∃ R : Array Value, (rowsE RvK (l.take m)).toArray ++ Builtin.zeroCells zRv.cells (n + 1 - m) ++ Builtin.zeroCells zRv.cells (G - (n + 1)) = R := ⟨_, rfl⟩
 rw [hROW] at hrz
 have hz4 : ∀ k, (Builtin.zeroCells zRv.cells k).size = k * 6 := fun k => by rw [size_zeroCells]; rfl
 have hRl : ROW.toList.length = G * 6 := by
  rw [← hROW]
  simp only [Array.toList_append, List.length_append, Array.length_toList, hz4, ht0]
  omega
 have hR0 : ROW.toList.take (m * 6) = rowsE RvK (l.take m) := by
  rw [← hROW]
  simp only [Array.toList_append, List.append_assoc]
  exact List.take_left' ht0
 obtain ⟨V, hV⟩ : ∃ V, W.drew.alloc (.cells ROW 79) = V := ⟨_, rfl⟩
 have hbN : Blk V.drew N ROW.toList 79 := by
  rw [← hN, ← hV]
  exact heap_alloc_new W.drew (.cells ROW 79)
 have hgV : Blk V g (rowsE RvK l) 79 := by
  rw [← hV]
  exact hbk.drew.alloc (.cells ROW 79)
 have hvV : Blk V gv (rvc x) 79 := by
  rw [← hV]
  exact hv.drew.alloc (.cells ROW 79)
 have hWV : Below N W V.drew := by
  rw [← hV]
  exact (((Below.refl N W).drew).alloc (by show N ≤ W.heap.size; omega) _).drew
 obtain ⟨q1, q2, q3, q4⟩ := ins_growRv (l := l) x ROW.toList hbN hRl hR0 (show base ≤ N by omega) hG2 hm (by omega)
 have hnl : (rowsE RvK (l.drop m)).length = (l.length - m) * 6 := by rw [rwLenRv, List.length_drop]
 obtain ⟨tl, htl⟩ : ∃ t, rowsE RvK (l.drop m) = t := ⟨_, rfl⟩
 have h1t : ∀ v ∈ tl, v.oneCell' = true := by rw [← htl]; exact rowsE_cell RvK _
 have htc : ∀ j u, tl[j]? = some u → V.cell? ⟨g, m * 6 + j, none⟩ = some u := fun j u hu => by
  refine (hgV.cell _).trans ?_
  have e0 : rowsE RvK l = rowsE RvK (l.take m) ++ rowsE RvK (l.drop m) := by rw [← rowsE_append, List.take_append_drop]
  rw [e0, List.getElem?_append_right (by omega), ht0, Nat.add_sub_cancel_left, htl]
  exact hu
 rw [htl] at q3 q4 hnl
 rw [hn] at q2 q3 hnl hm hl ⊢
 unfold maxLen at hG2
 have hrzz := fun ty => hrz ty
 rw [hN, hV] at hrzz
 have HRZ := lhd hrzz
 have hcp1 : ∀ ty dl dc, 1 ≤ dl → (Builtin.copy_ #[48, 48] ty #[.slice (some ⟨N, m * 6, none⟩) dl dc, .slice (some ⟨gv, 0, none⟩) 1 1]).run Tryz.prog V = .ok (goInt (Nat.min 1 dl)) (V.setCells N (m * 6) (rvc x)) := fun ty dl dc hd =>
  run_copyERv _ _ _ ty 79 N (m * 6) dl dc ⟨gv, 0, none⟩ 1 1 (rvc x) Tryz.underlying48 sizeRv (by rw [show Nat.min 1 dl = 1 from Nat.min_eq_left hd]; rfl) (fun j v hj => by rw [Addr.add_lit, Nat.zero_add]; exact (hvV.cell j).trans hj) q1 (fun v hv => rowsE_cell RvK [x] v (by rw [rowsE_one]; exact hv))
 have hcp2 : ∀ ty dl dc sl sc, Nat.min sl dl = n - m → (Builtin.copy_ #[48, 48] ty #[.slice (some ⟨N, (m + 1) * 6, none⟩) dl dc, .slice (some ⟨g, m * 6, none⟩) sl sc]).run Tryz.prog (V.setCells N (m * 6) (rvc x)).drew = .ok (goInt (Nat.min sl dl)) ((V.setCells N (m * 6) (rvc x)).drew.setCells N ((m + 1) * 6) tl) := fun ty dl dc sl sc hmn => by
  rw [drewE_cells]
  exact run_copyERv _ _ _ ty 79 N ((m + 1) * 6) dl dc ⟨g, m * 6, none⟩ sl sc tl Tryz.underlying48 sizeRv (by rw [hnl, hmn]) (fun j v hj => by rw [Addr.add_lit, World.cell?_setCells_out N _ _ _ _ (fun h => absurd h (by show g ≠ N; omega))]; exact htc j v hj) (fun j hj => q2 j (by rwa [hnl] at hj)) h1t
 have HC1 := lhd hcp1
 have HC2 := lhd hcp2
 have HO : Hid (OwnE RvK 79 ((V.setCells N (m * 6) (rvc x)).drew.setCells N ((m + 1) * 6) tl) base (.slice (some ⟨N, 0, none⟩) (n + 1) G) (insE l x m)) := by
  rw [drewE_cells]
  exact q3
 have HB : Hid (Below base W ((V.setCells N (m * 6) (rvc x)).drew.setCells N ((m + 1) * 6) tl)) := by
  rw [drewE_cells]
  exact (hWV.mono (by omega)).trans (q4.mono (by omega))
 have HBN : Hid (Below N W ((V.setCells N (m * 6) (rvc x)).drew.setCells N ((m + 1) * 6) tl)) := by
  rw [drewE_cells]
  exact hWV.trans q4
 have HNW := lhd hN
 obtain ⟨L, hL⟩ : ∃ L, insE l x m = L := ⟨_, rfl⟩
 rw [hL] at HO ⊢
 clear hrz hrzz hold hcp1 hcp2 q1 q2 q3 q4 htc h1t hnl htl hn ho hv hL hbk hcur hcl hgV hvV hWV hbN hR0 hRl hROW hG ht0 kn hN k7 k6 k5 k4 k2 hV hgW hvW
 have w1 : IntKind.i64.wrap ((m : Int) + 1) = (m : Int) + 1 := by rw [IntKind.wrap_i64]; omega
 have w2 : IntKind.i64.wrap ((n : Int) + 1) = (n : Int) + 1 := by rw [IntKind.wrap_i64]; omega
 have w3 : IntKind.i64.wrap ((n : Int) + 1 - (m : Int)) = (n : Int) + 1 - (m : Int) := by rw [IntKind.wrap_i64]; omega
 have z2 : ¬ ((m : Int) = (n : Int)) := by omega
 have z3 : (n : Int) < (n : Int) + 1 := by omega
 have b1 : (0 : Int) ≤ (m : Int) + 1 := by omega
 have b2 : ((m : Int) + 1).toNat = m + 1 := by omega
 have b3 : (m : Int) ≤ (n : Int) := by omega
 have b4 : ¬ (n = m) := by omega
 have b6 : ((n : Int) + 1).toNat = n + 1 := by omega
 have b7 : (m : Int) ≤ (n : Int) + 1 := by omega
 have b8 : (m : Int) + 1 ≤ (n : Int) + 1 := by omega
 have b10 : m ≤ n := by omega
 have b11 : ¬ (G = m) := by omega
 have b12 : ¬ (G = m + 1) := by omega
 have b13 : m ≤ G := by omega
 have b14 : m + 1 ≤ G := by omega
 have hkk : (n : Int) + 1 - (m : Int) = ((n + 1 - m : Nat) : Int) := by omega
 have HKK := lhd hkk
 clear hkk
 go_enter Tryz.func161, Tryz.ntmps161
 go_wp2_with (first
  | (at_builtin; refine Lib.wpList_append_run _ rfl _ _ 48 3 rfl (.slice (some ⟨g, 0, none⟩) m n) (.int .i64 ((n + 1 - m : Nat) : Int)) rfl (by rw [← HKK.out]; rfl) _ _ (HRZ.out _) ?_)
  | (refine wpList_copyE_run rfl _ _ 48 48 rfl _ _ rfl rfl (HC1.out _ (n + 1 - m) (G - m) (by omega)) ?_))
 go_region_law (refine step_copyE_run rfl _ _ 48 48 rfl (.slice (some ⟨N, (m + 1) * 6, none⟩) (n - m) (G - (m + 1))) (.slice (some ⟨g, m * 6, none⟩) (n - m) (n - m)) (by simp [Act.eval, Act.put]) (by simp [Act.eval, Act.put]) (HC2.out _ (n - m) (G - (m + 1)) (n - m) (n - m) (by simp only [Nat.min_def]; split <;> omega)) ?_)
 go_wp2
 go_ret
 exact ⟨_, rfl, HO.out, HB.out, fun k hk _ => HBN.out.block k (by rw [← HNW.out]; exact hk)⟩
theorem insE_anyRv (l : List RpV) (x : RpV) (m base gv : Nat) (u : Value) (W : World) (hB : base ≤ W.heap.size) (ho : OwnE RvK 79 W base u l) (hl : l.length ≤ 100000) (hv : Blk W gv (rvc x) 79) (hne : u.ownBlock ≠ some gv) (hm : m ≤ l.length) :
 Calls Tryz.prog 161 #[u, .int .i64 (m : Int), .slice (some ⟨gv, 0, none⟩) 1 1] W (EditsE RvK 79 u base (insE l x m) W) := by
 by_cases he : m = l.length
 ·subst he
  exact insEnd_anyRv l x base gv u W hB ho hl hv
 ·obtain ⟨g, cap, rfl, hcap, hbg, hgW⟩ := ho.inBlock (by omega)
  have hcm : cap ≤ maxLen := by
   obtain ⟨_, _, _, _, h5, _⟩ := ho.block
   exact h5
  by_cases hr : l.length + 1 ≤ cap
  ·exact insRoom_anyRv l x m base gv g cap W ho hl hv (fun e => hne (by rw [e]; rfl)) (by omega) hr (by unfold maxLen at hcm; omega)
  ·exact insGrow_anyRv l x m base gv g cap W hB ho hl hv (by omega) (by omega)
theorem bin_anyRv (l : List RpV) (tv : Value) (m f : Nat) (lb : Array Value) (q : RpV → Int) (v : Value) (w : World) (hr : RdE RvK w.heap.size w v l) (hl : l.length ≤ 100000) (hm0 : m ≤ l.length) (ef : ∀ args w, (callFunc f args).run Tryz.prog w = .ok (.enter f args) w)
 (hq : ∀ i, i < l.length → (q (l.getD i rv0) < 0 ↔ i < m)) (hp : ∀ i W, i < l.length → Below w.heap.size w W → Calls Tryz.prog f (#[.agg #[.int .i64 (l.getD i rv0).1, .int .i64 (l.getD i rv0).2.1, .int .i64 (l.getD i rv0).2.2.1, txt (l.getD i rv0).2.2.2.1, .int .i64 (l.getD i rv0).2.2.2.2.1, slv (l.getD i rv0).2.2.2.2.2], tv] ++ lb) W (One (.int .i64 (q (l.getD i rv0))) W)) :
 Calls Tryz.prog 101 #[v, tv, .func (.func f) #[] lb] w (One (.tuple #[.int .i64 (m : Int), .bool (decide (m < l.length) && decide (q (l.getD m rv0) = 0))]) w) := by
 obtain ⟨A, cp, rfl, hc, hm⟩ := hr.shape
 unfold maxLen at hm
 obtain ⟨n, hn⟩ : ∃ n, l.length = n := ⟨_, rfl⟩
 have HN := lhd hn
 have HR := lhd hr
 have HL := lhd hl
 have HQ := lhd hq
 have HP := lhd hp
 obtain ⟨R, hR⟩ : ∃ R, (decide (m < l.length) && decide (q (l.getD m rv0) = 0)) = R := ⟨_, rfl⟩
 have HRR := lhd hR
 rw [hR]
 rw [hn] at HR HL HQ HP HRR hc hm0 ⊢
 have hl' := HL.out
 clear hr hl hq hp hn hR
 go_enter Tryz.func101, Tryz.ntmps101
 go_wp2
 go_loopw [9, 10] (fun x y wr => ∃ lo hi : Nat, x = .int .i64 (lo : Int) ∧ y = .int .i64 (hi : Int) ∧ lo ≤ m ∧ m ≤ hi ∧ hi ≤ n ∧ Hid (Below w.heap.size w wr)) (fun x y _ => (intOf y).toNat - (intOf x).toNat)
 case atStart => exact ⟨0, n, rfl, rfl, by omega, hm0, Nat.le_refl _, Below.refl _ _⟩
 case round =>
  obtain ⟨lo, hi, rfl, rfl, h1, h2, h3, HW⟩ := hrel
  by_cases hlt : lo < hi
  ·have hltz : (lo : Int) < (hi : Int) := by omega
   obtain ⟨k, hk⟩ : ∃ k, (lo + hi) / 2 = k := ⟨_, rfl⟩
   have hkn : k < n := by omega
   have hkz : ((lo : Int) + (hi : Int)) / 2 = (k : Int) := by omega
   have hknz : (k : Int) < (n : Int) := by omega
   obtain ⟨a, hA, c0, c1, c2, c3, c4, c5⟩ := (HR.out.below HW.out).at6 k (by rw [HN.out]; exact hkn)
   subst hA
   have hcq := HQ.out k hkn
   have hcc := HP.out k wr hkn HW.out
   obtain ⟨x, hx⟩ : ∃ x, l.getD k rv0 = x := ⟨_, rfl⟩
   rw [hx] at c0 c1 c2 c3 c4 c5 hcq hcc
   obtain ⟨z, hz⟩ : ∃ z, q x = z := ⟨_, rfl⟩
   rw [hz] at hcq hcc
   have HC := lhd hcc
   have HCQ := lhd hcq
   have HK := lhd hk
   clear hcc hx hz hcq hk
   by_cases hzn : z < 0
   ·have hkm : k < m := HCQ.out.1 hzn
    go_wp2_with (refine HC.out.mono ?_; rintro e w2 ⟨rfl, hb⟩)
    go_roundw
    case rel => exact ⟨k + 1, hi, by go_num, rfl, by omega, h2, h3, HW.out.trans (hb.mono HW.out.size)⟩
    case measure => have := HK.out; simp [intOf]; omega
   ·have hkm : ¬ k < m := fun h => hzn (HCQ.out.2 h)
    go_wp2_with (refine HC.out.mono ?_; rintro e w2 ⟨rfl, hb⟩)
    go_roundw
    case rel => exact ⟨lo, k, rfl, rfl, h1, by omega, by omega, HW.out.trans (hb.mono HW.out.size)⟩
    case measure => have := HK.out; simp [intOf]; omega
  ·have hE : lo = m := by omega
   have hE2 : m = hi := by omega
   subst hE
   subst hE2
   by_cases hmn : lo < n
   ·have hmz : (lo : Int) < (n : Int) := by omega
    obtain ⟨a, hA, c0, c1, c2, c3, c4, c5⟩ := (HR.out.below HW.out).at6 lo (by rw [HN.out]; exact hmn)
    subst hA
    have hcc := HP.out lo wr hmn HW.out
    obtain ⟨x, hx⟩ : ∃ x, l.getD lo rv0 = x := ⟨_, rfl⟩
    have hrr := HRR.out
    rw [hx] at c0 c1 c2 c3 c4 c5 hcc hrr
    obtain ⟨z, hz⟩ : ∃ z, q x = z := ⟨_, rfl⟩
    rw [hz] at hcc hrr
    rw [decide_eq_true hmn, Bool.true_and] at hrr
    have HC := lhd hcc
    have HE := lhd hrr
    clear hcc hx hz hrr
    go_wp2_with (refine HC.out.mono ?_; rintro e w2 ⟨rfl, hb⟩)
    have HB2 := lhd (HW.out.trans (hb.mono HW.out.size))
    clear hb
    go_wp2
    go_ret2
    exact ⟨by rw [← HE.out]; rfl, HB2.out⟩
   ·have hrr := HRR.out
    rw [decide_eq_false hmn, Bool.false_and] at hrr
    have HE := lhd hrr
    clear hrr
    have hmz : ¬ (lo : Int) < (n : Int) := by omega
    go_wp2
    go_ret2
    exact ⟨by rw [← HE.out]; rfl, HW.out⟩
abbrev zSt : Value := .string ⟨#[]⟩
theorem infoQSt : (Tryz.prog.info? 9).map (fun i => (i.zero, i.size, i.bytes)) = some (some zSt, 1, 16) := by kernel_rfl
theorem infoPSt : ∃ i, Tryz.prog.info? 9 = some i ∧ i.zero = some zSt ∧ i.size = 1 ∧ i.bytes = 16 := by
 have h := infoQSt
 cases hi : Tryz.prog.info? 9 with
 | none => rw [hi] at h; simp at h
 | some i =>
   rw [hi] at h
   simp at h
   exact ⟨i, rfl, h.1, h.2.1, h.2.2⟩
theorem kindPSt : KindOf Tryz.prog 9 StK 16 := kind_of (z := zSt) (by kernel_rfl) rfl
theorem clone_anySt (l : List ByteArray) (v : Value) (w : World) (hr : RdE StK w.heap.size w v l) (hl : l.length ≤ 100000) : Calls Tryz.prog 85 #[v] w (OwnsE StK 9 l w) := by
 obtain ⟨i1, hJ, hy0, hy1, hy2⟩ := infoPSt
 obtain ⟨A, cp, rfl, hc, hm⟩ := hr.shape
 unfold maxLen at hm
 cases A with
 | none =>
   obtain ⟨A', c', hv, _, _, hn, _⟩ := hr
   injection hv with q1 q2 q3
   subst q1 q3
   have h0 := hn rfl
   have h1 : l = [] := List.eq_nil_of_length_eq_zero (by omega)
   subst h1
   subst h0
   have he : ∀ w, (binOp .eql 77 (.slice none 0 0) (.slice none 0 0)).run Tryz.prog w = .ok (.bool true) w := fun _ => rfl
   go_enter Tryz.func85, Tryz.ntmps85
   go_wp2
   go_ret
   exact ⟨_, rfl, OwnE.nil _ _ _, Below.refl _ _⟩
 | some a =>
   have HR := lhd hr
   have HL := lhd hl
   obtain ⟨n, hn⟩ : ∃ n, l.length = n := ⟨_, rfl⟩
   rw [hn] at HR hc ⊢
   clear hr hl hn
   have he : ∀ w, (binOp .eql 77 (.slice (some a) n cp) (.slice none 0 0)).run Tryz.prog w = .ok (.bool false) w := fun _ => rfl
   have HO : Hid (OwnE StK 9 (w.alloc (.cells #[] 9)) w.heap.size (.slice (some ⟨w.heap.size, 0, none⟩) 0 0) []) := OwnE.empty (E := StK) 9 w w.heap.size (Nat.le_refl _)
   have HA : Hid (Below w.heap.size w (w.alloc (.cells #[] 9))) := (Below.refl _ _).alloc (Nat.le_refl _) _
   have HR2 := lhd (HR.out.below HA.out)
   go_enter Tryz.func85, Tryz.ntmps85
   go_wp2_with (at_builtin; refine wpList_appF (E := StK) rfl _ _ 77 rfl 9 16 Tryz.underlying77 kindPSt w.heap.size _ _ _ [] l rfl HO.out rfl HR2.out ?d1 ?d2 ?d3 ?_)
   case d1 => have := HL.out; simp; omega
   case d2 => have := HL.out; simp; omega
   case d3 => simp
   intro v' w' h1 h2 h3
   have H1 := lhd h1
   have H2 := lhd (HA.out.trans h2)
   clear h1 h2 h3
   go_wp2
   go_ret
   exact ⟨_, rfl, H1.out, H2.out⟩
end Go.Proofs.YtgfobinklijkpaaGreatDoor
