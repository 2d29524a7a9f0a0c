/-
  Package lms: Verify, for every input.
-/
import Derived.Test.YtnemkefmlffigaaL12
import Derived.Test.YtnemkefmlffigaaDgEq
namespace Go.Proofs.Ytnemkefmlffigaa
open Go.RowKit

theorem run_load_midU {P : Program} {o : Oper} {a : Act} {w : World} (t : TypeId) (x : Operand) (ho : o.op = .load t x) (g off : Nat) (hx : a.eval x = .pointer (some ⟨g, off, none⟩)) (cs : List Value) (d : TypeDesc) (hc : w.rangeAt g off cs)
    (hu : P.underlying t = some d) (hd : d.isRow = true) (hi : (P.info? t).map (·.size) = some cs.length) : (execOp a.eval o).run P w = .ok (.value (.agg cs.toArray)) w := by
  unfold execOp
  simp only [ho, hx, Instr.loadAt, Instr.sureAddr, Sem.run_bind, Sem.run_pure, Result.andThen_ok, run_loadVar_mid w g off t cs d hc hu hd hi]
theorem kyl_rangeS {w : World} {g : Nat} {S : List Value} {I R : List UInt8} {t : TypeId} (h : Blk w g (kyl S I R) t) : w.rangeAt g 0 S := fun j v hv => by
  have hj : j < S.length := (List.getElem?_eq_some_iff.1 hv).1
  rw [h.cell, Nat.zero_add]
  unfold kyl
  rw [List.getElem?_append_left hj]
  exact hv
theorem kyl_rangeI {w : World} {g : Nat} {S : List Value} {I R : List UInt8} {t : TypeId} (h : Blk w g (kyl S I R) t) (hS : S.length = 4) : w.rangeAt g 4 (bys I) := fun j v hv => by
  have hj : j < (bys I).length := (List.getElem?_eq_some_iff.1 hv).1
  rw [h.cell]
  unfold kyl
  rw [List.getElem?_append_right (by omega), hS, show 4 + j - 4 = j by omega, List.getElem?_append_left hj]
  exact hv
theorem kyl_rangeR {w : World} {g : Nat} {S : List Value} {I R : List UInt8} {t : TypeId} (h : Blk w g (kyl S I R) t) (hS : S.length = 4) (hI : I.length = 16) : w.rangeAt g 20 (bys R) := fun j v hv => by
  rw [h.cell]
  unfold kyl
  rw [List.getElem?_append_right (by omega), hS, List.getElem?_append_right (by rw [bys_length]; omega), bys_length, hI, show 20 + j - 4 - 16 = j by omega]
  exact hv

set_option maxRecDepth 100000 in
set_option maxHeartbeats 400000 in
theorem verT_badkey (pv tv sv : Value) (w : World) (hkey : ∀ w', Below w.heap.size w w' → Calls Try.prog 44 #[pv] w' (TwoD (.agg kyl0.toArray) (.int .i64 3) w')) :
    Calls Try.prog 16 #[pv, tv, sv] w (One (.int .i64 3) w) := by
  have HKEY := Lib.hid hkey
  clear hkey
  go_enter Try.func16, Try.ntmps16
  go_wp2
  refine wp_scope_goto 0 rfl ?_
  go_wp2_with (refine wpList_alloc_blk rfl 86 rfl _ zi86 ?_)
  intro w1 a1 a2 a3
  have A3 := Lib.hid a3
  clear a1 a2 a3
  go_wp2_with (refine wpList_alloc_blk rfl 28 rfl _ z24 ?_)
  intro w2 a1 a2 a3
  have GB : Hid (Below w.heap.size w w2) := A3.out.trans (a3.mono A3.out.size)
  clear a1 a2 a3 A3
  go_wp2_with fail
  refine (HKEY.out _ GB.out).mono ?_
  rintro e w3 ⟨rfl, hb⟩
  have EB : Hid (Below w.heap.size w w3) := GB.out.trans (hb.mono GB.out.size)
  clear hb GB
  go_wp2_with (refine wpList_alloc_blk rfl 88 rfl _ zi88 ?_)
  intro w4 a1 a2 a3
  have A1 := Lib.hid a1
  have hs := EB.out.size
  have LB : Hid (Below w.heap.size w (w4.setRow w3.heap.size kyl0.toArray)) := below_setRow' (EB.out.trans (a3.mono hs)) hs _
  clear a1 a2 a3 EB
  go_wp2_with (refine wpList_store_blk rfl 88 _ _ rfl w3.heap.size kyl0 kyl0 88 rfl rfl A1.out s88z rfl kyl0_one ?_)
  refine wp_goto ⟨rfl, ?_⟩
  go_wp2
  rw [Exit.noGoto_ret]
  go_ret
  exact ⟨rfl, LB.out⟩

set_option maxRecDepth 100000 in
set_option maxHeartbeats 2000000 in
theorem verT_badparts (k h : Nat) (I R : List UInt8) (pv tv sv : Value) (w : World) (hI : I.length = 16) (hR : R.length = 32) (hk : Wd k) (hh : Ht h) (hkey : ∀ w', Below w.heap.size w w' → Calls Try.prog 44 #[pv] w' (TwoD (.agg (kyl (shl k h) I R).toArray) (.int .i64 0) w'))
    (hparts : ∀ w', Below w.heap.size w w' → Calls Try.prog 45 #[sv, .agg (shl k h).toArray] w' (TwoD (.agg pts0.toArray) (.int .i64 3) w')) :
    Calls Try.prog 16 #[pv, tv, sv] w (One (.int .i64 3) w) := by
  have HKEY := Lib.hid hkey
  have HI := Lib.hid hI
  have HR := Lib.hid hR
  have HK := Lib.hid hk
  have HH := Lib.hid hh
  have HS9 := Lib.hid (s88' (shl k h) I R rfl hI hR)
  have HL9 : Hid (kyl0.length = (kyl (shl k h) I R).length) := by show _ = _; rw [kyl0_len, kyl_length _ _ _ rfl hI hR]
  have H22 : Hid ((Try.prog.info? 22).map (·.size) = some (bys I).length) := by show _ = _; rw [bys_length, hI]; exact s22
  have H24r : Hid ((Try.prog.info? 28).map (·.size) = some (bys R).length) := by show _ = _; rw [bys_length, hR]; exact s24
  obtain ⟨d74, hu74, hd74⟩ := row74
  have HU7 := Lib.hid hu74
  have HD7 := Lib.hid hd74
  have H74 : Hid ((Try.prog.info? 74).map (·.size) = some (shl k h).length) := s74
  have HPT := Lib.hid hparts
  clear hparts
  clear hkey hI hR hk hh hu74 hd74
  go_enter Try.func16, Try.ntmps16
  go_wp2
  refine wp_scope_goto 0 rfl ?_
  go_wp2_with (refine wpList_alloc_blk rfl 86 rfl _ zi86 ?_)
  intro w1 a1 a2 a3
  obtain ⟨g7, hg7⟩ : ∃ g, w.heap.size = g := ⟨_, rfl⟩
  have hw7 : w.heap.size ≤ g7 := by omega
  have A7 : Hid (Blk w1 g7 pts0 86) := by rw [← hg7]; exact a1
  have A3 := Lib.hid a3
  rw [hg7]
  clear a1 a2 a3 hg7
  go_wp2_with (refine wpList_alloc_blk rfl 28 rfl _ z24 ?_)
  intro w2 a1 a2 a3
  obtain ⟨g8, hg8⟩ : ∃ g, w1.heap.size = g := ⟨_, rfl⟩
  have hg78 : g7 < g8 := by rw [← hg8]; exact A7.out.lt
  have G7 : Hid (Blk w2 g7 pts0 86) := A7.out.below a3 A7.out.lt
  have G8 : Hid (Blk w2 g8 z32 28) := by rw [← hg8]; exact a1
  have GB : Hid (Below w.heap.size w w2) := A3.out.trans (a3.mono A3.out.size)
  rw [hg8]
  clear a1 a2 a3 A3 A7 hg8
  go_wp2_with fail
  refine (HKEY.out _ GB.out).mono ?_
  rintro e w3 ⟨rfl, hb⟩
  have E7 : Hid (Blk w3 g7 pts0 86) := G7.out.below hb G7.out.lt
  have E8 : Hid (Blk w3 g8 z32 28) := G8.out.below hb G8.out.lt
  have EB : Hid (Below w.heap.size w w3) := GB.out.trans (hb.mono GB.out.size)
  have hl8 : g8 < w3.heap.size := E8.out.lt
  clear hb GB G7 G8
  go_wp2_with (refine wpList_alloc_blk rfl 88 rfl _ zi88 ?_)
  intro w4 a1 a2 a3
  obtain ⟨g9, hg9⟩ : ∃ g, w3.heap.size = g := ⟨_, rfl⟩
  rw [hg9] at a1 a2 a3 hl8 ⊢
  have A1 := Lib.hid a1
  obtain ⟨t4, ht4⟩ : ∃ t, w4.setRow g9 (kyl (shl k h) I R).toArray = t := ⟨_, rfl⟩
  have F7 : Hid (Blk t4 g7 pts0 86) := by rw [← ht4]; exact (E7.out.below a3 (by omega)).setRowOther (by omega)
  have F8 : Hid (Blk t4 g8 z32 28) := by rw [← ht4]; exact (E8.out.below a3 (by omega)).setRowOther (by omega)
  have F9 : Hid (Blk t4 g9 (kyl (shl k h) I R) 88) := by rw [← ht4]; exact a1.setRow
  have FB : Hid (Below w.heap.size w t4) := by have := EB.out.size; rw [← ht4]; exact below_setRow' (EB.out.trans (a3.mono (by omega))) (by omega) _
  clear a1 a2 a3 E7 E8 EB hg9
  go_wp2_with (first | (refine wpList_store_blk rfl 88 _ _ rfl g9 (kyl (shl k h) I R) kyl0 88 rfl rfl A1.out HS9.out HL9.out (kyl_one _ _ _ (shl_one k h)) ?_; rw [ht4]; clear ht4) | (refine wpList_load_mid rfl 74 _ rfl g9 0 rfl (shl k h) d74 (kyl_rangeS F9.out) HU7.out HD7.out H74.out ?_))
  refine (HPT.out _ FB.out).mono ?_
  rintro e w5 ⟨rfl, hb⟩
  have I7 : Hid (Blk w5 g7 pts0 86) := F7.out.below hb F7.out.lt
  have IB : Hid (Below w.heap.size w w5) := FB.out.trans (hb.mono FB.out.size)
  have LB : Hid (Below w.heap.size w (w5.setRow g7 pts0.toArray)) := below_setRow' IB.out hw7 _
  clear hb F7 F8 F9 FB A1 IB
  go_wp2_with (refine wpList_store_blk rfl 86 _ _ rfl g7 pts0 pts0 86 rfl rfl I7.out s86 rfl pts0_one ?_)
  refine wp_goto ⟨rfl, ?_⟩
  go_wp2
  rw [Exit.noGoto_ret]
  go_ret
  exact ⟨rfl, LB.out⟩

set_option maxRecDepth 100000 in
set_option maxHeartbeats 2000000 in
theorem verT_good (k h : Nat) (I R : List UInt8) (pv tv sv : Value) (w : World) (hI : I.length = 16) (hR : R.length = 32) (hk : Wd k) (hh : Ht h) (hkey : ∀ w', Below w.heap.size w w' → Calls Try.prog 44 #[pv] w' (TwoD (.agg (kyl (shl k h) I R).toArray) (.int .i64 0) w'))
    (q : Nat) (once sibs text : List UInt8) (hq : q < 2 ^ h) (ht : Rd w.heap.size w tv text) (htl : text.length ≤ 100000) (hf : Fits once k) (hsl : sibs.length = 32 * h)
    (hparts : ∀ w', Below w.heap.size w w' → Calls Try.prog 45 #[sv, .agg (shl k h).toArray] w' (fun e w'' => ∃ o t, e = .returned (.tuple #[.agg (ptl q o t).toArray, .int .i64 0]) ∧ Rd w.heap.size w o once ∧ Rd w.heap.size w t sibs ∧ Below w'.heap.size w' w'')) :
    Calls Try.prog 16 #[pv, tv, sv] w (One (.int .i64 (if lroot I once text sibs k h q = R then 0 else 16)) w) := by
  have HKEY := Lib.hid hkey
  have HI := Lib.hid hI
  have HR := Lib.hid hR
  have HK := Lib.hid hk
  have HH := Lib.hid hh
  have HS9 := Lib.hid (s88' (shl k h) I R rfl hI hR)
  have HL9 : Hid (kyl0.length = (kyl (shl k h) I R).length) := by show _ = _; rw [kyl0_len, kyl_length _ _ _ rfl hI hR]
  have H22 : Hid ((Try.prog.info? 22).map (·.size) = some (bys I).length) := by show _ = _; rw [bys_length, hI]; exact s22
  have H24r : Hid ((Try.prog.info? 28).map (·.size) = some (bys R).length) := by show _ = _; rw [bys_length, hR]; exact s24
  obtain ⟨d74, hu74, hd74⟩ := row74
  have HU7 := Lib.hid hu74
  have HD7 := Lib.hid hd74
  have H74 : Hid ((Try.prog.info? 74).map (·.size) = some (shl k h).length) := s74
  have HPT := Lib.hid hparts
  have HTX := Lib.hid ht
  have HTL := Lib.hid htl
  have HFT := Lib.hid hf
  have HSB := Lib.hid hsl
  obtain ⟨At, ct, rfl, hct, hmt⟩ := ht.shape
  unfold maxLen at hmt
  obtain ⟨h1, h5⟩ := hh.le
  have HH1 : Hid (1 ≤ h) := h1
  have HH5 : Hid (h ≤ 5) := h5
  obtain ⟨L, hL⟩ : ∃ L, 2 ^ h = L := ⟨_, rfl⟩
  have hL32 : L ≤ 32 := by rw [← hL]; rcases hh with rfl | rfl | rfl | rfl | rfl <;> decide
  have HLE := Lib.hid hL
  rw [hL] at hq
  obtain ⟨T, hT⟩ : ∃ T, L + q = T := ⟨_, rfl⟩
  have zT : (L : Int) + (q : Int) = (T : Int) := by omega
  have hT64 : T ≤ 64 := by omega
  have HT1 : Hid (2 ^ h ≤ T) := by show _ ≤ _; rw [hL]; omega
  have HT2 : Hid (T < 2 * 2 ^ h) := by show _ < _; rw [hL]; omega
  have hq32 : q < 32 := by omega
  obtain ⟨C, hC⟩ : ∃ C, cndL (pre20 I q) once text k = C := ⟨_, rfl⟩
  have hCl : C.length = 32 := by rw [← hC]; exact hpub_length _ _
  have HCE := Lib.hid hC
  have HCL := Lib.hid hCl
  obtain ⟨F, hF⟩ : ∃ F, clm I h T (leafL I T C) sibs = F := ⟨_, rfl⟩
  have hFl : F.length = 32 := by rw [← hF]; exact clm_length _ _ _ _ _ (leafL_length _ _ _)
  have HFE := Lib.hid hF
  have HFL := Lib.hid hFl
  have hroot : lroot I once text sibs k h q = F := by unfold lroot; rw [hL, hT, hC, hF]
  rw [hroot]
  obtain ⟨Z, hZ⟩ : ∃ z : Int, (if F = R then 0 else 16) = z := ⟨_, rfl⟩
  rw [hZ]
  have HZE := Lib.hid hZ
  have H24c : Hid ((Try.prog.info? 28).map (·.size) = some (bys C).length) := by show _ = _; rw [bys_length, hCl]; exact s24
  have HLZc : Hid (z32.length = (bys C).length) := by show _ = _; rw [bys_length, hCl, z32_length]
  clear hparts ht hf hsl hL hT hC hCl hF hFl hroot h1 h5 htl hZ
  clear hkey hI hR hk hh hu74 hd74
  go_enter Try.func16, Try.ntmps16
  go_wp2
  refine wp_scope_goto 0 rfl ?_
  go_wp2_with (refine wpList_alloc_blk rfl 86 rfl _ zi86 ?_)
  intro w1 a1 a2 a3
  obtain ⟨g7, hg7⟩ : ∃ g, w.heap.size = g := ⟨_, rfl⟩
  have hw7 : w.heap.size ≤ g7 := by omega
  have A7 : Hid (Blk w1 g7 pts0 86) := by rw [← hg7]; exact a1
  have A3 := Lib.hid a3
  rw [hg7]
  clear a1 a2 a3 hg7
  go_wp2_with (refine wpList_alloc_blk rfl 28 rfl _ z24 ?_)
  intro w2 a1 a2 a3
  obtain ⟨g8, hg8⟩ : ∃ g, w1.heap.size = g := ⟨_, rfl⟩
  have hg78 : g7 < g8 := by rw [← hg8]; exact A7.out.lt
  have G7 : Hid (Blk w2 g7 pts0 86) := A7.out.below a3 A7.out.lt
  have G8 : Hid (Blk w2 g8 z32 28) := by rw [← hg8]; exact a1
  have GB : Hid (Below w.heap.size w w2) := A3.out.trans (a3.mono A3.out.size)
  rw [hg8]
  clear a1 a2 a3 A3 A7 hg8
  go_wp2_with fail
  refine (HKEY.out _ GB.out).mono ?_
  rintro e w3 ⟨rfl, hb⟩
  have E7 : Hid (Blk w3 g7 pts0 86) := G7.out.below hb G7.out.lt
  have E8 : Hid (Blk w3 g8 z32 28) := G8.out.below hb G8.out.lt
  have EB : Hid (Below w.heap.size w w3) := GB.out.trans (hb.mono GB.out.size)
  have hl8 : g8 < w3.heap.size := E8.out.lt
  clear hb GB G7 G8
  go_wp2_with (refine wpList_alloc_blk rfl 88 rfl _ zi88 ?_)
  intro w4 a1 a2 a3
  obtain ⟨g9, hg9⟩ : ∃ g, w3.heap.size = g := ⟨_, rfl⟩
  rw [hg9] at a1 a2 a3 hl8 ⊢
  have A1 := Lib.hid a1
  obtain ⟨t4, ht4⟩ : ∃ t, w4.setRow g9 (kyl (shl k h) I R).toArray = t := ⟨_, rfl⟩
  have F7 : Hid (Blk t4 g7 pts0 86) := by rw [← ht4]; exact (E7.out.below a3 (by omega)).setRowOther (by omega)
  have F8 : Hid (Blk t4 g8 z32 28) := by rw [← ht4]; exact (E8.out.below a3 (by omega)).setRowOther (by omega)
  have F9 : Hid (Blk t4 g9 (kyl (shl k h) I R) 88) := by rw [← ht4]; exact a1.setRow
  have FB : Hid (Below w.heap.size w t4) := by have := EB.out.size; rw [← ht4]; exact below_setRow' (EB.out.trans (a3.mono (by omega))) (by omega) _
  clear a1 a2 a3 E7 E8 EB hg9
  go_wp2_with (first | (refine wpList_store_blk rfl 88 _ _ rfl g9 (kyl (shl k h) I R) kyl0 88 rfl rfl A1.out HS9.out HL9.out (kyl_one _ _ _ (shl_one k h)) ?_; rw [ht4]; clear ht4) | (refine wpList_load_mid rfl 74 _ rfl g9 0 rfl (shl k h) d74 (kyl_rangeS F9.out) HU7.out HD7.out H74.out ?_))
  refine (HPT.out _ FB.out).mono ?_
  rintro e w5 ⟨ov, sv2, rfl, hro, hrs, hb⟩
  obtain ⟨Ao, co, hov, hco, hmo⟩ := hro.shape
  obtain ⟨As, cs, hsv2, hcs, hms⟩ := hrs.shape
  subst hov
  subst hsv2
  unfold maxLen at hmo hms
  obtain ⟨no, hno⟩ : ∃ n, once.length = n := ⟨_, rfl⟩
  rw [hno] at hro hco ⊢
  rw [HSB.out] at hrs hcs ⊢
  have I7 : Hid (Blk w5 g7 pts0 86) := F7.out.below hb F7.out.lt
  have I8 : Hid (Blk w5 g8 z32 28) := F8.out.below hb F8.out.lt
  have I9 : Hid (Blk w5 g9 (kyl (shl k h) I R) 88) := F9.out.below hb F9.out.lt
  have IB : Hid (Below w.heap.size w w5) := FB.out.trans (hb.mono FB.out.size)
  have RO := Lib.hid hro
  have RS := Lib.hid hrs
  obtain ⟨V, hV⟩ : ∃ V, w5.setRow g7 (ptl q (.slice Ao no co) (.slice As (32 * h) cs)).toArray = V := ⟨_, rfl⟩
  have J7 : Hid (Blk V g7 (ptl q (.slice Ao no co) (.slice As (32 * h) cs)) 86) := by rw [← hV]; exact I7.out.setRow
  have J8 : Hid (Blk V g8 z32 28) := by rw [← hV]; exact I8.out.setRowOther (by omega)
  have J9 : Hid (Blk V g9 (kyl (shl k h) I R) 88) := by rw [← hV]; exact I9.out.setRowOther (by omega)
  have JB : Hid (Below w.heap.size w V) := by rw [← hV]; exact below_setRow' IB.out hw7 _
  have c70 : V.cell? ⟨g7, 0, none⟩ = some (.int .u32 (q : Int)) := (J7.out.cell 0).trans rfl
  have c71 : V.cell? ⟨g7, 1, none⟩ = some (.slice Ao no co) := (J7.out.cell 1).trans rfl
  clear hb hro hrs hno I8 I9 IB F7 F8 F9 FB A1
  go_wp2_with (first | (refine wpList_store_blk rfl 86 _ _ rfl g7 (ptl q (.slice Ao no co) (.slice As (32 * h) cs)) pts0 86 rfl rfl I7.out s86 rfl (ptl_one _ _ _ _ _ _ _) ?_; rw [hV]; clear hV) | (refine wpList_load_mid rfl 22 _ rfl g9 4 rfl (bys I) _ (kyl_rangeI J9.out rfl) tu22 rfl H22.out ?_))
  clear c70 c71
  refine (candX_yes I text once q k _ _ _ HI.out (by omega) ((HTX.out.below JB.out).more JB.out.size) ((RO.out.below JB.out).more JB.out.size) HTL.out HFT.out).mono ?_
  rintro e w6 ⟨rfl, hb⟩
  rw [HCE.out]
  have K7 : Hid (Blk w6 g7 (ptl q (.slice Ao no co) (.slice As (32 * h) cs)) 86) := J7.out.below hb J7.out.lt
  have K8 : Hid (Blk w6 g8 z32 28) := J8.out.below hb J8.out.lt
  have K9 : Hid (Blk w6 g9 (kyl (shl k h) I R) 88) := J9.out.below hb J9.out.lt
  have KB : Hid (Below w.heap.size w w6) := JB.out.trans (hb.mono JB.out.size)
  obtain ⟨X, hX⟩ : ∃ X, w6.setRow g8 (bys C).toArray = X := ⟨_, rfl⟩
  have M7 : Hid (Blk X g7 (ptl q (.slice Ao no co) (.slice As (32 * h) cs)) 86) := by rw [← hX]; exact K7.out.setRowOther (by omega)
  have M8 : Hid (Blk X g8 (bys C) 28) := by rw [← hX]; exact K8.out.setRow
  have M9 : Hid (Blk X g9 (kyl (shl k h) I R) 88) := by rw [← hX]; exact K9.out.setRowOther (by omega)
  have MB : Hid (Below w.heap.size w X) := by rw [← hX]; exact below_setRow' KB.out (by omega) _
  clear hb J7 J8 J9 JB K7 K9 KB I7
  go_wp2_with (first | (refine wpList_store_blk rfl 28 _ _ rfl g8 (bys C) z32 28 rfl rfl K8.out H24c.out HLZc.out (bys_one' _) ?_; rw [hX]; clear hX))
  obtain ⟨b, hbq, hbz⟩ : ∃ b : Bool, (∀ w', (Op.equalIn 10000 28 (.agg (bys F).toArray) (.agg (bys R).toArray)).run Try.prog w' = .ok b w') ∧ Z = (if b then 0 else 16) := by
    by_cases hFR : F = R
    · refine ⟨true, fun w' => ?_, ?_⟩
      · rw [hFR]; exact eqHash_yes R HR.out w'
      · rw [← HZE.out, if_pos hFR]; rfl
    · refine ⟨false, fun w' => eqHash_no F R HFL.out HR.out hFR w', ?_⟩
      rw [← HZE.out, if_neg hFR]; rfl
  have HEQ := Lib.hid hbq
  have HBZ := Lib.hid hbz
  clear hbq hbz
  refine wp_region_rely2 16 0 (fun x => ⟨#[pv, Value.slice At text.length ct, sv, undef, undef, undef, Value.int IntKind.i64 0, Value.pointer (some { block := g7, off := 0 }), Value.pointer (some { block := g8, off := 0 }), Value.pointer (some { block := g9, off := 0 }), Value.int IntKind.i64 0, Value.tuple #[Value.agg (kyl (shl k h) I R).toArray, Value.int IntKind.i64 0], pv, Value.tuple #[Value.agg (kyl (shl k h) I R).toArray, Value.int IntKind.i64 0], Value.agg (kyl (shl k h) I R).toArray, Value.int IntKind.i64 0, Value.int IntKind.i64 0, Value.bool false, Value.tuple #[Value.agg (ptl q (Value.slice Ao no co) (Value.slice As (32 * h) cs)).toArray, Value.int IntKind.i64 0], sv, Value.pointer (some { block := g9, off := 0 }), Value.agg (shl k h).toArray, Value.tuple #[Value.agg (ptl q (Value.slice Ao no co) (Value.slice As (32 * h) cs)).toArray, Value.int IntKind.i64 0], Value.agg (ptl q (Value.slice Ao no co) (Value.slice As (32 * h) cs)).toArray, Value.int IntKind.i64 0, Value.int IntKind.i64 0, Value.bool false, Value.tuple #[Value.agg (bys C).toArray, Value.int IntKind.i64 0], Value.pointer (some { block := g9, off := 4 }), Value.agg (bys I).toArray, Value.pointer (some { block := g7, off := 0 }), Value.int IntKind.u32 ↑q, Value.slice At text.length ct, Value.pointer (some { block := g7, off := 1 }), Value.slice Ao no co, Value.tuple #[Value.agg (bys C).toArray, Value.int IntKind.i64 0], Value.agg (bys C).toArray, Value.int IntKind.i64 0, Value.int IntKind.i64 0, Value.bool false, x 0, x 1, x 2, x 3, x 4, x 5, x 6, x 7, x 8, x 9, x 10, x 11, x 12, x 13, x 14, x 15, undef], []⟩) (fun jj => ([eqV (.pointer (some ⟨g9, 4, none⟩)), eqV (.agg (bys I).toArray), eqV (.pointer (some ⟨g9, 0, none⟩)), eqV (.agg (shl k h).toArray), (eqV (.int .i64 (L : Int))), eqV (.pointer (some ⟨g7, 0, none⟩)), eqV (.int .u32 (q : Int)), eqV (.int .i64 (q : Int)), eqV (.int .i64 (T : Int)), eqV (.agg (bys C).toArray), eqV (.pointer (some ⟨g7, 2, none⟩)), eqV (.slice As (32 * h) cs), (eqV (.agg (bys F).toArray)), eqV (.pointer (some ⟨g9, 20, none⟩)), eqV (.agg (bys R).toArray), eqV (.bool (!b))] : List (Value → World → Prop)).getD jj (fun _ _ => True)) rfl ⟨fun kk => [_, _, _, _, _, _, _, _, _, _, _, _, _, _, _, _].getD kk undef, rfl⟩ (by kernel_rfl) (by kernel_rfl) ?steps ?fin
  case steps =>
    refine StepsAt.val 0 (.pointer (some ⟨g9, 4, none⟩)) rfl (fun _ _ => rfl) rfl rfl (fun x X9 hb hd => ?_) ?_
    · first | (go_simp; done) | (go_simp; rfl)
    refine StepsAt.val 1 (.agg (bys I).toArray) rfl (fun _ _ => rfl) rfl rfl (fun x X9 hb hd => ?_) ?_
    · have h0 : x 0 = .pointer (some ⟨g9, 4, none⟩) := hd 0 (by kernel_rfl)
      exact run_load_mid 22 (.tmp 40) rfl g9 4 (by exact h0) (bys I) (kyl_rangeI (M9.out.below hb M9.out.lt) rfl) 16 5 tu22 H22.out
    refine StepsAt.val 2 (.pointer (some ⟨g9, 0, none⟩)) rfl (fun _ _ => rfl) rfl rfl (fun x X9 hb hd => ?_) ?_
    · first | (go_simp; done) | (go_simp; rfl)
    refine StepsAt.val 3 (.agg (shl k h).toArray) rfl (fun _ _ => rfl) rfl rfl (fun x X9 hb hd => ?_) ?_
    · have h2 : x 2 = .pointer (some ⟨g9, 0, none⟩) := hd 2 (by kernel_rfl)
      exact run_load_midU 74 (.tmp 42) rfl g9 0 (by exact h2) (shl k h) d74 (kyl_rangeS (M9.out.below hb M9.out.lt)) HU7.out HD7.out H74.out
    refine StepsAt.cons 4 (fun _ _ _ h hb => h) (fun _ _ => rfl) rfl rfl (fun x X9 hb hd K hK => ?_) ?_
    · have h3 : Hid (x 3 = .agg (shl k h).toArray) := hd 3 (by kernel_rfl)
      go_simp
      refine calls_args (args2 := #[.agg (shl k h).toArray]) (by rw [h3.out]) ?_
      refine (leavesL_any k h _ HH.out).mono ?_
      rintro e w2 ⟨rfl, hb2⟩
      rw [HLE.out]
      exact hK.out _ _ hb2 rfl
    refine StepsAt.val 5 (.pointer (some ⟨g7, 0, none⟩)) rfl (fun _ _ => rfl) rfl rfl (fun x X9 hb hd => ?_) ?_
    · first | (go_simp; done) | (go_simp; rfl)
    refine StepsAt.val 6 (.int .u32 (q : Int)) rfl (fun _ _ => rfl) rfl rfl (fun x X9 hb hd => ?_) ?_
    · have h5 : x 5 = .pointer (some ⟨g7, 0, none⟩) := hd 5 (by kernel_rfl)
      have cc : X9.cell? ⟨g7, 0, none⟩ = some (.int .u32 (q : Int)) := ((M7.out.below hb M7.out.lt).cell 0).trans rfl
      rw [h5]
      first | (go_simp; done) | (go_simp; rfl)
    refine StepsAt.val 7 (.int .i64 (q : Int)) rfl (fun _ _ => rfl) rfl rfl (fun x X9 hb hd => ?_) ?_
    · have h6 : x 6 = .int .u32 (q : Int) := hd 6 (by kernel_rfl)
      rw [h6]
      clear zT
      go_simp
      first | done | exact wrap_i64 _ (by omega) (by omega)
    refine StepsAt.val 8 (.int .i64 (T : Int)) rfl (fun _ _ => rfl) rfl rfl (fun x X9 hb hd => ?_) ?_
    · have h4 : x 4 = .int .i64 (L : Int) := hd 4 (by kernel_rfl)
      have h7 : x 7 = .int .i64 (q : Int) := hd 7 (by kernel_rfl)
      rw [h4, h7]
      go_simp
      exact wrap_i64 _ (by omega) (by omega)
    refine StepsAt.val 9 (.agg (bys C).toArray) rfl (fun _ _ => rfl) rfl rfl (fun x X9 hb hd => ?_) ?_
    · exact run_load_blk 28 (.tmp 8) rfl g8 rfl (bys C) 28 (M8.out.below hb M8.out.lt) 32 5 tu24 H24c.out
    refine StepsAt.val 10 (.pointer (some ⟨g7, 2, none⟩)) rfl (fun _ _ => rfl) rfl rfl (fun x X9 hb hd => ?_) ?_
    · first | (go_simp; done) | (go_simp; rfl)
    refine StepsAt.val 11 (.slice As (32 * h) cs) rfl (fun _ _ => rfl) rfl rfl (fun x X9 hb hd => ?_) ?_
    · have h10 : x 10 = .pointer (some ⟨g7, 2, none⟩) := hd 10 (by kernel_rfl)
      have cc : X9.cell? ⟨g7, 2, none⟩ = some (.slice As (32 * h) cs) := ((M7.out.below hb M7.out.lt).cell 2).trans rfl
      rw [h10]
      first | (go_simp; done) | (go_simp; rfl)
    refine StepsAt.cons 12 (fun _ _ _ h hb => h) (fun _ _ => rfl) rfl rfl (fun x X9 hb hd K hK => ?_) ?_
    · have h1 : Hid (x 1 = .agg (bys I).toArray) := hd 1 (by kernel_rfl)
      have h8 : Hid (x 8 = .int .i64 (T : Int)) := hd 8 (by kernel_rfl)
      have h9 : Hid (x 9 = .agg (bys C).toArray) := hd 9 (by kernel_rfl)
      have h11 : Hid (x 11 = .slice As (32 * h) cs) := hd 11 (by kernel_rfl)
      go_simp
      refine calls_args (args2 := #[.agg (bys I).toArray, .int .i64 (T : Int), .agg (bys C).toArray, .slice As (32 * h) cs]) (by rw [h1.out, h8.out, h9.out, h11.out]) ?_
      refine (climb_any I C sibs h T _ _ HI.out HCL.out HH1.out HH5.out HT1.out HT2.out HSB.out (((RS.out.below MB.out).below (hb.mono MB.out.size)).more (Nat.le_trans MB.out.size hb.size))).mono ?_
      rintro e w2 ⟨rfl, hb2⟩
      rw [HFE.out]
      exact hK.out _ _ hb2 rfl
    refine StepsAt.val 13 (.pointer (some ⟨g9, 20, none⟩)) rfl (fun _ _ => rfl) rfl rfl (fun x X9 hb hd => ?_) ?_
    · first | (go_simp; done) | (go_simp; rfl)
    refine StepsAt.val 14 (.agg (bys R).toArray) rfl (fun _ _ => rfl) rfl rfl (fun x X9 hb hd => ?_) ?_
    · have h13 : x 13 = .pointer (some ⟨g9, 20, none⟩) := hd 13 (by kernel_rfl)
      exact run_load_mid 28 (.tmp 53) rfl g9 20 (by exact h13) (bys R) (kyl_rangeR (M9.out.below hb M9.out.lt) rfl HI.out) 32 5 tu24 H24r.out
    refine StepsAt.val 15 (.bool (!b)) rfl (fun _ _ => rfl) rfl rfl (fun x X9 hb hd => ?_) ?_
    · have h12 : x 12 = .agg (bys F).toArray := hd 12 (by kernel_rfl)
      have h14 : x 14 = .agg (bys R).toArray := hd 14 (by kernel_rfl)
      rw [h12, h14]
      have hq := HEQ.out X9
      first | (go_simp; done) | (go_simp; rfl)
    exact StepsAt.done
  case fin =>
    intro x X9 hb hd
    have h15 : x 15 = .bool (!b) := hd 15 (by omega)
    refine AnyTill.any (S := fun _ => True) (m := 16) _ _ _ _ ?_
    refine AnyTill.done (by kernel_rfl) ?_
    refine NoPanic.normal ?_
    dsimp only
    rw [h15]
    have TB : Hid (Below w.heap.size w X9) := MB.out.trans (hb.mono MB.out.size)
    generalize x 0 = y0
    generalize x 1 = y1
    generalize x 2 = y2
    generalize x 3 = y3
    generalize x 4 = y4
    generalize x 5 = y5
    generalize x 6 = y6
    generalize x 7 = y7
    generalize x 8 = y8
    generalize x 9 = y9
    generalize x 10 = y10
    generalize x 11 = y11
    generalize x 12 = y12
    generalize x 13 = y13
    generalize x 14 = y14
    clear hd h15 hb M7 M8 M9 MB HEQ x
    cases b with
    | true =>
      have hz : Z = 0 := by rw [HBZ.out]; rfl
      subst hz
      go_wp2
      rw [jump_ret]
      go_ret
      exact ⟨rfl, TB.out⟩
    | false =>
      have hz : Z = 16 := by rw [HBZ.out]; rfl
      subst hz
      go_wp2
      refine wp_goto ⟨rfl, ?_⟩
      go_wp2
      rw [Exit.noGoto_ret]
      go_ret
      exact ⟨rfl, TB.out⟩
end Go.Proofs.Ytnemkefmlffigaa
