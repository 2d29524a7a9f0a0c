/-
  Texts K8 K9.
-/
import Derived.Test.YtgfobinklijkpaaGreatDoorX01
import Derived.Test.YtgfobinklijkpaaGreatDoorX26
import Derived.Test.YtgfobinklijkpaaGreatDoorX28
import Derived.Test.YtgfobinklijkpaaGreatDoorX32
namespace Go.Proofs.YtgfobinklijkpaaGreatDoor
set_option maxRecDepth 100000
set_option maxHeartbeats 16000000
open Go.RowKit
def OwnRps (e es : TypeId) (base : Nat) (w : World) (v : Value) (l : List Rp) : Prop :=
 ∃ ss : List SlT, ss.length = l.length ∧ OwnE RvK e w base v (rvs l ss) ∧ ∀ j, j < l.length → OwnE StK es w base (slv (ss.getD j sl0)) (pN (l.getD j rp0))
theorem OwnRps.rd {e es : TypeId} {base : Nat} {w : World} {v : Value} {l : List Rp} (h : OwnRps e es base w v l) : RdRp w.heap.size w v l := by
 obtain ⟨ss, h1, h2, h3⟩ := h
 exact ⟨ss, h1, h2.rd, fun j hj => RdS.ofE (h3 j hj).rd⟩
structure OwnRm (base : Nat) (w : World) (vN vS vW vL : Value) (r : Rm) : Prop where
 n : OwnE NdK 157 w base vN (mN r)
 s : OwnE SeK 160 w base vS (mS r)
 t : OwnE WaK 163 w base vW (mW r)
 l : OwnRps 79 9 base w vL (mL r)
theorem OwnRm.rd {base : Nat} {w : World} {vN vS vW vL : Value} {r : Rm} (h : OwnRm base w vN vS vW vL r) : RdRm w.heap.size w vN vS vW vL r := ⟨RdNd.ofE h.n.rd, h.s.rd, h.t.rd, h.l.rd⟩
def DetM (r : Rm) (w : World) (e : Ending) (w' : World) : Prop := ∃ vN vS vW vL, e = .returned (.agg (rmc (mT r) vN vS vW vL).toArray) ∧ OwnRm w.heap.size w' vN vS vW vL r ∧ Below w.heap.size w w'
structure FewR (r : Rm) : Prop where
 n : (mN r).length ≤ 1000
 s : (mS r).length ≤ 1000
 w : (mW r).length ≤ 1000
 l : (mL r).length ≤ 1000
 names : ∀ x ∈ mL r, (pN x).length ≤ 1000
def DetI (r : Rm) (B g2 : Nat) (w wr : World) (vN vS vW vL : Value) (k : Nat) : Prop :=
 ∃ ss : List SlT, ss.length = (mL r).length ∧ OwnE RvK 79 wr B vL (rvs (mL r) ss) ∧ (∀ j, j < k → OwnE StK 9 wr B (slv (ss.getD j sl0)) (pN ((mL r).getD j rp0))) ∧ (∀ j, k ≤ j → j < (mL r).length → RdS B w (slv (ss.getD j sl0)) (pN ((mL r).getD j rp0))) ∧
   Blk wr B (rmc (mT r) vN vS vW vL) 50 ∧ Blk wr g2 (rmc 0 (.slice none 0 0) (.slice none 0 0) (.slice none 0 0) (.slice none 0 0)) 50 ∧ OwnE NdK 157 wr B vN (mN r) ∧ OwnE SeK 160 wr B vS (mS r) ∧ OwnE WaK 163 wr B vW (mW r) ∧ Below B w wr
theorem getD_set_self {α : Type} (l : List α) (k : Nat) (d : α) : l.set k (l.getD k d) = l := by
 by_cases h : k < l.length
 ·rw [List.getD_eq_getElem?_getD, List.getElem?_eq_getElem h]
  exact List.set_getElem_self h
 ·rw [List.set_eq_of_length_le (by omega)]
theorem getD_set_at {α : Type} (l : List α) (k : Nat) (x d : α) (h : k < l.length) : (l.set k x).getD k d = x := by
 rw [List.getD_eq_getElem?_getD, List.getElem?_set_self h]
 rfl
theorem getD_set_ne' {α : Type} (l : List α) (k j : Nat) (x d : α) (h : k ≠ j) : (l.set k x).getD j d = l.getD j d := by
 rw [List.getD_eq_getElem?_getD, List.getElem?_set_ne h, ← List.getD_eq_getElem?_getD]
theorem detachedM_any (r : Rm) (vN vS vW vL : Value) (w : World) (hr : RdRm w.heap.size w vN vS vW vL r) (hf : FewR r) : Calls Tryz.prog 44 #[.agg (rmc (mT r) vN vS vW vL).toArray] w (DetM r w) := by
 obtain ⟨AN, cN, hvN, -, -⟩ := hr.n.shape
 obtain ⟨nN, hnN⟩ : ∃ q, (mN r).length = q := ⟨_, rfl⟩
 rw [hnN] at hvN
 clear hnN
 subst hvN
 obtain ⟨AS, cS, hvS, -, -⟩ := hr.s.shape
 obtain ⟨nS, hnS⟩ : ∃ q, (mS r).length = q := ⟨_, rfl⟩
 rw [hnS] at hvS
 clear hnS
 subst hvS
 obtain ⟨AW, cW, hvW, -, -⟩ := hr.t.shape
 obtain ⟨nW, hnW⟩ : ∃ q, (mW r).length = q := ⟨_, rfl⟩
 rw [hnW] at hvW
 clear hnW
 subst hvW
 obtain ⟨AL, cL, hvL, -, -⟩ := hr.l.shape
 obtain ⟨nL, hnL⟩ : ∃ q, (mL r).length = q := ⟨_, rfl⟩
 rw [hnL] at hvL
 clear hnL
 subst hvL
 obtain ⟨ss, hss, hsv, hsn⟩ := hr.l
 have HSS := lhd hss
 have HSV := lhd hsv
 have HSN := lhd hsn
 have HRN := lhd hr.n.toE
 have HRS := lhd hr.s
 have HRW := lhd hr.t
 have HF := lhd hf
 have hfl := hf.l
 clear hr hf hss hsv hsn
 obtain ⟨dR, huR, hdR⟩ := rowRmP
 obtain ⟨dP, huP, hdP⟩ := rowRpT
 go_enter Tryz.func44, Tryz.ntmps44
 go_wp2_with (refine wpList_box_blk rfl 50 _ rfl (rmc (mT r) (.slice AN nN cN) (.slice AS nS cS) (.slice AW nW cW) (.slice AL nL cL)) rfl ?_)
 intro w1 b1 b2 b3
 go_wp2_with (refine wpList_alloc_blk rfl 50 rfl (rmc 0 (.slice none 0 0) (.slice none 0 0) (.slice none 0 0) (.slice none 0 0)) zeroRmP ?_)
 intro w2 e1 e2 e3
 obtain ⟨B, hB⟩ : ∃ g, w.heap.size = g := ⟨_, rfl⟩
 obtain ⟨g2, hg2⟩ : ∃ g, w.heap.size + 1 = g := ⟨_, rfl⟩
 have X1 := lhd (b1.below e3 (by omega))
 have X2 := lhd e1
 have HB := lhd (b3.trans (e3.mono (by omega)))
 have ne12 : B ≠ g2 := by omega
 have hBg : B ≤ g2 := by omega
 have hg2B : g2 < B + 2 := by omega
 have hs2 : B + 2 ≤ w2.heap.size := by omega
 rw [hg2] at X2 ⊢
 rw [hB] at X1 HB ⊢
 have HBB := lhd hB
 rw [hB] at HSV HSN HRN HRS HRW
 clear b1 b2 b3 e1 e2 e3 hg2 hB
 have cc := X1.out.at_ 0 _ rfl
 have hl1 := X1.out.lt
 have hl2 := X2.out.lt
 go_wp2_with fail
 refine (clone_any (mN r) (.slice AN nN cN) w2 (RdNd.ofE ((HRN.out.below HB.out).more (show B ≤ w2.heap.size by omega))) (by have := HF.out.n; omega)).mono ?_
 rintro e w3 ⟨u, rfl, ho, hb⟩
 have ON := lhd (show OwnE NdK 157 w3 B u (mN r) from OwnE.base (show OwnE NdK 157 w3 w2.heap.size u (mN r) from ho) (show B ≤ w2.heap.size by omega))
 obtain ⟨ANq, cNq, hu⟩ := ON.out.shape
 obtain ⟨nNq, hn⟩ : ∃ q, (mN r).length = q := ⟨_, rfl⟩
 rw [hn] at hu
 subst hu
 have X1a := lhd (X1.out.below hb hl1)
 have X2a := lhd (X2.out.below hb hl2)
 have HBa := lhd (HB.out.trans (hb.mono (show B ≤ w2.heap.size by omega)))
 have hsz := hb.size
 clear cc ho hb hn X1 X2 HB hl1 hl2
 go_wp2_with (refine wpList_store_fld rfl 39 _ _ rfl B 0 (rmc (mT r) (.slice AN nN cN) (.slice AS nS cS) (.slice AW nW cW) (.slice AL nL cL)) (.slice ANq nNq cNq) 50 rfl rfl X1a.out (by kernel_rfl) (by show 0 < 5; decide) rfl ?_)
 intro w4 e1 e2 e3 e4
 have X1 : Hid (Blk w4 B (rmc (mT r) (.slice ANq nNq cNq) (.slice AS nS cS) (.slice AW nW cW) (.slice AL nL cL)) 50) := e1
 have X2 := lhd (X2a.out.same (e4 g2 ne12.symm))
 have HB := lhd (HBa.out.trans e3)
 have hs4 : B + 2 ≤ w4.heap.size := by omega
 have ON := lhd (ON.out.keep (T := fun e => e = 50) (.store (b := B) X1a.out rfl (Nat.le_refl _) e2 e4) (by decide))
 clear e1 e2 e3 e4 X1a X2a HBa hs2 hsz
 have cc := X1.out.at_ 2 _ rfl
 have hl1 := X1.out.lt
 have hl2 := X2.out.lt
 go_wp2_with fail
 refine (clone_anySe (mS r) (.slice AS nS cS) w4 (((HRS.out.below HB.out).more (show B ≤ w4.heap.size by omega))) (by have := HF.out.s; omega)).mono ?_
 rintro e w5 ⟨u, rfl, ho, hb⟩
 have OS := lhd (show OwnE SeK 160 w5 B u (mS r) from OwnE.base (show OwnE SeK 160 w5 w4.heap.size u (mS r) from ho) (show B ≤ w4.heap.size by omega))
 obtain ⟨ASq, cSq, hu⟩ := OS.out.shape
 obtain ⟨nSq, hn⟩ : ∃ q, (mS r).length = q := ⟨_, rfl⟩
 rw [hn] at hu
 subst hu
 have X1a := lhd (X1.out.below hb hl1)
 have X2a := lhd (X2.out.below hb hl2)
 have HBa := lhd (HB.out.trans (hb.mono (show B ≤ w4.heap.size by omega)))
 have hsz := hb.size
 have ON := lhd (ON.out.below hb (Nat.le_refl _))
 clear cc ho hb hn X1 X2 HB hl1 hl2
 go_wp2_with (refine wpList_store_fld rfl 42 _ _ rfl B 2 (rmc (mT r) (.slice ANq nNq cNq) (.slice AS nS cS) (.slice AW nW cW) (.slice AL nL cL)) (.slice ASq nSq cSq) 50 rfl rfl X1a.out (by kernel_rfl) (by show 2 < 5; decide) rfl ?_)
 intro w6 e1 e2 e3 e4
 have X1 : Hid (Blk w6 B (rmc (mT r) (.slice ANq nNq cNq) (.slice ASq nSq cSq) (.slice AW nW cW) (.slice AL nL cL)) 50) := e1
 have X2 := lhd (X2a.out.same (e4 g2 ne12.symm))
 have HB := lhd (HBa.out.trans e3)
 have hs6 : B + 2 ≤ w6.heap.size := by omega
 have ON := lhd (ON.out.keep (T := fun e => e = 50) (.store (b := B) X1a.out rfl (Nat.le_refl _) e2 e4) (by decide))
 have OS := lhd (OS.out.keep (T := fun e => e = 50) (.store (b := B) X1a.out rfl (Nat.le_refl _) e2 e4) (by decide))
 clear e1 e2 e3 e4 X1a X2a HBa hs4 hsz
 have cc := X1.out.at_ 3 _ rfl
 have hl1 := X1.out.lt
 have hl2 := X2.out.lt
 go_wp2_with fail
 refine (clone_anyWa (mW r) (.slice AW nW cW) w6 (((HRW.out.below HB.out).more (show B ≤ w6.heap.size by omega))) (by have := HF.out.w; omega)).mono ?_
 rintro e w7 ⟨u, rfl, ho, hb⟩
 have OW := lhd (show OwnE WaK 163 w7 B u (mW r) from OwnE.base (show OwnE WaK 163 w7 w6.heap.size u (mW r) from ho) (show B ≤ w6.heap.size by omega))
 obtain ⟨AWq, cWq, hu⟩ := OW.out.shape
 obtain ⟨nWq, hn⟩ : ∃ q, (mW r).length = q := ⟨_, rfl⟩
 rw [hn] at hu
 subst hu
 have X1a := lhd (X1.out.below hb hl1)
 have X2a := lhd (X2.out.below hb hl2)
 have HBa := lhd (HB.out.trans (hb.mono (show B ≤ w6.heap.size by omega)))
 have hsz := hb.size
 have ON := lhd (ON.out.below hb (Nat.le_refl _))
 have OS := lhd (OS.out.below hb (Nat.le_refl _))
 clear cc ho hb hn X1 X2 HB hl1 hl2
 go_wp2_with (refine wpList_store_fld rfl 45 _ _ rfl B 3 (rmc (mT r) (.slice ANq nNq cNq) (.slice ASq nSq cSq) (.slice AW nW cW) (.slice AL nL cL)) (.slice AWq nWq cWq) 50 rfl rfl X1a.out (by kernel_rfl) (by show 3 < 5; decide) rfl ?_)
 intro w8 e1 e2 e3 e4
 have X1 : Hid (Blk w8 B (rmc (mT r) (.slice ANq nNq cNq) (.slice ASq nSq cSq) (.slice AWq nWq cWq) (.slice AL nL cL)) 50) := e1
 have X2 := lhd (X2a.out.same (e4 g2 ne12.symm))
 have HB := lhd (HBa.out.trans e3)
 have hs8 : B + 2 ≤ w8.heap.size := by omega
 have ON := lhd (ON.out.keep (T := fun e => e = 50) (.store (b := B) X1a.out rfl (Nat.le_refl _) e2 e4) (by decide))
 have OS := lhd (OS.out.keep (T := fun e => e = 50) (.store (b := B) X1a.out rfl (Nat.le_refl _) e2 e4) (by decide))
 have OW := lhd (OW.out.keep (T := fun e => e = 50) (.store (b := B) X1a.out rfl (Nat.le_refl _) e2 e4) (by decide))
 clear e1 e2 e3 e4 X1a X2a HBa hs6 hsz
 have cc := X1.out.at_ 4 _ rfl
 have hl1 := X1.out.lt
 have hl2 := X2.out.lt
 go_wp2_with fail
 refine (clone_anyRv (rvs (mL r) ss) (.slice AL nL cL) w8 (((HSV.out.below HB.out).more (show B ≤ w8.heap.size by omega))) (by rw [rvs_len HSS.out]; omega)).mono ?_
 rintro e w9 ⟨u, rfl, ho, hb⟩
 have OL := lhd (show OwnE RvK 79 w9 B u (rvs (mL r) ss) from OwnE.base (show OwnE RvK 79 w9 w8.heap.size u (rvs (mL r) ss) from ho) (show B ≤ w8.heap.size by omega))
 obtain ⟨ALq, cLq, hu⟩ := OL.out.shape
 obtain ⟨nLq, hn⟩ : ∃ q, (rvs (mL r) ss).length = q := ⟨_, rfl⟩
 rw [hn] at hu
 subst hu
 have HNQ : Hid (nLq = (mL r).length) := by
  show _ = _
  rw [← hn, rvs_len HSS.out]
 have X1a := lhd (X1.out.below hb hl1)
 have X2a := lhd (X2.out.below hb hl2)
 have HBa := lhd (HB.out.trans (hb.mono (show B ≤ w8.heap.size by omega)))
 have hsz := hb.size
 have ON := lhd (ON.out.below hb (Nat.le_refl _))
 have OS := lhd (OS.out.below hb (Nat.le_refl _))
 have OW := lhd (OW.out.below hb (Nat.le_refl _))
 clear cc ho hb hn X1 X2 HB hl1 hl2
 go_wp2_with (refine wpList_store_fld rfl 48 _ _ rfl B 4 (rmc (mT r) (.slice ANq nNq cNq) (.slice ASq nSq cSq) (.slice AWq nWq cWq) (.slice AL nL cL)) (.slice ALq nLq cLq) 50 rfl rfl X1a.out (by kernel_rfl) (by show 4 < 5; decide) rfl ?_)
 intro w10 e1 e2 e3 e4
 have X1 : Hid (Blk w10 B (rmc (mT r) (.slice ANq nNq cNq) (.slice ASq nSq cSq) (.slice AWq nWq cWq) (.slice ALq nLq cLq)) 50) := e1
 have X2 := lhd (X2a.out.same (e4 g2 ne12.symm))
 have HB := lhd (HBa.out.trans e3)
 have hs10 : B + 2 ≤ w10.heap.size := by omega
 have ON := lhd (ON.out.keep (T := fun e => e = 50) (.store (b := B) X1a.out rfl (Nat.le_refl _) e2 e4) (by decide))
 have OS := lhd (OS.out.keep (T := fun e => e = 50) (.store (b := B) X1a.out rfl (Nat.le_refl _) e2 e4) (by decide))
 have OW := lhd (OW.out.keep (T := fun e => e = 50) (.store (b := B) X1a.out rfl (Nat.le_refl _) e2 e4) (by decide))
 have OL := lhd (OL.out.keep (T := fun e => e = 50) (.store (b := B) X1a.out rfl (Nat.le_refl _) e2 e4) (by decide))
 clear e1 e2 e3 e4 X1a X2a HBa hs8 hsz
 have c4 := X1.out.at_ 4 _ rfl
 have hsw : B + 2 ≤ w10.heap.size := hs10
 obtain ⟨wS, hwS⟩ : ∃ q, w10 = q := ⟨_, rfl⟩
 rw [hwS] at X1 X2 HB ON OS OW OL c4 hsw ⊢
 clear hwS hs10
 have INV : Hid (DetI r B g2 w wS (.slice ANq nNq cNq) (.slice ASq nSq cSq) (.slice AWq nWq cWq) (.slice ALq nLq cLq) 0) := ⟨ss, HSS.out, OL.out, fun j hj => absurd hj (Nat.not_lt_zero j), fun j _ hj => HSN.out j hj, X1.out, X2.out, ON.out, OS.out, OW.out, HB.out⟩
 clear OL X1 X2 ON OS OW HB
 have hn9 : nLq ≤ 1000 := by rw [HNQ.out]; exact hfl
 go_wp2
 go_loopw [30] (fun y wr => ∃ k : Nat, k ≤ nLq ∧ y = .int .i64 (k : Int) ∧ Hid (DetI r B g2 w wr (.slice ANq nNq cNq) (.slice ASq nSq cSq) (.slice AWq nWq cWq) (.slice ALq nLq cLq) k) ∧ Hid (B + 2 ≤ wr.heap.size)) (fun y _ => nLq - (intOf y).toNat)
 case atStart => exact ⟨0, Nat.zero_le _, rfl, INV, hsw⟩
 case round =>
  obtain ⟨k, hk, rfl, HI, hsr⟩ := hrel
  clear INV c4
  obtain ⟨ss, hss, hO, hn1, hn2, X1, X2, hN, hS, hW, HB⟩ := HI.out
  have hnq := HNQ.out
  by_cases hkn : k < nLq
  ·have zi : (k : Int) < (nLq : Int) := by omega
   have hkl : k < (mL r).length := by omega
   obtain ⟨gQ, cQ2, hgq, -, hgb, hgl⟩ := hO.inBlock (by rw [rvs_len hss]; omega)
   injection hgq with q1 q2 q3
   subst q1
   clear q2 q3
   obtain ⟨yy, hx⟩ : ∃ q, (mL r).getD k rp0 = q := ⟨_, rfl⟩
   obtain ⟨sx, hsx⟩ : ∃ q, ss.getD k sl0 = q := ⟨_, rfl⟩
   have hnd : ∀ j v, (rpc yy (slv sx))[j]? = some v → wr.cell? ((⟨gQ, 0, none⟩ : Addr).add (k * 6) |>.add j) = some v := by
    intro j v hv
    refine hO.rd.node k (by rw [rvs_len hss]; exact hkl) j v ?_
    show (rvc ((rvs (mL r) ss).getD k rv0))[j]? = some v
    rw [rvs_at hss k hkl, hx, hsx]
    exact hv
   have hxn : RdE StK B w (slv sx) (pN yy) := by
    have h := (hn2 k (Nat.le_refl _) hkl).toE
    rw [hsx, hx] at h
    exact h
   have hxf : (pN yy).length ≤ 1000 := by
    rw [← hx]
    refine HF.out.names _ ?_
    rw [List.getD_eq_getElem?_getD, List.getElem?_eq_getElem hkl]
    exact List.getElem_mem _
   have HSQ := lhd hss
   have HO := lhd hO
   have HN1 := lhd hn1
   have HN2 := lhd hn2
   have Y1 := lhd X1
   have Y2 := lhd X2
   have HN := lhd hN
   have HS := lhd hS
   have HW := lhd hW
   have HBr := lhd HB
   have HX := lhd hx
   have HXN := lhd hxn
   have HXF := lhd hxf
   have HKL := lhd hkl
   obtain ⟨An, nn, cn, hsv⟩ : ∃ A n c, slv sx = .slice A n c := ⟨_, _, _, rfl⟩
   rw [hsv] at hnd HXN
   have hlr := hsr.out
   clear hss hO hn1 hn2 X1 X2 hN hS hW HB HI hx hsx hxn hxf hnq hsv hkl
   go_wp2_with (first | refine wpList_load_rowE rfl 79 _ rfl ((⟨gQ, 0, none⟩ : Addr).add (k * 6)) (by first | rfl | (simp [Act.eval, Act.put, Addr.add])) (rpc yy (.slice An nn cn)) hnd dP huP hdP szRpT ?_ | refine wpList_alloc_blk rfl 79 rfl (rpc rp0 (.slice none 0 0)) zeroRpT ?_)
   intro wa a1 a2 a3
   obtain ⟨g4, hg4⟩ : ∃ g, wr.heap.size = g := ⟨_, rfl⟩
   have P4 := lhd a1
   have Y1 := lhd (Y1.out.below a3 (by omega))
   have Y2 := lhd (Y2.out.below a3 (by have := Y2.out.lt; omega))
   have HO := lhd (HO.out.below a3 (Nat.le_refl _))
   have HN := lhd (HN.out.below a3 (Nat.le_refl _))
   have HS := lhd (HS.out.below a3 (Nat.le_refl _))
   have HW := lhd (HW.out.below a3 (Nat.le_refl _))
   have HN1 : Hid (∀ j, j < k → OwnE StK 9 wa B (slv (ss.getD j sl0)) (pN ((mL r).getD j rp0))) := lhd (fun j hj => (HN1.out j hj).below a3 (Nat.le_refl _))
   have HBr := lhd (HBr.out.trans (a3.mono (by omega)))
   have neq4 : gQ ≠ g4 := by omega
   have ne24 : g2 ≠ g4 := by omega
   have neB4 : B ≠ g4 := by omega
   have hb4 : B ≤ g4 := by omega
   rw [hg4] at P4 ⊢
   clear a1 a2 a3 hg4 hnd
   go_wp2_with (refine wpList_store_to rfl 79 _ _ rfl g4 (rpc yy (.slice An nn cn)) (rpc rp0 (.slice none 0 0)) 79 rfl rfl P4.out szRpT rfl (rpc_allM _ _ _ _) ?_)
   intro wb e1 e2 e3 e4
   have P4a := lhd e1
   have Y1 := lhd (Y1.out.same (e4 B neB4))
   have Y2 := lhd (Y2.out.same (e4 g2 ne24))
   have KP := lhd (Keep.store (T := fun e => e = 79) (b := B) P4.out rfl hb4 e2 e4)
   have HO : Hid (OwnE RvK 79 wb B (.slice (some ⟨gQ, 0, none⟩) nLq cLq) (rvs (mL r) ss)) := ownsRow_but HO.out (fun e => neq4 (by injection e)) e4
   have HN := lhd (HN.out.keep KP.out (by decide))
   have HS := lhd (HS.out.keep KP.out (by decide))
   have HW := lhd (HW.out.keep KP.out (by decide))
   have HN1 : Hid (∀ j, j < k → OwnE StK 9 wb B (slv (ss.getD j sl0)) (pN ((mL r).getD j rp0))) := lhd (fun j hj => (HN1.out j hj).keep KP.out (by decide))
   have HBr := lhd (HBr.out.trans (e3.mono hb4))
   clear e1 e2 e3 e4 KP P4
   go_wp2
   have hdw : Below wb.heap.size wb wb.drew := (Below.refl _ _).drew
   have P4a := lhd P4a.out.drew
   have Y1 := lhd Y1.out.drew
   have Y2 := lhd Y2.out.drew
   have HO := lhd (HO.out.below hdw (Nat.le_refl _))
   have HN := lhd (HN.out.below hdw (Nat.le_refl _))
   have HS := lhd (HS.out.below hdw (Nat.le_refl _))
   have HW := lhd (HW.out.below hdw (Nat.le_refl _))
   have HN1 : Hid (∀ j, j < k → OwnE StK 9 wb.drew B (slv (ss.getD j sl0)) (pN ((mL r).getD j rp0))) := lhd (fun j hj => (HN1.out j hj).below hdw (Nat.le_refl _))
   have HBr := lhd HBr.out.drew
   clear hdw
   obtain ⟨FF, hF⟩ : ∃ F : (Nat → Value) → Act, F = fun x => ⟨#[.agg (rmc (mT r) (Value.slice AN nN cN) (Value.slice AS nS cS) (Value.slice AW nW cW) (Value.slice AL nL cL)).toArray, .pointer (some { block := B, off := 0 }), .pointer (some { block := g2, off := 0 }), .int IntKind.i64 ↑k, .pointer (some { block := g4, off := 0 }), .pointer (some { block := B, off := 0 }), .pointer (some { block := B, off := 0 }), .slice AN nN cN, .slice ANq nNq cNq, .pointer (some { block := B, off := 0 }), .pointer (some { block := B, off := 0 }), .pointer (some { block := B, off := 1 }), .pointer (some { block := B, off := 2 }), .slice AS nS cS, .slice ASq nSq cSq, .pointer (some { block := B, off := 1 }), .pointer (some { block := B, off := 2 }), .pointer (some { block := B, off := 3 }), .pointer (some { block := B, off := 3 }), .slice AW nW cW, .slice AWq nWq cWq, .pointer (some { block := B, off := 3 }), .pointer (some { block := B, off := 3 }), .pointer (some { block := B, off := 4 }), .slice AL nL cL, .slice (some { block := gQ, off := 0 }) nLq cLq, .pointer (some { block := B, off := 4 }), .pointer (some { block := B, off := 4 }), .slice (some { block := gQ, off := 0 }) nLq cLq, .int IntKind.i64 ↑nLq, .int IntKind.i64 ↑k, .bool true, .int IntKind.i64 ↑k, .pointer (some { block := gQ, off := k * 6 }), .agg (rpc yy (Value.slice An nn cn)).toArray, x 0, x 1, x 2, x 3, x 4, x 5, u41, undef], []⟩ := ⟨_, rfl⟩
   have HFF := lhd hF
   refine wp_region_tillK 7 FF (fun k => [u35, u36, u37, u38, u39, u40, undef].getD k undef) (fun w9 => Blk w9 B (rmc (mT r) (.slice ANq nNq cNq) (.slice ASq nSq cSq) (.slice AWq nWq cWq) (.slice (some ⟨gQ, 0, none⟩) nLq cLq)) 50 ∧ Blk w9 g4 (rpc yy (.slice An nn cn)) 79) (by rw [hF]; rfl) rfl (by kernel_rfl) ?_
   intro x hL
   clear hF
   obtain ⟨wA, hwA⟩ : ∃ q, wb.drew = q := ⟨_, rfl⟩
   rw [hwA] at P4a Y1 Y2 HO HN HS HW HN1 HBr ⊢
   clear hwA
   refine AnyTill.takeK 0 (.pointer (some ⟨B, 4, none⟩)) rfl (by kernel_rfl) rfl rfl (by kernel_rfl) (by kernel_rfl) HFF (wanted_none rfl) (fun _ _ => rfl) hL rfl (fun w9 hS9 => ?_) (by exact ⟨Y1.out, P4a.out⟩) ?_
   ·(go_simp; try rfl)
   clear hL x
   intro x hL
   refine AnyTill.takeK 1 (.slice (some ⟨gQ, 0, none⟩) nLq cLq) rfl (by kernel_rfl) rfl rfl (by kernel_rfl) (by kernel_rfl) HFF (wanted_none rfl) (fun _ _ => rfl) hL rfl (fun w9 hS9 => ?_) (by exact ⟨Y1.out, P4a.out⟩) ?_
   ·have q0 := hL.at_ 0 rfl
    rw [q0]
    have cc := hS9.1.at_ 4 _ rfl
    (go_simp; try rfl)
   clear hL x
   intro x hL
   refine AnyTill.takeK 2 (.int IntKind.i64 ↑k) rfl (by kernel_rfl) rfl rfl (by kernel_rfl) (by kernel_rfl) HFF (wanted_none rfl) (fun _ _ => rfl) hL rfl (fun w9 hS9 => ?_) (by exact ⟨Y1.out, P4a.out⟩) ?_
   ·(go_simp; try rfl)
   clear hL x
   intro x hL
   refine AnyTill.takeK 3 (.agg (rpc yy (.slice An nn cn)).toArray) rfl (by kernel_rfl) rfl rfl (by kernel_rfl) (by kernel_rfl) HFF (wanted_none rfl) (fun _ _ => rfl) hL rfl (fun w9 hS9 => ?_) (by exact ⟨Y1.out, P4a.out⟩) ?_
   ·obtain ⟨d9, hu9, hd9⟩ := rowRpT
    exact run_load_part 79 _ rfl g4 0 (rpc yy (.slice An nn cn)) (rpc yy (.slice An nn cn)) 79 rfl hS9.2 rfl hu9 hd9 szRpT
   clear hL x
   intro x hL
   refine AnyTill.oneK 4 (by kernel_rfl) rfl HFF (wanted_none rfl) (fun _ _ => rfl) hL rfl (fun K hK => ?_)
   have q3 := lhd (hL.at_ 0 rfl)
   go_simp
   refine calls_args (args2 := #[.agg (rpc yy (.slice An nn cn)).toArray]) (by rw [q3.out]) ?_
   refine (detRp_any yy (.slice An nn cn) wA ((HXN.out.below HBr.out).more (by have := HBr.out.size; have := P4a.out.lt; omega)) (by have := HXF.out; omega)).mono ?_
   rintro e wc ⟨nv, rfl, hon, hb⟩
   obtain ⟨Am, cm, hnv⟩ := hon.shape
   obtain ⟨nm, hnm⟩ : ∃ q, (pN yy).length = q := ⟨_, rfl⟩
   rw [hnm] at hnv
   subst hnv
   clear hnm
   have hszA : B ≤ wA.heap.size := by have := P4a.out.lt; omega
   have HM := lhd (hon.base hszA)
   have P4b := lhd (P4a.out.below hb P4a.out.lt)
   have Z1 := lhd (Y1.out.below hb Y1.out.lt)
   have Z2 := lhd (Y2.out.below hb Y2.out.lt)
   have HO := lhd (HO.out.below hb (Nat.le_refl _))
   have HN := lhd (HN.out.below hb (Nat.le_refl _))
   have HS := lhd (HS.out.below hb (Nat.le_refl _))
   have HW := lhd (HW.out.below hb (Nat.le_refl _))
   have HN1 : Hid (∀ j, j < k → OwnE StK 9 wc B (slv (ss.getD j sl0)) (pN ((mL r).getD j rp0))) := lhd (fun j hj => (HN1.out j hj).below hb (Nat.le_refl _))
   have HBc := lhd (HBr.out.trans (hb.mono hszA))
   refine hK.out _ wc ⟨Z1.out, P4b.out⟩ ?_
   clear hK K hb hon P4a Y1 Y2 HBr hszA
   clear hL q3 x
   intro x hL
   refine AnyTill.takeK 5 (.pointer (some ⟨gQ, k * 6, none⟩)) rfl (by kernel_rfl) rfl rfl (by kernel_rfl) (by kernel_rfl) HFF (wanted_none rfl) (fun _ _ => rfl) hL rfl (fun w9 hS9 => ?_) (by exact ⟨Z1.out, P4b.out⟩) ?_
   ·have q1 := hL.at_ 3 rfl
    have q2 := hL.at_ 2 rfl
    rw [q1, q2]
    (go_simp; try rfl)
   clear hL x
   intro x hL
   have HST := lhd (HO.out.stored k (by rw [rvs_len HSQ.out]; exact HKL.out) (rpv yy (Am, nm, cm)))
   refine AnyTill.oneK 6 (by kernel_rfl) rfl HFF (wanted_none rfl) (fun _ _ => rfl) hL rfl (fun K hK => ?_)
   have q4 := lhd (hL.at_ 1 rfl)
   have q5 := lhd (hL.at_ 0 rfl)
   refine wp_store_mid 79 _ _ rfl gQ (k * 6) (rpc yy (.slice Am nm cm)).toArray q5.out q4.out HST.out.2.1 szRpT (rpc_allM _ _ _ _) ?_
   rw [List.toList_toArray]
   have o9 : ∀ q : Nat, q ≠ gQ → (wc.setCells gQ (k * 6) (rpc yy (.slice Am nm cm))).heap[q]? = wc.heap[q]? := fun q hq => setCells_otherE gQ _ _ _ q hq
   have s9 : (wc.setCells gQ (k * 6) (rpc yy (.slice Am nm cm))).heap.size = wc.heap.size := setCells_sizeE gQ _ _ _
   obtain ⟨cur, hcur, -⟩ := HO.out.block
   have KP := lhd (Keep.store (T := fun e => e = 79) (b := B) hcur rfl hgb s9 o9)
   have hne1 : B ≠ gQ := fun e => by subst e; exact absurd (Z1.out.symm.trans hcur) (by intro h; injection h with h; injection h with _ h; exact absurd h (by decide))
   have hne2 : g2 ≠ gQ := fun e => by subst e; exact absurd (Z2.out.symm.trans hcur) (by intro h; injection h with h; injection h with _ h; exact absurd h (by decide))
   have HI2 : Hid (DetI r B g2 w (wc.setCells gQ (k * 6) (rpc yy (.slice Am nm cm))) (.slice ANq nNq cNq) (.slice ASq nSq cSq) (.slice AWq nWq cWq) (.slice (some ⟨gQ, 0, none⟩) nLq cLq) (k + 1)) := by
    refine ⟨ss.set k (Am, nm, cm), by rw [List.length_set]; exact HSQ.out, ?_, ?_, ?_, Z1.out.same (o9 B hne1), Z2.out.same (o9 g2 hne2), HN.out.keep KP.out (by decide), HS.out.keep KP.out (by decide), HW.out.keep KP.out (by decide), HBc.out.trans (below_setCellsE hgb _ _ _ (Below.refl _ _))⟩
    ·have hq : (rvs (mL r) ss).set k (rpv yy (Am, nm, cm)) = rvs (mL r) (ss.set k (Am, nm, cm)) := by
      have e := getD_set_self (mL r) k rp0
      rw [HX.out] at e
      rw [rvs_set, e]
     rw [← hq]
     exact HST.out.1
    ·intro j hj
     by_cases hjk : j = k
     ·subst hjk
      rw [getD_set_at _ _ _ _ (by rw [HSQ.out]; exact HKL.out), HX.out]
      exact HM.out.keep KP.out (by decide)
     ·rw [getD_set_ne' _ _ _ _ _ (fun e => hjk e.symm)]
      exact (HN1.out j (by omega)).keep KP.out (by decide)
    ·intro j h1 h2
     rw [getD_set_ne' _ _ _ _ _ (by omega)]
     exact HN2.out j (by omega) h2
   have hs9 : Hid (B + 2 ≤ (wc.setCells gQ (k * 6) (rpc yy (.slice Am nm cm))).heap.size) := lhd (by rw [s9]; have := P4b.out.lt; have := hb4; omega)
   have hS9 : Blk (wc.setCells gQ (k * 6) (rpc yy (.slice Am nm cm))) B (rmc (mT r) (.slice ANq nNq cNq) (.slice ASq nSq cSq) (.slice AWq nWq cWq) (.slice (some ⟨gQ, 0, none⟩) nLq cLq)) 50 ∧ Blk (wc.setCells gQ (k * 6) (rpc yy (.slice Am nm cm))) g4 (rpc yy (.slice An nn cn)) 79 := ⟨Z1.out.same (o9 B hne1), P4b.out.same (o9 g4 (Ne.symm neq4))⟩
   obtain ⟨wd, hwd⟩ : ∃ q, wc.setCells gQ (k * 6) (rpc yy (.slice Am nm cm)) = q := ⟨_, rfl⟩
   rw [hwd] at HI2 hs9 hS9 ⊢
   refine hK.out undef wd hS9 ?_
   clear hK K hwd o9 s9 hcur KP hne1 hne2 hS9 HST HO HN HS HW HN1 HBc Z1 Z2 P4b HM
   clear hL q4 q5 x
   intro x hL
   refine AnyTill.done (by kernel_rfl) ?_
   refine NoPanic.normal ?_
   rw [HFF.out]
   try dsimp only
   clear hL HFF
   obtain ⟨x9, hx9⟩ : ∃ q, x = q := ⟨_, rfl⟩
   go_wp2
   go_roundw
   case rel => exact ⟨k + 1, by omega, by go_num, HI2, hs9⟩
   case measure => simp [intOf]; omega
  ·obtain rfl : k = nLq := by omega
   have Y1 := lhd X1
   have Y2 := lhd X2
   have HOM : Hid (OwnRm B wr (.slice ANq nNq cNq) (.slice ASq nSq cSq) (.slice AWq nWq cWq) (.slice ALq k cLq) r) := ⟨hN, hS, hW, ss, hss, hO, fun j hj => hn1 j (by omega)⟩
   have HBr := lhd HB
   clear hss hO hn1 hn2 X1 X2 hN hS hW HB HI hnq
   go_wp2_with (first | refine wpList_load_part rfl 50 _ rfl B 0 (rmc (mT r) (.slice ANq nNq cNq) (.slice ASq nSq cSq) (.slice AWq nWq cWq) (.slice ALq k cLq)) (rmc (mT r) (.slice ANq nNq cNq) (.slice ASq nSq cSq) (.slice AWq nWq cWq) (.slice ALq k cLq)) 50 rfl Y1.out rfl huR hdR szRmP ?_ | refine wpList_store_to rfl 50 _ _ rfl g2 (rmc (mT r) (.slice ANq nNq cNq) (.slice ASq nSq cSq) (.slice AWq nWq cWq) (.slice ALq k cLq)) (rmc 0 (.slice none 0 0) (.slice none 0 0) (.slice none 0 0) (.slice none 0 0)) 50 rfl rfl Y2.out szRmP rfl (rmc_all _ _ _ _ _ _ _ _ _ _ _ _ _) ?_)
   intro we e1 e2 e3 e4
   have V2 := lhd e1
   have KP := lhd (Keep.store (T := fun e => e = 50) (b := B) Y2.out rfl hBg e2 e4)
   have HBe := lhd (HBr.out.trans (e3.mono hBg))
   clear e1 e2 e3 e4
   go_wp2
   refine bodyPost_ret (v := .agg (rmc (mT r) (.slice ANq nNq cNq) (.slice ASq nSq cSq) (.slice AWq nWq cWq) (.slice ALq k cLq)).toArray) ?_ rfl ?_
   ·exact ret_blkUL rfl _ _ g2 50 (rmc (mT r) (.slice ANq nNq cNq) (.slice ASq nSq cSq) (.slice AWq nWq cWq) (.slice ALq k cLq)) rfl V2.out dR huR hdR szRmP
   ·refine ⟨_, _, _, _, rfl, ?_, by rw [HBB.out]; exact HBe.out⟩
    rw [HBB.out]
    obtain ⟨z1, z2, z3, sq, z4, z5, z6⟩ := HOM.out
    exact ⟨z1.keep KP.out (by decide), z2.keep KP.out (by decide), z3.keep KP.out (by decide), sq, z4, z5.keep KP.out (by decide), fun j hj => (z6 j hj).keep KP.out (by decide)⟩
theorem names_done (r : Rm) (o : Or) (h : RightR r) : (pN (doneR r o).2.1).length ≤ 200 := by
 have hN := h.n.few
 have hl : ((listS (mN r) (oP o)).map ba).length ≤ 200 := by
  rw [List.length_map]
  unfold listS kidsN
  split
  ·rw [List.length_map]
   have := List.length_filter_le (kidN (oP o)) (mN r)
   omega
  ·exact Nat.zero_le _
 have key : ∀ x, doneR r o = x → (pN x.2.1).length ≤ 200 := by
  intro x hx
  unfold doneR at hx
  by_cases k : oK o = 1
  ·rw [if_pos k] at hx
   by_cases k2 : noLease r o = true
   ·rw [if_pos k2] at hx
    subst hx
    exact Nat.zero_le _
   ·rw [if_neg k2] at hx
    subst hx
    exact Nat.zero_le _
  rw [if_neg k] at hx
  clear k
  by_cases k : oK o = 2
  ·rw [if_pos k] at hx
   subst hx
   first | exact Nat.zero_le _ | exact hl
  rw [if_neg k] at hx
  clear k
  by_cases k : oK o = 3
  ·rw [if_pos k] at hx
   subst hx
   first | exact Nat.zero_le _ | exact hl
  rw [if_neg k] at hx
  clear k
  by_cases k : oK o = 4
  ·rw [if_pos k] at hx
   subst hx
   first | exact Nat.zero_le _ | exact hl
  rw [if_neg k] at hx
  clear k
  by_cases k : oK o = 5
  ·rw [if_pos k] at hx
   subst hx
   first | exact Nat.zero_le _ | exact hl
  rw [if_neg k] at hx
  clear k
  by_cases k : oK o = 6
  ·rw [if_pos k] at hx
   subst hx
   first | exact Nat.zero_le _ | exact hl
  rw [if_neg k] at hx
  clear k
  by_cases k : oK o = 7
  ·rw [if_pos k] at hx
   subst hx
   first | exact Nat.zero_le _ | exact hl
  rw [if_neg k] at hx
  clear k
  by_cases k : oK o = 8
  ·rw [if_pos k] at hx
   by_cases k2 : leaseE (mS r) (oS o) = 0
   ·rw [if_pos k2] at hx
    subst hx
    exact Nat.zero_le _
   ·rw [if_neg k2] at hx
    subst hx
    exact Nat.zero_le _
  rw [if_neg k] at hx
  clear k
  by_cases k : oK o = 9
  ·rw [if_pos k] at hx
   by_cases k2 : tickE (mT r) (oT o) = 0
   ·rw [if_pos k2] at hx
    subst hx
    exact Nat.zero_le _
   ·rw [if_neg k2] at hx
    subst hx
    exact Nat.zero_le _
  rw [if_neg k] at hx
  clear k
  by_cases k : oK o = 10 ∨ oK o = 11
  ·rw [if_pos k] at hx
   subst hx
   first | exact Nat.zero_le _ | exact hl
  rw [if_neg k] at hx
  clear k
  subst hx
  exact Nat.zero_le _
 exact key _ rfl
def NamesR (l : List Rp) : Prop := ∀ x ∈ l, (pN x).length ≤ 1000
theorem fewR_of (r : Rm) (h : RightR r) (hn : NamesR (mL r)) : FewR r := by
 have h1 := h.n.few
 have h2 := h.b.few
 have h3 := h.w.few
 have h4 := h.few
 exact ⟨by omega, by omega, by omega, by omega, hn⟩
theorem names_apply (r : Rm) (o : Or) (h : RightR r) (hn : NamesR (mL r)) : NamesR (mL (applyR r o).1) ∧ (pN (applyR r o).2.1).length ≤ 1000 := by
 have hd := names_done r o h
 unfold applyR
 split
 ·exact ⟨hn, Nat.zero_le _⟩
 split
 ·rename_i h2
  exact ⟨hn, hn _ (lastR_mem _ _ h2.1).1⟩
 split
 ·exact ⟨hn, Nat.zero_le _⟩
 split
 ·exact ⟨hn, Nat.zero_le _⟩
 ·refine ⟨fun x hx => ?_, by show (pN (doneR r o).2.1).length ≤ 1000; omega⟩
  rcases seenR_mem _ _ _ x hx with rfl | ⟨hx, _⟩
  ·show (pN (doneR r o).2.1).length ≤ 1000
   omega
  ·exact hn x hx
theorem OwnE.same {α : Type} {E : RowK α} {e : TypeId} {w w' : World} {b : Nat} {v : Value} {l : List α} (h : OwnE E e w b v l) (ho : ∀ k : Nat, b ≤ k → w'.heap[k]? = w.heap[k]?) : OwnE E e w' b v l := ownsRow_same h ho
theorem OwnRm.same {b : Nat} {w w' : World} {vN vS vW vL : Value} {r : Rm} (h : OwnRm b w vN vS vW vL r) (ho : ∀ k : Nat, b ≤ k → w'.heap[k]? = w.heap[k]?) : OwnRm b w' vN vS vW vL r := by
 obtain ⟨h1, h2, h3, ss, h4, h5, h6⟩ := h
 exact ⟨h1.same ho, h2.same ho, h3.same ho, ss, h4, h5.same ho, fun j hj => (h6 j hj).same ho⟩
theorem OwnRm.below {b : Nat} {w w' : World} {vN vS vW vL : Value} {r : Rm} (h : OwnRm b w vN vS vW vL r) (hb : Below w.heap.size w w') : OwnRm b w' vN vS vW vL r := by
 obtain ⟨h1, h2, h3, ss, h4, h5, h6⟩ := h
 exact ⟨h1.below hb (Nat.le_refl _), h2.below hb (Nat.le_refl _), h3.below hb (Nat.le_refl _), ss, h4, h5.below hb (Nat.le_refl _), fun j hj => (h6 j hj).below hb (Nat.le_refl _)⟩
theorem OwnRm.base {b b' : Nat} {w : World} {vN vS vW vL : Value} {r : Rm} (h : OwnRm b w vN vS vW vL r) (hb : b' ≤ b) : OwnRm b' w vN vS vW vL r := by
 obtain ⟨h1, h2, h3, ss, h4, h5, h6⟩ := h
 exact ⟨h1.base hb, h2.base hb, h3.base hb, ss, h4, h5.base hb, fun j hj => (h6 j hj).base hb⟩
def EvO (b : Nat) (w : World) (v : Value) (l : List Ev) : Prop := (v = .slice none 0 0 ∧ l = []) ∨ OwnE EvK 239 w b v l
theorem EvO.rd {b : Nat} {w : World} {v : Value} {l : List Ev} (h : EvO b w v l) : RdE EvK w.heap.size w v l := by
 rcases h with ⟨rfl, rfl⟩ | h
 ·exact RdE.nil _ _
 ·exact h.rd
theorem EvO.below {b : Nat} {w w' : World} {v : Value} {l : List Ev} (h : EvO b w v l) (hb : Below w.heap.size w w') : EvO b w' v l := h.imp id fun h => h.below hb (Nat.le_refl _)
theorem EvO.keep {T : TypeId → Prop} {b d : Nat} {w w' : World} {v : Value} {l : List Ev} (h : EvO b w v l) (hk : Keep T d w w') (hT : ¬ T 239) : EvO b w' v l := h.imp id fun h => h.keep hk hT
def AppO (y : Rm × Rp × List Ev) (w : World) (e : Ending) (w' : World) : Prop :=
 ∃ vN vS vW vL nv vE, e = .returned (.tuple #[.agg (rmc (mT y.1) vN vS vW vL).toArray, .agg (rpc y.2.1 nv).toArray, vE]) ∧ OwnRm w.heap.size w' vN vS vW vL y.1 ∧ OwnE StK 9 w' w.heap.size nv (pN y.2.1) ∧ EvO w.heap.size w' vE y.2.2 ∧ Below w.heap.size w w'
end Go.Proofs.YtgfobinklijkpaaGreatDoor
