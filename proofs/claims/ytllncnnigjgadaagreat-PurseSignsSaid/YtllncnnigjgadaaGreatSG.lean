/-
  The document's lms: Sign where nothing is signed.
  The document's lms: Sign with a leaf that the tree has.
  The law LmsSigns, walked: it answers true for every tree, every leaf's number and every text.
-/
import Derived.Test.YtllncnnigjgadaaGreatMB
import Derived.Test.YtllncnnigjgadaaGreatRB
import Derived.Test.YtllncnnigjgadaaGreatLE
import Derived.Test.YtllncnnigjgadaaGreatDDx
import Derived.Test.YtllncnnigjgadaaGreatLAx
import Derived.Test.YtllncnnigjgadaaGreatOBx
import Derived.Test.YtllncnnigjgadaaGreatRBx
import Derived.Test.YtllncnnigjgadaaGreatSXx
namespace Go.Proofs.YtllncnnigjgadaaGreat
open Go.RowKit

end Go.Proofs.YtllncnnigjgadaaGreat

namespace Go.Proofs.YtllncnnigjgadaaGreat
open Go.RowKit

set_option maxRecDepth 100000 in
set_option maxHeartbeats 1000000 in
theorem rfSignT_yes (I seed text : List UInt8) (k h q : Nat) (tv : Value) (w : World) (hI : I.length = 16) (hs : seed.length = 32) (hk : Wd k) (hh : Ht h) (hq : q < 2 ^ h) (ht : Rd w.heap.size w tv text) (hl : text.length ≤ 90000) : Calls Tryz.prog 44 #[.agg (tcs I seed (k : Int) (h : Int)).toArray, .int .i64 (q : Int), tv] w (fun e w' => ∃ v, e = .returned (.tuple #[v, .int .i64 0]) ∧ Own 5 w' w.heap.size v (lsig I seed text k h q) ∧ Below w.heap.size w w') := by
  obtain ⟨i0, hi0, hz0, hz1, hz2⟩ := info_parts info5
  have HIN := Lib.hid hi0
  have H0 := Lib.hid hz0
  have H1 := Lib.hid hz1
  have H2 := Lib.hid hz2
  have H5 : Hid ((Tryz.prog.info? 38).map (·.size) = some (tcs I seed (k : Int) (h : Int)).length) := by show _ = _; rw [tcs_length I seed _ _ hI hs]; exact sTree5
  obtain ⟨d5, hu5, hd5⟩ := rowTree5
  have HU := Lib.hid hu5
  have HD := Lib.hid hd5
  have HI := Lib.hid hI
  have HS := Lib.hid hs
  have HK := Lib.hid hk
  have HH := Lib.hid hh
  have HTX := Lib.hid ht
  have HL := Lib.hid hl
  have hp2 : 2 ^ h ≤ 32 := by rcases hh with rfl | rfl | rfl | rfl | rfl <;> decide
  obtain ⟨Kd, hKd⟩ : ∃ T, knd h = T := ⟨_, rfl⟩
  have HKE := Lib.hid hKd
  have hKd4 : Hid (Kd < 4294967296) := by show _ < _; rw [← hKd]; rcases hh with rfl | rfl | rfl | rfl | rfl <;> decide
  obtain ⟨S, hS⟩ : ∃ S, sigL (pre20 I q) seed text k = S := ⟨_, rfl⟩
  have HSE := Lib.hid hS
  have hSl : Hid (S.length ≤ 10000) := by
    show _ ≤ _
    rw [← hS, sigL_length]
    have := mny_le k hk
    unfold lng
    omega
  have HPE : Hid (lsig I seed text k h q = be 4 q ++ S ++ be 4 Kd ++ sbl I seed k (2 ^ h) 0 h (2 ^ h + q)) := by show _ = _; unfold lsig; rw [hKd, hS]
  obtain ⟨N, hN⟩ : ∃ N, 2 ^ h = N := ⟨_, rfl⟩
  have HNE := Lib.hid hN
  rw [hN] at hq hp2
  clear hI hs hk hh hu5 hd5 hi0 hz0 hz1 hz2 hKd hS hN ht hl
  have tq : decide ((q : Int) < 0) = false := decide_eq_false (by omega)
  have tn : decide (N ≤ q) = false := decide_eq_false (by omega)
  have zq : (q : Int) < 32 := by omega
  have zN : (N : Int) ≤ 32 := by omega
  go_enter Tryz.func44, Tryz.ntmps44
  go_wp2_with (refine wpList_box_blk rfl 38 _ rfl (tcs I seed (k : Int) (h : Int)) rfl ?_)
  intro w1 a1 a2 a3
  obtain ⟨g0, hg0⟩ : ∃ g, w.heap.size = g := ⟨_, rfl⟩
  rw [hg0] at a1 a2 ⊢
  have A1 := Lib.hid a1
  have A3 := Lib.hid a3
  clear a1 a2 a3 hg0
  go_wp2_with (refine wpList_load_blkU rfl 38 _ rfl g0 rfl (tcs I seed (k : Int) (h : Int)) 38 A1.out d5 HU.out HD.out H5.out ?_)
  refine (rfMay_yes I seed k h _ HI.out HS.out HK.out HH.out).mono ?_
  rintro e w2 ⟨rfl, hb⟩
  have B1 : Hid (Blk w2 g0 (tcs I seed (k : Int) (h : Int)) 38) := A1.out.below hb A1.out.lt
  have BB : Hid (Below w.heap.size w w2) := A3.out.trans (hb.mono A3.out.size)
  have cy := (B1.out.cell 49).trans (tcs_y I seed _ _ HI.out HS.out)
  clear hb A1 A3
  go_wp2_with fail
  refine (rfLeaves_any h _ HH.out).mono ?_
  rintro e w3 ⟨rfl, rfl⟩
  rw [HNE.out]
  clear cy
  go_wp2_with (refine wpList_load_blkU rfl 38 _ rfl g0 rfl (tcs I seed (k : Int) (h : Int)) 38 B1.out d5 HU.out HD.out H5.out ?_)
  refine (rfKey_any I seed q _ _ _ HI.out HS.out (by omega)).mono ?_
  rintro e w3 ⟨rfl, hb⟩
  have C1 : Hid (Blk w3 g0 (tcs I seed (k : Int) (h : Int)) 38) := B1.out.below hb B1.out.lt
  have CB : Hid (Below w.heap.size w w3) := BB.out.trans (hb.mono BB.out.size)
  clear hb B1 BB
  go_wp2_with fail
  refine (refSign_yes I seed text q k tv _ HI.out HS.out (by omega) HK.out ((HTX.out.below CB.out).more CB.out.size) HL.out).mono ?_
  rintro e w4 ⟨sv, rfl, hown, hb⟩
  rw [HSE.out] at hown
  have D1 : Hid (Blk w4 g0 (tcs I seed (k : Int) (h : Int)) 38) := C1.out.below hb C1.out.lt
  have DB : Hid (Below w.heap.size w w4) := CB.out.trans (hb.mono CB.out.size)
  have DS : Hid (Rd w4.heap.size w4 sv S) := hown.rd
  clear hb hown C1 CB
  have zq4 : (q : Int) < 4294967296 := by omega
  go_wp2_with fail
  refine (four_any q _ (by omega)).mono ?_
  rintro e w5 ⟨v5, rfl, hown, hb⟩
  obtain ⟨b, hbE⟩ : ∃ b, w4.heap.size = b := ⟨_, rfl⟩
  have E1 : Hid (Blk w5 g0 (tcs I seed (k : Int) (h : Int)) 38) := D1.out.below hb D1.out.lt
  have EB : Hid (Below w.heap.size w w5) := DB.out.trans (hb.mono DB.out.size)
  have EO : Hid (Own 5 w5 b v5 (be 4 q)) := by rw [← hbE]; exact hown
  have ES : Hid (Rd w5.heap.size w5 sv S) := (DS.out.below hb).more hb.size
  have g0b : Hid (g0 < b) := by rw [← hbE]; exact D1.out.lt
  have wb : Hid (w.heap.size ≤ b) := by rw [← hbE]; exact DB.out.size
  have sb5 : Hid (b ≤ w5.heap.size) := by rw [← hbE]; exact hb.size
  clear hown hb hbE D1 DB DS
  go_wp2_with (at_builtin; refine wpList_app rfl _ _ 22 rfl 5 i0 Tryz.underlying22 HIN.out H0.out H1.out H2.out b w5.heap.size _ _ (be 4 q) S rfl EO.out rfl ES.out (by have := hSl.out; rw [be_length]; omega) sb5.out ?_)
  intro v6 w6 hown hb
  have F1 : Hid (Blk w6 g0 (tcs I seed (k : Int) (h : Int)) 38) := E1.out.below hb g0b.out
  have FB : Hid (Below w.heap.size w w6) := EB.out.trans (hb.mono wb.out)
  have FO : Hid (Own 5 w6 b v6 (be 4 q ++ S)) := hown
  have sb6 : Hid (b ≤ w6.heap.size) := Nat.le_trans sb5.out hb.size
  have cy := (F1.out.cell 49).trans (tcs_y I seed _ _ HI.out HS.out)
  clear hown hb E1 EB EO ES sb5
  go_wp2_with fail
  refine (rfTyped_any h _ HH.out).mono ?_
  rintro e w7 ⟨rfl, rfl⟩
  rw [HKE.out]
  clear cy
  go_wp2_with fail
  refine (four_any Kd _ hKd4.out).mono ?_
  rintro e w7 ⟨v7, rfl, hown, hb⟩
  have E1 : Hid (Blk w7 g0 (tcs I seed (k : Int) (h : Int)) 38) := F1.out.below hb F1.out.lt
  have EB : Hid (Below w.heap.size w w7) := FB.out.trans (hb.mono FB.out.size)
  have EO : Hid (Own 5 w7 b v6 (be 4 q ++ S)) := FO.out.below hb (Nat.le_refl _)
  have ER : Hid (Rd w7.heap.size w7 v7 (be 4 Kd)) := hown.rd
  have sb7 : Hid (b ≤ w7.heap.size) := Nat.le_trans sb6.out hb.size
  clear hown hb F1 FB FO sb6
  go_wp2_with (at_builtin; refine wpList_app rfl _ _ 22 rfl 5 i0 Tryz.underlying22 HIN.out H0.out H1.out H2.out b w7.heap.size _ _ (be 4 q ++ S) (be 4 Kd) rfl EO.out rfl ER.out (by have := hSl.out; rw [List.length_append, be_length, be_length]; omega) sb7.out ?_)
  intro v8 w8 hown hb
  have F1 : Hid (Blk w8 g0 (tcs I seed (k : Int) (h : Int)) 38) := E1.out.below hb g0b.out
  have FB : Hid (Below w.heap.size w w8) := EB.out.trans (hb.mono wb.out)
  have FO : Hid (Own 5 w8 b v8 (be 4 q ++ S ++ be 4 Kd)) := Lib.hid (by simpa using hown)
  have sb8 : Hid (b ≤ w8.heap.size) := Nat.le_trans sb7.out hb.size
  have cy := (F1.out.cell 49).trans (tcs_y I seed _ _ HI.out HS.out)
  clear hown hb E1 EB EO ER sb7
  go_wp2_with fail
  refine (rfLeaves_any h _ HH.out).mono ?_
  rintro e w9 ⟨rfl, rfl⟩
  rw [HNE.out]
  clear cy
  have K0 : Hid (sbl I seed k N 0 h (N + q) = [] ++ sbl I seed k N 0 h (N + q)) := rfl
  have KR0 : Hid (2 ^ h ≤ N + q ∧ N + q < 2 * 2 ^ h) := by show _ ∧ _; rw [HNE.out]; omega
  have FO' : Hid (Own 5 w8 b v8 (be 4 q ++ S ++ be 4 Kd ++ [])) := by show Own _ _ _ _ _; rw [List.append_nil]; exact FO.out
  clear FO
  go_wp2
  go_loopw [10, 11] (fun x10 x11 wr => ∃ (j n R : Nat) (L : List UInt8) (v : Value), v = x10 ∧ x11 = .int .i64 (R : Int) ∧ Hid (j + n = h) ∧ Hid (2 ^ n ≤ R ∧ R < 2 * 2 ^ n) ∧ R < 64 ∧ Hid (sbl I seed k N 0 h (N + q) = L ++ sbl I seed k N j n R) ∧ Hid (L.length = 32 * j) ∧ Hid (Own 5 wr b v (be 4 q ++ S ++ be 4 Kd ++ L)) ∧ Hid (Blk wr g0 (tcs I seed (k : Int) (h : Int)) 38) ∧ Hid (Below w.heap.size w wr) ∧ Hid (b ≤ wr.heap.size)) (fun _ x _ => (intOf x).toNat)
  case atStart => exact ⟨0, h, N + q, [], v8, rfl, by go_num, by show _ = _; omega, KR0, by omega, K0, rfl, FO', F1, FB, sb8⟩
  case round =>
    clear K0 KR0 FO' F1 FB sb8
    obtain ⟨j, n, R, L, v, rfl, rfl, HJN, HRB, hR64, HSB, HLL, KO, KT, KB, SBW⟩ := hrel
    have zR : (R : Int) < 64 := by omega
    cases n with
    | zero =>
      have hR1 : R = 1 := by have := HRB.out; omega
      subst hR1
      go_wp2
      go_ret2
      refine ⟨_, rfl, ?_, KB.out⟩
      rw [HPE.out, HNE.out, HSB.out]
      show Own _ _ _ _ (be 4 q ++ S ++ be 4 Kd ++ (L ++ []))
      rw [List.append_nil]
      exact KO.out.base wb.out
    | succ m =>
      have hR2 : 2 ≤ R := by have h0 := HRB.out; have := Nat.pow_pos (n := m) (show 0 < 2 by omega); rw [Nat.pow_succ] at h0; omega
      have HJ : Hid (j ≤ h) := by have := HJN.out; show _ ≤ _; omega
      have hhj : h - j = m + 1 := by have := HJN.out; omega
      have HS1 : Hid (2 ^ (h - j) ≤ sbr R) := by have h0 := HRB.out; show _ ≤ _; rw [hhj]; rw [Nat.pow_succ] at h0 ⊢; unfold sbr; split <;> omega
      have HS2 : Hid (sbr R < 2 * 2 ^ (h - j)) := by have h0 := HRB.out; show _ < _; rw [hhj]; rw [Nat.pow_succ] at h0 ⊢; unfold sbr; split <;> omega
      obtain ⟨X, hX⟩ : ∃ X, knt I seed k N j (sbr R) = X := ⟨_, rfl⟩
      have HXE : Hid (knt I seed k (2 ^ h) j (sbr R) = X) := by show _ = _; rw [HNE.out]; exact hX
      have HXL : Hid (X.length = 32) := by show _ = _; rw [← hX]; exact knt_length _ _ _ _ _ _
      have HSB2 : Hid (sbl I seed k N 0 h (N + q) = (L ++ X) ++ sbl I seed k N (j + 1) m (R / 2)) := by show _ = _; rw [HSB.out, sbl, hX, List.append_assoc]
      have HJN2 : Hid (j + 1 + m = h) := by have := HJN.out; show _ = _; omega
      have HRB2 : Hid (2 ^ m ≤ R / 2 ∧ R / 2 < 2 * 2 ^ m) := by have h0 := HRB.out; show _ ∧ _; rw [Nat.pow_succ] at h0; omega
      have HLL2 : Hid ((L ++ X).length = 32 * (j + 1)) := by show _ = _; rw [List.length_append, HLL.out, HXL.out]; omega
      have H24 : Hid ((Tryz.prog.info? 30).map (·.size) = some (bys X).length) := by show _ = _; rw [bys_length, HXL.out]; exact s24
      have HLZ : Hid (z32.length = (bys X).length) := by show _ = _; rw [bys_length, HXL.out, z32_length]
      have tR : decide ((1 : Int) < (R : Int)) = true := decide_eq_true (by omega)
      have hdv : Int.tdiv (R : Int) 2 = ((R / 2 : Nat) : Int) := by rw [Int.tdiv_eq_ediv_of_nonneg (by omega)]; omega
      clear hX hhj HJN HRB HSB
      by_cases hp : R % 2 = 0
      ·
        have ht : Int.tmod (R : Int) 2 = 0 := by rw [Int.tmod_eq_emod_of_nonneg (by omega)]; omega
        have es : Hid (((sbr R : Nat) : Int) = (R : Int) + 1) := by show _ = _; unfold sbr; rw [if_pos hp]; omega
        go_wp2_with (refine wpList_alloc_blk rfl 30 rfl _ z24 ?_)
        intro u1 a1 a2 a3
        obtain ⟨gx, hgx⟩ : ∃ g, wr.heap.size = g := ⟨_, rfl⟩
        rw [hgx] at a1 a2 ⊢
        have A1 := Lib.hid a1
        obtain ⟨t1, ht1⟩ : ∃ t, u1.setRow gx z32.toArray = t := ⟨_, rfl⟩
        have bw : Below wr.heap.size wr t1 := by rw [← ht1, hgx]; rw [hgx] at a3; exact below_setRow' a3 (by omega) _
        have X1 : Hid (Blk t1 g0 (tcs I seed (k : Int) (h : Int)) 38) := KT.out.below bw KT.out.lt
        have XX : Hid (Blk t1 gx z32 30) := by rw [← ht1]; exact a1.setRow
        have W1 : Hid (Below gx wr t1) := by rw [← hgx]; exact bw
        have HGX : Hid (wr.heap.size ≤ gx) := Nat.le_of_eq hgx
        have XB : Hid (Below w.heap.size w t1) := KB.out.trans (bw.mono KB.out.size)
        have sbx : Hid (b ≤ gx) := by rw [← hgx]; exact SBW.out
        clear a1 a2 a3 bw KT KB hgx
        go_wp2_with (first | (refine wpList_buildTo rfl 30 _ rfl (some 53) rfl z32.toArray (by kernel_rfl) ?_) | (refine wpList_store_blk rfl 30 _ _ rfl gx z32 z32 30 rfl rfl A1.out s24 rfl (bys_one' _) ?_; rw [ht1]; clear ht1) | (refine wpList_load_blkU rfl 38 _ rfl g0 rfl (tcs I seed (k : Int) (h : Int)) 38 X1.out d5 HU.out HD.out H5.out ?_))
        refine calls_args (args2 := #[.agg (tcs I seed (k : Int) (h : Int)).toArray, .int .i64 ((sbr R : Nat) : Int)]) (by rw [es.out]) ?_
        refine (rfKnot_any I seed k h HI.out HS.out HK.out HH.out j (sbr R) _ HJ.out HS1.out HS2.out).mono ?_
        rintro e u2 ⟨rfl, hb⟩
        rw [HXE.out]
        have Y1 : Hid (Blk u2 g0 (tcs I seed (k : Int) (h : Int)) 38) := X1.out.below hb X1.out.lt
        have YX : Hid (Blk u2 gx z32 30) := XX.out.below hb XX.out.lt
        have W2 : Hid (Below gx wr u2) := W1.out.trans (hb.mono (Nat.le_of_lt XX.out.lt))
        have YB : Hid (Below w.heap.size w u2) := XB.out.trans (hb.mono XB.out.size)
        have sbu : Hid (b ≤ u2.heap.size) := by have := YX.out.lt; have := sbx.out; show _ ≤ _; omega
        clear hb X1 XX XB A1 W1
        obtain ⟨t2, ht2⟩ : ∃ t, u2.setRow gx (bys X).toArray = t := ⟨_, rfl⟩
        have bw : Below gx u2 t2 := by rw [← ht2]; exact below_setRow' (Below.refl _ _) (Nat.le_refl _) _
        have Z1 : Hid (Blk t2 g0 (tcs I seed (k : Int) (h : Int)) 38) := by rw [← ht2]; exact Y1.out.setRowOther (by have := g0b.out; have := sbx.out; omega)
        have ZX : Hid (Blk t2 gx (bys X) 30) := by rw [← ht2]; exact YX.out.setRow
        have ZO : Hid (Own 5 t2 b v (be 4 q ++ S ++ be 4 Kd ++ L)) := KO.out.below (W2.out.trans bw) HGX.out
        have ZB : Hid (Below w.heap.size w t2) := YB.out.trans (bw.mono (by have := wb.out; have := sbx.out; omega))
        have ZR : Hid (Rd t2.heap.size t2 (.slice (some ⟨gx, 0, none⟩) 32 32) X) := by
          have h := (ZX.out.rd (by rw [HXL.out]; decide)).more (show gx + 1 ≤ t2.heap.size from ZX.out.lt)
          rw [HXL.out] at h
          exact h
        have sbt : Hid (b ≤ t2.heap.size) := by have := ZX.out.lt; have := sbx.out; show _ ≤ _; omega
        clear Y1 YB W2 HGX KO bw
        go_wp2_with (first | (refine wpList_store_blk rfl 30 _ _ rfl gx (bys X) z32 30 rfl rfl YX.out H24.out HLZ.out (bys_one' _) ?_; rw [ht2]; clear ht2) | (at_builtin; refine wpList_app rfl _ _ 22 rfl 5 i0 Tryz.underlying22 HIN.out H0.out H1.out H2.out b t2.heap.size _ _ (be 4 q ++ S ++ be 4 Kd ++ L) X rfl ZO.out rfl ZR.out (by have := hSl.out; have := HLL.out; have := HJ.out; have := HH.out.le; rw [List.length_append, List.length_append, List.length_append, be_length, be_length, HXL.out]; omega) sbt.out ?_))
        intro v9 u3 hown hb
        have PT : Hid (Blk u3 g0 (tcs I seed (k : Int) (h : Int)) 38) := Z1.out.below hb g0b.out
        have PO : Hid (Own 5 u3 b v9 (be 4 q ++ S ++ be 4 Kd ++ (L ++ X))) := Lib.hid (by simpa using hown)
        have PB : Hid (Below w.heap.size w u3) := ZB.out.trans (hb.mono wb.out)
        have PS : Hid (b ≤ u3.heap.size) := Nat.le_trans sbt.out hb.size
        clear hown hb Z1 ZX ZO ZB ZR sbt YX
        go_wp2
        go_roundw
        case rel => exact ⟨j + 1, m, R / 2, L ++ X, v9, rfl, by first | rfl | (rw [hdv]) | go_num, HJN2, HRB2, by omega, HSB2, HLL2, PO, PT, PB, PS⟩
        case measure => simp [intOf]; omega
      ·
        have ht : Int.tmod (R : Int) 2 = 1 := by rw [Int.tmod_eq_emod_of_nonneg (by omega)]; omega
        have es : Hid (((sbr R : Nat) : Int) = (R : Int) - 1) := by show _ = _; unfold sbr; rw [if_neg (by omega)]; omega
        go_wp2_with (refine wpList_alloc_blk rfl 30 rfl _ z24 ?_)
        intro u1 a1 a2 a3
        obtain ⟨gx, hgx⟩ : ∃ g, wr.heap.size = g := ⟨_, rfl⟩
        rw [hgx] at a1 a2 ⊢
        have A1 := Lib.hid a1
        obtain ⟨t1, ht1⟩ : ∃ t, u1.setRow gx z32.toArray = t := ⟨_, rfl⟩
        have bw : Below wr.heap.size wr t1 := by rw [← ht1, hgx]; rw [hgx] at a3; exact below_setRow' a3 (by omega) _
        have X1 : Hid (Blk t1 g0 (tcs I seed (k : Int) (h : Int)) 38) := KT.out.below bw KT.out.lt
        have XX : Hid (Blk t1 gx z32 30) := by rw [← ht1]; exact a1.setRow
        have W1 : Hid (Below gx wr t1) := by rw [← hgx]; exact bw
        have HGX : Hid (wr.heap.size ≤ gx) := Nat.le_of_eq hgx
        have XB : Hid (Below w.heap.size w t1) := KB.out.trans (bw.mono KB.out.size)
        have sbx : Hid (b ≤ gx) := by rw [← hgx]; exact SBW.out
        clear a1 a2 a3 bw KT KB hgx
        go_wp2_with (first | (refine wpList_buildTo rfl 30 _ rfl (some 53) rfl z32.toArray (by kernel_rfl) ?_) | (refine wpList_store_blk rfl 30 _ _ rfl gx z32 z32 30 rfl rfl A1.out s24 rfl (bys_one' _) ?_; rw [ht1]; clear ht1) | (refine wpList_load_blkU rfl 38 _ rfl g0 rfl (tcs I seed (k : Int) (h : Int)) 38 X1.out d5 HU.out HD.out H5.out ?_))
        refine calls_args (args2 := #[.agg (tcs I seed (k : Int) (h : Int)).toArray, .int .i64 ((sbr R : Nat) : Int)]) (by rw [es.out]) ?_
        refine (rfKnot_any I seed k h HI.out HS.out HK.out HH.out j (sbr R) _ HJ.out HS1.out HS2.out).mono ?_
        rintro e u2 ⟨rfl, hb⟩
        rw [HXE.out]
        have Y1 : Hid (Blk u2 g0 (tcs I seed (k : Int) (h : Int)) 38) := X1.out.below hb X1.out.lt
        have YX : Hid (Blk u2 gx z32 30) := XX.out.below hb XX.out.lt
        have W2 : Hid (Below gx wr u2) := W1.out.trans (hb.mono (Nat.le_of_lt XX.out.lt))
        have YB : Hid (Below w.heap.size w u2) := XB.out.trans (hb.mono XB.out.size)
        have sbu : Hid (b ≤ u2.heap.size) := by have := YX.out.lt; have := sbx.out; show _ ≤ _; omega
        clear hb X1 XX XB A1 W1
        obtain ⟨t2, ht2⟩ : ∃ t, u2.setRow gx (bys X).toArray = t := ⟨_, rfl⟩
        have bw : Below gx u2 t2 := by rw [← ht2]; exact below_setRow' (Below.refl _ _) (Nat.le_refl _) _
        have Z1 : Hid (Blk t2 g0 (tcs I seed (k : Int) (h : Int)) 38) := by rw [← ht2]; exact Y1.out.setRowOther (by have := g0b.out; have := sbx.out; omega)
        have ZX : Hid (Blk t2 gx (bys X) 30) := by rw [← ht2]; exact YX.out.setRow
        have ZO : Hid (Own 5 t2 b v (be 4 q ++ S ++ be 4 Kd ++ L)) := KO.out.below (W2.out.trans bw) HGX.out
        have ZB : Hid (Below w.heap.size w t2) := YB.out.trans (bw.mono (by have := wb.out; have := sbx.out; omega))
        have ZR : Hid (Rd t2.heap.size t2 (.slice (some ⟨gx, 0, none⟩) 32 32) X) := by
          have h := (ZX.out.rd (by rw [HXL.out]; decide)).more (show gx + 1 ≤ t2.heap.size from ZX.out.lt)
          rw [HXL.out] at h
          exact h
        have sbt : Hid (b ≤ t2.heap.size) := by have := ZX.out.lt; have := sbx.out; show _ ≤ _; omega
        clear Y1 YB W2 HGX KO bw
        go_wp2_with (first | (refine wpList_store_blk rfl 30 _ _ rfl gx (bys X) z32 30 rfl rfl YX.out H24.out HLZ.out (bys_one' _) ?_; rw [ht2]; clear ht2) | (at_builtin; refine wpList_app rfl _ _ 22 rfl 5 i0 Tryz.underlying22 HIN.out H0.out H1.out H2.out b t2.heap.size _ _ (be 4 q ++ S ++ be 4 Kd ++ L) X rfl ZO.out rfl ZR.out (by have := hSl.out; have := HLL.out; have := HJ.out; have := HH.out.le; rw [List.length_append, List.length_append, List.length_append, be_length, be_length, HXL.out]; omega) sbt.out ?_))
        intro v9 u3 hown hb
        have PT : Hid (Blk u3 g0 (tcs I seed (k : Int) (h : Int)) 38) := Z1.out.below hb g0b.out
        have PO : Hid (Own 5 u3 b v9 (be 4 q ++ S ++ be 4 Kd ++ (L ++ X))) := Lib.hid (by simpa using hown)
        have PB : Hid (Below w.heap.size w u3) := ZB.out.trans (hb.mono wb.out)
        have PS : Hid (b ≤ u3.heap.size) := Nat.le_trans sbt.out hb.size
        clear hown hb Z1 ZX ZO ZB ZR sbt YX
        go_wp2
        go_roundw
        case rel => exact ⟨j + 1, m, R / 2, L ++ X, v9, rfl, by first | rfl | (rw [hdv]) | go_num, HJN2, HRB2, by omega, HSB2, HLL2, PO, PT, PB, PS⟩
        case measure => simp [intOf]; omega
end Go.Proofs.YtllncnnigjgadaaGreat

namespace Go.Proofs.YtllncnnigjgadaaGreat
open Go.RowKit

end Go.Proofs.YtllncnnigjgadaaGreat
