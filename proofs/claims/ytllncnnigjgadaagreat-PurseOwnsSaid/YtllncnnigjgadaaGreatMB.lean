/-
  The document's lms: Knot, and the law's copy of a tree.
  Package lms: Knot where there is a node, and where there is none.
  The document's lms: Public.
  The law LmsKnots, walked: it answers true for every tree and every number of a node.
-/
import Derived.Test.YtllncnnigjgadaaGreatMA
import Derived.Test.YtllncnnigjgadaaGreatLE
namespace Go.Proofs.YtllncnnigjgadaaGreat
open Go.RowKit

theorem built_tree0 (f g : Nat → UInt8) (z y : Int) : Tryz.prog.built 38 [(0, .agg (bys ((List.range 16).map f)).toArray), (1, .agg (bys ((List.range 32).map g)).toArray), (2, .int .i64 z), (3, .int .i64 y)] = some (bys ((List.range 16).map f) ++ (bys ((List.range 32).map g) ++ [Value.int .i64 z, Value.int .i64 y])).toArray := by kernel_rfl
theorem built_tree (I seed : List UInt8) (z y : Int) (hI : I.length = 16) (hs : seed.length = 32) : Tryz.prog.built 38 [(0, .agg (bys I).toArray), (1, .agg (bys seed).toArray), (2, .int .i64 z), (3, .int .i64 y)] = some (tcs I seed z y).toArray := by
  rw [list_asL I 16 hI, list_asL seed 32 hs]
  exact built_tree0 _ _ _ _
end Go.Proofs.YtllncnnigjgadaaGreat

namespace Go.Proofs.YtllncnnigjgadaaGreat
open Go.RowKit

end Go.Proofs.YtllncnnigjgadaaGreat

namespace Go.Proofs.YtllncnnigjgadaaGreat
open Go.RowKit

set_option maxRecDepth 100000 in
set_option maxHeartbeats 1000000 in
theorem rfPublicT_yes (I seed : List UInt8) (k h : Nat) (w : World) (hI : I.length = 16) (hs : seed.length = 32) (hk : Wd k) (hh : Ht h) : Calls Tryz.prog 45 #[.agg (tcs I seed (k : Int) (h : Int)).toArray] w (fun e w' => ∃ v, e = .returned (.tuple #[v, .int .i64 0]) ∧ Own 5 w' w.heap.size v (lpub I seed k h) ∧ Below w.heap.size w w') := by
  obtain ⟨i0, hi0, hz0, hz1, hz2⟩ := info_parts info5
  have HIN := Lib.hid hi0
  have H0 := Lib.hid hz0
  have H1 := Lib.hid hz1
  have H2 := Lib.hid hz2
  have H5 : Hid ((Tryz.prog.info? 38).map (·.size) = some (tcs I seed (k : Int) (h : Int)).length) := by show _ = _; rw [tcs_length I seed _ _ hI hs]; exact sTree5
  obtain ⟨d5, hu5, hd5⟩ := rowTree5
  have HU := Lib.hid hu5
  have HD := Lib.hid hd5
  have HI := Lib.hid hI
  have HS := Lib.hid hs
  have HK := Lib.hid hk
  have HH := Lib.hid hh
  obtain ⟨Ty, hTy⟩ : ∃ T, typ k = T := ⟨_, rfl⟩
  have HTE := Lib.hid hTy
  have hTy4 : Hid (Ty < 4294967296) := by show _ < _; rw [← hTy]; rcases hk with rfl | rfl | rfl | rfl <;> decide
  obtain ⟨Kd, hKd⟩ : ∃ T, knd h = T := ⟨_, rfl⟩
  have HKE := Lib.hid hKd
  have hKd4 : Hid (Kd < 4294967296) := by show _ < _; rw [← hKd]; rcases hh with rfl | rfl | rfl | rfl | rfl <;> decide
  obtain ⟨R, hR⟩ : ∃ R, knt I seed k (2 ^ h) h 1 = R := ⟨_, rfl⟩
  have HRE := Lib.hid hR
  have hRl : Hid (R.length = 32) := by show _ = _; rw [← hR]; exact knt_length _ _ _ _ _ _
  have HPE : Hid (lpub I seed k h = be 4 Kd ++ be 4 Ty ++ I ++ R) := by show _ = _; unfold lpub; rw [hTy, hKd, hR]
  clear hI hs hk hh hu5 hd5 hi0 hz0 hz1 hz2 hTy hKd hR
  go_enter Tryz.func45, Tryz.ntmps45
  go_wp2_with (refine wpList_box_blk rfl 38 _ rfl (tcs I seed (k : Int) (h : Int)) rfl ?_)
  intro w1 a1 a2 a3
  obtain ⟨g0, hg0⟩ : ∃ g, w.heap.size = g := ⟨_, rfl⟩
  rw [hg0] at a1 a2 ⊢
  have A1 := Lib.hid a1
  have A3 := Lib.hid a3
  clear a1 a2 a3 hg0
  go_wp2_with (refine wpList_load_blkU rfl 38 _ rfl g0 rfl (tcs I seed (k : Int) (h : Int)) 38 A1.out d5 HU.out HD.out H5.out ?_)
  refine (rfMay_yes I seed k h _ HI.out HS.out HK.out HH.out).mono ?_
  rintro e w2 ⟨rfl, hb⟩
  have B1 : Hid (Blk w2 g0 (tcs I seed (k : Int) (h : Int)) 38) := A1.out.below hb A1.out.lt
  have BB : Hid (Below w.heap.size w w2) := A3.out.trans (hb.mono A3.out.size)
  have cz := (B1.out.cell 48).trans (tcs_z I seed _ _ HI.out HS.out)
  clear hb A1 A3
  go_wp2_with fail
  refine (refType_yes k _ HK.out).mono ?_
  rintro e w3 ⟨rfl, rfl⟩
  rw [HTE.out]
  clear cz
  have cy := (B1.out.cell 49).trans (tcs_y I seed _ _ HI.out HS.out)
  go_wp2_with fail
  refine (rfTyped_any h _ HH.out).mono ?_
  rintro e w3 ⟨rfl, rfl⟩
  rw [HKE.out]
  clear cy
  go_wp2_with fail
  refine (four_any Kd _ hKd4.out).mono ?_
  rintro e w3 ⟨v3, rfl, hown, hb⟩
  obtain ⟨b, hbE⟩ : ∃ b, w2.heap.size = b := ⟨_, rfl⟩
  have C1 : Hid (Blk w3 g0 (tcs I seed (k : Int) (h : Int)) 38) := B1.out.below hb B1.out.lt
  have CB : Hid (Below w.heap.size w w3) := BB.out.trans (hb.mono BB.out.size)
  have CO : Hid (Own 5 w3 b v3 (be 4 Kd)) := by rw [← hbE]; exact hown
  have g0b : Hid (g0 < b) := by rw [← hbE]; exact B1.out.lt
  have wb : Hid (w.heap.size ≤ b) := by rw [← hbE]; exact BB.out.size
  have sb3 : Hid (b ≤ w3.heap.size) := by rw [← hbE]; exact hb.size
  clear hown hb hbE B1 BB
  go_wp2_with fail
  refine (four_any Ty _ hTy4.out).mono ?_
  rintro e w4 ⟨v4, rfl, hown, hb⟩
  have D1 : Hid (Blk w4 g0 (tcs I seed (k : Int) (h : Int)) 38) := C1.out.below hb C1.out.lt
  have DB : Hid (Below w.heap.size w w4) := CB.out.trans (hb.mono CB.out.size)
  have DO : Hid (Own 5 w4 b v3 (be 4 Kd)) := CO.out.below hb (Nat.le_refl _)
  have DR : Hid (Rd w4.heap.size w4 v4 (be 4 Ty)) := hown.rd
  have sb4 : Hid (b ≤ w4.heap.size) := Nat.le_trans sb3.out hb.size
  clear hown hb C1 CB CO sb3
  go_wp2_with (at_builtin; refine wpList_app rfl _ _ 22 rfl 5 i0 Tryz.underlying22 HIN.out H0.out H1.out H2.out b w4.heap.size _ _ (be 4 Kd) (be 4 Ty) rfl DO.out rfl DR.out (by rw [be_length, be_length]; decide) sb4.out ?_)
  intro v5 w5 hown hb
  have E1 : Hid (Blk w5 g0 (tcs I seed (k : Int) (h : Int)) 38) := D1.out.below hb g0b.out
  have EB : Hid (Below w.heap.size w w5) := DB.out.trans (hb.mono wb.out)
  have EO : Hid (Own 5 w5 b v5 (be 4 Kd ++ be 4 Ty)) := hown
  have sb5 : Hid (b ≤ w5.heap.size) := Nat.le_trans sb4.out hb.size
  have ER : Hid (Rd w5.heap.size w5 (.slice (some ⟨g0, 0, none⟩) 16 16) I) := tcs_I E1.out HI.out E1.out.lt
  clear hown hb D1 DB DO DR sb4
  go_wp2_with (at_builtin; refine wpList_app rfl _ _ 22 rfl 5 i0 Tryz.underlying22 HIN.out H0.out H1.out H2.out b w5.heap.size _ _ (be 4 Kd ++ be 4 Ty) I rfl EO.out rfl ER.out (by rw [List.length_append, be_length, be_length, HI.out]; decide) sb5.out ?_)
  intro v6 w6 hown hb
  have F1 : Hid (Blk w6 g0 (tcs I seed (k : Int) (h : Int)) 38) := E1.out.below hb g0b.out
  have FB : Hid (Below w.heap.size w w6) := EB.out.trans (hb.mono wb.out)
  have FO : Hid (Own 5 w6 b v6 (be 4 Kd ++ be 4 Ty ++ I)) := Lib.hid (by simpa using hown)
  have sb6 : Hid (b ≤ w6.heap.size) := Nat.le_trans sb5.out hb.size
  clear hown hb E1 EB EO ER sb5
  go_wp2_with (refine wpList_load_blkU rfl 38 _ rfl g0 rfl (tcs I seed (k : Int) (h : Int)) 38 F1.out d5 HU.out HD.out H5.out ?_)
  refine (rfKnot_any I seed k h HI.out HS.out HK.out HH.out h 1 _ (Nat.le_refl _) (by rw [Nat.sub_self]; decide) (by rw [Nat.sub_self]; decide)).mono ?_
  rintro e w7 ⟨rfl, hb⟩
  rw [HRE.out]
  have GB : Hid (Below w.heap.size w w7) := FB.out.trans (hb.mono FB.out.size)
  have GO : Hid (Own 5 w7 b v6 (be 4 Kd ++ be 4 Ty ++ I)) := FO.out.below hb (Nat.le_refl _)
  have sb7 : Hid (b ≤ w7.heap.size) := Nat.le_trans sb6.out hb.size
  clear hb F1 FB FO sb6
  go_wp2_with (refine wpList_alloc_blk rfl 30 rfl _ z24 ?_)
  intro w8 a1 a2 a3
  obtain ⟨g7, hg7⟩ : ∃ g, w7.heap.size = g := ⟨_, rfl⟩
  rw [hg7] at a1 a2 ⊢
  have H24 : Hid ((Tryz.prog.info? 30).map (·.size) = some (bys R).length) := by show _ = _; rw [bys_length, hRl.out]; exact s24
  have HLZ : Hid (z32.length = (bys R).length) := by show _ = _; rw [bys_length, hRl.out, z32_length]
  have A1 := Lib.hid a1
  obtain ⟨t8, ht8⟩ : ∃ t, w8.setRow g7 (bys R).toArray = t := ⟨_, rfl⟩
  have bw : Below w7.heap.size w7 t8 := by rw [← ht8, hg7]; rw [hg7] at a3; exact below_setRow' a3 (by omega) _
  have KR : Hid (Blk t8 g7 (bys R) 30) := by rw [← ht8]; exact a1.setRow
  have KB : Hid (Below w.heap.size w t8) := GB.out.trans (bw.mono GB.out.size)
  have KO : Hid (Own 5 t8 b v6 (be 4 Kd ++ be 4 Ty ++ I)) := GO.out.below bw (Nat.le_refl _)
  have sb8 : Hid (b ≤ t8.heap.size) := Nat.le_trans sb7.out bw.size
  have RR : Hid (Rd t8.heap.size t8 (.slice (some ⟨g7, 0, none⟩) 32 32) R) := by
    have h := (KR.out.rd (by rw [hRl.out]; decide)).more (show g7 + 1 ≤ t8.heap.size from KR.out.lt)
    rw [hRl.out] at h
    exact h
  clear a1 a2 a3 bw GB GO sb7 hg7
  go_wp2_with (first | (refine wpList_store_blk rfl 30 _ _ rfl g7 (bys R) z32 30 rfl rfl A1.out H24.out HLZ.out (bys_one' _) ?_; rw [ht8]; clear ht8) | (at_builtin; refine wpList_app rfl _ _ 22 rfl 5 i0 Tryz.underlying22 HIN.out H0.out H1.out H2.out b t8.heap.size _ _ (be 4 Kd ++ be 4 Ty ++ I) R rfl KO.out rfl RR.out (by simp [be_length, HI.out, hRl.out]) sb8.out ?_))
  intro v9 w9 hown hb
  have LB : Hid (Below w.heap.size w w9) := KB.out.trans (hb.mono wb.out)
  have LO : Hid (Own 5 w9 b v9 (be 4 Kd ++ be 4 Ty ++ I ++ R)) := Lib.hid (by simpa using hown)
  clear hown hb KR KB KO RR sb8 A1
  go_wp2
  go_ret2
  refine ⟨_, rfl, ?_, LB.out⟩
  rw [HPE.out]
  exact LO.out.base wb.out
end Go.Proofs.YtllncnnigjgadaaGreat

namespace Go.Proofs.YtllncnnigjgadaaGreat
open Go.RowKit

end Go.Proofs.YtllncnnigjgadaaGreat
