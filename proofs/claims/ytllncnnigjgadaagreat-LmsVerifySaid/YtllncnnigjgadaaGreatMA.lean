/-
  The document's lms: the type of a height, the leaves, the key of a leaf, the hashes of nodes, for every input that they are called with.
  The document's lms: the hashes of nodes.
  The document's lms: which trees there are, how long a signature is, and the law's own copy of a tree.
  The document's lms: the hash of a node, by recursion.
  The document's lms: the hash of an inner node, and of every node.
-/
import Derived.Test.YtllncnnigjgadaaGreatLA
import Derived.Test.YtllncnnigjgadaaGreatRB
import Derived.Test.YtllncnnigjgadaaGreatRA
import Derived.Test.YtllncnnigjgadaaGreatRel4
namespace Go.Proofs.YtllncnnigjgadaaGreat
open Go.RowKit

set_option maxHeartbeats 400000 in
theorem rfTyped_any (h : Nat) (w : World) (H : Ht h) : Calls Tryz.prog 65 #[.int .i64 (h : Int)] w (Just (.int .u32 (knd h : Nat)) w) := by
  rcases H with rfl | rfl | rfl | rfl | rfl
  all_goals
    go_enter Tryz.func65, Tryz.ntmps65
    go_wp2
    go_ret
    exact ⟨rfl, rfl⟩

set_option maxHeartbeats 1000000 in
theorem rfLeaves_any (h : Nat) (w : World) (H : Ht h) : Calls Tryz.prog 36 #[.int .i64 (h : Int)] w (Just (.int .i64 (2 ^ h : Nat)) w) := by
  obtain ⟨h1, h5⟩ := H.le
  have z5 : (h : Int) ≤ 5 := by omega
  clear H
  go_enter Tryz.func36, Tryz.ntmps36
  go_wp2
  go_loopw [3, 4] (fun x2 x3 wr => ∃ j n : Nat, j ≤ h ∧ Hid (n = 2 ^ j) ∧ n ≤ 32 ∧ x2 = .int .i64 (n : Int) ∧ x3 = .int .i64 (j : Int) ∧ w = wr) (fun _ x _ => h - (intOf x).toNat)
  case atStart => exact ⟨0, 1, Nat.zero_le _, rfl, by omega, rfl, rfl, rfl⟩
  case round =>
    obtain ⟨j, n, hj, HN, hn, rfl, rfl, rfl⟩ := hrel
    have zn : (n : Int) ≤ 32 := by omega
    by_cases hjh : j < h
    · have hn2 : Hid (2 * n = 2 ^ (j + 1)) := by show _ = _; rw [Nat.pow_succ, HN.out]; omega
      have hn3 : 2 * n ≤ 32 := by
        rw [hn2.out]
        have : 2 ^ (j + 1) ≤ 2 ^ 5 := Nat.pow_le_pow_right (by omega) (by omega)
        omega
      have tj : decide ((j : Int) < (h : Int)) = true := by simp; omega
      go_wp2
      go_roundw
      case rel => exact ⟨j + 1, 2 * n, by omega, hn2, hn3, by go_num, by go_num, by trivial⟩
      case measure => simp [intOf]; omega
    · have e : j = h := by omega
      subst e
      have tj : decide ((j : Int) < (j : Int)) = false := by simp
      go_wp2
      go_ret
      exact ⟨by rw [← HN.out]; rfl, rfl⟩

theorem sTree5 : (Tryz.prog.info? 38).map (·.size) = some 50 := by kernel_rfl
theorem rowTree5 : ∃ d, Tryz.prog.underlying 38 = some d ∧ d.isRow = true := row_of (by kernel_rfl)

set_option maxRecDepth 100000 in
set_option maxHeartbeats 1000000 in
theorem rfKey_any (I seed : List UInt8) (q : Nat) (z y : Int) (w : World) (hI : I.length = 16) (hs : seed.length = 32) (hq : q < 4294967296) : Calls Tryz.prog 79 #[.agg (tcs I seed z y).toArray, .int .i64 (q : Int)] w (Arr (kcs I q seed z) w) := by
  have HI := Lib.hid hI
  have HS := Lib.hid hs
  have zq : (q : Int) < 4294967296 := by omega
  obtain ⟨z0, hz, hzl⟩ := zi32
  have HZ := Lib.hid hz
  have HZL := Lib.hid hzl
  obtain ⟨d51, hu51, hd51⟩ := row32
  have HU := Lib.hid hu51
  have HD := Lib.hid hd51
  have H22 : Hid ((Tryz.prog.info? 29).map (·.size) = some (bys I).length) := by show _ = _; rw [bys_length, hI]; exact s22
  have H24 : Hid ((Tryz.prog.info? 30).map (·.size) = some (bys seed).length) := by show _ = _; rw [bys_length, hs]; exact s24
  have H51 : Hid ((Tryz.prog.info? 119).map (·.size) = some (kcs I q seed z).length) := by show _ = _; rw [kcs_length I seed q _ hI hs]; exact s32
  have HL : Hid (z0.length = (kcs I q seed z).length) := by show _ = _; rw [kcs_length I seed q _ hI hs, hzl]
  clear hI hs hz hzl hu51 hd51
  go_enter Tryz.func79, Tryz.ntmps79
  go_wp2_with (refine wpList_box_blk rfl 38 _ rfl (tcs I seed z y) rfl ?_)
  intro w1 a1 a2 a3
  have A1 := Lib.hid a1
  have A2 := Lib.hid a2
  have A3 := Lib.hid a3
  clear a1 a2 a3
  go_wp2_with (refine wpList_alloc_blk rfl 119 rfl _ HZ.out ?_)
  intro w2 a1 a2 a3
  rw [A2.out] at a1 a2 a3 ⊢
  have G1 : Hid (Blk w2 w.heap.size (tcs I seed z y) 38) := A1.out.below a3 (by omega)
  have G2 : Hid (Blk w2 (w.heap.size + 1) z0 119) := a1
  have GB : Hid (Below w.heap.size w w2) := A3.out.trans (a3.mono (by omega))
  have cw := (G1.out.cell 48).trans (tcs_z I seed z y HI.out HS.out)
  clear a1 a2 a3 A1 A2 A3
  go_wp2_with (first | (refine wpList_load_mid rfl 29 _ rfl w.heap.size 0 rfl (bys I) _ (tcs_rangeI G1.out) tu22 rfl H22.out ?_) | (refine wpList_load_mid rfl 30 _ rfl w.heap.size 16 rfl (bys seed) _ (tcs_rangeS G1.out HI.out) tu24 rfl H24.out ?_) | (refine wpList_buildTo rfl 119 _ rfl (some 13) rfl (kcs I q seed z).toArray (by simp only [List.map_toArray, List.map_cons, List.map_nil]; exact built_key I seed q z HI.out HS.out) ?_) | (refine wpList_store_blk rfl 119 _ _ rfl (w.heap.size + 1) (kcs I q seed z) z0 119 rfl rfl G2.out H51.out HL.out (kcs_one _ _ _ _) ?_))
  refine bodyPost_ret (v := .agg (kcs I q seed z).toArray) ?_ rfl ?_
  · exact ret_blkU rfl _ _ (w.heap.size + 1) 119 _ rfl G2.out.setRow d51 HU.out HD.out H51.out
  · exact ⟨rfl, below_setRow' GB.out (by omega) _⟩

end Go.Proofs.YtllncnnigjgadaaGreat

namespace Go.Proofs.YtllncnnigjgadaaGreat
open Go.RowKit

set_option maxRecDepth 100000 in
set_option maxHeartbeats 1000000 in
theorem rfLow_any (I p : List UInt8) (r : Nat) (w : World) (hI : I.length = 16) (hp : p.length = 32) (hr : r < 4294967296) : Calls Tryz.prog 38 #[.agg (bys I).toArray, .int .i64 (r : Int), .agg (bys p).toArray] w (Arr (bys (leafL I r p)) w) := by
  obtain ⟨i0, hi0, hz0, hz1, hz2⟩ := info_parts info5
  have HIN := Lib.hid hi0
  have H0 := Lib.hid hz0
  have H1 := Lib.hid hz1
  have H2 := Lib.hid hz2
  have HI := Lib.hid hI
  have HP := Lib.hid hp
  have HR := Lib.hid hr
  have zr : (r : Int) < 4294967296 := by omega
  have HH : Hid (hash ((((I ++ be 4 r) ++ [130, 130]) ++ p)) = leafL I r p) := by show _ = _; simp [leafL, pre20]
  have H24 : Hid ((Tryz.prog.info? 30).map (·.size) = some (bys (leafL I r p)).length) := by show _ = _; rw [bys_length, leafL_length]; exact s24
  have HLZ : Hid (z32.length = (bys (leafL I r p)).length) := by show _ = _; rw [bys_length, leafL_length, z32_length]
  clear hI hp hi0 hz0 hz1 hz2
  go_enter Tryz.func38, Tryz.ntmps38
  go_wp2_with (refine wpList_box_blk rfl 29 _ rfl (bys I) rfl ?_)
  intro u0 a1 a2 a3
  obtain ⟨gI, hgI⟩ : ∃ g, w.heap.size = g := ⟨_, rfl⟩
  rw [hgI] at a1 a2 ⊢
  have I0 : Hid (Blk u0 gI (bys I) 29) := a1
  have T0 : Hid (Below w.heap.size w u0) := a3
  clear a1 a2 a3 hgI
  go_wp2_with (refine wpList_box_blk rfl 30 _ rfl (bys p) rfl ?_)
  intro u1 a1 a2 a3
  obtain ⟨gP, hgP⟩ : ∃ g, u0.heap.size = g := ⟨_, rfl⟩
  rw [hgP] at a1 a2 ⊢
  have I1 : Hid (Blk u1 gI (bys I) 29) := I0.out.below a3 I0.out.lt
  have P1 : Hid (Blk u1 gP (bys p) 30) := a1
  have T1 : Hid (Below w.heap.size w u1) := T0.out.trans (a3.mono T0.out.size)
  clear a1 a2 a3 hgP I0 T0
  go_wp2_with (refine wpList_alloc_blk rfl 30 rfl _ z24 ?_)
  intro u2 a1 a2 a3
  obtain ⟨gZ, hgZ⟩ : ∃ g, u1.heap.size = g := ⟨_, rfl⟩
  rw [hgZ] at a1 a2 ⊢
  have I2 : Hid (Blk u2 gI (bys I) 29) := I1.out.below a3 I1.out.lt
  have P2 : Hid (Blk u2 gP (bys p) 30) := P1.out.below a3 P1.out.lt
  have WZ : Hid (w.heap.size ≤ gZ) := by rw [← hgZ]; exact T1.out.size
  have Z2 : Hid (Blk u2 gZ (z32) 30) := a1
  have T2 : Hid (Below w.heap.size w u2) := T1.out.trans (a3.mono T1.out.size)
  clear a1 a2 a3 hgZ I1 P1 T1
  have wZ : w.heap.size ≤ gZ := WZ.out
  obtain ⟨B, hB⟩ : ∃ B, u2.heap.size = B := ⟨_, rfl⟩
  have ltI : gI < B := by rw [← hB]; exact I2.out.lt
  have ltP : gP < B := by rw [← hB]; exact P2.out.lt
  have ltZ : gZ < B := by rw [← hB]; exact Z2.out.lt
  have wB : w.heap.size ≤ B := by rw [← hB]; exact T2.out.size
  have RI : Hid (Rd B u2 (.slice (some ⟨gI, 0, none⟩) 16 16) I) := by
    have h := (I2.out.rd (by rw [HI.out]; decide)).more (show gI + 1 ≤ B by omega)
    rw [HI.out] at h
    exact h
  go_wp2_with (at_builtin; refine wpList_app rfl _ _ 22 rfl 5 i0 Tryz.underlying22 HIN.out H0.out H1.out H2.out B B _ _ [] I rfl (by rw [← hB]; exact Own.madeS 5 u2) rfl (RI.out.below ((Below.refl _ _).alloc (by rw [hB]; exact Nat.le_refl _) _)) (by rw [HI.out]; simp) (by rw [← hB]; simp) ?_)
  intro v3 u3 hown hb2
  have hb : Below B u2 u3 := ((Below.refl _ _).alloc (by rw [hB]; exact Nat.le_refl _) _).trans hb2
  have sB2 : B ≤ u2.heap.size := by omega
  have I3 : Hid (Blk u3 gI (bys I) 29) := I2.out.below hb ltI
  have P3 : Hid (Blk u3 gP (bys p) 30) := P2.out.below hb ltP
  have Z3 : Hid (Blk u3 gZ (z32) 30) := Z2.out.below hb ltZ
  have T3 : Hid (Below w.heap.size w u3) := T2.out.trans (hb.mono wB)
  have sB3 : B ≤ u3.heap.size := by have := hb.size; omega
  have O3 : Hid (Own 5 u3 B v3 I) := Lib.hid (by simpa using hown)
  clear hown hb hb2 RI hB sB2 T2 I2 P2 Z2
  go_wp2_with fail
  refine (four_any r _ HR.out).mono ?_
  rintro e u4 ⟨x4, rfl, hown, hb0⟩
  have hb : Below B u3 u4 := hb0.mono sB3
  have I4 : Hid (Blk u4 gI (bys I) 29) := I3.out.below hb ltI
  have P4 : Hid (Blk u4 gP (bys p) 30) := P3.out.below hb ltP
  have Z4 : Hid (Blk u4 gZ (z32) 30) := Z3.out.below hb ltZ
  have T4 : Hid (Below w.heap.size w u4) := T3.out.trans (hb.mono wB)
  have sB4 : B ≤ u4.heap.size := by have := hb.size; omega
  have O4 : Hid (Own 5 u4 B v3 I) := O3.out.below hb0 (Nat.le_refl _)
  have F4 : Hid (Rd u4.heap.size u4 x4 (be 4 r)) := hown.rd
  clear hown hb hb0 O3 sB3 T3 I3 P3 Z3
  go_wp2_with (at_builtin; refine wpList_app rfl _ _ 22 rfl 5 i0 Tryz.underlying22 HIN.out H0.out H1.out H2.out B u4.heap.size _ _ I (be 4 r) rfl O4.out rfl F4.out (by rw [HI.out, be_length]; omega) sB4 ?_)
  intro v5 u5 hown hb
  have I5 : Hid (Blk u5 gI (bys I) 29) := I4.out.below hb ltI
  have P5 : Hid (Blk u5 gP (bys p) 30) := P4.out.below hb ltP
  have Z5 : Hid (Blk u5 gZ (z32) 30) := Z4.out.below hb ltZ
  have T5 : Hid (Below w.heap.size w u5) := T4.out.trans (hb.mono wB)
  have sB5 : B ≤ u5.heap.size := by have := hb.size; omega
  have O5 : Hid (Own 5 u5 B v5 (I ++ be 4 r)) := hown
  clear hown hb F4 O4 sB4 T4 I4 P4 Z4
  go_wp2_with (at_builtin; refine wpList_app rfl _ _ 22 rfl 5 i0 Tryz.underlying22 HIN.out H0.out H1.out H2.out B (u5.heap.size + 1) _ _ (I ++ be 4 r) [130, 130] rfl (O5.out.alloc _) rfl ((Own.lit 5 u5 _ 2 [130, 130] rfl (by omega) rfl).rd.more (by simp)) (by rw [List.length_append, HI.out, be_length]; decide) (by simp; omega) ?_)
  intro v6 u6 hown hb2
  have hb : Below B u5 u6 := ((Below.refl B u5).alloc sB5 _).trans hb2
  have I6 : Hid (Blk u6 gI (bys I) 29) := I5.out.below hb ltI
  have P6 : Hid (Blk u6 gP (bys p) 30) := P5.out.below hb ltP
  have Z6 : Hid (Blk u6 gZ (z32) 30) := Z5.out.below hb ltZ
  have T6 : Hid (Below w.heap.size w u6) := T5.out.trans (hb.mono wB)
  have sB6 : B ≤ u6.heap.size := by have := hb.size; omega
  have O6 : Hid (Own 5 u6 B v6 (I ++ be 4 r ++ [130, 130])) := Lib.hid (by simpa using hown)
  clear hown hb hb2 O5 sB5 T5 I5 P5 Z5
  have RP : Hid (Rd u6.heap.size u6 (.slice (some ⟨gP, 0, none⟩) 32 32) p) := by
    have h := (P6.out.rd (by rw [HP.out]; decide)).more (show gP + 1 ≤ u6.heap.size by omega)
    rw [HP.out] at h
    exact h
  go_wp2_with (at_builtin; refine wpList_app rfl _ _ 22 rfl 5 i0 Tryz.underlying22 HIN.out H0.out H1.out H2.out B u6.heap.size _ _ (I ++ be 4 r ++ [130, 130]) p rfl O6.out rfl RP.out (by simp [HI.out, HP.out, be_length]) sB6 ?_)
  intro v7 u7 hown hb
  have I7 : Hid (Blk u7 gI (bys I) 29) := I6.out.below hb ltI
  have P7 : Hid (Blk u7 gP (bys p) 30) := P6.out.below hb ltP
  have Z7 : Hid (Blk u7 gZ (z32) 30) := Z6.out.below hb ltZ
  have T7 : Hid (Below w.heap.size w u7) := T6.out.trans (hb.mono wB)
  have sB7 : B ≤ u7.heap.size := by have := hb.size; omega
  have O7 : Hid (Own 5 u7 B v7 (I ++ be 4 r ++ [130, 130] ++ p)) := Lib.hid (by simpa using hown)
  clear hown hb RP O6 sB6 T6 I6 P6 Z6
  go_wp2_with fail
  refine (refSum_any v7 _ _ O7.out.rd (by simp [HI.out, HP.out, be_length])).mono ?_
  rintro e u8 ⟨rfl, hb5⟩
  rw [HH.out]
  have V2 : Hid (Blk u8 gZ z32 30) := Z7.out.below hb5 Z7.out.lt
  have VB : Hid (Below w.heap.size w u8) := T7.out.trans (hb5.mono T7.out.size)
  clear hb5 O7 sB7 T7 I7 P7 Z7
  go_wp2_with (refine wpList_store_blk rfl 30 _ _ rfl gZ (bys (leafL I r p)) z32 30 rfl rfl V2.out H24.out HLZ.out (bys_one' _) ?_)
  refine bodyPost_ret (v := .agg (bys (leafL I r p)).toArray) ?_ rfl ?_
  · exact ret_blk rfl _ _ gZ 30 _ rfl V2.out.setRow 32 5 tu24 H24.out
  · exact ⟨rfl, below_setRow' VB.out wZ _⟩

set_option maxRecDepth 100000 in
set_option maxHeartbeats 1000000 in
theorem rfHigh_any (I p q : List UInt8) (r : Nat) (w : World) (hI : I.length = 16) (hp : p.length = 32) (hq : q.length = 32) (hr : r < 4294967296) : Calls Tryz.prog 39 #[.agg (bys I).toArray, .int .i64 (r : Int), .agg (bys p).toArray, .agg (bys q).toArray] w (Arr (bys (upL I r p q)) w) := by
  obtain ⟨i0, hi0, hz0, hz1, hz2⟩ := info_parts info5
  have HIN := Lib.hid hi0
  have H0 := Lib.hid hz0
  have H1 := Lib.hid hz1
  have H2 := Lib.hid hz2
  have HI := Lib.hid hI
  have HP := Lib.hid hp
  have HQ := Lib.hid hq
  have HR := Lib.hid hr
  have zr : (r : Int) < 4294967296 := by omega
  have HH : Hid (hash ((((I ++ be 4 r) ++ [131, 131]) ++ p) ++ q) = upL I r p q) := by show _ = _; simp [upL, pre20]
  have H24 : Hid ((Tryz.prog.info? 30).map (·.size) = some (bys (upL I r p q)).length) := by show _ = _; rw [bys_length, upL_length]; exact s24
  have HLZ : Hid (z32.length = (bys (upL I r p q)).length) := by show _ = _; rw [bys_length, upL_length, z32_length]
  clear hI hp hi0 hz0 hz1 hz2 hq
  go_enter Tryz.func39, Tryz.ntmps39
  go_wp2_with (refine wpList_box_blk rfl 29 _ rfl (bys I) rfl ?_)
  intro u0 a1 a2 a3
  obtain ⟨gI, hgI⟩ : ∃ g, w.heap.size = g := ⟨_, rfl⟩
  rw [hgI] at a1 a2 ⊢
  have I0 : Hid (Blk u0 gI (bys I) 29) := a1
  have T0 : Hid (Below w.heap.size w u0) := a3
  clear a1 a2 a3 hgI
  go_wp2_with (refine wpList_box_blk rfl 30 _ rfl (bys p) rfl ?_)
  intro u1 a1 a2 a3
  obtain ⟨gP, hgP⟩ : ∃ g, u0.heap.size = g := ⟨_, rfl⟩
  rw [hgP] at a1 a2 ⊢
  have I1 : Hid (Blk u1 gI (bys I) 29) := I0.out.below a3 I0.out.lt
  have P1 : Hid (Blk u1 gP (bys p) 30) := a1
  have T1 : Hid (Below w.heap.size w u1) := T0.out.trans (a3.mono T0.out.size)
  clear a1 a2 a3 hgP I0 T0
  go_wp2_with (refine wpList_box_blk rfl 30 _ rfl (bys q) rfl ?_)
  intro u2 a1 a2 a3
  obtain ⟨gQ, hgQ⟩ : ∃ g, u1.heap.size = g := ⟨_, rfl⟩
  rw [hgQ] at a1 a2 ⊢
  have I2 : Hid (Blk u2 gI (bys I) 29) := I1.out.below a3 I1.out.lt
  have P2 : Hid (Blk u2 gP (bys p) 30) := P1.out.below a3 P1.out.lt
  have Q2 : Hid (Blk u2 gQ (bys q) 30) := a1
  have T2 : Hid (Below w.heap.size w u2) := T1.out.trans (a3.mono T1.out.size)
  clear a1 a2 a3 hgQ I1 P1 T1
  go_wp2_with (refine wpList_alloc_blk rfl 30 rfl _ z24 ?_)
  intro u3 a1 a2 a3
  obtain ⟨gZ, hgZ⟩ : ∃ g, u2.heap.size = g := ⟨_, rfl⟩
  rw [hgZ] at a1 a2 ⊢
  have I3 : Hid (Blk u3 gI (bys I) 29) := I2.out.below a3 I2.out.lt
  have P3 : Hid (Blk u3 gP (bys p) 30) := P2.out.below a3 P2.out.lt
  have Q3 : Hid (Blk u3 gQ (bys q) 30) := Q2.out.below a3 Q2.out.lt
  have WZ : Hid (w.heap.size ≤ gZ) := by rw [← hgZ]; exact T2.out.size
  have Z3 : Hid (Blk u3 gZ (z32) 30) := a1
  have T3 : Hid (Below w.heap.size w u3) := T2.out.trans (a3.mono T2.out.size)
  clear a1 a2 a3 hgZ I2 P2 Q2 T2
  have wZ : w.heap.size ≤ gZ := WZ.out
  obtain ⟨B, hB⟩ : ∃ B, u3.heap.size = B := ⟨_, rfl⟩
  have ltI : gI < B := by rw [← hB]; exact I3.out.lt
  have ltP : gP < B := by rw [← hB]; exact P3.out.lt
  have ltQ : gQ < B := by rw [← hB]; exact Q3.out.lt
  have ltZ : gZ < B := by rw [← hB]; exact Z3.out.lt
  have wB : w.heap.size ≤ B := by rw [← hB]; exact T3.out.size
  have RI : Hid (Rd B u3 (.slice (some ⟨gI, 0, none⟩) 16 16) I) := by
    have h := (I3.out.rd (by rw [HI.out]; decide)).more (show gI + 1 ≤ B by omega)
    rw [HI.out] at h
    exact h
  go_wp2_with (at_builtin; refine wpList_app rfl _ _ 22 rfl 5 i0 Tryz.underlying22 HIN.out H0.out H1.out H2.out B B _ _ [] I rfl (by rw [← hB]; exact Own.madeS 5 u3) rfl (RI.out.below ((Below.refl _ _).alloc (by rw [hB]; exact Nat.le_refl _) _)) (by rw [HI.out]; simp) (by rw [← hB]; simp) ?_)
  intro v4 u4 hown hb2
  have hb : Below B u3 u4 := ((Below.refl _ _).alloc (by rw [hB]; exact Nat.le_refl _) _).trans hb2
  have sB3 : B ≤ u3.heap.size := by omega
  have I4 : Hid (Blk u4 gI (bys I) 29) := I3.out.below hb ltI
  have P4 : Hid (Blk u4 gP (bys p) 30) := P3.out.below hb ltP
  have Q4 : Hid (Blk u4 gQ (bys q) 30) := Q3.out.below hb ltQ
  have Z4 : Hid (Blk u4 gZ (z32) 30) := Z3.out.below hb ltZ
  have T4 : Hid (Below w.heap.size w u4) := T3.out.trans (hb.mono wB)
  have sB4 : B ≤ u4.heap.size := by have := hb.size; omega
  have O4 : Hid (Own 5 u4 B v4 I) := Lib.hid (by simpa using hown)
  clear hown hb hb2 RI hB sB3 T3 I3 P3 Q3 Z3
  go_wp2_with fail
  refine (four_any r _ HR.out).mono ?_
  rintro e u5 ⟨x5, rfl, hown, hb0⟩
  have hb : Below B u4 u5 := hb0.mono sB4
  have I5 : Hid (Blk u5 gI (bys I) 29) := I4.out.below hb ltI
  have P5 : Hid (Blk u5 gP (bys p) 30) := P4.out.below hb ltP
  have Q5 : Hid (Blk u5 gQ (bys q) 30) := Q4.out.below hb ltQ
  have Z5 : Hid (Blk u5 gZ (z32) 30) := Z4.out.below hb ltZ
  have T5 : Hid (Below w.heap.size w u5) := T4.out.trans (hb.mono wB)
  have sB5 : B ≤ u5.heap.size := by have := hb.size; omega
  have O5 : Hid (Own 5 u5 B v4 I) := O4.out.below hb0 (Nat.le_refl _)
  have F5 : Hid (Rd u5.heap.size u5 x5 (be 4 r)) := hown.rd
  clear hown hb hb0 O4 sB4 T4 I4 P4 Q4 Z4
  go_wp2_with (at_builtin; refine wpList_app rfl _ _ 22 rfl 5 i0 Tryz.underlying22 HIN.out H0.out H1.out H2.out B u5.heap.size _ _ I (be 4 r) rfl O5.out rfl F5.out (by rw [HI.out, be_length]; omega) sB5 ?_)
  intro v6 u6 hown hb
  have I6 : Hid (Blk u6 gI (bys I) 29) := I5.out.below hb ltI
  have P6 : Hid (Blk u6 gP (bys p) 30) := P5.out.below hb ltP
  have Q6 : Hid (Blk u6 gQ (bys q) 30) := Q5.out.below hb ltQ
  have Z6 : Hid (Blk u6 gZ (z32) 30) := Z5.out.below hb ltZ
  have T6 : Hid (Below w.heap.size w u6) := T5.out.trans (hb.mono wB)
  have sB6 : B ≤ u6.heap.size := by have := hb.size; omega
  have O6 : Hid (Own 5 u6 B v6 (I ++ be 4 r)) := hown
  clear hown hb F5 O5 sB5 T5 I5 P5 Q5 Z5
  go_wp2_with (at_builtin; refine wpList_app rfl _ _ 22 rfl 5 i0 Tryz.underlying22 HIN.out H0.out H1.out H2.out B (u6.heap.size + 1) _ _ (I ++ be 4 r) [131, 131] rfl (O6.out.alloc _) rfl ((Own.lit 5 u6 _ 2 [131, 131] rfl (by omega) rfl).rd.more (by simp)) (by rw [List.length_append, HI.out, be_length]; decide) (by simp; omega) ?_)
  intro v7 u7 hown hb2
  have hb : Below B u6 u7 := ((Below.refl B u6).alloc sB6 _).trans hb2
  have I7 : Hid (Blk u7 gI (bys I) 29) := I6.out.below hb ltI
  have P7 : Hid (Blk u7 gP (bys p) 30) := P6.out.below hb ltP
  have Q7 : Hid (Blk u7 gQ (bys q) 30) := Q6.out.below hb ltQ
  have Z7 : Hid (Blk u7 gZ (z32) 30) := Z6.out.below hb ltZ
  have T7 : Hid (Below w.heap.size w u7) := T6.out.trans (hb.mono wB)
  have sB7 : B ≤ u7.heap.size := by have := hb.size; omega
  have O7 : Hid (Own 5 u7 B v7 (I ++ be 4 r ++ [131, 131])) := Lib.hid (by simpa using hown)
  clear hown hb hb2 O6 sB6 T6 I6 P6 Q6 Z6
  have RP : Hid (Rd u7.heap.size u7 (.slice (some ⟨gP, 0, none⟩) 32 32) p) := by
    have h := (P7.out.rd (by rw [HP.out]; decide)).more (show gP + 1 ≤ u7.heap.size by omega)
    rw [HP.out] at h
    exact h
  go_wp2_with (at_builtin; refine wpList_app rfl _ _ 22 rfl 5 i0 Tryz.underlying22 HIN.out H0.out H1.out H2.out B u7.heap.size _ _ (I ++ be 4 r ++ [131, 131]) p rfl O7.out rfl RP.out (by simp [HI.out, HP.out, be_length]) sB7 ?_)
  intro v8 u8 hown hb
  have I8 : Hid (Blk u8 gI (bys I) 29) := I7.out.below hb ltI
  have P8 : Hid (Blk u8 gP (bys p) 30) := P7.out.below hb ltP
  have Q8 : Hid (Blk u8 gQ (bys q) 30) := Q7.out.below hb ltQ
  have Z8 : Hid (Blk u8 gZ (z32) 30) := Z7.out.below hb ltZ
  have T8 : Hid (Below w.heap.size w u8) := T7.out.trans (hb.mono wB)
  have sB8 : B ≤ u8.heap.size := by have := hb.size; omega
  have O8 : Hid (Own 5 u8 B v8 (I ++ be 4 r ++ [131, 131] ++ p)) := Lib.hid (by simpa using hown)
  clear hown hb RP O7 sB7 T7 I7 P7 Q7 Z7
  have RQ : Hid (Rd u8.heap.size u8 (.slice (some ⟨gQ, 0, none⟩) 32 32) q) := by
    have h := (Q8.out.rd (by rw [HQ.out]; decide)).more (show gQ + 1 ≤ u8.heap.size by omega)
    rw [HQ.out] at h
    exact h
  go_wp2_with (at_builtin; refine wpList_app rfl _ _ 22 rfl 5 i0 Tryz.underlying22 HIN.out H0.out H1.out H2.out B u8.heap.size _ _ (I ++ be 4 r ++ [131, 131] ++ p) q rfl O8.out rfl RQ.out (by simp [HI.out, HP.out, HQ.out, be_length]) sB8 ?_)
  intro v9 u9 hown hb
  have I9 : Hid (Blk u9 gI (bys I) 29) := I8.out.below hb ltI
  have P9 : Hid (Blk u9 gP (bys p) 30) := P8.out.below hb ltP
  have Q9 : Hid (Blk u9 gQ (bys q) 30) := Q8.out.below hb ltQ
  have Z9 : Hid (Blk u9 gZ (z32) 30) := Z8.out.below hb ltZ
  have T9 : Hid (Below w.heap.size w u9) := T8.out.trans (hb.mono wB)
  have sB9 : B ≤ u9.heap.size := by have := hb.size; omega
  have O9 : Hid (Own 5 u9 B v9 (I ++ be 4 r ++ [131, 131] ++ p ++ q)) := Lib.hid (by simpa using hown)
  clear hown hb RQ O8 sB8 T8 I8 P8 Q8 Z8
  go_wp2_with fail
  refine (refSum_any v9 _ _ O9.out.rd (by simp [HI.out, HP.out, HQ.out, be_length])).mono ?_
  rintro e u10 ⟨rfl, hb5⟩
  rw [HH.out]
  have V2 : Hid (Blk u10 gZ z32 30) := Z9.out.below hb5 Z9.out.lt
  have VB : Hid (Below w.heap.size w u10) := T9.out.trans (hb5.mono T9.out.size)
  clear hb5 O9 sB9 T9 I9 P9 Q9 Z9
  go_wp2_with (refine wpList_store_blk rfl 30 _ _ rfl gZ (bys (upL I r p q)) z32 30 rfl rfl V2.out H24.out HLZ.out (bys_one' _) ?_)
  refine bodyPost_ret (v := .agg (bys (upL I r p q)).toArray) ?_ rfl ?_
  · exact ret_blk rfl _ _ gZ 30 _ rfl V2.out.setRow 32 5 tu24 H24.out
  · exact ⟨rfl, below_setRow' VB.out wZ _⟩
end Go.Proofs.YtllncnnigjgadaaGreat

namespace Go.Proofs.YtllncnnigjgadaaGreat
open Go.RowKit

set_option maxRecDepth 100000 in
set_option maxHeartbeats 400000 in
theorem rfMay_yes (I seed : List UInt8) (k h : Nat) (w : World) (hI : I.length = 16) (hs : seed.length = 32) (hk : Wd k) (hh : Ht h) : Calls Tryz.prog 67 #[.agg (tcs I seed (k : Int) (h : Int)).toArray] w (One (.bool true) w) := by
  have HZ := Lib.hid (tcs_z I seed (k : Int) (h : Int) hI hs)
  have HY := Lib.hid (tcs_y I seed (k : Int) (h : Int) hI hs)
  have HK := Lib.hid hk
  clear hI hs hk
  go_enter Tryz.func67, Tryz.ntmps67
  go_wp2_with (refine wpList_box_blk rfl 38 _ rfl (tcs I seed (k : Int) (h : Int)) rfl ?_)
  intro w1 a1 a2 a3
  have cz := (a1.cell 48).trans HZ.out
  have cy := (a1.cell 49).trans HY.out
  have A3 := Lib.hid a3
  clear a1 a2 a3 HZ HY
  go_wp2_with fail
  refine (refType_yes k _ HK.out).mono ?_
  rintro e w2 ⟨rfl, rfl⟩
  clear cz
  obtain ⟨h1, h5⟩ := hh.le
  have t1 : decide ((1 : Int) ≤ (h : Int)) = true := by simp; omega
  have t2 : decide ((h : Int) ≤ 5) = true := by simp; omega
  go_wp2
  go_ret
  exact ⟨rfl, A3.out⟩

set_option maxRecDepth 100000 in
set_option maxHeartbeats 400000 in
theorem rfMay_no (I seed : List UInt8) (z y : Int) (w : World) (hI : I.length = 16) (hs : seed.length = 32) (hn : NoT z y) : Calls Tryz.prog 67 #[.agg (tcs I seed z y).toArray] w (One (.bool false) w) := by
  have HZ := Lib.hid (tcs_z I seed z y hI hs)
  have HY := Lib.hid (tcs_y I seed z y hI hs)
  clear hI hs
  go_enter Tryz.func67, Tryz.ntmps67
  go_wp2_with (refine wpList_box_blk rfl 38 _ rfl (tcs I seed z y) rfl ?_)
  intro w1 a1 a2 a3
  have cz := (a1.cell 48).trans HZ.out
  have cy := (a1.cell 49).trans HY.out
  have A3 := Lib.hid a3
  clear a1 a2 a3 HZ HY
  rcases width_or z with ⟨k, hk, rfl⟩ | hz
  · have hy : y < 1 ∨ 5 < y := by
      rcases hn with hn | hn
      · exact absurd hn (by unfold NoW; rcases hk with rfl | rfl | rfl | rfl <;> simp)
      · unfold NoH at hn; omega
    clear hn
    have HK := Lib.hid hk
    clear hk
    go_wp2_with fail
    refine (refType_yes k _ HK.out).mono ?_
    rintro e w2 ⟨rfl, rfl⟩
    clear cz HK
    by_cases h : 1 ≤ y
    · have h5 : 5 < y := by omega
      have t1 : decide ((1 : Int) ≤ y) = true := by simp; omega
      have t2 : decide (y ≤ (5 : Int)) = false := by simp; omega
      clear hy
      go_wp2
      go_ret
      exact ⟨rfl, A3.out⟩
    · have t1 : decide ((1 : Int) ≤ y) = false := by simp; omega
      clear hy
      go_wp2
      go_ret
      exact ⟨rfl, A3.out⟩
  · clear hn
    have HZ := Lib.hid hz
    clear hz
    go_wp2_with fail
    refine (refType_no z _ HZ.out).mono ?_
    rintro e w2 ⟨rfl, rfl⟩
    clear cz HZ
    go_wp2
    go_ret
    exact ⟨rfl, A3.out⟩

set_option maxRecDepth 100000 in
set_option maxHeartbeats 400000 in
theorem rfLong_no (I seed : List UInt8) (z y : Int) (w : World) (hI : I.length = 16) (hs : seed.length = 32) (hn : NoT z y) : Calls Tryz.prog 76 #[.agg (tcs I seed z y).toArray] w (TwoD (.int .i64 0) (.int .i64 1) w) := by
  have H5 : Hid ((Tryz.prog.info? 38).map (·.size) = some (tcs I seed z y).length) := by show _ = _; rw [tcs_length I seed z y hI hs]; exact sTree5
  obtain ⟨d5, hu5, hd5⟩ := rowTree5
  have HU := Lib.hid hu5
  have HD := Lib.hid hd5
  have HI := Lib.hid hI
  have HS := Lib.hid hs
  have HN := Lib.hid hn
  clear hI hs hn hu5 hd5
  go_enter Tryz.func76, Tryz.ntmps76
  go_wp2_with (refine wpList_box_blk rfl 38 _ rfl (tcs I seed z y) rfl ?_)
  intro w1 a1 a2 a3
  have A1 := Lib.hid a1
  have A3 := Lib.hid a3
  clear a1 a2 a3
  go_wp2_with (refine wpList_load_blkU rfl 38 _ rfl w.heap.size rfl (tcs I seed z y) 38 A1.out d5 HU.out HD.out H5.out ?_)
  refine (rfMay_no I seed z y _ HI.out HS.out HN.out).mono ?_
  rintro e w2 ⟨rfl, hb⟩
  have B1 : Hid (Below w.heap.size w w2) := A3.out.trans (hb.mono A3.out.size)
  clear hb A1 A3
  go_wp2
  go_ret2
  exact ⟨rfl, B1.out⟩

set_option maxRecDepth 100000 in
set_option maxHeartbeats 400000 in
theorem rfLong_yes (I seed : List UInt8) (k h : Nat) (w : World) (hI : I.length = 16) (hs : seed.length = 32) (hk : Wd k) (hh : Ht h) : Calls Tryz.prog 76 #[.agg (tcs I seed (k : Int) (h : Int)).toArray] w (TwoD (.int .i64 (llng k h : Nat)) (.int .i64 0) w) := by
  have H5 : Hid ((Tryz.prog.info? 38).map (·.size) = some (tcs I seed (k : Int) (h : Int)).length) := by show _ = _; rw [tcs_length I seed _ _ hI hs]; exact sTree5
  obtain ⟨d5, hu5, hd5⟩ := rowTree5
  have HU := Lib.hid hu5
  have HD := Lib.hid hd5
  have HI := Lib.hid hI
  have HS := Lib.hid hs
  have HK := Lib.hid hk
  have HH := Lib.hid hh
  have HL9 : Hid (lng k ≤ 10000) := by have := mny_le k hk; show _ ≤ _; unfold lng; omega
  obtain ⟨h1, h5⟩ := hh.le
  clear hI hs hk hh hu5 hd5
  go_enter Tryz.func76, Tryz.ntmps76
  go_wp2_with (refine wpList_box_blk rfl 38 _ rfl (tcs I seed (k : Int) (h : Int)) rfl ?_)
  intro w1 a1 a2 a3
  have A1 := Lib.hid a1
  have A3 := Lib.hid a3
  clear a1 a2 a3
  go_wp2_with (refine wpList_load_blkU rfl 38 _ rfl w.heap.size rfl (tcs I seed (k : Int) (h : Int)) 38 A1.out d5 HU.out HD.out H5.out ?_)
  refine (rfMay_yes I seed k h _ HI.out HS.out HK.out HH.out).mono ?_
  rintro e w2 ⟨rfl, hb⟩
  have B1 : Hid (Below w.heap.size w w2) := A3.out.trans (hb.mono A3.out.size)
  have B2 := A1.out.below hb A1.out.lt
  have cz := (B2.cell 48).trans (tcs_z I seed _ _ HI.out HS.out)
  have cy := (B2.cell 49).trans (tcs_y I seed _ _ HI.out HS.out)
  clear hb A1 A3 B2
  go_wp2_with fail
  refine (refLong_yes k _ HK.out).mono ?_
  rintro e w3 ⟨rfl, nd, rfl⟩
  have C1 : Hid (Below w.heap.size w (w2.drewN nd)) := Below.drewN' B1.out
  have cy2 : (w2.drewN nd).cell? ⟨w.heap.size, 49, none⟩ = some (.int .i64 (h : Int)) := cy
  generalize w2.drewN nd = w3 at C1 cy2 ⊢
  obtain ⟨L, hLE⟩ : ∃ L, lng k = L := ⟨_, rfl⟩
  have HE : Hid (((llng k h : Nat) : Int) = 4 + (L : Int) + 4 + 32 * (h : Int)) := by show _ = _; unfold llng; rw [← hLE]; omega
  have hL := HL9.out
  rw [hLE] at hL ⊢
  clear cz cy B1 hLE HL9
  have z1 : (L : Int) ≤ 10000 := by omega
  have z2 : (h : Int) ≤ 5 := by omega
  go_wp2
  go_ret2
  refine ⟨?_, C1.out⟩
  rw [HE.out]
  rfl
end Go.Proofs.YtllncnnigjgadaaGreat

namespace Go.Proofs.YtllncnnigjgadaaGreat
open Go.RowKit

set_option maxRecDepth 100000 in
set_option maxHeartbeats 1000000 in
theorem rfKnot_leaf (I seed : List UInt8) (k h r : Nat) (w : World) (hI : I.length = 16) (hs : seed.length = 32) (hk : Wd k) (hh : Ht h) (h1 : 2 ^ h ≤ r) (h2 : r < 2 * 2 ^ h) : Calls Tryz.prog 80 #[.agg (tcs I seed (k : Int) (h : Int)).toArray, .int .i64 (r : Int)] w (Arr (bys (leafL I r (pubL (pre20 I (r - 2 ^ h)) seed k))) w) := by
  have H5 : Hid ((Tryz.prog.info? 38).map (·.size) = some (tcs I seed (k : Int) (h : Int)).length) := by show _ = _; rw [tcs_length I seed _ _ hI hs]; exact sTree5
  have H22 : Hid ((Tryz.prog.info? 29).map (·.size) = some (bys I).length) := by show _ = _; rw [bys_length, hI]; exact s22
  obtain ⟨d5, hu5, hd5⟩ := rowTree5
  have HU := Lib.hid hu5
  have HD := Lib.hid hd5
  have HI := Lib.hid hI
  have HS := Lib.hid hs
  have HK := Lib.hid hk
  have HH := Lib.hid hh
  have hp2 : 2 ^ h ≤ 32 := by rcases hh with rfl | rfl | rfl | rfl | rfl <;> decide
  obtain ⟨N, hN⟩ : ∃ N, 2 ^ h = N := ⟨_, rfl⟩
  have HNE := Lib.hid hN
  rw [hN] at h1 h2 hp2 ⊢
  clear hI hs hk hh hu5 hd5 hN
  have z1 : (N : Int) ≤ (r : Int) := by omega
  have z2 : (r : Int) < 64 := by omega
  have z3 : (N : Int) ≤ 32 := by omega
  go_enter Tryz.func80, Tryz.ntmps80
  go_wp2_with (first | (refine wpList_box_blk rfl 38 _ rfl (tcs I seed (k : Int) (h : Int)) rfl ?_))
  intro w1 a1 a2 a3
  obtain ⟨g0, hg0⟩ : ∃ g, w.heap.size = g := ⟨_, rfl⟩
  rw [hg0] at a1 a2 ⊢
  have A1 := Lib.hid a1
  have A3 := Lib.hid a3
  clear a1 a2 a3
  go_wp2_with (refine wpList_alloc_blk rfl 30 rfl _ z24 ?_)
  intro w2 a1 a2 a3
  obtain ⟨g1, hg1⟩ : ∃ g, w1.heap.size = g := ⟨_, rfl⟩
  rw [hg1] at a1 a2 ⊢
  have X1 : Hid (Blk w2 g0 (tcs I seed (k : Int) (h : Int)) 38) := A1.out.below a3 A1.out.lt
  have X2 : Hid (Blk w2 g1 z32 30) := a1
  have XB : Hid (Below w.heap.size w w2) := A3.out.trans (a3.mono A3.out.size)
  have g01 : Hid (g0 < g1) := by have := A1.out.lt; show _ < _; omega
  have wg1 : Hid (w.heap.size ≤ g1) := by have := A1.out.lt; show _ ≤ _; omega
  clear a1 a2 a3 A1 A3 hg0 hg1
  have cy := (X1.out.cell 49).trans (tcs_y I seed _ _ HI.out HS.out)
  go_wp2_with fail
  refine (rfLeaves_any h _ HH.out).mono ?_
  rintro e w3 ⟨rfl, rfl⟩
  rw [HNE.out]
  clear cy
  have tN : decide ((N : Int) ≤ (r : Int)) = true := by simp; omega
  go_wp2_with (refine wpList_load_blkU rfl 38 _ rfl g0 rfl (tcs I seed (k : Int) (h : Int)) 38 X1.out d5 HU.out HD.out H5.out ?_)
  refine calls_args (args2 := #[.agg (tcs I seed (k : Int) (h : Int)).toArray, .int .i64 ((r - N : Nat) : Int)]) (by rw [show ((r - N : Nat) : Int) = (r : Int) - (N : Int) by omega]) ?_
  refine (rfKey_any I seed (r - N) _ _ _ HI.out HS.out (by omega)).mono ?_
  rintro e w3 ⟨rfl, hb⟩
  have Y1 : Hid (Blk w3 g0 (tcs I seed (k : Int) (h : Int)) 38) := X1.out.below hb X1.out.lt
  have Y2 : Hid (Blk w3 g1 z32 30) := X2.out.below hb X2.out.lt
  have YB : Hid (Below w.heap.size w w3) := XB.out.trans (hb.mono XB.out.size)
  clear hb X1 X2 XB
  go_wp2_with fail
  refine (refPublic_yes I seed (r - N) k _ HI.out HS.out (by omega) HK.out).mono ?_
  rintro e w4 ⟨rfl, hb⟩
  have X1 : Hid (Blk w4 g0 (tcs I seed (k : Int) (h : Int)) 38) := Y1.out.below hb Y1.out.lt
  have X2 : Hid (Blk w4 g1 z32 30) := Y2.out.below hb Y2.out.lt
  have XB : Hid (Below w.heap.size w w4) := YB.out.trans (hb.mono YB.out.size)
  clear hb Y1 Y2 YB
  go_wp2_with (refine wpList_alloc_blk rfl 30 rfl _ z24 ?_)
  intro w5 a1 a2 a3
  obtain ⟨P, hPE⟩ : ∃ P, pubL (pre20 I (r - N)) seed k = P := ⟨_, rfl⟩
  have HPE := Lib.hid hPE
  have hPl : Hid (P.length = 32) := by show _ = _; rw [← hPE]; exact hpub_length _ _
  rw [hPE]
  obtain ⟨g2, hg2⟩ : ∃ g, w4.heap.size = g := ⟨_, rfl⟩
  rw [hg2] at a1 a2 ⊢
  have H32 : Hid ((Tryz.prog.info? 30).map (·.size) = some (bys P).length) := by show _ = _; rw [bys_length, hPl.out]; exact s24
  have HZP : Hid (z32.length = (bys P).length) := by show _ = _; rw [bys_length, hPl.out, z32_length]
  have n02 : Hid (g0 ≠ g2) := by have := X1.out.lt; show _ ≠ _; omega
  have n12 : Hid (g1 ≠ g2) := by have := X2.out.lt; show _ ≠ _; omega
  have wg2 : w.heap.size ≤ g2 := by rw [← hg2]; exact XB.out.size
  have Y0 : Hid (Blk w5 g2 z32 30) := a1
  have Y1 : Hid (Blk (w5.setRow g2 (bys P).toArray) g0 (tcs I seed (k : Int) (h : Int)) 38) := (X1.out.below a3 X1.out.lt).setRowOther n02.out
  have Y2 : Hid (Blk (w5.setRow g2 (bys P).toArray) g1 z32 30) := (X2.out.below a3 X2.out.lt).setRowOther n12.out
  have Y3 : Hid (Blk (w5.setRow g2 (bys P).toArray) g2 (bys P) 30) := a1.setRow
  have YB : Hid (Below w.heap.size w (w5.setRow g2 (bys P).toArray)) := below_setRow' (XB.out.trans (a3.mono XB.out.size)) wg2 _
  clear a1 a2 a3 X1 X2 XB hPE hg2
  go_wp2_with (first | (refine wpList_store_blk rfl 30 _ _ rfl g2 (bys P) z32 30 rfl rfl Y0.out H32.out HZP.out (bys_one' _) ?_) | (refine wpList_load_mid rfl 29 _ rfl g0 0 rfl (bys I) _ (tcs_rangeI Y1.out) tu22 rfl H22.out ?_) | (refine wpList_load_blk rfl 30 _ rfl g2 rfl (bys P) 30 Y3.out 32 5 tu24 H32.out ?_))
  refine (rfLow_any I P r _ HI.out hPl.out (by omega)).mono ?_
  rintro e w6 ⟨rfl, hb⟩
  have X2 : Hid (Blk w6 g1 z32 30) := Y2.out.below hb Y2.out.lt
  have XB : Hid (Below w.heap.size w w6) := YB.out.trans (hb.mono YB.out.size)
  have H24 : Hid ((Tryz.prog.info? 30).map (·.size) = some (bys (leafL I r P)).length) := by show _ = _; rw [bys_length, leafL_length]; exact s24
  have HLZ : Hid (z32.length = (bys (leafL I r P)).length) := by show _ = _; rw [bys_length, leafL_length, z32_length]
  clear hb Y0 Y1 Y2 Y3 YB
  go_wp2_with (refine wpList_store_blk rfl 30 _ _ rfl g1 (bys (leafL I r P)) z32 30 rfl rfl X2.out H24.out HLZ.out (bys_one' _) ?_)
  refine bodyPost_ret (v := .agg (bys (leafL I r P)).toArray) ?_ rfl ?_
  · exact ret_blk rfl _ _ g1 30 _ rfl X2.out.setRow 32 5 tu24 H24.out
  · exact ⟨by rw [HPE.out], below_setRow' XB.out wg1.out _⟩
end Go.Proofs.YtllncnnigjgadaaGreat

namespace Go.Proofs.YtllncnnigjgadaaGreat
open Go.RowKit

set_option maxRecDepth 100000 in
set_option maxHeartbeats 1000000 in
theorem rfKnot_up (I seed : List UInt8) (k h n r : Nat) (w : World) (hI : I.length = 16) (hs : seed.length = 32) (hh : Ht h) (hr : r < 2 ^ h) (ih : ∀ r', (r' = 2 * r ∨ r' = 2 * r + 1) → ∀ w', Calls Tryz.prog 80 #[.agg (tcs I seed (k : Int) (h : Int)).toArray, .int .i64 (r' : Int)] w' (Arr (bys (knt I seed k (2 ^ h) n r')) w')) :
    Calls Tryz.prog 80 #[.agg (tcs I seed (k : Int) (h : Int)).toArray, .int .i64 (r : Int)] w (Arr (bys (knt I seed k (2 ^ h) (n + 1) r)) w) := by
  have H5 : Hid ((Tryz.prog.info? 38).map (·.size) = some (tcs I seed (k : Int) (h : Int)).length) := by show _ = _; rw [tcs_length I seed _ _ hI hs]; exact sTree5
  obtain ⟨d5, hu5, hd5⟩ := rowTree5
  have HU := Lib.hid hu5
  have HD := Lib.hid hd5
  have HI := Lib.hid hI
  have HS := Lib.hid hs
  have HH := Lib.hid hh
  have hp2 : 2 ^ h ≤ 32 := by rcases hh with rfl | rfl | rfl | rfl | rfl <;> decide
  obtain ⟨N, hN⟩ : ∃ N, 2 ^ h = N := ⟨_, rfl⟩
  have HNE := Lib.hid hN
  rw [hN] at hr hp2 ih ⊢
  have HIH := Lib.hid ih
  obtain ⟨R2, r2⟩ : ∃ R, 2 * r = R := ⟨_, rfl⟩
  obtain ⟨R3, r3⟩ : ∃ R, 2 * r + 1 = R := ⟨_, rfl⟩
  have zz2 : 2 * (r : Int) = (R2 : Int) := by omega
  have zz3 : (R2 : Int) + 1 = (R3 : Int) := by omega
  have hb2 : R2 ≤ 64 := by omega
  have hb3 : R3 ≤ 65 := by omega
  have hR2 : Hid (R2 = 2 * r) := r2.symm
  have hR3 : Hid (R3 = 2 * r + 1) := r3.symm
  obtain ⟨X2, x2⟩ : ∃ X, knt I seed k N n R2 = X := ⟨_, rfl⟩
  obtain ⟨X3, x3⟩ : ∃ X, knt I seed k N n R3 = X := ⟨_, rfl⟩
  have HE2 := Lib.hid x2
  have HE3 := Lib.hid x3
  have HL2 : Hid (X2.length = 32) := by show _ = _; rw [← x2]; exact knt_length _ _ _ _ _ _
  have HL3 : Hid (X3.length = 32) := by show _ = _; rw [← x3]; exact knt_length _ _ _ _ _ _
  obtain ⟨H, hH⟩ : ∃ H, upL I r X2 X3 = H := ⟨_, rfl⟩
  have HHE := Lib.hid hH
  have hkn : knt I seed k N (n + 1) r = H := by
    show upL I r (knt I seed k N n (2 * r)) (knt I seed k N n (2 * r + 1)) = H
    rw [r3, r2, x2, x3, hH]
  rw [hkn]
  have hHl : H.length = 32 := by rw [← hH]; exact upL_length _ _ _ _
  have H22 : Hid ((Tryz.prog.info? 29).map (·.size) = some (bys I).length) := by show _ = _; rw [bys_length, HI.out]; exact s22
  have H24 : Hid ((Tryz.prog.info? 30).map (·.size) = some (bys H).length) := by show _ = _; rw [bys_length, hHl]; exact s24
  have HLZ : Hid (z32.length = (bys H).length) := by show _ = _; rw [bys_length, hHl, z32_length]
  clear r2 r3 x2 x3 hkn hH hHl
  clear hI hs hh hu5 hd5 hN ih
  have z2 : (r : Int) < 64 := by omega
  go_enter Tryz.func80, Tryz.ntmps80
  go_wp2_with (first | (refine wpList_box_blk rfl 38 _ rfl (tcs I seed (k : Int) (h : Int)) rfl ?_))
  intro w1 a1 a2 a3
  obtain ⟨g0, hg0⟩ : ∃ g, w.heap.size = g := ⟨_, rfl⟩
  rw [hg0] at a1 a2 ⊢
  have A1 := Lib.hid a1
  have A3 := Lib.hid a3
  clear a1 a2 a3
  go_wp2_with (refine wpList_alloc_blk rfl 30 rfl _ z24 ?_)
  intro w2 a1 a2 a3
  obtain ⟨g1, hg1⟩ : ∃ g, w1.heap.size = g := ⟨_, rfl⟩
  rw [hg1] at a1 a2 ⊢
  have X1 : Hid (Blk w2 g0 (tcs I seed (k : Int) (h : Int)) 38) := A1.out.below a3 A1.out.lt
  have XZ : Hid (Blk w2 g1 z32 30) := a1
  have XB : Hid (Below w.heap.size w w2) := A3.out.trans (a3.mono A3.out.size)
  have g01 : Hid (g0 < g1) := by have := A1.out.lt; show _ < _; omega
  have wg1 : Hid (w.heap.size ≤ g1) := by have := A1.out.lt; show _ ≤ _; omega
  clear a1 a2 a3 A1 A3 hg0 hg1
  have cy := (X1.out.cell 49).trans (tcs_y I seed _ _ HI.out HS.out)
  go_wp2_with fail
  refine (rfLeaves_any h _ HH.out).mono ?_
  rintro e w3 ⟨rfl, rfl⟩
  rw [HNE.out]
  clear cy
  have tN : decide (N ≤ r) = false := by simp; omega
  go_wp2
  refine wp_region_rely2 13 1 (fun x => ⟨#[.agg (tcs I seed (k : Int) (h : Int)).toArray, .int .i64 (r : Int), .pointer (some ⟨g0, 0, none⟩), undef, .pointer (some ⟨g1, 0, none⟩), .int .i64 (N : Int), undef, undef, .pointer (some ⟨g0, 49, none⟩), .int .i64 (h : Int), .int .i64 (N : Int), .int .i64 (r : Int), .int .i64 (N : Int), .bool false, undef, undef, undef, undef, undef, undef, undef, undef, undef, undef, undef, undef, undef, undef, x 0, x 1, x 2, x 3, x 4, x 5, x 6, x 7, x 8, x 9, x 10, x 11, x 12], []⟩) (fun jj => ([eqV (.pointer (some ⟨g0, 0, none⟩)), eqV (.agg (bys I).toArray), eqV (.int .i64 (r : Int)), eqV (.agg (tcs I seed (k : Int) (h : Int)).toArray), eqV (.int .i64 (r : Int)), eqV (.int .i64 (R2 : Int)), (eqV (.agg (bys X2).toArray)), eqV (.agg (tcs I seed (k : Int) (h : Int)).toArray), eqV (.int .i64 (r : Int)), eqV (.int .i64 (R2 : Int)), eqV (.int .i64 (R3 : Int)), (eqV (.agg (bys X3).toArray)), (eqV (.agg (bys H).toArray))] : List (Value → World → Prop)).getD jj (fun _ _ => True)) rfl ⟨fun kk => [_, _, _, _, _, _, _, _, _, _, _, _, _].getD kk undef, rfl⟩ (by kernel_rfl) (by kernel_rfl) ?steps ?fin
  case steps =>
    refine StepsAt.val 0 (.pointer (some ⟨g0, 0, none⟩)) rfl (fun _ _ => rfl) rfl rfl (fun x wx hb hd => ?_) ?_
    · first | (go_simp; done) | (go_simp; rfl)
    refine StepsAt.val 1 (.agg (bys I).toArray) rfl (fun _ _ => rfl) rfl rfl (fun x wx hb hd => ?_) ?_
    · have h0 : x 0 = .pointer (some ⟨g0, 0, none⟩) := hd 0 (by kernel_rfl)
      exact run_load_mid 29 (.tmp 28) rfl g0 0 (by exact h0) (bys I) (tcs_rangeI (X1.out.below hb X1.out.lt)) 16 5 tu22 H22.out
    refine StepsAt.val 2 (.int .i64 (r : Int)) rfl (fun _ _ => rfl) rfl rfl (fun x wx hb hd => ?_) ?_
    · first | (go_simp; done) | (go_simp; rfl)
    refine StepsAt.val 3 (.agg (tcs I seed (k : Int) (h : Int)).toArray) rfl (fun _ _ => rfl) rfl rfl (fun x wx hb hd => ?_) ?_
    · exact run_load_blkU 38 (.tmp 2) rfl g0 rfl (tcs I seed (k : Int) (h : Int)) 38 (X1.out.below hb X1.out.lt) d5 HU.out HD.out H5.out
    refine StepsAt.val 4 (.int .i64 (r : Int)) rfl (fun _ _ => rfl) rfl rfl (fun x wx hb hd => ?_) ?_
    · first | (go_simp; done) | (go_simp; rfl)
    refine StepsAt.val 5 (.int .i64 (R2 : Int)) rfl (fun _ _ => rfl) rfl rfl (fun x wx hb hd => ?_) ?_
    · have h4 : x 4 = .int .i64 (r : Int) := hd 4 (by kernel_rfl)
      rw [h4]
      go_simp
      exact wrap_i64 _ (by omega) (by omega)
    refine StepsAt.cons 6 (fun _ _ _ h hb => h) (fun _ _ => rfl) rfl rfl (fun x wx hb hd K hK => ?_) ?_
    · have h3 : Hid (x 3 = .agg (tcs I seed (k : Int) (h : Int)).toArray) := hd 3 (by kernel_rfl)
      have h5 : Hid (x 5 = .int .i64 (R2 : Int)) := hd 5 (by kernel_rfl)
      go_simp
      refine calls_args (args2 := #[.agg (tcs I seed (k : Int) (h : Int)).toArray, .int .i64 (R2 : Int)]) (by rw [h3.out, h5.out]) ?_
      refine (HIH.out R2 (.inl hR2.out) _).mono ?_
      rintro e w9 ⟨rfl, hb9⟩
      rw [HE2.out]
      exact hK.out _ _ hb9 rfl
    refine StepsAt.val 7 (.agg (tcs I seed (k : Int) (h : Int)).toArray) rfl (fun _ _ => rfl) rfl rfl (fun x wx hb hd => ?_) ?_
    · exact run_load_blkU 38 (.tmp 2) rfl g0 rfl (tcs I seed (k : Int) (h : Int)) 38 (X1.out.below hb X1.out.lt) d5 HU.out HD.out H5.out
    refine StepsAt.val 8 (.int .i64 (r : Int)) rfl (fun _ _ => rfl) rfl rfl (fun x wx hb hd => ?_) ?_
    · first | (go_simp; done) | (go_simp; rfl)
    refine StepsAt.val 9 (.int .i64 (R2 : Int)) rfl (fun _ _ => rfl) rfl rfl (fun x wx hb hd => ?_) ?_
    · have h8 : x 8 = .int .i64 (r : Int) := hd 8 (by kernel_rfl)
      rw [h8]
      go_simp
      exact wrap_i64 _ (by omega) (by omega)
    refine StepsAt.val 10 (.int .i64 (R3 : Int)) rfl (fun _ _ => rfl) rfl rfl (fun x wx hb hd => ?_) ?_
    · have h9 : x 9 = .int .i64 (R2 : Int) := hd 9 (by kernel_rfl)
      rw [h9]
      go_simp
      exact wrap_i64 _ (by omega) (by omega)
    refine StepsAt.cons 11 (fun _ _ _ h hb => h) (fun _ _ => rfl) rfl rfl (fun x wx hb hd K hK => ?_) ?_
    · have h7 : Hid (x 7 = .agg (tcs I seed (k : Int) (h : Int)).toArray) := hd 7 (by kernel_rfl)
      have h10 : Hid (x 10 = .int .i64 (R3 : Int)) := hd 10 (by kernel_rfl)
      go_simp
      refine calls_args (args2 := #[.agg (tcs I seed (k : Int) (h : Int)).toArray, .int .i64 (R3 : Int)]) (by rw [h7.out, h10.out]) ?_
      refine (HIH.out R3 (.inr hR3.out) _).mono ?_
      rintro e w9 ⟨rfl, hb9⟩
      rw [HE3.out]
      exact hK.out _ _ hb9 rfl
    refine StepsAt.cons 12 (fun _ _ _ h hb => h) (fun _ _ => rfl) rfl rfl (fun x wx hb hd K hK => ?_) ?_
    · have h1 : Hid (x 1 = .agg (bys I).toArray) := hd 1 (by kernel_rfl)
      have h2 : Hid (x 2 = .int .i64 (r : Int)) := hd 2 (by kernel_rfl)
      have h6 : Hid (x 6 = .agg (bys X2).toArray) := hd 6 (by kernel_rfl)
      have h11 : Hid (x 11 = .agg (bys X3).toArray) := hd 11 (by kernel_rfl)
      go_simp
      refine calls_args (args2 := #[.agg (bys I).toArray, .int .i64 (r : Int), .agg (bys X2).toArray, .agg (bys X3).toArray]) (by rw [h1.out, h2.out, h6.out, h11.out]) ?_
      refine (rfHigh_any I X2 X3 r _ HI.out HL2.out HL3.out (by omega)).mono ?_
      rintro e w9 ⟨rfl, hb9⟩
      rw [HHE.out]
      exact hK.out _ _ hb9 rfl
    exact StepsAt.done
  case fin =>
    intro x wx hb hd
    have hr : x 12 = .agg (bys H).toArray := hd 12 (by omega)
    refine AnyTill.any (S := fun _ => True) (m := 14) _ _ _ _ ?_
    refine AnyTill.one (i := 13) (by kernel_rfl) rfl (by rfl) (fun K hK => ?_)
    refine wp_store_blk 30 (.tmp 4) (.tmp 40) rfl g1 (bys H) z32 30 rfl hr (XZ.out.below hb XZ.out.lt) H24.out HLZ.out (bys_one' _) ?_
    refine hK.out _ _ (.inr trivial) ?_
    clear hK K
    refine AnyTill.done (by kernel_rfl) ?_
    refine NoPanic.normal ?_
    simp only [Act.put]
    have L0 : Hid (Blk (wx.setRow g1 (bys H).toArray) g1 (bys H) 30) := (XZ.out.below hb XZ.out.lt).setRow
    have LB : Hid (Below w.heap.size w (wx.setRow g1 (bys H).toArray)) := below_setRow' (XB.out.trans (hb.mono XB.out.size)) wg1.out _
    clear hd hr
    go_wp2
    refine bodyPost_ret (v := .agg (bys H).toArray) ?_ rfl ?_
    · exact ret_blk rfl _ _ g1 30 _ rfl L0.out 32 5 tu24 H24.out
    · exact ⟨rfl, LB.out⟩

/-- Every node, n levels above the leaves. -/
theorem rfKnot_any (I seed : List UInt8) (k h : Nat) (hI : I.length = 16) (hs : seed.length = 32) (hk : Wd k) (hh : Ht h) : ∀ (n r : Nat) (w : World), n ≤ h → 2 ^ (h - n) ≤ r → r < 2 * 2 ^ (h - n) →
    Calls Tryz.prog 80 #[.agg (tcs I seed (k : Int) (h : Int)).toArray, .int .i64 (r : Int)] w (Arr (bys (knt I seed k (2 ^ h) n r)) w) := by
  intro n
  induction n with
  | zero =>
    intro r w _ h1 h2
    rw [Nat.sub_zero] at h1 h2
    exact rfKnot_leaf I seed k h r w hI hs hk hh h1 h2
  | succ n ih =>
    intro r w hn h1 h2
    have e : 2 ^ (h - n) = 2 * 2 ^ (h - (n + 1)) := by rw [show h - n = (h - (n + 1)) + 1 by omega, Nat.pow_succ]; omega
    have hle : 2 ^ (h - n) ≤ 2 ^ h := Nat.pow_le_pow_right (by omega) (by omega)
    refine rfKnot_up I seed k h n r w hI hs hh (by omega) (fun r' hr' w' => ?_)
    exact ih r' w' (by omega) (by rcases hr' with rfl | rfl <;> omega) (by rcases hr' with rfl | rfl <;> omega)
end Go.Proofs.YtllncnnigjgadaaGreat
