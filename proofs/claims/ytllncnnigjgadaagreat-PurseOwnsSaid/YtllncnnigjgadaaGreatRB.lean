/-
  The document's own layer 4: Four, head, many, last, Long, Type and a key as the document's, for every input.
  The document's own layer 4: a key as the document's, Long, Type and Secret, for every input.
  The document's own layer 4: Chain, for every key, every three ints and every hash.
  The document's own layer 4: the message hash and Sign, for every key and every text of at most 90000 bytes.
  The document's own layer 4: rows of hashes, the public hash of them, and Public. The document's own layer 4: Public, for every key. The law OtsPublic, walked: it answers true for every key.
-/
import Derived.Test.YtllncnnigjgadaaGreatRA
import Derived.Test.YtllncnnigjgadaaGreatDR
import Derived.Test.YtllncnnigjgadaaGreatCC
import Derived.Test.YtllncnnigjgadaaGreatRel3
namespace Go.Proofs.YtllncnnigjgadaaGreat
open Go.RowKit

set_option maxHeartbeats 400000 in
theorem four_any (q : Nat) (w : World) (hq : q < 4294967296) : Calls Tryz.prog 64 #[.int .u32 (q : Int)] w (Gives w.heap.size (be 4 q) w) := by
  have zq : (q : Int) < 4294967296 := by omega
  go_enter Tryz.func64, Tryz.ntmps64
  go_wp2
  go_ret
  refine ⟨_, rfl, Own.lit 5 w _ 4 (be 4 q) (be_length _ _) (by omega) ?_, (Below.refl _ _).alloc (Nat.le_refl _) _⟩
  simp [be, bys]
  omega

theorem row32 : ∃ d, Tryz.prog.underlying 119 = some d ∧ d.isRow = true := row_of (by kernel_rfl)
theorem s32 : (Tryz.prog.info? 119).map (·.size) = some 50 := by kernel_rfl

set_option maxRecDepth 100000 in
set_option maxHeartbeats 1000000 in
theorem head_any (I seed : List UInt8) (q : Nat) (z : Int) (w : World) (hI : I.length = 16) (hq : q < 4294967296) : Calls Tryz.prog 105 #[.agg (kcs I q seed z).toArray] w (Gives w.heap.size (pre20 I q) w) := by
  obtain ⟨i0, hi, hz0, hz1, hz2⟩ := info_parts info5
  have HIN := Lib.hid hi
  have H0 := Lib.hid hz0
  have H1 := Lib.hid hz1
  have H2 := Lib.hid hz2
  have HI := Lib.hid hI
  clear hi hz0 hz1 hz2 hI
  go_enter Tryz.func105, Tryz.ntmps105
  go_wp2_with (refine wpList_box_blk rfl 119 _ rfl (kcs I q seed z) rfl ?_)
  intro w1 a1 a2 a3
  obtain ⟨g, hg⟩ : ∃ g, w.heap.size = g := ⟨_, rfl⟩
  rw [hg] at a1 a2 a3 ⊢
  have A1 := Lib.hid a1
  have AB : Hid (Below w.heap.size w w1) := by rw [hg]; exact a3
  have hs1 : g < w1.heap.size := by omega
  have hwg : w.heap.size ≤ w1.heap.size := by omega
  have R1 : Hid (Rd w1.heap.size w1 (.slice (some ⟨g, 0, none⟩) 16 16) I) := by
    have hIl := HI.out
    refine ⟨some ⟨g, 0, none⟩, 16, by rw [hIl], by omega, by unfold maxLen; omega, fun h => (by cases h), fun x hx => ?_⟩
    cases hx
    refine ⟨fun _ => hs1, fun j hj => ?_⟩
    rw [Addr.add_mid]
    exact (kcs_rangeI a1) j _ (bys_get I j hj)
  clear a1 a2 a3 hg
  go_wp2_with (at_builtin; refine wpList_app rfl _ _ 22 rfl 5 i0 Tryz.underlying22 HIN.out H0.out H1.out H2.out w1.heap.size w1.heap.size _ _ [] I rfl (Own.madeS 5 w1) rfl (R1.out.below ((Below.refl _ _).alloc (Nat.le_refl _) _)) (by rw [HI.out]; simp) (by simp) ?_)
  intro v2 w2 hown hb2
  have hb : Below w1.heap.size w1 w2 := ((Below.refl _ _).alloc (Nat.le_refl _) _).trans hb2
  have O2 : Hid (Own 5 w2 w1.heap.size v2 I) := Lib.hid (by simpa using hown)
  have B1 : Hid (Blk w2 g (kcs I q seed z) 119) := A1.out.below hb hs1
  have BB : Hid (Below w.heap.size w w2) := AB.out.trans (hb.mono hwg)
  have hs2 := hb.size
  have cq := (B1.out.cell 16).trans (kcs_q I seed q z HI.out)
  clear hown hb2 hb A1 AB R1
  go_wp2_with fail
  refine (four_any q _ hq).mono ?_
  rintro e w3 ⟨v3, rfl, hown3, hb3⟩
  have O3 : Hid (Own 5 w3 w1.heap.size v2 I) := O2.out.below hb3 (Nat.le_refl _)
  have R3 : Hid (Rd w3.heap.size w3 v3 (be 4 q)) := hown3.rd
  have CB : Hid (Below w.heap.size w w3) := BB.out.trans (hb3.mono BB.out.size)
  have hs3 := hb3.size
  clear cq hown3 hb3 O2 B1 BB
  go_wp2_with (at_builtin; refine wpList_app rfl _ _ 22 rfl 5 i0 Tryz.underlying22 HIN.out H0.out H1.out H2.out w1.heap.size w3.heap.size _ _ I (be 4 q) rfl O3.out rfl R3.out (by rw [HI.out, be_length]; omega) (by omega) ?_)
  intro v4 w4 hown4 hb4
  have O4 := Lib.hid hown4
  have DB : Hid (Below w.heap.size w w4) := CB.out.trans (hb4.mono hwg)
  clear hown4 hb4 O3 R3 CB
  go_wp2
  go_ret
  exact ⟨_, rfl, O4.out.base hwg, DB.out⟩

set_option maxHeartbeats 400000 in
theorem many_yes (k : Nat) (w : World) (hk : Wd k) : Calls Tryz.prog 68 #[.int .i64 (k : Int)] w (Drew (.int .i64 (mny k : Nat)) w) := by
  have HK := Lib.hid hk
  obtain ⟨_, _, hP, _⟩ := hk.le
  have hC := chk_le k
  obtain ⟨N, hN⟩ : ∃ N, onn k = N := ⟨_, rfl⟩
  obtain ⟨M, hM⟩ : ∃ M, chk k = M := ⟨_, rfl⟩
  obtain ⟨S, hS⟩ : ∃ S, mny k = S := ⟨_, rfl⟩
  have hNS : N + M = S := by rw [← hN, ← hM, ← hS]; rfl
  have HN := Lib.hid hN
  have HM := Lib.hid hM
  rw [hS]
  rw [hN] at hP
  rw [hM] at hC
  clear hk hN hM hS
  go_enter Tryz.func68, Tryz.ntmps68
  go_wp2_with fail
  refine (refOwn_yes k _ HK.out).mono ?_
  rintro e w1 ⟨rfl, rfl⟩
  rw [HN.out]
  go_wp2_with fail
  refine (refCheck_yes k _ HK.out).mono ?_
  rintro e w1 ⟨rfl, nd, rfl⟩
  rw [HM.out]
  go_wp2
  go_ret
  have e1 : (N : Int) + (M : Int) = (S : Int) := by omega
  exact ⟨by rw [← e1]; rfl, nd, rfl⟩
set_option maxHeartbeats 400000 in
theorem last_any (k : Nat) (w : World) (hk : Wd k) : Calls Tryz.prog 73 #[.int .i64 (k : Int)] w (Just (.int .i64 (gr k : Nat)) w) := by
  obtain ⟨k1, k8, _, hG⟩ := hk.le
  obtain ⟨G, hGe⟩ : ∃ G, gr k = G := ⟨_, rfl⟩
  have HG : Hid (pw k = G + 1) := by
    show _ = _
    rw [← hGe]; unfold pw gr
    have : 0 < 2 ^ k := Nat.pow_pos (by omega)
    omega
  have HB : Hid (∀ i, i ≤ 8 → pw i ≤ 256) := fun i hi => by unfold pw; exact Nat.pow_le_pow_right (by omega) hi
  rw [hGe]
  clear hk hGe hG
  go_enter Tryz.func73, Tryz.ntmps73
  go_wp2
  go_loop [3, 4] (fun x y => ∃ i : Nat, i ≤ k ∧ y = .int .i64 (i : Int) ∧ x = .int .i64 ((pw i : Nat) : Int)) (fun _ y => k - (intOf y).toNat)
  case atStart => exact ⟨0, by omega, rfl, rfl⟩
  case round =>
    obtain ⟨i, hi, rfl, rfl⟩ := hrel
    obtain ⟨X, hX⟩ : ∃ X, pw i = X := ⟨_, rfl⟩
    have hX8 : X ≤ 256 := by rw [← hX]; exact HB.out i (by omega)
    have HX : Hid (pw (i + 1) = 2 * X) := by show _ = _; rw [← hX]; unfold pw; rw [Nat.pow_succ]; omega
    rw [hX]
    by_cases hlt : i < k
    · have zi : (i : Int) < (k : Int) := by omega
      clear hX
      go_wp2
      go_round
      case rel => exact ⟨i + 1, by omega, by go_num, by rw [HX.out]; go_num⟩
      case measure => simp [intOf]; omega
    · obtain rfl : i = k := by omega
      have hGX : X = G + 1 := by rw [← hX]; exact HG.out
      clear hX
      subst hGX
      go_wp2
      go_ret
      exact ⟨by congr 2, rfl⟩
end Go.Proofs.YtllncnnigjgadaaGreat

namespace Go.Proofs.YtllncnnigjgadaaGreat
open Go.RowKit

theorem list_as (l : List UInt8) (n : Nat) (h : l.length = n) : l = (List.range n).map fun i => l.getD i 0 := by
  subst h
  refine List.ext_getElem (by simp) (fun i h1 h2 => ?_)
  simp [h1]
theorem built_key0 (f g : Nat → UInt8) (q z : Int) : Tryz.prog.built 119 [(0, .agg (bys ((List.range 16).map f)).toArray), (1, .int .u32 q), (2, .agg (bys ((List.range 32).map g)).toArray), (3, .int .i64 z)] = some (bys ((List.range 16).map f) ++ (Value.int .u32 q :: (bys ((List.range 32).map g) ++ [Value.int .i64 z]))).toArray := by kernel_rfl
theorem built_key (I seed : List UInt8) (q : Nat) (z : Int) (hI : I.length = 16) (hs : seed.length = 32) : Tryz.prog.built 119 [(0, .agg (bys I).toArray), (1, .int .u32 (q : Int)), (2, .agg (bys seed).toArray), (3, .int .i64 z)] = some (kcs I q seed z).toArray := by
  rw [list_as I 16 hI, list_as seed 32 hs]
  exact built_key0 _ _ _ _
theorem zi32 : ∃ z0 : List Value, (Tryz.prog.info? 119).map (·.zero) = some (some (.agg z0.toArray)) ∧ z0.length = 50 := ⟨bys (List.replicate 16 0) ++ (.int .u32 0 :: (bys (List.replicate 32 0) ++ [.int .i64 0])), by kernel_rfl, by decide⟩
theorem kcs_one (I seed : List UInt8) (q : Nat) (z : Int) : (kcs I q seed z).toArray.all (·.oneCell') = true := by
  rw [Array.all_eq_true_iff_forall_mem]
  intro v hv
  simp only [kcs, List.mem_toArray, List.mem_append, List.mem_cons, List.not_mem_nil, or_false] at hv
  rcases hv with h | h | h | h
  · exact bys_one _ _ h
  · subst h; rfl
  · exact bys_one _ _ h
  · subst h; rfl
theorem ret_blkU {P : Program} {fn : Func} {p : Tmp} {ty : TypeId} (h : fn.results = #[.cell p ty]) (tmps : Array Value) (w : World) (g : Nat) (t : TypeId) (cs : List Value)
    (hp : tmps.getD p undef = .pointer (some ⟨g, 0, none⟩)) (hb : Blk w g cs t) (d : TypeDesc) (hu : P.underlying ty = some d) (hd : d.isRow = true) (hi : (P.info? ty).map (·.size) = some cs.length) :
    (results fn tmps).run P w = .ok (.agg cs.toArray) w :=
  results_cell_row h tmps w g t cs.toArray (0, 0) d hp hb hu (by cases d <;> first | rfl | cases hd) (by simpa using hi)

set_option maxHeartbeats 400000 in
theorem refLong_yes (k : Nat) (w : World) (hk : Wd k) : Calls Tryz.prog 35 #[.int .i64 (k : Int)] w (Drew (.tuple #[.int .i64 (lng k : Nat), .int .i64 0]) w) := by
  have HK := Lib.hid hk
  have hm := mny_le k hk
  obtain ⟨S, hS⟩ : ∃ S, mny k = S := ⟨_, rfl⟩
  obtain ⟨L, hL⟩ : ∃ L, lng k = L := ⟨_, rfl⟩
  have hSL : 36 + 32 * S = L := by rw [← hS, ← hL]; unfold lng; omega
  have hS0 : 0 < S := by rw [← hS]; rcases hk with rfl | rfl | rfl | rfl <;> decide
  have HSE := Lib.hid hS
  have z0 : ((S : Int) == 0) = false := by simp; omega
  rw [hL]
  rw [hS] at hm
  clear hk hS hL
  go_enter Tryz.func35, Tryz.ntmps35
  go_wp2_with fail
  refine (many_yes k _ HK.out).mono ?_
  rintro e w1 ⟨rfl, nd, rfl⟩
  rw [HSE.out]
  go_wp2
  go_ret2
  have e1 : 36 + 32 * (S : Int) = (L : Int) := by omega
  exact ⟨by rw [← e1]; rfl, nd, rfl⟩
set_option maxHeartbeats 400000 in
theorem refType_yes (k : Nat) (w : World) (hk : Wd k) : Calls Tryz.prog 66 #[.int .i64 (k : Int)] w (Just (.tuple #[.int .u32 (typ k : Nat), .int .i64 0]) w) := by
  rcases hk with rfl | rfl | rfl | rfl
  all_goals
    go_enter Tryz.func66, Tryz.ntmps66
    go_wp2
    go_ret2
    exact ⟨rfl, rfl⟩
set_option maxHeartbeats 400000 in
theorem refType_no (z : Int) (w : World) (hz : NoW z) : Calls Tryz.prog 66 #[.int .i64 z] w (Just (.tuple #[.int .u32 0, .int .i64 1]) w) := by
  obtain ⟨h1, h2, h4, h8⟩ := hz
  go_enter Tryz.func66, Tryz.ntmps66
  go_wp2
  go_ret2
  exact ⟨rfl, rfl⟩

set_option maxRecDepth 100000 in
set_option maxHeartbeats 1000000 in
theorem refSecret_yes (I seed : List UInt8) (q k i : Nat) (w : World) (hI : I.length = 16) (hs : seed.length = 32) (hq : q < 4294967296) (hk : Wd k) (hi : i < mny k) : Calls Tryz.prog 108 #[.agg (kcs I q seed (k : Int)).toArray, .int .i64 (i : Int)] w (TwoD (.agg (bys (hsec (pre20 I q) seed i)).toArray) (.int .i64 0) w) := by
  obtain ⟨i0, hi0, hz0, hz1, hz2⟩ := info_parts info5
  have HIN := Lib.hid hi0
  have H0 := Lib.hid hz0
  have H1 := Lib.hid hz1
  have H2 := Lib.hid hz2
  have HI := Lib.hid hI
  have HS := Lib.hid hs
  have HK := Lib.hid hk
  have hm := mny_le k hk
  obtain ⟨M, hM⟩ : ∃ M, mny k = M := ⟨_, rfl⟩
  have HME := Lib.hid hM
  rw [hM] at hi hm
  have zi : decide (M ≤ i) = false := by simp; omega
  have hi2 : i < 65536 := by omega
  have ni : decide ((i : Int) < 0) = false := by simp
  have H24 : Hid ((Tryz.prog.info? 30).map (·.size) = some (bys (hsec (pre20 I q) seed i)).length) := by show _ = _; rw [bys_length, hsec_length]; exact s24
  have HLZ : Hid (z32.length = (bys (hsec (pre20 I q) seed i)).length) := by show _ = _; rw [bys_length, hsec_length, z32_length]
  have HP := Lib.hid (pre20_length I q hI)
  have HH : Hid (hash (pre20 I q ++ (by2 i ++ [255]) ++ seed) = hsec (pre20 I q) seed i) := by show _ = _; unfold hsec; simp
  have HI2 := Lib.hid hi2
  clear hM hi hm hi2
  have H32 : Hid ((Tryz.prog.info? 119).map (·.size) = some (kcs I q seed (k : Int)).length) := by show _ = _; rw [kcs_length I seed q _ hI hs]; exact s32
  obtain ⟨d32, hu32, hd32⟩ := row32
  have HU := Lib.hid hu32
  have HD := Lib.hid hd32
  clear hI hs hk hi0 hz0 hz1 hz2 hu32 hd32
  go_enter Tryz.func108, Tryz.ntmps108
  go_wp2_with (refine wpList_box_blk rfl 119 _ rfl (kcs I q seed (k : Int)) rfl ?_)
  intro v1 a1 a2 a3
  have A1 := Lib.hid a1
  have A2 := Lib.hid a2
  have A3 := Lib.hid a3
  clear a1 a2 a3
  go_wp2_with (refine wpList_alloc_blk rfl 30 rfl _ z24 ?_)
  intro v2 a1 a2 a3
  rw [A2.out] at a1 a2 a3 ⊢
  obtain ⟨g0, hg0⟩ : ∃ g, w.heap.size = g := ⟨_, rfl⟩
  obtain ⟨g1, hg1⟩ : ∃ g, g0 + 1 = g := ⟨_, rfl⟩
  have G1 : Hid (Blk v2 g0 (kcs I q seed (k : Int)) 119) := by rw [← hg0]; exact A1.out.below a3 (by omega)
  have G2 : Hid (Blk v2 g1 z32 30) := by rw [← hg1, ← hg0]; exact a1
  have GB : Hid (Below w.heap.size w v2) := A3.out.trans (a3.mono (by omega))
  have hw0 : w.heap.size ≤ g0 := by omega
  have hg01 : g0 < g1 := by omega
  rw [hg0, hg1]
  have cw := (G1.out.cell 49).trans (kcs_z I seed q (k : Int) HI.out HS.out)
  clear a1 a2 a3 A1 A2 A3 hg0 hg1
  go_wp2_with fail
  clear cw
  refine (many_yes k _ HK.out).mono ?_
  rintro e w1 ⟨rfl, nd, rfl⟩
  rw [HME.out]
  have X1 : Hid (Blk (v2.drewN nd) g0 (kcs I q seed (k : Int)) 119) := G1.out
  have X2 : Hid (Blk (v2.drewN nd) g1 z32 30) := G2.out
  have XB : Hid (Below w.heap.size w (v2.drewN nd)) := Below.drewN' GB.out
  generalize v2.drewN nd = w1 at X1 X2 XB ⊢
  clear G1 G2 GB
  go_wp2_with (refine wpList_load_blkU rfl 119 _ rfl g0 rfl (kcs I q seed (k : Int)) 119 X1.out d32 HU.out HD.out H32.out ?_)
  refine (head_any I seed q (k : Int) _ HI.out hq).mono ?_
  rintro e w2 ⟨hv, rfl, hown, hb⟩
  obtain ⟨b, hbE⟩ : ∃ b, w1.heap.size = b := ⟨_, rfl⟩
  have g0b : g0 < b := by rw [← hbE]; exact X1.out.lt
  have g1b : g1 < b := by rw [← hbE]; exact X2.out.lt
  have Y1 : Hid (Blk w2 g0 (kcs I q seed (k : Int)) 119) := X1.out.below hb X1.out.lt
  have Y2 : Hid (Blk w2 g1 z32 30) := X2.out.below hb X2.out.lt
  have YB : Hid (Below w.heap.size w w2) := XB.out.trans (hb.mono XB.out.size)
  have YO : Hid (Own 5 w2 b hv (pre20 I q)) := by rw [← hbE]; exact hown
  have hb2 : b ≤ w2.heap.size := by rw [← hbE]; exact hb.size
  have hwb : w.heap.size ≤ b := by omega
  have z256 : (i : Int) < 65536 := by have := HI2.out; omega
  clear hb hown X1 X2 XB hbE
  go_wp2_with (at_builtin; refine wpList_app rfl _ _ 22 rfl 5 i0 Tryz.underlying22 HIN.out H0.out H1.out H2.out b (w2.heap.size + 1) _ _ (pre20 I q) (by2 i ++ [255]) rfl (YO.out.alloc _) rfl ((Own.lit 5 w2 _ 3 (by2 i ++ [255]) rfl (by omega) (by have := HI2.out; simp [bys, by2]; omega)).rd.more (by simp)) (by rw [HP.out]; simp [by2]) (by simp; omega) ?_)
  intro v3 w3 hown3 hb3'
  have hb3 : Below b w2 w3 := ((Below.refl b w2).alloc hb2 _).trans hb3'
  have Z1 : Hid (Blk w3 g0 (kcs I q seed (k : Int)) 119) := Y1.out.below hb3 g0b
  have Z2 : Hid (Blk w3 g1 z32 30) := Y2.out.below hb3 g1b
  have ZB : Hid (Below w.heap.size w w3) := YB.out.trans (hb3.mono hwb)
  have hb3s : b ≤ w3.heap.size := Nat.le_trans hb2 hb3.size
  have ZO : Hid (Own 5 w3 b v3 (pre20 I q ++ (by2 i ++ [255]))) := Lib.hid (by simpa using hown3)
  have ZR : Hid (Rd w3.heap.size w3 (.slice (some ⟨g0, 17, none⟩) 32 32) seed) := kcs_seed Z1.out HI.out HS.out Z1.out.lt
  clear hown3 hb3 hb3' Y1 Y2 YB YO
  go_wp2_with (at_builtin; refine wpList_app rfl _ _ 22 rfl 5 i0 Tryz.underlying22 HIN.out H0.out H1.out H2.out b w3.heap.size _ _ (pre20 I q ++ (by2 i ++ [255])) seed rfl ZO.out rfl ZR.out (by rw [List.length_append, HP.out, HS.out]; simp [by2]) hb3s ?_)
  intro v4 w4 hown4 hb4
  have U2 : Hid (Blk w4 g1 z32 30) := Z2.out.below hb4 g1b
  have UB : Hid (Below w.heap.size w w4) := ZB.out.trans (hb4.mono hwb)
  have UO : Hid (Own 5 w4 b v4 (pre20 I q ++ (by2 i ++ [255]) ++ seed)) := Lib.hid (by simpa using hown4)
  clear hown4 hb4 Z1 Z2 ZB ZO ZR
  go_wp2_with fail
  refine (refSum_any v4 _ _ UO.out.rd (by rw [List.length_append, List.length_append, HP.out, HS.out]; simp [by2])).mono ?_
  rintro e w5 ⟨rfl, hb5⟩
  rw [HH.out]
  have V2 : Hid (Blk w5 g1 z32 30) := U2.out.below hb5 U2.out.lt
  have VB : Hid (Below w.heap.size w w5) := UB.out.trans (hb5.mono UB.out.size)
  clear hb5 U2 UB UO
  go_wp2_with (refine wpList_store_blk rfl 30 _ _ rfl g1 (bys (hsec (pre20 I q) seed i)) z32 30 rfl rfl V2.out H24.out HLZ.out (bys_one' _) ?_)
  refine bodyPost_ret (v := .tuple #[.agg (bys (hsec (pre20 I q) seed i)).toArray, .int .i64 0]) ?_ rfl ?_
  · exact ret_blk2 rfl _ _ g1 30 _ _ rfl rfl V2.out.setRow 32 5 tu24 H24.out
  · exact ⟨rfl, below_setRow' VB.out (by omega) _⟩
end Go.Proofs.YtllncnnigjgadaaGreat

namespace Go.Proofs.YtllncnnigjgadaaGreat
open Go.RowKit

/-- What the loop of the document's Chain keeps. -/
def RChAt (w : World) (I seed : List UInt8) (q k g0 g1 g2 : Nat) (y : List UInt8) (wr : World) : Prop := Blk wr g0 (kcs I q seed (k : Int)) 119 ∧ Blk wr g1 (bys y) 30 ∧ Blk wr g2 z32 30 ∧ Below w.heap.size w wr ∧ y.length = 32

set_option maxRecDepth 100000 in
set_option maxHeartbeats 1000000 in
theorem refChain_yes (I seed y : List UInt8) (q k i a n : Nat) (w : World) (hI : I.length = 16) (hs : seed.length = 32) (hy : y.length = 32) (hq : q < 4294967296) (hk : Wd k) (hi : i < mny k) (hn : a + n ≤ gr k) : Calls Tryz.prog 72 #[.agg (kcs I q seed (k : Int)).toArray, .int .i64 (i : Int), .int .i64 (a : Int), .int .i64 ((a + n : Nat) : Int), .agg (bys y).toArray] w (TwoD (.agg (bys (chn (pre20 I q) i a n y)).toArray) (.int .i64 0) w) := by
  have HI := Lib.hid hI
  have HS := Lib.hid hs
  obtain ⟨i0, hi0, hz0, hz1, hz2⟩ := info_parts info5
  have HIN := Lib.hid hi0
  have H0 := Lib.hid hz0
  have H1 := Lib.hid hz1
  have H2 := Lib.hid hz2
  have hm := mny_le k hk
  obtain ⟨_, _, _, hG5⟩ := hk.le
  have HK := Lib.hid hk
  obtain ⟨M, hM⟩ : ∃ M, mny k = M := ⟨_, rfl⟩
  have HME := Lib.hid hM
  rw [hM] at hi
  have ni : decide ((i : Int) < 0) = false := by simp
  have zi : decide (M ≤ i) = false := by simp; omega
  obtain ⟨G, hG⟩ : ∃ G, gr k = G := ⟨_, rfl⟩
  have HGE := Lib.hid hG
  rw [hM] at hm
  rw [hG] at hn hG5
  obtain ⟨T, hT⟩ : ∃ T, a + n = T := ⟨_, rfl⟩
  rw [hT] at hn ⊢
  have HTE := Lib.hid hT
  have HI2 : Hid (i < 65536) := Lib.hid (by omega)
  have HT5 : Hid (T ≤ 255) := Lib.hid (by omega)
  have HAT : Hid (a ≤ T) := Lib.hid (by omega)
  have na : decide ((a : Int) < 0) = false := by simp
  have nb : decide (T < a) = false := by simp; omega
  have nc : decide (G < T) = false := by simp; omega
  have HY := Lib.hid hy
  have HP := Lib.hid (pre20_length I q hI)
  have H32 : Hid ((Tryz.prog.info? 119).map (·.size) = some (kcs I q seed (k : Int)).length) := by show _ = _; rw [kcs_length I seed q _ hI hs]; exact s32
  have H24 : Hid ((Tryz.prog.info? 30).map (·.size) = some (bys (chn (pre20 I q) i a n y)).length) := by show _ = _; rw [bys_length, chn_length _ _ _ _ _ hy]; exact s24
  have HLZ : Hid (z32.length = (bys (chn (pre20 I q) i a n y)).length) := by show _ = _; rw [bys_length, chn_length _ _ _ _ _ hy, z32_length]
  obtain ⟨d32, hu32, hd32⟩ := row32
  have HU := Lib.hid hu32
  have HD := Lib.hid hd32
  clear hk hM hi hG hm hG5 hT hn hy hi0 hz0 hz1 hz2 hu32 hd32
  clear hI hs
  go_enter Tryz.func72, Tryz.ntmps72
  go_wp2_with (refine wpList_box_blk rfl 119 _ rfl (kcs I q seed (k : Int)) rfl ?_)
  intro v1 a1 a2 a3
  have A1 := Lib.hid a1
  have A2 := Lib.hid a2
  have A3 := Lib.hid a3
  clear a1 a2 a3
  go_wp2_with (refine wpList_box_blk rfl 30 _ rfl (bys y) rfl ?_)
  intro v2 a1 a2 a3
  rw [A2.out] at a1 a2 a3 ⊢
  have P1 : Hid (Blk v2 w.heap.size (kcs I q seed (k : Int)) 119) := A1.out.below a3 (by omega)
  have P2 : Hid (Blk v2 (w.heap.size + 1) (bys y) 30) := a1
  have PB : Hid (Below w.heap.size w v2) := A3.out.trans (a3.mono (by omega))
  have PS := Lib.hid a2
  clear a1 a2 a3 A1 A2 A3
  go_wp2_with (refine wpList_alloc_blk rfl 30 rfl _ z24 ?_)
  intro v3 a1 a2 a3
  rw [PS.out] at a1 a2 a3 ⊢
  obtain ⟨g0, hg0⟩ : ∃ g, w.heap.size = g := ⟨_, rfl⟩
  obtain ⟨g1, hg1⟩ : ∃ g, g0 + 1 = g := ⟨_, rfl⟩
  obtain ⟨g2, hg2⟩ : ∃ g, g1 + 1 = g := ⟨_, rfl⟩
  have G1 : Hid (Blk v3 g0 (kcs I q seed (k : Int)) 119) := by rw [← hg0]; exact P1.out.below a3 (by omega)
  have G2 : Hid (Blk v3 g1 (bys y) 30) := by rw [← hg1, ← hg0]; exact P2.out.below a3 (by omega)
  have G3 : Hid (Blk v3 g2 z32 30) := by rw [← hg2, ← hg1, ← hg0]; exact a1
  have GB : Hid (Below w.heap.size w v3) := PB.out.trans (a3.mono (by omega))
  have hwg : w.heap.size ≤ g0 := by omega
  have hg01 : g0 < g1 := by omega
  have hg12 : g1 < g2 := by omega
  rw [hg0, hg1, hg2]
  have cw := (G1.out.cell 49).trans (kcs_z I seed q (k : Int) HI.out HS.out)
  clear a1 a2 a3 P1 P2 PB PS hg0 hg1 hg2
  go_wp2_with fail
  refine (many_yes k _ HK.out).mono ?_
  rintro e w1 ⟨rfl, nd, rfl⟩
  rw [HME.out]
  have X1 : Hid (Blk (v3.drewN nd) g0 (kcs I q seed (k : Int)) 119) := G1.out
  have X2 : Hid (Blk (v3.drewN nd) g1 (bys y) 30) := G2.out
  have X3 : Hid (Blk (v3.drewN nd) g2 z32 30) := G3.out
  have XB : Hid (Below w.heap.size w (v3.drewN nd)) := Below.drewN' GB.out
  have cw2 : (v3.drewN nd).cell? ⟨g0, 49, none⟩ = some (.int .i64 (k : Int)) := (X1.out.cell 49).trans (kcs_z I seed q (k : Int) HI.out HS.out)
  generalize v3.drewN nd = w1 at X1 X2 X3 XB cw2 ⊢
  clear G1 G2 G3 GB cw
  go_wp2_with fail
  refine (last_any k _ HK.out).mono ?_
  rintro e w2 ⟨rfl, rfl⟩
  rw [HGE.out]
  clear cw2
  have K0 : Hid (RChAt w I seed q k g0 g1 g2 (chn (pre20 I q) i a 0 y) w1) := ⟨X1.out, X2.out, X3.out, XB.out, HY.out⟩
  clear X1 X2 X3 XB
  go_wp2
  go_loopw [12] (fun v wr => ∃ c : Nat, a + c ≤ T ∧ v = .int .i64 ((a + c : Nat) : Int) ∧ Hid (RChAt w I seed q k g0 g1 g2 (chn (pre20 I q) i a c y) wr)) (fun v _ => T - (intOf v).toNat)
  case atStart => exact ⟨0, HAT.out, rfl, K0⟩
  case round =>
    clear K0
    obtain ⟨c, hc, rfl, KK⟩ := hrel
    by_cases hc2 : a + c < T
    · obtain ⟨j, hj⟩ : ∃ j, a + c = j := ⟨_, rfl⟩
      have hstp : chn (pre20 I q) i a (c + 1) y = hstep (pre20 I q) i j (chn (pre20 I q) i a c y) := by rw [← hj]; rfl
      obtain ⟨Z, hZ⟩ : ∃ Z, chn (pre20 I q) i a c y = Z := ⟨_, rfl⟩
      rw [hZ] at KK hstp
      rw [hj] at hc2 ⊢
      have HST := Lib.hid hstp
      have zj : (j : Int) < (T : Int) := by omega
      have HJ5 : Hid (j < 256) := Lib.hid (by have := HT5.out; omega)
      have HZL : Hid (Z.length = 32) := KK.out.2.2.2.2
      have H24Z : Hid ((Tryz.prog.info? 30).map (·.size) = some (bys (hstep (pre20 I q) i j Z)).length) := by show _ = _; rw [bys_length]; unfold hstep; rw [hash_length]; exact s24
      have HLZZ : Hid ((bys Z).length = (bys (hstep (pre20 I q) i j Z)).length) := by show _ = _; rw [bys_length, bys_length, HZL.out]; unfold hstep; rw [hash_length]
      have HH : Hid (hash (pre20 I q ++ (by2 i ++ [UInt8.ofNat j]) ++ Z) = hstep (pre20 I q) i j Z) := by show _ = _; unfold hstep; simp
      have X1 : Hid (Blk wr g0 (kcs I q seed (k : Int)) 119) := KK.out.1
      have X2 : Hid (Blk wr g1 (bys Z) 30) := KK.out.2.1
      have X3 : Hid (Blk wr g2 z32 30) := KK.out.2.2.1
      have XB : Hid (Below w.heap.size w wr) := KK.out.2.2.2.1
      clear hZ hstp KK
      go_wp2_with (refine wpList_load_blkU rfl 119 _ rfl g0 rfl (kcs I q seed (k : Int)) 119 X1.out d32 HU.out HD.out H32.out ?_)
      refine (head_any I seed q (k : Int) _ HI.out hq).mono ?_
      rintro e w2 ⟨hv, rfl, hown, hb⟩
      obtain ⟨b, hbE⟩ : ∃ b, wr.heap.size = b := ⟨_, rfl⟩
      have g0b : g0 < b := by rw [← hbE]; exact X1.out.lt
      have g1b : g1 < b := by rw [← hbE]; exact X2.out.lt
      have g2b : g2 < b := by rw [← hbE]; exact X3.out.lt
      have Y1 : Hid (Blk w2 g0 (kcs I q seed (k : Int)) 119) := X1.out.below hb X1.out.lt
      have Y2 : Hid (Blk w2 g1 (bys Z) 30) := X2.out.below hb X2.out.lt
      have Y3 : Hid (Blk w2 g2 z32 30) := X3.out.below hb X3.out.lt
      have YB : Hid (Below w.heap.size w w2) := XB.out.trans (hb.mono XB.out.size)
      have YO : Hid (Own 5 w2 b hv (pre20 I q)) := by rw [← hbE]; exact hown
      have hb2 : b ≤ w2.heap.size := by rw [← hbE]; exact hb.size
      have hwb : w.heap.size ≤ b := by omega
      have z256 : (i : Int) < 65536 := by have := HI2.out; omega
      have zj5 : (j : Int) < 256 := by have := HJ5.out; omega
      clear hb hown X1 X2 X3 XB hbE
      go_wp2_with (at_builtin; refine wpList_app rfl _ _ 22 rfl 5 i0 Tryz.underlying22 HIN.out H0.out H1.out H2.out b (w2.heap.size + 1) _ _ (pre20 I q) (by2 i ++ [UInt8.ofNat j]) rfl (YO.out.alloc _) rfl ((Own.lit 5 w2 _ 3 (by2 i ++ [UInt8.ofNat j]) rfl (by omega) (by have := HI2.out; have := HJ5.out; simp [bys, by2]; omega)).rd.more (by simp)) (by rw [HP.out]; simp [by2]) (by simp; omega) ?_)
      intro v3 w3 hown3 hb3'
      have hb3 : Below b w2 w3 := ((Below.refl b w2).alloc hb2 _).trans hb3'
      have Z1 : Hid (Blk w3 g0 (kcs I q seed (k : Int)) 119) := Y1.out.below hb3 g0b
      have Z2 : Hid (Blk w3 g1 (bys Z) 30) := Y2.out.below hb3 g1b
      have Z3 : Hid (Blk w3 g2 z32 30) := Y3.out.below hb3 g2b
      have ZB : Hid (Below w.heap.size w w3) := YB.out.trans (hb3.mono hwb)
      have hb3s : b ≤ w3.heap.size := Nat.le_trans hb2 hb3.size
      have ZO : Hid (Own 5 w3 b v3 (pre20 I q ++ (by2 i ++ [UInt8.ofNat j]))) := Lib.hid (by simpa using hown3)
      have ZR : Hid (Rd w3.heap.size w3 (.slice (some ⟨g1, 0, none⟩) 32 32) Z) := Rd.blk 32 HZL.out Z2.out Z2.out.lt (by omega)
      clear hown3 hb3 hb3' Y1 Y2 Y3 YB YO z256
      go_wp2_with (at_builtin; refine wpList_app rfl _ _ 22 rfl 5 i0 Tryz.underlying22 HIN.out H0.out H1.out H2.out b w3.heap.size _ _ (pre20 I q ++ (by2 i ++ [UInt8.ofNat j])) Z rfl ZO.out rfl ZR.out (by rw [List.length_append, HP.out, HZL.out]; simp [by2]) hb3s ?_)
      intro v4 w4 hown4 hb4
      have U1 : Hid (Blk w4 g0 (kcs I q seed (k : Int)) 119) := Z1.out.below hb4 g0b
      have U2 : Hid (Blk w4 g1 (bys Z) 30) := Z2.out.below hb4 g1b
      have U3 : Hid (Blk w4 g2 z32 30) := Z3.out.below hb4 g2b
      have UB : Hid (Below w.heap.size w w4) := ZB.out.trans (hb4.mono hwb)
      have UO : Hid (Own 5 w4 b v4 (pre20 I q ++ (by2 i ++ [UInt8.ofNat j]) ++ Z)) := Lib.hid (by simpa using hown4)
      clear hown4 hb4 Z1 Z2 Z3 ZB ZO ZR
      go_wp2_with fail
      refine (refSum_any v4 _ _ UO.out.rd (by rw [List.length_append, List.length_append, HP.out, HZL.out]; simp [by2])).mono ?_
      rintro e w5 ⟨rfl, hb5⟩
      rw [HH.out]
      have V1 : Hid (Blk w5 g0 (kcs I q seed (k : Int)) 119) := U1.out.below hb5 U1.out.lt
      have V2 : Hid (Blk w5 g1 (bys Z) 30) := U2.out.below hb5 U2.out.lt
      have V3 : Hid (Blk w5 g2 z32 30) := U3.out.below hb5 U3.out.lt
      have VB : Hid (Below w.heap.size w w5) := UB.out.trans (hb5.mono UB.out.size)
      have K5 : Hid (RChAt w I seed q k g0 g1 g2 (chn (pre20 I q) i a (c + 1) y) (w5.setRow g1 (bys (hstep (pre20 I q) i j Z)).toArray)) := by
        rw [HST.out]
        exact ⟨V1.out.setRowOther (by omega), V2.out.setRow, V3.out.setRowOther (by omega), below_setRow' VB.out (by omega) _, by unfold hstep; rw [hash_length]⟩
      clear hb5 U1 U2 U3 UB UO
      go_wp2_with (refine wpList_store_blk rfl 30 _ _ rfl g1 (bys (hstep (pre20 I q) i j Z)) (bys Z) 30 rfl rfl V2.out H24Z.out HLZZ.out (bys_one' _) ?_)
      go_roundw
      case rel => exact ⟨c + 1, by omega, by go_num, K5⟩
      case measure => simp [intOf]; omega
    · have hcT : a + c = T := by omega
      have hcn : c = n := by have := HTE.out; omega
      rw [hcT]
      rw [hcn] at KK
      clear hcn
      have N1 : Hid (Blk wr g1 (bys (chn (pre20 I q) i a n y)) 30) := KK.out.2.1
      have N2 : Hid (Blk wr g2 z32 30) := KK.out.2.2.1
      have NB : Hid (Below w.heap.size w wr) := KK.out.2.2.2.1
      clear KK
      go_wp2_with (first | (refine wpList_load_blk rfl 30 _ rfl g1 rfl (bys (chn (pre20 I q) i a n y)) 30 N1.out 32 5 tu24 H24.out ?_) | (refine wpList_store_blk rfl 30 _ _ rfl g2 (bys (chn (pre20 I q) i a n y)) z32 30 rfl rfl N2.out H24.out HLZ.out (bys_one' _) ?_))
      refine bodyPost_ret (v := .tuple #[.agg (bys (chn (pre20 I q) i a n y)).toArray, .int .i64 0]) ?_ rfl ?_
      · exact ret_blk2 rfl _ _ g2 30 _ _ rfl rfl N2.out.setRow 32 5 tu24 H24.out
      · exact ⟨rfl, below_setRow' NB.out (by omega) _⟩
end Go.Proofs.YtllncnnigjgadaaGreat

namespace Go.Proofs.YtllncnnigjgadaaGreat
open Go.RowKit

set_option maxRecDepth 100000 in
set_option maxHeartbeats 1000000 in
theorem signed_any (I seed r text : List UInt8) (q : Nat) (z : Int) (rv tv : Value) (w : World) (hI : I.length = 16) (hs : seed.length = 32) (hq : q < 4294967296) (hr : r.length = 32) (hrv : Rd w.heap.size w rv r) (ht : Rd w.heap.size w tv text) (hl : text.length ≤ 90000) :
    Calls Tryz.prog 71 #[.agg (kcs I q seed z).toArray, rv, tv] w (Arr (bys (hmsg (pre20 I q) r text)) w) := by
  obtain ⟨i0, hi0, hz0, hz1, hz2⟩ := info_parts info5
  have HIN := Lib.hid hi0
  have H0 := Lib.hid hz0
  have H1 := Lib.hid hz1
  have H2 := Lib.hid hz2
  have HI := Lib.hid hI
  have HP := Lib.hid (pre20_length I q hI)
  have HRL := Lib.hid hr
  have HRV := Lib.hid hrv
  have HT := Lib.hid ht
  have H32 : Hid ((Tryz.prog.info? 119).map (·.size) = some (kcs I q seed z).length) := by show _ = _; rw [kcs_length I seed q _ hI hs]; exact s32
  have H24 : Hid ((Tryz.prog.info? 30).map (·.size) = some (bys (hmsg (pre20 I q) r text)).length) := by show _ = _; rw [bys_length, hmsg_length]; exact s24
  have HLZ : Hid (z32.length = (bys (hmsg (pre20 I q) r text)).length) := by show _ = _; rw [bys_length, hmsg_length, z32_length]
  have HH : Hid (hash (pre20 I q ++ [129, 129] ++ r ++ text) = hmsg (pre20 I q) r text) := by show _ = _; unfold hmsg; simp
  obtain ⟨d32, hu32, hd32⟩ := row32
  have HU := Lib.hid hu32
  have HD := Lib.hid hd32
  obtain ⟨Ar, cr, rfl, hcr, hmr⟩ := hrv.shape
  unfold maxLen at hmr
  rw [hr] at hcr HRV ⊢
  obtain ⟨At, ct, rfl, hct, hmt⟩ := ht.shape
  unfold maxLen at hmt
  have HTL := Lib.hid hl
  clear hI hs hi0 hz0 hz1 hz2 hu32 hd32 hr hrv ht
  go_enter Tryz.func71, Tryz.ntmps71
  go_wp2_with (refine wpList_box_blk rfl 119 _ rfl (kcs I q seed z) rfl ?_)
  intro v1 a1 a2 a3
  have A1 := Lib.hid a1
  have A2 := Lib.hid a2
  have A3 := Lib.hid a3
  clear a1 a2 a3
  go_wp2_with (refine wpList_alloc_blk rfl 30 rfl _ z24 ?_)
  intro v2 a1 a2 a3
  rw [A2.out] at a1 a2 a3 ⊢
  obtain ⟨g0, hg0⟩ : ∃ g, w.heap.size = g := ⟨_, rfl⟩
  obtain ⟨g1, hg1⟩ : ∃ g, g0 + 1 = g := ⟨_, rfl⟩
  have X1 : Hid (Blk v2 g0 (kcs I q seed z) 119) := by rw [← hg0]; exact A1.out.below a3 (by omega)
  have X2 : Hid (Blk v2 g1 z32 30) := by rw [← hg1, ← hg0]; exact a1
  have XB : Hid (Below w.heap.size w v2) := A3.out.trans (a3.mono (by omega))
  have hw0 : w.heap.size ≤ g0 := by omega
  have hg01 : g0 < g1 := by omega
  rw [hg0, hg1]
  clear a1 a2 a3 A1 A2 A3 hg0 hg1
  go_wp2_with (refine wpList_load_blkU rfl 119 _ rfl g0 rfl (kcs I q seed z) 119 X1.out d32 HU.out HD.out H32.out ?_)
  refine (head_any I seed q z _ HI.out hq).mono ?_
  rintro e w2 ⟨hv, rfl, hown, hb⟩
  obtain ⟨b, hbE⟩ : ∃ b, v2.heap.size = b := ⟨_, rfl⟩
  have g1b : g1 < b := by rw [← hbE]; exact X2.out.lt
  have Y2 : Hid (Blk w2 g1 z32 30) := X2.out.below hb X2.out.lt
  have YB : Hid (Below w.heap.size w w2) := XB.out.trans (hb.mono XB.out.size)
  have YO : Hid (Own 5 w2 b hv (pre20 I q)) := by rw [← hbE]; exact hown
  have hb2 : b ≤ w2.heap.size := by rw [← hbE]; exact hb.size
  have hwb : w.heap.size ≤ b := by omega
  clear hb hown X1 X2 XB hbE
  go_wp2_with (at_builtin; refine wpList_app rfl _ _ 22 rfl 5 i0 Tryz.underlying22 HIN.out H0.out H1.out H2.out b (w2.heap.size + 1) _ _ (pre20 I q) [129, 129] rfl (YO.out.alloc _) rfl ((Own.lit 5 w2 _ 2 [129, 129] rfl (by omega) (by simp [bys])).rd.more (by simp)) (by rw [HP.out]; simp) (by simp; omega) ?_)
  intro v3 w3 hown3 hb3'
  have hb3 : Below b w2 w3 := ((Below.refl b w2).alloc hb2 _).trans hb3'
  have Z2 : Hid (Blk w3 g1 z32 30) := Y2.out.below hb3 g1b
  have ZB : Hid (Below w.heap.size w w3) := YB.out.trans (hb3.mono hwb)
  have hb3s : b ≤ w3.heap.size := Nat.le_trans hb2 hb3.size
  have ZO : Hid (Own 5 w3 b v3 (pre20 I q ++ [129, 129])) := Lib.hid (by simpa using hown3)
  clear hown3 hb3 hb3' Y2 YB YO
  go_wp2_with (at_builtin; refine wpList_app rfl _ _ 22 rfl 5 i0 Tryz.underlying22 HIN.out H0.out H1.out H2.out b w.heap.size _ _ (pre20 I q ++ [129, 129]) r rfl ZO.out rfl (HRV.out.below ZB.out) (by rw [List.length_append, HP.out, HRL.out]; simp) hb3s ?_)
  intro v4 w4 hown4 hb4
  have U2 : Hid (Blk w4 g1 z32 30) := Z2.out.below hb4 g1b
  have UB : Hid (Below w.heap.size w w4) := ZB.out.trans (hb4.mono hwb)
  have UO : Hid (Own 5 w4 b v4 (pre20 I q ++ [129, 129] ++ r)) := Lib.hid (by simpa using hown4)
  have hb4s : b ≤ w4.heap.size := Nat.le_trans hb3s hb4.size
  clear hown4 hb4 Z2 ZB ZO
  go_wp2_with (at_builtin; refine wpList_app rfl _ _ 22 rfl 5 i0 Tryz.underlying22 HIN.out H0.out H1.out H2.out b w.heap.size _ _ (pre20 I q ++ [129, 129] ++ r) text rfl UO.out rfl (HT.out.below UB.out) (by have := HTL.out; rw [List.length_append, List.length_append, HP.out, HRL.out]; simp; omega) hb4s ?_)
  intro v5 w5 hown5 hb5
  have V2 : Hid (Blk w5 g1 z32 30) := U2.out.below hb5 g1b
  have VB : Hid (Below w.heap.size w w5) := UB.out.trans (hb5.mono hwb)
  have VO : Hid (Own 5 w5 b v5 (pre20 I q ++ [129, 129] ++ r ++ text)) := Lib.hid (by simpa using hown5)
  clear hown5 hb5 U2 UB UO
  go_wp2_with fail
  refine (refSum_any v5 _ _ VO.out.rd (by have := HTL.out; rw [List.length_append, List.length_append, List.length_append, HP.out, HRL.out]; simp; omega)).mono ?_
  rintro e w6 ⟨rfl, hb6⟩
  rw [HH.out]
  have W2 : Hid (Blk w6 g1 z32 30) := V2.out.below hb6 V2.out.lt
  have WB : Hid (Below w.heap.size w w6) := VB.out.trans (hb6.mono VB.out.size)
  clear hb6 V2 VB VO
  go_wp2_with (refine wpList_store_blk rfl 30 _ _ rfl g1 (bys (hmsg (pre20 I q) r text)) z32 30 rfl rfl W2.out H24.out HLZ.out (bys_one' _) ?_)
  refine bodyPost_ret (v := .agg (bys (hmsg (pre20 I q) r text)).toArray) ?_ rfl ?_
  · exact ret_blk rfl _ _ g1 30 _ rfl W2.out.setRow 32 5 tu24 H24.out
  · exact ⟨rfl, below_setRow' WB.out (by omega) _⟩

/-- append of bytes onto bytes that are owned: only the own row changes. -/
theorem wpList_app_grown {P : Program} {w : World} {ops : Array Oper} {rest : List Oper} {o : Oper} {a : Act} {Q : Exit → Act → World → Prop} (hgd : o.guard = none) (s x : Operand) (t : TypeId) (ho : o.op = .call { callee := .builtin .append, args := #[s, x], argTypes := #[t, t] })
    (e : TypeId) (i : TypeInfo) (ht : P.underlying t = some (.slice e)) (hi : P.info? e = some i) (hz : i.zero = some (.int .u8 0)) (hsize : i.size = 1) (hby : i.bytes = 1)
    (base B : Nat) (v v2 : Value) (l l2 : List UInt8) (hs : a.eval s = v) (hown : Own e w base v l) (hx : a.eval x = v2) (hr : Rd B w v2 l2) (h2 : 0 < l2.length)
    (hlen : l.length + l2.length ≤ 140737488355328) (hbase : base ≤ w.heap.size)
    (h : ∀ v' w', Own e w' base v' (l ++ l2) → w.grownBy w' v.ownBlock → wpList P ops Q rest (a.put o.dst v') w') : wpList P ops Q (o :: rest) a w := by
  obtain ⟨A, c, rfl, hc, hm, hn, hcell⟩ := hr
  obtain ⟨ad, rfl⟩ : ∃ ad, A = some ad := by
    cases A with
    | none => have := hn rfl; omega
    | some ad => exact ⟨ad, rfl⟩
  refine wpList_append_own w hgd s x t ho base e i (.int .u8 0) 1 1 ht hi hz hsize hby rfl (by decide) v l.length (bys l) hs hown ad l2.length c (bys l2) hx (by rw [bys_length, Nat.mul_one]) ?_ (bys_one l2) (by unfold maxLen; omega) (by omega) hbase ?_
  · intro j u hu
    obtain ⟨hj, rfl⟩ := bys_at l2 j u hu
    exact (hcell ad rfl).2 j hj
  · intro v' w' h1 h2 _
    refine h v' w' ?_ h2
    unfold Own
    rw [List.length_append, bys_append]
    exact h1
/-- Ints that are owned stay where a row of bytes grows: their types tell the rows apart. -/
theorem OwnI.other {w w' : World} {b b' : Nat} {v v' : Value} {D : List Nat} {l : List UInt8} (h : OwnI 3 w b v D) (h' : Own 5 w b' v' l) (hg : w.grownBy w' v'.ownBlock) : OwnI 3 w' b v D := by
  refine ⟨h.1, ?_⟩
  rcases h.2 with hn | ⟨g, cap, cur, rfl, hg0, hg1, r⟩
  · exact .inl hn
  · have hlt : g < w.heap.size := (Array.getElem?_eq_some_iff.1 hg1).1
    refine .inr ⟨g, cap, cur, rfl, hg0, ?_, r⟩
    rw [hg.block g hlt ?_]
    · exact hg1
    · intro he
      rcases h'.2 with ⟨rfl, _⟩ | ⟨g', cap', cur', rfl, _, hg1', _⟩
      · cases he
      · injection he with he
        have he2 : g = g' := he
        subst he2
        rw [hg1] at hg1'
        injection hg1' with hg1'
        injection hg1' with _ h3
        cases h3
def OwIN (D : List Nat) : Value → World → Prop := fun v w => OwnI 3 w 0 v D
theorem OwIN.keep {D : List Nat} {v : Value} {w w' : World} (h : OwIN D v w) (hb : Below w.heap.size w w') : OwIN D v w' := OwnI.below h hb (Nat.le_refl _)
def AlON (D : List Nat) : Value → World → Prop := fun v w => ∃ u, v = .tuple #[u, .int .i64 0] ∧ OwIN D u w
theorem AlON.keep {D : List Nat} {v : Value} {w w' : World} (h : AlON D v w) (hb : Below w.heap.size w w') : AlON D v w' := by
  obtain ⟨u, hv, h⟩ := h
  exact ⟨u, hv, h.keep hb⟩

/-- What the loop of the document's Sign keeps. -/
def RSgAt (w : World) (I seed : List UInt8) (q k g0 b : Nat) (D : List Nat) (dv v : Value) (l : List UInt8) (wr : World) : Prop :=
  Blk wr g0 (kcs I q seed (k : Int)) 119 ∧ OwnI 3 wr 0 dv D ∧ Own 5 wr b v l ∧ b ≤ wr.heap.size ∧ Below w.heap.size w wr
theorem RSgAt.below {w : World} {I seed : List UInt8} {q k g0 b : Nat} {D : List Nat} {dv v : Value} {l : List UInt8} {wr w' : World} (h : RSgAt w I seed q k g0 b D dv v l wr) (hb : Below wr.heap.size wr w') : RSgAt w I seed q k g0 b D dv v l w' := by
  obtain ⟨h1, h3, h4, h5, h6⟩ := h
  exact ⟨h1.below hb h1.lt, h3.below hb (Nat.le_refl _), h4.below hb (Nat.le_refl _), Nat.le_trans h5 hb.size, h6.trans (hb.mono h6.size)⟩

end Go.Proofs.YtllncnnigjgadaaGreat

namespace Go.Proofs.YtllncnnigjgadaaGreat
open Go.RowKit

/-- The call owns a slice of n hashes, from block 'base' on; l: their bytes, one behind the other. -/
def OwH (w : World) (base : Nat) (v : Value) (n : Nat) (l : List UInt8) : Prop := w.ownsRow base 30 32 v n (bys l)
theorem OwH.below {w w' : World} {base B n : Nat} {v : Value} {l : List UInt8} (h : OwH w base v n l) (hb : Below B w w') (hB : w.heap.size ≤ B) : OwH w' base v n l := by
  refine ⟨h.1, ?_⟩
  rcases h.2 with hn | ⟨g, cap, cur, rfl, hg0, hg, r⟩
  · exact .inl hn
  · have hlt : g < w.heap.size := (Array.getElem?_eq_some_iff.1 hg).1
    exact .inr ⟨g, cap, cur, rfl, hg0, by rw [hb.block g (by omega)]; exact hg, r⟩
theorem OwH.base {w : World} {base base' n : Nat} {v : Value} {l : List UInt8} (h : OwH w base v n l) (hb : base' ≤ base) : OwH w base' v n l := by
  refine ⟨h.1, ?_⟩
  rcases h.2 with hn | ⟨g, cap, cur, rfl, hg0, r⟩
  · exact .inl hn
  · exact .inr ⟨g, cap, cur, rfl, by omega, r⟩
theorem OwH.len {w : World} {base n : Nat} {v : Value} {l : List UInt8} (h : OwH w base v n l) : l.length = 32 * n := by
  have := h.1; rw [bys_length] at this; omega
/-- Hashes that are owned stay where a row of bytes grows: their types tell the rows apart. -/
theorem OwH.other {w w' : World} {b b' n : Nat} {v v' : Value} {D l : List UInt8} (h : OwH w b v n D) (h' : Own 5 w b' v' l) (hg : w.grownBy w' v'.ownBlock) : OwH w' b v n D := by
  refine ⟨h.1, ?_⟩
  rcases h.2 with hn | ⟨g, cap, cur, rfl, hg0, hg1, r⟩
  · exact .inl hn
  · have hlt : g < w.heap.size := (Array.getElem?_eq_some_iff.1 hg1).1
    refine .inr ⟨g, cap, cur, rfl, hg0, ?_, r⟩
    rw [hg.block g hlt ?_]
    · exact hg1
    · intro he
      rcases h'.2 with ⟨rfl, _⟩ | ⟨g', cap', cur', rfl, _, hg1', _⟩
      · cases he
      · injection he with he
        have he2 : g = g' := he
        subst he2
        rw [hg1] at hg1'
        injection hg1' with hg1'
        injection hg1' with _ h3
        cases h3
theorem OwH.shape {w : World} {base n : Nat} {v : Value} {l : List UInt8} (h : OwH w base v n l) (hn : 0 < n) : ∃ g cap, v = .slice (some ⟨g, 0, none⟩) n cap ∧ base ≤ g ∧ g < w.heap.size ∧ n ≤ cap ∧ cap ≤ maxLen := by
  rcases h.2 with ⟨_, h0⟩ | ⟨g, cap, cur, rfl, hg0, hg, h1, h2, _⟩
  · omega
  · exact ⟨g, cap, rfl, hg0, (Array.getElem?_eq_some_iff.1 hg).1, h1, h2⟩
/-- The bytes of hash i. -/
def hRow (l : List UInt8) (i : Nat) : List UInt8 := (l.drop (32 * i)).take 32
theorem hRow_length (l : List UInt8) (n i : Nat) (hl : l.length = 32 * n) (hi : i < n) : (hRow l i).length = 32 := by unfold hRow; rw [List.length_take, List.length_drop]; omega
theorem OwH.range {w : World} {base n g cap : Nat} {l : List UInt8} (h : OwH w base (.slice (some ⟨g, 0, none⟩) n cap) n l) (i : Nat) : w.rangeAt g (32 * i) (bys (hRow l i)) := by
  intro j u hu
  have hc := World.ownsRow.cells (g := g) h rfl (32 * i + j) u ?_
  · have hadd : (⟨g, 0, none⟩ : Addr).add (32 * i + j) = ⟨g, 32 * i + j, none⟩ := by unfold Addr.add; split <;> simp_all
    rw [hadd] at hc
    exact hc
  · unfold hRow bys at hu
    rw [List.map_take, List.map_drop, List.getElem?_take] at hu
    split at hu
    · rw [List.getElem?_drop] at hu; exact hu
    · cases hu
theorem take_hRow (l : List UInt8) (i : Nat) : l.take (32 * (i + 1)) = l.take (32 * i) ++ hRow l i := by
  unfold hRow
  rw [show 32 * (i + 1) = 32 * i + 32 by omega, List.take_add]

/-- What the loop of the document's public keeps. -/
def RPuAt (w : World) (b n : Nat) (v hv : Value) (l D : List UInt8) (wr : World) : Prop :=
  OwH wr 0 hv n D ∧ Own 5 wr b v l ∧ b ≤ wr.heap.size ∧ Below w.heap.size w wr
theorem RPuAt.below {w : World} {b n : Nat} {v hv : Value} {l D : List UInt8} {wr w' : World} (h : RPuAt w b n v hv l D wr) (hb : Below wr.heap.size wr w') : RPuAt w b n v hv l D w' := by
  obtain ⟨h1, h4, h5, h6⟩ := h
  exact ⟨h1.below hb (Nat.le_refl _), h4.below hb (Nat.le_refl _), Nat.le_trans h5 hb.size, h6.trans (hb.mono h6.size)⟩

set_option maxRecDepth 100000 in
set_option maxHeartbeats 2000000 in
theorem refPub_any (I seed D : List UInt8) (q n : Nat) (z : Int) (hv : Value) (w : World) (hI : I.length = 16) (hs : seed.length = 32) (hq : q < 4294967296) (hn0 : 0 < n) (hn1 : n ≤ 300) (hO : OwH w 0 hv n D) :
    Calls Tryz.prog 74 #[.agg (kcs I q seed z).toArray, hv] w (Arr (bys (hpub (pre20 I q) D)) w) := by
  obtain ⟨i0, hi0, hz0, hz1, hz2⟩ := info_parts info5
  have HIN := Lib.hid hi0
  have H0 := Lib.hid hz0
  have H1 := Lib.hid hz1
  have H2 := Lib.hid hz2
  have HI := Lib.hid hI
  have HP := Lib.hid (pre20_length I q hI)
  have HDL := Lib.hid hO.len
  have H32 : Hid ((Tryz.prog.info? 119).map (·.size) = some (kcs I q seed z).length) := by show _ = _; rw [kcs_length I seed q _ hI hs]; exact s32
  have HH : Hid (hash (pre20 I q ++ [128, 128] ++ D) = hpub (pre20 I q) D) := by show _ = _; unfold hpub; simp
  have H24 : Hid ((Tryz.prog.info? 30).map (·.size) = some (bys (hpub (pre20 I q) D)).length) := by show _ = _; rw [bys_length, hpub_length]; exact s24
  have HLZ : Hid (z32.length = (bys (hpub (pre20 I q) D)).length) := by show _ = _; rw [bys_length, hpub_length, z32_length]
  obtain ⟨d32, hu32, hd32⟩ := row32
  have HU := Lib.hid hu32
  have HD := Lib.hid hd32
  obtain ⟨gH, cH, rfl, _, hgH, hcH, hmH⟩ := hO.shape hn0
  unfold maxLen at hmH
  have HO := Lib.hid hO
  clear hI hs hi0 hz0 hz1 hz2 hu32 hd32 hO
  go_enter Tryz.func74, Tryz.ntmps74
  go_wp2_with (refine wpList_box_blk rfl 119 _ rfl (kcs I q seed z) rfl ?_)
  intro v1 a1 a2 a3
  have A1 := Lib.hid a1
  have A2 := Lib.hid a2
  have A3 := Lib.hid a3
  clear a1 a2 a3
  go_wp2_with (refine wpList_alloc_blk rfl 30 rfl _ z24 ?_)
  intro v2 a1 a2 a3
  rw [A2.out] at a1 a2 a3 ⊢
  obtain ⟨g0, hg0⟩ : ∃ g, w.heap.size = g := ⟨_, rfl⟩
  obtain ⟨g1, hg1⟩ : ∃ g, g0 + 1 = g := ⟨_, rfl⟩
  have X1 : Hid (Blk v2 g0 (kcs I q seed z) 119) := by rw [← hg0]; exact A1.out.below a3 (by omega)
  have X2 : Hid (Blk v2 g1 z32 30) := by rw [← hg1, ← hg0]; exact a1
  have XB : Hid (Below w.heap.size w v2) := A3.out.trans (a3.mono (by omega))
  have hw0 : w.heap.size ≤ g0 := by omega
  have hg01 : g0 < g1 := by omega
  rw [hg0, hg1]
  clear a1 a2 a3 A1 A2 A3 hg0 hg1
  go_wp2_with (refine wpList_load_blkU rfl 119 _ rfl g0 rfl (kcs I q seed z) 119 X1.out d32 HU.out HD.out H32.out ?_)
  refine (head_any I seed q z _ HI.out hq).mono ?_
  rintro e w2 ⟨hv2, rfl, hown, hb⟩
  obtain ⟨b, hbE⟩ : ∃ b, v2.heap.size = b := ⟨_, rfl⟩
  have g1b : g1 < b := by rw [← hbE]; exact X2.out.lt
  have Y2 : Hid (Blk w2 g1 z32 30) := X2.out.below hb X2.out.lt
  have YB : Hid (Below w.heap.size w w2) := XB.out.trans (hb.mono XB.out.size)
  have YO : Hid (Own 5 w2 b hv2 (pre20 I q)) := by rw [← hbE]; exact hown
  have hb2 : b ≤ w2.heap.size := by rw [← hbE]; exact hb.size
  have hwb : w.heap.size ≤ b := by omega
  clear hb hown X1 X2 XB hbE
  go_wp2_with (at_builtin; refine wpList_app rfl _ _ 22 rfl 5 i0 Tryz.underlying22 HIN.out H0.out H1.out H2.out b (w2.heap.size + 1) _ _ (pre20 I q) [128, 128] rfl (YO.out.alloc _) rfl ((Own.lit 5 w2 _ 2 [128, 128] rfl (by omega) (by simp [bys])).rd.more (by simp)) (by rw [HP.out]; simp) (by simp; omega) ?_)
  intro v3 w3 hown3 hb3'
  have hb3 : Below b w2 w3 := ((Below.refl b w2).alloc hb2 _).trans hb3'
  have Z2 : Hid (Blk w3 g1 z32 30) := Y2.out.below hb3 g1b
  have ZB : Hid (Below w.heap.size w w3) := YB.out.trans (hb3.mono hwb)
  have hb3s : b ≤ w3.heap.size := Nat.le_trans hb2 hb3.size
  have K0 : Hid (RPuAt w b n v3 (.slice (some ⟨gH, 0, none⟩) n cH) (pre20 I q ++ [128, 128] ++ D.take (32 * 0)) D w3 ∧ Blk w3 g1 z32 30) :=
    ⟨⟨HO.out.below ZB.out (Nat.le_refl _), (by simpa using hown3), hb3s, ZB.out⟩, Z2.out⟩
  clear hown3 hb3 hb3' Y2 YB YO Z2 ZB hb3s hb2
  go_wp2
  go_loopw [5, 6] (fun v x wr => ∃ i : Nat, i ≤ n ∧ x = .int .i64 (i : Int) ∧ Hid (RPuAt w b n v (.slice (some ⟨gH, 0, none⟩) n cH) (pre20 I q ++ [128, 128] ++ D.take (32 * i)) D wr ∧ Blk wr g1 z32 30)) (fun _ x _ => n - (intOf x).toNat)
  case atStart => exact ⟨0, by omega, rfl, K0⟩
  case round =>
    clear K0
    obtain ⟨i, hi, rfl, KK⟩ := hrel
    have hel : (pre20 I q ++ [128, 128] ++ D.take (32 * i)).length = 22 + 32 * i := by
      have := HDL.out
      rw [List.length_append, List.length_append, HP.out, List.length_take]; simp; omega
    obtain ⟨A4, c4, hv4, hc4, hm4⟩ := KK.out.1.2.1.rd.shape
    rw [hel] at hv4 hc4
    subst hv4
    unfold maxLen at hm4
    have HEL := Lib.hid hel
    clear hel
    by_cases hi2 : i < n
    · have zi : (i : Int) < (n : Int) := by omega
      have hRl := hRow_length D n i HDL.out hi2
      obtain ⟨R, hR⟩ : ∃ R, hRow D i = R := ⟨_, rfl⟩
      rw [hR] at hRl
      have HRL := Lib.hid hRl
      have HRE := Lib.hid hR
      have hrg := KK.out.1.1.range i
      rw [hR, Nat.mul_comm 32 i] at hrg
      have RG := Lib.hid hrg
      have H24r : Hid ((Tryz.prog.info? 30).map (·.size) = some (bys R).length) := by show _ = _; rw [bys_length, hRl]; exact s24
      have HLZr : Hid (z32.length = (bys R).length) := by show _ = _; rw [bys_length, hRl, z32_length]
      clear hrg hR hRl
      go_wp2_with (first | (refine wpList_load_mid rfl 30 _ rfl gH (i * 32) rfl (bys R) _ RG.out tu24 rfl H24r.out ?_) | (refine wpList_alloc_blk rfl 30 rfl _ z24 ?_))
      intro wb a1 a2 a3
      obtain ⟨gS, hgS⟩ : ∃ g, wr.heap.size = g := ⟨_, rfl⟩
      rw [hgS] at a1 a2 a3 ⊢
      have A1 := Lib.hid a1
      obtain ⟨wf, hwf⟩ : ∃ t, wb.setRow gS (bys R).toArray = t := ⟨_, rfl⟩
      have hbf : Below wr.heap.size wr wf := by rw [← hwf, hgS]; exact below_setRow' a3 (Nat.le_refl _) _
      have KF := Lib.hid (KK.out.1.below hbf)
      have F2 : Hid (Blk wf g1 z32 30) := KK.out.2.below hbf KK.out.2.lt
      have LS : Hid (Blk wf gS (bys R) 30) := by rw [← hwf]; exact a1.setRow
      have hgSf : gS < wf.heap.size := LS.out.lt
      clear a1 a2 a3 hgS hbf KK RG
      go_wp2_with (first | (refine wpList_store_blk rfl 30 _ _ rfl gS (bys R) z32 30 rfl rfl A1.out H24r.out HLZr.out (bys_one' _) ?_; rw [hwf]) | (at_builtin; refine wpList_app_grown rfl _ _ 22 rfl 5 i0 Tryz.underlying22 HIN.out H0.out H1.out H2.out b wf.heap.size _ _ (pre20 I q ++ [128, 128] ++ D.take (32 * i)) R rfl KF.out.2.1 rfl (Rd.blk 32 HRL.out LS.out hgSf (by omega)) (by rw [HRL.out]; omega) (by rw [HEL.out, HRL.out]; omega) KF.out.2.2.1 ?_))
      intro v5 w5 hown5 hgr5
      have K5 : Hid (RPuAt w b n v5 (.slice (some ⟨gH, 0, none⟩) n cH) (pre20 I q ++ [128, 128] ++ D.take (32 * (i + 1))) D w5 ∧ Blk w5 g1 z32 30) := by
        obtain ⟨f1, f4, f5, f6⟩ := KF.out
        have hb5 : Below b wf w5 := Own.grown f4 hgr5 f5
        rw [take_hRow, HRE.out]
        exact ⟨⟨f1.other f4 hgr5, (by simpa only [List.append_assoc, List.cons_append, List.nil_append] using hown5), Nat.le_trans f5 hb5.size, f6.trans (hb5.mono hwb)⟩, F2.out.below hb5 g1b⟩
      clear hown5 hgr5 KF F2 LS hgSf A1 hwf
      go_wp2
      go_roundw
      case rel => exact ⟨i + 1, by omega, by go_num, K5⟩
      case measure => simp [intOf]; omega
    · have hiM : i = n := by omega
      subst hiM
      have zi : ¬ ((i : Int) < (i : Int)) := by omega
      have hall : D.take (32 * i) = D := List.take_of_length_le (by have := HDL.out; omega)
      have KL := Lib.hid KK.out.1
      have W2 := Lib.hid KK.out.2
      rw [hall] at KL HEL
      clear KK hall
      go_wp2_with fail
      refine (refSum_any _ _ _ KL.out.2.1.rd (by have := HEL.out; omega)).mono ?_
      rintro e w6 ⟨rfl, hb6⟩
      rw [HH.out]
      have V2 : Hid (Blk w6 g1 z32 30) := W2.out.below hb6 W2.out.lt
      have VB : Hid (Below w.heap.size w w6) := KL.out.2.2.2.trans (hb6.mono KL.out.2.2.2.size)
      clear hb6 W2 KL
      go_wp2_with (refine wpList_store_blk rfl 30 _ _ rfl g1 (bys (hpub (pre20 I q) D)) z32 30 rfl rfl V2.out H24.out HLZ.out (bys_one' _) ?_)
      refine bodyPost_ret (v := .agg (bys (hpub (pre20 I q) D)).toArray) ?_ rfl ?_
      · exact ret_blk rfl _ _ g1 30 _ rfl V2.out.setRow 32 5 tu24 H24.out
      · exact ⟨rfl, below_setRow' VB.out (by omega) _⟩
end Go.Proofs.YtllncnnigjgadaaGreat

namespace Go.Proofs.YtllncnnigjgadaaGreat
open Go.RowKit

theorem u78 : Tryz.prog.underlying 121 = some (.slice 30) := by kernel_rfl
theorem b24 : (Tryz.prog.info? 30).map (·.bytes) = some 32 := by kernel_rfl
theorem info24 : ∃ i, Tryz.prog.info? 30 = some i ∧ i.zero = some (.agg z32.toArray) ∧ i.size = 32 ∧ i.bytes = 32 := by
  have h1 := z24
  have h2 := s24
  have h3 := b24
  cases h : Tryz.prog.info? 30 with
  | none => rw [h] at h1; cases h1
  | some i =>
    rw [h] at h1 h2 h3
    exact ⟨i, rfl, by simpa using h1, by simpa using h2, by simpa using h3⟩
theorem fill_h0 (f : Nat → UInt8) : Instr.fill (fun i => some (i * 32, 32)) ((Array.range (1 * 32)).map (fun j => (Value.agg z32.toArray).cells[j % (Value.agg z32.toArray).cells.size]!)) [(0, .agg (bys ((List.range 32).map f)).toArray)] = some (bys ((List.range 32).map f)).toArray := by kernel_rfl
/-- A slice of one hash, built. -/
theorem wpList_bsH {w : World} {ops : Array Oper} {rest : List Oper} {o : Oper} {a : Act} {Q : Exit → Act → World → Prop} (hgd : o.guard = none) (x : Operand) (ho : o.op = .buildSlice 121 1 #[(0, x)])
    (R : List UInt8) (hR : R.length = 32) (hx : a.eval x = .agg (bys R).toArray) (N : Nat) (hN : w.heap.size = N)
    (h : wpList Tryz.prog ops Q rest (a.put o.dst (.slice (some ⟨N, 0, none⟩) 1 1)) (w.alloc (.cells (bys R).toArray 30))) : wpList Tryz.prog ops Q (o :: rest) a w := by
  subst hN
  obtain ⟨i, hi, hz, hsz, hby⟩ := info24
  refine wpList_buildSlice hgd 121 30 1 _ ho (bys R).toArray i (.agg z32.toArray) u78 hi hz (by rw [hsz]; decide) (by rw [hsz]; decide) ?_ h
  have e : ((#[(0, x)] : Array (Nat × Operand)).map fun (i, x) => (i, a.eval x)).toList = [(0, a.eval x)] := by simp
  rw [e, hx, hsz, list_as R 32 hR]
  exact fill_h0 _
/-- append of one hash onto hashes that are owned. -/
theorem wpList_appH {w : World} {ops : Array Oper} {rest : List Oper} {o : Oper} {a : Act} {Q : Exit → Act → World → Prop} (hgd : o.guard = none) (s x : Operand) (ho : o.op = .call { callee := .builtin .append, args := #[s, x], argTypes := #[121, 121] })
    (base : Nat) (v : Value) (n N : Nat) (l R : List UInt8) (hs : a.eval s = v) (hown : OwH w base v n l) (hx : a.eval x = .slice (some ⟨N, 0, none⟩) 1 1) (hR : R.length = 32) (hB : Blk w N (bys R) 30) (hn : n ≤ 1000000) (hbase : base ≤ w.heap.size)
    (h : ∀ v' w', OwH w' base v' (n + 1) (l ++ R) → Below base w w' → wpList Tryz.prog ops Q rest (a.put o.dst v') w') : wpList Tryz.prog ops Q (o :: rest) a w := by
  obtain ⟨i, hi, hz, hsz, hby⟩ := info24
  refine wpList_append_own w hgd s x 121 ho base 30 i (.agg z32.toArray) 32 32 u78 hi hz hsz hby rfl (by decide) v n (bys l) hs hown ⟨N, 0, none⟩ 1 1 (bys R) hx (by rw [bys_length, hR]) ?_ (bys_one R) (by unfold maxLen; omega) (by omega) hbase ?_
  · intro j u hu
    have hadd : (⟨N, 0, none⟩ : Addr).add j = ⟨N, j, none⟩ := by unfold Addr.add; split <;> simp_all
    rw [hadd]
    exact (hB.cell j).trans hu
  · intro v' w' h1 h2 _
    refine h v' w' ?_ ((Below.refl base w).grown h2 hbase fun k hk => (World.ownsRow.lt hown k hk).1)
    unfold OwH
    rw [bys_append]
    exact h1

/-- What the loop of the document's Public keeps. -/
def RPbAt (w : World) (I seed : List UInt8) (q k g0 g1 b i : Nat) (v : Value) (l : List UInt8) (wr : World) : Prop :=
  Blk wr g0 (kcs I q seed (k : Int)) 119 ∧ Blk wr g1 z32 30 ∧ OwH wr b v i l ∧ b ≤ wr.heap.size ∧ Below w.heap.size w wr
theorem RPbAt.below {w : World} {I seed : List UInt8} {q k g0 g1 b i : Nat} {v : Value} {l : List UInt8} {wr w' : World} (h : RPbAt w I seed q k g0 g1 b i v l wr) (hb : Below wr.heap.size wr w') : RPbAt w I seed q k g0 g1 b i v l w' := by
  obtain ⟨h1, h2, h4, h5, h6⟩ := h
  exact ⟨h1.below hb h1.lt, h2.below hb h2.lt, h4.below hb (Nat.le_refl _), Nat.le_trans h5 hb.size, h6.trans (hb.mono h6.size)⟩

set_option maxRecDepth 100000 in
set_option maxHeartbeats 2000000 in
theorem refPublic_yes (I seed : List UInt8) (q k : Nat) (w : World) (hI : I.length = 16) (hs : seed.length = 32) (hq : q < 4294967296) (hk : Wd k) :
    Calls Tryz.prog 109 #[.agg (kcs I q seed (k : Int)).toArray] w (TwoD (.agg (bys (pubL (pre20 I q) seed k)).toArray) (.int .i64 0) w) := by
  have HI := Lib.hid hI
  have HS := Lib.hid hs
  have HK := Lib.hid hk
  have HP := Lib.hid (pre20_length I q hI)
  have hm := mny_le k hk
  obtain ⟨M, hM⟩ : ∃ M, mny k = M := ⟨_, rfl⟩
  obtain ⟨G, hG⟩ : ∃ G, gr k = G := ⟨_, rfl⟩
  have hM0 : 0 < M := by rw [← hM]; rcases hk with rfl | rfl | rfl | rfl <;> decide
  have HME := Lib.hid hM
  have HGE := Lib.hid hG
  rw [hM] at hm
  have nM : ((M : Int) == 0) = false := by simp; omega
  have H32 : Hid ((Tryz.prog.info? 119).map (·.size) = some (kcs I q seed (k : Int)).length) := by show _ = _; rw [kcs_length I seed q _ hI hs]; exact s32
  have H24 : Hid ((Tryz.prog.info? 30).map (·.size) = some (bys (pubL (pre20 I q) seed k)).length) := by show _ = _; rw [bys_length]; unfold pubL; rw [hpub_length]; exact s24
  have HLZ : Hid (z32.length = (bys (pubL (pre20 I q) seed k)).length) := by show _ = _; rw [bys_length, z32_length]; unfold pubL; rw [hpub_length]
  obtain ⟨d32, hu32, hd32⟩ := row32
  have HU := Lib.hid hu32
  have HD := Lib.hid hd32
  clear hI hs hk hu32 hd32 hM hG
  go_enter Tryz.func109, Tryz.ntmps109
  go_wp2_with (refine wpList_box_blk rfl 119 _ rfl (kcs I q seed (k : Int)) rfl ?_)
  intro v1 a1 a2 a3
  have A1 := Lib.hid a1
  have A2 := Lib.hid a2
  have A3 := Lib.hid a3
  clear a1 a2 a3
  go_wp2_with (refine wpList_alloc_blk rfl 30 rfl _ z24 ?_)
  intro v2 a1 a2 a3
  rw [A2.out] at a1 a2 a3 ⊢
  obtain ⟨g0, hg0⟩ : ∃ g, w.heap.size = g := ⟨_, rfl⟩
  obtain ⟨g1, hg1⟩ : ∃ g, g0 + 1 = g := ⟨_, rfl⟩
  have X1 : Hid (Blk v2 g0 (kcs I q seed (k : Int)) 119) := by rw [← hg0]; exact A1.out.below a3 (by omega)
  have X2 : Hid (Blk v2 g1 z32 30) := by rw [← hg1, ← hg0]; exact a1
  have XB : Hid (Below w.heap.size w v2) := A3.out.trans (a3.mono (by omega))
  have hw0 : w.heap.size ≤ g0 := by omega
  have hg01 : g0 < g1 := by omega
  rw [hg0, hg1]
  have cw := (X1.out.cell 49).trans (kcs_z I seed q (k : Int) HI.out HS.out)
  clear a1 a2 a3 A1 A2 A3 hg0 hg1
  go_wp2_with fail
  clear cw
  refine (many_yes k _ HK.out).mono ?_
  rintro e w1 ⟨rfl, nd, rfl⟩
  rw [HME.out]
  have Y1 : Hid (Blk (v2.drewN nd) g0 (kcs I q seed (k : Int)) 119) := X1.out
  have Y2 : Hid (Blk (v2.drewN nd) g1 z32 30) := X2.out
  have YB : Hid (Below w.heap.size w (v2.drewN nd)) := Below.drewN' XB.out
  generalize v2.drewN nd = w1 at Y1 Y2 YB ⊢
  obtain ⟨b, hbE⟩ : ∃ b, w1.heap.size = b := ⟨_, rfl⟩
  have K0 : Hid (RPbAt w I seed q k g0 g1 b 0 (.slice (some ⟨b, 0, none⟩) 0 0) (rowsTo (endF (pre20 I q) seed k) 0) (w1.alloc (.cells #[] 30))) := by
    refine ⟨Y1.out.alloc _, Y2.out.alloc _, ?_, by simp; omega, (YB.out.alloc YB.out.size _)⟩
    rw [← hbE]
    exact World.ownsRow_made (base := w1.heap.size) (e := 30) (size := 32) w1 #[] 0 (Nat.le_refl _) (by unfold maxLen; omega) rfl
  have g0b : g0 < b := by rw [← hbE]; exact Y1.out.lt
  have g1b : g1 < b := by rw [← hbE]; exact Y2.out.lt
  have hwb : w.heap.size ≤ b := by omega
  clear X1 X2 XB Y1 Y2 YB
  go_wp2
  clear hbE
  generalize w1.alloc (.cells #[] 30) = wA at K0 ⊢
  go_loopw [5, 6] (fun v x wr => ∃ i : Nat, i ≤ M ∧ x = .int .i64 (i : Int) ∧ Hid (RPbAt w I seed q k g0 g1 b i v (rowsTo (endF (pre20 I q) seed k) i) wr)) (fun _ x _ => M - (intOf x).toNat)
  case atStart => exact ⟨0, by omega, rfl, K0⟩
  case round =>
    clear K0
    obtain ⟨i, hi, rfl, KK⟩ := hrel
    by_cases hi2 : i < M
    · have zi : (i : Int) < (M : Int) := by omega
      have hiM : Hid (i < mny k) := by show _ < _; rw [HME.out]; exact hi2
      obtain ⟨S, hS⟩ : ∃ S, hsec (pre20 I q) seed i = S := ⟨_, rfl⟩
      have hSl : S.length = 32 := by rw [← hS]; exact hsec_length _ _ _
      have HSE := Lib.hid hS
      have HSL := Lib.hid hSl
      have H24s : Hid ((Tryz.prog.info? 30).map (·.size) = some (bys S).length) := by show _ = _; rw [bys_length, hSl]; exact s24
      have HLZs : Hid (z32.length = (bys S).length) := by show _ = _; rw [bys_length, hSl, z32_length]
      obtain ⟨E, hE⟩ : ∃ E, endF (pre20 I q) seed k i = E := ⟨_, rfl⟩
      have hEl : E.length = 32 := by rw [← hE]; exact endF_length _ _ _ _
      have HEE := Lib.hid hE
      have HEL := Lib.hid hEl
      have H24e : Hid ((Tryz.prog.info? 30).map (·.size) = some (bys E).length) := by show _ = _; rw [bys_length, hEl]; exact s24
      have HLZe : Hid (z32.length = (bys E).length) := by show _ = _; rw [bys_length, hEl, z32_length]
      clear hS hSl hE hEl
      go_wp2_with (refine wpList_load_blkU rfl 119 _ rfl g0 rfl (kcs I q seed (k : Int)) 119 KK.out.1 d32 HU.out HD.out H32.out ?_)
      refine (refSecret_yes I seed q k i _ HI.out HS.out hq HK.out hiM.out).mono ?_
      rintro e wa ⟨rfl, hb⟩
      rw [HSE.out]
      have KA := Lib.hid (KK.out.below hb)
      clear hb KK
      go_wp2_with (refine wpList_alloc_blk rfl 30 rfl _ z24 ?_)
      intro wb a1 a2 a3
      obtain ⟨gS, hgS⟩ : ∃ g, wa.heap.size = g := ⟨_, rfl⟩
      rw [hgS] at a1 a2 a3 ⊢
      have A1 := Lib.hid a1
      obtain ⟨wf, hwf⟩ : ∃ t, wb.setRow gS (bys S).toArray = t := ⟨_, rfl⟩
      have hbf : Below wa.heap.size wa wf := by rw [← hwf, hgS]; exact below_setRow' a3 (Nat.le_refl _) _
      have KF := Lib.hid (KA.out.below hbf)
      have LS : Hid (Blk wf gS (bys S) 30) := by rw [← hwf]; exact a1.setRow
      clear a1 a2 a3 hgS hbf KA
      go_wp2_with (first | (refine wpList_store_blk rfl 30 _ _ rfl gS (bys S) z32 30 rfl rfl A1.out H24s.out HLZs.out (bys_one' _) ?_; rw [hwf]))
      clear A1 hwf
      refine wp_region_relyG 13 0 (LayG z32 30 wf.heap.size (bys E)) (fun x => ⟨#[Value.agg (kcs I q seed ↑k).toArray, Value.pointer (some { block := g0, off := 0 }), Value.pointer (some { block := g1, off := 0 }), Value.int IntKind.i64 0, Value.int IntKind.i64 ↑M, u5, Value.int IntKind.i64 ↑i, Value.pointer (some { block := gS, off := 0 }), Value.int IntKind.i64 0, x 10, x 12, Value.pointer (some { block := g0, off := 49 }), Value.int IntKind.i64 ↑k, Value.int IntKind.i64 ↑M, Value.int IntKind.i64 ↑M, Value.bool false, undef, Value.slice (some { block := b, off := 0 }) 0 0, Value.int IntKind.i64 ↑i, Value.int IntKind.i64 ↑M, Value.bool true, u21, u22, Value.tuple #[Value.agg (bys S).toArray, Value.int IntKind.i64 0], Value.agg (kcs I q seed ↑k).toArray, Value.int IntKind.i64 ↑i, Value.tuple #[Value.agg (bys S).toArray, Value.int IntKind.i64 0], Value.agg (bys S).toArray, Value.int IntKind.i64 0, x 7, x 0, x 1, x 2, x 3, x 4, x 5, x 6, x 8, x 9, u39, u40, u41, u42, undef, undef, undef], []⟩) (fun jj => ([(fun x w => eqV (.agg (kcs I q seed (k : Int)).toArray) (x 0) w), (fun x w => eqV (.int .i64 (i : Int)) (x 1) w), (fun x w => eqV (.pointer (some ⟨g0, 49, none⟩)) (x 2) w), (fun x w => eqV (.int .i64 (k : Int)) (x 3) w), (fun x w => (eqV (.int .i64 (G : Int))) (x 4) w), (fun x w => eqV (.agg (bys S).toArray) (x 5) w), (fun x w => (eqV (.tuple #[.agg (bys E).toArray, .int .i64 0])) (x 6) w), (fun x w => eqV (.tuple #[.agg (bys E).toArray, .int .i64 0]) (x 7) w), (fun x w => eqV (.agg (bys E).toArray) (x 8) w), (fun x w => eqV (.int .i64 0) (x 9) w), (fun x w => (NewG z32 30 wf.heap.size (bys E)) (x 10) w), (fun x w => ∃ g, x 10 = .pointer (some ⟨g, 0, none⟩) ∧ wf.heap.size ≤ g ∧ Blk w g (bys E) 30), (fun x w => eqV (.int .i64 0) (x 12) w)] : List ((Nat → Value) → World → Prop)).getD jj (fun _ _ => True)) rfl ⟨fun kk => [_, _, _, _, _, _, _, _, _, _, _, undef, _].getD kk undef, rfl⟩ (LayG.drew _ _ _ _ _) (fun _ _ _ h k => h.trans k) (by kernel_rfl) (by kernel_rfl) ?steps ?fin
      case steps =>
        refine StepsG.val 0 (.agg (kcs I q seed (k : Int)).toArray) (fun w => LayG.refl _ _ _ _ w) rfl (fun _ _ => rfl) rfl rfl (fun x w9 hb hd => ?_) ?_
        · exact run_load_blkU 119 (.tmp 1) rfl g0 rfl (kcs I q seed (k : Int)) 119 (KF.out.1.below hb.below KF.out.1.lt) d32 HU.out HD.out H32.out
        refine StepsG.val 1 (.int .i64 (i : Int)) (fun w => LayG.refl _ _ _ _ w) rfl (fun _ _ => rfl) rfl rfl (fun x w9 hb hd => ?_) ?_
        · first | (go_simp; done) | (go_simp; rfl)
        refine StepsG.val 2 (.pointer (some ⟨g0, 49, none⟩)) (fun w => LayG.refl _ _ _ _ w) rfl (fun _ _ => rfl) rfl rfl (fun x w9 hb hd => ?_) ?_
        · first | (go_simp; done) | (go_simp; rfl)
        refine StepsG.val 3 (.int .i64 (k : Int)) (fun w => LayG.refl _ _ _ _ w) rfl (fun _ _ => rfl) rfl rfl (fun x w9 hb hd => ?_) ?_
        · have h2 : x 2 = .pointer (some ⟨g0, 49, none⟩) := hd 2 (by kernel_rfl)
          have c := ((KF.out.1.below hb.below KF.out.1.lt).cell 49).trans (kcs_z I seed q (k : Int) HI.out HS.out)
          rw [h2]
          first | (go_simp; done) | (go_simp; rfl)
        refine StepsG.cons 4 (eqV (.int .i64 (G : Int))) rfl (fun _ _ _ h hb => h) (fun _ _ => rfl) rfl rfl (fun x w9 hb hd K hK => ?_) ?_
        · have h3 : Hid (x 3 = .int .i64 (k : Int)) := hd 3 (by kernel_rfl)
          go_simp
          refine calls_args (args2 := #[.int .i64 (k : Int)]) (by rw [h3.out]) ?_
          refine (last_any k _ HK.out).mono ?_
          rintro e w2 ⟨rfl, rfl⟩
          rw [HGE.out]
          exact hK.out _ _ (LayG.refl _ _ _ _ _) rfl
        refine StepsG.val 5 (.agg (bys S).toArray) (fun w => LayG.refl _ _ _ _ w) rfl (fun _ _ => rfl) rfl rfl (fun x w9 hb hd => ?_) ?_
        · exact run_load_blk 30 (.tmp 7) rfl gS rfl (bys S) 30 (LS.out.below hb.below LS.out.lt) 32 5 tu24 H24s.out
        refine StepsG.cons 6 (eqV (.tuple #[.agg (bys E).toArray, .int .i64 0])) rfl (fun _ _ _ h hb => h) (fun _ _ => rfl) rfl rfl (fun x w9 hb hd K hK => ?_) ?_
        · have h0 : Hid (x 0 = .agg (kcs I q seed (k : Int)).toArray) := hd 0 (by kernel_rfl)
          have h1 : Hid (x 1 = .int .i64 (i : Int)) := hd 1 (by kernel_rfl)
          have h4 : Hid (x 4 = .int .i64 (G : Int)) := hd 4 (by kernel_rfl)
          have h5 : Hid (x 5 = .agg (bys S).toArray) := hd 5 (by kernel_rfl)
          go_simp
          refine calls_args (args2 := #[.agg (kcs I q seed (k : Int)).toArray, .int .i64 (i : Int), .int .i64 ((0 : Nat) : Int), .int .i64 ((0 + G : Nat) : Int), .agg (bys S).toArray]) (by rw [h0.out, h1.out, h4.out, h5.out, Nat.zero_add]; rfl) ?_
          refine (refChain_yes I seed S q k i 0 G _ HI.out HS.out HSL.out hq HK.out hiM.out (by rw [Nat.zero_add, HGE.out]; exact Nat.le_refl _)).mono ?_
          rintro e w2 ⟨rfl, hb2⟩
          refine hK.out _ _ (LayG.grow hb2 hb.below.size) ?_
          rw [← HEE.out]
          unfold endF
          rw [HGE.out, HSE.out]
          rfl
        refine StepsG.val 7 (.tuple #[.agg (bys E).toArray, .int .i64 0]) (fun w => LayG.refl _ _ _ _ w) rfl (fun _ _ => rfl) rfl rfl (fun x w9 hb hd => ?_) ?_
        · have h6 : x 6 = .tuple #[.agg (bys E).toArray, .int .i64 0] := hd 6 (by kernel_rfl)
          rw [h6]
          first | (go_simp; done) | (go_simp; rfl)
        refine StepsG.val 8 (.agg (bys E).toArray) (fun w => LayG.refl _ _ _ _ w) rfl (fun _ _ => rfl) rfl rfl (fun x w9 hb hd => ?_) ?_
        · have h7 : x 7 = .tuple #[.agg (bys E).toArray, .int .i64 0] := hd 7 (by kernel_rfl)
          rw [h7]
          first | (go_simp; done) | (go_simp; rfl)
        refine StepsG.val 9 (.int .i64 0) (fun w => LayG.refl _ _ _ _ w) rfl (fun _ _ => rfl) rfl rfl (fun x w9 hb hd => ?_) ?_
        · have h7 : x 7 = .tuple #[.agg (bys E).toArray, .int .i64 0] := hd 7 (by kernel_rfl)
          rw [h7]
          first | (go_simp; done) | (go_simp; rfl)
        refine StepsG.cons 10 (NewG z32 30 wf.heap.size (bys E)) rfl (fun _ _ _ h hb => NewG.keep h hb) (fun _ _ => rfl) rfl rfl (fun x w9 hb hd K hK => ?_) ?_
        · refine wp_of_list rfl (wpList_alloc_blk rfl 30 rfl _ z24 ?_)
          intro w2 c1 c2 c3
          exact hK.out _ _ (LayG.grow c3 hb.below.size) ⟨_, rfl, hb.below.size, .inl c1⟩
        refine StepsG.consX 11 (fun x i v w w' hi hdp h hb => by obtain ⟨g, h1, h2, h3⟩ := h; exact ⟨g, by rw [upd_ne _ _ _ _ (fun e => hdp (by rw [← e]; decide))]; exact h1, h2, hb.done g h3⟩) (fun _ _ => rfl) rfl rfl (fun x w9 hb hd K hK => ?_) ?_
        · have h8 : Hid (x 8 = .agg (bys E).toArray) := hd 8 (by kernel_rfl)
          have h10 : NewG z32 30 wf.heap.size (bys E) (x 10) w9 := hd 10 (by kernel_rfl)
          obtain ⟨g, e10, hgb, hor⟩ := h10
          rcases hor with hz | hz
          · refine wp_store_blk 30 (.tmp 9) (.tmp 37) rfl g (bys E) z32 30 e10 h8.out hz H24e.out HLZe.out (bys_one' _) ?_
            exact hK.out undef _ (LayG.lay hgb (.inl hz)) ⟨g, by rw [upd_ne _ _ _ _ (by omega)]; exact e10, hgb, hz.setRow⟩
          · refine wp_store_blk 30 (.tmp 9) (.tmp 37) rfl g (bys E) (bys E) 30 e10 h8.out hz H24e.out rfl (bys_one' _) ?_
            exact hK.out undef _ (LayG.lay hgb (.inr hz)) ⟨g, by rw [upd_ne _ _ _ _ (by omega)]; exact e10, hgb, hz.setRow⟩
        refine StepsG.val 12 (.int .i64 0) (fun w => LayG.refl _ _ _ _ w) rfl (fun _ _ => rfl) rfl rfl (fun x w9 hb hd => ?_) ?_
        · have h9 : x 9 = .int .i64 0 := hd 9 (by kernel_rfl)
          rw [h9]
          first | (go_simp; done) | (go_simp; rfl)
        exact StepsG.done
      case fin =>
        intro x w9 hb hd
        have f12 : x 12 = .int .i64 0 := hd 12 (by omega)
        obtain ⟨gE, e10, hgb, hz⟩ : ∃ g, x 10 = .pointer (some ⟨g, 0, none⟩) ∧ wf.heap.size ≤ g ∧ Blk w9 g (bys E) 30 := hd 11 (by omega)
        refine AnyTill.any (S := fun _ => True) (m := 13) _ _ _ _ ?_
        refine AnyTill.done (by kernel_rfl) ?_
        refine NoPanic.normal ?_
        rw [f12, e10]
        generalize x 0 = p0
        generalize x 1 = p1
        generalize x 2 = p2
        generalize x 3 = p3
        generalize x 4 = p4
        generalize x 5 = p5
        generalize x 6 = p6
        generalize x 7 = p7
        generalize x 8 = p8
        generalize x 9 = p9
        have KG := Lib.hid (KF.out.below hb.below)
        have LE : Hid (Blk w9 gE (bys E) 30) := hz
        clear hd f12 e10 hgb hz hb KF LS x
        obtain ⟨N, hN⟩ : ∃ N, w9.heap.size = N := ⟨_, rfl⟩
        have KH : Hid (RPbAt w I seed q k g0 g1 b i u5 (rowsTo (endF (pre20 I q) seed k) i) (w9.alloc (.cells (bys E).toArray 30))) := KG.out.below ((Below.refl _ _).alloc (Nat.le_refl _) _)
        have LN : Hid (Blk (w9.alloc (.cells (bys E).toArray 30)) N (bys E) 30) := by rw [← hN]; exact heap_alloc_new w9 _
        have hbH : b ≤ (w9.alloc (.cells (bys E).toArray 30)).heap.size := KH.out.2.2.2.1
        go_wp2_with (first | (refine wpList_load_blk rfl 30 _ rfl gE rfl (bys E) 30 LE.out 32 5 tu24 H24e.out ?_) | (refine wpList_bsH rfl _ rfl E HEL.out rfl N hN ?_) | (at_builtin; refine wpList_appH rfl _ _ rfl b u5 i N (rowsTo (endF (pre20 I q) seed k) i) E rfl KH.out.2.2.1 rfl HEL.out LN.out (by omega) hbH ?_))
        intro v5 w5 hown5 hb5
        have K5 : Hid (RPbAt w I seed q k g0 g1 b (i + 1) v5 (rowsTo (endF (pre20 I q) seed k) (i + 1)) w5) := by
          obtain ⟨f1, f2, f4, f5, f6⟩ := KH.out
          rw [rowsTo_succ, HEE.out]
          exact ⟨f1.below hb5 g0b, f2.below hb5 g1b, hown5, Nat.le_trans f5 hb5.size, f6.trans (hb5.mono hwb)⟩
        clear hown5 hb5 KG KH LE LN hbH
        go_wp2
        go_roundw
        case rel => exact ⟨i + 1, by omega, by go_num, K5⟩
        case measure => simp [intOf]; omega
    · have hiM : i = M := by omega
      subst hiM
      have zi : ¬ ((i : Int) < (i : Int)) := by omega
      have hpE : Hid (hpub (pre20 I q) (rowsTo (endF (pre20 I q) seed k) i) = pubL (pre20 I q) seed k) := by show _ = _; unfold pubL; rw [HME.out]
      go_wp2_with (refine wpList_load_blkU rfl 119 _ rfl g0 rfl (kcs I q seed (k : Int)) 119 KK.out.1 d32 HU.out HD.out H32.out ?_)
      refine (refPub_any I seed _ q i _ _ _ HI.out HS.out hq hM0 (by omega) (KK.out.2.2.1.base (Nat.zero_le _))).mono ?_
      rintro e w6 ⟨rfl, hb6⟩
      rw [hpE.out]
      have V2 : Hid (Blk w6 g1 z32 30) := KK.out.2.1.below hb6 KK.out.2.1.lt
      have VB : Hid (Below w.heap.size w w6) := KK.out.2.2.2.2.trans (hb6.mono KK.out.2.2.2.2.size)
      clear hb6 KK
      go_wp2_with (refine wpList_store_blk rfl 30 _ _ rfl g1 (bys (pubL (pre20 I q) seed k)) z32 30 rfl rfl V2.out H24.out HLZ.out (bys_one' _) ?_)
      refine bodyPost_ret (v := .tuple #[.agg (bys (pubL (pre20 I q) seed k)).toArray, .int .i64 0]) ?_ rfl ?_
      · exact ret_blk2 rfl _ _ g1 30 _ _ rfl rfl V2.out.setRow 32 5 tu24 H24.out
      · exact ⟨rfl, below_setRow' VB.out (by omega) _⟩
end Go.Proofs.YtllncnnigjgadaaGreat

namespace Go.Proofs.YtllncnnigjgadaaGreat
open Go.RowKit

end Go.Proofs.YtllncnnigjgadaaGreat
