/-
  The law LmsBeside, walked: it answers true for every tree, every leaf's number and every text.
-/
import Derived.Test.YtnemkefmlffigaaLE
import Derived.Stop.BytesEq
namespace Go.Proofs.Ytnemkefmlffigaa
open Go.RowKit

set_option maxRecDepth 100000 in
set_option maxHeartbeats 2000000 in
theorem knotT_yes (I seed : List UInt8) (k h n r : Nat) (w : World) (hI : I.length = 16) (hs : seed.length = 32) (hk : Wd k) (hh : Ht h) (hn : n ≤ h) (h1 : 2 ^ (h - n) ≤ r) (h2 : r < 2 * 2 ^ (h - n)) : Calls Try.prog 17 #[.agg (tcs I seed (k : Int) (h : Int)).toArray, .int .i64 (r : Int)] w (TwoD (.agg (bys (knt I seed k (2 ^ h) n r)).toArray) (.int .i64 0) w) := by
  have HI := Lib.hid hI
  have HS := Lib.hid hs
  have HK := Lib.hid hk
  have HH := Lib.hid hh
  have HZ := Lib.hid (tcs_z I seed (k : Int) (h : Int) hI hs)
  have HY := Lib.hid (tcs_y I seed (k : Int) (h : Int) hI hs)
  have HT : Hid ((Try.prog.info? 34).map (·.size) = some (tcs I seed (k : Int) (h : Int)).length) := by show _ = _; rw [tcs_length I seed _ _ hI hs]; exact sTree
  obtain ⟨dT, huT, hdT⟩ := rowTree
  have HU := Lib.hid huT
  have HD := Lib.hid hdT
  obtain ⟨d74, hu74, hd74⟩ := row74
  have HU7 := Lib.hid hu74
  have HD7 := Lib.hid hd74
  have hp : 2 ^ (h - n) ≤ 2 ^ h := Nat.pow_le_pow_right (by omega) (by omega)
  have hp0 : 1 ≤ 2 ^ (h - n) := Nat.pow_pos (by omega)
  have hp32 : 2 ^ h ≤ 32 := by rcases hh with rfl | rfl | rfl | rfl | rfl <;> decide
  have HN := Lib.hid hn
  have HR1 := Lib.hid h1
  have HR2 := Lib.hid h2
  obtain ⟨L, hL⟩ : ∃ L, 2 ^ h = L := ⟨_, rfl⟩
  have HLE := Lib.hid hL
  rw [hL] at hp hp32
  have zr1 : decide ((r : Int) < 1) = false := decide_eq_false (by omega)
  obtain ⟨L2, hL2⟩ : ∃ x, 2 * L = x := ⟨_, rfl⟩
  have zL2 : 2 * (L : Int) = (L2 : Int) := by omega
  have zr2 : ¬ ((L2 : Int) ≤ (r : Int)) := by omega
  have hL64 : L2 ≤ 64 := by omega
  obtain ⟨X, hX⟩ : ∃ X, knt I seed k (2 ^ h) n r = X := ⟨_, rfl⟩
  have hXl : X.length = 32 := by rw [← hX]; exact knt_length _ _ _ _ _ _
  have HXE := Lib.hid hX
  rw [hX]
  have H24 : Hid ((Try.prog.info? 28).map (·.size) = some (bys X).length) := by show _ = _; rw [bys_length, hXl]; exact s24
  have HLZ : Hid (z32.length = (bys X).length) := by show _ = _; rw [bys_length, hXl, z32_length]
  clear hI hs hk hh huT hdT hu74 hd74 hn h1 h2 hp hp0 hL hX hXl hL2
  go_enter Try.func17, Try.ntmps17
  go_wp2_with (refine wpList_box_blk rfl 34 _ rfl (tcs I seed (k : Int) (h : Int)) rfl ?_)
  intro w1 a1 a2 a3
  have A1 := Lib.hid a1
  have A3 := Lib.hid a3
  have A2 := Lib.hid a2
  clear a1 a2 a3
  go_wp2_with (refine wpList_alloc_blk rfl 28 rfl _ z24 ?_)
  intro w2 a1 a2 a3
  obtain ⟨g0, hg0⟩ : ∃ g, w.heap.size = g := ⟨_, rfl⟩
  obtain ⟨g4, hg4⟩ : ∃ g, w1.heap.size = g := ⟨_, rfl⟩
  have hs1 := A2.out
  have G1 : Hid (Blk w2 g0 (tcs I seed (k : Int) (h : Int)) 34) := by rw [← hg0]; exact A1.out.below a3 (by omega)
  have G4 : Hid (Blk w2 g4 z32 28) := by rw [← hg4]; exact a1
  have GB : Hid (Below w.heap.size w w2) := A3.out.trans (a3.mono (by omega))
  have cz := (G1.out.cell 48).trans HZ.out
  have cy := (G1.out.cell 49).trans HY.out
  have hw4 : w.heap.size ≤ g4 := by omega
  have hg04 : g0 < g4 := by omega
  rw [hg0, hg4]
  clear a1 a2 a3 A1 A2 A3 hs1 hg0 hg4
  go_wp2
  refine wp_scope_goto 0 rfl ?_
  go_wp2_with fail
  refine (lshape_yes k h _ HK.out HH.out).mono ?_
  rintro e w3 ⟨rfl, hb⟩
  have E1 : Hid (Blk w3 g0 (tcs I seed (k : Int) (h : Int)) 34) := G1.out.below hb G1.out.lt
  have E4 : Hid (Blk w3 g4 z32 28) := G4.out.below hb G4.out.lt
  have EB : Hid (Below w.heap.size w w3) := GB.out.trans (hb.mono GB.out.size)
  have hs3 : g4 < w3.heap.size := E4.out.lt
  clear hb GB G1 G4 cz cy
  go_wp2_with (first | (refine wpList_alloc_blk rfl 74 rfl _ zi74 ?_))
  intro w4 a1 a2 a3
  obtain ⟨g6, hg6⟩ : ∃ g, w3.heap.size = g := ⟨_, rfl⟩
  rw [hg6] at a1 a2 a3 hs3 ⊢
  have A1 := Lib.hid a1
  obtain ⟨t4, ht4⟩ : ∃ t, w4.setRow g6 (shl k h).toArray = t := ⟨_, rfl⟩
  have F1 : Hid (Blk t4 g0 (tcs I seed (k : Int) (h : Int)) 34) := by rw [← ht4]; exact (E1.out.below a3 (by omega)).setRowOther (by omega)
  have F4 : Hid (Blk t4 g4 z32 28) := by rw [← ht4]; exact (E4.out.below a3 (by omega)).setRowOther (by omega)
  have F6 : Hid (Blk t4 g6 (shl k h) 74) := by rw [← ht4]; exact a1.setRow
  have FB : Hid (Below w.heap.size w t4) := by rw [← ht4]; exact below_setRow' (EB.out.trans (a3.mono (by omega))) (by omega) _
  clear a1 a2 a3 E1 E4 EB hg6
  go_wp2_with (first | (refine wpList_store_blk rfl 74 _ _ rfl g6 (shl k h) shl0 74 rfl rfl A1.out s74 rfl (shl_one k h) ?_; rw [ht4]; clear ht4) | (refine wpList_load_blkUG 74 _ rfl g6 rfl (shl k h) 74 F6.out d74 HU7.out HD7.out s74 (by rfl) ?_))
  refine (leavesL_any k h _ HH.out).mono ?_
  rintro e w5 ⟨rfl, hb⟩
  rw [HLE.out]
  have I1 : Hid (Blk w5 g0 (tcs I seed (k : Int) (h : Int)) 34) := F1.out.below hb F1.out.lt
  have I4 : Hid (Blk w5 g4 z32 28) := F4.out.below hb F4.out.lt
  have IB : Hid (Below w.heap.size w w5) := FB.out.trans (hb.mono FB.out.size)
  clear hb F1 F4 F6 FB A1
  go_wp2_with (refine wpList_load_blkU rfl 34 _ rfl g0 rfl (tcs I seed (k : Int) (h : Int)) 34 I1.out dT HU.out HD.out HT.out ?_)
  refine (hashes_any I seed k h _ HI.out HS.out HH.out).mono ?_
  rintro e w6 ⟨fv, rfl, hsh, hb⟩
  obtain ⟨u0, u1, u2, hv, hG⟩ := hsh.split
  subst hv
  have GG := Lib.hid hG
  have J4 : Hid (Blk w6 g4 z32 28) := I4.out.below hb I4.out.lt
  have JB : Hid (Below w.heap.size w w6) := IB.out.trans (hb.mono IB.out.size)
  clear hb hsh hG I1 I4 IB
  go_wp2_with fail
  refine (GG.out.node HI.out HS.out HK.out HH.out n r HN.out HR1.out HR2.out).mono ?_
  rintro e w7 ⟨rfl, hb⟩
  rw [HXE.out]
  have M4 : Hid (Blk w7 g4 z32 28) := J4.out.below hb J4.out.lt
  have MB : Hid (Below w.heap.size w w7) := JB.out.trans (hb.mono JB.out.size)
  clear hb GG J4 JB
  go_wp2_with (refine wpList_store_blk rfl 28 _ _ rfl g4 (bys X) z32 28 rfl rfl M4.out H24.out HLZ.out (bys_one' _) ?_)
  rw [jump_ret]
  refine bodyPost_ret (v := .tuple #[.agg (bys X).toArray, .int .i64 0]) ?_ rfl ?_
  · exact ret_blk2 rfl _ _ g4 28 _ _ rfl rfl M4.out.setRow 32 5 tu24 H24.out
  · exact ⟨rfl, below_setRow' MB.out hw4 _⟩

set_option maxRecDepth 100000 in
set_option maxHeartbeats 400000 in
theorem beside_high (I seed text : List UInt8) (z y q : Int) (tv : Value) (w : World) (hI : I.length = 16) (hs : seed.length = 32) (ht : Rd w.heap.size w tv text) (hh : (3 ≤ y ∧ y ≤ 5) ∨ 2000 < text.length) : Calls Try.prog 5 #[.agg (tcs I seed z y).toArray, .int .i64 q, tv] w (One (.bool true) w) := by
  obtain ⟨At, ct, rfl, hct, hmt⟩ := ht.shape
  unfold maxLen at hmt
  obtain ⟨n, hn⟩ : ∃ n, text.length = n := ⟨_, rfl⟩
  rw [hn] at hh hct ⊢
  have HI := Lib.hid hI
  have HS := Lib.hid hs
  have HT : Hid ((Try.prog.info? 34).map (·.size) = some (tcs I seed z y).length) := by show _ = _; rw [tcs_length I seed _ _ hI hs]; exact sTree
  obtain ⟨dT, huT, hdT⟩ := rowTree
  have HU := Lib.hid huT
  have HD := Lib.hid hdT
  clear ht hn hI hs huT hdT
  go_enter Try.func5, Try.ntmps5
  go_wp2_with (refine wpList_box_blk rfl 34 _ rfl (tcs I seed z y) rfl ?_)
  intro w1 a1 a2 a3
  have A1 := Lib.hid a1
  have A3 := Lib.hid a3
  clear a1 a2 a3
  go_wp2_with (refine wpList_load_blkU rfl 34 _ rfl w.heap.size rfl (tcs I seed z y) 34 A1.out dT HU.out HD.out HT.out ?_)
  by_cases hy : 3 ≤ y ∧ y ≤ 5
  · refine (low_no I seed z y _ HI.out HS.out hy.1 hy.2).mono ?_
    rintro e w2 ⟨rfl, hb⟩
    have B3 : Hid (Below w.heap.size w w2) := A3.out.trans (hb.mono A3.out.size)
    clear hb A1 A3 hh hy
    go_wp2_with fail
    refine (alive5_any _).mono ?_
    rintro e w3 ⟨rfl, hb⟩
    have C3 : Hid (Below w.heap.size w w3) := B3.out.trans (hb.mono B3.out.size)
    clear hb B3
    go_wp2
    go_ret
    exact ⟨rfl, C3.out⟩
  · refine (low_yes I seed z y _ HI.out HS.out (by omega)).mono ?_
    rintro e w2 ⟨rfl, hb⟩
    have B3 : Hid (Below w.heap.size w w2) := A3.out.trans (hb.mono A3.out.size)
    have zn : (2000 : Int) < (n : Int) := by omega
    clear hb A1 A3 hh hy
    go_wp2_with fail
    refine (alive5_any _).mono ?_
    rintro e w3 ⟨rfl, hb⟩
    have C3 : Hid (Below w.heap.size w w3) := B3.out.trans (hb.mono B3.out.size)
    clear hb B3
    go_wp2
    go_ret
    exact ⟨rfl, C3.out⟩

set_option maxRecDepth 100000 in
set_option maxHeartbeats 400000 in
theorem beside_no (I seed text : List UInt8) (z y q : Int) (tv : Value) (w : World) (hI : I.length = 16) (hs : seed.length = 32) (ht : Rd w.heap.size w tv text) (hy : y < 3 ∨ 5 < y) (hl : text.length ≤ 2000) (hn : NoT z y) : Calls Try.prog 5 #[.agg (tcs I seed z y).toArray, .int .i64 q, tv] w (One (.bool true) w) := by
  obtain ⟨At, ct, rfl, hct, hmt⟩ := ht.shape
  unfold maxLen at hmt
  obtain ⟨n, hn2⟩ : ∃ n, text.length = n := ⟨_, rfl⟩
  rw [hn2] at hl hct ⊢
  have HI := Lib.hid hI
  have HS := Lib.hid hs
  have HY := Lib.hid hy
  have HN := Lib.hid hn
  have zn : ¬ ((2000 : Int) < (n : Int)) := by omega
  have HT : Hid ((Try.prog.info? 34).map (·.size) = some (tcs I seed z y).length) := by show _ = _; rw [tcs_length I seed _ _ hI hs]; exact sTree
  obtain ⟨dT, huT, hdT⟩ := rowTree
  have HU := Lib.hid huT
  have HD := Lib.hid hdT
  clear ht hn2 hI hs huT hdT hy hn
  go_enter Try.func5, Try.ntmps5
  go_wp2_with (refine wpList_box_blk rfl 34 _ rfl (tcs I seed z y) rfl ?_)
  intro w1 a1 a2 a3
  obtain ⟨g0, hg0⟩ : ∃ g, w.heap.size = g := ⟨_, rfl⟩
  have A1 : Hid (Blk w1 g0 (tcs I seed z y) 34) := by rw [← hg0]; exact a1
  have A3 := Lib.hid a3
  rw [hg0]
  clear a1 a2 a3 hg0
  go_wp2_with (refine wpList_load_blkU rfl 34 _ rfl g0 rfl (tcs I seed z y) 34 A1.out dT HU.out HD.out HT.out ?_)
  refine (low_yes I seed z y _ HI.out HS.out HY.out).mono ?_
  rintro e w2 ⟨rfl, hb⟩
  have B1 : Hid (Blk w2 g0 (tcs I seed z y) 34) := A1.out.below hb A1.out.lt
  have B3 : Hid (Below w.heap.size w w2) := A3.out.trans (hb.mono A3.out.size)
  clear hb A1 A3
  go_wp2_with (refine wpList_load_blkU rfl 34 _ rfl g0 rfl (tcs I seed z y) 34 B1.out dT HU.out HD.out HT.out ?_)
  refine (signT_no I seed z y q _ _ HI.out HS.out HN.out).mono ?_
  rintro e w4 ⟨rfl, hb⟩
  have D1 : Hid (Blk w4 g0 (tcs I seed z y) 34) := B1.out.below hb B1.out.lt
  have D3 : Hid (Below w.heap.size w w4) := B3.out.trans (hb.mono B3.out.size)
  clear hb B1 B3
  go_wp2_with (refine wpList_load_blkU rfl 34 _ rfl g0 rfl (tcs I seed z y) 34 D1.out dT HU.out HD.out HT.out ?_)
  refine (pubT_no I seed z y _ HI.out HS.out HN.out).mono ?_
  rintro e w5 ⟨rfl, hb⟩
  have E3 : Hid (Below w.heap.size w w5) := D3.out.trans (hb.mono D3.out.size)
  clear hb D1 D3
  go_wp2_with fail
  refine (alive5_any _).mono ?_
  rintro e w6 ⟨rfl, hb⟩
  have F3 : Hid (Below w.heap.size w w6) := E3.out.trans (hb.mono E3.out.size)
  clear hb E3
  go_wp2
  go_ret
  exact ⟨rfl, F3.out⟩

theorem run_sliceMid (a : Addr) (n c lo hi : Nat) (w : World) (h1 : lo < hi) (h2 : hi ≤ n) (_ : n ≤ c) : (Instr.sliceAt 24 (.slice (some a) n c) (some (.int .i64 (lo : Int))) (some (.int .i64 (hi : Int))) none).run Try.prog w = .ok (.slice (some (a.add lo)) (hi - lo) (c - lo)) w := by
  have e1 : lo ≤ hi := by omega
  have e2 : hi ≤ c := by omega
  have e3 : ¬ c = lo := by omega
  simp [Instr.sliceAt, Instr.slice, run_underlying Try.underlying24, Instr.sliceBounds, Instr.sliceBound, asIntOf, e1, e2, e3, Sem.run_bind, Result.andThen]
theorem bes_nums (h q N H32 M : Nat) (hh : h = 1 ∨ h = 2) (hq : q < 2 ^ h) (hH : 32 * h = H32) (hM : 4 + M + 4 + h * 32 = N) (hN : 32 * h + 100 ≤ N) (hN2 : N ≤ 20000) :
    ∃ L T A0 : Nat, 2 ^ h = L ∧ 2 ^ h + q = T ∧ N - H32 = A0 ∧ wrap64 ((2 : Int) ^ h) = (L : Int) ∧ (L : Int) + (q : Int) = (T : Int) ∧ wrap64 (T : Int) = (T : Int) ∧ (N : Int) - (H32 : Int) = (A0 : Int) ∧ T < 8 ∧ A0 + 32 * h = N ∧ A0 ≤ 20000 ∧ 2 ^ h ≤ T ∧ T < 2 * 2 ^ h ∧ 4 + M + 4 = A0 := by
  refine ⟨2 ^ h, 2 ^ h + q, N - H32, rfl, rfl, rfl, ?_, by omega, ?_, by omega, ?_, by omega, by omega, by omega, by omega, by omega⟩
  · have e : (2 : Int) ^ h = ((2 ^ h : Nat) : Int) := by simp
    rw [e]
    have : 2 ^ h ≤ 4 := by rcases hh with rfl | rfl <;> decide
    unfold wrap64
    omega
  · have : 2 ^ h ≤ 4 := by rcases hh with rfl | rfl <;> decide
    unfold wrap64
    omega
  · have : 2 ^ h ≤ 4 := by rcases hh with rfl | rfl <;> decide
    omega
/-- What the loop of the law keeps. -/
def BesAt (w : World) (I seed : List UInt8) (k h g0 N : Nat) (aS : Addr) (cs : Nat) (S : List UInt8) (wr : World) : Prop := Blk wr g0 (tcs I seed (k : Int) (h : Int)) 34 ∧ Rd wr.heap.size wr (.slice (some aS) N cs) S ∧ Below w.heap.size w wr
theorem BesAt.below {w : World} {I seed : List UInt8} {k h g0 N : Nat} {aS : Addr} {cs : Nat} {S : List UInt8} {wr w' : World} (H : BesAt w I seed k h g0 N aS cs S wr) (hb : Below wr.heap.size wr w') : BesAt w I seed k h g0 N aS cs S w' :=
  ⟨H.1.below hb H.1.lt, (H.2.1.below hb).more hb.size, H.2.2.trans (hb.mono H.2.2.size)⟩

set_option maxRecDepth 100000 in
set_option maxHeartbeats 2000000 in
theorem beside_yes (I seed text : List UInt8) (k h : Nat) (q : Int) (tv : Value) (w : World) (hI : I.length = 16) (hs : seed.length = 32) (ht : Rd w.heap.size w tv text) (hk : Wd k) (hh : h = 1 ∨ h = 2) (hl : text.length ≤ 2000) : Calls Try.prog 5 #[.agg (tcs I seed (k : Int) (h : Int)).toArray, .int .i64 q, tv] w (One (.bool true) w) := by
  have HTX := Lib.hid ht
  have HTL : Hid (text.length ≤ 100000) := by show _ ≤ _; omega
  obtain ⟨At, ct, rfl, hct, hmt⟩ := ht.shape
  unfold maxLen at hmt
  obtain ⟨n, hn2⟩ : ∃ n, text.length = n := ⟨_, rfl⟩
  rw [hn2] at hl hct HTX ⊢
  have HI := Lib.hid hI
  have HS := Lib.hid hs
  have HK := Lib.hid hk
  have HHT : Hid (Ht h) := by rcases hh with rfl | rfl; exact .inl rfl; exact .inr (.inl rfl)
  have HYL : Hid ((h : Int) < 3 ∨ 5 < (h : Int)) := by rcases hh with rfl | rfl <;> exact .inl (by decide)
  have zn : ¬ ((2000 : Int) < (n : Int)) := by omega
  have HT : Hid ((Try.prog.info? 34).map (·.size) = some (tcs I seed (k : Int) (h : Int)).length) := by show _ = _; rw [tcs_length I seed _ _ hI hs]; exact sTree
  have HYC := Lib.hid (tcs_y I seed (k : Int) (h : Int) hI hs)
  obtain ⟨dT, huT, hdT⟩ := rowTree
  have HU := Lib.hid huT
  have HD := Lib.hid hdT
  obtain ⟨P, hP⟩ : ∃ P, lpub I seed k h = P := ⟨_, rfl⟩
  have HPE := Lib.hid hP
  have HPL : Hid (P.length = 56) := by show _ = _; rw [← hP]; exact lpub_length _ _ _ _ hI
  obtain ⟨N, hN⟩ : ∃ N, llng k h = N := ⟨_, rfl⟩
  have HNE := Lib.hid hN
  have HHH := Lib.hid hh
  clear ht hn2 hI hs huT hdT hk hP hN hh
  go_enter Try.func5, Try.ntmps5
  go_wp2_with (refine wpList_box_blk rfl 34 _ rfl (tcs I seed (k : Int) (h : Int)) rfl ?_)
  intro w1 a1 a2 a3
  obtain ⟨g0, hg0⟩ : ∃ g, w.heap.size = g := ⟨_, rfl⟩
  have A1 : Hid (Blk w1 g0 (tcs I seed (k : Int) (h : Int)) 34) := by rw [← hg0]; exact a1
  have A3 := Lib.hid a3
  rw [hg0]
  clear a1 a2 a3 hg0
  go_wp2_with (refine wpList_load_blkU rfl 34 _ rfl g0 rfl (tcs I seed (k : Int) (h : Int)) 34 A1.out dT HU.out HD.out HT.out ?_)
  refine (low_yes I seed (k : Int) (h : Int) _ HI.out HS.out HYL.out).mono ?_
  rintro e w2 ⟨rfl, hb⟩
  have B1 : Hid (Blk w2 g0 (tcs I seed (k : Int) (h : Int)) 34) := A1.out.below hb A1.out.lt
  have B3 : Hid (Below w.heap.size w w2) := A3.out.trans (hb.mono A3.out.size)
  clear hb A1 A3
  go_wp2_with (refine wpList_load_blkU rfl 34 _ rfl g0 rfl (tcs I seed (k : Int) (h : Int)) 34 B1.out dT HU.out HD.out HT.out ?_)
  by_cases hq : q < 0 ∨ ((2 ^ h : Nat) : Int) ≤ q
  · refine (signT_spent I seed k h q _ _ HI.out HS.out HK.out HHT.out hq).mono ?_
    rintro e w3 ⟨rfl, hb⟩
    have C1 : Hid (Blk w3 g0 (tcs I seed (k : Int) (h : Int)) 34) := B1.out.below hb B1.out.lt
    have C3 : Hid (Below w.heap.size w w3) := B3.out.trans (hb.mono B3.out.size)
    clear hb B1 B3 hq
    go_wp2_with (refine wpList_load_blkU rfl 34 _ rfl g0 rfl (tcs I seed (k : Int) (h : Int)) 34 C1.out dT HU.out HD.out HT.out ?_)
    refine (pubT_yes I seed k h _ HI.out HS.out HK.out HHT.out).mono ?_
    rintro e w4 ⟨v4, rfl, hown4, hb⟩
    have D3 : Hid (Below w.heap.size w w4) := C3.out.trans (hb.mono C3.out.size)
    clear hb C1 C3 hown4
    go_wp2_with fail
    refine (alive5_any _).mono ?_
    rintro e w5 ⟨rfl, hb⟩
    have E3 : Hid (Below w.heap.size w w5) := D3.out.trans (hb.mono D3.out.size)
    clear hb D3
    go_wp2
    go_ret
    exact ⟨rfl, E3.out⟩
  · obtain ⟨q, rfl⟩ : ∃ m : Nat, q = (m : Int) := ⟨q.toNat, by omega⟩
    have hqh : q < 2 ^ h := by omega
    have HQH := Lib.hid hqh
    have HQ4 : Hid (q < 4294967296) := by show _ < _; have : 2 ^ h ≤ 4 := (by have := HHH.out; rcases this with rfl | rfl <;> decide); omega
    have hp32 : 2 ^ h ≤ 4 := by have := HHH.out; rcases this with rfl | rfl <;> decide
    obtain ⟨S, hS⟩ : ∃ S, lsig I seed text k h q = S := ⟨_, rfl⟩
    have HSE := Lib.hid hS
    have HSL : Hid (S.length = N) := by show _ = _; rw [← hS, lsig_length, HNE.out]
    have hNb : 32 * h + 100 ≤ N ∧ N ≤ 20000 := by
      have h1 : lng k ≤ 10000 := by have := mny_le k HK.out; unfold lng; omega
      have h2 : 100 ≤ lng k := by have := HK.out; rcases this with rfl | rfl | rfl | rfl <;> decide
      have h3 := HHT.out.le
      rw [← HNE.out]; unfold llng; omega
    have hh2 : h ≤ 2 := by have := HHH.out; omega
    obtain ⟨X1, hX1⟩ : ∃ X, knt I seed k (2 ^ h) h 1 = X := ⟨_, rfl⟩
    have hX1l : X1.length = 32 := by rw [← hX1]; exact knt_length _ _ _ _ _ _
    have HX1E := Lib.hid hX1
    have HX1L := Lib.hid hX1l
    have HPD : Hid (P.drop 24 = X1) := by show _ = _; rw [← HPE.out, (lpub_parts I seed k h HI.out HK.out HHT.out).2.2.2, hX1]
    have H24 : Hid ((Try.prog.info? 28).map (·.size) = some (bys X1).length) := by show _ = _; rw [bys_length, hX1l]; exact s24
    have HLZ : Hid (z32.length = (bys X1).length) := by show _ = _; rw [bys_length, hX1l, z32_length]
    clear hq hqh hS hX1 hX1l
    refine (signT_yes I seed text k h q _ _ HI.out HS.out HK.out HHT.out HQH.out ((HTX.out.below B3.out).more B3.out.size) HTL.out).mono ?_
    rintro e w3 ⟨v3, rfl, hown3, hb⟩
    rw [HSE.out] at hown3
    obtain ⟨aS, cs, hv3, hcs, hms⟩ := hown3.rd.some_ (by rw [HSL.out]; omega)
    subst hv3
    unfold maxLen at hms
    rw [HSL.out] at hown3 hcs ⊢
    have C1 : Hid (Blk w3 g0 (tcs I seed (k : Int) (h : Int)) 34) := B1.out.below hb B1.out.lt
    have CS : Hid (Rd w3.heap.size w3 (.slice (some aS) N cs) S) := hown3.rd
    have C3 : Hid (Below w.heap.size w w3) := B3.out.trans (hb.mono B3.out.size)
    clear hb B1 B3 hown3
    go_wp2_with (refine wpList_load_blkU rfl 34 _ rfl g0 rfl (tcs I seed (k : Int) (h : Int)) 34 C1.out dT HU.out HD.out HT.out ?_)
    refine (pubT_yes I seed k h _ HI.out HS.out HK.out HHT.out).mono ?_
    rintro e w4 ⟨v4, rfl, hown4, hb⟩
    rw [HPE.out] at hown4
    obtain ⟨ap, cp, hv4, hcp, hmp⟩ := hown4.rd.some_ (by rw [HPL.out]; omega)
    subst hv4
    unfold maxLen at hmp
    rw [HPL.out] at hown4 hcp ⊢
    have D1 : Hid (Blk w4 g0 (tcs I seed (k : Int) (h : Int)) 34) := C1.out.below hb C1.out.lt
    have DS : Hid (Rd w4.heap.size w4 (.slice (some aS) N cs) S) := (CS.out.below hb).more hb.size
    have DP : Hid (Rd w4.heap.size w4 (.slice (some ap) 56 cp) P) := hown4.rd
    have D3 : Hid (Below w.heap.size w w4) := C3.out.trans (hb.mono C3.out.size)
    clear hb C1 C3 CS hown4
    go_wp2_with (refine wpList_load_blkU rfl 34 _ rfl g0 rfl (tcs I seed (k : Int) (h : Int)) 34 D1.out dT HU.out HD.out HT.out ?_)
    refine calls_args (args2 := #[.agg (tcs I seed (k : Int) (h : Int)).toArray, .int .i64 ((1 : Nat) : Int)]) rfl ?_
    refine (knotT_yes I seed k h h 1 _ HI.out HS.out HK.out HHT.out (Nat.le_refl _) (by rw [Nat.sub_self]; decide) (by rw [Nat.sub_self]; decide)).mono ?_
    rintro e w5 ⟨rfl, hb⟩
    rw [HX1E.out]
    have E1 : Hid (Blk w5 g0 (tcs I seed (k : Int) (h : Int)) 34) := D1.out.below hb D1.out.lt
    have ES : Hid (Rd w5.heap.size w5 (.slice (some aS) N cs) S) := (DS.out.below hb).more hb.size
    have EP : Hid (Rd w5.heap.size w5 (.slice (some ap) 56 cp) P) := (DP.out.below hb).more hb.size
    have E3 : Hid (Below w.heap.size w w5) := D3.out.trans (hb.mono D3.out.size)
    have hl5 : g0 < w5.heap.size := E1.out.lt
    clear hb D1 DS DP D3
    go_wp2_with (refine wpList_alloc_blk rfl 28 rfl _ z24 ?_)
    intro w6 a1 a2 a3
    obtain ⟨g11, hg11⟩ : ∃ g, w5.heap.size = g := ⟨_, rfl⟩
    rw [hg11] at a1 a2 a3 hl5 ⊢
    have A11 := Lib.hid a1
    obtain ⟨t6, ht6⟩ : ∃ t, w6.setRow g11 (bys X1).toArray = t := ⟨_, rfl⟩
    have hb6 : Below w5.heap.size w5 t6 := by rw [← ht6, hg11]; exact below_setRow' a3 (Nat.le_refl _) _
    have F1 : Hid (Blk t6 g0 (tcs I seed (k : Int) (h : Int)) 34) := E1.out.below hb6 E1.out.lt
    have F11 : Hid (Blk t6 g11 (bys X1) 28) := by rw [← ht6]; exact a1.setRow
    have FS : Hid (Rd t6.heap.size t6 (.slice (some aS) N cs) S) := (ES.out.below hb6).more hb6.size
    have FP : Hid (Rd t6.heap.size t6 (.slice (some ap) 56 cp) P) := (EP.out.below hb6).more hb6.size
    have F3 : Hid (Below w.heap.size w t6) := E3.out.trans (hb6.mono E3.out.size)
    clear a1 a2 a3 hb6 hg11 E1 ES EP E3
    go_wp2_with (first | (refine wpList_store_blk rfl 28 _ _ rfl g11 (bys X1) z32 28 rfl rfl A11.out H24.out HLZ.out (bys_one' _) ?_; rw [ht6]; clear ht6))
    obtain ⟨H32, hH32⟩ : ∃ x, 32 * h = x := ⟨_, rfl⟩
    have zz32 : 32 * (h : Int) = (H32 : Int) := by omega
    have zlt : decide ((N : Int) < (H32 : Int)) = false := decide_eq_false (by omega)
    have FD : Hid (Rd t6.heap.size t6 (.slice (some ⟨ap.block, ap.off + 24, none⟩) 32 (cp - 24)) X1) := by
      have e := FP.out.drop 24 (by omega)
      rw [if_neg (by omega), HPD.out, show ap.add 24 = ⟨ap.block, ap.off + 24, none⟩ by simp [Addr.add]] at e
      exact e
    have HH32 := Lib.hid hH32
    clear hH32
    refine wp_region_rely2 23 0 (fun x => ⟨#[Value.agg (tcs I seed ↑k ↑h).toArray, Value.int IntKind.i64 ↑q, Value.slice At n ct, Value.pointer (some { block := g0, off := 0 }), undef, undef, Value.bool false, Value.slice (some aS) N cs, Value.int IntKind.i64 0, Value.slice (some ap) 56 cp, Value.int IntKind.i64 0, Value.pointer (some { block := g11, off := 0 }), Value.int IntKind.i64 0, undef, undef, undef, undef, Value.agg (tcs I seed ↑k ↑h).toArray, Value.bool true, Value.bool false, Value.bool false, Value.slice At n ct, Value.int IntKind.i64 ↑n, Value.bool (decide ((2000 : Int) < (n : Int))), Value.bool (decide ((2000 : Int) < (n : Int))), undef, Value.tuple #[Value.slice (some aS) N cs, Value.int IntKind.i64 0], Value.agg (tcs I seed ↑k ↑h).toArray, Value.int IntKind.i64 ↑q, Value.slice At n ct, Value.tuple #[Value.slice (some aS) N cs, Value.int IntKind.i64 0], Value.slice (some aS) N cs, Value.int IntKind.i64 0, Value.tuple #[Value.slice (some ap) 56 cp, Value.int IntKind.i64 0], Value.agg (tcs I seed ↑k ↑h).toArray, Value.tuple #[Value.slice (some ap) 56 cp, Value.int IntKind.i64 0], Value.slice (some ap) 56 cp, Value.int IntKind.i64 0, Value.int IntKind.i64 0, Value.bool false, Value.bool false, Value.int IntKind.i64 0, Value.bool false, Value.bool false, undef, Value.tuple #[Value.agg (bys X1).toArray, Value.int IntKind.i64 0], Value.agg (tcs I seed ↑k ↑h).toArray, Value.tuple #[Value.agg (bys X1).toArray, Value.int IntKind.i64 0], Value.agg (bys X1).toArray, Value.int IntKind.i64 0, x 0, x 1, x 2, x 3, x 4, x 5, x 6, x 7, x 8, x 9, x 10, x 11, x 12, x 13, x 14, x 15, x 16, x 17, x 18, x 19, x 20, x 21, x 22, undef, undef, undef, undef, undef, undef, undef, undef, undef, undef, undef, undef, undef, undef, undef, undef, undef, undef, undef, undef, undef, undef, undef, undef, undef, undef, undef, undef, undef, undef, undef, undef, undef, undef, undef, undef, undef, undef], []⟩) (fun jj => ([eqV (.int .i64 0), eqV (.bool false), eqV (.bool false), eqV (.slice (some ap) 56 cp), eqV (.int .i64 56), eqV (.bool false), eqV (.bool false), eqV (.bool false), eqV (.slice (some aS) N cs), eqV (.int .i64 (N : Int)), eqV (.pointer (some ⟨g0, 49, none⟩)), eqV (.int .i64 (h : Int)), eqV (.int .i64 (H32 : Int)), eqV (.bool false), eqV (.bool false), eqV (.bool false), eqV (.slice (some ap) 56 cp), eqV (.slice (some ⟨ap.block, ap.off + 24, none⟩) 32 (cp - 24)), eqV (.string ⟨X1.toArray⟩), eqV (.slice (some ⟨g11, 0, none⟩) 32 32), eqV (.string ⟨X1.toArray⟩), eqV (.bool false), eqV (.bool false)] : List (Value → World → Prop)).getD jj (fun _ _ => True)) rfl ⟨fun kk => [_, _, _, _, _, _, _, _, _, _, _, _, _, _, _, _, _, _, _, _, _, _, _].getD kk undef, rfl⟩ (by kernel_rfl) (by kernel_rfl) ?steps ?fin
    case steps =>
      refine StepsAt.val 0 (.int .i64 0) rfl (fun _ _ => rfl) rfl rfl (fun x w9 hb hd => ?_) ?_
      · first | (go_simp; done) | (go_simp; rfl)
      refine StepsAt.val 1 (.bool false) rfl (fun _ _ => rfl) rfl rfl (fun x w9 hb hd => ?_) ?_
      · have h0 : x 0 = .int .i64 0 := hd 0 (by kernel_rfl)
        rw [h0]
        first | (go_simp; done) | (go_simp; rfl)
      refine StepsAt.val 2 (.bool false) rfl (fun _ _ => rfl) rfl rfl (fun x w9 hb hd => ?_) ?_
      · have h1 : x 1 = .bool false := hd 1 (by kernel_rfl)
        rw [h1]
        first | (go_simp; done) | (go_simp; rfl)
      refine StepsAt.valG 3 (.slice (some ap) 56 cp) rfl (fun _ _ => rfl) rfl (fun x w9 hd => ?_) (fun x w9 hb hd => ?_) ?_
      · have hG : x 2 = .bool false := hd 2 (by kernel_rfl)
        simp [Region.wanted, yielded, hG]
      · first | (go_simp; done) | (go_simp; rfl)
      refine StepsAt.valG 4 (.int .i64 56) rfl (fun _ _ => rfl) rfl (fun x w9 hd => ?_) (fun x w9 hb hd => ?_) ?_
      · have hG : x 2 = .bool false := hd 2 (by kernel_rfl)
        simp [Region.wanted, yielded, hG]
      · have h3 : x 3 = .slice (some ap) 56 cp := hd 3 (by kernel_rfl)
        rw [h3]
        first | (go_simp; done) | (go_simp; rfl)
      refine StepsAt.valG 5 (.bool false) rfl (fun _ _ => rfl) rfl (fun x w9 hd => ?_) (fun x w9 hb hd => ?_) ?_
      · have hG : x 2 = .bool false := hd 2 (by kernel_rfl)
        simp [Region.wanted, yielded, hG]
      · have h4 : x 4 = .int .i64 56 := hd 4 (by kernel_rfl)
        rw [h4]
        first | (go_simp; done) | (go_simp; rfl)
      refine StepsAt.val 6 (.bool false) rfl (fun _ _ => rfl) rfl rfl (fun x w9 hb hd => ?_) ?_
      · have h2 : x 2 = .bool false := hd 2 (by kernel_rfl)
        have h5 : x 5 = .bool false := hd 5 (by kernel_rfl)
        rw [h2, h5]
        first | (go_simp; done) | (go_simp; rfl)
      refine StepsAt.val 7 (.bool false) rfl (fun _ _ => rfl) rfl rfl (fun x w9 hb hd => ?_) ?_
      · have h6 : x 6 = .bool false := hd 6 (by kernel_rfl)
        rw [h6]
        first | (go_simp; done) | (go_simp; rfl)
      refine StepsAt.valG 8 (.slice (some aS) N cs) rfl (fun _ _ => rfl) rfl (fun x w9 hd => ?_) (fun x w9 hb hd => ?_) ?_
      · have hG : x 7 = .bool false := hd 7 (by kernel_rfl)
        simp [Region.wanted, yielded, hG]
      · first | (go_simp; done) | (go_simp; rfl)
      refine StepsAt.valG 9 (.int .i64 (N : Int)) rfl (fun _ _ => rfl) rfl (fun x w9 hd => ?_) (fun x w9 hb hd => ?_) ?_
      · have hG : x 7 = .bool false := hd 7 (by kernel_rfl)
        simp [Region.wanted, yielded, hG]
      · have h8 : x 8 = .slice (some aS) N cs := hd 8 (by kernel_rfl)
        rw [h8]
        first | (go_simp; done) | (go_simp; rfl)
      refine StepsAt.valG 10 (.pointer (some ⟨g0, 49, none⟩)) rfl (fun _ _ => rfl) rfl (fun x w9 hd => ?_) (fun x w9 hb hd => ?_) ?_
      · have hG : x 7 = .bool false := hd 7 (by kernel_rfl)
        simp [Region.wanted, yielded, hG]
      · first | (go_simp; done) | (go_simp; rfl)
      refine StepsAt.valG 11 (.int .i64 (h : Int)) rfl (fun _ _ => rfl) rfl (fun x w9 hd => ?_) (fun x w9 hb hd => ?_) ?_
      · have hG : x 7 = .bool false := hd 7 (by kernel_rfl)
        simp [Region.wanted, yielded, hG]
      · have h10 : x 10 = .pointer (some ⟨g0, 49, none⟩) := hd 10 (by kernel_rfl)
        have cc := ((F1.out.below hb F1.out.lt).cell 49).trans HYC.out
        rw [h10]
        first | (go_simp; done) | (go_simp; rfl)
      refine StepsAt.valG 12 (.int .i64 (H32 : Int)) rfl (fun _ _ => rfl) rfl (fun x w9 hd => ?_) (fun x w9 hb hd => ?_) ?_
      · have hG : x 7 = .bool false := hd 7 (by kernel_rfl)
        simp [Region.wanted, yielded, hG]
      · have h11 : x 11 = .int .i64 (h : Int) := hd 11 (by kernel_rfl)
        rw [h11]
        go_simp
        exact wrap_i64 _ (by omega) (by omega)
      refine StepsAt.valG 13 (.bool false) rfl (fun _ _ => rfl) rfl (fun x w9 hd => ?_) (fun x w9 hb hd => ?_) ?_
      · have hG : x 7 = .bool false := hd 7 (by kernel_rfl)
        simp [Region.wanted, yielded, hG]
      · have h9 : x 9 = .int .i64 (N : Int) := hd 9 (by kernel_rfl)
        have h12 : x 12 = .int .i64 (H32 : Int) := hd 12 (by kernel_rfl)
        rw [h9, h12]
        first | (go_simp; done) | (go_simp; rfl) | (go_simp; omega)
      refine StepsAt.val 14 (.bool false) rfl (fun _ _ => rfl) rfl rfl (fun x w9 hb hd => ?_) ?_
      · have h7 : x 7 = .bool false := hd 7 (by kernel_rfl)
        have h13 : x 13 = .bool false := hd 13 (by kernel_rfl)
        rw [h7, h13]
        first | (go_simp; done) | (go_simp; rfl)
      refine StepsAt.val 15 (.bool false) rfl (fun _ _ => rfl) rfl rfl (fun x w9 hb hd => ?_) ?_
      · have h14 : x 14 = .bool false := hd 14 (by kernel_rfl)
        rw [h14]
        first | (go_simp; done) | (go_simp; rfl)
      refine StepsAt.valG 16 (.slice (some ap) 56 cp) rfl (fun _ _ => rfl) rfl (fun x w9 hd => ?_) (fun x w9 hb hd => ?_) ?_
      · have hG : x 15 = .bool false := hd 15 (by kernel_rfl)
        simp [Region.wanted, yielded, hG]
      · first | (go_simp; done) | (go_simp; rfl)
      refine StepsAt.valG 17 (.slice (some ⟨ap.block, ap.off + 24, none⟩) 32 (cp - 24)) rfl (fun _ _ => rfl) rfl (fun x w9 hd => ?_) (fun x w9 hb hd => ?_) ?_
      · have hG : x 15 = .bool false := hd 15 (by kernel_rfl)
        simp [Region.wanted, yielded, hG]
      · have h16 : x 16 = .slice (some ap) 56 cp := hd 16 (by kernel_rfl)
        rw [h16]
        have hs := run_sliceFromS ap 56 cp 24 w9 (by omega) hcp
        first | (go_simp; done) | (go_simp; rfl) | (go_simp; intro h0; omega)
      refine StepsAt.valG 18 (.string ⟨X1.toArray⟩) rfl (fun _ _ => rfl) rfl (fun x w9 hd => ?_) (fun x w9 hb hd => ?_) ?_
      · have hG : x 15 = .bool false := hd 15 (by kernel_rfl)
        simp [Region.wanted, yielded, hG]
      · have h17 : x 17 = .slice (some ⟨ap.block, ap.off + 24, none⟩) 32 (cp - 24) := hd 17 (by kernel_rfl)
        have hs := run_string_rd 24 9 5 Try.underlying24 Try.underlying5 Try.underlying9 (FD.out.below (hb.mono (Nat.le_refl _)))
        rw [h17]
        first | (go_simp; done) | (go_simp; rfl)
      refine StepsAt.valG 19 (.slice (some ⟨g11, 0, none⟩) 32 32) rfl (fun _ _ => rfl) rfl (fun x w9 hd => ?_) (fun x w9 hb hd => ?_) ?_
      · have hG : x 15 = .bool false := hd 15 (by kernel_rfl)
        simp [Region.wanted, yielded, hG]
      · first | (go_simp; done) | (go_simp; rfl)
      refine StepsAt.valG 20 (.string ⟨X1.toArray⟩) rfl (fun _ _ => rfl) rfl (fun x w9 hd => ?_) (fun x w9 hb hd => ?_) ?_
      · have hG : x 15 = .bool false := hd 15 (by kernel_rfl)
        simp [Region.wanted, yielded, hG]
      · have h19 : x 19 = .slice (some ⟨g11, 0, none⟩) 32 32 := hd 19 (by kernel_rfl)
        have hs := run_string_rd 24 9 5 Try.underlying24 Try.underlying5 Try.underlying9 (Rd.blk (B := w9.heap.size) 32 HX1L.out (F11.out.below hb F11.out.lt) (Nat.lt_of_lt_of_le F11.out.lt hb.size) (by omega))
        rw [h19]
        first | (go_simp; done) | (go_simp; rfl)
      refine StepsAt.valG 21 (.bool false) rfl (fun _ _ => rfl) rfl (fun x w9 hd => ?_) (fun x w9 hb hd => ?_) ?_
      · have hG : x 15 = .bool false := hd 15 (by kernel_rfl)
        simp [Region.wanted, yielded, hG]
      · have h18 : x 18 = .string ⟨X1.toArray⟩ := hd 18 (by kernel_rfl)
        have h20 : x 20 = .string ⟨X1.toArray⟩ := hd 20 (by kernel_rfl)
        rw [h18, h20]
        first | (go_simp; done) | (go_simp; rfl)
      refine StepsAt.val 22 (.bool false) rfl (fun _ _ => rfl) rfl rfl (fun x w9 hb hd => ?_) ?_
      · have h15 : x 15 = .bool false := hd 15 (by kernel_rfl)
        have h21 : x 21 = .bool false := hd 21 (by kernel_rfl)
        rw [h15, h21]
        first | (go_simp; done) | (go_simp; rfl)
      exact StepsAt.done
    case fin =>
      intro x w9 hb hd
      have h22 : x 22 = .bool false := hd 22 (by omega)
      refine AnyTill.any (S := fun _ => True) (m := 23) _ _ _ _ ?_
      refine AnyTill.done (by kernel_rfl) ?_
      refine NoPanic.normal ?_
      dsimp only
      rw [h22]
      have G1 : Hid (Blk w9 g0 (tcs I seed (k : Int) (h : Int)) 34) := F1.out.below hb F1.out.lt
      have GS : Hid (Rd w9.heap.size w9 (.slice (some aS) N cs) S) := (FS.out.below hb).more hb.size
      have G3 : Hid (Below w.heap.size w w9) := F3.out.trans (hb.mono F3.out.size)
      have cy := (G1.out.cell 49).trans HYC.out
      generalize x 0 = y0
      generalize x 1 = y1
      generalize x 2 = y2
      generalize x 3 = y3
      generalize x 4 = y4
      generalize x 5 = y5
      generalize x 6 = y6
      generalize x 7 = y7
      generalize x 8 = y8
      generalize x 9 = y9
      generalize x 10 = y10
      generalize x 11 = y11
      generalize x 12 = y12
      generalize x 13 = y13
      generalize x 14 = y14
      generalize x 15 = y15
      generalize x 16 = y16
      generalize x 17 = y17
      generalize x 18 = y18
      generalize x 19 = y19
      generalize x 20 = y20
      generalize x 21 = y21
      clear hd h22 hb F1 F11 FS FP F3 FD x A11
      go_wp2
      obtain ⟨L, T, A0, hL, hT, hA0, zw, zT, zwT, zA, hT8, hAN, hA20, hT1, hT2, hA4⟩ := bes_nums h q N H32 (lng k) HHH.out HQH.out HH32.out HNE.out hNb.1 hNb.2
      have HLE := Lib.hid hL
      have HTE := Lib.hid hT
      have HAN := Lib.hid hAN
      have HT1 := Lib.hid hT1
      have HT2 := Lib.hid hT2
      have HDB : Hid (S.drop A0 = sbl I seed k (2 ^ h) 0 h T) := by
        show _ = _
        have hp := (lsig_parts I seed text k h q HK.out HHT.out HQ4.out).2.2.2.2
        rw [HSE.out, List.drop_drop, hT, hA4] at hp
        exact hp
      have K0 : Hid (BesAt w I seed k h g0 N aS cs S w9) := ⟨G1.out, GS.out, G3.out⟩
      simp only [zw, zT, zwT, zA]
      clear hL hT hA0 hAN hT1 hT2 hA4 hp32 G1 GS G3 zw zT zwT zA cy
      go_loopw [13, 14] (fun at_ r wr => ∃ j R A : Nat, j ≤ h ∧ r = .int .i64 (R : Int) ∧ at_ = .int .i64 (A : Int) ∧ R < 8 ∧ A ≤ 30000 ∧ Hid (A = A0 + 32 * j) ∧ Hid (R = T / 2 ^ j) ∧ Hid (BesAt w I seed k h g0 N aS cs S wr)) (fun _ r _ => (intOf r).toNat)
      case atStart => exact ⟨0, T, A0, by omega, rfl, rfl, hT8, by omega, by show _ = _; omega, by show _ = _; simp, K0⟩
      case round =>
        clear K0
        obtain ⟨j, R, A, hj, rfl, rfl, hR8, hA3, HAE, HRE, KK⟩ := hrel
        by_cases hj2 : j < h
        · have hRlo : 2 ^ (h - j) ≤ R := by
            rw [HRE.out, Nat.le_div_iff_mul_le (Nat.pow_pos (by omega)), ← Nat.pow_add, show h - j + j = h by omega]; exact HT1.out
          have hRhi : R < 2 * 2 ^ (h - j) := by
            rw [HRE.out, Nat.div_lt_iff_lt_mul (Nat.pow_pos (by omega)), Nat.mul_assoc, ← Nat.pow_add, show h - j + j = h by omega]; exact HT2.out
          have hp1 : 2 ≤ 2 ^ (h - j) := by
            rw [show h - j = (h - j - 1) + 1 by omega, Nat.pow_succ]
            have : 1 ≤ 2 ^ (h - j - 1) := Nat.pow_pos (by omega)
            omega
          have zi : (1 : Int) < (R : Int) := by omega
          go_wp2_with (refine wpList_load_blkU rfl 34 _ rfl g0 rfl (tcs I seed (k : Int) (h : Int)) 34 KK.out.1 dT HU.out HD.out HT.out ?_)
          obtain ⟨Sb, hSb⟩ : ∃ x, sbr R = x := ⟨_, rfl⟩
          have zx : Go.bits BinOp.xor IntKind.i64 (R : Int) 1 = (Sb : Int) := by
            rw [← hSb]
            have : R = 2 ∨ R = 3 ∨ R = 4 ∨ R = 5 ∨ R = 6 ∨ R = 7 := by omega
            rcases this with rfl | rfl | rfl | rfl | rfl | rfl <;> rfl
          have hev : 2 ^ (h - j) % 2 = 0 := by rw [show h - j = (h - j - 1) + 1 by omega, Nat.pow_succ]; omega
          have hsb1 : 2 ^ (h - j) ≤ Sb := by rw [← hSb]; unfold sbr; split <;> omega
          have hsb2 : Sb < 2 * 2 ^ (h - j) := by rw [← hSb]; unfold sbr; split <;> omega
          rw [zx]
          obtain ⟨X, hX⟩ : ∃ X, knt I seed k (2 ^ h) j Sb = X := ⟨_, rfl⟩
          have hXl : X.length = 32 := by rw [← hX]; exact knt_length _ _ _ _ _ _
          have HXE := Lib.hid hX
          have HXL := Lib.hid hXl
          have H24x : Hid ((Try.prog.info? 28).map (·.size) = some (bys X).length) := by show _ = _; rw [bys_length, hXl]; exact s24
          have HLZx : Hid (z32.length = (bys X).length) := by show _ = _; rw [bys_length, hXl, z32_length]
          have HPT : Hid ((S.drop A).take 32 = X) := by
            show _ = _
            have e1 := sbl_take I seed k (2 ^ h) h 0 T j hj2
            have e2 : S.drop A = (sbl I seed k (2 ^ h) 0 h T).drop (32 * j) := by rw [← HDB.out, List.drop_drop, HAE.out]
            have e3 : (sbl I seed k (2 ^ h) 0 h T).take (32 * (j + 1)) = (sbl I seed k (2 ^ h) 0 h T).take (32 * j) ++ X := by rw [e1, ← HRE.out, Nat.zero_add, hSb, hX]
            have hl := sbl_length I seed k (2 ^ h) h 0 T
            have e4 : ((sbl I seed k (2 ^ h) 0 h T).drop (32 * j)).take 32 = ((sbl I seed k (2 ^ h) 0 h T).take (32 * (j + 1))).drop (32 * j) := by rw [List.drop_take, show 32 * (j + 1) - 32 * j = 32 by omega]
            rw [e2, e4, e3, List.drop_append, List.drop_of_length_le (by rw [List.length_take]; omega), List.nil_append, List.length_take, hl, Nat.min_eq_left (by omega), Nat.sub_self, List.drop_zero]
          have HB1 := Lib.hid hsb1
          have HB2 := Lib.hid hsb2
          have hRn : T / 2 ^ (j + 1) = R / 2 := by rw [HRE.out, Nat.div_div_eq_div_mul, Nat.pow_succ]
          have HRN := Lib.hid hRn
          have hA32 : A + 32 ≤ N := by have := HAE.out; have := HAN.out; omega
          clear hX hXl hSb hev hsb1 hsb2 hRlo hRhi hp1 hRn zx
          refine (knotT_yes I seed k h j Sb _ HI.out HS.out HK.out HHT.out hj HB1.out HB2.out).mono ?_
          rintro e w10 ⟨rfl, hb⟩
          rw [HXE.out]
          have K1 := Lib.hid (KK.out.below hb)
          clear hb KK
          go_wp2_with (refine wpList_alloc_blk rfl 28 rfl _ z24 ?_)
          intro w11 a1 a2 a3
          obtain ⟨g15, hg15⟩ : ∃ g, w10.heap.size = g := ⟨_, rfl⟩
          rw [hg15] at a1 a2 a3 ⊢
          have A15 := Lib.hid a1
          obtain ⟨t11, ht11⟩ : ∃ t, w11.setRow g15 (bys X).toArray = t := ⟨_, rfl⟩
          have hb11 : Below w10.heap.size w10 t11 := by rw [← ht11, hg15]; exact below_setRow' a3 (Nat.le_refl _) _
          have K2 := Lib.hid (K1.out.below hb11)
          have L15 : Hid (Blk t11 g15 (bys X) 28) := by rw [← ht11]; exact a1.setRow
          clear a1 a2 a3 hb11 hg15 K1
          go_wp2_with (first | (refine wpList_store_blk rfl 28 _ _ rfl g15 (bys X) z32 28 rfl rfl A15.out H24x.out HLZx.out (bys_one' _) ?_; rw [ht11]; clear ht11))
          obtain ⟨A32, hA32e⟩ : ∃ x, A + 32 = x := ⟨_, rfl⟩
          have zA32 : (A : Int) + 32 = (A32 : Int) := by omega
          have hA33 : A32 ≤ 20000 := by omega
          have KD : Hid (Rd t11.heap.size t11 (.slice (some (aS.add A)) 32 (cs - A)) X) := by
            have e := K2.out.2.1.drop A (by omega)
            rw [if_neg (by omega)] at e
            have e := e.take 32 (by omega)
            rw [HPT.out] at e
            exact e
          refine wp_region_rely2 13 0 (fun x => ⟨#[Value.agg (tcs I seed ↑k ↑h).toArray, Value.int IntKind.i64 ↑q, Value.slice At n ct, Value.pointer (some { block := g0, off := 0 }), undef, undef, u6, Value.slice (some aS) N cs, Value.int IntKind.i64 0, Value.slice (some ap) 56 cp, Value.int IntKind.i64 0, Value.pointer (some { block := g11, off := 0 }), Value.int IntKind.i64 0, Value.int IntKind.i64 ↑A, Value.int IntKind.i64 ↑R, Value.pointer (some { block := g15, off := 0 }), Value.int IntKind.i64 0, Value.agg (tcs I seed ↑k ↑h).toArray, Value.bool true, Value.bool false, Value.bool false, Value.slice At n ct, Value.int IntKind.i64 ↑n, Value.bool (decide ((2000 : Int) < (n : Int))), Value.bool (decide ((2000 : Int) < (n : Int))), undef, Value.tuple #[Value.slice (some aS) N cs, Value.int IntKind.i64 0], Value.agg (tcs I seed ↑k ↑h).toArray, Value.int IntKind.i64 ↑q, Value.slice At n ct, Value.tuple #[Value.slice (some aS) N cs, Value.int IntKind.i64 0], Value.slice (some aS) N cs, Value.int IntKind.i64 0, Value.tuple #[Value.slice (some ap) 56 cp, Value.int IntKind.i64 0], Value.agg (tcs I seed ↑k ↑h).toArray, Value.tuple #[Value.slice (some ap) 56 cp, Value.int IntKind.i64 0], Value.slice (some ap) 56 cp, Value.int IntKind.i64 0, Value.int IntKind.i64 0, Value.bool false, Value.bool false, Value.int IntKind.i64 0, Value.bool false, Value.bool false, undef, Value.tuple #[Value.agg (bys X1).toArray, Value.int IntKind.i64 0], Value.agg (tcs I seed ↑k ↑h).toArray, Value.tuple #[Value.agg (bys X1).toArray, Value.int IntKind.i64 0], Value.agg (bys X1).toArray, Value.int IntKind.i64 0, y0, y1, y2, y3, y4, y5, y6, y7, y8, y9, y10, y11, y12, y13, y14, y15, y16, y17, y18, y19, y20, y21, Value.bool false, Value.slice (some aS) N cs, Value.int IntKind.i64 ↑N, Value.pointer (some { block := g0, off := 49 }), Value.int IntKind.i64 ↑h, Value.int IntKind.i64 ↑H32, Value.int IntKind.i64 ↑A0, Value.pointer (some { block := g0, off := 49 }), Value.int IntKind.i64 ↑h, Value.int IntKind.i64 ↑L, Value.int IntKind.i64 ↑q, Value.int IntKind.i64 ↑T, Value.int IntKind.i64 ↑R, Value.bool true, u86, u87, Value.tuple #[Value.agg (bys X).toArray, Value.int IntKind.i64 0], Value.agg (tcs I seed ↑k ↑h).toArray, Value.int IntKind.i64 ↑R, Value.int IntKind.i64 ↑Sb, Value.tuple #[Value.agg (bys X).toArray, Value.int IntKind.i64 0], Value.agg (bys X).toArray, Value.int IntKind.i64 0, x 0, x 1, x 2, x 3, x 4, x 5, x 6, x 7, x 8, x 9, x 10, x 11, x 12, u108, u109, undef], []⟩) (fun jj => ([eqV (.int .i64 0), eqV (.bool false), eqV (.bool false), eqV (.slice (some aS) N cs), eqV (.int .i64 (A : Int)), eqV (.int .i64 (A : Int)), eqV (.int .i64 (A32 : Int)), eqV (.slice (some (aS.add A)) 32 (cs - A)), eqV (.string ⟨X.toArray⟩), eqV (.slice (some ⟨g15, 0, none⟩) 32 32), eqV (.string ⟨X.toArray⟩), eqV (.bool false), eqV (.bool false)] : List (Value → World → Prop)).getD jj (fun _ _ => True)) rfl ⟨fun kk => [_, _, _, _, _, _, _, _, _, _, _, _, _].getD kk undef, rfl⟩ (by kernel_rfl) (by kernel_rfl) ?steps ?fin
          case steps =>
            refine StepsAt.val 0 (.int .i64 0) rfl (fun _ _ => rfl) rfl rfl (fun x w12 hb hd => ?_) ?_
            · first | (go_simp; done) | (go_simp; rfl)
            refine StepsAt.val 1 (.bool false) rfl (fun _ _ => rfl) rfl rfl (fun x w12 hb hd => ?_) ?_
            · have h0 : x 0 = .int .i64 0 := hd 0 (by kernel_rfl)
              rw [h0]
              first | (go_simp; done) | (go_simp; rfl)
            refine StepsAt.val 2 (.bool false) rfl (fun _ _ => rfl) rfl rfl (fun x w12 hb hd => ?_) ?_
            · have h1 : x 1 = .bool false := hd 1 (by kernel_rfl)
              rw [h1]
              first | (go_simp; done) | (go_simp; rfl)
            refine StepsAt.valG 3 (.slice (some aS) N cs) rfl (fun _ _ => rfl) rfl (fun x w12 hd => ?_) (fun x w12 hb hd => ?_) ?_
            · have hG : x 2 = .bool false := hd 2 (by kernel_rfl)
              simp [Region.wanted, yielded, hG]
            · first | (go_simp; done) | (go_simp; rfl)
            refine StepsAt.valG 4 (.int .i64 (A : Int)) rfl (fun _ _ => rfl) rfl (fun x w12 hd => ?_) (fun x w12 hb hd => ?_) ?_
            · have hG : x 2 = .bool false := hd 2 (by kernel_rfl)
              simp [Region.wanted, yielded, hG]
            · first | (go_simp; done) | (go_simp; rfl)
            refine StepsAt.valG 5 (.int .i64 (A : Int)) rfl (fun _ _ => rfl) rfl (fun x w12 hd => ?_) (fun x w12 hb hd => ?_) ?_
            · have hG : x 2 = .bool false := hd 2 (by kernel_rfl)
              simp [Region.wanted, yielded, hG]
            · first | (go_simp; done) | (go_simp; rfl)
            refine StepsAt.valG 6 (.int .i64 (A32 : Int)) rfl (fun _ _ => rfl) rfl (fun x w12 hd => ?_) (fun x w12 hb hd => ?_) ?_
            · have hG : x 2 = .bool false := hd 2 (by kernel_rfl)
              simp [Region.wanted, yielded, hG]
            · have h5 : x 5 = .int .i64 (A : Int) := hd 5 (by kernel_rfl)
              rw [h5]
              go_simp
              first | done | exact wrap_i64 _ (by omega) (by omega)
            refine StepsAt.valG 7 (.slice (some (aS.add A)) 32 (cs - A)) rfl (fun _ _ => rfl) rfl (fun x w12 hd => ?_) (fun x w12 hb hd => ?_) ?_
            · have hG : x 2 = .bool false := hd 2 (by kernel_rfl)
              simp [Region.wanted, yielded, hG]
            · have h3 : x 3 = .slice (some aS) N cs := hd 3 (by kernel_rfl)
              have h4 : x 4 = .int .i64 (A : Int) := hd 4 (by kernel_rfl)
              have h6 : x 6 = .int .i64 (A32 : Int) := hd 6 (by kernel_rfl)
              rw [h3, h4, h6]
              have e1 : A ≤ A32 := by omega
              have e2 : A32 ≤ cs := by omega
              have e3 : ¬ cs = A := by omega
              have e4 : A32 - A = 32 := by omega
              have hs := run_sliceMid aS N cs A A32 w12 (by omega) (by omega) hcs
              rw [e4] at hs
              first | (go_simp; done) | (go_simp; rfl)
            refine StepsAt.valG 8 (.string ⟨X.toArray⟩) rfl (fun _ _ => rfl) rfl (fun x w12 hd => ?_) (fun x w12 hb hd => ?_) ?_
            · have hG : x 2 = .bool false := hd 2 (by kernel_rfl)
              simp [Region.wanted, yielded, hG]
            · have h7 : x 7 = .slice (some (aS.add A)) 32 (cs - A) := hd 7 (by kernel_rfl)
              have hs := run_string_rd 24 9 5 Try.underlying24 Try.underlying5 Try.underlying9 (KD.out.below hb)
              rw [h7]
              first | (go_simp; done) | (go_simp; rfl)
            refine StepsAt.valG 9 (.slice (some ⟨g15, 0, none⟩) 32 32) rfl (fun _ _ => rfl) rfl (fun x w12 hd => ?_) (fun x w12 hb hd => ?_) ?_
            · have hG : x 2 = .bool false := hd 2 (by kernel_rfl)
              simp [Region.wanted, yielded, hG]
            · first | (go_simp; done) | (go_simp; rfl)
            refine StepsAt.valG 10 (.string ⟨X.toArray⟩) rfl (fun _ _ => rfl) rfl (fun x w12 hd => ?_) (fun x w12 hb hd => ?_) ?_
            · have hG : x 2 = .bool false := hd 2 (by kernel_rfl)
              simp [Region.wanted, yielded, hG]
            · have h9 : x 9 = .slice (some ⟨g15, 0, none⟩) 32 32 := hd 9 (by kernel_rfl)
              have hs := run_string_rd 24 9 5 Try.underlying24 Try.underlying5 Try.underlying9 (Rd.blk (B := w12.heap.size) 32 HXL.out (L15.out.below hb L15.out.lt) (Nat.lt_of_lt_of_le L15.out.lt hb.size) (by omega))
              rw [h9]
              first | (go_simp; done) | (go_simp; rfl)
            refine StepsAt.valG 11 (.bool false) rfl (fun _ _ => rfl) rfl (fun x w12 hd => ?_) (fun x w12 hb hd => ?_) ?_
            · have hG : x 2 = .bool false := hd 2 (by kernel_rfl)
              simp [Region.wanted, yielded, hG]
            · have h8 : x 8 = .string ⟨X.toArray⟩ := hd 8 (by kernel_rfl)
              have h10 : x 10 = .string ⟨X.toArray⟩ := hd 10 (by kernel_rfl)
              rw [h8, h10]
              first | (go_simp; done) | (go_simp; rfl)
            refine StepsAt.val 12 (.bool false) rfl (fun _ _ => rfl) rfl rfl (fun x w12 hb hd => ?_) ?_
            · have h2 : x 2 = .bool false := hd 2 (by kernel_rfl)
              have h11 : x 11 = .bool false := hd 11 (by kernel_rfl)
              rw [h2, h11]
              first | (go_simp; done) | (go_simp; rfl)
            exact StepsAt.done
          case fin =>
            intro x w12 hb hd
            have h12 : x 12 = .bool false := hd 12 (by omega)
            refine AnyTill.any (S := fun _ => True) (m := 13) _ _ _ _ ?_
            refine AnyTill.done (by kernel_rfl) ?_
            refine NoPanic.normal ?_
            dsimp only
            rw [h12]
            have K3 := Lib.hid (K2.out.below hb)
            generalize x 0 = s0
            generalize x 1 = s1
            generalize x 2 = s2
            generalize x 3 = s3
            generalize x 4 = s4
            generalize x 5 = s5
            generalize x 6 = s6
            generalize x 7 = s7
            generalize x 8 = s8
            generalize x 9 = s9
            generalize x 10 = s10
            generalize x 11 = s11
            clear hd h12 hb K2 L15 KD x A15
            obtain ⟨R2, hR2⟩ : ∃ x, R / 2 = x := ⟨_, rfl⟩
            have zq : (R : Int) / 2 = (R2 : Int) := by omega
            have zt : Int.tdiv (R : Int) 2 = (R2 : Int) := by rw [Int.tdiv_eq_ediv_of_nonneg (by omega)]; exact zq
            have HR2 : Hid (R2 = T / 2 ^ (j + 1)) := by show _ = _; rw [HRN.out, hR2]
            have hlt : R2 < R := by omega
            have HA2 : Hid (A32 = A0 + 32 * (j + 1)) := by show _ = _; have := HAE.out; omega
            clear hR2 hA32e
            go_wp2
            go_roundw
            case rel => exact ⟨j + 1, R2, A32, by omega, by go_num, by go_num, by omega, by omega, HA2, HR2, K3⟩
            case measure => simp [intOf]; omega
        · have hjh : j = h := by omega
          have hR1 : R = 1 := by
            rw [HRE.out, hjh]
            have e1 := HT1.out
            have e2 := HT2.out
            rw [Nat.div_eq_iff (Nat.pow_pos (by omega))]
            omega
          subst hR1
          go_wp2_with fail
          refine (alive5_any _).mono ?_
          rintro e w10 ⟨rfl, hb⟩
          have M3 : Hid (Below w.heap.size w w10) := KK.out.2.2.trans (hb.mono KK.out.2.2.size)
          clear hb KK
          go_wp2
          go_ret
          exact ⟨rfl, M3.out⟩

theorem beside_all (I seed : List UInt8) (z y q : Int) (tv : Value) (text : List UInt8) (w : World) (hI : I.length = 16) (hs : seed.length = 32) (ht : Rd w.heap.size w tv text) : Calls Try.prog 5 #[.agg (tcs I seed z y).toArray, .int .i64 q, tv] w (One (.bool true) w) := by
  by_cases h1 : (3 ≤ y ∧ y ≤ 5) ∨ 2000 < text.length
  · exact beside_high I seed text z y q tv w hI hs ht h1
  · rcases tree_or z y with ⟨k, h, hk, hh, rfl, rfl⟩ | hn
    · exact beside_yes I seed text k h q tv w hI hs ht hk (by have := hh.le; omega) (by omega)
    · exact beside_no I seed text z y q tv w hI hs ht (by omega) (by omega) hn
end Go.Proofs.Ytnemkefmlffigaa
