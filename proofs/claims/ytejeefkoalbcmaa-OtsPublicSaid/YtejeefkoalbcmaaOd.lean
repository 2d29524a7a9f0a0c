/-
  The law OtsGoesOn, walked: it answers true for every input.
-/
import Derived.Test.YtejeefkoalbcmaaOc
namespace Go.Proofs.Ytejeefkoalbcmaa
open Go.RowKit

theorem ChainIs.code {I seed y : List UInt8} {q : Nat} {z i a b : Int} {r : List UInt8} {e : Int} (h : ChainIs I seed q z i a b y r e) : e = 0 ∨ e = 1 := by
  cases h with
  | yes => exact .inl rfl
  | no => exact .inr rfl
def i4 (b0 b1 b2 b3 : Int) : List Value := [.int .i64 b0, .int .i64 b1, .int .i64 b2, .int .i64 b3]
theorem s54 : (Try.prog.info? 54).map (·.size) = some 4 := by kernel_rfl
/-- The whole array is read, where the operation's guard says so. -/
theorem wpList_load_blkG {P : Program} {w : World} {ops : Array Oper} {rest : List Oper} {o : Oper} {a : Act} {Q : Exit → Act → World → Prop} (t : TypeId) (x : Operand) (ho : o.op = .load t x) (g : Nat) (hx : a.eval x = .pointer (some ⟨g, 0, none⟩)) (cs : List Value) (u : TypeId) (hb : Blk w g cs u)
    (n : Nat) (e : TypeId) (hu : P.underlying t = some (.array n e)) (hi : (P.info? t).map (·.size) = some cs.length) (hw : Region.wanted o (yielded ops a.tmps) = true)
    (h : wpList P ops Q rest (a.put o.dst (.agg cs.toArray)) w) : wpList P ops Q (o :: rest) a w := by
  refine BigFrame.wpList_want hw (fun K hK => ?_)
  unfold Oper.wp
  rw [run_load_blk t x ho g hx cs u hb n e hu hi]
  exact hK _ _ h

set_option maxRecDepth 100000 in
set_option maxHeartbeats 2000000 in
theorem goesOn_law (I seed x : List UInt8) (q : Nat) (z b0 b1 b2 b3 : Int) (w : World) (hI : I.length = 16) (hs : seed.length = 32) (hx : x.length = 32) (hq : q < 4294967296) :
    Calls Try.prog 8 #[.agg (kcs I q seed z).toArray, .agg (i4 b0 b1 b2 b3).toArray, .agg (bys x).toArray] w (One (.bool true) w) := by
  have HI := Lib.hid hI
  have HS := Lib.hid hs
  have HX := Lib.hid hx
  have H26 : Hid ((Try.prog.info? 26).map (·.size) = some (kcs I q seed z).length) := by show _ = _; rw [kcs_length I seed q _ hI hs]; exact s26
  have HX24 : Hid ((Try.prog.info? 24).map (·.size) = some (bys x).length) := by show _ = _; rw [bys_length, hx]; exact s24
  obtain ⟨d26, hu26, hd26⟩ := row26
  have HU := Lib.hid hu26
  have HD := Lib.hid hd26
  clear hI hs hx hu26 hd26
  go_enter Try.func8, Try.ntmps8
  go_wp2_with (refine wpList_box_blk rfl 26 _ rfl (kcs I q seed z) rfl ?_)
  intro v1 a1 a2 a3
  have A1 := Lib.hid a1
  have A2 := Lib.hid a2
  have A3 := Lib.hid a3
  clear a1 a2 a3
  go_wp2_with (refine wpList_box_blk rfl 54 _ rfl (i4 b0 b1 b2 b3) rfl ?_)
  intro v2 a1 a2 a3
  rw [A2.out] at a1 a2 a3 ⊢
  have P1 : Hid (Blk v2 w.heap.size (kcs I q seed z) 26) := A1.out.below a3 (by omega)
  have P2 : Hid (Blk v2 (w.heap.size + 1) (i4 b0 b1 b2 b3) 54) := a1
  have PB : Hid (Below w.heap.size w v2) := A3.out.trans (a3.mono (by omega))
  have PS := Lib.hid a2
  clear a1 a2 a3 A1 A2 A3
  go_wp2_with (refine wpList_box_blk rfl 24 _ rfl (bys x) rfl ?_)
  intro v3 a1 a2 a3
  rw [PS.out] at a1 a2 a3 ⊢
  obtain ⟨g0, hg0⟩ : ∃ g, w.heap.size = g := ⟨_, rfl⟩
  obtain ⟨g1, hg1⟩ : ∃ g, g0 + 1 = g := ⟨_, rfl⟩
  obtain ⟨g2, hg2⟩ : ∃ g, g1 + 1 = g := ⟨_, rfl⟩
  have G1 : Hid (Blk v3 g0 (kcs I q seed z) 26) := by rw [← hg0]; exact P1.out.below a3 (by omega)
  have G2 : Hid (Blk v3 g1 (i4 b0 b1 b2 b3) 54) := by rw [← hg1, ← hg0]; exact P2.out.below a3 (by omega)
  have G3 : Hid (Blk v3 g2 (bys x) 24) := by rw [← hg2, ← hg1, ← hg0]; exact a1
  have GB : Hid (Below w.heap.size w v3) := PB.out.trans (a3.mono (by omega))
  have hwg : w.heap.size ≤ g0 := by omega
  have hg01 : g0 < g1 := by omega
  have hg12 : g1 < g2 := by omega
  rw [hg0, hg1, hg2]
  clear a1 a2 a3 P1 P2 PB PS hg0 hg1 hg2
  have c0 : v3.cell? ⟨g1, 0, none⟩ = some (.int .i64 b0) := G2.out.cell 0
  have c1 : v3.cell? ⟨g1, 1, none⟩ = some (.int .i64 b1) := G2.out.cell 1
  have c2 : v3.cell? ⟨g1, 2, none⟩ = some (.int .i64 b2) := G2.out.cell 2
  go_wp2_with (first | (refine wpList_load_blkU rfl 26 _ rfl g0 rfl (kcs I q seed z) 26 G1.out d26 HU.out HD.out H26.out ?_) | (refine wpList_load_blk rfl 24 _ rfl g2 rfl (bys x) 24 G3.out 32 5 tu24 HX24.out ?_))
  clear c0 c1 c2
  refine (chainX_any I seed x q z b0 b1 b2 _ HI.out HS.out HX.out hq).mono ?_
  rintro e u1 ⟨r1, e1, hc1, rfl, hb⟩
  have hl1 := hc1.length HX.out
  have HC1 := Lib.hid hc1
  have HL1 := Lib.hid hl1
  have H241 : Hid ((Try.prog.info? 24).map (·.size) = some (bys r1).length) := by show _ = _; rw [bys_length, hl1]; exact s24
  have HZ1 : Hid (z32.length = (bys r1).length) := by show _ = _; rw [bys_length, hl1, z32_length]
  have U1k : Hid (Blk u1 g0 (kcs I q seed z) 26) := G1.out.below hb G1.out.lt
  have U1i4 : Hid (Blk u1 g1 (i4 b0 b1 b2 b3) 54) := G2.out.below hb G2.out.lt
  have U1g2 : Hid (Blk u1 g2 (bys x) 24) := G3.out.below hb G3.out.lt
  have U1B : Hid (Below w.heap.size w u1) := GB.out.trans (hb.mono GB.out.size)
  clear hb hc1 hl1
  go_wp2_with (refine wpList_alloc_blk rfl 24 rfl _ z24 ?_)
  intro v a1 a2 a3
  obtain ⟨h1, hh⟩ : ∃ g, u1.heap.size = g := ⟨_, rfl⟩
  rw [hh] at a1 a2 a3 ⊢
  have AA := Lib.hid a1
  obtain ⟨t1, ht⟩ : ∃ t, v.setRow h1 (bys r1).toArray = t := ⟨_, rfl⟩
  have T1k : Hid (Blk t1 g0 (kcs I q seed z) 26) := by have := U1k.out.lt; rw [← ht]; exact (U1k.out.below a3 (by omega)).setRowOther (by omega)
  have T1i4 : Hid (Blk t1 g1 (i4 b0 b1 b2 b3) 54) := by have := U1i4.out.lt; rw [← ht]; exact (U1i4.out.below a3 (by omega)).setRowOther (by omega)
  have T1g2 : Hid (Blk t1 g2 (bys x) 24) := by have := U1g2.out.lt; rw [← ht]; exact (U1g2.out.below a3 (by omega)).setRowOther (by omega)
  have T1h1 : Hid (Blk t1 h1 (bys r1) 24) := by rw [← ht]; exact a1.setRow
  have T1B : Hid (Below w.heap.size w t1) := by have := U1B.out.size; rw [← ht]; exact below_setRow' (U1B.out.trans (a3.mono (by omega))) (by omega) _
  clear a1 a2 a3 U1k U1i4 U1g2 U1B hh
  have c0 : t1.cell? ⟨g1, 0, none⟩ = some (.int .i64 b0) := T1i4.out.cell 0
  have c2 : t1.cell? ⟨g1, 2, none⟩ = some (.int .i64 b2) := T1i4.out.cell 2
  have c3 : t1.cell? ⟨g1, 3, none⟩ = some (.int .i64 b3) := T1i4.out.cell 3
  go_wp2_with (first | (refine wpList_store_blk rfl 24 _ _ rfl h1 (bys r1) z32 24 rfl rfl AA.out H241.out HZ1.out (bys_one' _) ?_; rw [ht]) | (refine wpList_load_blkU rfl 26 _ rfl g0 rfl (kcs I q seed z) 26 T1k.out d26 HU.out HD.out H26.out ?_) | (refine wpList_load_blk rfl 24 _ rfl h1 rfl (bys r1) 24 T1h1.out 32 5 tu24 H241.out ?_))
  clear AA ht
  clear c0 c2 c3
  refine (chainX_any I seed r1 q z b0 b2 b3 _ HI.out HS.out HL1.out hq).mono ?_
  rintro e u2 ⟨r2, e2, hc2, rfl, hb⟩
  have hl2 := hc2.length HL1.out
  have HC2 := Lib.hid hc2
  have HL2 := Lib.hid hl2
  have H242 : Hid ((Try.prog.info? 24).map (·.size) = some (bys r2).length) := by show _ = _; rw [bys_length, hl2]; exact s24
  have HZ2 : Hid (z32.length = (bys r2).length) := by show _ = _; rw [bys_length, hl2, z32_length]
  have U2k : Hid (Blk u2 g0 (kcs I q seed z) 26) := T1k.out.below hb T1k.out.lt
  have U2i4 : Hid (Blk u2 g1 (i4 b0 b1 b2 b3) 54) := T1i4.out.below hb T1i4.out.lt
  have U2g2 : Hid (Blk u2 g2 (bys x) 24) := T1g2.out.below hb T1g2.out.lt
  have U2h1 : Hid (Blk u2 h1 (bys r1) 24) := T1h1.out.below hb T1h1.out.lt
  have U2B : Hid (Below w.heap.size w u2) := T1B.out.trans (hb.mono T1B.out.size)
  clear hb hc2 hl2
  go_wp2_with (refine wpList_alloc_blk rfl 24 rfl _ z24 ?_)
  intro v a1 a2 a3
  obtain ⟨h2, hh⟩ : ∃ g, u2.heap.size = g := ⟨_, rfl⟩
  rw [hh] at a1 a2 a3 ⊢
  have AA := Lib.hid a1
  obtain ⟨t2, ht⟩ : ∃ t, v.setRow h2 (bys r2).toArray = t := ⟨_, rfl⟩
  have T2k : Hid (Blk t2 g0 (kcs I q seed z) 26) := by have := U2k.out.lt; rw [← ht]; exact (U2k.out.below a3 (by omega)).setRowOther (by omega)
  have T2i4 : Hid (Blk t2 g1 (i4 b0 b1 b2 b3) 54) := by have := U2i4.out.lt; rw [← ht]; exact (U2i4.out.below a3 (by omega)).setRowOther (by omega)
  have T2g2 : Hid (Blk t2 g2 (bys x) 24) := by have := U2g2.out.lt; rw [← ht]; exact (U2g2.out.below a3 (by omega)).setRowOther (by omega)
  have T2h1 : Hid (Blk t2 h1 (bys r1) 24) := by have := U2h1.out.lt; rw [← ht]; exact (U2h1.out.below a3 (by omega)).setRowOther (by omega)
  have T2h2 : Hid (Blk t2 h2 (bys r2) 24) := by rw [← ht]; exact a1.setRow
  have T2B : Hid (Below w.heap.size w t2) := by have := U2B.out.size; rw [← ht]; exact below_setRow' (U2B.out.trans (a3.mono (by omega))) (by omega) _
  have hne21 : h1 < h2 := by have := U2h1.out.lt; omega
  clear a1 a2 a3 U2k U2i4 U2g2 U2h1 U2B hh
  have c0 : t2.cell? ⟨g1, 0, none⟩ = some (.int .i64 b0) := T2i4.out.cell 0
  have c1 : t2.cell? ⟨g1, 1, none⟩ = some (.int .i64 b1) := T2i4.out.cell 1
  have c3 : t2.cell? ⟨g1, 3, none⟩ = some (.int .i64 b3) := T2i4.out.cell 3
  go_wp2_with (first | (refine wpList_store_blk rfl 24 _ _ rfl h2 (bys r2) z32 24 rfl rfl AA.out H242.out HZ2.out (bys_one' _) ?_; rw [ht]) | (refine wpList_load_blkU rfl 26 _ rfl g0 rfl (kcs I q seed z) 26 T2k.out d26 HU.out HD.out H26.out ?_) | (refine wpList_load_blk rfl 24 _ rfl g2 rfl (bys x) 24 T2g2.out 32 5 tu24 HX24.out ?_))
  clear AA ht
  clear c0 c1 c3
  refine (chainX_any I seed x q z b0 b1 b3 _ HI.out HS.out HX.out hq).mono ?_
  rintro e u3 ⟨r3, e3, hc3, rfl, hb⟩
  have hl3 := hc3.length HX.out
  have HC3 := Lib.hid hc3
  have HL3 := Lib.hid hl3
  have H243 : Hid ((Try.prog.info? 24).map (·.size) = some (bys r3).length) := by show _ = _; rw [bys_length, hl3]; exact s24
  have HZ3 : Hid (z32.length = (bys r3).length) := by show _ = _; rw [bys_length, hl3, z32_length]
  have U3k : Hid (Blk u3 g0 (kcs I q seed z) 26) := T2k.out.below hb T2k.out.lt
  have U3i4 : Hid (Blk u3 g1 (i4 b0 b1 b2 b3) 54) := T2i4.out.below hb T2i4.out.lt
  have U3g2 : Hid (Blk u3 g2 (bys x) 24) := T2g2.out.below hb T2g2.out.lt
  have U3h1 : Hid (Blk u3 h1 (bys r1) 24) := T2h1.out.below hb T2h1.out.lt
  have U3h2 : Hid (Blk u3 h2 (bys r2) 24) := T2h2.out.below hb T2h2.out.lt
  have U3B : Hid (Below w.heap.size w u3) := T2B.out.trans (hb.mono T2B.out.size)
  clear hb hc3 hl3
  go_wp2_with (refine wpList_alloc_blk rfl 24 rfl _ z24 ?_)
  intro v a1 a2 a3
  obtain ⟨h3, hh⟩ : ∃ g, u3.heap.size = g := ⟨_, rfl⟩
  rw [hh] at a1 a2 a3 ⊢
  have AA := Lib.hid a1
  obtain ⟨t3, ht⟩ : ∃ t, v.setRow h3 (bys r3).toArray = t := ⟨_, rfl⟩
  have T3k : Hid (Blk t3 g0 (kcs I q seed z) 26) := by have := U3k.out.lt; rw [← ht]; exact (U3k.out.below a3 (by omega)).setRowOther (by omega)
  have T3i4 : Hid (Blk t3 g1 (i4 b0 b1 b2 b3) 54) := by have := U3i4.out.lt; rw [← ht]; exact (U3i4.out.below a3 (by omega)).setRowOther (by omega)
  have T3g2 : Hid (Blk t3 g2 (bys x) 24) := by have := U3g2.out.lt; rw [← ht]; exact (U3g2.out.below a3 (by omega)).setRowOther (by omega)
  have T3h1 : Hid (Blk t3 h1 (bys r1) 24) := by have := U3h1.out.lt; rw [← ht]; exact (U3h1.out.below a3 (by omega)).setRowOther (by omega)
  have T3h2 : Hid (Blk t3 h2 (bys r2) 24) := by have := U3h2.out.lt; rw [← ht]; exact (U3h2.out.below a3 (by omega)).setRowOther (by omega)
  have T3h3 : Hid (Blk t3 h3 (bys r3) 24) := by rw [← ht]; exact a1.setRow
  have T3B : Hid (Below w.heap.size w t3) := by have := U3B.out.size; rw [← ht]; exact below_setRow' (U3B.out.trans (a3.mono (by omega))) (by omega) _
  have hne31 : h1 < h3 := by have := U3h1.out.lt; omega
  have hne32 : h2 < h3 := by have := U3h2.out.lt; omega
  clear a1 a2 a3 U3k U3i4 U3g2 U3h1 U3h2 U3B hh
  have ze1 := HC1.out.code
  have ze2 := HC2.out.code
  by_cases hgood : e1 = 0 ∧ e2 = 0
  · obtain ⟨rfl, rfl⟩ := hgood
    obtain ⟨h30, h31, hsame⟩ := chain_goes HC1.out HC2.out rfl HC3.out
    subst h30
    subst h31
    have HSAME := Lib.hid hsame
    clear hsame ze1 ze2
    go_wp2_with (first | (refine wpList_store_blk rfl 24 _ _ rfl h3 (bys r2) z32 24 rfl rfl AA.out H243.out HZ3.out (bys_one' _) ?_; rw [ht]))
    refine (alive_any _).mono ?_
    rintro e u4 ⟨rfl, hb⟩
    have V1 : Hid (Blk u4 g1 (i4 b0 b1 b2 b3) 54) := T3i4.out.below hb T3i4.out.lt
    have V2 : Hid (Blk u4 g2 (bys x) 24) := T3g2.out.below hb T3g2.out.lt
    have V3 : Hid (Blk u4 h1 (bys r1) 24) := T3h1.out.below hb T3h1.out.lt
    have V4 : Hid (Blk u4 h2 (bys r2) 24) := T3h2.out.below hb T3h2.out.lt
    have V5 : Hid (Blk u4 h3 (bys r2) 24) := T3h3.out.below hb T3h3.out.lt
    have VB : Hid (Below w.heap.size w u4) := T3B.out.trans (hb.mono T3B.out.size)
    clear hb AA ht
    have c1 : u4.cell? ⟨g1, 1, none⟩ = some (.int .i64 b1) := V1.out.cell 1
    have c2 : u4.cell? ⟨g1, 2, none⟩ = some (.int .i64 b2) := V1.out.cell 2
    have heq := eq24 r2 HL2.out u4
    by_cases h12 : b1 = b2
    · obtain rfl := HSAME.out h12
      subst h12
      have heq2 := eq24 r1 HL1.out u4
      go_wp2_with (first | (refine wpList_load_blkG 24 _ rfl h2 rfl (bys r2) 24 V4.out 32 5 tu24 H242.out (by rfl) ?_) | (refine wpList_load_blkG 24 _ rfl h3 rfl (bys r2) 24 V5.out 32 5 tu24 H242.out (by rfl) ?_) | (refine wpList_load_blkG 24 _ rfl h1 rfl (bys r1) 24 V3.out 32 5 tu24 H241.out (by rfl) ?_) | (refine wpList_load_blkG 24 _ rfl g2 rfl (bys r1) 24 V2.out 32 5 tu24 H241.out (by rfl) ?_))
      go_ret
      exact ⟨rfl, VB.out⟩
    · have z12 : (b1 != b2) = true := by simp [h12]
      go_wp2_with (first | (refine wpList_load_blkG 24 _ rfl h2 rfl (bys r2) 24 V4.out 32 5 tu24 H242.out (by rfl) ?_) | (refine wpList_load_blkG 24 _ rfl h3 rfl (bys r2) 24 V5.out 32 5 tu24 H242.out (by rfl) ?_))
      go_ret
      exact ⟨rfl, VB.out⟩
  · by_cases he : e1 = 0
    · subst he
      obtain rfl : e2 = 1 := by omega
      clear hgood ze1 ze2
      go_wp2_with (first | (refine wpList_store_blk rfl 24 _ _ rfl h3 (bys r3) z32 24 rfl rfl AA.out H243.out HZ3.out (bys_one' _) ?_; rw [ht]))
      refine (alive_any _).mono ?_
      rintro e u4 ⟨rfl, hb⟩
      have VB : Hid (Below w.heap.size w u4) := T3B.out.trans (hb.mono T3B.out.size)
      clear hb
      go_wp2
      go_ret
      exact ⟨rfl, VB.out⟩
    · obtain rfl : e1 = 1 := by omega
      clear hgood ze1 ze2 he
      go_wp2_with (first | (refine wpList_store_blk rfl 24 _ _ rfl h3 (bys r3) z32 24 rfl rfl AA.out H243.out HZ3.out (bys_one' _) ?_; rw [ht]))
      refine (alive_any _).mono ?_
      rintro e u4 ⟨rfl, hb⟩
      have VB : Hid (Below w.heap.size w u4) := T3B.out.trans (hb.mono T3B.out.size)
      clear hb
      go_wp2
      go_ret
      exact ⟨rfl, VB.out⟩
theorem goesOn_all (I seed : List UInt8) (q : Nat) (z b0 b1 b2 b3 : Int) (x : List UInt8) (w : World) (hI : I.length = 16) (hs : seed.length = 32) (hq : q < 4294967296) (hx : x.length = 32) :
    Calls Try.prog 8 #[.agg (kcs I q seed z).toArray, .agg (i4 b0 b1 b2 b3).toArray, .agg (bys x).toArray] w (One (.bool true) w) := goesOn_law I seed x q z b0 b1 b2 b3 w hI hs hx hq
end Go.Proofs.Ytejeefkoalbcmaa
