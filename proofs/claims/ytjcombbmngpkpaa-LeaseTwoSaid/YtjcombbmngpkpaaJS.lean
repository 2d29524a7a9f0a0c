/-
  The statements on books: LeaseTurns.
-/
import Derived.Test.YtjcombbmngpkpaaJR
namespace Go.Proofs.Ytjcombbmngpkpaa
open Go.RowKit
theorem bkHasIs (t : Int) (l : List Se) (id : Int) (b : Bool) (h : hasS l id = b) (v : Value) (w : World) (hr : RdE SeK w.heap.size w v l) (hR : RightB t l) : Calls Try.prog 19 #[.agg #[.int .i64 t, v], .int .i64 id] w (One (.bool b) w) := by
  rw [← h]
  exact bkHas_any t l id v w hr hR
theorem rfHasBIs (t : Int) (l : List Se) (id : Int) (b : Bool) (h : hasS l id = b) (v : Value) (w : World) (hr : RdE SeK w.heap.size w v l) : Calls Try.prog 20 #[.agg #[.int .i64 t, v], .int .i64 id] w (One (.bool b) w) := by
  rw [← h]
  exact rfHasB_any t l id v w hr
theorem gone_len (t : Int) (l : List Se) (z : Int) : (goneS t l z).length ≤ l.length := by
  unfold goneS
  split
  · rw [List.length_map]
    exact List.length_filter_le _ _
  · exact Nat.zero_le _

set_option maxRecDepth 1000000 in
set_option maxHeartbeats 16000000 in
theorem turnsB_all (t : Int) (v : Value) (l : List Se) (id sp : Int) (w : World) (hr : RdE SeK w.heap.size w v l) (hl : l.length ≤ 5864062014805) (hi : fitI id) : Calls Try.prog 4 #[.agg #[.int .i64 t, v], .int .i64 id, .int .i64 sp] w (One (.bool true) w) := by
  have HR := Lib.hid hr
  have HLL := Lib.hid hl
  have HI := Lib.hid hi
  clear hr hl hi
  go_enter Try.func4, Try.ntmps4
  go_wp2_with (refine wpList_box_blk rfl 24 _ rfl [.int .i64 t, v] rfl ?_)
  intro y0 b1 b2 b3
  obtain ⟨gb0, hg⟩ : ∃ g, w.heap.size = g := ⟨_, rfl⟩
  have X0 := Lib.hid b1
  have EB0 := Lib.hid b3
  rw [hg] at X0 ⊢
  clear b1 b2 b3 hg
  have c_X0 := X0.out.cell 0
  have c_X0_1 := X0.out.at_ 1 _ rfl
  go_wp2_with fail
  refine (plainB_any t l v y0 ((HR.out.below EB0.out).more EB0.out.size) HLL.out).mono ?_
  rintro e W1 ⟨vp, rfl, hrd, hb⟩
  have E1 := Lib.hid hb
  clear hb c_X0 c_X0_1
  have P1_w := Lib.hid (EB0.out.trans (E1.out.mono EB0.out.size))
  have RP := Lib.hid hrd
  clear hrd
  go_wp2_with fail
  refine (rfRightB_any t l vp W1 RP.out).mono ?_
  rintro e W2 ⟨rfl, hb⟩
  have E2 := Lib.hid hb
  clear hb
  have P2_w := Lib.hid (P1_w.out.trans (E2.out.mono P1_w.out.size))
  clear P1_w
  have P2_y0 := Lib.hid (E1.out.trans (E2.out.mono E1.out.size))
  cases hG : rightS t l
  · clear hG
    go_wp2_with fail
    refine (alive10 W2).mono ?_
    rintro e W3 ⟨rfl, hb⟩
    have E3 := Lib.hid hb
    clear hb
    have P3_w := Lib.hid (P2_w.out.trans (E3.out.mono P2_w.out.size))
    clear P2_w
    have P3_y0 := Lib.hid (P2_y0.out.trans (E3.out.mono P2_y0.out.size))
    clear P2_y0
    have P3_W1 := Lib.hid (E2.out.trans (E3.out.mono E2.out.size))
    go_wp2
    go_ret
    exact ⟨rfl, P3_w.out⟩
  have HRT := Lib.hid ((rightS_iff t l).1 hG)
  have HL : Hid (l.length ≤ 50) := HRT.out.few
  clear hG
  have c_X0 := (X0.out.below P2_y0.out X0.out.lt).cell 0
  have c_X0_1 := (X0.out.below P2_y0.out X0.out.lt).at_ 1 _ rfl
  go_wp2_with fail
  refine (plainB_any t l v W2 ((HR.out.below P2_w.out).more P2_w.out.size) HLL.out).mono ?_
  rintro e va3 ⟨vw, rfl, hrd, hb⟩
  clear c_X0 c_X0_1
  have HONE := Lib.hid (book_rd t hrd)
  go_wp2_with (refine wpList_alloc_blk rfl 30 rfl [.int .i64 0, .slice none 0 0] zBK ?_)
  intro vb3 a1 a2 a3
  obtain ⟨vg3, hg⟩ : ∃ g, va3.heap.size = g := ⟨_, rfl⟩
  have AA := Lib.hid a1
  have EB := Lib.hid (hb.trans (a3.mono hb.size))
  have A3 := Lib.hid a3
  have hbg : W2.heap.size ≤ vg3 := by have := hb.size; omega
  have hgs : vg3 ≤ vb3.heap.size := by omega
  have HG := Lib.hid hg
  have RR0 := Lib.hid hrd
  rw [hg] at AA A3 RR0 ⊢
  clear a1 a2 a3 hb hg hrd
  go_wp2_with (refine wpList_store_to rfl 30 _ _ rfl vg3 [.int .i64 t, vw] [.int .i64 0, .slice none 0 0] 30 rfl rfl AA.out sBK rfl HONE.out ?_)
  intro W3 e1 e2 e3 e4
  have XW := Lib.hid e1
  have E3 := Lib.hid (EB.out.trans (e3.mono hbg))
  have RW := Lib.hid (((RR0.out.below A3.out).below e3).more (show vg3 ≤ W3.heap.size by omega))
  clear e1 e2 e3 e4 AA EB A3 hbg hgs HG RR0
  have P3_w := Lib.hid (P2_w.out.trans (E3.out.mono P2_w.out.size))
  clear P2_w
  have P3_y0 := Lib.hid (P2_y0.out.trans (E3.out.mono P2_y0.out.size))
  clear P2_y0
  have P3_W1 := Lib.hid (E2.out.trans (E3.out.mono E2.out.size))
  have c_X0 := (X0.out.below P3_y0.out X0.out.lt).cell 0
  have c_X0_1 := (X0.out.below P3_y0.out X0.out.lt).at_ 1 _ rfl
  go_wp2_with fail
  refine (bkOpen_any t l id sp v W3 ((HR.out.below P3_w.out).more P3_w.out.size) HRT.out HI.out).mono ?_
  rintro e va4 ⟨v8, rfl, hrd, hb⟩
  clear c_X0 c_X0_1
  have ONE8 := Lib.hid (book_rd t hrd)
  obtain ⟨f1, hf⟩ : ∃ q, openE l id sp = q := ⟨_, rfl⟩
  have HFf1 := Lib.hid hf
  rw [hf]
  clear hf
  obtain ⟨L1, hl⟩ : ∃ q, openS t l id sp = q := ⟨_, rfl⟩
  have HL1 := Lib.hid hl
  have RL1 := Lib.hid (right_open t l id sp HRT.out)
  rw [hl] at hrd RL1
  have LL1 : Hid (L1.length ≤ 50) := RL1.out.few
  clear hl
  go_wp2_with (refine wpList_alloc_blk rfl 24 rfl [.int .i64 0, .slice none 0 0] zBL ?_)
  intro vb4 a1 a2 a3
  obtain ⟨vg4, hg⟩ : ∃ g, va4.heap.size = g := ⟨_, rfl⟩
  have AA := Lib.hid a1
  have EB := Lib.hid (hb.trans (a3.mono hb.size))
  have A3 := Lib.hid a3
  have hbg : W3.heap.size ≤ vg4 := by have := hb.size; omega
  have hgs : vg4 ≤ vb4.heap.size := by omega
  have HG := Lib.hid hg
  have RR0 := Lib.hid hrd
  rw [hg] at AA A3 RR0 ⊢
  clear a1 a2 a3 hb hg hrd
  go_wp2_with (refine wpList_store_to rfl 24 _ _ rfl vg4 [.int .i64 t, v8] [.int .i64 0, .slice none 0 0] 24 rfl rfl AA.out sBL rfl ONE8.out ?_)
  intro W4 e1 e2 e3 e4
  have X8 := Lib.hid e1
  have E4 := Lib.hid (EB.out.trans (e3.mono hbg))
  have R8 := Lib.hid (((RR0.out.below A3.out).below e3).more (show vg4 ≤ W4.heap.size by omega))
  clear e1 e2 e3 e4 AA EB A3 hbg hgs HG RR0
  have P4_w := Lib.hid (P3_w.out.trans (E4.out.mono P3_w.out.size))
  clear P3_w
  have P4_y0 := Lib.hid (P3_y0.out.trans (E4.out.mono P3_y0.out.size))
  clear P3_y0
  have P4_W1 := Lib.hid (P3_W1.out.trans (E4.out.mono P3_W1.out.size))
  clear P3_W1
  have P4_W2 := Lib.hid (E3.out.trans (E4.out.mono E3.out.size))
  have c_XW := (XW.out.below E4.out XW.out.lt).cell 0
  have c_XW_1 := (XW.out.below E4.out XW.out.lt).at_ 1 _ rfl
  go_wp2_with fail
  refine (rfOpenB_any t l id sp vw W4 ((RW.out.below E4.out).more E4.out.size) (by have := HL.out; omega) ⟨HRT.out.lo, HRT.out.hi⟩).mono ?_
  rintro e va5 ⟨vA, rfl, hrd, hb⟩
  clear c_XW c_XW_1
  have ONEA := Lib.hid (book_rd t hrd)
  rw [HL1.out] at hrd
  rw [HFf1.out]
  go_wp2_with (refine wpList_alloc_blk rfl 30 rfl [.int .i64 0, .slice none 0 0] zBK ?_)
  intro vb5 a1 a2 a3
  obtain ⟨vg5, hg⟩ : ∃ g, va5.heap.size = g := ⟨_, rfl⟩
  have AA := Lib.hid a1
  have EB := Lib.hid (hb.trans (a3.mono hb.size))
  have A3 := Lib.hid a3
  have hbg : W4.heap.size ≤ vg5 := by have := hb.size; omega
  have hgs : vg5 ≤ vb5.heap.size := by omega
  have HG := Lib.hid hg
  have RR0 := Lib.hid hrd
  rw [hg] at AA A3 RR0 ⊢
  clear a1 a2 a3 hb hg hrd
  go_wp2_with (refine wpList_store_to rfl 30 _ _ rfl vg5 [.int .i64 t, vA] [.int .i64 0, .slice none 0 0] 30 rfl rfl AA.out sBK rfl ONEA.out ?_)
  intro W5 e1 e2 e3 e4
  have XA := Lib.hid e1
  have E5 := Lib.hid (EB.out.trans (e3.mono hbg))
  have RA := Lib.hid (((RR0.out.below A3.out).below e3).more (show vg5 ≤ W5.heap.size by omega))
  clear e1 e2 e3 e4 AA EB A3 hbg hgs HG RR0
  have P5_w := Lib.hid (P4_w.out.trans (E5.out.mono P4_w.out.size))
  clear P4_w
  have P5_y0 := Lib.hid (P4_y0.out.trans (E5.out.mono P4_y0.out.size))
  clear P4_y0
  have P5_W1 := Lib.hid (P4_W1.out.trans (E5.out.mono P4_W1.out.size))
  clear P4_W1
  have P5_W2 := Lib.hid (P4_W2.out.trans (E5.out.mono P4_W2.out.size))
  clear P4_W2
  have P5_W3 := Lib.hid (E4.out.trans (E5.out.mono E4.out.size))
  have c_X0 := (X0.out.below P5_y0.out X0.out.lt).cell 0
  have c_X0_1 := (X0.out.below P5_y0.out X0.out.lt).at_ 1 _ rfl
  go_wp2_with fail
  refine (bkTouch_any t l id v W5 ((HR.out.below P5_w.out).more P5_w.out.size) HRT.out).mono ?_
  rintro e va6 ⟨vC, rfl, hrd, hb⟩
  clear c_X0 c_X0_1
  have ONEC := Lib.hid (book_rd t hrd)
  obtain ⟨f2, hf⟩ : ∃ q, leaseE l id = q := ⟨_, rfl⟩
  have HFf2 := Lib.hid hf
  rw [hf]
  clear hf
  obtain ⟨L2, hl⟩ : ∃ q, touchS t l id = q := ⟨_, rfl⟩
  have HL2 := Lib.hid hl
  have RL2 := Lib.hid (right_touch t l id HRT.out)
  rw [hl] at hrd RL2
  have LL2 : Hid (L2.length ≤ 50) := RL2.out.few
  clear hl
  go_wp2_with (refine wpList_alloc_blk rfl 24 rfl [.int .i64 0, .slice none 0 0] zBL ?_)
  intro vb6 a1 a2 a3
  obtain ⟨vg6, hg⟩ : ∃ g, va6.heap.size = g := ⟨_, rfl⟩
  have AA := Lib.hid a1
  have EB := Lib.hid (hb.trans (a3.mono hb.size))
  have A3 := Lib.hid a3
  have hbg : W5.heap.size ≤ vg6 := by have := hb.size; omega
  have hgs : vg6 ≤ vb6.heap.size := by omega
  have HG := Lib.hid hg
  have RR0 := Lib.hid hrd
  rw [hg] at AA A3 RR0 ⊢
  clear a1 a2 a3 hb hg hrd
  go_wp2_with (refine wpList_store_to rfl 24 _ _ rfl vg6 [.int .i64 t, vC] [.int .i64 0, .slice none 0 0] 24 rfl rfl AA.out sBL rfl ONEC.out ?_)
  intro W6 e1 e2 e3 e4
  have XC := Lib.hid e1
  have E6 := Lib.hid (EB.out.trans (e3.mono hbg))
  have RC := Lib.hid (((RR0.out.below A3.out).below e3).more (show vg6 ≤ W6.heap.size by omega))
  clear e1 e2 e3 e4 AA EB A3 hbg hgs HG RR0
  have P6_w := Lib.hid (P5_w.out.trans (E6.out.mono P5_w.out.size))
  clear P5_w
  have P6_y0 := Lib.hid (P5_y0.out.trans (E6.out.mono P5_y0.out.size))
  clear P5_y0
  have P6_W1 := Lib.hid (P5_W1.out.trans (E6.out.mono P5_W1.out.size))
  clear P5_W1
  have P6_W2 := Lib.hid (P5_W2.out.trans (E6.out.mono P5_W2.out.size))
  clear P5_W2
  have P6_W3 := Lib.hid (P5_W3.out.trans (E6.out.mono P5_W3.out.size))
  clear P5_W3
  have P6_W4 := Lib.hid (E5.out.trans (E6.out.mono E5.out.size))
  have c_XW := (XW.out.below P6_W3.out XW.out.lt).cell 0
  have c_XW_1 := (XW.out.below P6_W3.out XW.out.lt).at_ 1 _ rfl
  go_wp2_with fail
  refine (rfTouchB_any t l id vw W6 ((RW.out.below P6_W3.out).more P6_W3.out.size) (by have := HL.out; omega) HRT.out).mono ?_
  rintro e va7 ⟨vE, rfl, hrd, hb⟩
  clear c_XW c_XW_1
  have ONEE := Lib.hid (book_rd t hrd)
  rw [HL2.out] at hrd
  rw [HFf2.out]
  go_wp2_with (refine wpList_alloc_blk rfl 30 rfl [.int .i64 0, .slice none 0 0] zBK ?_)
  intro vb7 a1 a2 a3
  obtain ⟨vg7, hg⟩ : ∃ g, va7.heap.size = g := ⟨_, rfl⟩
  have AA := Lib.hid a1
  have EB := Lib.hid (hb.trans (a3.mono hb.size))
  have A3 := Lib.hid a3
  have hbg : W6.heap.size ≤ vg7 := by have := hb.size; omega
  have hgs : vg7 ≤ vb7.heap.size := by omega
  have HG := Lib.hid hg
  have RR0 := Lib.hid hrd
  rw [hg] at AA A3 RR0 ⊢
  clear a1 a2 a3 hb hg hrd
  go_wp2_with (refine wpList_store_to rfl 30 _ _ rfl vg7 [.int .i64 t, vE] [.int .i64 0, .slice none 0 0] 30 rfl rfl AA.out sBK rfl ONEE.out ?_)
  intro W7 e1 e2 e3 e4
  have XE := Lib.hid e1
  have E7 := Lib.hid (EB.out.trans (e3.mono hbg))
  have RE := Lib.hid (((RR0.out.below A3.out).below e3).more (show vg7 ≤ W7.heap.size by omega))
  clear e1 e2 e3 e4 AA EB A3 hbg hgs HG RR0
  have P7_w := Lib.hid (P6_w.out.trans (E7.out.mono P6_w.out.size))
  clear P6_w
  have P7_y0 := Lib.hid (P6_y0.out.trans (E7.out.mono P6_y0.out.size))
  clear P6_y0
  have P7_W1 := Lib.hid (P6_W1.out.trans (E7.out.mono P6_W1.out.size))
  clear P6_W1
  have P7_W2 := Lib.hid (P6_W2.out.trans (E7.out.mono P6_W2.out.size))
  clear P6_W2
  have P7_W3 := Lib.hid (P6_W3.out.trans (E7.out.mono P6_W3.out.size))
  clear P6_W3
  have P7_W4 := Lib.hid (P6_W4.out.trans (E7.out.mono P6_W4.out.size))
  clear P6_W4
  have P7_W5 := Lib.hid (E6.out.trans (E7.out.mono E6.out.size))
  obtain ⟨HS, hHS⟩ : ∃ b, hasS l id = b := ⟨_, rfl⟩
  have HHS := Lib.hid hHS
  clear hHS
  have hn1 : ((f1 : Int) != (f1 : Int)) = false := by simp
  have hn2 : ((f2 : Int) != (f2 : Int)) = false := by simp
  go_wp2
  have ZX0 := Lib.hid (X0.out.below P7_y0.out X0.out.lt)
  have ZXW := Lib.hid (XW.out.below P7_W3.out XW.out.lt)
  have ZX8 := Lib.hid (X8.out.below P7_W4.out X8.out.lt)
  have ZXA := Lib.hid (XA.out.below P7_W5.out XA.out.lt)
  have ZXC := Lib.hid (XC.out.below E7.out XC.out.lt)
  have ZXE := Lib.hid XE.out
  have ZHR := Lib.hid ((HR.out.below P7_w.out).more P7_w.out.size)
  have ZRW := Lib.hid ((RW.out.below P7_W3.out).more P7_W3.out.size)
  have ZR8 := Lib.hid ((R8.out.below P7_W4.out).more P7_W4.out.size)
  have ZRA := Lib.hid ((RA.out.below P7_W5.out).more P7_W5.out.size)
  have ZRC := Lib.hid ((RC.out.below E7.out).more E7.out.size)
  have ZRE := Lib.hid RE.out
  clear hn1 hn2
  refine wp_region_rely2 31 0 (fun x => ⟨#[.agg #[Value.int IntKind.i64 t, v], .int IntKind.i64 id, .int IntKind.i64 sp, .pointer (some { block := gb0, off := 0 }), undef, undef, .bool false, .pointer (some { block := vg3, off := 0 }), .pointer (some { block := vg4, off := 0 }), .int IntKind.i64 ↑f1, .pointer (some { block := vg5, off := 0 }), .int IntKind.i64 ↑f1, .pointer (some { block := vg6, off := 0 }), .int IntKind.i64 ↑f2, .pointer (some { block := vg7, off := 0 }), .int IntKind.i64 ↑f2, undef, undef, undef, undef, undef, undef, undef, undef, undef, undef, .agg #[Value.int IntKind.i64 t, v], .agg #[Value.int IntKind.i64 t, vp], .bool true, .bool false, undef, .agg #[Value.int IntKind.i64 t, v], .agg #[Value.int IntKind.i64 t, vw], .tuple #[Value.agg #[Value.int IntKind.i64 t, v8], Value.int IntKind.i64 ↑f1], .agg #[Value.int IntKind.i64 t, v], .int IntKind.i64 id, .int IntKind.i64 sp, .tuple #[Value.agg #[Value.int IntKind.i64 t, v8], Value.int IntKind.i64 ↑f1], .agg #[Value.int IntKind.i64 t, v8], .int IntKind.i64 ↑f1, .tuple #[Value.agg #[Value.int IntKind.i64 t, vA], Value.int IntKind.i64 ↑f1], .agg #[Value.int IntKind.i64 t, vw], .int IntKind.i64 id, .int IntKind.i64 sp, .tuple #[Value.agg #[Value.int IntKind.i64 t, vA], Value.int IntKind.i64 ↑f1], .agg #[Value.int IntKind.i64 t, vA], .int IntKind.i64 ↑f1, .tuple #[Value.agg #[Value.int IntKind.i64 t, vC], Value.int IntKind.i64 ↑f2], .agg #[Value.int IntKind.i64 t, v], .int IntKind.i64 id, .tuple #[Value.agg #[Value.int IntKind.i64 t, vC], Value.int IntKind.i64 ↑f2], .agg #[Value.int IntKind.i64 t, vC], .int IntKind.i64 ↑f2, .tuple #[Value.agg #[Value.int IntKind.i64 t, vE], Value.int IntKind.i64 ↑f2], .agg #[Value.int IntKind.i64 t, vw], .int IntKind.i64 id, .tuple #[Value.agg #[Value.int IntKind.i64 t, vE], Value.int IntKind.i64 ↑f2], .agg #[Value.int IntKind.i64 t, vE], .int IntKind.i64 ↑f2, x 0, x 1, x 2, x 3, x 4, x 5, x 6, x 7, x 8, x 9, x 10, x 11, x 12, x 13, x 14, x 15, x 16, x 17, x 18, x 19, x 20, x 21, x 22, x 23, x 24, x 25, x 26, x 27, x 28, x 29, x 30, undef, undef, undef, undef, undef, undef, undef, undef, undef, undef, undef, undef, undef, undef, undef, undef, undef, undef, undef, undef, undef, undef, undef, undef, undef, undef, undef, undef, undef, undef, undef, undef, undef, undef, undef, undef, undef, undef, undef, undef, undef, undef, undef, undef, undef, undef, undef, undef, undef, undef, undef, undef, undef, undef, undef, undef, undef, undef, undef, undef], []⟩) (fun jj => ([eqV (.agg #[.int .i64 t, v8]), (PlainB t L1), eqV (.agg #[.int .i64 t, vA]), (eqV (.bool true)), eqV (.bool false), eqV (.bool false), eqV (.int IntKind.i64 ↑f1), eqV (.int IntKind.i64 ↑f1), eqV (.bool false), eqV (.bool false), eqV (.bool false), eqV (.agg #[.int .i64 t, vC]), (PlainB t L2), eqV (.agg #[.int .i64 t, vE]), (eqV (.bool true)), eqV (.bool false), eqV (.bool false), eqV (.bool false), eqV (.int IntKind.i64 ↑f2), eqV (.int IntKind.i64 ↑f2), eqV (.bool false), eqV (.bool false), eqV (.bool false), eqV (.agg #[.int .i64 t, v]), eqV (.int IntKind.i64 id), (eqV (.bool HS)), eqV (.agg #[.int .i64 t, vw]), eqV (.int IntKind.i64 id), (eqV (.bool HS)), eqV (.bool false), eqV (.bool false)] : List (Value → World → Prop)).getD jj (fun _ _ => True)) rfl ⟨fun kk => [_, _, _, _, _, _, _, _, _, _, _, _, _, _, _, _, _, _, _, _, _, _, _, _, _, _, _, _, _, _, _].getD kk undef, rfl⟩ (by kernel_rfl) (by kernel_rfl) ?steps ?fin
  case steps =>
    refine StepsAt.val 0 (.agg #[.int .i64 t, v8]) rfl (fun _ _ => rfl) rfl rfl (fun x wx hb hd => ?_) ?_
    · have cc := ((ZX8.out.below hb ZX8.out.lt).cell 0).trans (show _ = some (.int .i64 t) from rfl)
      have cd := ((ZX8.out.below hb ZX8.out.lt).at_ 1 _ (show _ = some (v8) from rfl))
      first | (go_simp; done) | (go_simp; rfl)
    refine StepsAt.cons 1 (fun _ _ _ h hb => h.keep hb) (fun _ _ => rfl) rfl rfl (fun x wx hb hd K hK => ?_) ?_
    · have h0 : Hid (x 0 = .agg #[.int .i64 t, v8]) := hd 0 (by kernel_rfl)
      go_simp
      refine calls_args (args2 := #[.agg #[.int .i64 t, v8]]) (by rw [h0.out]) ?_
      refine (plainB_any t L1 v8 _ ((ZR8.out.below hb).more hb.size) (by have := LL1.out; omega)).mono ?_
      rintro e w99 ⟨v99, rfl, hrd, hb99⟩
      exact hK.out _ _ hb99 ⟨v99, rfl, hrd⟩
    refine StepsAt.val 2 (.agg #[.int .i64 t, vA]) rfl (fun _ _ => rfl) rfl rfl (fun x wx hb hd => ?_) ?_
    · have cc := ((ZXA.out.below hb ZXA.out.lt).cell 0).trans (show _ = some (.int .i64 t) from rfl)
      have cd := ((ZXA.out.below hb ZXA.out.lt).at_ 1 _ (show _ = some (vA) from rfl))
      first | (go_simp; done) | (go_simp; rfl)
    refine StepsAt.cons 3 (fun _ _ _ h hb => h) (fun _ _ => rfl) rfl rfl (fun x wx hb hd K hK => ?_) ?_
    · have h2 : Hid (x 2 = .agg #[.int .i64 t, vA]) := hd 2 (by kernel_rfl)
      have h1 : PlainB t L1 (x 1) wx := hd 1 (by kernel_rfl)
      go_simp
      obtain ⟨v99, hv99, hr99⟩ := h1
      refine calls_args (args2 := #[.agg #[.int .i64 t, v99], .agg #[.int .i64 t, vA]]) (by rw [hv99, h2.out]) ?_
      refine (rfSameBIs t t L1 L1 true (sameB_self _ _) v99 vA _ hr99 ((ZRA.out.below hb).more hb.size)).mono ?_
      rintro e w99 ⟨rfl, hb99⟩
      exact hK.out _ _ hb99 rfl
    refine StepsAt.val 4 (.bool false) rfl (fun _ _ => rfl) rfl rfl (fun x wx hb hd => ?_) ?_
    · have h3 : x 3 = .bool true := hd 3 (by kernel_rfl)
      rw [h3]
      first | (go_simp; done) | (go_simp; rfl)
    refine StepsAt.val 5 (.bool false) rfl (fun _ _ => rfl) rfl rfl (fun x wx hb hd => ?_) ?_
    · have h4 : x 4 = .bool false := hd 4 (by kernel_rfl)
      rw [h4]
      first | (go_simp; done) | (go_simp; rfl)
    refine StepsAt.valG 6 (.int IntKind.i64 ↑f1) rfl (fun _ _ => rfl) rfl (fun x wx hd => ?_) (fun x wx hb hd => ?_) ?_
    · have hG : x 5 = .bool false := hd 5 (by kernel_rfl)
      simp [Region.wanted, yielded, hG]
    · first | (go_simp; done) | (go_simp; rfl)
    refine StepsAt.valG 7 (.int IntKind.i64 ↑f1) rfl (fun _ _ => rfl) rfl (fun x wx hd => ?_) (fun x wx hb hd => ?_) ?_
    · have hG : x 5 = .bool false := hd 5 (by kernel_rfl)
      simp [Region.wanted, yielded, hG]
    · first | (go_simp; done) | (go_simp; rfl)
    refine StepsAt.valG 8 (.bool false) rfl (fun _ _ => rfl) rfl (fun x wx hd => ?_) (fun x wx hb hd => ?_) ?_
    · have hG : x 5 = .bool false := hd 5 (by kernel_rfl)
      simp [Region.wanted, yielded, hG]
    · have h6 : x 6 = .int IntKind.i64 ↑f1 := hd 6 (by kernel_rfl)
      have h7 : x 7 = .int IntKind.i64 ↑f1 := hd 7 (by kernel_rfl)
      rw [h6, h7]
      first | (go_simp; done) | (go_simp; rfl) | (go_simp; simp)
    refine StepsAt.val 9 (.bool false) rfl (fun _ _ => rfl) rfl rfl (fun x wx hb hd => ?_) ?_
    · have h5 : x 5 = .bool false := hd 5 (by kernel_rfl)
      have h8 : x 8 = .bool false := hd 8 (by kernel_rfl)
      rw [h5, h8]
      first | (go_simp; done) | (go_simp; rfl)
    refine StepsAt.val 10 (.bool false) rfl (fun _ _ => rfl) rfl rfl (fun x wx hb hd => ?_) ?_
    · have h9 : x 9 = .bool false := hd 9 (by kernel_rfl)
      rw [h9]
      first | (go_simp; done) | (go_simp; rfl)
    refine StepsAt.valG 11 (.agg #[.int .i64 t, vC]) rfl (fun _ _ => rfl) rfl (fun x wx hd => ?_) (fun x wx hb hd => ?_) ?_
    · have hG : x 10 = .bool false := hd 10 (by kernel_rfl)
      simp [Region.wanted, yielded, hG]
    · have cc := ((ZXC.out.below hb ZXC.out.lt).cell 0).trans (show _ = some (.int .i64 t) from rfl)
      have cd := ((ZXC.out.below hb ZXC.out.lt).at_ 1 _ (show _ = some (vC) from rfl))
      first | (go_simp; done) | (go_simp; rfl)
    refine StepsAt.consG 12 (fun _ _ _ h hb => h.keep hb) (fun _ _ => rfl) rfl (fun x wx hd => ?_) (fun x wx hb hd K hK => ?_) ?_
    · have hG : x 10 = .bool false := hd 10 (by kernel_rfl)
      simp [Region.wanted, yielded, hG]
    · have h11 : Hid (x 11 = .agg #[.int .i64 t, vC]) := hd 11 (by kernel_rfl)
      go_simp
      refine calls_args (args2 := #[.agg #[.int .i64 t, vC]]) (by rw [h11.out]) ?_
      refine (plainB_any t L2 vC _ ((ZRC.out.below hb).more hb.size) (by have := LL2.out; omega)).mono ?_
      rintro e w99 ⟨v99, rfl, hrd, hb99⟩
      exact hK.out _ _ hb99 ⟨v99, rfl, hrd⟩
    refine StepsAt.valG 13 (.agg #[.int .i64 t, vE]) rfl (fun _ _ => rfl) rfl (fun x wx hd => ?_) (fun x wx hb hd => ?_) ?_
    · have hG : x 10 = .bool false := hd 10 (by kernel_rfl)
      simp [Region.wanted, yielded, hG]
    · have cc := ((ZXE.out.below hb ZXE.out.lt).cell 0).trans (show _ = some (.int .i64 t) from rfl)
      have cd := ((ZXE.out.below hb ZXE.out.lt).at_ 1 _ (show _ = some (vE) from rfl))
      first | (go_simp; done) | (go_simp; rfl)
    refine StepsAt.consG 14 (fun _ _ _ h hb => h) (fun _ _ => rfl) rfl (fun x wx hd => ?_) (fun x wx hb hd K hK => ?_) ?_
    · have hG : x 10 = .bool false := hd 10 (by kernel_rfl)
      simp [Region.wanted, yielded, hG]
    · have h13 : Hid (x 13 = .agg #[.int .i64 t, vE]) := hd 13 (by kernel_rfl)
      have h12 : PlainB t L2 (x 12) wx := hd 12 (by kernel_rfl)
      go_simp
      obtain ⟨v99, hv99, hr99⟩ := h12
      refine calls_args (args2 := #[.agg #[.int .i64 t, v99], .agg #[.int .i64 t, vE]]) (by rw [hv99, h13.out]) ?_
      refine (rfSameBIs t t L2 L2 true (sameB_self _ _) v99 vE _ hr99 ((ZRE.out.below hb).more hb.size)).mono ?_
      rintro e w99 ⟨rfl, hb99⟩
      exact hK.out _ _ hb99 rfl
    refine StepsAt.valG 15 (.bool false) rfl (fun _ _ => rfl) rfl (fun x wx hd => ?_) (fun x wx hb hd => ?_) ?_
    · have hG : x 10 = .bool false := hd 10 (by kernel_rfl)
      simp [Region.wanted, yielded, hG]
    · have h14 : x 14 = .bool true := hd 14 (by kernel_rfl)
      rw [h14]
      first | (go_simp; done) | (go_simp; rfl)
    refine StepsAt.val 16 (.bool false) rfl (fun _ _ => rfl) rfl rfl (fun x wx hb hd => ?_) ?_
    · have h10 : x 10 = .bool false := hd 10 (by kernel_rfl)
      have h15 : x 15 = .bool false := hd 15 (by kernel_rfl)
      rw [h10, h15]
      first | (go_simp; done) | (go_simp; rfl)
    refine StepsAt.val 17 (.bool false) rfl (fun _ _ => rfl) rfl rfl (fun x wx hb hd => ?_) ?_
    · have h16 : x 16 = .bool false := hd 16 (by kernel_rfl)
      rw [h16]
      first | (go_simp; done) | (go_simp; rfl)
    refine StepsAt.valG 18 (.int IntKind.i64 ↑f2) rfl (fun _ _ => rfl) rfl (fun x wx hd => ?_) (fun x wx hb hd => ?_) ?_
    · have hG : x 17 = .bool false := hd 17 (by kernel_rfl)
      simp [Region.wanted, yielded, hG]
    · first | (go_simp; done) | (go_simp; rfl)
    refine StepsAt.valG 19 (.int IntKind.i64 ↑f2) rfl (fun _ _ => rfl) rfl (fun x wx hd => ?_) (fun x wx hb hd => ?_) ?_
    · have hG : x 17 = .bool false := hd 17 (by kernel_rfl)
      simp [Region.wanted, yielded, hG]
    · first | (go_simp; done) | (go_simp; rfl)
    refine StepsAt.valG 20 (.bool false) rfl (fun _ _ => rfl) rfl (fun x wx hd => ?_) (fun x wx hb hd => ?_) ?_
    · have hG : x 17 = .bool false := hd 17 (by kernel_rfl)
      simp [Region.wanted, yielded, hG]
    · have h18 : x 18 = .int IntKind.i64 ↑f2 := hd 18 (by kernel_rfl)
      have h19 : x 19 = .int IntKind.i64 ↑f2 := hd 19 (by kernel_rfl)
      rw [h18, h19]
      first | (go_simp; done) | (go_simp; rfl) | (go_simp; simp)
    refine StepsAt.val 21 (.bool false) rfl (fun _ _ => rfl) rfl rfl (fun x wx hb hd => ?_) ?_
    · have h17 : x 17 = .bool false := hd 17 (by kernel_rfl)
      have h20 : x 20 = .bool false := hd 20 (by kernel_rfl)
      rw [h17, h20]
      first | (go_simp; done) | (go_simp; rfl)
    refine StepsAt.val 22 (.bool false) rfl (fun _ _ => rfl) rfl rfl (fun x wx hb hd => ?_) ?_
    · have h21 : x 21 = .bool false := hd 21 (by kernel_rfl)
      rw [h21]
      first | (go_simp; done) | (go_simp; rfl)
    refine StepsAt.valG 23 (.agg #[.int .i64 t, v]) rfl (fun _ _ => rfl) rfl (fun x wx hd => ?_) (fun x wx hb hd => ?_) ?_
    · have hG : x 22 = .bool false := hd 22 (by kernel_rfl)
      simp [Region.wanted, yielded, hG]
    · have cc := ((ZX0.out.below hb ZX0.out.lt).cell 0).trans (show _ = some (.int .i64 t) from rfl)
      have cd := ((ZX0.out.below hb ZX0.out.lt).at_ 1 _ (show _ = some (v) from rfl))
      first | (go_simp; done) | (go_simp; rfl)
    refine StepsAt.valG 24 (.int IntKind.i64 id) rfl (fun _ _ => rfl) rfl (fun x wx hd => ?_) (fun x wx hb hd => ?_) ?_
    · have hG : x 22 = .bool false := hd 22 (by kernel_rfl)
      simp [Region.wanted, yielded, hG]
    · first | (go_simp; done) | (go_simp; rfl)
    refine StepsAt.consG 25 (fun _ _ _ h hb => h) (fun _ _ => rfl) rfl (fun x wx hd => ?_) (fun x wx hb hd K hK => ?_) ?_
    · have hG : x 22 = .bool false := hd 22 (by kernel_rfl)
      simp [Region.wanted, yielded, hG]
    · have h23 : Hid (x 23 = .agg #[.int .i64 t, v]) := hd 23 (by kernel_rfl)
      have h24 : Hid (x 24 = .int IntKind.i64 id) := hd 24 (by kernel_rfl)
      go_simp
      refine calls_args (args2 := #[.agg #[.int .i64 t, v], .int .i64 id]) (by rw [h23.out, h24.out]) ?_
      refine (bkHasIs t l id HS HHS.out v _ ((ZHR.out.below hb).more hb.size) HRT.out).mono ?_
      rintro e w99 ⟨rfl, hb99⟩
      exact hK.out _ _ hb99 rfl
    refine StepsAt.valG 26 (.agg #[.int .i64 t, vw]) rfl (fun _ _ => rfl) rfl (fun x wx hd => ?_) (fun x wx hb hd => ?_) ?_
    · have hG : x 22 = .bool false := hd 22 (by kernel_rfl)
      simp [Region.wanted, yielded, hG]
    · have cc := ((ZXW.out.below hb ZXW.out.lt).cell 0).trans (show _ = some (.int .i64 t) from rfl)
      have cd := ((ZXW.out.below hb ZXW.out.lt).at_ 1 _ (show _ = some (vw) from rfl))
      first | (go_simp; done) | (go_simp; rfl)
    refine StepsAt.valG 27 (.int IntKind.i64 id) rfl (fun _ _ => rfl) rfl (fun x wx hd => ?_) (fun x wx hb hd => ?_) ?_
    · have hG : x 22 = .bool false := hd 22 (by kernel_rfl)
      simp [Region.wanted, yielded, hG]
    · first | (go_simp; done) | (go_simp; rfl)
    refine StepsAt.consG 28 (fun _ _ _ h hb => h) (fun _ _ => rfl) rfl (fun x wx hd => ?_) (fun x wx hb hd K hK => ?_) ?_
    · have hG : x 22 = .bool false := hd 22 (by kernel_rfl)
      simp [Region.wanted, yielded, hG]
    · have h26 : Hid (x 26 = .agg #[.int .i64 t, vw]) := hd 26 (by kernel_rfl)
      have h27 : Hid (x 27 = .int IntKind.i64 id) := hd 27 (by kernel_rfl)
      go_simp
      refine calls_args (args2 := #[.agg #[.int .i64 t, vw], .int .i64 id]) (by rw [h26.out, h27.out]) ?_
      refine (rfHasBIs t l id HS HHS.out vw _ ((ZRW.out.below hb).more hb.size)).mono ?_
      rintro e w99 ⟨rfl, hb99⟩
      exact hK.out _ _ hb99 rfl
    refine StepsAt.valG 29 (.bool false) rfl (fun _ _ => rfl) rfl (fun x wx hd => ?_) (fun x wx hb hd => ?_) ?_
    · have hG : x 22 = .bool false := hd 22 (by kernel_rfl)
      simp [Region.wanted, yielded, hG]
    · have h25 : x 25 = .bool HS := hd 25 (by kernel_rfl)
      have h28 : x 28 = .bool HS := hd 28 (by kernel_rfl)
      rw [h25, h28]
      first | (go_simp; done) | (go_simp; rfl) | (go_simp; simp)
    refine StepsAt.val 30 (.bool false) rfl (fun _ _ => rfl) rfl rfl (fun x wx hb hd => ?_) ?_
    · have h22 : x 22 = .bool false := hd 22 (by kernel_rfl)
      have h29 : x 29 = .bool false := hd 29 (by kernel_rfl)
      rw [h22, h29]
      first | (go_simp; done) | (go_simp; rfl)
    exact StepsAt.done
  case fin =>
    intro xx wx hb hd
    have hx0 : xx 0 = .agg #[.int .i64 t, v8] := hd 0 (by omega)
    have hx2 : xx 2 = .agg #[.int .i64 t, vA] := hd 2 (by omega)
    have hx3 : xx 3 = .bool true := hd 3 (by omega)
    have hx4 : xx 4 = .bool false := hd 4 (by omega)
    have hx5 : xx 5 = .bool false := hd 5 (by omega)
    have hx6 : xx 6 = .int IntKind.i64 ↑f1 := hd 6 (by omega)
    have hx7 : xx 7 = .int IntKind.i64 ↑f1 := hd 7 (by omega)
    have hx8 : xx 8 = .bool false := hd 8 (by omega)
    have hx9 : xx 9 = .bool false := hd 9 (by omega)
    have hx10 : xx 10 = .bool false := hd 10 (by omega)
    have hx11 : xx 11 = .agg #[.int .i64 t, vC] := hd 11 (by omega)
    have hx13 : xx 13 = .agg #[.int .i64 t, vE] := hd 13 (by omega)
    have hx14 : xx 14 = .bool true := hd 14 (by omega)
    have hx15 : xx 15 = .bool false := hd 15 (by omega)
    have hx16 : xx 16 = .bool false := hd 16 (by omega)
    have hx17 : xx 17 = .bool false := hd 17 (by omega)
    have hx18 : xx 18 = .int IntKind.i64 ↑f2 := hd 18 (by omega)
    have hx19 : xx 19 = .int IntKind.i64 ↑f2 := hd 19 (by omega)
    have hx20 : xx 20 = .bool false := hd 20 (by omega)
    have hx21 : xx 21 = .bool false := hd 21 (by omega)
    have hx22 : xx 22 = .bool false := hd 22 (by omega)
    have hx23 : xx 23 = .agg #[.int .i64 t, v] := hd 23 (by omega)
    have hx24 : xx 24 = .int IntKind.i64 id := hd 24 (by omega)
    have hx25 : xx 25 = .bool HS := hd 25 (by omega)
    have hx26 : xx 26 = .agg #[.int .i64 t, vw] := hd 26 (by omega)
    have hx27 : xx 27 = .int IntKind.i64 id := hd 27 (by omega)
    have hx28 : xx 28 = .bool HS := hd 28 (by omega)
    have hx29 : xx 29 = .bool false := hd 29 (by omega)
    have hx30 : xx 30 = .bool false := hd 30 (by omega)
    refine AnyTill.any (S := fun _ => True) (m := 31) _ _ _ _ ?_
    refine AnyTill.done (by kernel_rfl) ?_
    refine NoPanic.normal ?_
    try dsimp only
    rw [hx0, hx2, hx3, hx4, hx5, hx6, hx7, hx8, hx9, hx10, hx11, hx13, hx14, hx15, hx16, hx17, hx18, hx19, hx20, hx21, hx22, hx23, hx24, hx25, hx26, hx27, hx28, hx29, hx30]
    have ER8 := Lib.hid hb
    clear hx0 hx2 hx3 hx4 hx5 hx6 hx7 hx8 hx9 hx10 hx11 hx13 hx14 hx15 hx16 hx17 hx18 hx19 hx20 hx21 hx22 hx23 hx24 hx25 hx26 hx27 hx28 hx29 hx30 hd hb
    have P8_w := Lib.hid (P7_w.out.trans (ER8.out.mono P7_w.out.size))
    clear P7_w
    have P8_y0 := Lib.hid (P7_y0.out.trans (ER8.out.mono P7_y0.out.size))
    clear P7_y0
    have P8_W1 := Lib.hid (P7_W1.out.trans (ER8.out.mono P7_W1.out.size))
    clear P7_W1
    have P8_W2 := Lib.hid (P7_W2.out.trans (ER8.out.mono P7_W2.out.size))
    clear P7_W2
    have P8_W3 := Lib.hid (P7_W3.out.trans (ER8.out.mono P7_W3.out.size))
    clear P7_W3
    have P8_W4 := Lib.hid (P7_W4.out.trans (ER8.out.mono P7_W4.out.size))
    clear P7_W4
    have P8_W5 := Lib.hid (P7_W5.out.trans (ER8.out.mono P7_W5.out.size))
    clear P7_W5
    have P8_W6 := Lib.hid (E7.out.trans (ER8.out.mono E7.out.size))
    have c_X0 := (X0.out.below P8_y0.out X0.out.lt).cell 0
    have c_X0_1 := (X0.out.below P8_y0.out X0.out.lt).at_ 1 _ rfl
    go_wp2_with fail
    refine (bkClose_any t l id v wx ((HR.out.below P8_w.out).more P8_w.out.size) HRT.out).mono ?_
    rintro e va9 ⟨vG, rfl, hrd, hb⟩
    clear c_X0 c_X0_1
    have ONEG := Lib.hid (book_rd t hrd)
    rw [HFf2.out]
    obtain ⟨L3, hl⟩ : ∃ q, closeS l id = q := ⟨_, rfl⟩
    have HL3 := Lib.hid hl
    have RL3 := Lib.hid (right_close t l id HRT.out)
    rw [hl] at hrd RL3
    have LL3 : Hid (L3.length ≤ 50) := RL3.out.few
    clear hl
    go_wp2_with (refine wpList_alloc_blk rfl 24 rfl [.int .i64 0, .slice none 0 0] zBL ?_)
    intro vb9 a1 a2 a3
    obtain ⟨vg9, hg⟩ : ∃ g, va9.heap.size = g := ⟨_, rfl⟩
    have AA := Lib.hid a1
    have EB := Lib.hid (hb.trans (a3.mono hb.size))
    have A3 := Lib.hid a3
    have hbg : wx.heap.size ≤ vg9 := by have := hb.size; omega
    have hgs : vg9 ≤ vb9.heap.size := by omega
    have HG := Lib.hid hg
    have RR0 := Lib.hid hrd
    rw [hg] at AA A3 RR0 ⊢
    clear a1 a2 a3 hb hg hrd
    go_wp2_with (refine wpList_store_to rfl 24 _ _ rfl vg9 [.int .i64 t, vG] [.int .i64 0, .slice none 0 0] 24 rfl rfl AA.out sBL rfl ONEG.out ?_)
    intro W9 e1 e2 e3 e4
    have XG := Lib.hid e1
    have E9 := Lib.hid (EB.out.trans (e3.mono hbg))
    have RG := Lib.hid (((RR0.out.below A3.out).below e3).more (show vg9 ≤ W9.heap.size by omega))
    clear e1 e2 e3 e4 AA EB A3 hbg hgs HG RR0
    have P9_w := Lib.hid (P8_w.out.trans (E9.out.mono P8_w.out.size))
    clear P8_w
    have P9_y0 := Lib.hid (P8_y0.out.trans (E9.out.mono P8_y0.out.size))
    clear P8_y0
    have P9_W1 := Lib.hid (P8_W1.out.trans (E9.out.mono P8_W1.out.size))
    clear P8_W1
    have P9_W2 := Lib.hid (P8_W2.out.trans (E9.out.mono P8_W2.out.size))
    clear P8_W2
    have P9_W3 := Lib.hid (P8_W3.out.trans (E9.out.mono P8_W3.out.size))
    clear P8_W3
    have P9_W4 := Lib.hid (P8_W4.out.trans (E9.out.mono P8_W4.out.size))
    clear P8_W4
    have P9_W5 := Lib.hid (P8_W5.out.trans (E9.out.mono P8_W5.out.size))
    clear P8_W5
    have P9_W6 := Lib.hid (P8_W6.out.trans (E9.out.mono P8_W6.out.size))
    clear P8_W6
    have P9_W7 := Lib.hid (ER8.out.trans (E9.out.mono ER8.out.size))
    have c_XW := (XW.out.below P9_W3.out XW.out.lt).cell 0
    have c_XW_1 := (XW.out.below P9_W3.out XW.out.lt).at_ 1 _ rfl
    go_wp2_with fail
    refine (rfCloseB_any t l id vw W9 ((RW.out.below P9_W3.out).more P9_W3.out.size) (by have := HL.out; omega)).mono ?_
    rintro e va10 ⟨vI, rfl, hrd, hb⟩
    clear c_XW c_XW_1
    have ONEI := Lib.hid (book_rd t hrd)
    rw [HL3.out] at hrd
    rw [HFf2.out]
    go_wp2_with (refine wpList_alloc_blk rfl 30 rfl [.int .i64 0, .slice none 0 0] zBK ?_)
    intro vb10 a1 a2 a3
    obtain ⟨vg10, hg⟩ : ∃ g, va10.heap.size = g := ⟨_, rfl⟩
    have AA := Lib.hid a1
    have EB := Lib.hid (hb.trans (a3.mono hb.size))
    have A3 := Lib.hid a3
    have hbg : W9.heap.size ≤ vg10 := by have := hb.size; omega
    have hgs : vg10 ≤ vb10.heap.size := by omega
    have HG := Lib.hid hg
    have RR0 := Lib.hid hrd
    rw [hg] at AA A3 RR0 ⊢
    clear a1 a2 a3 hb hg hrd
    go_wp2_with (refine wpList_store_to rfl 30 _ _ rfl vg10 [.int .i64 t, vI] [.int .i64 0, .slice none 0 0] 30 rfl rfl AA.out sBK rfl ONEI.out ?_)
    intro W10 e1 e2 e3 e4
    have XI := Lib.hid e1
    have E10 := Lib.hid (EB.out.trans (e3.mono hbg))
    have RI := Lib.hid (((RR0.out.below A3.out).below e3).more (show vg10 ≤ W10.heap.size by omega))
    clear e1 e2 e3 e4 AA EB A3 hbg hgs HG RR0
    have P10_w := Lib.hid (P9_w.out.trans (E10.out.mono P9_w.out.size))
    clear P9_w
    have P10_y0 := Lib.hid (P9_y0.out.trans (E10.out.mono P9_y0.out.size))
    clear P9_y0
    have P10_W1 := Lib.hid (P9_W1.out.trans (E10.out.mono P9_W1.out.size))
    clear P9_W1
    have P10_W2 := Lib.hid (P9_W2.out.trans (E10.out.mono P9_W2.out.size))
    clear P9_W2
    have P10_W3 := Lib.hid (P9_W3.out.trans (E10.out.mono P9_W3.out.size))
    clear P9_W3
    have P10_W4 := Lib.hid (P9_W4.out.trans (E10.out.mono P9_W4.out.size))
    clear P9_W4
    have P10_W5 := Lib.hid (P9_W5.out.trans (E10.out.mono P9_W5.out.size))
    clear P9_W5
    have P10_W6 := Lib.hid (P9_W6.out.trans (E10.out.mono P9_W6.out.size))
    clear P9_W6
    have P10_W7 := Lib.hid (P9_W7.out.trans (E10.out.mono P9_W7.out.size))
    clear P9_W7
    have P10_wx := Lib.hid (E9.out.trans (E10.out.mono E9.out.size))
    obtain ⟨T4, hT4⟩ : ∃ q, tickT t sp = q := ⟨_, rfl⟩
    have HT4 := Lib.hid hT4
    obtain ⟨G4, hG4⟩ : ∃ q, goneS t l sp = q := ⟨_, rfl⟩
    have HG4 := Lib.hid hG4
    have LG4 : Hid (G4.length ≤ 50) := by
      have h1 := gone_len t l sp
      have h2 := HL.out
      show _ ≤ _
      rw [← hG4]
      omega
    clear hT4 hG4
    have c_X0 := (X0.out.below P10_y0.out X0.out.lt).cell 0
    have c_X0_1 := (X0.out.below P10_y0.out X0.out.lt).at_ 1 _ rfl
    go_wp2_with fail
    refine (bkTick_any t l sp v W10 ((HR.out.below P10_w.out).more P10_w.out.size) HRT.out).mono ?_
    rintro e va11 ⟨vK, uK, rfl, hrd, hru, hb⟩
    clear c_X0 c_X0_1
    have ONEK := Lib.hid (book_rd T4 hrd)
    rw [HG4.out] at hru
    rw [HT4.out]
    obtain ⟨f4, hf⟩ : ∃ q, tickE t sp = q := ⟨_, rfl⟩
    have HFf4 := Lib.hid hf
    rw [hf]
    clear hf
    obtain ⟨L4, hl⟩ : ∃ q, tickS t l sp = q := ⟨_, rfl⟩
    have HL4 := Lib.hid hl
    have RL4 := Lib.hid (right_tick t l sp HRT.out)
    rw [hl] at hrd RL4
    have LL4 : Hid (L4.length ≤ 50) := RL4.out.few
    clear hl
    go_wp2_with (refine wpList_alloc_blk rfl 24 rfl [.int .i64 0, .slice none 0 0] zBL ?_)
    intro vb11 a1 a2 a3
    obtain ⟨vg11, hg⟩ : ∃ g, va11.heap.size = g := ⟨_, rfl⟩
    have AA := Lib.hid a1
    have EB := Lib.hid (hb.trans (a3.mono hb.size))
    have A3 := Lib.hid a3
    have hbg : W10.heap.size ≤ vg11 := by have := hb.size; omega
    have hgs : vg11 ≤ vb11.heap.size := by omega
    have HG := Lib.hid hg
    have RR0 := Lib.hid hrd
    have RR1 := Lib.hid hru
    rw [hg] at AA A3 RR0 RR1 ⊢
    clear a1 a2 a3 hb hg hrd hru
    go_wp2_with (refine wpList_store_to rfl 24 _ _ rfl vg11 [.int .i64 T4, vK] [.int .i64 0, .slice none 0 0] 24 rfl rfl AA.out sBL rfl ONEK.out ?_)
    intro W11 e1 e2 e3 e4
    have XK := Lib.hid e1
    have E11 := Lib.hid (EB.out.trans (e3.mono hbg))
    have RK := Lib.hid (((RR0.out.below A3.out).below e3).more (show vg11 ≤ W11.heap.size by omega))
    have SK := Lib.hid (((RR1.out.below A3.out).below e3).more (show vg11 ≤ W11.heap.size by omega))
    clear e1 e2 e3 e4 AA EB A3 hbg hgs HG RR0 RR1
    have P11_w := Lib.hid (P10_w.out.trans (E11.out.mono P10_w.out.size))
    clear P10_w
    have P11_y0 := Lib.hid (P10_y0.out.trans (E11.out.mono P10_y0.out.size))
    clear P10_y0
    have P11_W1 := Lib.hid (P10_W1.out.trans (E11.out.mono P10_W1.out.size))
    clear P10_W1
    have P11_W2 := Lib.hid (P10_W2.out.trans (E11.out.mono P10_W2.out.size))
    clear P10_W2
    have P11_W3 := Lib.hid (P10_W3.out.trans (E11.out.mono P10_W3.out.size))
    clear P10_W3
    have P11_W4 := Lib.hid (P10_W4.out.trans (E11.out.mono P10_W4.out.size))
    clear P10_W4
    have P11_W5 := Lib.hid (P10_W5.out.trans (E11.out.mono P10_W5.out.size))
    clear P10_W5
    have P11_W6 := Lib.hid (P10_W6.out.trans (E11.out.mono P10_W6.out.size))
    clear P10_W6
    have P11_W7 := Lib.hid (P10_W7.out.trans (E11.out.mono P10_W7.out.size))
    clear P10_W7
    have P11_wx := Lib.hid (P10_wx.out.trans (E11.out.mono P10_wx.out.size))
    clear P10_wx
    have P11_W9 := Lib.hid (E10.out.trans (E11.out.mono E10.out.size))
    have c_XW := (XW.out.below P11_W3.out XW.out.lt).cell 0
    have c_XW_1 := (XW.out.below P11_W3.out XW.out.lt).at_ 1 _ rfl
    go_wp2_with fail
    refine (rfTickB_any t l sp vw W11 ((RW.out.below P11_W3.out).more P11_W3.out.size) (by have := HL.out; omega)).mono ?_
    rintro e va12 ⟨vM, uM, rfl, hrd, hru, hb⟩
    clear c_XW c_XW_1
    have ONEM := Lib.hid (book_rd T4 hrd)
    rw [HL4.out] at hrd
    rw [HG4.out] at hru
    rw [HT4.out, HFf4.out]
    go_wp2_with (refine wpList_alloc_blk rfl 30 rfl [.int .i64 0, .slice none 0 0] zBK ?_)
    intro vb12 a1 a2 a3
    obtain ⟨vg12, hg⟩ : ∃ g, va12.heap.size = g := ⟨_, rfl⟩
    have AA := Lib.hid a1
    have EB := Lib.hid (hb.trans (a3.mono hb.size))
    have A3 := Lib.hid a3
    have hbg : W11.heap.size ≤ vg12 := by have := hb.size; omega
    have hgs : vg12 ≤ vb12.heap.size := by omega
    have HG := Lib.hid hg
    have RR0 := Lib.hid hrd
    have RR1 := Lib.hid hru
    rw [hg] at AA A3 RR0 RR1 ⊢
    clear a1 a2 a3 hb hg hrd hru
    go_wp2_with (refine wpList_store_to rfl 30 _ _ rfl vg12 [.int .i64 T4, vM] [.int .i64 0, .slice none 0 0] 30 rfl rfl AA.out sBK rfl ONEM.out ?_)
    intro W12 e1 e2 e3 e4
    have XM := Lib.hid e1
    have E12 := Lib.hid (EB.out.trans (e3.mono hbg))
    have RM := Lib.hid (((RR0.out.below A3.out).below e3).more (show vg12 ≤ W12.heap.size by omega))
    have SM := Lib.hid (((RR1.out.below A3.out).below e3).more (show vg12 ≤ W12.heap.size by omega))
    clear e1 e2 e3 e4 AA EB A3 hbg hgs HG RR0 RR1
    have P12_w := Lib.hid (P11_w.out.trans (E12.out.mono P11_w.out.size))
    clear P11_w
    have P12_y0 := Lib.hid (P11_y0.out.trans (E12.out.mono P11_y0.out.size))
    clear P11_y0
    have P12_W1 := Lib.hid (P11_W1.out.trans (E12.out.mono P11_W1.out.size))
    clear P11_W1
    have P12_W2 := Lib.hid (P11_W2.out.trans (E12.out.mono P11_W2.out.size))
    clear P11_W2
    have P12_W3 := Lib.hid (P11_W3.out.trans (E12.out.mono P11_W3.out.size))
    clear P11_W3
    have P12_W4 := Lib.hid (P11_W4.out.trans (E12.out.mono P11_W4.out.size))
    clear P11_W4
    have P12_W5 := Lib.hid (P11_W5.out.trans (E12.out.mono P11_W5.out.size))
    clear P11_W5
    have P12_W6 := Lib.hid (P11_W6.out.trans (E12.out.mono P11_W6.out.size))
    clear P11_W6
    have P12_W7 := Lib.hid (P11_W7.out.trans (E12.out.mono P11_W7.out.size))
    clear P11_W7
    have P12_wx := Lib.hid (P11_wx.out.trans (E12.out.mono P11_wx.out.size))
    clear P11_wx
    have P12_W9 := Lib.hid (P11_W9.out.trans (E12.out.mono P11_W9.out.size))
    clear P11_W9
    have P12_W10 := Lib.hid (E11.out.trans (E12.out.mono E11.out.size))
    have hn1 : ((f2 : Int) == (f2 : Int)) = true := by simp
    have hn2 : ((f4 : Int) == (f4 : Int)) = true := by simp
    go_wp2
    have ZX0 := Lib.hid (X0.out.below P12_y0.out X0.out.lt)
    have ZXW := Lib.hid (XW.out.below P12_W3.out XW.out.lt)
    have ZXG := Lib.hid (XG.out.below P12_W9.out XG.out.lt)
    have ZXI := Lib.hid (XI.out.below P12_W10.out XI.out.lt)
    have ZXK := Lib.hid (XK.out.below E12.out XK.out.lt)
    have ZXM := Lib.hid XM.out
    have ZHR := Lib.hid ((HR.out.below P12_w.out).more P12_w.out.size)
    have ZRW := Lib.hid ((RW.out.below P12_W3.out).more P12_W3.out.size)
    have ZRG := Lib.hid ((RG.out.below P12_W9.out).more P12_W9.out.size)
    have ZRI := Lib.hid ((RI.out.below P12_W10.out).more P12_W10.out.size)
    have ZRK := Lib.hid ((RK.out.below E12.out).more E12.out.size)
    have ZRM := Lib.hid RM.out
    have ZSK := Lib.hid ((SK.out.below E12.out).more E12.out.size)
    have ZSM := Lib.hid SM.out
    clear hn1 hn2
    refine wp_region_rely2 35 0 (fun x => ⟨#[.agg #[Value.int IntKind.i64 t, v], .int IntKind.i64 id, .int IntKind.i64 sp, .pointer (some { block := gb0, off := 0 }), undef, undef, x 34, .pointer (some { block := vg3, off := 0 }), .pointer (some { block := vg4, off := 0 }), .int IntKind.i64 ↑f1, .pointer (some { block := vg5, off := 0 }), .int IntKind.i64 ↑f1, .pointer (some { block := vg6, off := 0 }), .int IntKind.i64 ↑f2, .pointer (some { block := vg7, off := 0 }), .int IntKind.i64 ↑f2, .pointer (some { block := vg9, off := 0 }), .int IntKind.i64 ↑f2, .pointer (some { block := vg10, off := 0 }), .int IntKind.i64 ↑f2, .pointer (some { block := vg11, off := 0 }), uK, .int IntKind.i64 ↑f4, .pointer (some { block := vg12, off := 0 }), uM, .int IntKind.i64 ↑f4, .agg #[Value.int IntKind.i64 t, v], .agg #[Value.int IntKind.i64 t, vp], .bool true, .bool false, undef, .agg #[Value.int IntKind.i64 t, v], .agg #[Value.int IntKind.i64 t, vw], .tuple #[Value.agg #[Value.int IntKind.i64 t, v8], Value.int IntKind.i64 ↑f1], .agg #[Value.int IntKind.i64 t, v], .int IntKind.i64 id, .int IntKind.i64 sp, .tuple #[Value.agg #[Value.int IntKind.i64 t, v8], Value.int IntKind.i64 ↑f1], .agg #[Value.int IntKind.i64 t, v8], .int IntKind.i64 ↑f1, .tuple #[Value.agg #[Value.int IntKind.i64 t, vA], Value.int IntKind.i64 ↑f1], .agg #[Value.int IntKind.i64 t, vw], .int IntKind.i64 id, .int IntKind.i64 sp, .tuple #[Value.agg #[Value.int IntKind.i64 t, vA], Value.int IntKind.i64 ↑f1], .agg #[Value.int IntKind.i64 t, vA], .int IntKind.i64 ↑f1, .tuple #[Value.agg #[Value.int IntKind.i64 t, vC], Value.int IntKind.i64 ↑f2], .agg #[Value.int IntKind.i64 t, v], .int IntKind.i64 id, .tuple #[Value.agg #[Value.int IntKind.i64 t, vC], Value.int IntKind.i64 ↑f2], .agg #[Value.int IntKind.i64 t, vC], .int IntKind.i64 ↑f2, .tuple #[Value.agg #[Value.int IntKind.i64 t, vE], Value.int IntKind.i64 ↑f2], .agg #[Value.int IntKind.i64 t, vw], .int IntKind.i64 id, .tuple #[Value.agg #[Value.int IntKind.i64 t, vE], Value.int IntKind.i64 ↑f2], .agg #[Value.int IntKind.i64 t, vE], .int IntKind.i64 ↑f2, .agg #[Value.int IntKind.i64 t, v8], xx 1, .agg #[Value.int IntKind.i64 t, vA], .bool true, .bool false, .bool false, .int IntKind.i64 ↑f1, .int IntKind.i64 ↑f1, .bool false, .bool false, .bool false, .agg #[Value.int IntKind.i64 t, vC], xx 12, .agg #[Value.int IntKind.i64 t, vE], .bool true, .bool false, .bool false, .bool false, .int IntKind.i64 ↑f2, .int IntKind.i64 ↑f2, .bool false, .bool false, .bool false, .agg #[Value.int IntKind.i64 t, v], .int IntKind.i64 id, .bool HS, .agg #[Value.int IntKind.i64 t, vw], .int IntKind.i64 id, .bool HS, .bool false, .bool false, .tuple #[Value.agg #[Value.int IntKind.i64 t, vG], Value.int IntKind.i64 ↑f2], .agg #[Value.int IntKind.i64 t, v], .int IntKind.i64 id, .tuple #[Value.agg #[Value.int IntKind.i64 t, vG], Value.int IntKind.i64 ↑f2], .agg #[Value.int IntKind.i64 t, vG], .int IntKind.i64 ↑f2, .tuple #[Value.agg #[Value.int IntKind.i64 t, vI], Value.int IntKind.i64 ↑f2], .agg #[Value.int IntKind.i64 t, vw], .int IntKind.i64 id, .tuple #[Value.agg #[Value.int IntKind.i64 t, vI], Value.int IntKind.i64 ↑f2], .agg #[Value.int IntKind.i64 t, vI], .int IntKind.i64 ↑f2, .tuple #[Value.agg #[Value.int IntKind.i64 T4, vK], uK, Value.int IntKind.i64 ↑f4], .agg #[Value.int IntKind.i64 t, v], .int IntKind.i64 sp, .tuple #[Value.agg #[Value.int IntKind.i64 T4, vK], uK, Value.int IntKind.i64 ↑f4], .agg #[Value.int IntKind.i64 T4, vK], uK, .int IntKind.i64 ↑f4, .tuple #[Value.agg #[Value.int IntKind.i64 T4, vM], uM, Value.int IntKind.i64 ↑f4], .agg #[Value.int IntKind.i64 t, vw], .int IntKind.i64 sp, .tuple #[Value.agg #[Value.int IntKind.i64 T4, vM], uM, Value.int IntKind.i64 ↑f4], .agg #[Value.int IntKind.i64 T4, vM], uM, .int IntKind.i64 ↑f4, x 0, x 1, x 2, x 3, x 4, x 5, x 6, x 7, x 8, x 9, x 10, x 11, x 12, x 13, x 14, x 15, x 16, x 17, x 18, x 19, x 20, x 21, x 22, x 23, x 24, x 25, x 26, x 27, x 28, x 29, x 30, x 31, x 32, x 33], []⟩) (fun jj => ([(eqV (.bool true)), eqV (.bool true), eqV (.agg #[.int .i64 t, vG]), (PlainB t L3), eqV (.agg #[.int .i64 t, vI]), (eqV (.bool true)), eqV (.bool true), eqV (.bool true), eqV (.int IntKind.i64 ↑f2), eqV (.int IntKind.i64 ↑f2), eqV (.bool true), eqV (.bool true), eqV (.bool true), eqV (.agg #[.int .i64 T4, vK]), (PlainB T4 L4), eqV (.agg #[.int .i64 T4, vM]), (eqV (.bool true)), eqV (.bool true), eqV (.bool true), eqV (uK), eqV (uM), (eqV (.bool true)), eqV (.bool true), eqV (.bool true), eqV (.int IntKind.i64 ↑f4), eqV (.int IntKind.i64 ↑f4), eqV (.bool true), eqV (.bool true), eqV (.bool true), eqV (.agg #[.int .i64 t, v]), (PlainB t l), eqV (.agg #[.int .i64 t, vw]), (eqV (.bool true)), eqV (.bool true), eqV (.bool true)] : List (Value → World → Prop)).getD jj (fun _ _ => True)) rfl ⟨fun kk => [_, _, _, _, _, _, _, _, _, _, _, _, _, _, _, _, _, _, _, _, _, _, _, _, _, _, _, _, _, _, _, _, _, _, _].getD kk undef, rfl⟩ (by kernel_rfl) (by kernel_rfl) ?steps ?fin
    case steps =>
      refine StepsAt.cons 0 (fun _ _ _ h hb => h) (fun _ _ => rfl) rfl rfl (fun x wz hb hd K hK => ?_) ?_
      · go_simp
        refine (alive10 _).mono ?_
        rintro e w99 ⟨rfl, hb99⟩
        exact hK.out _ _ hb99 rfl
      refine StepsAt.val 1 (.bool true) rfl (fun _ _ => rfl) rfl rfl (fun x wz hb hd => ?_) ?_
      · have h0 : x 0 = .bool true := hd 0 (by kernel_rfl)
        rw [h0]
        first | (go_simp; done) | (go_simp; rfl)
      refine StepsAt.valG 2 (.agg #[.int .i64 t, vG]) rfl (fun _ _ => rfl) rfl (fun x wz hd => ?_) (fun x wz hb hd => ?_) ?_
      · have hG : x 1 = .bool true := hd 1 (by kernel_rfl)
        simp [Region.wanted, yielded, hG]
      · have cc := ((ZXG.out.below hb ZXG.out.lt).cell 0).trans (show _ = some (.int .i64 t) from rfl)
        have cd := ((ZXG.out.below hb ZXG.out.lt).at_ 1 _ (show _ = some (vG) from rfl))
        first | (go_simp; done) | (go_simp; rfl)
      refine StepsAt.consG 3 (fun _ _ _ h hb => h.keep hb) (fun _ _ => rfl) rfl (fun x wz hd => ?_) (fun x wz hb hd K hK => ?_) ?_
      · have hG : x 1 = .bool true := hd 1 (by kernel_rfl)
        simp [Region.wanted, yielded, hG]
      · have h2 : Hid (x 2 = .agg #[.int .i64 t, vG]) := hd 2 (by kernel_rfl)
        go_simp
        refine calls_args (args2 := #[.agg #[.int .i64 t, vG]]) (by rw [h2.out]) ?_
        refine (plainB_any t L3 vG _ ((ZRG.out.below hb).more hb.size) (by have := LL3.out; omega)).mono ?_
        rintro e w99 ⟨v99, rfl, hrd, hb99⟩
        exact hK.out _ _ hb99 ⟨v99, rfl, hrd⟩
      refine StepsAt.valG 4 (.agg #[.int .i64 t, vI]) rfl (fun _ _ => rfl) rfl (fun x wz hd => ?_) (fun x wz hb hd => ?_) ?_
      · have hG : x 1 = .bool true := hd 1 (by kernel_rfl)
        simp [Region.wanted, yielded, hG]
      · have cc := ((ZXI.out.below hb ZXI.out.lt).cell 0).trans (show _ = some (.int .i64 t) from rfl)
        have cd := ((ZXI.out.below hb ZXI.out.lt).at_ 1 _ (show _ = some (vI) from rfl))
        first | (go_simp; done) | (go_simp; rfl)
      refine StepsAt.consG 5 (fun _ _ _ h hb => h) (fun _ _ => rfl) rfl (fun x wz hd => ?_) (fun x wz hb hd K hK => ?_) ?_
      · have hG : x 1 = .bool true := hd 1 (by kernel_rfl)
        simp [Region.wanted, yielded, hG]
      · have h4 : Hid (x 4 = .agg #[.int .i64 t, vI]) := hd 4 (by kernel_rfl)
        have h3 : PlainB t L3 (x 3) wz := hd 3 (by kernel_rfl)
        go_simp
        obtain ⟨v99, hv99, hr99⟩ := h3
        refine calls_args (args2 := #[.agg #[.int .i64 t, v99], .agg #[.int .i64 t, vI]]) (by rw [hv99, h4.out]) ?_
        refine (rfSameBIs t t L3 L3 true (sameB_self _ _) v99 vI _ hr99 ((ZRI.out.below hb).more hb.size)).mono ?_
        rintro e w99 ⟨rfl, hb99⟩
        exact hK.out _ _ hb99 rfl
      refine StepsAt.val 6 (.bool true) rfl (fun _ _ => rfl) rfl rfl (fun x wz hb hd => ?_) ?_
      · have h1 : x 1 = .bool true := hd 1 (by kernel_rfl)
        have h5 : x 5 = .bool true := hd 5 (by kernel_rfl)
        rw [h1, h5]
        first | (go_simp; done) | (go_simp; rfl)
      refine StepsAt.val 7 (.bool true) rfl (fun _ _ => rfl) rfl rfl (fun x wz hb hd => ?_) ?_
      · have h6 : x 6 = .bool true := hd 6 (by kernel_rfl)
        rw [h6]
        first | (go_simp; done) | (go_simp; rfl)
      refine StepsAt.valG 8 (.int IntKind.i64 ↑f2) rfl (fun _ _ => rfl) rfl (fun x wz hd => ?_) (fun x wz hb hd => ?_) ?_
      · have hG : x 7 = .bool true := hd 7 (by kernel_rfl)
        simp [Region.wanted, yielded, hG]
      · first | (go_simp; done) | (go_simp; rfl)
      refine StepsAt.valG 9 (.int IntKind.i64 ↑f2) rfl (fun _ _ => rfl) rfl (fun x wz hd => ?_) (fun x wz hb hd => ?_) ?_
      · have hG : x 7 = .bool true := hd 7 (by kernel_rfl)
        simp [Region.wanted, yielded, hG]
      · first | (go_simp; done) | (go_simp; rfl)
      refine StepsAt.valG 10 (.bool true) rfl (fun _ _ => rfl) rfl (fun x wz hd => ?_) (fun x wz hb hd => ?_) ?_
      · have hG : x 7 = .bool true := hd 7 (by kernel_rfl)
        simp [Region.wanted, yielded, hG]
      · have h8 : x 8 = .int IntKind.i64 ↑f2 := hd 8 (by kernel_rfl)
        have h9 : x 9 = .int IntKind.i64 ↑f2 := hd 9 (by kernel_rfl)
        rw [h8, h9]
        first | (go_simp; done) | (go_simp; rfl) | (go_simp; simp)
      refine StepsAt.val 11 (.bool true) rfl (fun _ _ => rfl) rfl rfl (fun x wz hb hd => ?_) ?_
      · have h7 : x 7 = .bool true := hd 7 (by kernel_rfl)
        have h10 : x 10 = .bool true := hd 10 (by kernel_rfl)
        rw [h7, h10]
        first | (go_simp; done) | (go_simp; rfl)
      refine StepsAt.val 12 (.bool true) rfl (fun _ _ => rfl) rfl rfl (fun x wz hb hd => ?_) ?_
      · have h11 : x 11 = .bool true := hd 11 (by kernel_rfl)
        rw [h11]
        first | (go_simp; done) | (go_simp; rfl)
      refine StepsAt.valG 13 (.agg #[.int .i64 T4, vK]) rfl (fun _ _ => rfl) rfl (fun x wz hd => ?_) (fun x wz hb hd => ?_) ?_
      · have hG : x 12 = .bool true := hd 12 (by kernel_rfl)
        simp [Region.wanted, yielded, hG]
      · have cc := ((ZXK.out.below hb ZXK.out.lt).cell 0).trans (show _ = some (.int .i64 T4) from rfl)
        have cd := ((ZXK.out.below hb ZXK.out.lt).at_ 1 _ (show _ = some (vK) from rfl))
        first | (go_simp; done) | (go_simp; rfl)
      refine StepsAt.consG 14 (fun _ _ _ h hb => h.keep hb) (fun _ _ => rfl) rfl (fun x wz hd => ?_) (fun x wz hb hd K hK => ?_) ?_
      · have hG : x 12 = .bool true := hd 12 (by kernel_rfl)
        simp [Region.wanted, yielded, hG]
      · have h13 : Hid (x 13 = .agg #[.int .i64 T4, vK]) := hd 13 (by kernel_rfl)
        go_simp
        refine calls_args (args2 := #[.agg #[.int .i64 T4, vK]]) (by rw [h13.out]) ?_
        refine (plainB_any T4 L4 vK _ ((ZRK.out.below hb).more hb.size) (by have := LL4.out; omega)).mono ?_
        rintro e w99 ⟨v99, rfl, hrd, hb99⟩
        exact hK.out _ _ hb99 ⟨v99, rfl, hrd⟩
      refine StepsAt.valG 15 (.agg #[.int .i64 T4, vM]) rfl (fun _ _ => rfl) rfl (fun x wz hd => ?_) (fun x wz hb hd => ?_) ?_
      · have hG : x 12 = .bool true := hd 12 (by kernel_rfl)
        simp [Region.wanted, yielded, hG]
      · have cc := ((ZXM.out.below hb ZXM.out.lt).cell 0).trans (show _ = some (.int .i64 T4) from rfl)
        have cd := ((ZXM.out.below hb ZXM.out.lt).at_ 1 _ (show _ = some (vM) from rfl))
        first | (go_simp; done) | (go_simp; rfl)
      refine StepsAt.consG 16 (fun _ _ _ h hb => h) (fun _ _ => rfl) rfl (fun x wz hd => ?_) (fun x wz hb hd K hK => ?_) ?_
      · have hG : x 12 = .bool true := hd 12 (by kernel_rfl)
        simp [Region.wanted, yielded, hG]
      · have h15 : Hid (x 15 = .agg #[.int .i64 T4, vM]) := hd 15 (by kernel_rfl)
        have h14 : PlainB T4 L4 (x 14) wz := hd 14 (by kernel_rfl)
        go_simp
        obtain ⟨v99, hv99, hr99⟩ := h14
        refine calls_args (args2 := #[.agg #[.int .i64 T4, v99], .agg #[.int .i64 T4, vM]]) (by rw [hv99, h15.out]) ?_
        refine (rfSameBIs T4 T4 L4 L4 true (sameB_self _ _) v99 vM _ hr99 ((ZRM.out.below hb).more hb.size)).mono ?_
        rintro e w99 ⟨rfl, hb99⟩
        exact hK.out _ _ hb99 rfl
      refine StepsAt.val 17 (.bool true) rfl (fun _ _ => rfl) rfl rfl (fun x wz hb hd => ?_) ?_
      · have h12 : x 12 = .bool true := hd 12 (by kernel_rfl)
        have h16 : x 16 = .bool true := hd 16 (by kernel_rfl)
        rw [h12, h16]
        first | (go_simp; done) | (go_simp; rfl)
      refine StepsAt.val 18 (.bool true) rfl (fun _ _ => rfl) rfl rfl (fun x wz hb hd => ?_) ?_
      · have h17 : x 17 = .bool true := hd 17 (by kernel_rfl)
        rw [h17]
        first | (go_simp; done) | (go_simp; rfl)
      refine StepsAt.valG 19 (uK) rfl (fun _ _ => rfl) rfl (fun x wz hd => ?_) (fun x wz hb hd => ?_) ?_
      · have hG : x 18 = .bool true := hd 18 (by kernel_rfl)
        simp [Region.wanted, yielded, hG]
      · first | (go_simp; done) | (go_simp; rfl)
      refine StepsAt.valG 20 (uM) rfl (fun _ _ => rfl) rfl (fun x wz hd => ?_) (fun x wz hb hd => ?_) ?_
      · have hG : x 18 = .bool true := hd 18 (by kernel_rfl)
        simp [Region.wanted, yielded, hG]
      · first | (go_simp; done) | (go_simp; rfl)
      refine StepsAt.consG 21 (fun _ _ _ h hb => h) (fun _ _ => rfl) rfl (fun x wz hd => ?_) (fun x wz hb hd K hK => ?_) ?_
      · have hG : x 18 = .bool true := hd 18 (by kernel_rfl)
        simp [Region.wanted, yielded, hG]
      · have h19 : Hid (x 19 = uK) := hd 19 (by kernel_rfl)
        have h20 : Hid (x 20 = uM) := hd 20 (by kernel_rfl)
        go_simp
        refine calls_args (args2 := #[uK, uM]) (by rw [h19.out, h20.out]) ?_
        refine (intsE_same _ uK uM G4 _ (ZSK.out.below hb) (ZSM.out.below hb) (by have := LG4.out; omega)).mono ?_
        rintro e w99 ⟨rfl, hb99⟩
        exact hK.out _ _ hb99 rfl
      refine StepsAt.val 22 (.bool true) rfl (fun _ _ => rfl) rfl rfl (fun x wz hb hd => ?_) ?_
      · have h18 : x 18 = .bool true := hd 18 (by kernel_rfl)
        have h21 : x 21 = .bool true := hd 21 (by kernel_rfl)
        rw [h18, h21]
        first | (go_simp; done) | (go_simp; rfl)
      refine StepsAt.val 23 (.bool true) rfl (fun _ _ => rfl) rfl rfl (fun x wz hb hd => ?_) ?_
      · have h22 : x 22 = .bool true := hd 22 (by kernel_rfl)
        rw [h22]
        first | (go_simp; done) | (go_simp; rfl)
      refine StepsAt.valG 24 (.int IntKind.i64 ↑f4) rfl (fun _ _ => rfl) rfl (fun x wz hd => ?_) (fun x wz hb hd => ?_) ?_
      · have hG : x 23 = .bool true := hd 23 (by kernel_rfl)
        simp [Region.wanted, yielded, hG]
      · first | (go_simp; done) | (go_simp; rfl)
      refine StepsAt.valG 25 (.int IntKind.i64 ↑f4) rfl (fun _ _ => rfl) rfl (fun x wz hd => ?_) (fun x wz hb hd => ?_) ?_
      · have hG : x 23 = .bool true := hd 23 (by kernel_rfl)
        simp [Region.wanted, yielded, hG]
      · first | (go_simp; done) | (go_simp; rfl)
      refine StepsAt.valG 26 (.bool true) rfl (fun _ _ => rfl) rfl (fun x wz hd => ?_) (fun x wz hb hd => ?_) ?_
      · have hG : x 23 = .bool true := hd 23 (by kernel_rfl)
        simp [Region.wanted, yielded, hG]
      · have h24 : x 24 = .int IntKind.i64 ↑f4 := hd 24 (by kernel_rfl)
        have h25 : x 25 = .int IntKind.i64 ↑f4 := hd 25 (by kernel_rfl)
        rw [h24, h25]
        first | (go_simp; done) | (go_simp; rfl) | (go_simp; simp)
      refine StepsAt.val 27 (.bool true) rfl (fun _ _ => rfl) rfl rfl (fun x wz hb hd => ?_) ?_
      · have h23 : x 23 = .bool true := hd 23 (by kernel_rfl)
        have h26 : x 26 = .bool true := hd 26 (by kernel_rfl)
        rw [h23, h26]
        first | (go_simp; done) | (go_simp; rfl)
      refine StepsAt.val 28 (.bool true) rfl (fun _ _ => rfl) rfl rfl (fun x wz hb hd => ?_) ?_
      · have h27 : x 27 = .bool true := hd 27 (by kernel_rfl)
        rw [h27]
        first | (go_simp; done) | (go_simp; rfl)
      refine StepsAt.valG 29 (.agg #[.int .i64 t, v]) rfl (fun _ _ => rfl) rfl (fun x wz hd => ?_) (fun x wz hb hd => ?_) ?_
      · have hG : x 28 = .bool true := hd 28 (by kernel_rfl)
        simp [Region.wanted, yielded, hG]
      · have cc := ((ZX0.out.below hb ZX0.out.lt).cell 0).trans (show _ = some (.int .i64 t) from rfl)
        have cd := ((ZX0.out.below hb ZX0.out.lt).at_ 1 _ (show _ = some (v) from rfl))
        first | (go_simp; done) | (go_simp; rfl)
      refine StepsAt.consG 30 (fun _ _ _ h hb => h.keep hb) (fun _ _ => rfl) rfl (fun x wz hd => ?_) (fun x wz hb hd K hK => ?_) ?_
      · have hG : x 28 = .bool true := hd 28 (by kernel_rfl)
        simp [Region.wanted, yielded, hG]
      · have h29 : Hid (x 29 = .agg #[.int .i64 t, v]) := hd 29 (by kernel_rfl)
        go_simp
        refine calls_args (args2 := #[.agg #[.int .i64 t, v]]) (by rw [h29.out]) ?_
        refine (plainB_any t l v _ ((ZHR.out.below hb).more hb.size) (by have := HL.out; omega)).mono ?_
        rintro e w99 ⟨v99, rfl, hrd, hb99⟩
        exact hK.out _ _ hb99 ⟨v99, rfl, hrd⟩
      refine StepsAt.valG 31 (.agg #[.int .i64 t, vw]) rfl (fun _ _ => rfl) rfl (fun x wz hd => ?_) (fun x wz hb hd => ?_) ?_
      · have hG : x 28 = .bool true := hd 28 (by kernel_rfl)
        simp [Region.wanted, yielded, hG]
      · have cc := ((ZXW.out.below hb ZXW.out.lt).cell 0).trans (show _ = some (.int .i64 t) from rfl)
        have cd := ((ZXW.out.below hb ZXW.out.lt).at_ 1 _ (show _ = some (vw) from rfl))
        first | (go_simp; done) | (go_simp; rfl)
      refine StepsAt.consG 32 (fun _ _ _ h hb => h) (fun _ _ => rfl) rfl (fun x wz hd => ?_) (fun x wz hb hd K hK => ?_) ?_
      · have hG : x 28 = .bool true := hd 28 (by kernel_rfl)
        simp [Region.wanted, yielded, hG]
      · have h31 : Hid (x 31 = .agg #[.int .i64 t, vw]) := hd 31 (by kernel_rfl)
        have h30 : PlainB t l (x 30) wz := hd 30 (by kernel_rfl)
        go_simp
        obtain ⟨v99, hv99, hr99⟩ := h30
        refine calls_args (args2 := #[.agg #[.int .i64 t, v99], .agg #[.int .i64 t, vw]]) (by rw [hv99, h31.out]) ?_
        refine (rfSameBIs t t l l true (sameB_self _ _) v99 vw _ hr99 ((ZRW.out.below hb).more hb.size)).mono ?_
        rintro e w99 ⟨rfl, hb99⟩
        exact hK.out _ _ hb99 rfl
      refine StepsAt.val 33 (.bool true) rfl (fun _ _ => rfl) rfl rfl (fun x wz hb hd => ?_) ?_
      · have h28 : x 28 = .bool true := hd 28 (by kernel_rfl)
        have h32 : x 32 = .bool true := hd 32 (by kernel_rfl)
        rw [h28, h32]
        first | (go_simp; done) | (go_simp; rfl)
      refine StepsAt.val 34 (.bool true) rfl (fun _ _ => rfl) rfl rfl (fun x wz hb hd => ?_) ?_
      · have h33 : x 33 = .bool true := hd 33 (by kernel_rfl)
        rw [h33]
        first | (go_simp; done) | (go_simp; rfl)
      exact StepsAt.done
    case fin =>
      intro x wz hb hd
      have hx0 : x 0 = .bool true := hd 0 (by omega)
      have hx1 : x 1 = .bool true := hd 1 (by omega)
      have hx2 : x 2 = .agg #[.int .i64 t, vG] := hd 2 (by omega)
      have hx4 : x 4 = .agg #[.int .i64 t, vI] := hd 4 (by omega)
      have hx5 : x 5 = .bool true := hd 5 (by omega)
      have hx6 : x 6 = .bool true := hd 6 (by omega)
      have hx7 : x 7 = .bool true := hd 7 (by omega)
      have hx8 : x 8 = .int IntKind.i64 ↑f2 := hd 8 (by omega)
      have hx9 : x 9 = .int IntKind.i64 ↑f2 := hd 9 (by omega)
      have hx10 : x 10 = .bool true := hd 10 (by omega)
      have hx11 : x 11 = .bool true := hd 11 (by omega)
      have hx12 : x 12 = .bool true := hd 12 (by omega)
      have hx13 : x 13 = .agg #[.int .i64 T4, vK] := hd 13 (by omega)
      have hx15 : x 15 = .agg #[.int .i64 T4, vM] := hd 15 (by omega)
      have hx16 : x 16 = .bool true := hd 16 (by omega)
      have hx17 : x 17 = .bool true := hd 17 (by omega)
      have hx18 : x 18 = .bool true := hd 18 (by omega)
      have hx19 : x 19 = uK := hd 19 (by omega)
      have hx20 : x 20 = uM := hd 20 (by omega)
      have hx21 : x 21 = .bool true := hd 21 (by omega)
      have hx22 : x 22 = .bool true := hd 22 (by omega)
      have hx23 : x 23 = .bool true := hd 23 (by omega)
      have hx24 : x 24 = .int IntKind.i64 ↑f4 := hd 24 (by omega)
      have hx25 : x 25 = .int IntKind.i64 ↑f4 := hd 25 (by omega)
      have hx26 : x 26 = .bool true := hd 26 (by omega)
      have hx27 : x 27 = .bool true := hd 27 (by omega)
      have hx28 : x 28 = .bool true := hd 28 (by omega)
      have hx29 : x 29 = .agg #[.int .i64 t, v] := hd 29 (by omega)
      have hx31 : x 31 = .agg #[.int .i64 t, vw] := hd 31 (by omega)
      have hx32 : x 32 = .bool true := hd 32 (by omega)
      have hx33 : x 33 = .bool true := hd 33 (by omega)
      have hx34 : x 34 = .bool true := hd 34 (by omega)
      refine AnyTill.any (S := fun _ => True) (m := 35) _ _ _ _ ?_
      refine AnyTill.done (by kernel_rfl) ?_
      refine NoPanic.normal ?_
      try dsimp only
      rw [hx0, hx1, hx2, hx4, hx5, hx6, hx7, hx8, hx9, hx10, hx11, hx12, hx13, hx15, hx16, hx17, hx18, hx19, hx20, hx21, hx22, hx23, hx24, hx25, hx26, hx27, hx28, hx29, hx31, hx32, hx33, hx34]
      have ER14 := Lib.hid hb
      clear hx0 hx1 hx2 hx4 hx5 hx6 hx7 hx8 hx9 hx10 hx11 hx12 hx13 hx15 hx16 hx17 hx18 hx19 hx20 hx21 hx22 hx23 hx24 hx25 hx26 hx27 hx28 hx29 hx31 hx32 hx33 hx34 hd hb
      have P13_w := Lib.hid (P12_w.out.trans (ER14.out.mono P12_w.out.size))
      clear P12_w
      have P13_y0 := Lib.hid (P12_y0.out.trans (ER14.out.mono P12_y0.out.size))
      clear P12_y0
      have P13_W1 := Lib.hid (P12_W1.out.trans (ER14.out.mono P12_W1.out.size))
      clear P12_W1
      have P13_W2 := Lib.hid (P12_W2.out.trans (ER14.out.mono P12_W2.out.size))
      clear P12_W2
      have P13_W3 := Lib.hid (P12_W3.out.trans (ER14.out.mono P12_W3.out.size))
      clear P12_W3
      have P13_W4 := Lib.hid (P12_W4.out.trans (ER14.out.mono P12_W4.out.size))
      clear P12_W4
      have P13_W5 := Lib.hid (P12_W5.out.trans (ER14.out.mono P12_W5.out.size))
      clear P12_W5
      have P13_W6 := Lib.hid (P12_W6.out.trans (ER14.out.mono P12_W6.out.size))
      clear P12_W6
      have P13_W7 := Lib.hid (P12_W7.out.trans (ER14.out.mono P12_W7.out.size))
      clear P12_W7
      have P13_wx := Lib.hid (P12_wx.out.trans (ER14.out.mono P12_wx.out.size))
      clear P12_wx
      have P13_W9 := Lib.hid (P12_W9.out.trans (ER14.out.mono P12_W9.out.size))
      clear P12_W9
      have P13_W10 := Lib.hid (P12_W10.out.trans (ER14.out.mono P12_W10.out.size))
      clear P12_W10
      have P13_W11 := Lib.hid (E12.out.trans (ER14.out.mono E12.out.size))
      go_wp2
      go_ret
      exact ⟨rfl, P13_w.out⟩
end Go.Proofs.Ytjcombbmngpkpaa
