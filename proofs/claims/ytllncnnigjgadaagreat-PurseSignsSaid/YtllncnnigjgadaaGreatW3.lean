/-
  The law PurseSigns, walked: it answers true for every purse, every text and every step.
-/
import Derived.Test.YtllncnnigjgadaaGreatW2
import Derived.Test.YtllncnnigjgadaaGreatLE
import Derived.Test.YtllncnnigjgadaaGreatDDx
import Derived.Test.YtllncnnigjgadaaGreatLAx
import Derived.Test.YtllncnnigjgadaaGreatOBx
import Derived.Test.YtllncnnigjgadaaGreatPAx
import Derived.Test.YtllncnnigjgadaaGreatPBx
import Derived.Test.YtllncnnigjgadaaGreatPCx
import Derived.Test.YtllncnnigjgadaaGreatPDx
import Derived.Test.YtllncnnigjgadaaGreatPGx
import Derived.Test.YtllncnnigjgadaaGreatRBx
import Derived.Test.YtllncnnigjgadaaGreatSXx
namespace Go.Proofs.YtllncnnigjgadaaGreat
open Go.RowKit

theorem run_field6 (I seed : List UInt8) (z y n m s : Int) (hI : I.length = 16) (hs : seed.length = 32) (w : World) : (Instr.field 40 (.agg (pcs I seed z y n m s).toArray) 0).run Tryz.prog w = .ok (.agg (tcs I seed z y).toArray) w := by
  obtain ⟨d, hu, hd⟩ := rowTree5
  have hf := fPurse6
  cases h : (Tryz.prog.fieldsOf 40).toList with
  | nil => rw [h] at hf; cases hf
  | cons f r =>
    rw [h] at hf
    simp only [List.map_cons, List.cons.injEq, Prod.mk.injEq] at hf
    obtain ⟨⟨_, h1, h2⟩, _⟩ := hf
    have h0 : (Tryz.prog.fieldsOf 40)[0]? = some f := by rw [← Array.getElem?_toList, h]; rfl
    have hp := run_part_agg (P := Tryz.prog) 38 d 50 0 (pcs I seed z y n m s) (tcs I seed z y) hu hd sTree5 (by
      have e : (tcs I seed z y).length = 50 := tcs_length I seed z y hI hs
      unfold pcs
      rw [List.drop_zero, List.take_append_of_le_length (by omega), List.take_of_length_le (by omega)]) w
    unfold Instr.field
    simp only [Sem.run_bind, run_underlying uPurse6, Result.andThen_ok, h0, asAgg, Sem.run_pure, h1, h2]
    exact hp

/-- What Sign answers. -/
def Four6 (cs : List Value) (l : List UInt8) (b : Bool) (E : Int) (w : World) (e : Ending) (w' : World) : Prop := ∃ v, e = .returned (.tuple #[.agg cs.toArray, v, .bool b, .int .i64 E]) ∧ Rd w'.heap.size w' v l ∧ Below w.heap.size w w'

set_option maxRecDepth 1000000 in
set_option maxHeartbeats 4000000 in
theorem signs6_high (I seed text : List UInt8) (z y n m s c : Int)  (tv : Value) (w : World) (hI : I.length = 16) (hs : seed.length = 32) (ht : Rd w.heap.size w tv text) (h1 : 3 ≤ y) (h2 : y ≤ 5) : Calls Tryz.prog 4 #[.agg (pcs I seed z y n m s).toArray, tv, .int .i64 c] w (One (.bool true) w) := by
  obtain ⟨At, ct, rfl, hct, hmt⟩ := ht.shape
  have HTX := Lib.hid ht
  obtain ⟨nt, hnt⟩ : ∃ n, text.length = n := ⟨_, rfl⟩
  rw [hnt] at HTX ⊢
  have HNT := Lib.hid hnt
  have HI := Lib.hid hI
  have HS := Lib.hid hs
  have HT := Lib.hid (sTree' I seed z y hI hs)
  obtain ⟨dT, huT, hdT⟩ := rowTree
  have HU := Lib.hid huT
  have HD := Lib.hid hdT
  have HPS := Lib.hid (sPurse' I seed z y n m s hI hs)
  obtain ⟨dP, huP, hdP⟩ := rowPurse
  have HUP := Lib.hid huP
  have HDP := Lib.hid hdP
  clear huT hdT huP hdP ht hct hmt
  have H1 := Lib.hid h1
  have H2 := Lib.hid h2
  clear hnt hI hs h1 h2
  go_enter Tryz.func4, Tryz.ntmps4
  go_wp2_with (refine wpList_box_blk rfl 34 _ rfl (pcs I seed z y n m s) rfl ?_)
  intro w1 a1 a2 a3
  obtain ⟨g3, hg3⟩ : ∃ g, w.heap.size = g := ⟨_, rfl⟩
  have A1 : Hid (Blk w1 g3 (pcs I seed z y n m s) 34) := by rw [← hg3]; exact a1
  have A3 := Lib.hid a3
  rw [hg3]
  clear a1 a2 a3 hg3
  go_wp2_with (refine wpList_load_mid rfl 32 _ rfl g3 0 rfl (tcs I seed z y) dT (pcs_range A1.out) HU.out HD.out HT.out ?_)
  refine (low6_no I seed z y _ HI.out HS.out H1.out H2.out).mono ?_
  rintro e w2 ⟨rfl, hb⟩
  have B1 : Hid (Blk w2 g3 (pcs I seed z y n m s) 34) := A1.out.below hb A1.out.lt
  have B3 : Hid (Below w.heap.size w w2) := A3.out.trans (hb.mono A3.out.size)
  clear hb A1 A3
  go_wp2_with fail
  refine (alive6_any _).mono ?_
  rintro e w3 ⟨rfl, hb⟩
  have Z3 : Hid (Below w.heap.size w w3) := B3.out.trans (hb.mono B3.out.size)
  clear hb
  go_wp2
  go_ret
  exact ⟨rfl, Z3.out⟩

set_option maxRecDepth 1000000 in
set_option maxHeartbeats 4000000 in
theorem signs6_long (I seed text : List UInt8) (z y n m s c : Int)  (tv : Value) (w : World) (hI : I.length = 16) (hs : seed.length = 32) (ht : Rd w.heap.size w tv text) (hy : y < 3 ∨ 5 < y) (hl : 1000 < text.length) : Calls Tryz.prog 4 #[.agg (pcs I seed z y n m s).toArray, tv, .int .i64 c] w (One (.bool true) w) := by
  obtain ⟨At, ct, rfl, hct, hmt⟩ := ht.shape
  have HTX := Lib.hid ht
  obtain ⟨nt, hnt⟩ : ∃ n, text.length = n := ⟨_, rfl⟩
  rw [hnt] at HTX ⊢
  have HNT := Lib.hid hnt
  have HI := Lib.hid hI
  have HS := Lib.hid hs
  have HT := Lib.hid (sTree' I seed z y hI hs)
  obtain ⟨dT, huT, hdT⟩ := rowTree
  have HU := Lib.hid huT
  have HD := Lib.hid hdT
  have HPS := Lib.hid (sPurse' I seed z y n m s hI hs)
  obtain ⟨dP, huP, hdP⟩ := rowPurse
  have HUP := Lib.hid huP
  have HDP := Lib.hid hdP
  clear huT hdT huP hdP ht hct hmt
  have HY := Lib.hid hy
  have zn : decide ((1000 : Int) < (nt : Int)) = true := decide_eq_true (by omega)
  clear hnt hI hs hy hl
  go_enter Tryz.func4, Tryz.ntmps4
  go_wp2_with (refine wpList_box_blk rfl 34 _ rfl (pcs I seed z y n m s) rfl ?_)
  intro w1 a1 a2 a3
  obtain ⟨g3, hg3⟩ : ∃ g, w.heap.size = g := ⟨_, rfl⟩
  have A1 : Hid (Blk w1 g3 (pcs I seed z y n m s) 34) := by rw [← hg3]; exact a1
  have A3 := Lib.hid a3
  rw [hg3]
  clear a1 a2 a3 hg3
  go_wp2_with (refine wpList_load_mid rfl 32 _ rfl g3 0 rfl (tcs I seed z y) dT (pcs_range A1.out) HU.out HD.out HT.out ?_)
  refine (low6_yes I seed z y _ HI.out HS.out HY.out).mono ?_
  rintro e w2 ⟨rfl, hb⟩
  have B1 : Hid (Blk w2 g3 (pcs I seed z y n m s) 34) := A1.out.below hb A1.out.lt
  have B3 : Hid (Below w.heap.size w w2) := A3.out.trans (hb.mono A3.out.size)
  clear hb A1 A3
  go_wp2_with fail
  refine (alive6_any _).mono ?_
  rintro e w3 ⟨rfl, hb⟩
  have Z3 : Hid (Below w.heap.size w w3) := B3.out.trans (hb.mono B3.out.size)
  clear hb
  go_wp2
  go_ret
  exact ⟨rfl, Z3.out⟩

set_option maxRecDepth 1000000 in
set_option maxHeartbeats 4000000 in
theorem signs6_main (I seed text : List UInt8) (z y n m s c : Int) (J KS : List UInt8) (z1 y1 n1 m1 s1 E : Int) (b : Bool) (n2 m2 : Int) (l : List UInt8) (nb : Bool) (ES LV : Int) (tv : Value) (w : World) (hI : I.length = 16) (hs : seed.length = 32) (ht : Rd w.heap.size w tv text) (hy : y < 3 ∨ 5 < y) (hl : text.length ≤ 1000) (hJ : J.length = 16) (hK : KS.length = 32)
    (n1c : ∀ w, Calls Tryz.prog 13 #[.agg (tcs I seed z y).toArray, .int .i64 c] w (TwoD (.agg (pcs J KS z1 y1 n1 m1 s1).toArray) (.int .i64 E) w)) (n2c : ∀ w, Calls Tryz.prog 14 #[.agg (tcs I seed z y).toArray, .int .i64 c] w (TwoD (.agg (pcs J KS z1 y1 n1 m1 s1).toArray) (.int .i64 E) w))
    (r1c : ∀ w, Calls Tryz.prog 17 #[.agg (pcs I seed z y n m s).toArray] w (One (.bool b) w)) (r2c : ∀ w, Calls Tryz.prog 16 #[.agg (pcs I seed z y n m s).toArray] w (One (.bool b) w))
    (s1c : b = true → ∀ tv w, Rd w.heap.size w tv text → Calls Tryz.prog 18 #[.agg (pcs I seed z y n m s).toArray, tv] w (Four6 (pcs I seed z y n2 m2 s) l nb ES w)) (s2c : b = true → ∀ tv w, Rd w.heap.size w tv text → Calls Tryz.prog 19 #[.agg (pcs I seed z y n m s).toArray, tv] w (Four6 (pcs I seed z y n2 m2 s) l nb ES w))
    (l1c : b = true → ∀ w, Calls Tryz.prog 22 #[.agg (pcs I seed z y n m s).toArray] w (One (.int .i64 LV) w)) (l2c : b = true → ∀ w, Calls Tryz.prog 23 #[.agg (pcs I seed z y n m s).toArray] w (One (.int .i64 LV) w)) : Calls Tryz.prog 4 #[.agg (pcs I seed z y n m s).toArray, tv, .int .i64 c] w (One (.bool true) w) := by
  obtain ⟨At, ct, rfl, hct, hmt⟩ := ht.shape
  have HTX := Lib.hid ht
  obtain ⟨nt, hnt⟩ : ∃ n, text.length = n := ⟨_, rfl⟩
  rw [hnt] at HTX ⊢
  have HNT := Lib.hid hnt
  have HI := Lib.hid hI
  have HS := Lib.hid hs
  have HT := Lib.hid (sTree' I seed z y hI hs)
  obtain ⟨dT, huT, hdT⟩ := rowTree
  have HU := Lib.hid huT
  have HD := Lib.hid hdT
  have HPS := Lib.hid (sPurse' I seed z y n m s hI hs)
  obtain ⟨dP, huP, hdP⟩ := rowPurse
  have HUP := Lib.hid huP
  have HDP := Lib.hid hdP
  clear huT hdT huP hdP ht hct hmt
  have HY := Lib.hid hy
  have HJ := Lib.hid hJ
  have HK := Lib.hid hK
  have N1 := Lib.hid n1c
  have N2 := Lib.hid n2c
  have R1 := Lib.hid r1c
  have R2 := Lib.hid r2c
  have S1 := Lib.hid s1c
  have S2 := Lib.hid s2c
  have L1 := Lib.hid l1c
  have L2 := Lib.hid l2c
  have hfd := run_field6 I seed z y n m s hI hs
  have HXS := Lib.hid (sPurse' J KS z1 y1 n1 m1 s1 hJ hK)
  have HXZ : Hid (pcs0.length = (pcs J KS z1 y1 n1 m1 s1).length) := by show _ = _; rw [pcs_length J KS _ _ _ _ _ hJ hK]; rfl
  have HX6 := Lib.hid (sPurse6' J KS z1 y1 n1 m1 s1 hJ hK)
  have HQS := Lib.hid (sPurse' I seed z y n2 m2 s hI hs)
  have HQZ : Hid (pcs0.length = (pcs I seed z y n2 m2 s).length) := by show _ = _; rw [pcs_length I seed _ _ _ _ _ hI hs]; rfl
  have HQ6 := Lib.hid (sPurse6' I seed z y n2 m2 s hI hs)
  obtain ⟨d6, hu6, hd6⟩ := rowPurse6
  have HU6 := Lib.hid hu6
  have HD6 := Lib.hid hd6
  have zn : decide ((1000 : Int) < (nt : Int)) = false := decide_eq_false (by omega)
  clear hnt hI hs hy hl hJ hK n1c n2c r1c r2c s1c s2c l1c l2c hu6 hd6
  go_enter Tryz.func4, Tryz.ntmps4
  go_wp2_with (refine wpList_box_blk rfl 34 _ rfl (pcs I seed z y n m s) rfl ?_)
  intro w1 a1 a2 a3
  obtain ⟨g3, hg3⟩ : ∃ g, w.heap.size = g := ⟨_, rfl⟩
  have A1 : Hid (Blk w1 g3 (pcs I seed z y n m s) 34) := by rw [← hg3]; exact a1
  have A3 := Lib.hid a3
  rw [hg3]
  clear a1 a2 a3 hg3
  go_wp2_with (refine wpList_load_mid rfl 32 _ rfl g3 0 rfl (tcs I seed z y) dT (pcs_range A1.out) HU.out HD.out HT.out ?_)
  refine (low6_yes I seed z y _ HI.out HS.out HY.out).mono ?_
  rintro e w2 ⟨rfl, hb⟩
  have Bg3 : Hid (Blk w2 g3 (pcs I seed z y n m s) 34) := A1.out.below hb A1.out.lt
  have BB : Hid (Below w.heap.size w w2) := A3.out.trans (hb.mono A3.out.size)
  clear hb A1 A3
  go_wp2_with (refine wpList_load_mid rfl 32 _ rfl g3 0 rfl (tcs I seed z y) dT (pcs_range Bg3.out) HU.out HD.out HT.out ?_)
  refine (N1.out _).mono ?_
  rintro e w3 ⟨rfl, hb⟩
  have Cg3 : Hid (Blk w3 g3 (pcs I seed z y n m s) 34) := Bg3.out.below hb Bg3.out.lt
  have CB : Hid (Below w.heap.size w w3) := BB.out.trans (hb.mono BB.out.size)
  clear hb
  clear Bg3 BB
  go_wp2_with (first | (refine wpList_alloc_blk rfl 34 rfl _ ziPurse ?_) | (refine wpList_load_blkU rfl 34 _ rfl g3 rfl (pcs I seed z y n m s) 34 Cg3.out dP HUP.out HDP.out HPS.out ?_))
  intro w4 a1 a2 a3
  obtain ⟨g7, hg7⟩ : ∃ g, w3.heap.size = g := ⟨_, rfl⟩
  have lg3 : g3 < g7 := by have := Cg3.out.lt; omega
  rw [hg7] at a1 a2 a3 ⊢
  have GG := Lib.hid a1
  obtain ⟨w5, ht_⟩ : ∃ u, w4.setRow g7 (pcs J KS z1 y1 n1 m1 s1).toArray = u := ⟨_, rfl⟩
  have Dg3 : Hid (Blk w5 g3 (pcs I seed z y n m s) 34) := by show Blk _ _ _ _; rw [← ht_]; exact (Cg3.out.below a3 lg3).setRowOther (by omega)
  have Dg7 : Hid (Blk w5 g7 (pcs J KS z1 y1 n1 m1 s1) 34) := by show Blk _ _ _ _; rw [← ht_]; exact a1.setRow
  have DB : Hid (Below w.heap.size w w5) := by show Below _ _ _; rw [← ht_]; exact below_setRow' (CB.out.trans (a3.mono (by have := CB.out.size; omega))) (by have := CB.out.size; omega) _
  have HTT := Lib.hid ht_
  clear a1 a2 a3 hg7 ht_ lg3
  clear Cg3 CB
  go_wp2_with (first | (refine wpList_store_blk rfl 34 _ _ rfl g7 (pcs J KS z1 y1 n1 m1 s1) pcs0 34 rfl rfl GG.out HXS.out HXZ.out (pcs_one _ _ _ _ _ _ _) ?_; rw [HTT.out]; clear HTT) | (refine wpList_load_blkU rfl 34 _ rfl g3 rfl (pcs I seed z y n m s) 34 Dg3.out dP HUP.out HDP.out HPS.out ?_))
  refine (plain6_any I seed _ _ _ _ _ _ HI.out HS.out).mono ?_
  rintro e w6 ⟨rfl, hb⟩
  have Eg3 : Hid (Blk w6 g3 (pcs I seed z y n m s) 34) := Dg3.out.below hb Dg3.out.lt
  have Eg7 : Hid (Blk w6 g7 (pcs J KS z1 y1 n1 m1 s1) 34) := Dg7.out.below hb Dg7.out.lt
  have EB : Hid (Below w.heap.size w w6) := DB.out.trans (hb.mono DB.out.size)
  clear hb
  clear Dg3 Dg7 DB
  clear GG
  go_wp2_with fail
  refine (N2.out _).mono ?_
  rintro e w7 ⟨rfl, hb⟩
  have Fg3 : Hid (Blk w7 g3 (pcs I seed z y n m s) 34) := Eg3.out.below hb Eg3.out.lt
  have Fg7 : Hid (Blk w7 g7 (pcs J KS z1 y1 n1 m1 s1) 34) := Eg7.out.below hb Eg7.out.lt
  have FB : Hid (Below w.heap.size w w7) := EB.out.trans (hb.mono EB.out.size)
  clear hb
  clear Eg3 Eg7 EB
  go_wp2_with (first | (refine wpList_alloc_blk rfl 40 rfl _ ziPurse6 ?_) | (refine wpList_load_blkU rfl 34 _ rfl g3 rfl (pcs I seed z y n m s) 34 Fg3.out dP HUP.out HDP.out HPS.out ?_))
  intro w8 a1 a2 a3
  obtain ⟨g9, hg9⟩ : ∃ g, w7.heap.size = g := ⟨_, rfl⟩
  have lg3 : g3 < g9 := by have := Fg3.out.lt; omega
  have lg7 : g7 < g9 := by have := Fg7.out.lt; omega
  rw [hg9] at a1 a2 a3 ⊢
  have GG := Lib.hid a1
  obtain ⟨w9, ht_⟩ : ∃ u, w8.setRow g9 (pcs J KS z1 y1 n1 m1 s1).toArray = u := ⟨_, rfl⟩
  have Gg3 : Hid (Blk w9 g3 (pcs I seed z y n m s) 34) := by show Blk _ _ _ _; rw [← ht_]; exact (Fg3.out.below a3 lg3).setRowOther (by omega)
  have Gg7 : Hid (Blk w9 g7 (pcs J KS z1 y1 n1 m1 s1) 34) := by show Blk _ _ _ _; rw [← ht_]; exact (Fg7.out.below a3 lg7).setRowOther (by omega)
  have Gg9 : Hid (Blk w9 g9 (pcs J KS z1 y1 n1 m1 s1) 40) := by show Blk _ _ _ _; rw [← ht_]; exact a1.setRow
  have GB : Hid (Below w.heap.size w w9) := by show Below _ _ _; rw [← ht_]; exact below_setRow' (FB.out.trans (a3.mono (by have := FB.out.size; omega))) (by have := FB.out.size; omega) _
  have HTT := Lib.hid ht_
  clear a1 a2 a3 hg9 ht_ lg3 lg7
  clear Fg3 Fg7 FB
  go_wp2_with (first | (refine wpList_store_blk rfl 40 _ _ rfl g9 (pcs J KS z1 y1 n1 m1 s1) pcs0 40 rfl rfl GG.out HX6.out HXZ.out (pcs_one _ _ _ _ _ _ _) ?_; rw [HTT.out]; clear HTT) | (refine wpList_load_blkU rfl 34 _ rfl g3 rfl (pcs I seed z y n m s) 34 Gg3.out dP HUP.out HDP.out HPS.out ?_))
  refine (plain6_any I seed _ _ _ _ _ _ HI.out HS.out).mono ?_
  rintro e wA ⟨rfl, hb⟩
  have Hg3 : Hid (Blk wA g3 (pcs I seed z y n m s) 34) := Gg3.out.below hb Gg3.out.lt
  have Hg7 : Hid (Blk wA g7 (pcs J KS z1 y1 n1 m1 s1) 34) := Gg7.out.below hb Gg7.out.lt
  have Hg9 : Hid (Blk wA g9 (pcs J KS z1 y1 n1 m1 s1) 40) := Gg9.out.below hb Gg9.out.lt
  have HB : Hid (Below w.heap.size w wA) := GB.out.trans (hb.mono GB.out.size)
  clear hb
  clear Gg3 Gg7 Gg9 GB
  clear GG
  go_wp2_with fail
  refine (R2.out _).mono ?_
  rintro e wB ⟨rfl, hb⟩
  have Mg3 : Hid (Blk wB g3 (pcs I seed z y n m s) 34) := Hg3.out.below hb Hg3.out.lt
  have Mg7 : Hid (Blk wB g7 (pcs J KS z1 y1 n1 m1 s1) 34) := Hg7.out.below hb Hg7.out.lt
  have Mg9 : Hid (Blk wB g9 (pcs J KS z1 y1 n1 m1 s1) 40) := Hg9.out.below hb Hg9.out.lt
  have MB : Hid (Below w.heap.size w wB) := HB.out.trans (hb.mono HB.out.size)
  clear hb
  clear Hg3 Hg7 Hg9 HB
  go_wp2_with fail
  clear zn hfd
  refine wp_region_rely2 15 0 (fun x => ⟨#[.agg (pcs I seed z y n m s).toArray, .slice At nt ct, .int IntKind.i64 c, .pointer (some { block := g3, off := 0 }), undef, undef, .bool false, .pointer (some { block := g7, off := 0 }), .int IntKind.i64 E, .pointer (some { block := g9, off := 0 }), .int IntKind.i64 E, .bool b, undef, undef, undef, undef, undef, undef, undef, undef, .pointer (some { block := g3, off := 0 }), .agg (tcs I seed z y).toArray, .bool true, .bool false, .bool false, .slice At nt ct, .int IntKind.i64 ↑nt, .bool false, .bool false, undef, .tuple #[Value.agg (pcs J KS z1 y1 n1 m1 s1).toArray, Value.int IntKind.i64 E], .pointer (some { block := g3, off := 0 }), .agg (tcs I seed z y).toArray, .int IntKind.i64 c, .tuple #[Value.agg (pcs J KS z1 y1 n1 m1 s1).toArray, Value.int IntKind.i64 E], .agg (pcs J KS z1 y1 n1 m1 s1).toArray, .int IntKind.i64 E, .tuple #[Value.agg (pcs J KS z1 y1 n1 m1 s1).toArray, Value.int IntKind.i64 E], .agg (pcs I seed z y n m s).toArray, .agg (pcs I seed z y n m s).toArray, .agg (tcs I seed z y).toArray, .int IntKind.i64 c, .tuple #[Value.agg (pcs J KS z1 y1 n1 m1 s1).toArray, Value.int IntKind.i64 E], .agg (pcs J KS z1 y1 n1 m1 s1).toArray, .int IntKind.i64 E, .agg (pcs I seed z y n m s).toArray, .agg (pcs I seed z y n m s).toArray, .bool b, x 0, x 1, x 2, x 3, x 4, x 5, x 6, x 7, x 8, x 9, x 10, x 11, x 12, x 13, x 14, undef, undef, undef, undef, undef, undef, undef, undef, undef, undef, undef, undef, undef, undef, undef, undef, undef, undef, undef, undef, undef, undef, undef, undef, undef, undef, undef, undef, undef, undef, undef, undef, undef, undef, undef, undef, undef, undef, undef, undef, undef, undef, undef, undef, undef, undef, undef, undef, undef, undef, undef, undef, undef, undef, undef, undef, undef, undef, undef, undef, undef], []⟩) (fun jj => ([eqV (.agg (pcs J KS z1 y1 n1 m1 s1).toArray), (eqV (.agg (pcs J KS z1 y1 n1 m1 s1).toArray)), eqV (.agg (pcs J KS z1 y1 n1 m1 s1).toArray), eqV (.bool false), eqV (.bool false), eqV (.int IntKind.i64 E), eqV (.int IntKind.i64 E), eqV (.bool false), eqV (.bool false), eqV (.bool false), eqV (.agg (pcs I seed z y n m s).toArray), (eqV (.bool b)), eqV (.bool b), eqV (.bool false), eqV (.bool false)] : List (Value → World → Prop)).getD jj (fun _ _ => True)) rfl ⟨fun kk => [_, _, _, _, _, _, _, _, _, _, _, _, _, _, _].getD kk undef, rfl⟩ (by kernel_rfl) (by kernel_rfl) ?steps ?fin
  case steps =>
    refine StepsAt.val 0 (.agg (pcs J KS z1 y1 n1 m1 s1).toArray) rfl (fun _ _ => rfl) rfl rfl (fun x wC hb hd => ?_) ?_
    · exact run_load_blkU 34 (.tmp 7) rfl g7 rfl (pcs J KS z1 y1 n1 m1 s1) 34 (Mg7.out.below hb Mg7.out.lt) dP HUP.out HDP.out HXS.out
    refine StepsAt.cons 1 (fun _ _ _ h hb => h) (fun _ _ => rfl) rfl rfl (fun x wC hb hd K hK => ?_) ?_
    · have h0 : Hid (x 0 = .agg (pcs J KS z1 y1 n1 m1 s1).toArray) := hd 0 (by kernel_rfl)
      go_simp
      refine calls_args (args2 := #[.agg (pcs J KS z1 y1 n1 m1 s1).toArray]) (by rw [h0.out]) ?_
      refine (plain6_any J KS _ _ _ _ _ _ HJ.out HK.out).mono ?_
      rintro e w99 ⟨rfl, hb99⟩
      exact hK.out _ _ hb99 rfl
    refine StepsAt.val 2 (.agg (pcs J KS z1 y1 n1 m1 s1).toArray) rfl (fun _ _ => rfl) rfl rfl (fun x wC hb hd => ?_) ?_
    · exact run_load_blkU 40 (.tmp 9) rfl g9 rfl (pcs J KS z1 y1 n1 m1 s1) 40 (Mg9.out.below hb Mg9.out.lt) d6 HU6.out HD6.out HX6.out
    refine StepsAt.val 3 (.bool false) rfl (fun _ _ => rfl) rfl rfl (fun x wC hb hd => ?_) ?_
    · have h1 : x 1 = .agg (pcs J KS z1 y1 n1 m1 s1).toArray := hd 1 (by kernel_rfl)
      have h2 : x 2 = .agg (pcs J KS z1 y1 n1 m1 s1).toArray := hd 2 (by kernel_rfl)
      exact run_neq_agg 40 _ _ _ rfl (pcs J KS z1 y1 n1 m1 s1).toArray (pcs J KS z1 y1 n1 m1 s1).toArray (by exact h1) (by exact h2) gPurse6 true (eqPurse6_same J KS _ _ _ _ _ HJ.out HK.out _)
    refine StepsAt.val 4 (.bool false) rfl (fun _ _ => rfl) rfl rfl (fun x wC hb hd => ?_) ?_
    · have h3 : x 3 = .bool false := hd 3 (by kernel_rfl)
      rw [h3]
      first | (go_simp; done) | (go_simp; rfl)
    refine StepsAt.valG 5 (.int IntKind.i64 E) rfl (fun _ _ => rfl) rfl (fun x wC hd => ?_) (fun x wC hb hd => ?_) ?_
    · have hG : x 4 = .bool false := hd 4 (by kernel_rfl)
      simp [Region.wanted, yielded, hG]
    · first | (go_simp; done) | (go_simp; rfl)
    refine StepsAt.valG 6 (.int IntKind.i64 E) rfl (fun _ _ => rfl) rfl (fun x wC hd => ?_) (fun x wC hb hd => ?_) ?_
    · have hG : x 4 = .bool false := hd 4 (by kernel_rfl)
      simp [Region.wanted, yielded, hG]
    · first | (go_simp; done) | (go_simp; rfl)
    refine StepsAt.valG 7 (.bool false) rfl (fun _ _ => rfl) rfl (fun x wC hd => ?_) (fun x wC hb hd => ?_) ?_
    · have hG : x 4 = .bool false := hd 4 (by kernel_rfl)
      simp [Region.wanted, yielded, hG]
    · have h5 : x 5 = .int IntKind.i64 E := hd 5 (by kernel_rfl)
      have h6 : x 6 = .int IntKind.i64 E := hd 6 (by kernel_rfl)
      rw [h5, h6]
      first | (go_simp; done) | (go_simp; rfl)
    refine StepsAt.val 8 (.bool false) rfl (fun _ _ => rfl) rfl rfl (fun x wC hb hd => ?_) ?_
    · have h4 : x 4 = .bool false := hd 4 (by kernel_rfl)
      have h7 : x 7 = .bool false := hd 7 (by kernel_rfl)
      rw [h4, h7]
      first | (go_simp; done) | (go_simp; rfl)
    refine StepsAt.val 9 (.bool false) rfl (fun _ _ => rfl) rfl rfl (fun x wC hb hd => ?_) ?_
    · have h8 : x 8 = .bool false := hd 8 (by kernel_rfl)
      rw [h8]
      first | (go_simp; done) | (go_simp; rfl)
    refine StepsAt.valG 10 (.agg (pcs I seed z y n m s).toArray) rfl (fun _ _ => rfl) rfl (fun x wC hd => ?_) (fun x wC hb hd => ?_) ?_
    · have hG : x 9 = .bool false := hd 9 (by kernel_rfl)
      simp [Region.wanted, yielded, hG]
    · exact run_load_blkU 34 (.tmp 3) rfl g3 rfl (pcs I seed z y n m s) 34 (Mg3.out.below hb Mg3.out.lt) dP HUP.out HDP.out HPS.out
    refine StepsAt.consG 11 (fun _ _ _ h hb => h) (fun _ _ => rfl) rfl (fun x wC hd => ?_) (fun x wC hb hd K hK => ?_) ?_
    · have hG : x 9 = .bool false := hd 9 (by kernel_rfl)
      simp [Region.wanted, yielded, hG]
    · have h10 : Hid (x 10 = .agg (pcs I seed z y n m s).toArray) := hd 10 (by kernel_rfl)
      go_simp
      refine calls_args (args2 := #[.agg (pcs I seed z y n m s).toArray]) (by rw [h10.out]) ?_
      refine (R1.out _).mono ?_
      rintro e w99 ⟨rfl, hb99⟩
      exact hK.out _ _ hb99 rfl
    refine StepsAt.valG 12 (.bool b) rfl (fun _ _ => rfl) rfl (fun x wC hd => ?_) (fun x wC hb hd => ?_) ?_
    · have hG : x 9 = .bool false := hd 9 (by kernel_rfl)
      simp [Region.wanted, yielded, hG]
    · first | (go_simp; done) | (go_simp; rfl)
    refine StepsAt.valG 13 (.bool false) rfl (fun _ _ => rfl) rfl (fun x wC hd => ?_) (fun x wC hb hd => ?_) ?_
    · have hG : x 9 = .bool false := hd 9 (by kernel_rfl)
      simp [Region.wanted, yielded, hG]
    · have h11 : x 11 = .bool b := hd 11 (by kernel_rfl)
      have h12 : x 12 = .bool b := hd 12 (by kernel_rfl)
      rw [h11, h12]
      first | (go_simp; done) | (cases b <;> go_simp)
    refine StepsAt.val 14 (.bool false) rfl (fun _ _ => rfl) rfl rfl (fun x wC hb hd => ?_) ?_
    · have h9 : x 9 = .bool false := hd 9 (by kernel_rfl)
      have h13 : x 13 = .bool false := hd 13 (by kernel_rfl)
      rw [h9, h13]
      first | (go_simp; done) | (go_simp; rfl)
    exact StepsAt.done
  case fin =>
    intro x wC hb hd
    have hx0 : x 0 = .agg (pcs J KS z1 y1 n1 m1 s1).toArray := hd 0 (by omega)
    have hx1 : x 1 = .agg (pcs J KS z1 y1 n1 m1 s1).toArray := hd 1 (by omega)
    have hx2 : x 2 = .agg (pcs J KS z1 y1 n1 m1 s1).toArray := hd 2 (by omega)
    have hx3 : x 3 = .bool false := hd 3 (by omega)
    have hx4 : x 4 = .bool false := hd 4 (by omega)
    have hx5 : x 5 = .int IntKind.i64 E := hd 5 (by omega)
    have hx6 : x 6 = .int IntKind.i64 E := hd 6 (by omega)
    have hx7 : x 7 = .bool false := hd 7 (by omega)
    have hx8 : x 8 = .bool false := hd 8 (by omega)
    have hx9 : x 9 = .bool false := hd 9 (by omega)
    have hx10 : x 10 = .agg (pcs I seed z y n m s).toArray := hd 10 (by omega)
    have hx11 : x 11 = .bool b := hd 11 (by omega)
    have hx12 : x 12 = .bool b := hd 12 (by omega)
    have hx13 : x 13 = .bool false := hd 13 (by omega)
    have hx14 : x 14 = .bool false := hd 14 (by omega)
    refine AnyTill.any (S := fun _ => True) (m := 15) _ _ _ _ ?_
    refine AnyTill.done (by kernel_rfl) ?_
    refine NoPanic.normal ?_
    try dsimp only
    rw [hx0, hx1, hx2, hx3, hx4, hx5, hx6, hx7, hx8, hx9, hx10, hx11, hx12, hx13, hx14]
    have Og3 : Hid (Blk wC g3 (pcs I seed z y n m s) 34) := Mg3.out.below hb Mg3.out.lt
    have Og7 : Hid (Blk wC g7 (pcs J KS z1 y1 n1 m1 s1) 34) := Mg7.out.below hb Mg7.out.lt
    have Og9 : Hid (Blk wC g9 (pcs J KS z1 y1 n1 m1 s1) 40) := Mg9.out.below hb Mg9.out.lt
    have OB : Hid (Below w.heap.size w wC) := MB.out.trans (hb.mono MB.out.size)
    clear hx0 hx1 hx2 hx3 hx4 hx5 hx6 hx7 hx8 hx9 hx10 hx11 hx12 hx13 hx14 hd hb Mg3 Mg7 Mg9 MB x
    cases b with
    | false =>
      go_wp2_with fail
      refine (alive6_any _).mono ?_
      rintro e wD ⟨rfl, hb⟩
      have Z3 : Hid (Below w.heap.size w wD) := OB.out.trans (hb.mono OB.out.size)
      clear hb
      go_wp2
      go_ret
      exact ⟨rfl, Z3.out⟩
    | true =>
      have T1 := Lib.hid (S1.out rfl)
      have T2 := Lib.hid (S2.out rfl)
      have U1 := Lib.hid (L1.out rfl)
      have U2 := Lib.hid (L2.out rfl)
      clear S1 S2 L1 L2 Og7 Og9
      go_wp2_with (refine wpList_load_blkU rfl 34 _ rfl g3 rfl (pcs I seed z y n m s) 34 Og3.out dP HUP.out HDP.out HPS.out ?_)
      refine (T1.out _ _ ((HTX.out.below OB.out).more OB.out.size)).mono ?_
      rintro e wD ⟨v1, rfl, hv1, hb⟩
      have Pg3 : Hid (Blk wD g3 (pcs I seed z y n m s) 34) := Og3.out.below hb Og3.out.lt
      have PB : Hid (Below w.heap.size w wD) := OB.out.trans (hb.mono OB.out.size)
      have V1 := Lib.hid hv1
      clear hb hv1 Og3 OB
      go_wp2_with (first | (refine wpList_alloc_blk rfl 34 rfl _ ziPurse ?_) | (refine wpList_load_blkU rfl 34 _ rfl g3 rfl (pcs I seed z y n m s) 34 Pg3.out dP HUP.out HDP.out HPS.out ?_))
      intro wE a1 a2 a3
      obtain ⟨g12, hg12⟩ : ∃ g, wD.heap.size = g := ⟨_, rfl⟩
      have lg3 : g3 < g12 := by have := Pg3.out.lt; omega
      rw [hg12] at a1 a2 a3 ⊢
      have GG := Lib.hid a1
      obtain ⟨wF, ht_⟩ : ∃ u, wE.setRow g12 (pcs I seed z y n2 m2 s).toArray = u := ⟨_, rfl⟩
      have Qg3 : Hid (Blk wF g3 (pcs I seed z y n m s) 34) := by show Blk _ _ _ _; rw [← ht_]; exact (Pg3.out.below a3 lg3).setRowOther (by omega)
      have Qg12 : Hid (Blk wF g12 (pcs I seed z y n2 m2 s) 34) := by show Blk _ _ _ _; rw [← ht_]; exact a1.setRow
      have QB : Hid (Below w.heap.size w wF) := by show Below _ _ _; rw [← ht_]; exact below_setRow' (PB.out.trans (a3.mono (by have := PB.out.size; omega))) (by have := PB.out.size; omega) _
      have HBB : Hid (Below wD.heap.size wD wF) := by show Below _ _ _; rw [← ht_, hg12]; exact below_setRow' a3 (Nat.le_refl _) _
      have HTT := Lib.hid ht_
      clear a1 a2 a3 hg12 ht_ lg3
      have V1F : Hid (Rd wF.heap.size wF v1 l) := by
        have hbb : Below wD.heap.size wD wF := HBB.out
        exact (V1.out.below hbb).more hbb.size
      clear Pg3 PB V1 HBB
      go_wp2_with (first | (refine wpList_store_blk rfl 34 _ _ rfl g12 (pcs I seed z y n2 m2 s) pcs0 34 rfl rfl GG.out HQS.out HQZ.out (pcs_one _ _ _ _ _ _ _) ?_; rw [HTT.out]; clear HTT) | (refine wpList_load_blkU rfl 34 _ rfl g3 rfl (pcs I seed z y n m s) 34 Qg3.out dP HUP.out HDP.out HPS.out ?_))
      refine (plain6_any I seed _ _ _ _ _ _ HI.out HS.out).mono ?_
      rintro e wG ⟨rfl, hb⟩
      have Rg3 : Hid (Blk wG g3 (pcs I seed z y n m s) 34) := Qg3.out.below hb Qg3.out.lt
      have Rg12 : Hid (Blk wG g12 (pcs I seed z y n2 m2 s) 34) := Qg12.out.below hb Qg12.out.lt
      have RB : Hid (Below w.heap.size w wG) := QB.out.trans (hb.mono QB.out.size)
      have V1G : Hid (Rd wG.heap.size wG v1 l) := (V1F.out.below hb).more hb.size
      clear hb
      clear Qg3 Qg12 QB V1F GG
      go_wp2_with fail
      refine (T2.out _ _ ((HTX.out.below RB.out).more RB.out.size)).mono ?_
      rintro e wH ⟨v2, rfl, hv2, hb⟩
      have Sg3 : Hid (Blk wH g3 (pcs I seed z y n m s) 34) := Rg3.out.below hb Rg3.out.lt
      have Sg12 : Hid (Blk wH g12 (pcs I seed z y n2 m2 s) 34) := Rg12.out.below hb Rg12.out.lt
      have SB : Hid (Below w.heap.size w wH) := RB.out.trans (hb.mono RB.out.size)
      have V1H : Hid (Rd wH.heap.size wH v1 l) := (V1G.out.below hb).more hb.size
      have V2H := Lib.hid hv2
      clear hb hv2 Rg3 Rg12 RB V1G
      go_wp2_with (first | (refine wpList_alloc_blk rfl 40 rfl _ ziPurse6 ?_) | (refine wpList_load_blkU rfl 34 _ rfl g3 rfl (pcs I seed z y n m s) 34 Sg3.out dP HUP.out HDP.out HPS.out ?_))
      intro wI a1 a2 a3
      obtain ⟨g16, hg16⟩ : ∃ g, wH.heap.size = g := ⟨_, rfl⟩
      have lg3 : g3 < g16 := by have := Sg3.out.lt; omega
      have lg12 : g12 < g16 := by have := Sg12.out.lt; omega
      rw [hg16] at a1 a2 a3 ⊢
      have GG := Lib.hid a1
      obtain ⟨wJ, ht_⟩ : ∃ u, wI.setRow g16 (pcs I seed z y n2 m2 s).toArray = u := ⟨_, rfl⟩
      have Wg3 : Hid (Blk wJ g3 (pcs I seed z y n m s) 34) := by show Blk _ _ _ _; rw [← ht_]; exact (Sg3.out.below a3 lg3).setRowOther (by omega)
      have Wg12 : Hid (Blk wJ g12 (pcs I seed z y n2 m2 s) 34) := by show Blk _ _ _ _; rw [← ht_]; exact (Sg12.out.below a3 lg12).setRowOther (by omega)
      have Wg16 : Hid (Blk wJ g16 (pcs I seed z y n2 m2 s) 40) := by show Blk _ _ _ _; rw [← ht_]; exact a1.setRow
      have WB : Hid (Below w.heap.size w wJ) := by show Below _ _ _; rw [← ht_]; exact below_setRow' (SB.out.trans (a3.mono (by have := SB.out.size; omega))) (by have := SB.out.size; omega) _
      have HBB : Hid (Below wH.heap.size wH wJ) := by show Below _ _ _; rw [← ht_, hg16]; exact below_setRow' a3 (Nat.le_refl _) _
      have HTT := Lib.hid ht_
      clear a1 a2 a3 hg16 ht_ lg3 lg12
      have V1J : Hid (Rd wJ.heap.size wJ v1 l) := (V1H.out.below HBB.out).more HBB.out.size
      have V2J : Hid (Rd wJ.heap.size wJ v2 l) := (V2H.out.below HBB.out).more HBB.out.size
      clear Sg3 Sg12 SB V1H V2H HBB
      obtain ⟨A1, c1, e1, _, _⟩ := V1J.out.shape
      obtain ⟨A2, c2, e2, _, _⟩ := V2J.out.shape
      obtain ⟨ll, hll⟩ : ∃ x, l.length = x := ⟨_, rfl⟩
      rw [hll] at e1 e2
      subst e1 e2
      clear hll
      go_wp2_with (first | (refine wpList_store_blk rfl 40 _ _ rfl g16 (pcs I seed z y n2 m2 s) pcs0 40 rfl rfl GG.out HQ6.out HQZ.out (pcs_one _ _ _ _ _ _ _) ?_; rw [HTT.out]; clear HTT))
      clear GG
      refine wp_region_rely2 42 0 (fun x => ⟨#[.agg (pcs I seed z y n m s).toArray, .slice At nt ct, .int IntKind.i64 c, .pointer (some { block := g3, off := 0 }), undef, undef, x 41, .pointer (some { block := g7, off := 0 }), .int IntKind.i64 E, .pointer (some { block := g9, off := 0 }), .int IntKind.i64 E, .bool true, .pointer (some { block := g12, off := 0 }), .slice A1 ll c1, .bool nb, .int IntKind.i64 ES, .pointer (some { block := g16, off := 0 }), .slice A2 ll c2, .bool nb, .int IntKind.i64 ES, .pointer (some { block := g3, off := 0 }), .agg (tcs I seed z y).toArray, .bool true, .bool false, .bool false, .slice At nt ct, .int IntKind.i64 ↑nt, .bool false, .bool false, undef, .tuple #[Value.agg (pcs J KS z1 y1 n1 m1 s1).toArray, Value.int IntKind.i64 E], .pointer (some { block := g3, off := 0 }), .agg (tcs I seed z y).toArray, .int IntKind.i64 c, .tuple #[Value.agg (pcs J KS z1 y1 n1 m1 s1).toArray, Value.int IntKind.i64 E], .agg (pcs J KS z1 y1 n1 m1 s1).toArray, .int IntKind.i64 E, .tuple #[Value.agg (pcs J KS z1 y1 n1 m1 s1).toArray, Value.int IntKind.i64 E], .agg (pcs I seed z y n m s).toArray, .agg (pcs I seed z y n m s).toArray, .agg (tcs I seed z y).toArray, .int IntKind.i64 c, .tuple #[Value.agg (pcs J KS z1 y1 n1 m1 s1).toArray, Value.int IntKind.i64 E], .agg (pcs J KS z1 y1 n1 m1 s1).toArray, .int IntKind.i64 E, .agg (pcs I seed z y n m s).toArray, .agg (pcs I seed z y n m s).toArray, .bool true, .agg (pcs J KS z1 y1 n1 m1 s1).toArray, .agg (pcs J KS z1 y1 n1 m1 s1).toArray, .agg (pcs J KS z1 y1 n1 m1 s1).toArray, .bool false, .bool false, .int IntKind.i64 E, .int IntKind.i64 E, .bool false, .bool false, .bool false, .agg (pcs I seed z y n m s).toArray, .bool true, .bool true, .bool false, .bool false, .bool true, .bool false, undef, .tuple #[Value.agg (pcs I seed z y n2 m2 s).toArray, Value.slice A1 ll c1, Value.bool nb, Value.int IntKind.i64 ES], .agg (pcs I seed z y n m s).toArray, .slice At nt ct, .tuple #[Value.agg (pcs I seed z y n2 m2 s).toArray, Value.slice A1 ll c1, Value.bool nb, Value.int IntKind.i64 ES], .agg (pcs I seed z y n2 m2 s).toArray, .slice A1 ll c1, .bool nb, .int IntKind.i64 ES, .tuple #[Value.agg (pcs I seed z y n2 m2 s).toArray, Value.slice A2 ll c2, Value.bool nb, Value.int IntKind.i64 ES], .agg (pcs I seed z y n m s).toArray, .agg (pcs I seed z y n m s).toArray, .slice At nt ct, .tuple #[Value.agg (pcs I seed z y n2 m2 s).toArray, Value.slice A2 ll c2, Value.bool nb, Value.int IntKind.i64 ES], .agg (pcs I seed z y n2 m2 s).toArray, .slice A2 ll c2, .bool nb, .int IntKind.i64 ES, x 0, x 1, x 2, x 3, x 4, x 5, x 6, x 7, x 8, x 9, x 10, x 11, x 12, x 13, x 14, x 15, x 16, x 17, x 18, x 19, x 20, x 21, x 22, x 23, x 24, x 25, x 26, x 27, x 28, x 29, x 30, x 31, x 32, x 33, x 34, x 35, x 36, x 37, x 38, x 39, x 40], []⟩) (fun jj => ([(eqV (.bool true)), eqV (.bool true), eqV (.agg (pcs I seed z y n2 m2 s).toArray), (eqV (.agg (pcs I seed z y n2 m2 s).toArray)), eqV (.agg (pcs I seed z y n2 m2 s).toArray), eqV (.bool true), eqV (.bool true), eqV (.bool true), eqV (.slice A1 ll c1), eqV (.string ⟨l.toArray⟩), eqV (.slice A2 ll c2), eqV (.string ⟨l.toArray⟩), eqV (.bool true), eqV (.bool true), eqV (.bool true), eqV (.bool nb), eqV (.bool nb), eqV (.bool true), eqV (.bool true), eqV (.bool true), eqV (.int IntKind.i64 ES), eqV (.int IntKind.i64 ES), eqV (.bool true), eqV (.bool true), eqV (.bool true), eqV (.agg (pcs I seed z y n m s).toArray), (eqV (.agg (pcs I seed z y m m s).toArray)), (eqV (.agg (pcs I seed z y m m s).toArray)), eqV (.agg (pcs I seed z y n m s).toArray), (eqV (.agg (pcs I seed z y n m s).toArray)), (eqV (.agg (pcs I seed z y m m s).toArray)), eqV (.bool true), eqV (.bool true), eqV (.bool true), eqV (.agg (pcs I seed z y n m s).toArray), (eqV (.int .i64 LV)), eqV (.agg (pcs I seed z y n m s).toArray), (eqV (.agg (pcs I seed z y n m s).toArray)), (eqV (.int .i64 LV)), eqV (.bool true), eqV (.bool true), eqV (.bool true)] : List (Value → World → Prop)).getD jj (fun _ _ => True)) rfl ⟨fun kk => [_, _, _, _, _, _, _, _, _, _, _, _, _, _, _, _, _, _, _, _, _, _, _, _, _, _, _, _, _, _, _, _, _, _, _, _, _, _, _, _, _, _].getD kk undef, rfl⟩ (by kernel_rfl) (by kernel_rfl) ?steps ?fin
      case steps =>
        refine StepsAt.cons 0 (fun _ _ _ h hb => h) (fun _ _ => rfl) rfl rfl (fun x wK hb hd K hK => ?_) ?_
        · go_simp
          refine (alive6_any _).mono ?_
          rintro e w99 ⟨rfl, hb99⟩
          exact hK.out _ _ hb99 rfl
        refine StepsAt.val 1 (.bool true) rfl (fun _ _ => rfl) rfl rfl (fun x wK hb hd => ?_) ?_
        · have h0 : x 0 = .bool true := hd 0 (by kernel_rfl)
          rw [h0]
          first | (go_simp; done) | (go_simp; rfl)
        refine StepsAt.valG 2 (.agg (pcs I seed z y n2 m2 s).toArray) rfl (fun _ _ => rfl) rfl (fun x wK hd => ?_) (fun x wK hb hd => ?_) ?_
        · have hG : x 1 = .bool true := hd 1 (by kernel_rfl)
          simp [Region.wanted, yielded, hG]
        · exact run_load_blkU 34 (.tmp 12) rfl g12 rfl (pcs I seed z y n2 m2 s) 34 (Wg12.out.below hb Wg12.out.lt) dP HUP.out HDP.out HQS.out
        refine StepsAt.consG 3 (fun _ _ _ h hb => h) (fun _ _ => rfl) rfl (fun x wK hd => ?_) (fun x wK hb hd K hK => ?_) ?_
        · have hG : x 1 = .bool true := hd 1 (by kernel_rfl)
          simp [Region.wanted, yielded, hG]
        · have h2 : Hid (x 2 = .agg (pcs I seed z y n2 m2 s).toArray) := hd 2 (by kernel_rfl)
          go_simp
          refine calls_args (args2 := #[.agg (pcs I seed z y n2 m2 s).toArray]) (by rw [h2.out]) ?_
          refine (plain6_any I seed _ _ _ _ _ _ HI.out HS.out).mono ?_
          rintro e w99 ⟨rfl, hb99⟩
          exact hK.out _ _ hb99 rfl
        refine StepsAt.valG 4 (.agg (pcs I seed z y n2 m2 s).toArray) rfl (fun _ _ => rfl) rfl (fun x wK hd => ?_) (fun x wK hb hd => ?_) ?_
        · have hG : x 1 = .bool true := hd 1 (by kernel_rfl)
          simp [Region.wanted, yielded, hG]
        · exact run_load_blkU 40 (.tmp 16) rfl g16 rfl (pcs I seed z y n2 m2 s) 40 (Wg16.out.below hb Wg16.out.lt) d6 HU6.out HD6.out HQ6.out
        refine StepsAt.valG 5 (.bool true) rfl (fun _ _ => rfl) rfl (fun x wK hd => ?_) (fun x wK hb hd => ?_) ?_
        · have hG : x 1 = .bool true := hd 1 (by kernel_rfl)
          simp [Region.wanted, yielded, hG]
        · have h3 : x 3 = .agg (pcs I seed z y n2 m2 s).toArray := hd 3 (by kernel_rfl)
          have h4 : x 4 = .agg (pcs I seed z y n2 m2 s).toArray := hd 4 (by kernel_rfl)
          exact run_eql_agg 40 _ _ _ rfl (pcs I seed z y n2 m2 s).toArray (pcs I seed z y n2 m2 s).toArray (by exact h3) (by exact h4) gPurse6 true (eqPurse6_same I seed _ _ _ _ _ HI.out HS.out _)
        refine StepsAt.val 6 (.bool true) rfl (fun _ _ => rfl) rfl rfl (fun x wK hb hd => ?_) ?_
        · have h1 : x 1 = .bool true := hd 1 (by kernel_rfl)
          have h5 : x 5 = .bool true := hd 5 (by kernel_rfl)
          rw [h1, h5]
          first | (go_simp; done) | (go_simp; rfl)
        refine StepsAt.val 7 (.bool true) rfl (fun _ _ => rfl) rfl rfl (fun x wK hb hd => ?_) ?_
        · have h6 : x 6 = .bool true := hd 6 (by kernel_rfl)
          rw [h6]
          first | (go_simp; done) | (go_simp; rfl)
        refine StepsAt.valG 8 (.slice A1 ll c1) rfl (fun _ _ => rfl) rfl (fun x wK hd => ?_) (fun x wK hb hd => ?_) ?_
        · have hG : x 7 = .bool true := hd 7 (by kernel_rfl)
          simp [Region.wanted, yielded, hG]
        · first | (go_simp; done) | (go_simp; rfl)
        refine StepsAt.valG 9 (.string ⟨l.toArray⟩) rfl (fun _ _ => rfl) rfl (fun x wK hd => ?_) (fun x wK hb hd => ?_) ?_
        · have hG : x 7 = .bool true := hd 7 (by kernel_rfl)
          simp [Region.wanted, yielded, hG]
        · have h8 : x 8 = .slice A1 ll c1 := hd 8 (by kernel_rfl)
          have r1 := V1J.out.below hb
          have t1 := run_string_rd 22 9 5 Tryz.underlying22 Tryz.underlying5 Tryz.underlying9 r1
          rw [h8]
          clear r1
          first | (go_simp; done) | (go_simp; rfl)
        refine StepsAt.valG 10 (.slice A2 ll c2) rfl (fun _ _ => rfl) rfl (fun x wK hd => ?_) (fun x wK hb hd => ?_) ?_
        · have hG : x 7 = .bool true := hd 7 (by kernel_rfl)
          simp [Region.wanted, yielded, hG]
        · first | (go_simp; done) | (go_simp; rfl)
        refine StepsAt.valG 11 (.string ⟨l.toArray⟩) rfl (fun _ _ => rfl) rfl (fun x wK hd => ?_) (fun x wK hb hd => ?_) ?_
        · have hG : x 7 = .bool true := hd 7 (by kernel_rfl)
          simp [Region.wanted, yielded, hG]
        · have h10 : x 10 = .slice A2 ll c2 := hd 10 (by kernel_rfl)
          have r1 := V2J.out.below hb
          have t1 := run_string_rd 22 9 5 Tryz.underlying22 Tryz.underlying5 Tryz.underlying9 r1
          rw [h10]
          clear r1
          first | (go_simp; done) | (go_simp; rfl)
        refine StepsAt.valG 12 (.bool true) rfl (fun _ _ => rfl) rfl (fun x wK hd => ?_) (fun x wK hb hd => ?_) ?_
        · have hG : x 7 = .bool true := hd 7 (by kernel_rfl)
          simp [Region.wanted, yielded, hG]
        · have h9 : x 9 = .string ⟨l.toArray⟩ := hd 9 (by kernel_rfl)
          have h11 : x 11 = .string ⟨l.toArray⟩ := hd 11 (by kernel_rfl)
          rw [h9, h11]
          first | (go_simp; done) | (go_simp; rfl)
        refine StepsAt.val 13 (.bool true) rfl (fun _ _ => rfl) rfl rfl (fun x wK hb hd => ?_) ?_
        · have h7 : x 7 = .bool true := hd 7 (by kernel_rfl)
          have h12 : x 12 = .bool true := hd 12 (by kernel_rfl)
          rw [h7, h12]
          first | (go_simp; done) | (go_simp; rfl)
        refine StepsAt.val 14 (.bool true) rfl (fun _ _ => rfl) rfl rfl (fun x wK hb hd => ?_) ?_
        · have h13 : x 13 = .bool true := hd 13 (by kernel_rfl)
          rw [h13]
          first | (go_simp; done) | (go_simp; rfl)
        refine StepsAt.valG 15 (.bool nb) rfl (fun _ _ => rfl) rfl (fun x wK hd => ?_) (fun x wK hb hd => ?_) ?_
        · have hG : x 14 = .bool true := hd 14 (by kernel_rfl)
          simp [Region.wanted, yielded, hG]
        · first | (go_simp; done) | (go_simp; rfl)
        refine StepsAt.valG 16 (.bool nb) rfl (fun _ _ => rfl) rfl (fun x wK hd => ?_) (fun x wK hb hd => ?_) ?_
        · have hG : x 14 = .bool true := hd 14 (by kernel_rfl)
          simp [Region.wanted, yielded, hG]
        · first | (go_simp; done) | (go_simp; rfl)
        refine StepsAt.valG 17 (.bool true) rfl (fun _ _ => rfl) rfl (fun x wK hd => ?_) (fun x wK hb hd => ?_) ?_
        · have hG : x 14 = .bool true := hd 14 (by kernel_rfl)
          simp [Region.wanted, yielded, hG]
        · have h15 : x 15 = .bool nb := hd 15 (by kernel_rfl)
          have h16 : x 16 = .bool nb := hd 16 (by kernel_rfl)
          rw [h15, h16]
          first | (go_simp; done) | (cases nb <;> go_simp)
        refine StepsAt.val 18 (.bool true) rfl (fun _ _ => rfl) rfl rfl (fun x wK hb hd => ?_) ?_
        · have h14 : x 14 = .bool true := hd 14 (by kernel_rfl)
          have h17 : x 17 = .bool true := hd 17 (by kernel_rfl)
          rw [h14, h17]
          first | (go_simp; done) | (go_simp; rfl)
        refine StepsAt.val 19 (.bool true) rfl (fun _ _ => rfl) rfl rfl (fun x wK hb hd => ?_) ?_
        · have h18 : x 18 = .bool true := hd 18 (by kernel_rfl)
          rw [h18]
          first | (go_simp; done) | (go_simp; rfl)
        refine StepsAt.valG 20 (.int IntKind.i64 ES) rfl (fun _ _ => rfl) rfl (fun x wK hd => ?_) (fun x wK hb hd => ?_) ?_
        · have hG : x 19 = .bool true := hd 19 (by kernel_rfl)
          simp [Region.wanted, yielded, hG]
        · first | (go_simp; done) | (go_simp; rfl)
        refine StepsAt.valG 21 (.int IntKind.i64 ES) rfl (fun _ _ => rfl) rfl (fun x wK hd => ?_) (fun x wK hb hd => ?_) ?_
        · have hG : x 19 = .bool true := hd 19 (by kernel_rfl)
          simp [Region.wanted, yielded, hG]
        · first | (go_simp; done) | (go_simp; rfl)
        refine StepsAt.valG 22 (.bool true) rfl (fun _ _ => rfl) rfl (fun x wK hd => ?_) (fun x wK hb hd => ?_) ?_
        · have hG : x 19 = .bool true := hd 19 (by kernel_rfl)
          simp [Region.wanted, yielded, hG]
        · have h20 : x 20 = .int IntKind.i64 ES := hd 20 (by kernel_rfl)
          have h21 : x 21 = .int IntKind.i64 ES := hd 21 (by kernel_rfl)
          rw [h20, h21]
          first | (go_simp; done) | (go_simp; rfl)
        refine StepsAt.val 23 (.bool true) rfl (fun _ _ => rfl) rfl rfl (fun x wK hb hd => ?_) ?_
        · have h19 : x 19 = .bool true := hd 19 (by kernel_rfl)
          have h22 : x 22 = .bool true := hd 22 (by kernel_rfl)
          rw [h19, h22]
          first | (go_simp; done) | (go_simp; rfl)
        refine StepsAt.val 24 (.bool true) rfl (fun _ _ => rfl) rfl rfl (fun x wK hb hd => ?_) ?_
        · have h23 : x 23 = .bool true := hd 23 (by kernel_rfl)
          rw [h23]
          first | (go_simp; done) | (go_simp; rfl)
        refine StepsAt.valG 25 (.agg (pcs I seed z y n m s).toArray) rfl (fun _ _ => rfl) rfl (fun x wK hd => ?_) (fun x wK hb hd => ?_) ?_
        · have hG : x 24 = .bool true := hd 24 (by kernel_rfl)
          simp [Region.wanted, yielded, hG]
        · exact run_load_blkU 34 (.tmp 3) rfl g3 rfl (pcs I seed z y n m s) 34 (Wg3.out.below hb Wg3.out.lt) dP HUP.out HDP.out HPS.out
        refine StepsAt.consG 26 (fun _ _ _ h hb => h) (fun _ _ => rfl) rfl (fun x wK hd => ?_) (fun x wK hb hd K hK => ?_) ?_
        · have hG : x 24 = .bool true := hd 24 (by kernel_rfl)
          simp [Region.wanted, yielded, hG]
        · have h25 : Hid (x 25 = .agg (pcs I seed z y n m s).toArray) := hd 25 (by kernel_rfl)
          go_simp
          refine calls_args (args2 := #[.agg (pcs I seed z y n m s).toArray]) (by rw [h25.out]) ?_
          refine (crashP_any I seed _ _ _ _ _ _ HI.out HS.out).mono ?_
          rintro e w99 ⟨rfl, hb99⟩
          exact hK.out _ _ hb99 rfl
        refine StepsAt.consG 27 (fun _ _ _ h hb => h) (fun _ _ => rfl) rfl (fun x wK hd => ?_) (fun x wK hb hd K hK => ?_) ?_
        · have hG : x 24 = .bool true := hd 24 (by kernel_rfl)
          simp [Region.wanted, yielded, hG]
        · have h26 : Hid (x 26 = .agg (pcs I seed z y m m s).toArray) := hd 26 (by kernel_rfl)
          go_simp
          refine calls_args (args2 := #[.agg (pcs I seed z y m m s).toArray]) (by rw [h26.out]) ?_
          refine (plain6_any I seed _ _ _ _ _ _ HI.out HS.out).mono ?_
          rintro e w99 ⟨rfl, hb99⟩
          exact hK.out _ _ hb99 rfl
        refine StepsAt.valG 28 (.agg (pcs I seed z y n m s).toArray) rfl (fun _ _ => rfl) rfl (fun x wK hd => ?_) (fun x wK hb hd => ?_) ?_
        · have hG : x 24 = .bool true := hd 24 (by kernel_rfl)
          simp [Region.wanted, yielded, hG]
        · exact run_load_blkU 34 (.tmp 3) rfl g3 rfl (pcs I seed z y n m s) 34 (Wg3.out.below hb Wg3.out.lt) dP HUP.out HDP.out HPS.out
        refine StepsAt.consG 29 (fun _ _ _ h hb => h) (fun _ _ => rfl) rfl (fun x wK hd => ?_) (fun x wK hb hd K hK => ?_) ?_
        · have hG : x 24 = .bool true := hd 24 (by kernel_rfl)
          simp [Region.wanted, yielded, hG]
        · have h28 : Hid (x 28 = .agg (pcs I seed z y n m s).toArray) := hd 28 (by kernel_rfl)
          go_simp
          refine calls_args (args2 := #[.agg (pcs I seed z y n m s).toArray]) (by rw [h28.out]) ?_
          refine (plain6_any I seed _ _ _ _ _ _ HI.out HS.out).mono ?_
          rintro e w99 ⟨rfl, hb99⟩
          exact hK.out _ _ hb99 rfl
        refine StepsAt.consG 30 (fun _ _ _ h hb => h) (fun _ _ => rfl) rfl (fun x wK hd => ?_) (fun x wK hb hd K hK => ?_) ?_
        · have hG : x 24 = .bool true := hd 24 (by kernel_rfl)
          simp [Region.wanted, yielded, hG]
        · have h29 : Hid (x 29 = .agg (pcs I seed z y n m s).toArray) := hd 29 (by kernel_rfl)
          go_simp
          refine calls_args (args2 := #[.agg (pcs I seed z y n m s).toArray]) (by rw [h29.out]) ?_
          refine (rf6Crash_any I seed _ _ _ _ _ _ HI.out HS.out).mono ?_
          rintro e w99 ⟨rfl, hb99⟩
          exact hK.out _ _ hb99 rfl
        refine StepsAt.valG 31 (.bool true) rfl (fun _ _ => rfl) rfl (fun x wK hd => ?_) (fun x wK hb hd => ?_) ?_
        · have hG : x 24 = .bool true := hd 24 (by kernel_rfl)
          simp [Region.wanted, yielded, hG]
        · have h27 : x 27 = .agg (pcs I seed z y m m s).toArray := hd 27 (by kernel_rfl)
          have h30 : x 30 = .agg (pcs I seed z y m m s).toArray := hd 30 (by kernel_rfl)
          exact run_eql_agg 40 _ _ _ rfl (pcs I seed z y m m s).toArray (pcs I seed z y m m s).toArray (by exact h27) (by exact h30) gPurse6 true (eqPurse6_same I seed _ _ _ _ _ HI.out HS.out _)
        refine StepsAt.val 32 (.bool true) rfl (fun _ _ => rfl) rfl rfl (fun x wK hb hd => ?_) ?_
        · have h24 : x 24 = .bool true := hd 24 (by kernel_rfl)
          have h31 : x 31 = .bool true := hd 31 (by kernel_rfl)
          rw [h24, h31]
          first | (go_simp; done) | (go_simp; rfl)
        refine StepsAt.val 33 (.bool true) rfl (fun _ _ => rfl) rfl rfl (fun x wK hb hd => ?_) ?_
        · have h32 : x 32 = .bool true := hd 32 (by kernel_rfl)
          rw [h32]
          first | (go_simp; done) | (go_simp; rfl)
        refine StepsAt.valG 34 (.agg (pcs I seed z y n m s).toArray) rfl (fun _ _ => rfl) rfl (fun x wK hd => ?_) (fun x wK hb hd => ?_) ?_
        · have hG : x 33 = .bool true := hd 33 (by kernel_rfl)
          simp [Region.wanted, yielded, hG]
        · exact run_load_blkU 34 (.tmp 3) rfl g3 rfl (pcs I seed z y n m s) 34 (Wg3.out.below hb Wg3.out.lt) dP HUP.out HDP.out HPS.out
        refine StepsAt.consG 35 (fun _ _ _ h hb => h) (fun _ _ => rfl) rfl (fun x wK hd => ?_) (fun x wK hb hd K hK => ?_) ?_
        · have hG : x 33 = .bool true := hd 33 (by kernel_rfl)
          simp [Region.wanted, yielded, hG]
        · have h34 : Hid (x 34 = .agg (pcs I seed z y n m s).toArray) := hd 34 (by kernel_rfl)
          go_simp
          refine calls_args (args2 := #[.agg (pcs I seed z y n m s).toArray]) (by rw [h34.out]) ?_
          refine (U1.out _).mono ?_
          rintro e w99 ⟨rfl, hb99⟩
          exact hK.out _ _ hb99 rfl
        refine StepsAt.valG 36 (.agg (pcs I seed z y n m s).toArray) rfl (fun _ _ => rfl) rfl (fun x wK hd => ?_) (fun x wK hb hd => ?_) ?_
        · have hG : x 33 = .bool true := hd 33 (by kernel_rfl)
          simp [Region.wanted, yielded, hG]
        · exact run_load_blkU 34 (.tmp 3) rfl g3 rfl (pcs I seed z y n m s) 34 (Wg3.out.below hb Wg3.out.lt) dP HUP.out HDP.out HPS.out
        refine StepsAt.consG 37 (fun _ _ _ h hb => h) (fun _ _ => rfl) rfl (fun x wK hd => ?_) (fun x wK hb hd K hK => ?_) ?_
        · have hG : x 33 = .bool true := hd 33 (by kernel_rfl)
          simp [Region.wanted, yielded, hG]
        · have h36 : Hid (x 36 = .agg (pcs I seed z y n m s).toArray) := hd 36 (by kernel_rfl)
          go_simp
          refine calls_args (args2 := #[.agg (pcs I seed z y n m s).toArray]) (by rw [h36.out]) ?_
          refine (plain6_any I seed _ _ _ _ _ _ HI.out HS.out).mono ?_
          rintro e w99 ⟨rfl, hb99⟩
          exact hK.out _ _ hb99 rfl
        refine StepsAt.consG 38 (fun _ _ _ h hb => h) (fun _ _ => rfl) rfl (fun x wK hd => ?_) (fun x wK hb hd K hK => ?_) ?_
        · have hG : x 33 = .bool true := hd 33 (by kernel_rfl)
          simp [Region.wanted, yielded, hG]
        · have h37 : Hid (x 37 = .agg (pcs I seed z y n m s).toArray) := hd 37 (by kernel_rfl)
          go_simp
          refine calls_args (args2 := #[.agg (pcs I seed z y n m s).toArray]) (by rw [h37.out]) ?_
          refine (U2.out _).mono ?_
          rintro e w99 ⟨rfl, hb99⟩
          exact hK.out _ _ hb99 rfl
        refine StepsAt.valG 39 (.bool true) rfl (fun _ _ => rfl) rfl (fun x wK hd => ?_) (fun x wK hb hd => ?_) ?_
        · have hG : x 33 = .bool true := hd 33 (by kernel_rfl)
          simp [Region.wanted, yielded, hG]
        · have h35 : x 35 = .int .i64 LV := hd 35 (by kernel_rfl)
          have h38 : x 38 = .int .i64 LV := hd 38 (by kernel_rfl)
          rw [h35, h38]
          first | (go_simp; done) | (go_simp; rfl)
        refine StepsAt.val 40 (.bool true) rfl (fun _ _ => rfl) rfl rfl (fun x wK hb hd => ?_) ?_
        · have h33 : x 33 = .bool true := hd 33 (by kernel_rfl)
          have h39 : x 39 = .bool true := hd 39 (by kernel_rfl)
          rw [h33, h39]
          first | (go_simp; done) | (go_simp; rfl)
        refine StepsAt.val 41 (.bool true) rfl (fun _ _ => rfl) rfl rfl (fun x wK hb hd => ?_) ?_
        · have h40 : x 40 = .bool true := hd 40 (by kernel_rfl)
          rw [h40]
          first | (go_simp; done) | (go_simp; rfl)
        exact StepsAt.done
      case fin =>
        intro x wK hb hd
        have hx0 : x 0 = .bool true := hd 0 (by omega)
        have hx1 : x 1 = .bool true := hd 1 (by omega)
        have hx2 : x 2 = .agg (pcs I seed z y n2 m2 s).toArray := hd 2 (by omega)
        have hx3 : x 3 = .agg (pcs I seed z y n2 m2 s).toArray := hd 3 (by omega)
        have hx4 : x 4 = .agg (pcs I seed z y n2 m2 s).toArray := hd 4 (by omega)
        have hx5 : x 5 = .bool true := hd 5 (by omega)
        have hx6 : x 6 = .bool true := hd 6 (by omega)
        have hx7 : x 7 = .bool true := hd 7 (by omega)
        have hx8 : x 8 = .slice A1 ll c1 := hd 8 (by omega)
        have hx9 : x 9 = .string ⟨l.toArray⟩ := hd 9 (by omega)
        have hx10 : x 10 = .slice A2 ll c2 := hd 10 (by omega)
        have hx11 : x 11 = .string ⟨l.toArray⟩ := hd 11 (by omega)
        have hx12 : x 12 = .bool true := hd 12 (by omega)
        have hx13 : x 13 = .bool true := hd 13 (by omega)
        have hx14 : x 14 = .bool true := hd 14 (by omega)
        have hx15 : x 15 = .bool nb := hd 15 (by omega)
        have hx16 : x 16 = .bool nb := hd 16 (by omega)
        have hx17 : x 17 = .bool true := hd 17 (by omega)
        have hx18 : x 18 = .bool true := hd 18 (by omega)
        have hx19 : x 19 = .bool true := hd 19 (by omega)
        have hx20 : x 20 = .int IntKind.i64 ES := hd 20 (by omega)
        have hx21 : x 21 = .int IntKind.i64 ES := hd 21 (by omega)
        have hx22 : x 22 = .bool true := hd 22 (by omega)
        have hx23 : x 23 = .bool true := hd 23 (by omega)
        have hx24 : x 24 = .bool true := hd 24 (by omega)
        have hx25 : x 25 = .agg (pcs I seed z y n m s).toArray := hd 25 (by omega)
        have hx26 : x 26 = .agg (pcs I seed z y m m s).toArray := hd 26 (by omega)
        have hx27 : x 27 = .agg (pcs I seed z y m m s).toArray := hd 27 (by omega)
        have hx28 : x 28 = .agg (pcs I seed z y n m s).toArray := hd 28 (by omega)
        have hx29 : x 29 = .agg (pcs I seed z y n m s).toArray := hd 29 (by omega)
        have hx30 : x 30 = .agg (pcs I seed z y m m s).toArray := hd 30 (by omega)
        have hx31 : x 31 = .bool true := hd 31 (by omega)
        have hx32 : x 32 = .bool true := hd 32 (by omega)
        have hx33 : x 33 = .bool true := hd 33 (by omega)
        have hx34 : x 34 = .agg (pcs I seed z y n m s).toArray := hd 34 (by omega)
        have hx35 : x 35 = .int .i64 LV := hd 35 (by omega)
        have hx36 : x 36 = .agg (pcs I seed z y n m s).toArray := hd 36 (by omega)
        have hx37 : x 37 = .agg (pcs I seed z y n m s).toArray := hd 37 (by omega)
        have hx38 : x 38 = .int .i64 LV := hd 38 (by omega)
        have hx39 : x 39 = .bool true := hd 39 (by omega)
        have hx40 : x 40 = .bool true := hd 40 (by omega)
        have hx41 : x 41 = .bool true := hd 41 (by omega)
        refine AnyTill.any (S := fun _ => True) (m := 42) _ _ _ _ ?_
        refine AnyTill.done (by kernel_rfl) ?_
        refine NoPanic.normal ?_
        try dsimp only
        rw [hx0, hx1, hx2, hx3, hx4, hx5, hx6, hx7, hx8, hx9, hx10, hx11, hx12, hx13, hx14, hx15, hx16, hx17, hx18, hx19, hx20, hx21, hx22, hx23, hx24, hx25, hx26, hx27, hx28, hx29, hx30, hx31, hx32, hx33, hx34, hx35, hx36, hx37, hx38, hx39, hx40, hx41]
        have ZB : Hid (Below w.heap.size w wK) := WB.out.trans (hb.mono WB.out.size)
        clear hx0 hx1 hx2 hx3 hx4 hx5 hx6 hx7 hx8 hx9 hx10 hx11 hx12 hx13 hx14 hx15 hx16 hx17 hx18 hx19 hx20 hx21 hx22 hx23 hx24 hx25 hx26 hx27 hx28 hx29 hx30 hx31 hx32 hx33 hx34 hx35 hx36 hx37 hx38 hx39 hx40 hx41 hd hb Wg3 Wg12 Wg16 WB x
        go_wp2
        go_ret
        exact ⟨rfl, ZB.out⟩

theorem four6_nil {f : Nat} {args : Array Value} {w : World} {cs : List Value} (h : Calls Tryz.prog f args w (fun e w' => e = .returned (.tuple #[.agg cs.toArray, .slice none 0 0, .bool false, .int .i64 12]) ∧ Below w.heap.size w w')) : Calls Tryz.prog f args w (Four6 cs [] false 12 w) := h.mono (by rintro e w' ⟨rfl, hb⟩; exact ⟨_, rfl, Rd.nil _ _, hb⟩)
theorem four6_own {f : Nat} {args : Array Value} {w : World} {cs : List Value} {l : List UInt8} {b : Bool} (h : Calls Tryz.prog f args w (fun e w' => ∃ v, e = .returned (.tuple #[.agg cs.toArray, v, .bool b, .int .i64 0]) ∧ Own 5 w' w.heap.size v l ∧ Below w.heap.size w w')) : Calls Tryz.prog f args w (Four6 cs l b 0 w) := h.mono (by rintro e w' ⟨v, rfl, hown, hb⟩; exact ⟨v, rfl, hown.rd, hb⟩)
/-- What New answers, on both sides. -/
theorem new6_both (I seed : List UInt8) (z y c : Int) (hI : I.length = 16) (hs : seed.length = 32) : ∃ (J K : List UInt8) (z1 y1 n1 m1 s1 E : Int), J.length = 16 ∧ K.length = 32 ∧
    (∀ w, Calls Tryz.prog 13 #[.agg (tcs I seed z y).toArray, .int .i64 c] w (TwoD (.agg (pcs J K z1 y1 n1 m1 s1).toArray) (.int .i64 E) w)) ∧ (∀ w, Calls Tryz.prog 14 #[.agg (tcs I seed z y).toArray, .int .i64 c] w (TwoD (.agg (pcs J K z1 y1 n1 m1 s1).toArray) (.int .i64 E) w)) := by
  rcases purse_or z y 0 0 c with ⟨k, h, N, M, S, hf, rfl, rfl, hN, hM, rfl⟩ | hp
  · obtain rfl : N = 0 := by omega
    obtain rfl : M = 0 := by omega
    exact ⟨I, seed, k, h, 0, 0, S, 0, hI, hs, fun w => newP_yes I seed k h S w hI hs hf, fun w => rf6New_yes I seed k h S w hI hs hf⟩
  · exact ⟨K16, K32, 0, 0, 0, 0, 0, 1, rfl, rfl, fun w => newP_no I seed z y c w hI hs hp, fun w => rf6New_no I seed z y c w hI hs hp⟩
theorem signs6_all (I seed : List UInt8) (z y n m s : Int) (tv : Value) (text : List UInt8) (c : Int) (w : World) (hI : I.length = 16) (hs : seed.length = 32) (ht : Rd w.heap.size w tv text) : Calls Tryz.prog 4 #[.agg (pcs I seed z y n m s).toArray, tv, .int .i64 c] w (One (.bool true) w) := by
  by_cases h1 : 3 ≤ y ∧ y ≤ 5
  · exact signs6_high I seed text z y n m s c tv w hI hs ht h1.1 h1.2
  by_cases h2 : 1000 < text.length
  · exact signs6_long I seed text z y n m s c tv w hI hs ht (by omega) h2
  obtain ⟨J, K, z1, y1, n1, m1, s1, E, hJ, hK, a1, a2⟩ := new6_both I seed z y c hI hs
  rcases purse_or z y n m s with ⟨k, h, N, M, S, hf, rfl, rfl, rfl, rfl, rfl⟩ | hp
  · have hnm := hf.nm
    have hmh := hf.mh
    by_cases hx : N = 2 ^ h
    · exact signs6_main I seed text k h N M S c J K z1 y1 n1 m1 s1 E true N M [] false 12 _ tv w hI hs ht (by omega) (by omega) hJ hK a1 a2 (fun w => rightP_yes I seed k h N M S w hI hs hf) (fun w => rf6Right_yes I seed k h N M S w hI hs hf)
        (fun _ tv w ht => four6_nil (signP_spent I seed k h N M S tv w hI hs hf hx)) (fun _ tv w ht => four6_nil (rf6Sign_spent I seed k h N M S tv w hI hs hf hx)) (fun _ w => leftP_yes I seed k h N M S w hI hs hf) (fun _ w => rf6Left_yes I seed k h N M S w hI hs hf)
    · by_cases hm : N < M
      · exact signs6_main I seed text k h N M S c J K z1 y1 n1 m1 s1 E true ((N + 1 : Nat) : Int) M _ false 0 _ tv w hI hs ht (by omega) (by omega) hJ hK a1 a2 (fun w => rightP_yes I seed k h N M S w hI hs hf) (fun w => rf6Right_yes I seed k h N M S w hI hs hf)
          (fun _ tv w ht => four6_own (signP_leaf I seed text k h N M S M false tv w hI hs hf (by omega) ht (by omega) (fun w => reserveP_old I seed k h N M S w hI hs hf hm))) (fun _ tv w ht => four6_own (rf6Sign_old I seed text k h N M S tv w hI hs hf (by omega) ht (by omega) hm)) (fun _ w => leftP_yes I seed k h N M S w hI hs hf) (fun _ w => rf6Left_yes I seed k h N M S w hI hs hf)
      · exact signs6_main I seed text k h N M S c J K z1 y1 n1 m1 s1 E true ((N + 1 : Nat) : Int) ((min (M + S) (2 ^ h) : Nat) : Int) _ true 0 _ tv w hI hs ht (by omega) (by omega) hJ hK a1 a2 (fun w => rightP_yes I seed k h N M S w hI hs hf) (fun w => rf6Right_yes I seed k h N M S w hI hs hf)
          (fun _ tv w ht => four6_own (signP_leaf I seed text k h N M S (min (M + S) (2 ^ h)) true tv w hI hs hf (by omega) ht (by omega) (fun w => reserveP_new I seed k h N M S w hI hs hf (by omega)))) (fun _ tv w ht => four6_own (rf6Sign_new I seed text k h N M S tv w hI hs hf (by omega) ht (by omega) (by omega))) (fun _ w => leftP_yes I seed k h N M S w hI hs hf) (fun _ w => rf6Left_yes I seed k h N M S w hI hs hf)
  · exact signs6_main I seed text z y n m s c J K z1 y1 n1 m1 s1 E false 0 0 [] false 0 0 tv w hI hs ht (by omega) (by omega) hJ hK a1 a2 (fun w => rightP_no I seed z y n m s w hI hs hp) (fun w => rf6Right_no I seed z y n m s w hI hs hp)
      (fun h => by cases h) (fun h => by cases h) (fun h => by cases h) (fun h => by cases h)
end Go.Proofs.YtllncnnigjgadaaGreat
