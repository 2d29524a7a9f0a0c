/-
  The document's purse: Owns, for every purse that is right; the law PurseOwns, walked: it answers true for every purse and all bytes.
-/
import Derived.Test.YtllncnnigjgadaaGreatV6
import Derived.Test.YtllncnnigjgadaaGreatMB
import Derived.Test.YtllncnnigjgadaaGreatPG
namespace Go.Proofs.YtllncnnigjgadaaGreat
open Go.RowKit

set_option maxRecDepth 100000 in
set_option maxHeartbeats 1000000 in
theorem rf6Owns_yes (I seed text sg : List UInt8) (k h : Nat) (n m s E : Int) (tv sv : Value) (w : World) (hI : I.length = 16) (hs : seed.length = 32) (hk : Wd k) (hh : Ht h) (ht : Rd w.heap.size w tv text) (hsv : Rd w.heap.size w sv sg)
    (hv : ∀ pv w, Rd w.heap.size w pv (lpub I seed k h) → Rd w.heap.size w tv text → Rd w.heap.size w sv sg → Calls Tryz.prog 10 #[pv, tv, sv] w (One (.int .i64 E) w)) :
    Calls Tryz.prog 25 #[.agg (pcs I seed (k : Int) (h : Int) n m s).toArray, tv, sv] w (One (.bool (E == 0)) w) := by
  have HI := Lib.hid hI
  have HS := Lib.hid hs
  have HK := Lib.hid hk
  have HH := Lib.hid hh
  have HTX := Lib.hid ht
  have HSX := Lib.hid hsv
  have HV := Lib.hid hv
  have HT := Lib.hid (sTree5' I seed (k : Int) (h : Int) hI hs)
  obtain ⟨dT, huT, hdT⟩ := rowTree5
  have HU := Lib.hid huT
  have HD := Lib.hid hdT
  clear hI hs huT hdT hk hh ht hsv hv
  go_enter Tryz.func25, Tryz.ntmps25
  go_wp2_with (refine wpList_box_blk rfl 40 _ rfl (pcs I seed (k : Int) (h : Int) n m s) rfl ?_)
  intro w1 a1 a2 a3
  obtain ⟨g0, hg0⟩ : ∃ g, w.heap.size = g := ⟨_, rfl⟩
  have A1 : Hid (Blk w1 g0 (pcs I seed (k : Int) (h : Int) n m s) 40) := by rw [← hg0]; exact a1
  have A3 := Lib.hid a3
  rw [hg0]
  clear a1 a2 a3 hg0
  go_wp2_with (refine wpList_load_mid rfl 38 _ rfl g0 0 rfl (tcs I seed (k : Int) (h : Int)) dT (pcs_range A1.out) HU.out HD.out HT.out ?_)
  refine (rfPublicT_yes I seed k h _ HI.out HS.out HK.out HH.out).mono ?_
  rintro e w2 ⟨v2, rfl, hown, hb⟩
  have B3 : Hid (Below w.heap.size w w2) := A3.out.trans (hb.mono A3.out.size)
  have BP : Hid (Rd w2.heap.size w2 v2 (lpub I seed k h)) := hown.rd
  clear hb A1 A3 hown
  go_wp2_with fail
  refine (HV.out _ _ BP.out ((HTX.out.below B3.out).more B3.out.size) ((HSX.out.below B3.out).more B3.out.size)).mono ?_
  rintro e w3 ⟨rfl, hb⟩
  have C3 : Hid (Below w.heap.size w w3) := B3.out.trans (hb.mono B3.out.size)
  clear hb B3 BP
  go_wp2
  go_ret
  exact ⟨rfl, C3.out⟩

set_option maxRecDepth 1000000 in
set_option maxHeartbeats 4000000 in
theorem owns_high (I seed text sg : List UInt8) (z y n m s : Int) (tv sv : Value) (w : World) (hI : I.length = 16) (hs : seed.length = 32) (ht : Rd w.heap.size w tv text) (hsg : Rd w.heap.size w sv sg) (h1 : 3 ≤ y) (h2 : y ≤ 5) : Calls Tryz.prog 5 #[.agg (pcs I seed z y n m s).toArray, tv, sv] w (One (.bool true) w) := by
  obtain ⟨At, ct, rfl, hct, hmt⟩ := ht.shape
  obtain ⟨As, cs, rfl, hcs, hms⟩ := hsg.shape
  have HTX := Lib.hid ht
  have HSX := Lib.hid hsg
  obtain ⟨nt, hnt⟩ : ∃ n, text.length = n := ⟨_, rfl⟩
  obtain ⟨ns, hns⟩ : ∃ n, sg.length = n := ⟨_, rfl⟩
  rw [hnt] at HTX ⊢
  rw [hns] at HSX ⊢
  have HNT := Lib.hid hnt
  have HNS := Lib.hid hns
  have HI := Lib.hid hI
  have HS := Lib.hid hs
  have HT := Lib.hid (sTree' I seed z y hI hs)
  obtain ⟨dT, huT, hdT⟩ := rowTree
  have HU := Lib.hid huT
  have HD := Lib.hid hdT
  have HPS := Lib.hid (sPurse' I seed z y n m s hI hs)
  obtain ⟨dP, huP, hdP⟩ := rowPurse
  have HUP := Lib.hid huP
  have HDP := Lib.hid hdP
  have H1 := Lib.hid h1
  have H2 := Lib.hid h2
  clear ht hsg hct hmt hcs hms hnt hns hI hs huT hdT huP hdP h1 h2
  go_enter Tryz.func5, Tryz.ntmps5
  go_wp2_with (refine wpList_box_blk rfl 34 _ rfl (pcs I seed z y n m s) rfl ?_)
  intro w1 a1 a2 a3
  obtain ⟨g0, hg0⟩ : ∃ g, w.heap.size = g := ⟨_, rfl⟩
  have A1 : Hid (Blk w1 g0 (pcs I seed z y n m s) 34) := by rw [← hg0]; exact a1
  have A3 := Lib.hid a3
  rw [hg0]
  clear a1 a2 a3 hg0
  go_wp2_with (refine wpList_load_mid rfl 32 _ rfl g0 0 rfl (tcs I seed z y) dT (pcs_range A1.out) HU.out HD.out HT.out ?_)
  refine (low6_no I seed z y _ HI.out HS.out H1.out H2.out).mono ?_
  rintro e w2 ⟨rfl, hb⟩
  have B1 : Hid (Blk w2 g0 (pcs I seed z y n m s) 34) := A1.out.below hb A1.out.lt
  have B3 : Hid (Below w.heap.size w w2) := A3.out.trans (hb.mono A3.out.size)
  clear hb A1 A3
  go_wp2_with fail
  refine (alive6_any _).mono ?_
  rintro e w3 ⟨rfl, hb⟩
  have Z3 : Hid (Below w.heap.size w w3) := B3.out.trans (hb.mono B3.out.size)
  clear hb
  go_wp2
  go_ret
  exact ⟨rfl, Z3.out⟩

set_option maxRecDepth 1000000 in
set_option maxHeartbeats 4000000 in
theorem owns_text (I seed text sg : List UInt8) (z y n m s : Int) (tv sv : Value) (w : World) (hI : I.length = 16) (hs : seed.length = 32) (ht : Rd w.heap.size w tv text) (hsg : Rd w.heap.size w sv sg) (hy : y < 3 ∨ 5 < y) (hl : 1000 < text.length) : Calls Tryz.prog 5 #[.agg (pcs I seed z y n m s).toArray, tv, sv] w (One (.bool true) w) := by
  obtain ⟨At, ct, rfl, hct, hmt⟩ := ht.shape
  obtain ⟨As, cs, rfl, hcs, hms⟩ := hsg.shape
  have HTX := Lib.hid ht
  have HSX := Lib.hid hsg
  obtain ⟨nt, hnt⟩ : ∃ n, text.length = n := ⟨_, rfl⟩
  obtain ⟨ns, hns⟩ : ∃ n, sg.length = n := ⟨_, rfl⟩
  rw [hnt] at HTX ⊢
  rw [hns] at HSX ⊢
  have HNT := Lib.hid hnt
  have HNS := Lib.hid hns
  have HI := Lib.hid hI
  have HS := Lib.hid hs
  have HT := Lib.hid (sTree' I seed z y hI hs)
  obtain ⟨dT, huT, hdT⟩ := rowTree
  have HU := Lib.hid huT
  have HD := Lib.hid hdT
  have HPS := Lib.hid (sPurse' I seed z y n m s hI hs)
  obtain ⟨dP, huP, hdP⟩ := rowPurse
  have HUP := Lib.hid huP
  have HDP := Lib.hid hdP
  have HY := Lib.hid hy
  have zn : decide ((1000 : Int) < (nt : Int)) = true := decide_eq_true (by omega)
  clear ht hsg hct hmt hcs hms hnt hns hI hs huT hdT huP hdP hy hl
  go_enter Tryz.func5, Tryz.ntmps5
  go_wp2_with (refine wpList_box_blk rfl 34 _ rfl (pcs I seed z y n m s) rfl ?_)
  intro w1 a1 a2 a3
  obtain ⟨g0, hg0⟩ : ∃ g, w.heap.size = g := ⟨_, rfl⟩
  have A1 : Hid (Blk w1 g0 (pcs I seed z y n m s) 34) := by rw [← hg0]; exact a1
  have A3 := Lib.hid a3
  rw [hg0]
  clear a1 a2 a3 hg0
  go_wp2_with (refine wpList_load_mid rfl 32 _ rfl g0 0 rfl (tcs I seed z y) dT (pcs_range A1.out) HU.out HD.out HT.out ?_)
  refine (low6_yes I seed z y _ HI.out HS.out HY.out).mono ?_
  rintro e w2 ⟨rfl, hb⟩
  have B1 : Hid (Blk w2 g0 (pcs I seed z y n m s) 34) := A1.out.below hb A1.out.lt
  have B3 : Hid (Below w.heap.size w w2) := A3.out.trans (hb.mono A3.out.size)
  clear hb A1 A3
  go_wp2_with fail
  refine (alive6_any _).mono ?_
  rintro e w3 ⟨rfl, hb⟩
  have Z3 : Hid (Below w.heap.size w w3) := B3.out.trans (hb.mono B3.out.size)
  clear hb
  go_wp2
  go_ret
  exact ⟨rfl, Z3.out⟩

set_option maxRecDepth 1000000 in
set_option maxHeartbeats 4000000 in
theorem owns_sig (I seed text sg : List UInt8) (z y n m s : Int) (tv sv : Value) (w : World) (hI : I.length = 16) (hs : seed.length = 32) (ht : Rd w.heap.size w tv text) (hsg : Rd w.heap.size w sv sg) (hy : y < 3 ∨ 5 < y) (hl : text.length ≤ 1000) (hl2 : 9200 < sg.length) : Calls Tryz.prog 5 #[.agg (pcs I seed z y n m s).toArray, tv, sv] w (One (.bool true) w) := by
  obtain ⟨At, ct, rfl, hct, hmt⟩ := ht.shape
  obtain ⟨As, cs, rfl, hcs, hms⟩ := hsg.shape
  have HTX := Lib.hid ht
  have HSX := Lib.hid hsg
  obtain ⟨nt, hnt⟩ : ∃ n, text.length = n := ⟨_, rfl⟩
  obtain ⟨ns, hns⟩ : ∃ n, sg.length = n := ⟨_, rfl⟩
  rw [hnt] at HTX ⊢
  rw [hns] at HSX ⊢
  have HNT := Lib.hid hnt
  have HNS := Lib.hid hns
  have HI := Lib.hid hI
  have HS := Lib.hid hs
  have HT := Lib.hid (sTree' I seed z y hI hs)
  obtain ⟨dT, huT, hdT⟩ := rowTree
  have HU := Lib.hid huT
  have HD := Lib.hid hdT
  have HPS := Lib.hid (sPurse' I seed z y n m s hI hs)
  obtain ⟨dP, huP, hdP⟩ := rowPurse
  have HUP := Lib.hid huP
  have HDP := Lib.hid hdP
  have HY := Lib.hid hy
  have zn : decide ((1000 : Int) < (nt : Int)) = false := decide_eq_false (by omega)
  have zs : decide ((9200 : Int) < (ns : Int)) = true := decide_eq_true (by omega)
  clear ht hsg hct hmt hcs hms hnt hns hI hs huT hdT huP hdP hy hl hl2
  go_enter Tryz.func5, Tryz.ntmps5
  go_wp2_with (refine wpList_box_blk rfl 34 _ rfl (pcs I seed z y n m s) rfl ?_)
  intro w1 a1 a2 a3
  obtain ⟨g0, hg0⟩ : ∃ g, w.heap.size = g := ⟨_, rfl⟩
  have A1 : Hid (Blk w1 g0 (pcs I seed z y n m s) 34) := by rw [← hg0]; exact a1
  have A3 := Lib.hid a3
  rw [hg0]
  clear a1 a2 a3 hg0
  go_wp2_with (refine wpList_load_mid rfl 32 _ rfl g0 0 rfl (tcs I seed z y) dT (pcs_range A1.out) HU.out HD.out HT.out ?_)
  refine (low6_yes I seed z y _ HI.out HS.out HY.out).mono ?_
  rintro e w2 ⟨rfl, hb⟩
  have B1 : Hid (Blk w2 g0 (pcs I seed z y n m s) 34) := A1.out.below hb A1.out.lt
  have B3 : Hid (Below w.heap.size w w2) := A3.out.trans (hb.mono A3.out.size)
  clear hb A1 A3
  go_wp2_with fail
  refine (alive6_any _).mono ?_
  rintro e w3 ⟨rfl, hb⟩
  have Z3 : Hid (Below w.heap.size w w3) := B3.out.trans (hb.mono B3.out.size)
  clear hb
  go_wp2
  go_ret
  exact ⟨rfl, Z3.out⟩

set_option maxRecDepth 1000000 in
set_option maxHeartbeats 4000000 in
theorem owns_none (I seed text sg : List UInt8) (z y n m s : Int) (tv sv : Value) (w : World) (hI : I.length = 16) (hs : seed.length = 32) (ht : Rd w.heap.size w tv text) (hsg : Rd w.heap.size w sv sg) (hy : y < 3 ∨ 5 < y) (hl : text.length ≤ 1000) (hl2 : sg.length ≤ 9200) (hp : NoP z y n m s) : Calls Tryz.prog 5 #[.agg (pcs I seed z y n m s).toArray, tv, sv] w (One (.bool true) w) := by
  obtain ⟨At, ct, rfl, hct, hmt⟩ := ht.shape
  obtain ⟨As, cs, rfl, hcs, hms⟩ := hsg.shape
  have HTX := Lib.hid ht
  have HSX := Lib.hid hsg
  obtain ⟨nt, hnt⟩ : ∃ n, text.length = n := ⟨_, rfl⟩
  obtain ⟨ns, hns⟩ : ∃ n, sg.length = n := ⟨_, rfl⟩
  rw [hnt] at HTX ⊢
  rw [hns] at HSX ⊢
  have HNT := Lib.hid hnt
  have HNS := Lib.hid hns
  have HI := Lib.hid hI
  have HS := Lib.hid hs
  have HT := Lib.hid (sTree' I seed z y hI hs)
  obtain ⟨dT, huT, hdT⟩ := rowTree
  have HU := Lib.hid huT
  have HD := Lib.hid hdT
  have HPS := Lib.hid (sPurse' I seed z y n m s hI hs)
  obtain ⟨dP, huP, hdP⟩ := rowPurse
  have HUP := Lib.hid huP
  have HDP := Lib.hid hdP
  have HY := Lib.hid hy
  have HP := Lib.hid hp
  have zn : decide ((1000 : Int) < (nt : Int)) = false := decide_eq_false (by omega)
  have zs : decide ((9200 : Int) < (ns : Int)) = false := decide_eq_false (by omega)
  clear ht hsg hct hmt hcs hms hnt hns hI hs huT hdT huP hdP hy hl hl2 hp
  go_enter Tryz.func5, Tryz.ntmps5
  go_wp2_with (refine wpList_box_blk rfl 34 _ rfl (pcs I seed z y n m s) rfl ?_)
  intro w1 a1 a2 a3
  obtain ⟨g0, hg0⟩ : ∃ g, w.heap.size = g := ⟨_, rfl⟩
  have A1 : Hid (Blk w1 g0 (pcs I seed z y n m s) 34) := by rw [← hg0]; exact a1
  have A3 := Lib.hid a3
  rw [hg0]
  clear a1 a2 a3 hg0
  go_wp2_with (refine wpList_load_mid rfl 32 _ rfl g0 0 rfl (tcs I seed z y) dT (pcs_range A1.out) HU.out HD.out HT.out ?_)
  refine (low6_yes I seed z y _ HI.out HS.out HY.out).mono ?_
  rintro e w2 ⟨rfl, hb⟩
  have B1 : Hid (Blk w2 g0 (pcs I seed z y n m s) 34) := A1.out.below hb A1.out.lt
  have B3 : Hid (Below w.heap.size w w2) := A3.out.trans (hb.mono A3.out.size)
  clear hb A1 A3
  go_wp2_with (refine wpList_load_blkUG 34 _ rfl g0 rfl (pcs I seed z y n m s) 34 B1.out dP HUP.out HDP.out HPS.out (by rfl) ?_)
  refine (plain6_any I seed _ _ _ _ _ _ HI.out HS.out).mono ?_
  rintro e w3 ⟨rfl, hb⟩
  have C1 : Hid (Blk w3 g0 (pcs I seed z y n m s) 34) := B1.out.below hb B1.out.lt
  have C3 : Hid (Below w.heap.size w w3) := B3.out.trans (hb.mono B3.out.size)
  clear hb B1 B3
  go_wp2_with fail
  refine (rf6Right_no I seed z y n m s _ HI.out HS.out HP.out).mono ?_
  rintro e w4 ⟨rfl, hb⟩
  have D3 : Hid (Below w.heap.size w w4) := C3.out.trans (hb.mono C3.out.size)
  clear hb C1 C3
  go_wp2_with fail
  refine (alive6_any _).mono ?_
  rintro e w5 ⟨rfl, hb⟩
  have Z3 : Hid (Below w.heap.size w w5) := D3.out.trans (hb.mono D3.out.size)
  clear hb
  go_wp2
  go_ret
  exact ⟨rfl, Z3.out⟩

set_option maxRecDepth 1000000 in
set_option maxHeartbeats 4000000 in
theorem owns_main (I seed text sg : List UInt8) (k h n m s : Nat) (tv sv : Value) (w : World) (hI : I.length = 16) (hs : seed.length = 32) (ht : Rd w.heap.size w tv text) (hsg : Rd w.heap.size w sv sg) (hh : h = 1 ∨ h = 2) (hf : PFit k h n m s) (hl : text.length ≤ 1000) (hl2 : sg.length ≤ 9200) : Calls Tryz.prog 5 #[.agg (pcs I seed (k : Int) (h : Int) (n : Int) (m : Int) (s : Int)).toArray, tv, sv] w (One (.bool true) w) := by
  obtain ⟨At, ct, rfl, hct, hmt⟩ := ht.shape
  obtain ⟨As, cs, rfl, hcs, hms⟩ := hsg.shape
  have HTX := Lib.hid ht
  have HSX := Lib.hid hsg
  obtain ⟨nt, hnt⟩ : ∃ n, text.length = n := ⟨_, rfl⟩
  obtain ⟨ns, hns⟩ : ∃ n, sg.length = n := ⟨_, rfl⟩
  rw [hnt] at HTX ⊢
  rw [hns] at HSX ⊢
  have HNT := Lib.hid hnt
  have HNS := Lib.hid hns
  have HI := Lib.hid hI
  have HS := Lib.hid hs
  have HT := Lib.hid (sTree' I seed (k : Int) (h : Int) hI hs)
  obtain ⟨dT, huT, hdT⟩ := rowTree
  have HU := Lib.hid huT
  have HD := Lib.hid hdT
  have HPS := Lib.hid (sPurse' I seed (k : Int) (h : Int) (n : Int) (m : Int) (s : Int) hI hs)
  obtain ⟨dP, huP, hdP⟩ := rowPurse
  have HUP := Lib.hid huP
  have HDP := Lib.hid hdP
  have HF := Lib.hid hf
  have HY : Hid ((h : Int) < 3 ∨ 5 < (h : Int)) := by rcases hh with rfl | rfl <;> exact .inl (by decide)
  obtain ⟨E, p1, p2⟩ := ver5_both (lpub I seed k h) sg text (by omega)
  obtain ⟨b, hb0⟩ : ∃ b, (E == 0) = b := ⟨_, rfl⟩
  have HE := Lib.hid hb0
  have HK := Lib.hid hf.wd
  have HH := Lib.hid hf.ht
  have P1 := Lib.hid p1
  have P2 := Lib.hid p2
  have zn : decide ((1000 : Int) < (nt : Int)) = false := decide_eq_false (by omega)
  have zs : decide ((9200 : Int) < (ns : Int)) = false := decide_eq_false (by omega)
  clear ht hsg hct hmt hcs hms hnt hns hI hs huT hdT huP hdP hh hl hl2 hf p1 p2 hb0
  go_enter Tryz.func5, Tryz.ntmps5
  go_wp2_with (refine wpList_box_blk rfl 34 _ rfl (pcs I seed (k : Int) (h : Int) (n : Int) (m : Int) (s : Int)) rfl ?_)
  intro w1 a1 a2 a3
  obtain ⟨g0, hg0⟩ : ∃ g, w.heap.size = g := ⟨_, rfl⟩
  have A1 : Hid (Blk w1 g0 (pcs I seed (k : Int) (h : Int) (n : Int) (m : Int) (s : Int)) 34) := by rw [← hg0]; exact a1
  have A3 := Lib.hid a3
  rw [hg0]
  clear a1 a2 a3 hg0
  go_wp2_with (refine wpList_load_mid rfl 32 _ rfl g0 0 rfl (tcs I seed (k : Int) (h : Int)) dT (pcs_range A1.out) HU.out HD.out HT.out ?_)
  refine (low6_yes I seed (k : Int) (h : Int) _ HI.out HS.out HY.out).mono ?_
  rintro e w2 ⟨rfl, hb⟩
  have B1 : Hid (Blk w2 g0 (pcs I seed (k : Int) (h : Int) (n : Int) (m : Int) (s : Int)) 34) := A1.out.below hb A1.out.lt
  have B3 : Hid (Below w.heap.size w w2) := A3.out.trans (hb.mono A3.out.size)
  clear hb A1 A3
  go_wp2_with (refine wpList_load_blkUG 34 _ rfl g0 rfl (pcs I seed (k : Int) (h : Int) (n : Int) (m : Int) (s : Int)) 34 B1.out dP HUP.out HDP.out HPS.out (by rfl) ?_)
  refine (plain6_any I seed _ _ _ _ _ _ HI.out HS.out).mono ?_
  rintro e w3 ⟨rfl, hb⟩
  have C1 : Hid (Blk w3 g0 (pcs I seed (k : Int) (h : Int) (n : Int) (m : Int) (s : Int)) 34) := B1.out.below hb B1.out.lt
  have C3 : Hid (Below w.heap.size w w3) := B3.out.trans (hb.mono B3.out.size)
  clear hb B1 B3
  go_wp2_with fail
  refine (rf6Right_yes I seed k h n m s _ HI.out HS.out HF.out).mono ?_
  rintro e w4 ⟨rfl, hb⟩
  have D1 : Hid (Blk w4 g0 (pcs I seed (k : Int) (h : Int) (n : Int) (m : Int) (s : Int)) 34) := C1.out.below hb C1.out.lt
  have D3 : Hid (Below w.heap.size w w4) := C3.out.trans (hb.mono C3.out.size)
  clear hb C1 C3
  go_wp2_with fail
  clear zn zs
  refine wp_region_rely2 14 0 (fun x => ⟨#[.agg (pcs I seed ↑k ↑h ↑n ↑m ↑s).toArray, .slice At nt ct, .slice As ns cs, .pointer (some { block := g0, off := 0 }), undef, undef, x 13, .pointer (some { block := g0, off := 0 }), .agg (tcs I seed ↑k ↑h).toArray, .bool true, .bool false, .bool false, .slice At nt ct, .int IntKind.i64 ↑nt, .bool false, .bool false, .bool false, .slice As ns cs, .int IntKind.i64 ↑ns, .bool false, .bool false, .bool false, .agg (pcs I seed ↑k ↑h ↑n ↑m ↑s).toArray, .agg (pcs I seed ↑k ↑h ↑n ↑m ↑s).toArray, .bool true, .bool false, .bool false, undef, x 0, x 1, x 2, x 3, x 4, x 5, x 6, x 7, x 8, x 9, x 10, x 11, x 12], []⟩) (fun jj => ([(eqV (.bool true)), eqV (.bool true), eqV (.agg (pcs I seed (k : Int) (h : Int) (n : Int) (m : Int) (s : Int)).toArray), eqV (.slice At nt ct), eqV (.slice As ns cs), (eqV (.bool b)), eqV (.agg (pcs I seed (k : Int) (h : Int) (n : Int) (m : Int) (s : Int)).toArray), (eqV (.agg (pcs I seed (k : Int) (h : Int) (n : Int) (m : Int) (s : Int)).toArray)), eqV (.slice At nt ct), eqV (.slice As ns cs), (eqV (.bool b)), eqV (.bool true), eqV (.bool true), eqV (.bool true)] : List (Value → World → Prop)).getD jj (fun _ _ => True)) rfl ⟨fun kk => [_, _, _, _, _, _, _, _, _, _, _, _, _, _].getD kk undef, rfl⟩ (by kernel_rfl) (by kernel_rfl) ?steps ?fin
  case steps =>
    refine StepsAt.cons 0 (fun _ _ _ h hb => h) (fun _ _ => rfl) rfl rfl (fun x w6 hb hd K hK => ?_) ?_
    · go_simp
      refine (alive6_any _).mono ?_
      rintro e w99 ⟨rfl, hb99⟩
      exact hK.out _ _ hb99 rfl
    refine StepsAt.val 1 (.bool true) rfl (fun _ _ => rfl) rfl rfl (fun x w6 hb hd => ?_) ?_
    · have h0 : x 0 = .bool true := hd 0 (by kernel_rfl)
      rw [h0]
      first | (go_simp; done) | (go_simp; rfl)
    refine StepsAt.valG 2 (.agg (pcs I seed (k : Int) (h : Int) (n : Int) (m : Int) (s : Int)).toArray) rfl (fun _ _ => rfl) rfl (fun x w6 hd => ?_) (fun x w6 hb hd => ?_) ?_
    · have hG : x 1 = .bool true := hd 1 (by kernel_rfl)
      simp [Region.wanted, yielded, hG]
    · exact run_load_blkU 34 (.tmp 3) rfl g0 rfl (pcs I seed (k : Int) (h : Int) (n : Int) (m : Int) (s : Int)) 34 (D1.out.below hb D1.out.lt) dP HUP.out HDP.out HPS.out
    refine StepsAt.valG 3 (.slice At nt ct) rfl (fun _ _ => rfl) rfl (fun x w6 hd => ?_) (fun x w6 hb hd => ?_) ?_
    · have hG : x 1 = .bool true := hd 1 (by kernel_rfl)
      simp [Region.wanted, yielded, hG]
    · first | (go_simp; done) | (go_simp; rfl)
    refine StepsAt.valG 4 (.slice As ns cs) rfl (fun _ _ => rfl) rfl (fun x w6 hd => ?_) (fun x w6 hb hd => ?_) ?_
    · have hG : x 1 = .bool true := hd 1 (by kernel_rfl)
      simp [Region.wanted, yielded, hG]
    · first | (go_simp; done) | (go_simp; rfl)
    refine StepsAt.consG 5 (fun _ _ _ h hb => h) (fun _ _ => rfl) rfl (fun x w6 hd => ?_) (fun x w6 hb hd K hK => ?_) ?_
    · have hG : x 1 = .bool true := hd 1 (by kernel_rfl)
      simp [Region.wanted, yielded, hG]
    · have h2 : Hid (x 2 = .agg (pcs I seed (k : Int) (h : Int) (n : Int) (m : Int) (s : Int)).toArray) := hd 2 (by kernel_rfl)
      have h3 : Hid (x 3 = .slice At nt ct) := hd 3 (by kernel_rfl)
      have h4 : Hid (x 4 = .slice As ns cs) := hd 4 (by kernel_rfl)
      go_simp
      refine calls_args (args2 := #[.agg (pcs I seed (k : Int) (h : Int) (n : Int) (m : Int) (s : Int)).toArray, .slice At nt ct, .slice As ns cs]) (by rw [h2.out, h3.out, h4.out]) ?_
      refine (ownsP_yes I seed text sg k h _ _ _ E _ _ _ HI.out HS.out HK.out HH.out ((HTX.out.below (D3.out.trans (hb.mono D3.out.size))).more (D3.out.trans (hb.mono D3.out.size)).size) ((HSX.out.below (D3.out.trans (hb.mono D3.out.size))).more (D3.out.trans (hb.mono D3.out.size)).size) (fun pv w hp ht hs => P1.out pv _ _ w hp ht hs)).mono ?_
      rintro e w99 ⟨rfl, hb99⟩
      rw [HE.out]
      exact hK.out _ _ hb99 rfl
    refine StepsAt.valG 6 (.agg (pcs I seed (k : Int) (h : Int) (n : Int) (m : Int) (s : Int)).toArray) rfl (fun _ _ => rfl) rfl (fun x w6 hd => ?_) (fun x w6 hb hd => ?_) ?_
    · have hG : x 1 = .bool true := hd 1 (by kernel_rfl)
      simp [Region.wanted, yielded, hG]
    · exact run_load_blkU 34 (.tmp 3) rfl g0 rfl (pcs I seed (k : Int) (h : Int) (n : Int) (m : Int) (s : Int)) 34 (D1.out.below hb D1.out.lt) dP HUP.out HDP.out HPS.out
    refine StepsAt.consG 7 (fun _ _ _ h hb => h) (fun _ _ => rfl) rfl (fun x w6 hd => ?_) (fun x w6 hb hd K hK => ?_) ?_
    · have hG : x 1 = .bool true := hd 1 (by kernel_rfl)
      simp [Region.wanted, yielded, hG]
    · have h6 : Hid (x 6 = .agg (pcs I seed (k : Int) (h : Int) (n : Int) (m : Int) (s : Int)).toArray) := hd 6 (by kernel_rfl)
      go_simp
      refine calls_args (args2 := #[.agg (pcs I seed (k : Int) (h : Int) (n : Int) (m : Int) (s : Int)).toArray]) (by rw [h6.out]) ?_
      refine (plain6_any I seed _ _ _ _ _ _ HI.out HS.out).mono ?_
      rintro e w99 ⟨rfl, hb99⟩
      exact hK.out _ _ hb99 rfl
    refine StepsAt.valG 8 (.slice At nt ct) rfl (fun _ _ => rfl) rfl (fun x w6 hd => ?_) (fun x w6 hb hd => ?_) ?_
    · have hG : x 1 = .bool true := hd 1 (by kernel_rfl)
      simp [Region.wanted, yielded, hG]
    · first | (go_simp; done) | (go_simp; rfl)
    refine StepsAt.valG 9 (.slice As ns cs) rfl (fun _ _ => rfl) rfl (fun x w6 hd => ?_) (fun x w6 hb hd => ?_) ?_
    · have hG : x 1 = .bool true := hd 1 (by kernel_rfl)
      simp [Region.wanted, yielded, hG]
    · first | (go_simp; done) | (go_simp; rfl)
    refine StepsAt.consG 10 (fun _ _ _ h hb => h) (fun _ _ => rfl) rfl (fun x w6 hd => ?_) (fun x w6 hb hd K hK => ?_) ?_
    · have hG : x 1 = .bool true := hd 1 (by kernel_rfl)
      simp [Region.wanted, yielded, hG]
    · have h7 : Hid (x 7 = .agg (pcs I seed (k : Int) (h : Int) (n : Int) (m : Int) (s : Int)).toArray) := hd 7 (by kernel_rfl)
      have h8 : Hid (x 8 = .slice At nt ct) := hd 8 (by kernel_rfl)
      have h9 : Hid (x 9 = .slice As ns cs) := hd 9 (by kernel_rfl)
      go_simp
      refine calls_args (args2 := #[.agg (pcs I seed (k : Int) (h : Int) (n : Int) (m : Int) (s : Int)).toArray, .slice At nt ct, .slice As ns cs]) (by rw [h7.out, h8.out, h9.out]) ?_
      refine (rf6Owns_yes I seed text sg k h _ _ _ E _ _ _ HI.out HS.out HK.out HH.out ((HTX.out.below (D3.out.trans (hb.mono D3.out.size))).more (D3.out.trans (hb.mono D3.out.size)).size) ((HSX.out.below (D3.out.trans (hb.mono D3.out.size))).more (D3.out.trans (hb.mono D3.out.size)).size) (fun pv w hp ht hs => P2.out pv _ _ w hp ht hs)).mono ?_
      rintro e w99 ⟨rfl, hb99⟩
      rw [HE.out]
      exact hK.out _ _ hb99 rfl
    refine StepsAt.valG 11 (.bool true) rfl (fun _ _ => rfl) rfl (fun x w6 hd => ?_) (fun x w6 hb hd => ?_) ?_
    · have hG : x 1 = .bool true := hd 1 (by kernel_rfl)
      simp [Region.wanted, yielded, hG]
    · have h5 : x 5 = .bool b := hd 5 (by kernel_rfl)
      have h10 : x 10 = .bool b := hd 10 (by kernel_rfl)
      rw [h5, h10]
      first | (go_simp; done) | (cases b <;> go_simp)
    refine StepsAt.val 12 (.bool true) rfl (fun _ _ => rfl) rfl rfl (fun x w6 hb hd => ?_) ?_
    · have h1 : x 1 = .bool true := hd 1 (by kernel_rfl)
      have h11 : x 11 = .bool true := hd 11 (by kernel_rfl)
      rw [h1, h11]
      first | (go_simp; done) | (go_simp; rfl)
    refine StepsAt.val 13 (.bool true) rfl (fun _ _ => rfl) rfl rfl (fun x w6 hb hd => ?_) ?_
    · have h12 : x 12 = .bool true := hd 12 (by kernel_rfl)
      rw [h12]
      first | (go_simp; done) | (go_simp; rfl)
    exact StepsAt.done
  case fin =>
    intro x w6 hb hd
    have hx0 : x 0 = .bool true := hd 0 (by omega)
    have hx1 : x 1 = .bool true := hd 1 (by omega)
    have hx2 : x 2 = .agg (pcs I seed (k : Int) (h : Int) (n : Int) (m : Int) (s : Int)).toArray := hd 2 (by omega)
    have hx3 : x 3 = .slice At nt ct := hd 3 (by omega)
    have hx4 : x 4 = .slice As ns cs := hd 4 (by omega)
    have hx5 : x 5 = .bool b := hd 5 (by omega)
    have hx6 : x 6 = .agg (pcs I seed (k : Int) (h : Int) (n : Int) (m : Int) (s : Int)).toArray := hd 6 (by omega)
    have hx7 : x 7 = .agg (pcs I seed (k : Int) (h : Int) (n : Int) (m : Int) (s : Int)).toArray := hd 7 (by omega)
    have hx8 : x 8 = .slice At nt ct := hd 8 (by omega)
    have hx9 : x 9 = .slice As ns cs := hd 9 (by omega)
    have hx10 : x 10 = .bool b := hd 10 (by omega)
    have hx11 : x 11 = .bool true := hd 11 (by omega)
    have hx12 : x 12 = .bool true := hd 12 (by omega)
    have hx13 : x 13 = .bool true := hd 13 (by omega)
    refine AnyTill.any (S := fun _ => True) (m := 14) _ _ _ _ ?_
    refine AnyTill.done (by kernel_rfl) ?_
    refine NoPanic.normal ?_
    try dsimp only
    rw [hx0, hx1, hx2, hx3, hx4, hx5, hx6, hx7, hx8, hx9, hx10, hx11, hx12, hx13]
    have N3 : Hid (Below w.heap.size w w6) := D3.out.trans (hb.mono D3.out.size)
    clear hx0 hx1 hx2 hx3 hx4 hx5 hx6 hx7 hx8 hx9 hx10 hx11 hx12 hx13 hd hb D1 D3 x
    go_wp2
    go_ret
    exact ⟨rfl, N3.out⟩

theorem owns_all (I seed : List UInt8) (z y n m s : Int) (tv : Value) (text : List UInt8) (sv : Value) (sg : List UInt8) (w : World) (hI : I.length = 16) (hs : seed.length = 32) (ht : Rd w.heap.size w tv text) (hsg : Rd w.heap.size w sv sg) : Calls Tryz.prog 5 #[.agg (pcs I seed z y n m s).toArray, tv, sv] w (One (.bool true) w) := by
  by_cases h1 : 3 ≤ y ∧ y ≤ 5
  · exact owns_high I seed text sg z y n m s tv sv w hI hs ht hsg h1.1 h1.2
  by_cases h2 : 1000 < text.length
  · exact owns_text I seed text sg z y n m s tv sv w hI hs ht hsg (by omega) h2
  by_cases h3 : 9200 < sg.length
  · exact owns_sig I seed text sg z y n m s tv sv w hI hs ht hsg (by omega) (by omega) h3
  rcases purse_or z y n m s with ⟨k, h, N, M, S, hf, rfl, rfl, rfl, rfl, rfl⟩ | hp
  · have hh : h = 1 ∨ h = 2 := by have := hf.ht.le; omega
    exact owns_main I seed text sg k h N M S tv sv w hI hs ht hsg hh hf (by omega) (by omega)
  · exact owns_none I seed text sg z y n m s tv sv w hI hs ht hsg (by omega) (by omega) (by omega) hp
end Go.Proofs.YtllncnnigjgadaaGreat
