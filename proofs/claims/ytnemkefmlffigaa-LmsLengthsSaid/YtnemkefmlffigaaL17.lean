/-
  The law LmsLengths, walked: it answers true for every tree, every bytes as a signature and every text.
-/
import Derived.Test.YtnemkefmlffigaaLE
namespace Go.Proofs.Ytnemkefmlffigaa
open Go.RowKit

/-- A signature of another length than the public key of a tree asks for fits nowhere. -/
theorem vfit_len (I seed s : List UInt8) (k h k' h' : Nat) (hI : I.length = 16) (hk : Wd k) (hh : Ht h) (hl : s.length ≠ llng k h) : ¬ VFit (lpub I seed k h) s k' h' := by
  rintro ⟨_, hf, h1, _⟩
  obtain ⟨p1, p2, _, _⟩ := lpub_parts I seed k h hI hk hh
  rw [p1, p2] at hf
  have e := LFit.uniq hf (⟨hk, hh, rfl, rfl⟩ : LFit (knd h) (typ k) k h)
  rw [e.1, e.2] at h1
  exact hl h1
theorem vfit_leaf (I seed s : List UInt8) (k h k' h' : Nat) (hI : I.length = 16) (hk : Wd k) (hh : Ht h) (hl : 2 ^ h ≤ wd s 0) : ¬ VFit (lpub I seed k h) s k' h' := by
  rintro ⟨_, hf, _, _, _, h4⟩
  obtain ⟨p1, p2, _, _⟩ := lpub_parts I seed k h hI hk hh
  rw [p1, p2] at hf
  have e := LFit.uniq hf (⟨hk, hh, rfl, rfl⟩ : LFit (knd h) (typ k) k h)
  rw [e.2] at h4
  omega

set_option maxRecDepth 100000 in
set_option maxHeartbeats 400000 in
theorem lengths_high (I seed : List UInt8) (z y : Int) (sv : Value) (s : List UInt8) (tv : Value) (text : List UInt8) (w : World) (hI : I.length = 16) (hs : seed.length = 32) (hsv : Rd w.heap.size w sv s) (ht : Rd w.heap.size w tv text) (hh : (3 ≤ y ∧ y ≤ 5) ∨ 9200 < s.length ∨ 2000 < text.length) : Calls Try.prog 6 #[.agg (tcs I seed z y).toArray, sv, tv] w (One (.bool true) w) := by
  obtain ⟨At, ct, rfl, hct, hmt⟩ := ht.shape
  obtain ⟨As, cs, rfl, hcs, hms⟩ := hsv.shape
  unfold maxLen at hmt hms
  obtain ⟨n, hn⟩ : ∃ n, text.length = n := ⟨_, rfl⟩
  obtain ⟨m, hm⟩ : ∃ n, s.length = n := ⟨_, rfl⟩
  rw [hn] at hh hct ⊢
  rw [hm] at hh hcs ⊢
  have HI := Lib.hid hI
  have HS := Lib.hid hs
  have HT : Hid ((Try.prog.info? 34).map (·.size) = some (tcs I seed z y).length) := by show _ = _; rw [tcs_length I seed _ _ hI hs]; exact sTree
  obtain ⟨dT, huT, hdT⟩ := rowTree
  have HU := Lib.hid huT
  have HD := Lib.hid hdT
  clear ht hsv hn hm hI hs huT hdT
  go_enter Try.func6, Try.ntmps6
  go_wp2_with (refine wpList_box_blk rfl 34 _ rfl (tcs I seed z y) rfl ?_)
  intro w1 a1 a2 a3
  have A1 := Lib.hid a1
  have A3 := Lib.hid a3
  clear a1 a2 a3
  go_wp2_with (refine wpList_load_blkU rfl 34 _ rfl w.heap.size rfl (tcs I seed z y) 34 A1.out dT HU.out HD.out HT.out ?_)
  by_cases hy : 3 ≤ y ∧ y ≤ 5
  · refine (low_no I seed z y _ HI.out HS.out hy.1 hy.2).mono ?_
    rintro e w2 ⟨rfl, hb⟩
    have B3 : Hid (Below w.heap.size w w2) := A3.out.trans (hb.mono A3.out.size)
    clear hb A1 A3 hh hy
    go_wp2_with fail
    refine (alive5_any _).mono ?_
    rintro e w3 ⟨rfl, hb⟩
    have C3 : Hid (Below w.heap.size w w3) := B3.out.trans (hb.mono B3.out.size)
    clear hb B3
    go_wp2
    go_ret
    exact ⟨rfl, C3.out⟩
  · refine (low_yes I seed z y _ HI.out HS.out (by omega)).mono ?_
    rintro e w2 ⟨rfl, hb⟩
    have B3 : Hid (Below w.heap.size w w2) := A3.out.trans (hb.mono A3.out.size)
    clear hb A1 A3
    by_cases hm2 : 9200 < m
    · have zm : (9200 : Int) < (m : Int) := by omega
      clear hh hy hm2
      go_wp2_with fail
      refine (alive5_any _).mono ?_
      rintro e w3 ⟨rfl, hb⟩
      have C3 : Hid (Below w.heap.size w w3) := B3.out.trans (hb.mono B3.out.size)
      clear hb B3
      go_wp2
      go_ret
      exact ⟨rfl, C3.out⟩
    · have zm : decide ((9200 : Int) < (m : Int)) = false := decide_eq_false (by omega)
      have zn : (2000 : Int) < (n : Int) := by omega
      clear hh hy hm2
      go_wp2_with fail
      refine (alive5_any _).mono ?_
      rintro e w3 ⟨rfl, hb⟩
      have C3 : Hid (Below w.heap.size w w3) := B3.out.trans (hb.mono B3.out.size)
      clear hb B3
      go_wp2
      go_ret
      exact ⟨rfl, C3.out⟩

set_option maxRecDepth 100000 in
set_option maxHeartbeats 400000 in
theorem lengths_no (I seed : List UInt8) (z y : Int) (sv : Value) (s : List UInt8) (tv : Value) (text : List UInt8) (w : World) (hI : I.length = 16) (hs : seed.length = 32) (hsv : Rd w.heap.size w sv s) (ht : Rd w.heap.size w tv text) (hy : y < 3 ∨ 5 < y) (hl : s.length ≤ 9200) (hl2 : text.length ≤ 2000) (hno : NoT z y) : Calls Try.prog 6 #[.agg (tcs I seed z y).toArray, sv, tv] w (One (.bool true) w) := by
  obtain ⟨At, ct, rfl, hct, hmt⟩ := ht.shape
  obtain ⟨As, cs, rfl, hcs, hms⟩ := hsv.shape
  unfold maxLen at hmt hms
  obtain ⟨n, hn⟩ : ∃ n, text.length = n := ⟨_, rfl⟩
  obtain ⟨m, hm⟩ : ∃ n, s.length = n := ⟨_, rfl⟩
  rw [hn] at hl2 hct ⊢
  rw [hm] at hl hcs ⊢
  have HI := Lib.hid hI
  have HS := Lib.hid hs
  have HY := Lib.hid hy
  have HN := Lib.hid hno
  have zm : decide ((9200 : Int) < (m : Int)) = false := decide_eq_false (by omega)
  have zn : ¬ ((2000 : Int) < (n : Int)) := by omega
  have HT : Hid ((Try.prog.info? 34).map (·.size) = some (tcs I seed z y).length) := by show _ = _; rw [tcs_length I seed _ _ hI hs]; exact sTree
  obtain ⟨dT, huT, hdT⟩ := rowTree
  have HU := Lib.hid huT
  have HD := Lib.hid hdT
  clear ht hsv hn hm hI hs huT hdT hy hno hl hl2
  go_enter Try.func6, Try.ntmps6
  go_wp2_with (refine wpList_box_blk rfl 34 _ rfl (tcs I seed z y) rfl ?_)
  intro w1 a1 a2 a3
  obtain ⟨g0, hg0⟩ : ∃ g, w.heap.size = g := ⟨_, rfl⟩
  have A1 : Hid (Blk w1 g0 (tcs I seed z y) 34) := by rw [← hg0]; exact a1
  have A3 := Lib.hid a3
  rw [hg0]
  clear a1 a2 a3 hg0
  go_wp2_with (refine wpList_load_blkU rfl 34 _ rfl g0 rfl (tcs I seed z y) 34 A1.out dT HU.out HD.out HT.out ?_)
  refine (low_yes I seed z y _ HI.out HS.out HY.out).mono ?_
  rintro e w2 ⟨rfl, hb⟩
  have B1 : Hid (Blk w2 g0 (tcs I seed z y) 34) := A1.out.below hb A1.out.lt
  have B3 : Hid (Below w.heap.size w w2) := A3.out.trans (hb.mono A3.out.size)
  clear hb A1 A3
  go_wp2_with (refine wpList_load_blkU rfl 34 _ rfl g0 rfl (tcs I seed z y) 34 B1.out dT HU.out HD.out HT.out ?_)
  refine (pubT_no I seed z y _ HI.out HS.out HN.out).mono ?_
  rintro e w3 ⟨rfl, hb⟩
  have C1 : Hid (Blk w3 g0 (tcs I seed z y) 34) := B1.out.below hb B1.out.lt
  have C3 : Hid (Below w.heap.size w w3) := B3.out.trans (hb.mono B3.out.size)
  clear hb B1 B3
  go_wp2_with (refine wpList_load_blkU rfl 34 _ rfl g0 rfl (tcs I seed z y) 34 C1.out dT HU.out HD.out HT.out ?_)
  refine (longT_no I seed z y _ HI.out HS.out HN.out).mono ?_
  rintro e w5 ⟨rfl, hb⟩
  have E3 : Hid (Below w.heap.size w w5) := C3.out.trans (hb.mono C3.out.size)
  clear hb C1 C3
  go_wp2_with fail
  refine (alive5_any _).mono ?_
  rintro e w6 ⟨rfl, hb⟩
  have F3 : Hid (Below w.heap.size w w6) := E3.out.trans (hb.mono E3.out.size)
  clear hb E3
  go_wp2
  go_ret
  exact ⟨rfl, F3.out⟩

set_option maxRecDepth 100000 in
set_option maxHeartbeats 2000000 in
theorem lengths_yes (I seed : List UInt8) (k h : Nat) (sv : Value) (s : List UInt8) (tv : Value) (text : List UInt8) (w : World) (hI : I.length = 16) (hs : seed.length = 32) (hsv : Rd w.heap.size w sv s) (ht : Rd w.heap.size w tv text) (hk : Wd k) (hh : h = 1 ∨ h = 2) (hl : s.length ≤ 9200) (hl2 : text.length ≤ 2000) : Calls Try.prog 6 #[.agg (tcs I seed (k : Int) (h : Int)).toArray, sv, tv] w (One (.bool true) w) := by
  have HSV := Lib.hid hsv
  obtain ⟨At, ct, rfl, hct, hmt⟩ := ht.shape
  obtain ⟨As, cs, rfl, hcs, hms⟩ := hsv.shape
  unfold maxLen at hmt hms
  obtain ⟨n, hn⟩ : ∃ n, text.length = n := ⟨_, rfl⟩
  obtain ⟨m, hm⟩ : ∃ n, s.length = n := ⟨_, rfl⟩
  rw [hn] at hl2 hct ⊢
  rw [hm] at hl hcs HSV ⊢
  have HI := Lib.hid hI
  have HS := Lib.hid hs
  have HK := Lib.hid hk
  have HML := Lib.hid hm
  have HHT : Hid (Ht h) := by rcases hh with rfl | rfl; exact .inl rfl; exact .inr (.inl rfl)
  have HYL : Hid ((h : Int) < 3 ∨ 5 < (h : Int)) := by rcases hh with rfl | rfl <;> exact .inl (by decide)
  have HHH := Lib.hid hh
  have zm : decide ((9200 : Int) < (m : Int)) = false := decide_eq_false (by omega)
  have zn : ¬ ((2000 : Int) < (n : Int)) := by omega
  have HT : Hid ((Try.prog.info? 34).map (·.size) = some (tcs I seed (k : Int) (h : Int)).length) := by show _ = _; rw [tcs_length I seed _ _ hI hs]; exact sTree
  have HYC := Lib.hid (tcs_y I seed (k : Int) (h : Int) hI hs)
  obtain ⟨dT, huT, hdT⟩ := rowTree
  have HU := Lib.hid huT
  have HD := Lib.hid hdT
  obtain ⟨P, hP⟩ : ∃ P, lpub I seed k h = P := ⟨_, rfl⟩
  have HPE := Lib.hid hP
  have hPl : P.length = 56 := by rw [← hP]; exact lpub_length _ _ _ _ hI
  have HPL := Lib.hid hPl
  obtain ⟨N, hN⟩ : ∃ N, llng k h = N := ⟨_, rfl⟩
  have HNE := Lib.hid hN
  clear ht hsv hn hm hI hs huT hdT hk hP hN hh hl hl2 hPl
  go_enter Try.func6, Try.ntmps6
  go_wp2_with (refine wpList_box_blk rfl 34 _ rfl (tcs I seed (k : Int) (h : Int)) rfl ?_)
  intro w1 a1 a2 a3
  obtain ⟨g0, hg0⟩ : ∃ g, w.heap.size = g := ⟨_, rfl⟩
  have A1 : Hid (Blk w1 g0 (tcs I seed (k : Int) (h : Int)) 34) := by rw [← hg0]; exact a1
  have A3 := Lib.hid a3
  rw [hg0]
  clear a1 a2 a3 hg0
  go_wp2_with (refine wpList_load_blkU rfl 34 _ rfl g0 rfl (tcs I seed (k : Int) (h : Int)) 34 A1.out dT HU.out HD.out HT.out ?_)
  refine (low_yes I seed (k : Int) (h : Int) _ HI.out HS.out HYL.out).mono ?_
  rintro e w2 ⟨rfl, hb⟩
  have B1 : Hid (Blk w2 g0 (tcs I seed (k : Int) (h : Int)) 34) := A1.out.below hb A1.out.lt
  have B3 : Hid (Below w.heap.size w w2) := A3.out.trans (hb.mono A3.out.size)
  clear hb A1 A3
  go_wp2_with (refine wpList_load_blkU rfl 34 _ rfl g0 rfl (tcs I seed (k : Int) (h : Int)) 34 B1.out dT HU.out HD.out HT.out ?_)
  refine (pubT_yes I seed k h _ HI.out HS.out HK.out HHT.out).mono ?_
  rintro e w3 ⟨v3, rfl, hown3, hb⟩
  rw [HPE.out] at hown3
  obtain ⟨ap, cp, hv3, hcp, hmp⟩ := hown3.rd.some_ (by rw [HPL.out]; omega)
  subst hv3
  unfold maxLen at hmp
  rw [HPL.out] at hown3 hcp ⊢
  have C1 : Hid (Blk w3 g0 (tcs I seed (k : Int) (h : Int)) 34) := B1.out.below hb B1.out.lt
  have CP : Hid (Rd w3.heap.size w3 (.slice (some ap) 56 cp) P) := hown3.rd
  have C3 : Hid (Below w.heap.size w w3) := B3.out.trans (hb.mono B3.out.size)
  clear hb B1 B3 hown3
  go_wp2_with (refine wpList_load_blkU rfl 34 _ rfl g0 rfl (tcs I seed (k : Int) (h : Int)) 34 C1.out dT HU.out HD.out HT.out ?_)
  refine (longT_yes I seed k h _ HI.out HS.out HK.out HHT.out).mono ?_
  rintro e w5 ⟨rfl, hb⟩
  rw [HNE.out]
  have E1 : Hid (Blk w5 g0 (tcs I seed (k : Int) (h : Int)) 34) := C1.out.below hb C1.out.lt
  have EP : Hid (Rd w5.heap.size w5 (.slice (some ap) 56 cp) P) := (CP.out.below hb).more hb.size
  have E3 : Hid (Below w.heap.size w w5) := C3.out.trans (hb.mono C3.out.size)
  have hc55 : 55 ≤ cp := by omega
  clear hb C1 C3 CP
  go_wp2_with fail
  refine (verT_no (P.take 55) s _ _ _ _ (EP.out.take 55 (by omega)) ((HSV.out.below E3.out).more E3.out.size) (fun k' h' hv => by have := hv.1; rw [List.length_take, HPL.out] at this; omega)).mono ?_
  rintro e w6 ⟨rfl, hb⟩
  have F1 : Hid (Blk w6 g0 (tcs I seed (k : Int) (h : Int)) 34) := E1.out.below hb E1.out.lt
  have FP : Hid (Rd w6.heap.size w6 (.slice (some ap) 56 cp) P) := (EP.out.below hb).more hb.size
  have F3 : Hid (Below w.heap.size w w6) := E3.out.trans (hb.mono E3.out.size)
  clear hb E1 EP E3
  by_cases hmN : m = N
  · subst hmN
    have hm4 : 4 ≤ m := by rw [← HNE.out]; unfold llng; omega
    go_wp2_with fail
    refine (leafT_yes _ s _ ((HSV.out.below F3.out).more F3.out.size) (by rw [HML.out]; exact hm4)).mono ?_
    rintro e w7 ⟨rfl, hb⟩
    have G1 : Hid (Blk w7 g0 (tcs I seed (k : Int) (h : Int)) 34) := F1.out.below hb F1.out.lt
    have GP : Hid (Rd w7.heap.size w7 (.slice (some ap) 56 cp) P) := (FP.out.below hb).more hb.size
    have G3 : Hid (Below w.heap.size w w7) := F3.out.trans (hb.mono F3.out.size)
    obtain ⟨q, hq⟩ : ∃ q, wd s 0 = q := ⟨_, rfl⟩
    rw [hq]
    have HQE := Lib.hid hq
    clear hb F1 FP F3 hq
    go_wp2_with fail
    refine (alive5_any _).mono ?_
    rintro e w8 ⟨rfl, hb⟩
    have J1 : Hid (Blk w8 g0 (tcs I seed (k : Int) (h : Int)) 34) := G1.out.below hb G1.out.lt
    have JP : Hid (Rd w8.heap.size w8 (.slice (some ap) 56 cp) P) := (GP.out.below hb).more hb.size
    have J3 : Hid (Below w.heap.size w w8) := G3.out.trans (hb.mono G3.out.size)
    have cy := (J1.out.cell 49).trans HYC.out
    clear hb G1 GP G3
    by_cases hqh : q < 2 ^ h
    · have HQH := Lib.hid hqh
      have hh := HHH.out
      rcases hh with rfl | rfl
      all_goals
        first | have hq1 : (q : Int) < 2 := (by have h0 : q < 2 := HQH.out; omega) | have hq1 : (q : Int) < 4 := (by have h0 : q < 4 := HQH.out; omega)
        clear hqh
        go_wp2
        go_ret
        exact ⟨rfl, J3.out⟩
    · have HQH : Hid (2 ^ h ≤ q) := by show _ ≤ _; omega
      clear hqh
      have hh := HHH.out
      rcases hh with rfl | rfl
      all_goals
        first | have hq1 : decide ((q : Int) < 2) = false := decide_eq_false (by have h0 : 2 ≤ q := HQH.out; omega) | have hq1 : decide ((q : Int) < 4) = false := decide_eq_false (by have h0 : 4 ≤ q := HQH.out; omega)
        go_wp2_with fail
        refine (verT_no P s _ _ _ _ JP.out ((HSV.out.below J3.out).more J3.out.size) (fun k' h' hv => by rw [← HPE.out] at hv; exact vfit_leaf I seed s k _ k' h' HI.out HK.out HHT.out (by rw [HQE.out]; exact HQH.out) hv)).mono ?_
        rintro e w9 ⟨rfl, hb⟩
        have M3 : Hid (Below w.heap.size w w9) := J3.out.trans (hb.mono J3.out.size)
        clear hb J1 JP J3 cy
        go_wp2
        go_ret
        exact ⟨rfl, M3.out⟩
  · have zmN : ((m : Int) != (N : Int)) = true := by simp; omega
    go_wp2_with fail
    refine (alive5_any _).mono ?_
    rintro e w7 ⟨rfl, hb⟩
    have GP : Hid (Rd w7.heap.size w7 (.slice (some ap) 56 cp) P) := (FP.out.below hb).more hb.size
    have G3 : Hid (Below w.heap.size w w7) := F3.out.trans (hb.mono F3.out.size)
    clear hb F1 FP F3
    go_wp2_with fail
    refine (verT_no P s _ _ _ _ GP.out ((HSV.out.below G3.out).more G3.out.size) (fun k' h' hv => by rw [← HPE.out] at hv; exact vfit_len I seed s k h k' h' HI.out HK.out HHT.out (by rw [HML.out, HNE.out]; exact hmN) hv)).mono ?_
    rintro e w8 ⟨rfl, hb⟩
    have J3 : Hid (Below w.heap.size w w8) := G3.out.trans (hb.mono G3.out.size)
    clear hb GP G3
    go_wp2
    go_ret
    exact ⟨rfl, J3.out⟩

theorem lengths_all (I seed : List UInt8) (z y : Int) (sv : Value) (s : List UInt8) (tv : Value) (text : List UInt8) (w : World) (hI : I.length = 16) (hs : seed.length = 32) (hsv : Rd w.heap.size w sv s) (ht : Rd w.heap.size w tv text) : Calls Try.prog 6 #[.agg (tcs I seed z y).toArray, sv, tv] w (One (.bool true) w) := by
  by_cases h1 : (3 ≤ y ∧ y ≤ 5) ∨ 9200 < s.length ∨ 2000 < text.length
  · exact lengths_high I seed z y sv s tv text w hI hs hsv ht h1
  · rcases tree_or z y with ⟨k, h, hk, hh, rfl, rfl⟩ | hn
    · exact lengths_yes I seed k h sv s tv text w hI hs hsv ht hk (by have := hh.le; omega) (by omega) (by omega)
    · exact lengths_no I seed z y sv s tv text w hI hs hsv ht (by omega) (by omega) (by omega) hn
end Go.Proofs.Ytnemkefmlffigaa
