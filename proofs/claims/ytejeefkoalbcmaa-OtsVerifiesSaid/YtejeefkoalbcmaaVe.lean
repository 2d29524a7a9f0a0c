/-
  The law OtsVerifies, walked: it answers true for every key and every text.
-/
import Derived.Test.YtejeefkoalbcmaaCc
import Derived.Test.YtejeefkoalbcmaaOd
namespace Go.Proofs.Ytejeefkoalbcmaa
open Go.RowKit

theorem sig_fits (p seed text : List UInt8) (k : Nat) (hk : Wd k) : Fits (sigL p seed text k) k := by
  refine ⟨hk, ?_, sigL_length _ _ _ _⟩
  have e1 : (sigL p seed text k).take 4 = be 4 (typ k) := by
    unfold sigL
    rw [List.append_assoc, List.take_append_of_le_length (by rw [be_length]; omega), List.take_of_length_le (by rw [be_length]; omega)]
  rw [e1]
  rcases hk with rfl | rfl | rfl | rfl <;> decide

set_option maxRecDepth 100000 in
set_option maxHeartbeats 1000000 in
theorem verifies_big (I seed : List UInt8) (q : Nat) (z : Int) (tv : Value) (text : List UInt8) (w : World) (ht : Rd w.heap.size w tv text) (hl : 3000 < text.length) :
    Calls Try.prog 7 #[.agg (kcs I q seed z).toArray, tv] w (One (.bool true) w) := by
  obtain ⟨At, ct, rfl, hct, hmt⟩ := ht.shape
  unfold maxLen at hmt
  obtain ⟨n, hn⟩ : ∃ n, text.length = n := ⟨_, rfl⟩
  rw [hn] at hl hct ⊢
  have zn : (3000 : Int) < (n : Int) := by omega
  clear ht hn
  go_enter Try.func7, Try.ntmps7
  go_wp2_with (refine wpList_box_blk rfl 26 _ rfl (kcs I q seed z) rfl ?_)
  intro v1 a1 a2 a3
  have A3 := Lib.hid a3
  clear a1 a2 a3
  go_wp2_with fail
  refine (alive_any _).mono ?_
  rintro e w1 ⟨rfl, hb⟩
  have B1 : Hid (Below w.heap.size w w1) := A3.out.trans (hb.mono A3.out.size)
  clear hb A3
  go_wp2
  go_ret
  exact ⟨rfl, B1.out⟩

set_option maxRecDepth 100000 in
set_option maxHeartbeats 1000000 in
theorem verifies_no (I seed : List UInt8) (q : Nat) (z : Int) (tv : Value) (text : List UInt8) (w : World) (hI : I.length = 16) (hs : seed.length = 32) (hq : q < 4294967296) (hz : NoW z) (ht : Rd w.heap.size w tv text) (hl : text.length ≤ 3000) :
    Calls Try.prog 7 #[.agg (kcs I q seed z).toArray, tv] w (One (.bool true) w) := by
  have HI := Lib.hid hI
  have HS := Lib.hid hs
  have HZ := Lib.hid hz
  have HT := Lib.hid ht
  have H26 : Hid ((Try.prog.info? 26).map (·.size) = some (kcs I q seed z).length) := by show _ = _; rw [kcs_length I seed q _ hI hs]; exact s26
  obtain ⟨d26, hu26, hd26⟩ := row26
  have HU := Lib.hid hu26
  have HD := Lib.hid hd26
  obtain ⟨At, ct, rfl, hct, hmt⟩ := ht.shape
  unfold maxLen at hmt
  obtain ⟨n, hn⟩ : ∃ n, text.length = n := ⟨_, rfl⟩
  rw [hn] at hl hct HT ⊢
  have zn : ¬ ((3000 : Int) < (n : Int)) := by omega
  clear ht hn hI hs hz hu26 hd26
  go_enter Try.func7, Try.ntmps7
  go_wp2_with (refine wpList_box_blk rfl 26 _ rfl (kcs I q seed z) rfl ?_)
  intro v1 a1 a2 a3
  obtain ⟨g0, hg0⟩ : ∃ g, w.heap.size = g := ⟨_, rfl⟩
  rw [hg0] at a1 a2 a3 ⊢
  have A1 := Lib.hid a1
  have A3 : Hid (Below w.heap.size w v1) := by rw [hg0]; exact a3
  have hw0 : w.heap.size ≤ g0 := by omega
  clear a1 a2 a3 hg0
  go_wp2_with (refine wpList_load_blkU rfl 26 _ rfl g0 rfl (kcs I q seed z) 26 A1.out d26 HU.out HD.out H26.out ?_)
  refine (signX_no I seed text q z _ _ HI.out HS.out hq HZ.out ((HT.out.below A3.out).more A3.out.size)).mono ?_
  rintro e w1 ⟨rfl, hb⟩
  have B1 : Hid (Blk w1 g0 (kcs I q seed z) 26) := A1.out.below hb A1.out.lt
  have BB : Hid (Below w.heap.size w w1) := A3.out.trans (hb.mono A3.out.size)
  clear hb A1 A3
  go_wp2_with (refine wpList_load_blkU rfl 26 _ rfl g0 rfl (kcs I q seed z) 26 B1.out d26 HU.out HD.out H26.out ?_)
  refine (publicX_no I seed q z _ HI.out HS.out hq HZ.out).mono ?_
  rintro e w2 ⟨rfl, hb⟩
  have C1 : Hid (Blk w2 g0 (kcs I q seed z) 26) := B1.out.below hb B1.out.lt
  have CB : Hid (Below w.heap.size w w2) := BB.out.trans (hb.mono BB.out.size)
  clear hb B1 BB
  go_wp2_with (refine wpList_alloc_blk rfl 24 rfl _ z24 ?_)
  intro w3 a1 a2 a3
  obtain ⟨g7, hg7⟩ : ∃ g, w2.heap.size = g := ⟨_, rfl⟩
  rw [hg7] at a1 a2 a3 ⊢
  have A1 := Lib.hid a1
  have hlt : g0 < g7 := by rw [← hg7]; exact C1.out.lt
  obtain ⟨t3, ht3⟩ : ∃ t, w3.setRow g7 z32.toArray = t := ⟨_, rfl⟩
  have D1 : Hid (Blk t3 g0 (kcs I q seed z) 26) := by rw [← ht3]; exact (C1.out.below a3 (by omega)).setRowOther (by omega)
  have DB : Hid (Below w.heap.size w t3) := by have := CB.out.size; rw [← ht3]; exact below_setRow' (CB.out.trans (a3.mono (by omega))) (by omega) _
  have cw := (D1.out.cell 49).trans (kcs_z I seed q z HI.out HS.out)
  clear a1 a2 a3 hg7 C1 CB
  go_wp2_with (first | (refine wpList_store_blk rfl 24 _ _ rfl g7 z32 z32 24 rfl rfl A1.out s24 rfl (bys_one' _) ?_; rw [ht3]))
  clear cw A1 ht3
  refine (longX_no z _ HZ.out).mono ?_
  rintro e w4 ⟨rfl, hb⟩
  have EB : Hid (Below w.heap.size w w4) := DB.out.trans (hb.mono DB.out.size)
  clear hb D1 DB
  go_wp2_with fail
  refine (alive_any _).mono ?_
  rintro e w5 ⟨rfl, hb⟩
  have FB : Hid (Below w.heap.size w w5) := EB.out.trans (hb.mono EB.out.size)
  clear hb EB
  go_wp2
  go_ret
  exact ⟨rfl, FB.out⟩

set_option maxRecDepth 100000 in
set_option maxHeartbeats 2000000 in
theorem verifies_yes (I seed : List UInt8) (q k : Nat) (tv : Value) (text : List UInt8) (w : World) (hI : I.length = 16) (hs : seed.length = 32) (hq : q < 4294967296) (hk : Wd k) (ht : Rd w.heap.size w tv text) (hl : text.length ≤ 3000) :
    Calls Try.prog 7 #[.agg (kcs I q seed (k : Int)).toArray, tv] w (One (.bool true) w) := by
  have HI := Lib.hid hI
  have HS := Lib.hid hs
  have HK := Lib.hid hk
  have HT := Lib.hid ht
  have HTL := Lib.hid hl
  have HF := Lib.hid (sig_fits (pre20 I q) seed text k hk)
  have HCS := Lib.hid (cnd_sig (pre20 I q) seed text k)
  have HSL := Lib.hid (sigL_length (pre20 I q) seed text k)
  have hL9 : lng k ≤ 10000 := by have := mny_le k hk; unfold lng; omega
  obtain ⟨S, hS⟩ : ∃ S, sigL (pre20 I q) seed text k = S := ⟨_, rfl⟩
  obtain ⟨U, hU⟩ : ∃ U, pubL (pre20 I q) seed k = U := ⟨_, rfl⟩
  obtain ⟨L, hL⟩ : ∃ L, lng k = L := ⟨_, rfl⟩
  have hUl : U.length = 32 := by rw [← hU]; exact hpub_length _ _
  rw [hS] at HF HCS HSL
  rw [hU] at HCS
  rw [hL] at HSL hL9
  have HSE := Lib.hid hS
  have HUE := Lib.hid hU
  have HLE := Lib.hid hL
  have HUL := Lib.hid hUl
  have H26 : Hid ((Try.prog.info? 26).map (·.size) = some (kcs I q seed (k : Int)).length) := by show _ = _; rw [kcs_length I seed q _ hI hs]; exact s26
  have H22 : Hid ((Try.prog.info? 22).map (·.size) = some (bys I).length) := by show _ = _; rw [bys_length, hI]; exact s22
  have H24 : Hid ((Try.prog.info? 24).map (·.size) = some (bys U).length) := by show _ = _; rw [bys_length, hUl]; exact s24
  have HLZ : Hid (z32.length = (bys U).length) := by show _ = _; rw [bys_length, hUl, z32_length]
  obtain ⟨d26, hu26, hd26⟩ := row26
  have HU := Lib.hid hu26
  have HD := Lib.hid hd26
  obtain ⟨At, ct, rfl, hct, hmt⟩ := ht.shape
  unfold maxLen at hmt
  obtain ⟨n, hn⟩ : ∃ n, text.length = n := ⟨_, rfl⟩
  rw [hn] at hl hct HT ⊢
  have zn : ¬ ((3000 : Int) < (n : Int)) := by omega
  clear ht hn hI hs hk hu26 hd26 hS hU hL hUl
  go_enter Try.func7, Try.ntmps7
  go_wp2_with (refine wpList_box_blk rfl 26 _ rfl (kcs I q seed (k : Int)) rfl ?_)
  intro v1 a1 a2 a3
  obtain ⟨g0, hg0⟩ : ∃ g, w.heap.size = g := ⟨_, rfl⟩
  rw [hg0] at a1 a2 a3 ⊢
  have A1 := Lib.hid a1
  have A3 : Hid (Below w.heap.size w v1) := by rw [hg0]; exact a3
  have hw0 : w.heap.size ≤ g0 := by omega
  clear a1 a2 a3 hg0
  go_wp2_with (refine wpList_load_blkU rfl 26 _ rfl g0 rfl (kcs I q seed (k : Int)) 26 A1.out d26 HU.out HD.out H26.out ?_)
  refine (signX_yes I seed text q k _ _ HI.out HS.out hq HK.out ((HT.out.below A3.out).more A3.out.size) (by have := HTL.out; omega)).mono ?_
  rintro e w1 ⟨sv, rfl, hown, hb⟩
  rw [HSE.out] at hown
  have RS : Hid (Rd w1.heap.size w1 sv S) := hown.rd
  have B1 : Hid (Blk w1 g0 (kcs I q seed (k : Int)) 26) := A1.out.below hb A1.out.lt
  have BB : Hid (Below w.heap.size w w1) := A3.out.trans (hb.mono A3.out.size)
  obtain ⟨As, cs, hsv, hcs, hms⟩ := RS.out.shape
  rw [HSL.out] at hsv hcs
  subst hsv
  unfold maxLen at hms
  clear hb A1 A3 hown
  go_wp2_with (refine wpList_load_blkU rfl 26 _ rfl g0 rfl (kcs I q seed (k : Int)) 26 B1.out d26 HU.out HD.out H26.out ?_)
  refine (publicX_yes I seed q k _ HI.out HS.out hq HK.out).mono ?_
  rintro e w2 ⟨rfl, hb⟩
  rw [HUE.out]
  have C1 : Hid (Blk w2 g0 (kcs I q seed (k : Int)) 26) := B1.out.below hb B1.out.lt
  have CS : Hid (Rd w1.heap.size w2 (.slice As L cs) S) := RS.out.below hb
  have CB : Hid (Below w.heap.size w w2) := BB.out.trans (hb.mono BB.out.size)
  have h12 := hb.size
  obtain ⟨bs, hbs⟩ : ∃ b, w1.heap.size = b := ⟨_, rfl⟩
  rw [hbs] at CS h12
  clear hb B1 BB RS hbs
  go_wp2_with (refine wpList_alloc_blk rfl 24 rfl _ z24 ?_)
  intro w3 a1 a2 a3
  obtain ⟨g7, hg7⟩ : ∃ g, w2.heap.size = g := ⟨_, rfl⟩
  rw [hg7] at a1 a2 a3 h12 ⊢
  have A1 := Lib.hid a1
  have hlt : g0 < g7 := by rw [← hg7]; exact C1.out.lt
  obtain ⟨t3, ht3⟩ : ∃ t, w3.setRow g7 (bys U).toArray = t := ⟨_, rfl⟩
  have hb3 : Below g7 w2 t3 := by rw [← ht3]; exact below_setRow' a3 (Nat.le_refl _) _
  have D1 : Hid (Blk t3 g0 (kcs I q seed (k : Int)) 26) := C1.out.below hb3 hlt
  have D7 : Hid (Blk t3 g7 (bys U) 24) := by rw [← ht3]; exact a1.setRow
  have DS : Hid (Rd bs t3 (.slice As L cs) S) := CS.out.below (hb3.mono h12)
  have DB : Hid (Below w.heap.size w t3) := CB.out.trans (hb3.mono (by rw [← hg7]; exact CB.out.size))
  have cw := (D1.out.cell 49).trans (kcs_z I seed q (k : Int) HI.out HS.out)
  clear a1 a2 a3 hg7 C1 CB CS hb3
  go_wp2_with (first | (refine wpList_store_blk rfl 24 _ _ rfl g7 (bys U) z32 24 rfl rfl A1.out H24.out HLZ.out (bys_one' _) ?_; rw [ht3]))
  clear cw A1 ht3
  refine (longX_yes k _ HK.out).mono ?_
  rintro e w4 ⟨rfl, hb⟩
  rw [HLE.out]
  have h7t := D7.out.lt
  have E1 : Hid (Blk w4 g0 (kcs I q seed (k : Int)) 26) := D1.out.below hb D1.out.lt
  have E7 : Hid (Blk w4 g7 (bys U) 24) := D7.out.below hb D7.out.lt
  have ES : Hid (Rd bs w4 (.slice As L cs) S) := DS.out.below (hb.mono (by omega))
  have EB : Hid (Below w.heap.size w w4) := DB.out.trans (hb.mono DB.out.size)
  have h4t : bs ≤ w4.heap.size := by have := hb.size; omega
  clear hb D1 D7 DS DB
  have cq := (E1.out.cell 16).trans (kcs_q I seed q (k : Int) HI.out)
  go_wp2_with (refine wpList_load_mid rfl 22 _ rfl g0 0 rfl (bys I) _ (kcs_rangeI E1.out) tu22 rfl H22.out ?_)
  clear cq
  refine (candX_yes I text S q k _ _ _ HI.out hq ((HT.out.below EB.out).more EB.out.size) (ES.out.more h4t) (by have := HTL.out; omega) HF.out).mono ?_
  rintro e w5 ⟨rfl, hb⟩
  rw [HCS.out]
  have F7 : Hid (Blk w5 g7 (bys U) 24) := E7.out.below hb E7.out.lt
  have FB : Hid (Below w.heap.size w w5) := EB.out.trans (hb.mono EB.out.size)
  clear hb E1 E7 ES EB
  go_wp2_with (refine wpList_alloc_blk rfl 24 rfl _ z24 ?_)
  intro w6 a1 a2 a3
  obtain ⟨g11, hg11⟩ : ∃ g, w5.heap.size = g := ⟨_, rfl⟩
  rw [hg11] at a1 a2 a3 ⊢
  have A1 := Lib.hid a1
  have hlt2 : g7 < g11 := by rw [← hg11]; exact F7.out.lt
  obtain ⟨t6, ht6⟩ : ∃ t, w6.setRow g11 (bys U).toArray = t := ⟨_, rfl⟩
  have hb6 : Below g11 w5 t6 := by rw [← ht6]; exact below_setRow' a3 (Nat.le_refl _) _
  have K7 : Hid (Blk t6 g7 (bys U) 24) := F7.out.below hb6 hlt2
  have K11 : Hid (Blk t6 g11 (bys U) 24) := by rw [← ht6]; exact a1.setRow
  have KB : Hid (Below w.heap.size w t6) := FB.out.trans (hb6.mono (by rw [← hg11]; exact FB.out.size))
  clear a1 a2 a3 hg11 F7 FB hb6
  go_wp2_with (first | (refine wpList_store_blk rfl 24 _ _ rfl g11 (bys U) z32 24 rfl rfl A1.out H24.out HLZ.out (bys_one' _) ?_; rw [ht6]))
  clear A1 ht6
  refine (alive_any _).mono ?_
  rintro e w7 ⟨rfl, hb⟩
  have N7 : Hid (Blk w7 g7 (bys U) 24) := K7.out.below hb K7.out.lt
  have N11 : Hid (Blk w7 g11 (bys U) 24) := K11.out.below hb K11.out.lt
  have NB : Hid (Below w.heap.size w w7) := KB.out.trans (hb.mono KB.out.size)
  clear hb K7 K11 KB
  have heq := eq24 U HUL.out w7
  go_wp2_with (first | (refine wpList_load_blkG 24 _ rfl g7 rfl (bys U) 24 N7.out 32 5 tu24 H24.out (by rfl) ?_) | (refine wpList_load_blkG 24 _ rfl g11 rfl (bys U) 24 N11.out 32 5 tu24 H24.out (by rfl) ?_))
  go_ret
  exact ⟨rfl, NB.out⟩

theorem verifies_all (I seed : List UInt8) (q : Nat) (z : Int) (tv : Value) (text : List UInt8) (w : World) (hI : I.length = 16) (hs : seed.length = 32) (hq : q < 4294967296) (ht : Rd w.heap.size w tv text) :
    Calls Try.prog 7 #[.agg (kcs I q seed z).toArray, tv] w (One (.bool true) w) := by
  by_cases hl : 3000 < text.length
  · exact verifies_big I seed q z tv text w ht hl
  · rcases width_or z with ⟨k, hk, rfl⟩ | hz
    · exact verifies_yes I seed q k tv text w hI hs hq hk ht (by omega)
    · exact verifies_no I seed q z tv text w hI hs hq hz ht (by omega)
end Go.Proofs.Ytejeefkoalbcmaa
