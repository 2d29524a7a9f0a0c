/-
  Package lms: the key of a leaf, and the hashes of nodes: nodeHash, leafHash, upperHash, for every input that they are called with.
-/
import Derived.Test.YtnemkefmlffigaaGreatL1
namespace Go.Proofs.YtnemkefmlffigaaGreat
open Go.RowKit

/-- The cells of a tree. -/
def tcs (I seed : List UInt8) (z y : Int) : List Value := bys I ++ (bys seed ++ [.int .i64 z, .int .i64 y])
theorem tcs_length (I seed : List UInt8) (z y : Int) (hI : I.length = 16) (hs : seed.length = 32) : (tcs I seed z y).length = 50 := by simp [tcs, bys_length, hI, hs]
theorem tcs_z (I seed : List UInt8) (z y : Int) (hI : I.length = 16) (hs : seed.length = 32) : (tcs I seed z y)[48]? = some (.int .i64 z) := by
  unfold tcs
  rw [List.getElem?_append_right (by rw [bys_length, hI]; omega), List.getElem?_append_right (by rw [bys_length, bys_length, hI, hs]; omega), bys_length, bys_length, hI, hs]
  rfl
theorem tcs_y (I seed : List UInt8) (z y : Int) (hI : I.length = 16) (hs : seed.length = 32) : (tcs I seed z y)[49]? = some (.int .i64 y) := by
  unfold tcs
  rw [List.getElem?_append_right (by rw [bys_length, hI]; omega), List.getElem?_append_right (by rw [bys_length, bys_length, hI, hs]; omega), bys_length, bys_length, hI, hs]
  rfl
theorem tcs_rangeI {w : World} {g : Nat} {I seed : List UInt8} {z y : Int} {t : TypeId} (h : Blk w g (tcs I seed z y) t) : w.rangeAt g 0 (bys I) := fun j v hv => by
  have hj : j < (bys I).length := (List.getElem?_eq_some_iff.1 hv).1
  rw [h.cell, Nat.zero_add]
  unfold tcs
  rw [List.getElem?_append_left hj]
  exact hv
theorem tcs_rangeS {w : World} {g : Nat} {I seed : List UInt8} {z y : Int} {t : TypeId} (h : Blk w g (tcs I seed z y) t) (hI : I.length = 16) : w.rangeAt g 16 (bys seed) := fun j v hv => by
  have hj : j < (bys seed).length := (List.getElem?_eq_some_iff.1 hv).1
  rw [h.cell]
  unfold tcs
  rw [List.getElem?_append_right (by rw [bys_length, hI]; omega), bys_length, hI, List.getElem?_append_left (by omega), show 16 + j - 16 = j by omega]
  exact hv
/-- The name of a tree, read where it lies. -/
theorem tcs_I {w : World} {g B : Nat} {I seed : List UInt8} {z y : Int} {t : TypeId} (h : Blk w g (tcs I seed z y) t) (hI : I.length = 16) (hg : g < B) : Rd B w (.slice (some ⟨g, 0, none⟩) 16 16) I := by
  refine ⟨some ⟨g, 0, none⟩, 16, by rw [hI], by omega, by unfold maxLen; omega, fun h => (by cases h), fun a ha => ?_⟩
  cases ha
  refine ⟨fun _ => hg, fun j hj => ?_⟩
  have := tcs_rangeI h j _ (bys_get I j hj)
  rw [Addr.add_mid]
  exact this
theorem sTree : (Tryz.prog.info? 25).map (·.size) = some 50 := by kernel_rfl
theorem rowTree : ∃ d, Tryz.prog.underlying 25 = some d ∧ d.isRow = true := row_of (by kernel_rfl)
theorem tcs_one (I seed : List UInt8) (z y : Int) : (tcs I seed z y).toArray.all (·.oneCell') = true := by
  rw [Array.all_eq_true_iff_forall_mem]
  intro v hv
  simp only [tcs, List.mem_toArray, List.mem_append, List.mem_cons, List.not_mem_nil, or_false] at hv
  rcases hv with h | h | h | h
  · exact bys_one _ _ h
  · exact bys_one _ _ h
  · subst h; rfl
  · subst h; rfl
theorem list_asL (l : List UInt8) (n : Nat) (h : l.length = n) : l = (List.range n).map fun i => l.getD i 0 := by
  subst h
  refine List.ext_getElem (by simp) (fun i h1 h2 => ?_)
  simp [h1]
theorem built_keyL0 (f g : Nat → UInt8) (q z : Int) : Tryz.prog.built 66 [(0, .agg (bys ((List.range 16).map f)).toArray), (1, .int .u32 q), (2, .agg (bys ((List.range 32).map g)).toArray), (3, .int .i64 z)] = some (bys ((List.range 16).map f) ++ (Value.int .u32 q :: (bys ((List.range 32).map g) ++ [Value.int .i64 z]))).toArray := by kernel_rfl
theorem built_keyL (I seed : List UInt8) (q : Nat) (z : Int) (hI : I.length = 16) (hs : seed.length = 32) : Tryz.prog.built 66 [(0, .agg (bys I).toArray), (1, .int .u32 (q : Int)), (2, .agg (bys seed).toArray), (3, .int .i64 z)] = some (kcs I q seed z).toArray := by
  rw [list_asL I 16 hI, list_asL seed 32 hs]
  exact built_keyL0 _ _ _ _
theorem zi51 : ∃ z0 : List Value, (Tryz.prog.info? 66).map (·.zero) = some (some (.agg z0.toArray)) ∧ z0.length = 50 := ⟨bys (List.replicate 16 0) ++ (.int .u32 0 :: (bys (List.replicate 32 0) ++ [.int .i64 0])), by kernel_rfl, by decide⟩
theorem kcs_oneL (I seed : List UInt8) (q : Nat) (z : Int) : (kcs I q seed z).toArray.all (·.oneCell') = true := by
  rw [Array.all_eq_true_iff_forall_mem]
  intro v hv
  simp only [kcs, List.mem_toArray, List.mem_append, List.mem_cons, List.not_mem_nil, or_false] at hv
  rcases hv with h | h | h | h
  · exact bys_one _ _ h
  · subst h; rfl
  · exact bys_one _ _ h
  · subst h; rfl
theorem ret_blkUL {P : Program} {fn : Func} {p : Tmp} {ty : TypeId} (h : fn.results = #[.cell p ty]) (tmps : Array Value) (w : World) (g : Nat) (t : TypeId) (cs : List Value)
    (hp : tmps.getD p undef = .pointer (some ⟨g, 0, none⟩)) (hb : Blk w g cs t) (d : TypeDesc) (hu : P.underlying ty = some d) (hd : d.isRow = true) (hi : (P.info? ty).map (·.size) = some cs.length) :
    (results fn tmps).run P w = .ok (.agg cs.toArray) w :=
  results_cell_row h tmps w g t cs.toArray (0, 0) d hp hb hu (by cases d <;> first | rfl | cases hd) (by simpa using hi)

set_option maxRecDepth 100000 in
set_option maxHeartbeats 1000000 in
theorem keyL_any (I seed : List UInt8) (q : Nat) (z y : Int) (w : World) (hI : I.length = 16) (hs : seed.length = 32) (hq : q < 4294967296) : Calls Tryz.prog 34 #[.agg (tcs I seed z y).toArray, .int .i64 (q : Int)] w (Arr (kcs I q seed z) w) := by
  have HI := Lib.hid hI
  have HS := Lib.hid hs
  have zq : (q : Int) < 4294967296 := by omega
  obtain ⟨z0, hz, hzl⟩ := zi51
  have HZ := Lib.hid hz
  have HZL := Lib.hid hzl
  obtain ⟨d51, hu51, hd51⟩ := row26
  have HU := Lib.hid hu51
  have HD := Lib.hid hd51
  have H22 : Hid ((Tryz.prog.info? 22).map (·.size) = some (bys I).length) := by show _ = _; rw [bys_length, hI]; exact s22
  have H24 : Hid ((Tryz.prog.info? 23).map (·.size) = some (bys seed).length) := by show _ = _; rw [bys_length, hs]; exact s24
  have H51 : Hid ((Tryz.prog.info? 66).map (·.size) = some (kcs I q seed z).length) := by show _ = _; rw [kcs_length I seed q _ hI hs]; exact s26
  have HL : Hid (z0.length = (kcs I q seed z).length) := by show _ = _; rw [kcs_length I seed q _ hI hs, hzl]
  clear hI hs hz hzl hu51 hd51
  go_enter Tryz.func34, Tryz.ntmps34
  go_wp2_with (refine wpList_box_blk rfl 25 _ rfl (tcs I seed z y) rfl ?_)
  intro w1 a1 a2 a3
  have A1 := Lib.hid a1
  have A2 := Lib.hid a2
  have A3 := Lib.hid a3
  clear a1 a2 a3
  go_wp2_with (refine wpList_alloc_blk rfl 66 rfl _ HZ.out ?_)
  intro w2 a1 a2 a3
  rw [A2.out] at a1 a2 a3 ⊢
  have G1 : Hid (Blk w2 w.heap.size (tcs I seed z y) 25) := A1.out.below a3 (by omega)
  have G2 : Hid (Blk w2 (w.heap.size + 1) z0 66) := a1
  have GB : Hid (Below w.heap.size w w2) := A3.out.trans (a3.mono (by omega))
  have cw := (G1.out.cell 48).trans (tcs_z I seed z y HI.out HS.out)
  clear a1 a2 a3 A1 A2 A3
  go_wp2_with (first | (refine wpList_load_mid rfl 22 _ rfl w.heap.size 0 rfl (bys I) _ (tcs_rangeI G1.out) tu22 rfl H22.out ?_) | (refine wpList_load_mid rfl 23 _ rfl w.heap.size 16 rfl (bys seed) _ (tcs_rangeS G1.out HI.out) tu24 rfl H24.out ?_) | (refine wpList_buildTo rfl 66 _ rfl (some 13) rfl (kcs I q seed z).toArray (by simp only [List.map_toArray, List.map_cons, List.map_nil]; exact built_keyL I seed q z HI.out HS.out) ?_) | (refine wpList_store_blk rfl 66 _ _ rfl (w.heap.size + 1) (kcs I q seed z) z0 66 rfl rfl G2.out H51.out HL.out (kcs_oneL _ _ _ _) ?_))
  refine bodyPost_ret (v := .agg (kcs I q seed z).toArray) ?_ rfl ?_
  · exact ret_blkUL rfl _ _ (w.heap.size + 1) 66 _ rfl G2.out.setRow d51 HU.out HD.out H51.out
  · exact ⟨rfl, below_setRow' GB.out (by omega) _⟩

theorem Own.apart {e : TypeId} {w : World} {base g : Nat} {v : Value} {l : List UInt8} (h : Own e w base v l) (hg : g < base) : Apart g v := fun a n c hv hn => by
  obtain ⟨_, ⟨hv2, _⟩ | ⟨g2, cap, cur, hv2, hb, _⟩⟩ := h
  · rw [hv] at hv2; cases hv2
  · rw [hv] at hv2
    injection hv2 with e1 e2 e3
    injection e1 with e1
    subst e1
    show g2 ≠ g
    omega

set_option maxRecDepth 100000 in
set_option maxHeartbeats 1000000 in
theorem nodeHash_any (I : List UInt8) (r : Nat) (A : Option Addr) (c n : Nat) (ls : List (List UInt8)) (w : World) (h : RdL w.heap.size w A c ls) (hn : ls.length = n) (hI : I.length = 16) (hr : r < 4294967296) (hlen : (pre20 I r ++ ls.flatten).length ≤ 900000) (hsm : ∀ l ∈ ls, l.length ≤ 900000) :
    Calls Tryz.prog 79 #[.agg (bys I).toArray, .int .i64 (r : Int), .slice A n c] w (Arr (bys (hash (pre20 I r ++ ls.flatten))) w) := by
  subst hn
  have HI := Lib.hid hI
  have HSM := Lib.hid hsm
  have HLEN := Lib.hid hlen
  have zr : (r : Int) < 4294967296 := by omega
  obtain ⟨hc, hm, hn, hrow⟩ := h
  unfold maxLen at hm
  have HN := Lib.hid hn
  have HROW := Lib.hid hrow
  have H24 : Hid ((Tryz.prog.info? 23).map (·.size) = some (bys (hash (pre20 I r ++ ls.flatten))).length) := by show _ = _; rw [bys_length, hash_length]; exact s24
  have HLZ : Hid (z32.length = (bys (hash (pre20 I r ++ ls.flatten))).length) := by show _ = _; rw [bys_length, hash_length, z32_length]
  obtain ⟨N, hN⟩ : ∃ N, ls.length = N := ⟨_, rfl⟩
  have HNN := Lib.hid hN
  rw [hN] at hc ⊢
  clear hI hsm hlen hn hrow hN
  go_enter Tryz.func79, Tryz.ntmps79
  go_wp2_with (refine wpList_box_blk rfl 22 _ rfl (bys I) rfl ?_)
  intro w1 a1 a2 a3
  have A1 := Lib.hid a1
  have A2 := Lib.hid a2
  have A3 := Lib.hid a3
  clear a1 a2 a3
  go_wp2_with (refine wpList_alloc_blk rfl 23 rfl _ z24 ?_)
  intro w2 a1 a2 a3
  rw [A2.out] at a1 a2 a3 ⊢
  have G1 : Hid (Blk w2 w.heap.size (bys I) 22) := A1.out.below a3 (by omega)
  have G2 : Hid (Blk w2 (w.heap.size + 1) z32 23) := a1
  have GB : Hid (Below w.heap.size w w2) := A3.out.trans (a3.mono (by omega))
  have HS2 := Lib.hid a2
  clear a1 a2 a3 A1 A2 A3
  go_wp2_with fail
  refine (new_any w2).mono ?_
  rintro e w3 ⟨rfl, hsz3, hob3, hb3⟩
  obtain ⟨g, hg⟩ : ∃ g, w3.heap.size - 1 = g := ⟨_, rfl⟩
  rw [hg] at hob3 ⊢
  have hs2 := HS2.out
  have hgl : w.heap.size + 1 < g := by omega
  have E1 : Hid (Blk w3 w.heap.size (bys I) 22) := G1.out.below hb3 (by omega)
  have E2 : Hid (Blk w3 (w.heap.size + 1) z32 23) := G2.out.below hb3 (by omega)
  have EB : Hid (Below w.heap.size w w3) := GB.out.trans (hb3.mono (by omega))
  have EO := Lib.hid hob3
  have hs3 : g < w3.heap.size := by omega
  clear hob3 hb3 hsz3 hg G1 G2 GB HS2 hs2
  go_wp2_with fail
  have hpl := HI.out
  refine (write_any g [] _ I w3 EO.out (Rd.blk 16 hpl E1.out (by omega) (by omega)) (fun a n c hv _ => by injection hv with e1 e2 e3; injection e1 with e1; subst e1; show w.heap.size ≠ g; omega) (by simp; omega)).mono ?_
  rintro e w4 ⟨rfl, hob4, hbut4⟩
  rw [List.nil_append] at hob4
  have F2 : Hid (Blk w4 (w.heap.size + 1) z32 23) := hbut4.blk E2.out (by omega)
  have FB : Hid (Below w.heap.size w w4) := EB.out.trans (hbut4.below (by omega) EB.out.size)
  have FO := Lib.hid hob4
  have hs4 : g < w4.heap.size := Nat.lt_of_lt_of_le hs3 hbut4.size
  clear hob4 hbut4 E1 E2 EB EO hs3
  go_wp2_with fail
  refine (fourL_any r _ hr).mono ?_
  rintro e w5 ⟨v5, rfl, hown5, hb5⟩
  have I2 : Hid (Blk w5 (w.heap.size + 1) z32 23) := F2.out.below hb5 (by omega)
  have IB : Hid (Below w.heap.size w w5) := FB.out.trans (hb5.mono FB.out.size)
  have IO : Hid (Obj w5 g I) := FO.out.below hb5 hs4
  have IV := Lib.hid hown5
  have IAP := Lib.hid (hown5.apart hs4)
  have hs5 : g < w5.heap.size := Nat.lt_of_lt_of_le hs4 hb5.size
  clear hown5 hb5 F2 FB FO
  go_wp2_with fail
  refine (write_any g I _ (be 4 r) w5 IO.out IV.out.rd IAP.out (by rw [be_length]; omega)).mono ?_
  rintro e w6 ⟨rfl, hob6, hbut6⟩
  obtain ⟨p, hp⟩ : ∃ p, pre20 I r = p := ⟨_, rfl⟩
  have hp' : I ++ be 4 r = p := hp
  rw [hp'] at hob6
  rw [hp] at HLEN H24 HLZ ⊢
  have HPE := Lib.hid hp
  have K0 : Hid (HashAt w g (w.heap.size + 1) (p ++ (ls.take 0).flatten) w6) := ⟨by simpa using hob6, hbut6.blk I2.out (by omega), IB.out.trans (hbut6.below (by omega) IB.out.size)⟩
  clear hob6 hbut6 I2 IB IO IV IAP hs4 hs5 hpl hp hp'
  go_wp2
  go_loopw [21] (fun x wr => ∃ i : Nat, i ≤ N ∧ x = .int .i64 i ∧ Hid (HashAt w g (w.heap.size + 1) (p ++ (ls.take i).flatten) wr)) (fun x _ => N - (intOf x).toNat)
  case atStart => exact ⟨0, by omega, rfl, K0⟩
  case round =>
    clear K0
    obtain ⟨i, hi, rfl, K⟩ := hrel
    by_cases hi2 : i < N
    · have hi3 : i < ls.length := by have := HNN.out; omega
      obtain ⟨a, rfl⟩ : ∃ a, A = some a := by
        cases A with
        | none => have := HN.out rfl; omega
        | some a => exact ⟨a, rfl⟩
      obtain ⟨hab, vr, hcv, hrd⟩ := HROW.out a rfl i hi3
      obtain ⟨l, hl⟩ : ∃ l, ls[i] = l := ⟨_, rfl⟩
      have hbs : p ++ (ls.take (i + 1)).flatten = (p ++ (ls.take i).flatten) ++ l := by
        rw [List.take_succ_eq_append_getElem hi3, hl]; simp
      have hlb : (p ++ (ls.take i).flatten).length + l.length ≤ 1000000 := by
        have h1 := HLEN.out
        have h2 : ls.flatten = (ls.take (i + 1)).flatten ++ (ls.drop (i + 1)).flatten := by rw [← List.flatten_append, List.take_append_drop]
        rw [h2, ← List.append_assoc, hbs, List.length_append, List.length_append] at h1
        omega
      have HBS := Lib.hid hbs
      have HLB := Lib.hid hlb
      rw [hl] at hrd
      have HRD := Lib.hid hrd
      obtain ⟨A5, c5, hv5, hc5, hm5⟩ := hrd.shape
      subst hv5
      unfold maxLen at hm5
      have cv : wr.cell? (a.add i) = some (.slice A5 l.length c5) := by rw [K.out.2.2.cell (by rw [addr_block]; exact hab)]; exact hcv
      have zi : (i : Int) < (N : Int) := by omega
      clear hcv hl hrd hbs hlb
      go_wp2_with fail
      clear cv
      have hkb := K.out.2.2
      refine (write_any g _ _ l wr K.out.1 ((HRD.out.below hkb).more hkb.size) (apart_of HRD.out (by omega)) HLB.out).mono ?_
      rintro e w5 ⟨rfl, hob5, hbut5⟩
      have K5 : Hid (HashAt w g (w.heap.size + 1) (p ++ (ls.take (i + 1)).flatten) w5) := by
        refine ⟨by rw [HBS.out]; exact hob5, hbut5.blk K.out.2.1 (by omega), hkb.trans (hbut5.below (by omega) hkb.size)⟩
      clear hob5 hbut5 hkb K
      go_wp2
      go_roundw
      case rel => exact ⟨i + 1, by omega, by go_num, K5⟩
      case measure => simp [intOf]; omega
    · have zi : ¬ (i : Int) < (N : Int) := by omega
      have hiN : i = ls.length := by have := HNN.out; omega
      have hbs : p ++ (ls.take i).flatten = p ++ ls.flatten := by rw [hiN, List.take_length]
      rw [hbs] at K
      clear hbs hiN
      go_wp2_with fail
      refine (sumS_any g _ wr K.out.1 (by have := HLEN.out; omega)).mono ?_
      rintro e w5 ⟨rfl, hb5⟩
      have L1 : Hid (Blk w5 (w.heap.size + 1) z32 23) := K.out.2.1.below hb5 (by have := K.out.2.1.lt; omega)
      have LB : Hid (Below w.heap.size w w5) := K.out.2.2.trans (hb5.mono K.out.2.2.size)
      clear hb5 K
      obtain ⟨H, hH⟩ : ∃ H, hash (p ++ ls.flatten) = H := ⟨_, rfl⟩
      rw [hH] at H24 HLZ ⊢
      have HH := Lib.hid hH
      clear hH
      go_wp2_with (refine wpList_store_blk rfl 23 _ _ rfl (w.heap.size + 1) (bys H) z32 23 rfl rfl L1.out H24.out HLZ.out (bys_one' _) ?_)
      refine bodyPost_ret (v := .agg (bys H).toArray) ?_ rfl ?_
      · exact ret_blk rfl _ _ (w.heap.size + 1) 23 _ rfl L1.out.setRow 32 5 tu24 H24.out
      · exact ⟨by rw [HPE.out, HH.out], below_setRow' LB.out (by omega) _⟩
end Go.Proofs.YtnemkefmlffigaaGreat
