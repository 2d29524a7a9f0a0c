/-
  Package lms: fourBytes, number, sibling, kindOf, the leaves and the length of a shape, the key of a leaf, for every input that they are called with.
  Package lms: the key of a leaf, and the hashes of nodes: nodeHash, leafHash, upperHash, for every input that they are called with.
  Package lms: leafHash and upperHash, for every input that they are called with.
  Package lms: shapeOf, for every width and height; hashes, what it lays.
  Package lms: the hash of a node, for every node of a tree.
  Package lms: Long and Leaf, for every input; the siblings of a leaf's way.
  Package lms: Public and Knot, for every input.
-/
import Derived.Test.YtllncnnigjgadaaGreatCC
import Derived.Test.YtllncnnigjgadaaGreatLp
import Derived.Laws.EntriesVeiled
namespace Go.Proofs.YtllncnnigjgadaaGreat
open Go.RowKit

set_option maxHeartbeats 400000 in
theorem fourL_any (q : Nat) (w : World) (hq : q < 4294967296) : Calls Tryz.prog 48 #[.int .u32 (q : Int)] w (Gives w.heap.size (be 4 q) w) := by
  have zq : (q : Int) < 4294967296 := by omega
  go_enter Tryz.func48, Tryz.ntmps48
  go_wp2
  go_ret
  refine ⟨_, rfl, Own.lit 5 w _ 4 (be 4 q) (be_length _ _) (by omega) ?_, (Below.refl _ _).alloc (Nat.le_refl _) _⟩
  simp [be, bys]
  omega

set_option maxHeartbeats 1000000 in
theorem numberL_any (B : Nat) (v : Value) (l : List UInt8) (w : World) (hr : Rd B w v l) (hl : 4 ≤ l.length) : Calls Tryz.prog 28 #[v] w (Drew (.int .u32 (wd l 0 : Nat)) w) := by
  obtain ⟨a, c, hv, hc, hm⟩ := hr.some_ (by omega)
  subst hv
  obtain ⟨A, c', hv, _, _, _, hcell⟩ := hr
  injection hv with e1 e2 e3
  subst e1 e3
  have h0 := (hcell a rfl).2 0 (by omega)
  have h1 := (hcell a rfl).2 1 (by omega)
  have h2 := (hcell a rfl).2 2 (by omega)
  have h3 := (hcell a rfl).2 3 (by omega)
  have hw : wd l 0 = (l[0].toNat * 16777216 ||| l[1].toNat * 65536 ||| l[2].toNat * 256 ||| l[3].toNat) := by
    unfold wd
    simp [show 0 < l.length by omega, show 1 < l.length by omega, show 2 < l.length by omega, show 3 < l.length by omega]
  rw [hw]
  have y0 : l[0].toNat < 256 := l[0].toNat_lt
  have y1 : l[1].toNat < 256 := l[1].toNat_lt
  have y2 : l[2].toNat < 256 := l[2].toNat_lt
  have y3 : l[3].toNat < 256 := l[3].toNat_lt
  generalize l[0].toNat = B0 at h0 y0 hw ⊢
  generalize l[1].toNat = B1 at h1 y1 hw ⊢
  generalize l[2].toNat = B2 at h2 y2 hw ⊢
  generalize l[3].toNat = B3 at h3 y3 hw ⊢
  have HW := Lib.hid (wd_int2 B0 B1 B2 B3 y0 y1 y2 y3)
  unfold maxLen at hm
  clear hcell hw
  obtain ⟨n, hn⟩ : ∃ n, l.length = n := ⟨_, rfl⟩
  rw [hn] at hl hc ⊢
  clear hn
  have zl : (4 : Int) ≤ (n : Int) := by omega
  rw [show a.add 0 = a by simp [Addr.add]] at h0
  simp only [Addr.add] at h1 h2 h3
  rw [if_neg (by omega)] at h1 h2 h3
  go_enter Tryz.func28, Tryz.ntmps28
  go_wp2
  refine wp_region_quiet_lit (by kernel_rfl) (by kernel_rfl) ?_
  repeat (first | go_big_quiet_step (fail) | quiet_step (fail))
  refine wpQuiet_nil ?_
  intro _ hw'
  obtain ⟨nq, hw''⟩ := hw'
  subst hw''
  go_wp2
  go_ret
  exact ⟨ret_intD HW.out, nq, rfl⟩

set_option maxHeartbeats 400000 in
theorem siblingL_any (r : Nat) (w : World) (h1 : 1 ≤ r) (h2 : r < 1000) : Calls Tryz.prog 62 #[.int .i64 (r : Int)] w (One (.int .i64 (sbr r : Nat)) w) := by
  by_cases h : r % 2 = 0
  · have hz : (r : Int) % 2 = 0 := by omega
    have z1 : (r : Int) < 1000 := by omega
    have e : ((sbr r : Nat) : Int) = (r : Int) + 1 := by unfold sbr; rw [if_pos h]; omega
    rw [e]
    have ht : Int.tmod (r : Int) 2 = 0 := by rw [Int.tmod_eq_emod_of_nonneg (by omega)]; exact hz
    go_enter Tryz.func62, Tryz.ntmps62
    go_wp2
    go_ret
    exact ⟨rfl, Below.refl _ _⟩
  · have hz : (r : Int) % 2 = 1 := by omega
    have z1 : (r : Int) < 1000 := by omega
    have z0 : (1 : Int) ≤ (r : Int) := by omega
    have e : ((sbr r : Nat) : Int) = (r : Int) - 1 := by unfold sbr; rw [if_neg h]; omega
    rw [e]
    have ht : Int.tmod (r : Int) 2 = 1 := by rw [Int.tmod_eq_emod_of_nonneg (by omega)]; exact hz
    go_enter Tryz.func62, Tryz.ntmps62
    go_wp2
    go_ret
    exact ⟨rfl, Below.refl _ _⟩

/-- A height. -/
def Ht (h : Nat) : Prop := h = 1 ∨ h = 2 ∨ h = 3 ∨ h = 4 ∨ h = 5
theorem Ht.le {h : Nat} (H : Ht h) : 1 ≤ h ∧ h ≤ 5 := by rcases H with rfl | rfl | rfl | rfl | rfl <;> decide
theorem Ht.of {h : Nat} (h1 : 1 ≤ h) (h5 : h ≤ 5) : Ht h := by unfold Ht; omega

set_option maxHeartbeats 400000 in
theorem kindL_any (h : Nat) (w : World) (H : Ht h) : Calls Tryz.prog 83 #[.int .i64 (h : Int)] w (One (.int .u32 (knd h : Nat)) w) := by
  rcases H with rfl | rfl | rfl | rfl | rfl
  all_goals
    go_enter Tryz.func83, Tryz.ntmps83
    go_wp2
    go_ret
    exact ⟨rfl, Below.refl _ _⟩

/-- The cells of a shape. -/
def shl (k h : Nat) : List Value := [.int .u32 (knd h : Nat), .int .u32 (typ k : Nat), .int .i64 (lng k : Nat), .int .i64 (h : Nat)]
def shl0 : List Value := [.int .u32 0, .int .u32 0, .int .i64 0, .int .i64 0]
theorem zi74 : (Tryz.prog.info? 65).map (·.zero) = some (some (.agg shl0.toArray)) := by kernel_rfl
theorem s74 : (Tryz.prog.info? 65).map (·.size) = some 4 := by kernel_rfl
theorem row74 : ∃ d, Tryz.prog.underlying 65 = some d ∧ d.isRow = true := row_of (by kernel_rfl)
theorem shl0_one : shl0.toArray.all (·.oneCell') = true := by simp [shl0, Value.oneCell']
theorem shl_one (k h : Nat) : (shl k h).toArray.all (·.oneCell') = true := by simp [shl, Value.oneCell']

theorem Blk.at_ {w : World} {g : Nat} {cs : List Value} {t : TypeId} (h : Blk w g cs t) (j : Nat) (v : Value) (hj : cs[j]? = some v) : w.cell? ⟨g, j, none⟩ = some v := (h.cell j).trans hj

set_option maxRecDepth 100000 in
set_option maxHeartbeats 400000 in
theorem leavesL_any (k h : Nat) (w : World) (H : Ht h) : Calls Tryz.prog 33 #[.agg (shl k h).toArray] w (One (.int .i64 (2 ^ h : Nat)) w) := by
  have hk : Hid (((shl k h)[3]? : Option Value) = some (.int .i64 (h : Nat))) := rfl
  go_enter Tryz.func33, Tryz.ntmps33
  go_wp2_with (refine wpList_box_blk rfl 65 _ rfl (shl k h) rfl ?_)
  intro w1 a1 a2 a3
  have c3 := a1.at_ 3 _ hk.out
  have A3 := Lib.hid a3
  clear a1 a2 a3 hk
  rcases H with rfl | rfl | rfl | rfl | rfl
  all_goals
    go_wp2
    go_ret
    exact ⟨rfl, A3.out⟩

set_option maxRecDepth 100000 in
set_option maxHeartbeats 400000 in
theorem longL_any (k h : Nat) (w : World) (hk : Wd k) (H : Ht h) : Calls Tryz.prog 51 #[.agg (shl k h).toArray] w (One (.int .i64 (llng k h : Nat)) w) := by
  have h3 : Hid (((shl k h)[3]? : Option Value) = some (.int .i64 (h : Nat))) := rfl
  have h2 : Hid (((shl k h)[2]? : Option Value) = some (.int .i64 (lng k : Nat))) := rfl
  have hL9 : lng k ≤ 10000 := by have := mny_le k hk; unfold lng; omega
  have e : llng k h = 4 + lng k + 4 + h * 32 := rfl
  rw [e]
  obtain ⟨hh1, hh5⟩ := H.le
  generalize lng k = L at h2 hL9 ⊢
  have z1 : (L : Int) ≤ 10000 := by omega
  have z2 : (h : Int) ≤ 5 := by omega
  go_enter Tryz.func51, Tryz.ntmps51
  go_wp2_with (refine wpList_box_blk rfl 65 _ rfl (shl k h) rfl ?_)
  intro w1 a1 a2 a3
  have c3 := a1.at_ 3 _ h3.out
  have c2 := a1.at_ 2 _ h2.out
  have A3 := Lib.hid a3
  clear a1 a2 a3 h2 h3
  go_wp2
  go_ret
  exact ⟨ret_intD (by omega), A3.out⟩
end Go.Proofs.YtllncnnigjgadaaGreat

namespace Go.Proofs.YtllncnnigjgadaaGreat
open Go.RowKit

/-- The cells of a tree. -/
def tcs (I seed : List UInt8) (z y : Int) : List Value := bys I ++ (bys seed ++ [.int .i64 z, .int .i64 y])
theorem tcs_length (I seed : List UInt8) (z y : Int) (hI : I.length = 16) (hs : seed.length = 32) : (tcs I seed z y).length = 50 := by simp [tcs, bys_length, hI, hs]
theorem tcs_z (I seed : List UInt8) (z y : Int) (hI : I.length = 16) (hs : seed.length = 32) : (tcs I seed z y)[48]? = some (.int .i64 z) := by
  unfold tcs
  rw [List.getElem?_append_right (by rw [bys_length, hI]; omega), List.getElem?_append_right (by rw [bys_length, bys_length, hI, hs]; omega), bys_length, bys_length, hI, hs]
  rfl
theorem tcs_y (I seed : List UInt8) (z y : Int) (hI : I.length = 16) (hs : seed.length = 32) : (tcs I seed z y)[49]? = some (.int .i64 y) := by
  unfold tcs
  rw [List.getElem?_append_right (by rw [bys_length, hI]; omega), List.getElem?_append_right (by rw [bys_length, bys_length, hI, hs]; omega), bys_length, bys_length, hI, hs]
  rfl
theorem tcs_rangeI {w : World} {g : Nat} {I seed : List UInt8} {z y : Int} {t : TypeId} (h : Blk w g (tcs I seed z y) t) : w.rangeAt g 0 (bys I) := fun j v hv => by
  have hj : j < (bys I).length := (List.getElem?_eq_some_iff.1 hv).1
  rw [h.cell, Nat.zero_add]
  unfold tcs
  rw [List.getElem?_append_left hj]
  exact hv
theorem tcs_rangeS {w : World} {g : Nat} {I seed : List UInt8} {z y : Int} {t : TypeId} (h : Blk w g (tcs I seed z y) t) (hI : I.length = 16) : w.rangeAt g 16 (bys seed) := fun j v hv => by
  have hj : j < (bys seed).length := (List.getElem?_eq_some_iff.1 hv).1
  rw [h.cell]
  unfold tcs
  rw [List.getElem?_append_right (by rw [bys_length, hI]; omega), bys_length, hI, List.getElem?_append_left (by omega), show 16 + j - 16 = j by omega]
  exact hv
/-- The name of a tree, read where it lies. -/
theorem tcs_I {w : World} {g B : Nat} {I seed : List UInt8} {z y : Int} {t : TypeId} (h : Blk w g (tcs I seed z y) t) (hI : I.length = 16) (hg : g < B) : Rd B w (.slice (some ⟨g, 0, none⟩) 16 16) I := by
  refine ⟨some ⟨g, 0, none⟩, 16, by rw [hI], by omega, by unfold maxLen; omega, fun h => (by cases h), fun a ha => ?_⟩
  cases ha
  refine ⟨fun _ => hg, fun j hj => ?_⟩
  have := tcs_rangeI h j _ (bys_get I j hj)
  rw [Addr.add_mid]
  exact this
theorem sTree : (Tryz.prog.info? 32).map (·.size) = some 50 := by kernel_rfl
theorem rowTree : ∃ d, Tryz.prog.underlying 32 = some d ∧ d.isRow = true := row_of (by kernel_rfl)
theorem tcs_one (I seed : List UInt8) (z y : Int) : (tcs I seed z y).toArray.all (·.oneCell') = true := by
  rw [Array.all_eq_true_iff_forall_mem]
  intro v hv
  simp only [tcs, List.mem_toArray, List.mem_append, List.mem_cons, List.not_mem_nil, or_false] at hv
  rcases hv with h | h | h | h
  · exact bys_one _ _ h
  · exact bys_one _ _ h
  · subst h; rfl
  · subst h; rfl
theorem list_asL (l : List UInt8) (n : Nat) (h : l.length = n) : l = (List.range n).map fun i => l.getD i 0 := by
  subst h
  refine List.ext_getElem (by simp) (fun i h1 h2 => ?_)
  simp [h1]
theorem built_keyL0 (f g : Nat → UInt8) (q z : Int) : Tryz.prog.built 95 [(0, .agg (bys ((List.range 16).map f)).toArray), (1, .int .u32 q), (2, .agg (bys ((List.range 32).map g)).toArray), (3, .int .i64 z)] = some (bys ((List.range 16).map f) ++ (Value.int .u32 q :: (bys ((List.range 32).map g) ++ [Value.int .i64 z]))).toArray := by kernel_rfl
theorem built_keyL (I seed : List UInt8) (q : Nat) (z : Int) (hI : I.length = 16) (hs : seed.length = 32) : Tryz.prog.built 95 [(0, .agg (bys I).toArray), (1, .int .u32 (q : Int)), (2, .agg (bys seed).toArray), (3, .int .i64 z)] = some (kcs I q seed z).toArray := by
  rw [list_asL I 16 hI, list_asL seed 32 hs]
  exact built_keyL0 _ _ _ _
theorem zi51 : ∃ z0 : List Value, (Tryz.prog.info? 95).map (·.zero) = some (some (.agg z0.toArray)) ∧ z0.length = 50 := ⟨bys (List.replicate 16 0) ++ (.int .u32 0 :: (bys (List.replicate 32 0) ++ [.int .i64 0])), by kernel_rfl, by decide⟩
theorem kcs_oneL (I seed : List UInt8) (q : Nat) (z : Int) : (kcs I q seed z).toArray.all (·.oneCell') = true := by
  rw [Array.all_eq_true_iff_forall_mem]
  intro v hv
  simp only [kcs, List.mem_toArray, List.mem_append, List.mem_cons, List.not_mem_nil, or_false] at hv
  rcases hv with h | h | h | h
  · exact bys_one _ _ h
  · subst h; rfl
  · exact bys_one _ _ h
  · subst h; rfl
theorem ret_blkUL {P : Program} {fn : Func} {p : Tmp} {ty : TypeId} (h : fn.results = #[.cell p ty]) (tmps : Array Value) (w : World) (g : Nat) (t : TypeId) (cs : List Value)
    (hp : tmps.getD p undef = .pointer (some ⟨g, 0, none⟩)) (hb : Blk w g cs t) (d : TypeDesc) (hu : P.underlying ty = some d) (hd : d.isRow = true) (hi : (P.info? ty).map (·.size) = some cs.length) :
    (results fn tmps).run P w = .ok (.agg cs.toArray) w :=
  results_cell_row h tmps w g t cs.toArray (0, 0) d hp hb hu (by cases d <;> first | rfl | cases hd) (by simpa using hi)

set_option maxRecDepth 100000 in
set_option maxHeartbeats 1000000 in
theorem keyL_any (I seed : List UInt8) (q : Nat) (z y : Int) (w : World) (hI : I.length = 16) (hs : seed.length = 32) (hq : q < 4294967296) : Calls Tryz.prog 50 #[.agg (tcs I seed z y).toArray, .int .i64 (q : Int)] w (Arr (kcs I q seed z) w) := by
  have HI := Lib.hid hI
  have HS := Lib.hid hs
  have zq : (q : Int) < 4294967296 := by omega
  obtain ⟨z0, hz, hzl⟩ := zi51
  have HZ := Lib.hid hz
  have HZL := Lib.hid hzl
  obtain ⟨d51, hu51, hd51⟩ := row26
  have HU := Lib.hid hu51
  have HD := Lib.hid hd51
  have H22 : Hid ((Tryz.prog.info? 29).map (·.size) = some (bys I).length) := by show _ = _; rw [bys_length, hI]; exact s22
  have H24 : Hid ((Tryz.prog.info? 30).map (·.size) = some (bys seed).length) := by show _ = _; rw [bys_length, hs]; exact s24
  have H51 : Hid ((Tryz.prog.info? 95).map (·.size) = some (kcs I q seed z).length) := by show _ = _; rw [kcs_length I seed q _ hI hs]; exact s26
  have HL : Hid (z0.length = (kcs I q seed z).length) := by show _ = _; rw [kcs_length I seed q _ hI hs, hzl]
  clear hI hs hz hzl hu51 hd51
  go_enter Tryz.func50, Tryz.ntmps50
  go_wp2_with (refine wpList_box_blk rfl 32 _ rfl (tcs I seed z y) rfl ?_)
  intro w1 a1 a2 a3
  have A1 := Lib.hid a1
  have A2 := Lib.hid a2
  have A3 := Lib.hid a3
  clear a1 a2 a3
  go_wp2_with (refine wpList_alloc_blk rfl 95 rfl _ HZ.out ?_)
  intro w2 a1 a2 a3
  rw [A2.out] at a1 a2 a3 ⊢
  have G1 : Hid (Blk w2 w.heap.size (tcs I seed z y) 32) := A1.out.below a3 (by omega)
  have G2 : Hid (Blk w2 (w.heap.size + 1) z0 95) := a1
  have GB : Hid (Below w.heap.size w w2) := A3.out.trans (a3.mono (by omega))
  have cw := (G1.out.cell 48).trans (tcs_z I seed z y HI.out HS.out)
  clear a1 a2 a3 A1 A2 A3
  go_wp2_with (first | (refine wpList_load_mid rfl 29 _ rfl w.heap.size 0 rfl (bys I) _ (tcs_rangeI G1.out) tu22 rfl H22.out ?_) | (refine wpList_load_mid rfl 30 _ rfl w.heap.size 16 rfl (bys seed) _ (tcs_rangeS G1.out HI.out) tu24 rfl H24.out ?_) | (refine wpList_buildTo rfl 95 _ rfl (some 13) rfl (kcs I q seed z).toArray (by simp only [List.map_toArray, List.map_cons, List.map_nil]; exact built_keyL I seed q z HI.out HS.out) ?_) | (refine wpList_store_blk rfl 95 _ _ rfl (w.heap.size + 1) (kcs I q seed z) z0 95 rfl rfl G2.out H51.out HL.out (kcs_oneL _ _ _ _) ?_))
  refine bodyPost_ret (v := .agg (kcs I q seed z).toArray) ?_ rfl ?_
  · exact ret_blkUL rfl _ _ (w.heap.size + 1) 95 _ rfl G2.out.setRow d51 HU.out HD.out H51.out
  · exact ⟨rfl, below_setRow' GB.out (by omega) _⟩

theorem Own.apart {e : TypeId} {w : World} {base g : Nat} {v : Value} {l : List UInt8} (h : Own e w base v l) (hg : g < base) : Apart g v := fun a n c hv hn => by
  obtain ⟨_, ⟨hv2, _⟩ | ⟨g2, cap, cur, hv2, hb, _⟩⟩ := h
  · rw [hv] at hv2; cases hv2
  · rw [hv] at hv2
    injection hv2 with e1 e2 e3
    injection e1 with e1
    subst e1
    show g2 ≠ g
    omega

set_option maxRecDepth 100000 in
set_option maxHeartbeats 1000000 in
theorem nodeHash_any (I : List UInt8) (r : Nat) (A : Option Addr) (c n : Nat) (ls : List (List UInt8)) (w : World) (h : RdL w.heap.size w A c ls) (hn : ls.length = n) (hI : I.length = 16) (hr : r < 4294967296) (hlen : (pre20 I r ++ ls.flatten).length ≤ 900000) (hsm : ∀ l ∈ ls, l.length ≤ 900000) :
    Calls Tryz.prog 100 #[.agg (bys I).toArray, .int .i64 (r : Int), .slice A n c] w (Arr (bys (hash (pre20 I r ++ ls.flatten))) w) := by
  subst hn
  have HI := Lib.hid hI
  have HSM := Lib.hid hsm
  have HLEN := Lib.hid hlen
  have zr : (r : Int) < 4294967296 := by omega
  obtain ⟨hc, hm, hn, hrow⟩ := h
  unfold maxLen at hm
  have HN := Lib.hid hn
  have HROW := Lib.hid hrow
  have H24 : Hid ((Tryz.prog.info? 30).map (·.size) = some (bys (hash (pre20 I r ++ ls.flatten))).length) := by show _ = _; rw [bys_length, hash_length]; exact s24
  have HLZ : Hid (z32.length = (bys (hash (pre20 I r ++ ls.flatten))).length) := by show _ = _; rw [bys_length, hash_length, z32_length]
  obtain ⟨N, hN⟩ : ∃ N, ls.length = N := ⟨_, rfl⟩
  have HNN := Lib.hid hN
  rw [hN] at hc ⊢
  clear hI hsm hlen hn hrow hN
  go_enter Tryz.func100, Tryz.ntmps100
  go_wp2_with (refine wpList_box_blk rfl 29 _ rfl (bys I) rfl ?_)
  intro w1 a1 a2 a3
  have A1 := Lib.hid a1
  have A2 := Lib.hid a2
  have A3 := Lib.hid a3
  clear a1 a2 a3
  go_wp2_with (refine wpList_alloc_blk rfl 30 rfl _ z24 ?_)
  intro w2 a1 a2 a3
  rw [A2.out] at a1 a2 a3 ⊢
  have G1 : Hid (Blk w2 w.heap.size (bys I) 29) := A1.out.below a3 (by omega)
  have G2 : Hid (Blk w2 (w.heap.size + 1) z32 30) := a1
  have GB : Hid (Below w.heap.size w w2) := A3.out.trans (a3.mono (by omega))
  have HS2 := Lib.hid a2
  clear a1 a2 a3 A1 A2 A3
  go_wp2_with fail
  refine (new_any w2).mono ?_
  rintro e w3 ⟨rfl, hsz3, hob3, hb3⟩
  obtain ⟨g, hg⟩ : ∃ g, w3.heap.size - 1 = g := ⟨_, rfl⟩
  rw [hg] at hob3 ⊢
  have hs2 := HS2.out
  have hgl : w.heap.size + 1 < g := by omega
  have E1 : Hid (Blk w3 w.heap.size (bys I) 29) := G1.out.below hb3 (by omega)
  have E2 : Hid (Blk w3 (w.heap.size + 1) z32 30) := G2.out.below hb3 (by omega)
  have EB : Hid (Below w.heap.size w w3) := GB.out.trans (hb3.mono (by omega))
  have EO := Lib.hid hob3
  have hs3 : g < w3.heap.size := by omega
  clear hob3 hb3 hsz3 hg G1 G2 GB HS2 hs2
  go_wp2_with fail
  have hpl := HI.out
  refine (write_any g [] _ I w3 EO.out (Rd.blk 16 hpl E1.out (by omega) (by omega)) (fun a n c hv _ => by injection hv with e1 e2 e3; injection e1 with e1; subst e1; show w.heap.size ≠ g; omega) (by simp; omega)).mono ?_
  rintro e w4 ⟨rfl, hob4, hbut4⟩
  rw [List.nil_append] at hob4
  have F2 : Hid (Blk w4 (w.heap.size + 1) z32 30) := hbut4.blk E2.out (by omega)
  have FB : Hid (Below w.heap.size w w4) := EB.out.trans (hbut4.below (by omega) EB.out.size)
  have FO := Lib.hid hob4
  have hs4 : g < w4.heap.size := Nat.lt_of_lt_of_le hs3 hbut4.size
  clear hob4 hbut4 E1 E2 EB EO hs3
  go_wp2_with fail
  refine (fourL_any r _ hr).mono ?_
  rintro e w5 ⟨v5, rfl, hown5, hb5⟩
  have I2 : Hid (Blk w5 (w.heap.size + 1) z32 30) := F2.out.below hb5 (by omega)
  have IB : Hid (Below w.heap.size w w5) := FB.out.trans (hb5.mono FB.out.size)
  have IO : Hid (Obj w5 g I) := FO.out.below hb5 hs4
  have IV := Lib.hid hown5
  have IAP := Lib.hid (hown5.apart hs4)
  have hs5 : g < w5.heap.size := Nat.lt_of_lt_of_le hs4 hb5.size
  clear hown5 hb5 F2 FB FO
  go_wp2_with fail
  refine (write_any g I _ (be 4 r) w5 IO.out IV.out.rd IAP.out (by rw [be_length]; omega)).mono ?_
  rintro e w6 ⟨rfl, hob6, hbut6⟩
  obtain ⟨p, hp⟩ : ∃ p, pre20 I r = p := ⟨_, rfl⟩
  have hp' : I ++ be 4 r = p := hp
  rw [hp'] at hob6
  rw [hp] at HLEN H24 HLZ ⊢
  have HPE := Lib.hid hp
  have K0 : Hid (HashAt w g (w.heap.size + 1) (p ++ (ls.take 0).flatten) w6) := ⟨by simpa using hob6, hbut6.blk I2.out (by omega), IB.out.trans (hbut6.below (by omega) IB.out.size)⟩
  clear hob6 hbut6 I2 IB IO IV IAP hs4 hs5 hpl hp hp'
  go_wp2
  go_loopw [21] (fun x wr => ∃ i : Nat, i ≤ N ∧ x = .int .i64 i ∧ Hid (HashAt w g (w.heap.size + 1) (p ++ (ls.take i).flatten) wr)) (fun x _ => N - (intOf x).toNat)
  case atStart => exact ⟨0, by omega, rfl, K0⟩
  case round =>
    clear K0
    obtain ⟨i, hi, rfl, K⟩ := hrel
    by_cases hi2 : i < N
    · have hi3 : i < ls.length := by have := HNN.out; omega
      obtain ⟨a, rfl⟩ : ∃ a, A = some a := by
        cases A with
        | none => have := HN.out rfl; omega
        | some a => exact ⟨a, rfl⟩
      obtain ⟨hab, vr, hcv, hrd⟩ := HROW.out a rfl i hi3
      obtain ⟨l, hl⟩ : ∃ l, ls[i] = l := ⟨_, rfl⟩
      have hbs : p ++ (ls.take (i + 1)).flatten = (p ++ (ls.take i).flatten) ++ l := by
        rw [List.take_succ_eq_append_getElem hi3, hl]; simp
      have hlb : (p ++ (ls.take i).flatten).length + l.length ≤ 1000000 := by
        have h1 := HLEN.out
        have h2 : ls.flatten = (ls.take (i + 1)).flatten ++ (ls.drop (i + 1)).flatten := by rw [← List.flatten_append, List.take_append_drop]
        rw [h2, ← List.append_assoc, hbs, List.length_append, List.length_append] at h1
        omega
      have HBS := Lib.hid hbs
      have HLB := Lib.hid hlb
      rw [hl] at hrd
      have HRD := Lib.hid hrd
      obtain ⟨A5, c5, hv5, hc5, hm5⟩ := hrd.shape
      subst hv5
      unfold maxLen at hm5
      have cv : wr.cell? (a.add i) = some (.slice A5 l.length c5) := by rw [K.out.2.2.cell (by rw [addr_block]; exact hab)]; exact hcv
      have zi : (i : Int) < (N : Int) := by omega
      clear hcv hl hrd hbs hlb
      go_wp2_with fail
      clear cv
      have hkb := K.out.2.2
      refine (write_any g _ _ l wr K.out.1 ((HRD.out.below hkb).more hkb.size) (apart_of HRD.out (by omega)) HLB.out).mono ?_
      rintro e w5 ⟨rfl, hob5, hbut5⟩
      have K5 : Hid (HashAt w g (w.heap.size + 1) (p ++ (ls.take (i + 1)).flatten) w5) := by
        refine ⟨by rw [HBS.out]; exact hob5, hbut5.blk K.out.2.1 (by omega), hkb.trans (hbut5.below (by omega) hkb.size)⟩
      clear hob5 hbut5 hkb K
      go_wp2
      go_roundw
      case rel => exact ⟨i + 1, by omega, by go_num, K5⟩
      case measure => simp [intOf]; omega
    · have zi : ¬ (i : Int) < (N : Int) := by omega
      have hiN : i = ls.length := by have := HNN.out; omega
      have hbs : p ++ (ls.take i).flatten = p ++ ls.flatten := by rw [hiN, List.take_length]
      rw [hbs] at K
      clear hbs hiN
      go_wp2_with fail
      refine (sumS_any g _ wr K.out.1 (by have := HLEN.out; omega)).mono ?_
      rintro e w5 ⟨rfl, hb5⟩
      have L1 : Hid (Blk w5 (w.heap.size + 1) z32 30) := K.out.2.1.below hb5 (by have := K.out.2.1.lt; omega)
      have LB : Hid (Below w.heap.size w w5) := K.out.2.2.trans (hb5.mono K.out.2.2.size)
      clear hb5 K
      obtain ⟨H, hH⟩ : ∃ H, hash (p ++ ls.flatten) = H := ⟨_, rfl⟩
      rw [hH] at H24 HLZ ⊢
      have HH := Lib.hid hH
      clear hH
      go_wp2_with (refine wpList_store_blk rfl 30 _ _ rfl (w.heap.size + 1) (bys H) z32 30 rfl rfl L1.out H24.out HLZ.out (bys_one' _) ?_)
      refine bodyPost_ret (v := .agg (bys H).toArray) ?_ rfl ?_
      · exact ret_blk rfl _ _ (w.heap.size + 1) 30 _ rfl L1.out.setRow 32 5 tu24 H24.out
      · exact ⟨by rw [HPE.out, HH.out], below_setRow' LB.out (by omega) _⟩
end Go.Proofs.YtllncnnigjgadaaGreat

namespace Go.Proofs.YtllncnnigjgadaaGreat
open Go.RowKit

set_option maxRecDepth 100000 in
set_option maxHeartbeats 1000000 in
theorem leafHash_any (I p : List UInt8) (r : Nat) (w : World) (hI : I.length = 16) (hp : p.length = 32) (hr : r < 4294967296) : Calls Tryz.prog 61 #[.agg (bys I).toArray, .int .i64 (r : Int), .agg (bys p).toArray] w (Arr (bys (leafL I r p)) w) := by
  have HI := Lib.hid hI
  have HP := Lib.hid hp
  have HR := Lib.hid hr
  have H22 : Hid ((Tryz.prog.info? 29).map (·.size) = some (bys I).length) := by show _ = _; rw [bys_length, hI]; exact s22
  have H24 : Hid ((Tryz.prog.info? 30).map (·.size) = some (bys (leafL I r p)).length) := by show _ = _; rw [bys_length, leafL_length]; exact s24
  have HLZ : Hid (z32.length = (bys (leafL I r p)).length) := by show _ = _; rw [bys_length, leafL_length, z32_length]
  clear hI hp hr
  go_enter Tryz.func61, Tryz.ntmps61
  go_wp2_with (refine wpList_box_blk rfl 29 _ rfl (bys I) rfl ?_)
  intro w1 a1 a2 a3
  have A1 := Lib.hid a1
  have A2 := Lib.hid a2
  have A3 := Lib.hid a3
  clear a1 a2 a3
  go_wp2_with (refine wpList_box_blk rfl 30 _ rfl (bys p) rfl ?_)
  intro w2 a1 a2 a3
  rw [A2.out] at a1 a2 a3 ⊢
  have E0 : Hid (Blk w2 w.heap.size (bys I) 29) := A1.out.below a3 (by omega)
  have E1 : Hid (Blk w2 (w.heap.size + 1) (bys p) 30) := a1
  have EB : Hid (Below w.heap.size w w2) := A3.out.trans (a3.mono (by omega))
  have ES := Lib.hid a2
  clear a1 a2 a3 A1 A2 A3
  go_wp2_with (refine wpList_alloc_blk rfl 30 rfl _ z24 ?_)
  intro w3 a1 a2 a3
  rw [ES.out] at a1 a2 a3 ⊢
  obtain ⟨g0, hg0⟩ : ∃ g, w.heap.size = g := ⟨_, rfl⟩
  obtain ⟨g1, hg1⟩ : ∃ g, g0 + 1 = g := ⟨_, rfl⟩
  obtain ⟨gr, hg2⟩ : ∃ g, g1 + 1 = g := ⟨_, rfl⟩
  have G0 : Hid (Blk w3 g0 (bys I) 29) := by rw [← hg0]; exact E0.out.below a3 (by omega)
  have G1 : Hid (Blk w3 g1 (bys p) 30) := by rw [← hg1, ← hg0]; exact E1.out.below a3 (by omega)
  have GR : Hid (Blk w3 gr z32 30) := by rw [← hg2, ← hg1, ← hg0]; exact a1
  have GB : Hid (Below w.heap.size w w3) := EB.out.trans (a3.mono (by omega))
  have hwb : w.heap.size ≤ w3.heap.size := by omega
  have hgs : w.heap.size < gr := by omega
  rw [hg0, hg1, hg2]
  have hg00 : g0 < w3.heap.size := by omega
  have hg11 : g1 < w3.heap.size := by omega
  have hgr : gr < w3.heap.size := by omega
  clear a1 a2 a3 E0 E1 EB ES hg0 hg1 hg2
  have hg0 := hg00
  have hg1 := hg11
  go_wp2
  refine wp_region_rely2 6 1 (fun x => ⟨#[.agg (bys I).toArray, .int .i64 (r : Int), .agg (bys p).toArray, .pointer (some ⟨g0, 0, none⟩), undef, .pointer (some ⟨g1, 0, none⟩), .pointer (some ⟨gr, 0, none⟩), x 0, x 1, x 2, x 3, x 4, x 5], []⟩) (fun jj => ([eqV (.agg (bys I).toArray), eqV (.int .i64 (r : Int)), (RdN [130, 130]), eqV (.slice (some ⟨g1, 0, none⟩) 32 32), (RdLN 2 [[130, 130], p]), (eqV (.agg (bys (leafL I r p)).toArray))] : List (Value → World → Prop)).getD jj (fun _ _ => True)) rfl ⟨fun kk => [_, _, _, _, _, _].getD kk undef, rfl⟩ (by kernel_rfl) (by kernel_rfl) ?steps ?fin
  case steps =>
    refine StepsAt.val 0 (.agg (bys I).toArray) rfl (fun _ _ => rfl) rfl rfl (fun x w1 hb hd => ?_) ?_
    · exact run_load_blk 29 (.tmp 3) rfl g0 rfl (bys I) 29 (G0.out.below hb hg0) 16 5 tu22 H22.out
    refine StepsAt.val 1 (.int .i64 (r : Int)) rfl (fun _ _ => rfl) rfl rfl (fun x w1 hb hd => ?_) ?_
    · first | (go_simp; done) | (go_simp; rfl)
    refine StepsAt.cons 2 (fun _ _ _ h hb => RdN.keep h hb) (fun _ _ => rfl) rfl rfl (fun x w1 hb hd K hK => ?_) ?_
    · go_simp
      exact hK.out _ _ ((Below.refl _ _).alloc (Nat.le_refl _) _) (Own.lit 5 w1 _ 2 [130, 130] rfl (by omega) (by simp [bys])).rd
    refine StepsAt.val 3 (.slice (some ⟨g1, 0, none⟩) 32 32) rfl (fun _ _ => rfl) rfl rfl (fun x w1 hb hd => ?_) ?_
    · first | (go_simp; done) | (go_simp; rfl)
    refine StepsAt.cons 4 (fun _ _ _ h hb => RdLN.keep h hb) (fun _ _ => rfl) rfl rfl (fun x w1 hb hd K hK => ?_) ?_
    · have h2 : RdN [130, 130] (x 2) w1 := hd 2 (by kernel_rfl)
      have h3 : Hid (x 3 = .slice (some ⟨g1, 0, none⟩) 32 32) := hd 3 (by kernel_rfl)
      obtain ⟨A2, c2, e2, _, _⟩ := Rd.shape h2
      have e3 := h3.out
      have key := hK.out (.slice (some ⟨w1.heap.size, 0, none⟩) 2 2) (w1.alloc (.cells #[x 2, x 3] 22)) ((Below.refl _ _).alloc (Nat.le_refl _) _) (RdLN.two 22 w1 _ _ _ _ h2 (by rw [e3]; exact Rd.blk 32 HP.out (G1.out.below hb hg1) (Nat.lt_of_lt_of_le hg1 hb.size) (by omega)))
      simp only [Act.put, e2, e3, List.setIfInBounds_toArray, List.set_cons_zero, List.set_cons_succ] at key
      go_simp
      exact key
    refine StepsAt.cons 5 (fun _ _ _ h hb => h) (fun _ _ => rfl) rfl rfl (fun x w1 hb hd K hK => ?_) ?_
    · have h0 : Hid (x 0 = .agg (bys I).toArray) := hd 0 (by kernel_rfl)
      have h1 : Hid (x 1 = .int .i64 (r : Int)) := hd 1 (by kernel_rfl)
      have h4 : RdLN 2 [[130, 130], p] (x 4) w1 := hd 4 (by kernel_rfl)
      obtain ⟨A, e4, hl⟩ := h4
      have E4 := Lib.hid e4
      clear e4
      go_simp
      refine calls_args (args2 := #[.agg (bys I).toArray, .int .i64 (r : Int), .slice A 2 2]) (by rw [h0.out, h1.out, E4.out]) ?_
      refine (nodeHash_any I r A 2 2 [[130, 130], p] _ hl rfl HI.out HR.out ?_ ?_).mono ?_
      · have := HI.out; have := HP.out; simp [pre20_length I r HI.out]; omega
      · have := HP.out; simp; omega
      rintro e w2 ⟨rfl, hb2⟩
      exact hK.out _ _ hb2 rfl
    exact StepsAt.done
  case fin =>
    intro x w1 hb hd
    have hr : x 5 = .agg (bys (leafL I r p)).toArray := hd 5 (by omega)
    refine AnyTill.any (S := fun _ => True) (m := 7) _ _ _ _ ?_
    refine AnyTill.one (i := 6) (by kernel_rfl) rfl (by rfl) (fun K hK => ?_)
    refine wp_store_blk 30 (.tmp 6) (.tmp 12) rfl gr (bys (leafL I r p)) z32 30 rfl hr (GR.out.below hb hgr) H24.out HLZ.out (bys_one' _) ?_
    refine hK.out _ _ (.inr trivial) ?_
    clear hK K
    refine AnyTill.done (by kernel_rfl) ?_
    refine NoPanic.normal ?_
    simp only [Act.put]
    have L0 : Hid (Blk (w1.setRow gr (bys (leafL I r p)).toArray) gr (bys (leafL I r p)) 30) := (GR.out.below hb hgr).setRow
    have LB : Hid (Below w.heap.size w (w1.setRow gr (bys (leafL I r p)).toArray)) := below_setRow' (GB.out.trans (hb.mono (by omega))) (by omega) _
    clear hd hr
    go_wp2
    refine bodyPost_ret (v := .agg (bys (leafL I r p)).toArray) ?_ rfl ?_
    · exact ret_blk rfl _ _ gr 30 _ rfl L0.out 32 5 tu24 H24.out
    · exact ⟨rfl, LB.out⟩

set_option maxRecDepth 100000 in
set_option maxHeartbeats 1000000 in
theorem upperHash_any (I p q : List UInt8) (r : Nat) (w : World) (hI : I.length = 16) (hp : p.length = 32) (hq : q.length = 32) (hr : r < 4294967296) : Calls Tryz.prog 63 #[.agg (bys I).toArray, .int .i64 (r : Int), .agg (bys p).toArray, .agg (bys q).toArray] w (Arr (bys (upL I r p q)) w) := by
  have HI := Lib.hid hI
  have HP := Lib.hid hp
  have HQ := Lib.hid hq
  have HR := Lib.hid hr
  have H22 : Hid ((Tryz.prog.info? 29).map (·.size) = some (bys I).length) := by show _ = _; rw [bys_length, hI]; exact s22
  have H24 : Hid ((Tryz.prog.info? 30).map (·.size) = some (bys (upL I r p q)).length) := by show _ = _; rw [bys_length, upL_length]; exact s24
  have HLZ : Hid (z32.length = (bys (upL I r p q)).length) := by show _ = _; rw [bys_length, upL_length, z32_length]
  clear hI hp hq hr
  go_enter Tryz.func63, Tryz.ntmps63
  go_wp2_with (refine wpList_box_blk rfl 29 _ rfl (bys I) rfl ?_)
  intro w1 a1 a2 a3
  have A1 := Lib.hid a1
  have A2 := Lib.hid a2
  have A3 := Lib.hid a3
  clear a1 a2 a3
  go_wp2_with (refine wpList_box_blk rfl 30 _ rfl (bys p) rfl ?_)
  intro w2 a1 a2 a3
  rw [A2.out] at a1 a2 a3 ⊢
  have E0 : Hid (Blk w2 w.heap.size (bys I) 29) := A1.out.below a3 (by omega)
  have E1 : Hid (Blk w2 (w.heap.size + 1) (bys p) 30) := a1
  have EB : Hid (Below w.heap.size w w2) := A3.out.trans (a3.mono (by omega))
  have ES := Lib.hid a2
  clear a1 a2 a3 A1 A2 A3
  go_wp2_with (refine wpList_box_blk rfl 30 _ rfl (bys q) rfl ?_)
  intro w4 a1 a2 a3
  rw [ES.out] at a1 a2 a3 ⊢
  have F0 : Hid (Blk w4 w.heap.size (bys I) 29) := E0.out.below a3 (by omega)
  have F1 : Hid (Blk w4 (w.heap.size + 1) (bys p) 30) := E1.out.below a3 (by omega)
  have F2 : Hid (Blk w4 (w.heap.size + 1 + 1) (bys q) 30) := a1
  have FB : Hid (Below w.heap.size w w4) := EB.out.trans (a3.mono (by omega))
  have FS := Lib.hid a2
  clear a1 a2 a3 E0 E1 EB ES
  go_wp2_with (refine wpList_alloc_blk rfl 30 rfl _ z24 ?_)
  intro w3 a1 a2 a3
  rw [FS.out] at a1 a2 a3 ⊢
  obtain ⟨g0, hg0⟩ : ∃ g, w.heap.size = g := ⟨_, rfl⟩
  obtain ⟨g1, hg1⟩ : ∃ g, g0 + 1 = g := ⟨_, rfl⟩
  obtain ⟨g2, hg2⟩ : ∃ g, g1 + 1 = g := ⟨_, rfl⟩
  obtain ⟨gr, hg3⟩ : ∃ g, g2 + 1 = g := ⟨_, rfl⟩
  have G0 : Hid (Blk w3 g0 (bys I) 29) := by rw [← hg0]; exact F0.out.below a3 (by omega)
  have G1 : Hid (Blk w3 g1 (bys p) 30) := by rw [← hg1, ← hg0]; exact F1.out.below a3 (by omega)
  have G2 : Hid (Blk w3 g2 (bys q) 30) := by rw [← hg2, ← hg1, ← hg0]; exact F2.out.below a3 (by omega)
  have GR : Hid (Blk w3 gr z32 30) := by rw [← hg3, ← hg2, ← hg1, ← hg0]; exact a1
  have GB : Hid (Below w.heap.size w w3) := FB.out.trans (a3.mono (by omega))
  have hwb : w.heap.size ≤ w3.heap.size := by omega
  have hgs : w.heap.size < gr := by omega
  rw [hg0, hg1, hg2, hg3]
  have hg00 : g0 < w3.heap.size := by omega
  have hg11 : g1 < w3.heap.size := by omega
  have hg22 : g2 < w3.heap.size := by omega
  have hgr : gr < w3.heap.size := by omega
  clear a1 a2 a3 F0 F1 F2 FB FS hg0 hg1 hg2 hg3
  have hg0 := hg00
  have hg1 := hg11
  have hg2 := hg22
  go_wp2
  refine wp_region_rely2 7 1 (fun x => ⟨#[.agg (bys I).toArray, .int .i64 (r : Int), .agg (bys p).toArray, .agg (bys q).toArray, .pointer (some ⟨g0, 0, none⟩), undef, .pointer (some ⟨g1, 0, none⟩), .pointer (some ⟨g2, 0, none⟩), .pointer (some ⟨gr, 0, none⟩), x 0, x 1, x 2, x 3, x 4, x 5, x 6], []⟩) (fun jj => ([eqV (.agg (bys I).toArray), eqV (.int .i64 (r : Int)), (RdN [131, 131]), eqV (.slice (some ⟨g1, 0, none⟩) 32 32), eqV (.slice (some ⟨g2, 0, none⟩) 32 32), (RdLN 3 [[131, 131], p, q]), (eqV (.agg (bys (upL I r p q)).toArray))] : List (Value → World → Prop)).getD jj (fun _ _ => True)) rfl ⟨fun kk => [_, _, _, _, _, _, _].getD kk undef, rfl⟩ (by kernel_rfl) (by kernel_rfl) ?steps ?fin
  case steps =>
    refine StepsAt.val 0 (.agg (bys I).toArray) rfl (fun _ _ => rfl) rfl rfl (fun x w1 hb hd => ?_) ?_
    · exact run_load_blk 29 (.tmp 4) rfl g0 rfl (bys I) 29 (G0.out.below hb hg0) 16 5 tu22 H22.out
    refine StepsAt.val 1 (.int .i64 (r : Int)) rfl (fun _ _ => rfl) rfl rfl (fun x w1 hb hd => ?_) ?_
    · first | (go_simp; done) | (go_simp; rfl)
    refine StepsAt.cons 2 (fun _ _ _ h hb => RdN.keep h hb) (fun _ _ => rfl) rfl rfl (fun x w1 hb hd K hK => ?_) ?_
    · go_simp
      exact hK.out _ _ ((Below.refl _ _).alloc (Nat.le_refl _) _) (Own.lit 5 w1 _ 2 [131, 131] rfl (by omega) (by simp [bys])).rd
    refine StepsAt.val 3 (.slice (some ⟨g1, 0, none⟩) 32 32) rfl (fun _ _ => rfl) rfl rfl (fun x w1 hb hd => ?_) ?_
    · first | (go_simp; done) | (go_simp; rfl)
    refine StepsAt.val 4 (.slice (some ⟨g2, 0, none⟩) 32 32) rfl (fun _ _ => rfl) rfl rfl (fun x w1 hb hd => ?_) ?_
    · first | (go_simp; done) | (go_simp; rfl)
    refine StepsAt.cons 5 (fun _ _ _ h hb => RdLN.keep h hb) (fun _ _ => rfl) rfl rfl (fun x w1 hb hd K hK => ?_) ?_
    · have h2 : RdN [131, 131] (x 2) w1 := hd 2 (by kernel_rfl)
      have h3 : Hid (x 3 = .slice (some ⟨g1, 0, none⟩) 32 32) := hd 3 (by kernel_rfl)
      have h4 : Hid (x 4 = .slice (some ⟨g2, 0, none⟩) 32 32) := hd 4 (by kernel_rfl)
      obtain ⟨A2, c2, e2, _, _⟩ := Rd.shape h2
      have e3 := h3.out
      have e4 := h4.out
      have key := hK.out (.slice (some ⟨w1.heap.size, 0, none⟩) 3 3) (w1.alloc (.cells #[x 2, x 3, x 4] 22)) ((Below.refl _ _).alloc (Nat.le_refl _) _) (RdLN.three 22 w1 _ _ _ _ _ _ h2 (by rw [e3]; exact Rd.blk 32 HP.out (G1.out.below hb hg1) (Nat.lt_of_lt_of_le hg1 hb.size) (by omega)) (by rw [e4]; exact Rd.blk 32 HQ.out (G2.out.below hb hg2) (Nat.lt_of_lt_of_le hg2 hb.size) (by omega)))
      simp only [Act.put, e2, e3, e4, List.setIfInBounds_toArray, List.set_cons_zero, List.set_cons_succ] at key
      go_simp
      exact key
    refine StepsAt.cons 6 (fun _ _ _ h hb => h) (fun _ _ => rfl) rfl rfl (fun x w1 hb hd K hK => ?_) ?_
    · have h0 : Hid (x 0 = .agg (bys I).toArray) := hd 0 (by kernel_rfl)
      have h1 : Hid (x 1 = .int .i64 (r : Int)) := hd 1 (by kernel_rfl)
      have h5 : RdLN 3 [[131, 131], p, q] (x 5) w1 := hd 5 (by kernel_rfl)
      obtain ⟨A, e5, hl⟩ := h5
      have E4 := Lib.hid e5
      clear e5
      go_simp
      refine calls_args (args2 := #[.agg (bys I).toArray, .int .i64 (r : Int), .slice A 3 3]) (by rw [h0.out, h1.out, E4.out]) ?_
      refine (nodeHash_any I r A 3 3 [[131, 131], p, q] _ hl rfl HI.out HR.out ?_ ?_).mono ?_
      · have := HI.out; have := HP.out; have := HQ.out; simp [pre20_length I r HI.out]; omega
      · have := HP.out; have := HQ.out; simp; omega
      rintro e w2 ⟨rfl, hb2⟩
      exact hK.out _ _ hb2 rfl
    exact StepsAt.done
  case fin =>
    intro x w1 hb hd
    have hr : x 6 = .agg (bys (upL I r p q)).toArray := hd 6 (by omega)
    refine AnyTill.any (S := fun _ => True) (m := 8) _ _ _ _ ?_
    refine AnyTill.one (i := 7) (by kernel_rfl) rfl (by rfl) (fun K hK => ?_)
    refine wp_store_blk 30 (.tmp 8) (.tmp 15) rfl gr (bys (upL I r p q)) z32 30 rfl hr (GR.out.below hb hgr) H24.out HLZ.out (bys_one' _) ?_
    refine hK.out _ _ (.inr trivial) ?_
    clear hK K
    refine AnyTill.done (by kernel_rfl) ?_
    refine NoPanic.normal ?_
    simp only [Act.put]
    have L0 : Hid (Blk (w1.setRow gr (bys (upL I r p q)).toArray) gr (bys (upL I r p q)) 30) := (GR.out.below hb hgr).setRow
    have LB : Hid (Below w.heap.size w (w1.setRow gr (bys (upL I r p q)).toArray)) := below_setRow' (GB.out.trans (hb.mono (by omega))) (by omega) _
    clear hd hr
    go_wp2
    refine bodyPost_ret (v := .agg (bys (upL I r p q)).toArray) ?_ rfl ?_
    · exact ret_blk rfl _ _ gr 30 _ rfl L0.out 32 5 tu24 H24.out
    · exact ⟨rfl, LB.out⟩
end Go.Proofs.YtllncnnigjgadaaGreat

namespace Go.Proofs.YtllncnnigjgadaaGreat
open Go.RowKit

/-- No height. -/
def NoH (y : Int) : Prop := y < 1 ∨ 5 < y

set_option maxRecDepth 100000 in
set_option maxHeartbeats 400000 in
theorem lshape_yes (k h : Nat) (w : World) (hk : Wd k) (hh : Ht h) : Calls Tryz.prog 46 #[.int .i64 (k : Int), .int .i64 (h : Int)] w (TwoD (.agg (shl k h).toArray) (.int .i64 0) w) := by
  have HK := Lib.hid hk
  have HH := Lib.hid hh
  obtain ⟨h1, h5⟩ := hh.le
  have z1 : ¬ ((h : Int) < 1) := by omega
  have z2 : ¬ ((5 : Int) < (h : Int)) := by omega
  obtain ⟨Y, hY⟩ : ∃ N, typ k = N := ⟨_, rfl⟩
  obtain ⟨L, hL⟩ : ∃ N, lng k = N := ⟨_, rfl⟩
  obtain ⟨D, hD⟩ : ∃ N, knd h = N := ⟨_, rfl⟩
  have HSH : Hid (shl k h = [.int .u32 (D : Int), .int .u32 (Y : Int), .int .i64 (L : Int), .int .i64 (h : Int)]) := by show _ = _; unfold shl; rw [hY, hL, hD]
  have HY := Lib.hid hY
  have HL := Lib.hid hL
  have HDE := Lib.hid hD
  clear hk hh hY hL hD
  obtain ⟨d74, hu74, hd74⟩ := row74
  have HU := Lib.hid hu74
  have HD := Lib.hid hd74
  clear hu74 hd74
  go_enter Tryz.func46, Tryz.ntmps46
  go_wp2_with (refine wpList_alloc_blk rfl 65 rfl _ zi74 ?_)
  intro w1 a1 a2 a3
  have A1 := Lib.hid a1
  have A2 := Lib.hid a2
  have A3 := Lib.hid a3
  clear a1 a2 a3
  go_wp2
  refine wp_scope_goto 0 rfl ?_
  go_wp2_with fail
  refine (typeX_yes k _ HK.out).mono ?_
  rintro e w2 ⟨rfl, hb⟩
  rw [HY.out]
  have hs1 := A2.out
  have G1 : Hid (Blk w2 w.heap.size shl0 65) := A1.out.below hb (by omega)
  have GB : Hid (Below w.heap.size w w2) := A3.out.trans (hb.mono (by omega))
  have hg2 : w.heap.size < w2.heap.size := by have := hb.size; omega
  clear hb hs1 A1 A2 A3
  go_wp2_with fail
  refine (longX_yes k _ HK.out).mono ?_
  rintro e w3 ⟨rfl, hb⟩
  rw [HL.out]
  have E1 : Hid (Blk w3 w.heap.size shl0 65) := G1.out.below hb hg2
  have EB : Hid (Below w.heap.size w w3) := GB.out.trans (hb.mono (by omega))
  have hg3 : w.heap.size < w3.heap.size := by have := hb.size; omega
  clear hb hg2 G1 GB
  go_wp2_with fail
  refine (kindL_any h _ HH.out).mono ?_
  rintro e w4 ⟨rfl, hb⟩
  rw [HDE.out]
  have F1 : Hid (Blk w4 w.heap.size shl0 65) := E1.out.below hb hg3
  have FB : Hid (Below w.heap.size w w4) := EB.out.trans (hb.mono (by omega))
  clear hb hg3 E1 EB
  go_wp2_with (first | (refine wpList_store_blk rfl 65 _ _ rfl w.heap.size (shl k h) shl0 65 rfl (by rw [HSH.out]; rfl) F1.out s74 rfl (shl_one k h) ?_))
  rw [jump_ret]
  refine bodyPost_ret (v := .tuple #[.agg (shl k h).toArray, .int .i64 0]) ?_ rfl ?_
  · exact ret_blk2U rfl _ _ w.heap.size 65 (shl k h) _ rfl rfl F1.out.setRow d74 HU.out HD.out s74
  · exact ⟨rfl, below_setRow' FB.out (Nat.le_refl _) _⟩

/-- What hashes lays: the tree, the number of leaves, and the function itself. -/
def Hsh (I seed : List UInt8) (k h : Nat) (v : Value) (w : World) : Prop :=
  ∃ g0 g1 g2, v = .func (.func 84) #[] #[.pointer (some ⟨g1, 0, none⟩), .pointer (some ⟨g0, 0, none⟩), .pointer (some ⟨g2, 0, none⟩)] ∧
    g0 < w.heap.size ∧ g1 < w.heap.size ∧ g2 < w.heap.size ∧ Blk w g0 (tcs I seed (k : Int) (h : Int)) 32 ∧ w.cell? ⟨g1, 0, none⟩ = some (.int .i64 (2 ^ h : Nat)) ∧ w.cell? ⟨g2, 0, none⟩ = some v

theorem Hsh.laid (I seed : List UInt8) (k h : Nat) (w w1 : World) (n : Int) (hn : n = ((2 ^ h : Nat) : Int)) (A1 : Blk w1 w.heap.size (tcs I seed (k : Int) (h : Int)) 32) (A2 : w1.heap.size = w.heap.size + 1) (A3 : Below w.heap.size w w1) (t3 t77 : TypeId) (v : Value)
    (hv : v = .func (.func 84) #[] #[.pointer (some ⟨w1.heap.size, 0, none⟩), .pointer (some ⟨w.heap.size, 0, none⟩), .pointer (some ⟨w1.heap.size + 1, 0, none⟩)]) :
    Hsh I seed k h v ((w1.alloc (.cells #[.int .i64 n] t3)).alloc (.cells #[v] t77)) ∧ Below w.heap.size w ((w1.alloc (.cells #[.int .i64 n] t3)).alloc (.cells #[v] t77)) := by
  have hb : Below w1.heap.size w1 ((w1.alloc (.cells #[.int .i64 n] t3)).alloc (.cells #[v] t77)) := ((Below.refl _ _).alloc (Nat.le_refl _) _).alloc (by simp) _
  have hb2 : Below (w1.heap.size + 1) (w1.alloc (.cells #[.int .i64 n] t3)) ((w1.alloc (.cells #[.int .i64 n] t3)).alloc (.cells #[v] t77)) := (Below.refl _ _).alloc (by simp) _
  have hsz : ((w1.alloc (.cells #[.int .i64 n] t3)).alloc (.cells #[v] t77)).heap.size = w1.heap.size + 1 + 1 := by simp
  refine ⟨⟨w.heap.size, w1.heap.size, w1.heap.size + 1, hv, by omega, by omega, by omega, A1.below hb (by omega), ?_, ?_⟩, A3.trans (hb.mono (by omega))⟩
  · rw [hb2.cell (p := ⟨w1.heap.size, 0, none⟩) (by show w1.heap.size < w1.heap.size + 1; omega), hn]
    exact World.cell?_alloc_at _ _ _ _ rfl
  · exact World.cell?_alloc_at _ _ _ _ (by simp)
set_option maxRecDepth 100000 in
set_option maxHeartbeats 400000 in
theorem hashes_any (I seed : List UInt8) (k h : Nat) (w : World) (hI : I.length = 16) (hs : seed.length = 32) (hh : Ht h) : Calls Tryz.prog 47 #[.agg (tcs I seed (k : Int) (h : Int)).toArray] w (fun e w' => ∃ v, e = .returned v ∧ Hsh I seed k h v w' ∧ Below w.heap.size w w') := by
  have HC := Lib.hid (tcs_y I seed (k : Int) (h : Int) hI hs)
  have HH := Lib.hid hh
  clear hI hs hh
  go_enter Tryz.func47, Tryz.ntmps47
  go_wp2_with (refine wpList_box_blk rfl 32 _ rfl (tcs I seed (k : Int) (h : Int)) rfl ?_)
  intro w1 a1 a2 a3
  have A1 := Lib.hid a1
  have A3 := Lib.hid a3
  have A2 := Lib.hid a2
  have cy := (a1.cell 49).trans HC.out
  clear a1 a2 a3
  have hmf : ∀ (fn : Fn) (first cap : Array Value) (w : World), (Instr.makeFunc fn first cap).run Tryz.prog w = .ok (.func fn first cap) w := fun _ _ _ _ => rfl
  rcases HH.out with rfl | rfl | rfl | rfl | rfl
  all_goals
    go_wp2
    go_ret
    obtain ⟨q1, q2⟩ := Hsh.laid I seed k _ w w1 _ rfl A1.out A2.out A3.out 3 90 _ rfl
    exact ⟨_, rfl, q1, q2⟩
theorem Hsh.keep {I seed : List UInt8} {k h : Nat} {v : Value} {w w' : World} (H : Hsh I seed k h v w) (hb : Below w.heap.size w w') : Hsh I seed k h v w' := by
  obtain ⟨g0, g1, g2, hv, h0, h1, h2, hB, hL, hF⟩ := H
  have := hb.size
  exact ⟨g0, g1, g2, hv, by omega, by omega, by omega, hB.below hb h0, by rw [hb.cell h1]; exact hL, by rw [hb.cell h2]; exact hF⟩
end Go.Proofs.YtllncnnigjgadaaGreat

namespace Go.Proofs.YtllncnnigjgadaaGreat
open Go.RowKit

set_option maxRecDepth 100000 in
set_option maxHeartbeats 1000000 in
theorem node_leaf (I seed : List UInt8) (k h r g0 g1 g2 : Nat) (w : World) (hI : I.length = 16) (hs : seed.length = 32) (hk : Wd k) (hh : Ht h) (hr : 2 ^ h ≤ r) (hr2 : r < 1000)
    (h0 : g0 < w.heap.size) (h1 : g1 < w.heap.size) (hB : Blk w g0 (tcs I seed (k : Int) (h : Int)) 32) (hL : w.cell? ⟨g1, 0, none⟩ = some (.int .i64 (2 ^ h : Nat))) :
    Calls Tryz.prog 84 #[.int .i64 (r : Int), .pointer (some ⟨g1, 0, none⟩), .pointer (some ⟨g0, 0, none⟩), .pointer (some ⟨g2, 0, none⟩)] w (Arr (bys (knt I seed k (2 ^ h) 0 r)) w) := by
  have HI := Lib.hid hI
  have HS := Lib.hid hs
  have HK := Lib.hid hk
  obtain ⟨L, hLe⟩ : ∃ L, 2 ^ h = L := ⟨_, rfl⟩
  have hL32 : L ≤ 32 := by rw [← hLe]; rcases hh with rfl | rfl | rfl | rfl | rfl <;> decide
  have HLE := Lib.hid hLe
  rw [hLe] at hr hL ⊢
  have H22 : Hid ((Tryz.prog.info? 29).map (·.size) = some (bys I).length) := by show _ = _; rw [bys_length, hI]; exact s22
  have HT : Hid ((Tryz.prog.info? 32).map (·.size) = some (tcs I seed (k : Int) (h : Int)).length) := by show _ = _; rw [tcs_length I seed _ _ hI hs]; exact sTree
  obtain ⟨dT, huT, hdT⟩ := rowTree
  have HU := Lib.hid huT
  have HD := Lib.hid hdT
  obtain ⟨q, hq⟩ : ∃ q, r - L = q := ⟨_, rfl⟩
  have hq3 : Hid (r = L + q) := by show _ = _; omega
  obtain ⟨U, hU⟩ : ∃ U, pubL (pre20 I q) seed k = U := ⟨_, rfl⟩
  have hUl : U.length = 32 := by rw [← hU]; exact hpub_length _ _
  have HUE := Lib.hid hU
  have HUL := Lib.hid hUl
  have hkn : knt I seed k L 0 r = leafL I r U := by show leafL I r (pubL (pre20 I (r - L)) seed k) = _; rw [hq, hU]
  obtain ⟨H, hH⟩ : ∃ H, leafL I r U = H := ⟨_, rfl⟩
  have hHl : H.length = 32 := by rw [← hH]; exact leafL_length _ _ _
  have HHE := Lib.hid hH
  rw [hkn, hH]
  have H24 : Hid ((Tryz.prog.info? 30).map (·.size) = some (bys U).length) := by show _ = _; rw [bys_length, hUl]; exact s24
  have H24b : Hid ((Tryz.prog.info? 30).map (·.size) = some (bys H).length) := by show _ = _; rw [bys_length, hHl]; exact s24
  have HLZ : Hid (z32.length = (bys U).length) := by show _ = _; rw [bys_length, hUl, z32_length]
  have HLZb : Hid (z32.length = (bys H).length) := by show _ = _; rw [bys_length, hHl, z32_length]
  have HB := Lib.hid hB
  have zr : ¬ ((r : Int) < (L : Int)) := by omega
  have zq : (r : Int) - (L : Int) = (q : Int) := by omega
  have z1 : (r : Int) < 1000 := by omega
  have z2 : (L : Int) ≤ 32 := by omega
  clear hI hs hk huT hdT hB hU hUl hkn hH hHl hLe hq
  go_enter Tryz.func84, Tryz.ntmps84
  go_wp2_with (refine wpList_alloc_blk rfl 30 rfl _ z24 ?_)
  intro w1 a1 a2 a3
  obtain ⟨gr, hgr⟩ : ∃ g, w.heap.size = g := ⟨_, rfl⟩
  rw [hgr] at a1 a2 a3 ⊢
  have A1 := Lib.hid a1
  have AB : Hid (Blk w1 g0 (tcs I seed (k : Int) (h : Int)) 32) := HB.out.below a3 (by omega)
  have cL : w1.cell? ⟨g1, 0, none⟩ = some (.int .i64 (L : Nat)) := by rw [a3.cell (p := ⟨g1, 0, none⟩) (by show g1 < gr; omega)]; exact hL
  have A3 : Hid (Below w.heap.size w w1) := by rw [hgr]; exact a3
  have hs1 : gr < w1.heap.size := by omega
  have hgw : w.heap.size ≤ gr := by omega
  have hg0 : g0 < gr := by omega
  clear a1 a2 a3 hgr HB hL
  go_wp2_with (refine wpList_load_blkU rfl 32 _ rfl g0 rfl (tcs I seed (k : Int) (h : Int)) 32 AB.out dT HU.out HD.out HT.out ?_)
  refine (keyL_any I seed q _ _ _ HI.out HS.out (by have := hq3.out; omega)).mono ?_
  rintro e w2 ⟨rfl, hb⟩
  have B1 : Hid (Blk w2 gr z32 30) := A1.out.below hb hs1
  have BB : Hid (Blk w2 g0 (tcs I seed (k : Int) (h : Int)) 32) := AB.out.below hb (by omega)
  have B3 : Hid (Below w.heap.size w w2) := A3.out.trans (hb.mono A3.out.size)
  have hs2 : gr < w2.heap.size := Nat.lt_of_lt_of_le hs1 hb.size
  clear hb A1 AB A3 cL hs1
  go_wp2_with fail
  refine (publicX_yes I seed q k _ HI.out HS.out (by have := hq3.out; omega) HK.out).mono ?_
  rintro e w3 ⟨rfl, hb⟩
  rw [HUE.out]
  have C1 : Hid (Blk w3 gr z32 30) := B1.out.below hb hs2
  have CB : Hid (Blk w3 g0 (tcs I seed (k : Int) (h : Int)) 32) := BB.out.below hb (by omega)
  have C3 : Hid (Below w.heap.size w w3) := B3.out.trans (hb.mono B3.out.size)
  have hs3 : gr < w3.heap.size := Nat.lt_of_lt_of_le hs2 hb.size
  clear hb B1 BB B3 hs2
  go_wp2_with (refine wpList_alloc_blk rfl 30 rfl _ z24 ?_)
  intro w4 a1 a2 a3
  obtain ⟨g6, hg6⟩ : ∃ g, w3.heap.size = g := ⟨_, rfl⟩
  rw [hg6] at a1 a2 a3 hs3 ⊢
  have D6 := Lib.hid a1
  obtain ⟨w5, hw5⟩ : ∃ t, w4.setRow g6 (bys U).toArray = t := ⟨_, rfl⟩
  have D1 : Hid (Blk w5 gr z32 30) := by rw [← hw5]; exact (C1.out.below a3 hs3).setRowOther (by omega)
  have DB : Hid (Blk w5 g0 (tcs I seed (k : Int) (h : Int)) 32) := by rw [← hw5]; exact (CB.out.below a3 (by omega)).setRowOther (by omega)
  have D6b : Hid (Blk w5 g6 (bys U) 30) := by rw [← hw5]; exact a1.setRow
  have D3 : Hid (Below w.heap.size w w5) := by rw [← hw5]; exact below_setRow' (C3.out.trans (a3.mono (by omega))) (by omega) _
  have hs5 : g6 < w5.heap.size := D6b.out.lt
  clear a1 a2 a3 hg6 C1 CB C3
  go_wp2_with (first | (refine wpList_store_blk rfl 30 _ _ rfl g6 (bys U) z32 30 rfl rfl D6.out H24.out HLZ.out (bys_one' _) ?_; rw [hw5]; clear hw5) | (refine wpList_load_mid rfl 29 _ rfl g0 0 rfl (bys I) _ (tcs_rangeI DB.out) tu22 rfl H22.out ?_) | (refine wpList_load_blk rfl 30 _ rfl g6 rfl (bys U) 30 D6b.out 32 5 tu24 H24.out ?_))
  refine (leafHash_any I U r _ HI.out HUL.out (by omega)).mono ?_
  rintro e w6 ⟨rfl, hb⟩
  rw [HHE.out]
  have E1 : Hid (Blk w6 gr z32 30) := D1.out.below hb (by omega)
  have E3 : Hid (Below w.heap.size w w6) := D3.out.trans (hb.mono D3.out.size)
  clear hb D1 DB D6 D6b D3
  go_wp2_with (refine wpList_store_blk rfl 30 _ _ rfl gr (bys H) z32 30 rfl rfl E1.out H24b.out HLZb.out (bys_one' _) ?_)
  refine bodyPost_ret (v := .agg (bys H).toArray) ?_ rfl ?_
  · exact ret_blk rfl _ _ gr 30 _ rfl E1.out.setRow 32 5 tu24 H24b.out
  · exact ⟨rfl, below_setRow' E3.out (by omega) _⟩

set_option maxRecDepth 100000 in
set_option maxHeartbeats 1000000 in
theorem node_up (I seed : List UInt8) (k h n r g0 g1 g2 : Nat) (w : World) (hI : I.length = 16) (hr : r < 2 ^ h) (hh : Ht h)
    (h0 : g0 < w.heap.size) (h1 : g1 < w.heap.size) (h2 : g2 < w.heap.size) (hB : Blk w g0 (tcs I seed (k : Int) (h : Int)) 32) (hL : w.cell? ⟨g1, 0, none⟩ = some (.int .i64 (2 ^ h : Nat)))
    (hF : w.cell? ⟨g2, 0, none⟩ = some (.func (.func 84) #[] #[.pointer (some ⟨g1, 0, none⟩), .pointer (some ⟨g0, 0, none⟩), .pointer (some ⟨g2, 0, none⟩)]))
    (ih : ∀ r', r' = 2 * r ∨ r' = 2 * r + 1 → ∀ w', Below w.heap.size w w' → Calls Tryz.prog 84 #[.int .i64 (r' : Int), .pointer (some ⟨g1, 0, none⟩), .pointer (some ⟨g0, 0, none⟩), .pointer (some ⟨g2, 0, none⟩)] w' (Arr (bys (knt I seed k (2 ^ h) n r')) w')) :
    Calls Tryz.prog 84 #[.int .i64 (r : Int), .pointer (some ⟨g1, 0, none⟩), .pointer (some ⟨g0, 0, none⟩), .pointer (some ⟨g2, 0, none⟩)] w (Arr (bys (knt I seed k (2 ^ h) (n + 1) r)) w) := by
  have HI := Lib.hid hI
  have HIH := Lib.hid ih
  have HFF := Lib.hid hF
  obtain ⟨L, hLe⟩ : ∃ L, 2 ^ h = L := ⟨_, rfl⟩
  have hL32 : L ≤ 32 := by rw [← hLe]; rcases hh with rfl | rfl | rfl | rfl | rfl <;> decide
  rw [hLe] at hr hL HIH ⊢
  have HB := Lib.hid hB
  have zr : (r : Int) < (L : Int) := by omega
  have z2 : (L : Int) ≤ 32 := by omega
  obtain ⟨R2, r2⟩ : ∃ R, 2 * r = R := ⟨_, rfl⟩
  obtain ⟨R3, r3⟩ : ∃ R, 2 * r + 1 = R := ⟨_, rfl⟩
  have zz2 : 2 * (r : Int) = (R2 : Int) := by omega
  have zz3 : (R2 : Int) + 1 = (R3 : Int) := by omega
  have hb2 : R2 ≤ 64 := by omega
  have hb3 : R3 ≤ 65 := by omega
  have hR2 : Hid (R2 = 2 * r) := r2.symm
  have hR3 : Hid (R3 = 2 * r + 1) := r3.symm
  obtain ⟨X2, x2⟩ : ∃ X, knt I seed k L n R2 = X := ⟨_, rfl⟩
  obtain ⟨X3, x3⟩ : ∃ X, knt I seed k L n R3 = X := ⟨_, rfl⟩
  have HE2 := Lib.hid x2
  have HE3 := Lib.hid x3
  have HL2 : Hid (X2.length = 32) := by show _ = _; rw [← x2]; exact knt_length _ _ _ _ _ _
  have HL3 : Hid (X3.length = 32) := by show _ = _; rw [← x3]; exact knt_length _ _ _ _ _ _
  obtain ⟨H, hH⟩ : ∃ H, upL I r X2 X3 = H := ⟨_, rfl⟩
  have HHE := Lib.hid hH
  have hkn : knt I seed k L (n + 1) r = H := by
    show upL I r (knt I seed k L n (2 * r)) (knt I seed k L n (2 * r + 1)) = H
    rw [r3, r2, x2, x3, hH]
  rw [hkn]
  have hHl : H.length = 32 := by rw [← hH]; exact upL_length _ _ _ _
  have H22 : Hid ((Tryz.prog.info? 29).map (·.size) = some (bys I).length) := by show _ = _; rw [bys_length, HI.out]; exact s22
  have H24 : Hid ((Tryz.prog.info? 30).map (·.size) = some (bys H).length) := by show _ = _; rw [bys_length, hHl]; exact s24
  have HLZ : Hid (z32.length = (bys H).length) := by show _ = _; rw [bys_length, hHl, z32_length]
  clear r2 r3 x2 x3 hkn hH hHl
  clear hI ih hF hB hLe
  go_enter Tryz.func84, Tryz.ntmps84
  go_wp2_with (refine wpList_alloc_blk rfl 30 rfl _ z24 ?_)
  intro w1 a1 a2 a3
  obtain ⟨gr, hgr⟩ : ∃ g, w.heap.size = g := ⟨_, rfl⟩
  rw [hgr] at a1 a2 a3 ⊢
  have A1 := Lib.hid a1
  have AB : Hid (Blk w1 g0 (tcs I seed (k : Int) (h : Int)) 32) := HB.out.below a3 (by omega)
  have cL : w1.cell? ⟨g1, 0, none⟩ = some (.int .i64 (L : Nat)) := by rw [a3.cell (p := ⟨g1, 0, none⟩) (by show g1 < gr; omega)]; exact hL
  have CF : Hid (w1.cell? ⟨g2, 0, none⟩ = some (.func (.func 84) #[] #[.pointer (some ⟨g1, 0, none⟩), .pointer (some ⟨g0, 0, none⟩), .pointer (some ⟨g2, 0, none⟩)])) := by show _ = _; rw [a3.cell (p := ⟨g2, 0, none⟩) (by show g2 < gr; omega)]; exact HFF.out
  have A3 : Hid (Below w.heap.size w w1) := by rw [hgr]; exact a3
  have hs1 : gr < w1.heap.size := by omega
  have hgw : w.heap.size ≤ gr := by omega
  have hg0 : g0 < gr := by omega
  clear a1 a2 a3 HB hL
  go_wp2
  clear cL
  refine wp_region_rely2 13 1 (fun x => ⟨#[.int .i64 (r : Int), .pointer (some ⟨g1, 0, none⟩), .pointer (some ⟨g0, 0, none⟩), .pointer (some ⟨g2, 0, none⟩), undef, .pointer (some ⟨gr, 0, none⟩), undef, undef, .int .i64 (r : Int), .int .i64 (L : Int), .bool true, x 0, x 1, x 2, x 3, x 4, x 5, x 6, x 7, x 8, x 9, x 10, x 11, x 12, undef, undef, undef, undef, undef, undef, undef, undef, undef, undef, undef, undef, undef, undef], []⟩) (fun jj => ([eqV (.pointer (some ⟨g0, 0, none⟩)), eqV (.agg (bys I).toArray), eqV (.int .i64 (r : Int)), eqV (.func (.func 84) #[] #[.pointer (some ⟨g1, 0, none⟩), .pointer (some ⟨g0, 0, none⟩), .pointer (some ⟨g2, 0, none⟩)]), eqV (.int .i64 (r : Int)), eqV (.int .i64 (R2 : Int)), (eqV (.agg (bys X2).toArray)), eqV (.func (.func 84) #[] #[.pointer (some ⟨g1, 0, none⟩), .pointer (some ⟨g0, 0, none⟩), .pointer (some ⟨g2, 0, none⟩)]), eqV (.int .i64 (r : Int)), eqV (.int .i64 (R2 : Int)), eqV (.int .i64 (R3 : Int)), (eqV (.agg (bys X3).toArray)), (eqV (.agg (bys H).toArray))] : List (Value → World → Prop)).getD jj (fun _ _ => True)) rfl ⟨fun kk => [_, _, _, _, _, _, _, _, _, _, _, _, _].getD kk undef, rfl⟩ (by kernel_rfl) (by kernel_rfl) ?steps ?fin
  case steps =>
    refine StepsAt.val 0 (.pointer (some ⟨g0, 0, none⟩)) rfl (fun _ _ => rfl) rfl rfl (fun x wx hb hd => ?_) ?_
    · first | (go_simp; done) | (go_simp; rfl)
    refine StepsAt.val 1 (.agg (bys I).toArray) rfl (fun _ _ => rfl) rfl rfl (fun x wx hb hd => ?_) ?_
    · have h0 : x 0 = .pointer (some ⟨g0, 0, none⟩) := hd 0 (by kernel_rfl)
      exact run_load_mid 29 (.tmp 11) rfl g0 0 (by exact h0) (bys I) (tcs_rangeI (AB.out.below hb (by omega))) 16 5 tu22 H22.out
    refine StepsAt.val 2 (.int .i64 (r : Int)) rfl (fun _ _ => rfl) rfl rfl (fun x wx hb hd => ?_) ?_
    · first | (go_simp; done) | (go_simp; rfl)
    refine StepsAt.val 3 (.func (.func 84) #[] #[.pointer (some ⟨g1, 0, none⟩), .pointer (some ⟨g0, 0, none⟩), .pointer (some ⟨g2, 0, none⟩)]) rfl (fun _ _ => rfl) rfl rfl (fun x wx hb hd => ?_) ?_
    · have cF := ((hb.cell (p := ⟨g2, 0, none⟩) (by show g2 < w1.heap.size; omega))).trans CF.out
      first | (go_simp; done) | (go_simp; rfl)
    refine StepsAt.val 4 (.int .i64 (r : Int)) rfl (fun _ _ => rfl) rfl rfl (fun x wx hb hd => ?_) ?_
    · first | (go_simp; done) | (go_simp; rfl)
    refine StepsAt.val 5 (.int .i64 (R2 : Int)) rfl (fun _ _ => rfl) rfl rfl (fun x wx hb hd => ?_) ?_
    · have h4 : x 4 = .int .i64 (r : Int) := hd 4 (by kernel_rfl)
      rw [h4]
      go_simp
      exact wrap_i64 _ (by omega) (by omega)
    refine StepsAt.cons 6 (fun _ _ _ h hb => h) (fun _ _ => rfl) rfl rfl (fun x wx hb hd K hK => ?_) ?_
    · have h3 : Hid (x 3 = .func (.func 84) #[] #[.pointer (some ⟨g1, 0, none⟩), .pointer (some ⟨g0, 0, none⟩), .pointer (some ⟨g2, 0, none⟩)]) := hd 3 (by kernel_rfl)
      have h5 : Hid (x 5 = .int .i64 (R2 : Int)) := hd 5 (by kernel_rfl)
      have e3 := h3.out
      have e5 := h5.out
      have key := fun wy hby => hK.out (.agg (bys X2).toArray) wy hby rfl
      simp only [Act.put, e3, e5, List.setIfInBounds_toArray, List.set_cons_zero, List.set_cons_succ] at key
      go_simp
      refine (HIH.out R2 (.inl hR2.out) _ (A3.out.trans (hb.mono A3.out.size))).mono ?_
      rintro e w9 ⟨rfl, hb9⟩
      rw [HE2.out]
      exact key _ hb9
    refine StepsAt.val 7 (.func (.func 84) #[] #[.pointer (some ⟨g1, 0, none⟩), .pointer (some ⟨g0, 0, none⟩), .pointer (some ⟨g2, 0, none⟩)]) rfl (fun _ _ => rfl) rfl rfl (fun x wx hb hd => ?_) ?_
    · have cF := ((hb.cell (p := ⟨g2, 0, none⟩) (by show g2 < w1.heap.size; omega))).trans CF.out
      first | (go_simp; done) | (go_simp; rfl)
    refine StepsAt.val 8 (.int .i64 (r : Int)) rfl (fun _ _ => rfl) rfl rfl (fun x wx hb hd => ?_) ?_
    · first | (go_simp; done) | (go_simp; rfl)
    refine StepsAt.val 9 (.int .i64 (R2 : Int)) rfl (fun _ _ => rfl) rfl rfl (fun x wx hb hd => ?_) ?_
    · have h8 : x 8 = .int .i64 (r : Int) := hd 8 (by kernel_rfl)
      rw [h8]
      go_simp
      exact wrap_i64 _ (by omega) (by omega)
    refine StepsAt.val 10 (.int .i64 (R3 : Int)) rfl (fun _ _ => rfl) rfl rfl (fun x wx hb hd => ?_) ?_
    · have h9 : x 9 = .int .i64 (R2 : Int) := hd 9 (by kernel_rfl)
      rw [h9]
      go_simp
      exact wrap_i64 _ (by omega) (by omega)
    refine StepsAt.cons 11 (fun _ _ _ h hb => h) (fun _ _ => rfl) rfl rfl (fun x wx hb hd K hK => ?_) ?_
    · have h7 : Hid (x 7 = .func (.func 84) #[] #[.pointer (some ⟨g1, 0, none⟩), .pointer (some ⟨g0, 0, none⟩), .pointer (some ⟨g2, 0, none⟩)]) := hd 7 (by kernel_rfl)
      have h10 : Hid (x 10 = .int .i64 (R3 : Int)) := hd 10 (by kernel_rfl)
      have e7 := h7.out
      have e10 := h10.out
      have key := fun wy hby => hK.out (.agg (bys X3).toArray) wy hby rfl
      simp only [Act.put, e7, e10, List.setIfInBounds_toArray, List.set_cons_zero, List.set_cons_succ] at key
      go_simp
      refine (HIH.out R3 (.inr hR3.out) _ (A3.out.trans (hb.mono A3.out.size))).mono ?_
      rintro e w9 ⟨rfl, hb9⟩
      rw [HE3.out]
      exact key _ hb9
    refine StepsAt.cons 12 (fun _ _ _ h hb => h) (fun _ _ => rfl) rfl rfl (fun x wx hb hd K hK => ?_) ?_
    · have h1 : Hid (x 1 = .agg (bys I).toArray) := hd 1 (by kernel_rfl)
      have h2 : Hid (x 2 = .int .i64 (r : Int)) := hd 2 (by kernel_rfl)
      have h6 : Hid (x 6 = .agg (bys X2).toArray) := hd 6 (by kernel_rfl)
      have h11 : Hid (x 11 = .agg (bys X3).toArray) := hd 11 (by kernel_rfl)
      go_simp
      refine calls_args (args2 := #[.agg (bys I).toArray, .int .i64 (r : Int), .agg (bys X2).toArray, .agg (bys X3).toArray]) (by rw [h1.out, h2.out, h6.out, h11.out]) ?_
      refine (upperHash_any I X2 X3 r _ HI.out HL2.out HL3.out (by omega)).mono ?_
      rintro e w9 ⟨rfl, hb9⟩
      rw [HHE.out]
      exact hK.out _ _ hb9 rfl
    exact StepsAt.done
  case fin =>
    intro x wx hb hd
    have hr : x 12 = .agg (bys H).toArray := hd 12 (by omega)
    refine AnyTill.any (S := fun _ => True) (m := 14) _ _ _ _ ?_
    refine AnyTill.one (i := 13) (by kernel_rfl) rfl (by rfl) (fun K hK => ?_)
    refine wp_store_blk 30 (.tmp 5) (.tmp 23) rfl gr (bys H) z32 30 rfl hr (A1.out.below hb hs1) H24.out HLZ.out (bys_one' _) ?_
    refine hK.out _ _ (.inr trivial) ?_
    clear hK K
    refine AnyTill.done (by kernel_rfl) ?_
    refine NoPanic.normal ?_
    simp only [Act.put]
    have L0 : Hid (Blk (wx.setRow gr (bys H).toArray) gr (bys H) 30) := (A1.out.below hb hs1).setRow
    have LB : Hid (Below w.heap.size w (wx.setRow gr (bys H).toArray)) := below_setRow' (A3.out.trans (hb.mono A3.out.size)) hgw _
    clear hd hr
    go_wp2
    refine bodyPost_ret (v := .agg (bys H).toArray) ?_ rfl ?_
    · exact ret_blk rfl _ _ gr 30 _ rfl L0.out 32 5 tu24 H24.out
    · exact ⟨rfl, LB.out⟩

/-- Every node, n levels above the leaves. -/
theorem node_any (I seed : List UInt8) (k h g0 g1 g2 : Nat) (hI : I.length = 16) (hs : seed.length = 32) (hk : Wd k) (hh : Ht h) : ∀ (n r : Nat) (w : World), n ≤ h → 2 ^ (h - n) ≤ r → r < 2 * 2 ^ (h - n) →
    g0 < w.heap.size → g1 < w.heap.size → g2 < w.heap.size → Blk w g0 (tcs I seed (k : Int) (h : Int)) 32 → w.cell? ⟨g1, 0, none⟩ = some (.int .i64 (2 ^ h : Nat)) →
    w.cell? ⟨g2, 0, none⟩ = some (.func (.func 84) #[] #[.pointer (some ⟨g1, 0, none⟩), .pointer (some ⟨g0, 0, none⟩), .pointer (some ⟨g2, 0, none⟩)]) →
    Calls Tryz.prog 84 #[.int .i64 (r : Int), .pointer (some ⟨g1, 0, none⟩), .pointer (some ⟨g0, 0, none⟩), .pointer (some ⟨g2, 0, none⟩)] w (Arr (bys (knt I seed k (2 ^ h) n r)) w) := by
  have h5 := hh.le
  have hp : 2 ^ h ≤ 32 := by rcases hh with rfl | rfl | rfl | rfl | rfl <;> decide
  intro n
  induction n with
  | zero =>
    intro r w _ h1 h2 b0 b1 b2 hB hL hF
    rw [Nat.sub_zero] at h1 h2
    exact node_leaf I seed k h r g0 g1 g2 w hI hs hk hh h1 (by omega) b0 b1 hB hL
  | succ n ih =>
    intro r w hn h1 h2 b0 b1 b2 hB hL hF
    have e : 2 ^ (h - n) = 2 * 2 ^ (h - (n + 1)) := by rw [show h - n = (h - (n + 1)) + 1 by omega, Nat.pow_succ]; omega
    have hle : 2 ^ (h - n) ≤ 2 ^ h := Nat.pow_le_pow_right (by omega) (by omega)
    refine node_up I seed k h n r g0 g1 g2 w hI (by omega) hh b0 b1 b2 hB hL hF (fun r' hr' w' hb => ?_)
    have hsz := hb.size
    exact ih r' w' (by omega) (by rcases hr' with rfl | rfl <;> omega) (by rcases hr' with rfl | rfl <;> omega) (by omega) (by omega) (by omega) (hB.below hb b0) (by rw [hb.cell (p := ⟨g1, 0, none⟩) b1]; exact hL) (by rw [hb.cell (p := ⟨g2, 0, none⟩) b2]; exact hF)

/-- What hashes gives, called at a node. -/
theorem Hsh.node {I seed : List UInt8} {k h : Nat} {v : Value} {w : World} (H : Hsh I seed k h v w) (hI : I.length = 16) (hs : seed.length = 32) (hk : Wd k) (hh : Ht h) (n r : Nat) (hn : n ≤ h) (h1 : 2 ^ (h - n) ≤ r) (h2 : r < 2 * 2 ^ (h - n)) :
    ∃ g0 g1 g2, v = .func (.func 84) #[] #[.pointer (some ⟨g1, 0, none⟩), .pointer (some ⟨g0, 0, none⟩), .pointer (some ⟨g2, 0, none⟩)] ∧ ∀ w', Below w.heap.size w w' → Calls Tryz.prog 84 #[.int .i64 (r : Int), .pointer (some ⟨g1, 0, none⟩), .pointer (some ⟨g0, 0, none⟩), .pointer (some ⟨g2, 0, none⟩)] w' (Arr (bys (knt I seed k (2 ^ h) n r)) w') := by
  obtain ⟨g0, g1, g2, hv, b0, b1, b2, hB, hL, hF⟩ := H
  refine ⟨g0, g1, g2, hv, fun w' hb => ?_⟩
  have hsz := hb.size
  exact node_any I seed k h g0 g1 g2 hI hs hk hh n r w' hn h1 h2 (by omega) (by omega) (by omega) (hB.below hb b0) (by rw [hb.cell (p := ⟨g1, 0, none⟩) b1]; exact hL) (by rw [hb.cell (p := ⟨g2, 0, none⟩) b2, hF, hv])
end Go.Proofs.YtllncnnigjgadaaGreat

namespace Go.Proofs.YtllncnnigjgadaaGreat
open Go.RowKit

/-- No tree. -/
def NoT (z y : Int) : Prop := NoW z ∨ NoH y
theorem tree_or (z y : Int) : (∃ k h : Nat, Wd k ∧ Ht h ∧ z = (k : Int) ∧ y = (h : Int)) ∨ NoT z y := by
  rcases width_or z with ⟨k, hk, rfl⟩ | hz
  · by_cases h1 : 1 ≤ y ∧ y ≤ 5
    · exact .inl ⟨k, y.toNat, hk, Ht.of (by omega) (by omega), rfl, by omega⟩
    · exact .inr (.inr (by unfold NoH; omega))
  · exact .inr (.inl hz)

set_option maxRecDepth 100000 in
set_option maxHeartbeats 400000 in
theorem longT_yes (I seed : List UInt8) (k h : Nat) (w : World) (hI : I.length = 16) (hs : seed.length = 32) (hk : Wd k) (hh : Ht h) : Calls Tryz.prog 77 #[.agg (tcs I seed (k : Int) (h : Int)).toArray] w (TwoD (.int .i64 (llng k h : Nat)) (.int .i64 0) w) := by
  have HZ := Lib.hid (tcs_z I seed (k : Int) (h : Int) hI hs)
  have HY := Lib.hid (tcs_y I seed (k : Int) (h : Int) hI hs)
  have HK := Lib.hid hk
  have HH := Lib.hid hh
  obtain ⟨d74, hu74, hd74⟩ := row74
  have HU := Lib.hid hu74
  have HD := Lib.hid hd74
  clear hu74 hd74 hI hs hk hh
  go_enter Tryz.func77, Tryz.ntmps77
  go_wp2_with (refine wpList_box_blk rfl 32 _ rfl (tcs I seed (k : Int) (h : Int)) rfl ?_)
  intro w1 a1 a2 a3
  have cz := (a1.cell 48).trans HZ.out
  have cy := (a1.cell 49).trans HY.out
  have A3 := Lib.hid a3
  clear a1 a2 a3
  go_wp2
  refine wp_scope_goto 0 rfl ?_
  go_wp2_with fail
  refine (lshape_yes k h _ HK.out HH.out).mono ?_
  rintro e w2 ⟨rfl, hb⟩
  have B1 : Hid (Below w.heap.size w w2) := A3.out.trans (hb.mono A3.out.size)
  clear hb A3 cz cy
  go_wp2_with (first | (refine wpList_alloc_blk rfl 65 rfl _ zi74 ?_))
  intro w3 a1 a2 a3
  have A1 := Lib.hid a1
  have hs := B1.out.size
  have L0 : Hid (Blk (w3.setRow w2.heap.size (shl k h).toArray) w2.heap.size (shl k h) 65) := a1.setRow
  have LB : Hid (Below w.heap.size w (w3.setRow w2.heap.size (shl k h).toArray)) := below_setRow' (B1.out.trans (a3.mono hs)) hs _
  clear a1 a2 a3
  go_wp2_with (first | (refine wpList_store_blk rfl 65 _ _ rfl w2.heap.size (shl k h) shl0 65 rfl rfl A1.out s74 rfl (shl_one k h) ?_) | (refine wpList_load_blkU rfl 65 _ rfl w2.heap.size rfl (shl k h) 65 L0.out d74 HU.out HD.out s74 ?_))
  refine (longL_any k h _ HK.out HH.out).mono ?_
  rintro e w4 ⟨rfl, hb⟩
  have BB : Hid (Below w.heap.size w w4) := LB.out.trans (hb.mono LB.out.size)
  clear hb LB L0 A1 B1 hs
  go_wp2
  rw [jump_ret]
  go_ret2
  exact ⟨rfl, BB.out⟩

set_option maxRecDepth 100000 in
set_option maxHeartbeats 400000 in
theorem leafT_short (v : Value) (s : List UInt8) (w : World) (hr : Rd w.heap.size w v s) (hs : s.length < 4) : Calls Tryz.prog 7 #[v] w (TwoD (.int .i64 0) (.int .i64 2) w) := by
  obtain ⟨A, c, rfl, hc, hm⟩ := hr.shape
  unfold maxLen at hm
  obtain ⟨n, hn⟩ : ∃ n, s.length = n := ⟨_, rfl⟩
  rw [hn] at hs hc ⊢
  have z : (n : Int) < 4 := by omega
  clear hr hn
  go_enter Tryz.func7, Tryz.ntmps7
  go_wp2
  refine wp_scope_goto 0 rfl ?_
  go_wp2
  refine wp_goto ⟨rfl, ?_⟩
  go_wp2
  rw [Exit.noGoto_ret]
  go_ret2
  exact ⟨rfl, Below.refl _ _⟩

set_option maxRecDepth 100000 in
set_option maxHeartbeats 400000 in
theorem leafT_yes (v : Value) (s : List UInt8) (w : World) (hr : Rd w.heap.size w v s) (hs : 4 ≤ s.length) : Calls Tryz.prog 7 #[v] w (TwoD (.int .i64 (wd s 0 : Nat)) (.int .i64 0) w) := by
  have HR := Lib.hid hr
  have hwl := wd_lt s 0
  obtain ⟨A, c, rfl, hc, hm⟩ := hr.shape
  unfold maxLen at hm
  obtain ⟨n, hn⟩ : ∃ n, s.length = n := ⟨_, rfl⟩
  have HSL : Hid (4 ≤ s.length) := hs
  rw [hn] at hs hc HR ⊢
  have z : ¬ ((n : Int) < 4) := by omega
  clear hr hn
  go_enter Tryz.func7, Tryz.ntmps7
  go_wp2
  refine wp_scope_goto 0 rfl ?_
  go_wp2_with fail
  refine (numberL_any _ _ s _ HR.out HSL.out).mono ?_
  rintro e w2 ⟨rfl, nd, rfl⟩
  obtain ⟨x, hx⟩ : ∃ x, wd s 0 = x := ⟨_, rfl⟩
  rw [hx] at hwl ⊢
  have z2 : (x : Int) < 4294967296 := by omega
  have HX := Lib.hid hx
  clear hx
  go_wp2
  rw [jump_ret]
  go_ret2
  refine ⟨?_, below_drewN (Below.refl _ _) _⟩
  rw [HX.out]
  rfl

/-- What hashes lays, block by block. -/
def HshG (I seed : List UInt8) (k h g0 g1 g2 : Nat) (w : World) : Prop :=
  g0 < w.heap.size ∧ g1 < w.heap.size ∧ g2 < w.heap.size ∧ Blk w g0 (tcs I seed (k : Int) (h : Int)) 32 ∧ w.cell? ⟨g1, 0, none⟩ = some (.int .i64 (2 ^ h : Nat)) ∧
    w.cell? ⟨g2, 0, none⟩ = some (.func (.func 84) #[] #[.pointer (some ⟨g1, 0, none⟩), .pointer (some ⟨g0, 0, none⟩), .pointer (some ⟨g2, 0, none⟩)])
theorem Hsh.split {I seed : List UInt8} {k h : Nat} {v : Value} {w : World} (H : Hsh I seed k h v w) : ∃ g0 g1 g2, v = .func (.func 84) #[] #[.pointer (some ⟨g1, 0, none⟩), .pointer (some ⟨g0, 0, none⟩), .pointer (some ⟨g2, 0, none⟩)] ∧ HshG I seed k h g0 g1 g2 w := by
  obtain ⟨g0, g1, g2, hv, b0, b1, b2, hB, hL, hF⟩ := H
  exact ⟨g0, g1, g2, hv, b0, b1, b2, hB, hL, by rw [hF, hv]⟩
theorem HshG.below {I seed : List UInt8} {k h g0 g1 g2 B : Nat} {w w' : World} (H : HshG I seed k h g0 g1 g2 w) (hb : Below B w w') (h0 : g0 < B) (h1 : g1 < B) (h2 : g2 < B) : HshG I seed k h g0 g1 g2 w' := by
  obtain ⟨b0, b1, b2, hB, hL, hF⟩ := H
  have := hb.size
  exact ⟨by omega, by omega, by omega, hB.below hb h0, by rw [hb.cell (p := ⟨g1, 0, none⟩) h1]; exact hL, by rw [hb.cell (p := ⟨g2, 0, none⟩) h2]; exact hF⟩
theorem HshG.keep {I seed : List UInt8} {k h g0 g1 g2 : Nat} {w w' : World} (H : HshG I seed k h g0 g1 g2 w) (hb : Below w.heap.size w w') : HshG I seed k h g0 g1 g2 w' := H.below hb H.1 H.2.1 H.2.2.1
theorem HshG.node {I seed : List UInt8} {k h g0 g1 g2 : Nat} {w : World} (H : HshG I seed k h g0 g1 g2 w) (hI : I.length = 16) (hs : seed.length = 32) (hk : Wd k) (hh : Ht h) (n r : Nat) (hn : n ≤ h) (h1 : 2 ^ (h - n) ≤ r) (h2 : r < 2 * 2 ^ (h - n)) :
    Calls Tryz.prog 84 #[.int .i64 (r : Int), .pointer (some ⟨g1, 0, none⟩), .pointer (some ⟨g0, 0, none⟩), .pointer (some ⟨g2, 0, none⟩)] w (Arr (bys (knt I seed k (2 ^ h) n r)) w) := by
  obtain ⟨b0, b1, b2, hB, hL, hF⟩ := H
  exact node_any I seed k h g0 g1 g2 hI hs hk hh n r w hn h1 h2 b0 b1 b2 hB hL hF

theorem sbl_take (I seed : List UInt8) (k L n : Nat) : ∀ j r i, i < n → (sbl I seed k L j n r).take (32 * (i + 1)) = (sbl I seed k L j n r).take (32 * i) ++ knt I seed k L (j + i) (sbr (r / 2 ^ i)) := by
  induction n with
  | zero => intro j r i hi; omega
  | succ n ih =>
    intro j r i hi
    rw [sbl]
    have hl := knt_length I seed k L j (sbr r)
    cases i with
    | zero =>
      rw [List.take_append_of_le_length (by omega), List.take_of_length_le (by omega)]
      simp
    | succ i =>
      rw [List.take_append, List.take_append, List.take_of_length_le (by omega), hl, show 32 * (i + 1 + 1) - 32 = 32 * (i + 1) by omega, show 32 * (i + 1) - 32 = 32 * i by omega, List.take_of_length_le (l := knt I seed k L j (sbr r)) (by omega), ih (j + 1) (r / 2) i (by omega), List.append_assoc, show j + 1 + i = j + (i + 1) by omega, Nat.div_div_eq_div_mul, Nat.pow_succ, Nat.mul_comm 2]

/-- What the loop of siblings keeps. -/
def SibAt (w : World) (I seed : List UInt8) (k h g0 g1 g2 b : Nat) (v : Value) (l : List UInt8) (wr : World) : Prop :=
  HshG I seed k h g0 g1 g2 wr ∧ Own 5 wr b v l ∧ b ≤ wr.heap.size ∧ Below w.heap.size w wr
theorem SibAt.below {w : World} {I seed : List UInt8} {k h g0 g1 g2 b : Nat} {v : Value} {l : List UInt8} {wr w' : World} (H : SibAt w I seed k h g0 g1 g2 b v l wr) (hb : Below wr.heap.size wr w') : SibAt w I seed k h g0 g1 g2 b v l w' := by
  obtain ⟨h1, h2, h3, h4⟩ := H
  exact ⟨h1.keep hb, h2.below hb (Nat.le_refl _), Nat.le_trans h3 hb.size, h4.trans (hb.mono h4.size)⟩

set_option maxRecDepth 100000 in
set_option maxHeartbeats 2000000 in
theorem siblings_any (I seed : List UInt8) (k h r : Nat) (w : World) (hI : I.length = 16) (hs : seed.length = 32) (hk : Wd k) (hh : Ht h) (hr1 : 2 ^ h ≤ r) (hr2 : r < 2 * 2 ^ h) :
    Calls Tryz.prog 52 #[.agg (tcs I seed (k : Int) (h : Int)).toArray, .int .i64 (r : Int)] w (Gives w.heap.size (sbl I seed k (2 ^ h) 0 h r) w) := by
  obtain ⟨i0, hi, hz0, hz1, hz2⟩ := info_parts info5
  have HIN := Lib.hid hi
  have H0 := Lib.hid hz0
  have H1 := Lib.hid hz1
  have H2 := Lib.hid hz2
  have HI := Lib.hid hI
  have HS := Lib.hid hs
  have HK := Lib.hid hk
  have HH := Lib.hid hh
  have HR1 := Lib.hid hr1
  have HR2 := Lib.hid hr2
  have hp : 2 ^ h ≤ 32 := by rcases hh with rfl | rfl | rfl | rfl | rfl <;> decide
  have hr64 : r < 64 := by omega
  have HT : Hid ((Tryz.prog.info? 32).map (·.size) = some (tcs I seed (k : Int) (h : Int)).length) := by show _ = _; rw [tcs_length I seed _ _ hI hs]; exact sTree
  obtain ⟨dT, huT, hdT⟩ := rowTree
  have HU := Lib.hid huT
  have HD := Lib.hid hdT
  clear hI hs hk hh hi hz0 hz1 hz2 huT hdT hr1 hr2 hp
  go_enter Tryz.func52, Tryz.ntmps52
  go_wp2_with (refine wpList_box_blk rfl 32 _ rfl (tcs I seed (k : Int) (h : Int)) rfl ?_)
  intro w1 a1 a2 a3
  have A1 := Lib.hid a1
  have A3 := Lib.hid a3
  clear a1 a2 a3
  go_wp2_with (refine wpList_load_blkU rfl 32 _ rfl w.heap.size rfl (tcs I seed (k : Int) (h : Int)) 32 A1.out dT HU.out HD.out HT.out ?_)
  refine (hashes_any I seed k h _ HI.out HS.out HH.out).mono ?_
  rintro e w2 ⟨fv, rfl, hsh, hb⟩
  obtain ⟨g0, g1, g2, hv, hG⟩ := hsh.split
  subst hv
  obtain ⟨b, hbE⟩ : ∃ b, w2.heap.size = b := ⟨_, rfl⟩
  have K0 : Hid (SibAt w I seed k h g0 g1 g2 b (.slice none 0 0) ((sbl I seed k (2 ^ h) 0 h r).take (32 * 0)) w2) := ⟨hG, by simpa using Own.nil 5 w2 b, by omega, A3.out.trans (hb.mono A3.out.size)⟩
  have hwb : w.heap.size ≤ b := by have := K0.out.2.2.2.size; omega
  have hgb0 : g0 < b := by have := hG.1; omega
  have hgb1 : g1 < b := by have := hG.2.1; omega
  have hgb2 : g2 < b := by have := hG.2.2.1; omega
  clear hsh hb hG hbE A1 A3
  go_wp2
  go_loopw [1, 6] (fun x v wr => ∃ j : Nat, j ≤ h ∧ x = .int .i64 ((r / 2 ^ j : Nat) : Int) ∧ Hid (SibAt w I seed k h g0 g1 g2 b v ((sbl I seed k (2 ^ h) 0 h r).take (32 * j)) wr)) (fun x _ _ => (intOf x).toNat)
  case atStart => exact ⟨0, by omega, by simp, K0⟩
  case round =>
    clear K0
    obtain ⟨j, hj, rfl, KK⟩ := hrel
    have hel : ((sbl I seed k (2 ^ h) 0 h r).take (32 * j)).length = 32 * j := by rw [List.length_take, sbl_length]; omega
    obtain ⟨R, hR⟩ : ∃ R, r / 2 ^ j = R := ⟨_, rfl⟩
    have hRr : R ≤ r := by rw [← hR]; exact Nat.div_le_self _ _
    have hRlo : 2 ^ (h - j) ≤ R := by
      rw [← hR, Nat.le_div_iff_mul_le (Nat.pow_pos (by omega)), ← Nat.pow_add, show h - j + j = h by omega]; exact HR1.out
    have hRhi : R < 2 * 2 ^ (h - j) := by
      rw [← hR, Nat.div_lt_iff_lt_mul (Nat.pow_pos (by omega)), Nat.mul_assoc, ← Nat.pow_add, show h - j + j = h by omega]; exact HR2.out
    have hRn : r / 2 ^ (j + 1) = R / 2 := by rw [← hR, Nat.div_div_eq_div_mul, Nat.pow_succ]
    have HRE := Lib.hid hR
    have HRN := Lib.hid hRn
    rw [hR]
    obtain ⟨A4, c4, hv4, hc4, hm4⟩ := KK.out.2.1.rd.shape
    rw [hel] at hv4 hc4
    subst hv4
    unfold maxLen at hm4
    have HEL := Lib.hid hel
    clear hel hR hRn
    by_cases hj2 : j < h
    · have hp1 : 2 ≤ 2 ^ (h - j) := by
        rw [show h - j = (h - j - 1) + 1 by omega, Nat.pow_succ]
        have : 1 ≤ 2 ^ (h - j - 1) := Nat.pow_pos (by omega)
        omega
      have zi : (1 : Int) < (R : Int) := by omega
      have hev : 2 ^ (h - j) % 2 = 0 := by rw [show h - j = (h - j - 1) + 1 by omega, Nat.pow_succ]; omega
      have hsb1 : 2 ^ (h - j) ≤ sbr R := by unfold sbr; split <;> omega
      have hsb2 : sbr R < 2 * 2 ^ (h - j) := by unfold sbr; split <;> omega
      obtain ⟨S, hS⟩ : ∃ S, sbr R = S := ⟨_, rfl⟩
      rw [hS] at hsb1 hsb2
      have HSE := Lib.hid hS
      obtain ⟨X, hX⟩ : ∃ X, knt I seed k (2 ^ h) j S = X := ⟨_, rfl⟩
      have hXl : X.length = 32 := by rw [← hX]; exact knt_length _ _ _ _ _ _
      have HXE := Lib.hid hX
      have HXL := Lib.hid hXl
      have HTK : Hid ((sbl I seed k (2 ^ h) 0 h r).take (32 * (j + 1)) = (sbl I seed k (2 ^ h) 0 h r).take (32 * j) ++ X) := by show _ = _; rw [sbl_take I seed k (2 ^ h) h 0 r j hj2, HRE.out, Nat.zero_add, hS, hX]
      have H24 : Hid ((Tryz.prog.info? 30).map (·.size) = some (bys X).length) := by show _ = _; rw [bys_length, hXl]; exact s24
      have HLZ : Hid (z32.length = (bys X).length) := by show _ = _; rw [bys_length, hXl, z32_length]
      have HB1 := Lib.hid hsb1
      have HB2 := Lib.hid hsb2
      have hj32 : j ≤ 5 := by have := HH.out.le; omega
      clear hS hX hXl hp1 hev hsb1 hsb2 hRlo hRhi
      go_wp2_with fail
      refine (siblingL_any R _ (by omega) (by omega)).mono ?_
      rintro e w3 ⟨rfl, hb⟩
      rw [HSE.out]
      have K1 := Lib.hid (KK.out.below hb)
      clear hb KK
      go_wp2_with fail
      refine (K1.out.1.node HI.out HS.out HK.out HH.out j S hj HB1.out HB2.out).mono ?_
      rintro e w4 ⟨rfl, hb⟩
      rw [HXE.out]
      have K2 := Lib.hid (K1.out.below hb)
      clear hb K1
      go_wp2_with (refine wpList_alloc_blk rfl 30 rfl _ z24 ?_)
      intro w5 a1 a2 a3
      obtain ⟨g7, hg7⟩ : ∃ g, w4.heap.size = g := ⟨_, rfl⟩
      have hK3 := K2.out.below a3
      have hbg : b ≤ g7 := by have := K2.out.2.2.1; omega
      rw [hg7] at a1 a2 a3 ⊢
      have A1 := Lib.hid a1
      obtain ⟨t5, ht5⟩ : ∃ t, w5.setRow g7 (bys X).toArray = t := ⟨_, rfl⟩
      have hb4 : Below w4.heap.size w4 t5 := by rw [← ht5, hg7]; exact below_setRow' a3 (Nat.le_refl _) _
      have K3 := Lib.hid (K2.out.below hb4)
      have L7 : Hid (Blk t5 g7 (bys X) 30) := by rw [← ht5]; exact a1.setRow
      have hl7 : g7 < t5.heap.size := L7.out.lt
      clear a1 a2 a3 hK3 hb4 hg7 K2
      go_wp2_with (first | (refine wpList_store_blk rfl 30 _ _ rfl g7 (bys X) z32 30 rfl rfl A1.out H24.out HLZ.out (bys_one' _) ?_; rw [ht5]; clear ht5) | (at_builtin; refine wpList_app rfl _ _ 22 rfl 5 i0 Tryz.underlying22 HIN.out H0.out H1.out H2.out b t5.heap.size _ _ ((sbl I seed k (2 ^ h) 0 h r).take (32 * j)) X rfl K3.out.2.1 rfl (Rd.blk 32 HXL.out L7.out hl7 (by omega)) (by rw [HEL.out, HXL.out]; omega) K3.out.2.2.1 ?_))
      intro v6 w6 hown6 hb6
      have K4 : Hid (SibAt w I seed k h g0 g1 g2 b v6 ((sbl I seed k (2 ^ h) 0 h r).take (32 * (j + 1))) w6) := by
        obtain ⟨f1, f2, f3, f4⟩ := K3.out
        rw [HTK.out]
        exact ⟨f1.below hb6 hgb0 hgb1 hgb2, hown6, Nat.le_trans f3 hb6.size, f4.trans (hb6.mono hwb)⟩
      clear hown6 hb6 K3 L7 hl7 A1
      have zq : (R : Int) / 2 = ((R / 2 : Nat) : Int) := by omega
      have zt : Int.tdiv (R : Int) 2 = ((R / 2 : Nat) : Int) := by rw [Int.tdiv_eq_ediv_of_nonneg (by omega)]; exact zq
      obtain ⟨R2, hR2⟩ : ∃ x, R / 2 = x := ⟨_, rfl⟩
      rw [hR2] at zq zt
      have hR2n : r / 2 ^ (j + 1) = R2 := by rw [HRN.out, hR2]
      have HR2N := Lib.hid hR2n
      have hlt2 : R2 < R := by omega
      have hz2 : R2 ≤ 64 := by omega
      clear hR2 hR2n
      go_wp2
      go_roundw
      case rel => exact ⟨j + 1, by omega, by rw [HR2N.out], K4⟩
      case measure => simp [intOf]; omega
    · have hjh : j = h := by omega
      subst hjh
      have hR1 : R = 1 := by rw [Nat.sub_self, Nat.pow_zero] at hRlo hRhi; omega
      subst hR1
      rw [List.take_of_length_le (by rw [sbl_length]; omega)] at KK
      clear hRlo hRhi
      go_wp2
      go_ret
      exact ⟨_, rfl, KK.out.2.1.base hwb, KK.out.2.2.2⟩
end Go.Proofs.YtllncnnigjgadaaGreat

namespace Go.Proofs.YtllncnnigjgadaaGreat
open Go.RowKit

theorem knd_lt {h : Nat} (H : Ht h) : knd h < 4294967296 := by rcases H with rfl | rfl | rfl | rfl | rfl <;> decide
theorem typ_lt {k : Nat} (H : Wd k) : typ k < 4294967296 := by rcases H with rfl | rfl | rfl | rfl <;> decide

set_option maxRecDepth 100000 in
set_option maxHeartbeats 2000000 in
theorem pubT_yes (I seed : List UInt8) (k h : Nat) (w : World) (hI : I.length = 16) (hs : seed.length = 32) (hk : Wd k) (hh : Ht h) : Calls Tryz.prog 26 #[.agg (tcs I seed (k : Int) (h : Int)).toArray] w (fun e w' => ∃ v, e = .returned (.tuple #[v, .int .i64 0]) ∧ Own 5 w' w.heap.size v (lpub I seed k h) ∧ Below w.heap.size w w') := by
  obtain ⟨i0, hi, hz0, hz1, hz2⟩ := info_parts info5
  have HIN := Lib.hid hi
  have H0 := Lib.hid hz0
  have H1 := Lib.hid hz1
  have H2 := Lib.hid hz2
  have HI := Lib.hid hI
  have HS := Lib.hid hs
  have HK := Lib.hid hk
  have HH := Lib.hid hh
  have HZ := Lib.hid (tcs_z I seed (k : Int) (h : Int) hI hs)
  have HY := Lib.hid (tcs_y I seed (k : Int) (h : Int) hI hs)
  have HT : Hid ((Tryz.prog.info? 32).map (·.size) = some (tcs I seed (k : Int) (h : Int)).length) := by show _ = _; rw [tcs_length I seed _ _ hI hs]; exact sTree
  obtain ⟨dT, huT, hdT⟩ := rowTree
  have HU := Lib.hid huT
  have HD := Lib.hid hdT
  obtain ⟨X, hX⟩ : ∃ X, knt I seed k (2 ^ h) h 1 = X := ⟨_, rfl⟩
  have hXl : X.length = 32 := by rw [← hX]; exact knt_length _ _ _ _ _ _
  have HXE := Lib.hid hX
  have HXL := Lib.hid hXl
  have H24 : Hid ((Tryz.prog.info? 30).map (·.size) = some (bys X).length) := by show _ = _; rw [bys_length, hXl]; exact s24
  have HLZ : Hid (z32.length = (bys X).length) := by show _ = _; rw [bys_length, hXl, z32_length]
  obtain ⟨D, hDe⟩ : ∃ N, knd h = N := ⟨_, rfl⟩
  obtain ⟨Y, hYe⟩ : ∃ N, typ k = N := ⟨_, rfl⟩
  have hD4 : D < 4294967296 := by rw [← hDe]; exact knd_lt hh
  have hY4 : Y < 4294967296 := by rw [← hYe]; exact typ_lt hk
  have HC0 : Hid (((shl k h)[0]? : Option Value) = some (.int .u32 (D : Int))) := by show _ = _; rw [← hDe]; rfl
  have HC1 : Hid (((shl k h)[1]? : Option Value) = some (.int .u32 (Y : Int))) := by show _ = _; rw [← hYe]; rfl
  have HPE : Hid (lpub I seed k h = be 4 D ++ be 4 Y ++ I ++ X) := by show _ = _; unfold lpub; rw [hDe, hYe, hX]
  clear hI hs hk hh hi hz0 hz1 hz2 huT hdT hX hXl hDe hYe
  go_enter Tryz.func26, Tryz.ntmps26
  go_wp2_with (refine wpList_box_blk rfl 32 _ rfl (tcs I seed (k : Int) (h : Int)) rfl ?_)
  intro w1 a1 a2 a3
  have A1 := Lib.hid a1
  have A3 := Lib.hid a3
  have A2 := Lib.hid a2
  clear a1 a2 a3
  go_wp2
  refine wp_scope_goto 0 rfl ?_
  go_wp2_with (refine wpList_alloc_blk rfl 30 rfl _ z24 ?_)
  intro w2 a1 a2 a3
  obtain ⟨g0, hg0⟩ : ∃ g, w.heap.size = g := ⟨_, rfl⟩
  obtain ⟨g4, hg4⟩ : ∃ g, w1.heap.size = g := ⟨_, rfl⟩
  have hs1 := A2.out
  have G1 : Hid (Blk w2 g0 (tcs I seed (k : Int) (h : Int)) 32) := by rw [← hg0]; exact A1.out.below a3 (by omega)
  have G4 : Hid (Blk w2 g4 z32 30) := by rw [← hg4]; exact a1
  have GB : Hid (Below w.heap.size w w2) := A3.out.trans (a3.mono (by omega))
  have cz := (G1.out.cell 48).trans HZ.out
  have cy := (G1.out.cell 49).trans HY.out
  have hw0 : w.heap.size ≤ g0 := by omega
  have hg04 : g0 < g4 := by omega
  rw [hg0, hg4]
  clear a1 a2 a3 A1 A2 A3 hs1 hg0 hg4
  go_wp2_with fail
  refine (lshape_yes k h _ HK.out HH.out).mono ?_
  rintro e w3 ⟨rfl, hb⟩
  have E1 : Hid (Blk w3 g0 (tcs I seed (k : Int) (h : Int)) 32) := G1.out.below hb G1.out.lt
  have E4 : Hid (Blk w3 g4 z32 30) := G4.out.below hb G4.out.lt
  have EB : Hid (Below w.heap.size w w3) := GB.out.trans (hb.mono GB.out.size)
  have hs3 : g4 < w3.heap.size := E4.out.lt
  clear hb GB G1 G4 cz cy
  go_wp2_with (first | (refine wpList_alloc_blk rfl 65 rfl _ zi74 ?_))
  intro w4 a1 a2 a3
  obtain ⟨g6, hg6⟩ : ∃ g, w3.heap.size = g := ⟨_, rfl⟩
  rw [hg6] at a1 a2 a3 hs3 ⊢
  have A1 := Lib.hid a1
  obtain ⟨t4, ht4⟩ : ∃ t, w4.setRow g6 (shl k h).toArray = t := ⟨_, rfl⟩
  have F1 : Hid (Blk t4 g0 (tcs I seed (k : Int) (h : Int)) 32) := by rw [← ht4]; exact (E1.out.below a3 (by omega)).setRowOther (by omega)
  have F4 : Hid (Blk t4 g4 z32 30) := by rw [← ht4]; exact (E4.out.below a3 (by omega)).setRowOther (by omega)
  have F6 : Hid (Blk t4 g6 (shl k h) 65) := by rw [← ht4]; exact a1.setRow
  have FB : Hid (Below w.heap.size w t4) := by rw [← ht4]; exact below_setRow' (EB.out.trans (a3.mono (by omega))) (by omega) _
  clear a1 a2 a3 E1 E4 EB hg6
  go_wp2_with (first | (refine wpList_store_blk rfl 65 _ _ rfl g6 (shl k h) shl0 65 rfl rfl A1.out s74 rfl (shl_one k h) ?_; rw [ht4]; clear ht4) | (refine wpList_load_blkU rfl 32 _ rfl g0 rfl (tcs I seed (k : Int) (h : Int)) 32 F1.out dT HU.out HD.out HT.out ?_))
  refine (hashes_any I seed k h _ HI.out HS.out HH.out).mono ?_
  rintro e w5 ⟨fv, rfl, hsh, hb⟩
  obtain ⟨u0, u1, u2, hv, hG⟩ := hsh.split
  subst hv
  have GG := Lib.hid hG
  have I1 : Hid (Blk w5 g0 (tcs I seed (k : Int) (h : Int)) 32) := F1.out.below hb F1.out.lt
  have I4 : Hid (Blk w5 g4 z32 30) := F4.out.below hb F4.out.lt
  have I6 : Hid (Blk w5 g6 (shl k h) 65) := F6.out.below hb F6.out.lt
  have IB : Hid (Below w.heap.size w w5) := FB.out.trans (hb.mono FB.out.size)
  clear hb hsh hG A1 F1 F4 F6 FB
  go_wp2_with fail
  refine (GG.out.node HI.out HS.out HK.out HH.out h 1 (Nat.le_refl _) (by rw [Nat.sub_self]; decide) (by rw [Nat.sub_self]; decide)).mono ?_
  rintro e w6 ⟨rfl, hb⟩
  rw [HXE.out]
  have J1 : Hid (Blk w6 g0 (tcs I seed (k : Int) (h : Int)) 32) := I1.out.below hb I1.out.lt
  have J4 : Hid (Blk w6 g4 z32 30) := I4.out.below hb I4.out.lt
  have J6 : Hid (Blk w6 g6 (shl k h) 65) := I6.out.below hb I6.out.lt
  have JB : Hid (Below w.heap.size w w6) := IB.out.trans (hb.mono IB.out.size)
  clear hb GG I1 I4 I6 IB
  obtain ⟨w7, hw7⟩ : ∃ t, w6.setRow g4 (bys X).toArray = t := ⟨_, rfl⟩
  have M1 : Hid (Blk w7 g0 (tcs I seed (k : Int) (h : Int)) 32) := by rw [← hw7]; exact J1.out.setRowOther (by omega)
  have M4 : Hid (Blk w7 g4 (bys X) 30) := by rw [← hw7]; exact J4.out.setRow
  have M6 : Hid (Blk w7 g6 (shl k h) 65) := by rw [← hw7]; exact J6.out.setRowOther (by omega)
  have MB : Hid (Below w.heap.size w w7) := by rw [← hw7]; exact below_setRow' JB.out (by omega) _
  clear J1 J6 JB
  go_wp2_with (first | (refine wpList_store_blk rfl 30 _ _ rfl g4 (bys X) z32 30 rfl rfl J4.out H24.out HLZ.out (bys_one' _) ?_; rw [hw7]; clear hw7))
  refine wp_region_rely3 4 2 (fun x => ⟨#[Value.agg (tcs I seed ↑k ↑h).toArray, Value.pointer (some { block := g0, off := 0 }), Value.slice none 0 0, Value.int IntKind.i64 0, Value.pointer (some { block := g4, off := 0 }), Value.slice none 0 0, Value.pointer (some { block := g6, off := 0 }), Value.int IntKind.i64 0, Value.tuple #[Value.agg (shl k h).toArray, Value.int IntKind.i64 0], Value.pointer (some { block := g0, off := 48 }), Value.int IntKind.i64 ↑k, Value.pointer (some { block := g0, off := 49 }), Value.int IntKind.i64 ↑h, Value.tuple #[Value.agg (shl k h).toArray, Value.int IntKind.i64 0], Value.agg (shl k h).toArray, Value.int IntKind.i64 0, Value.int IntKind.i64 0, Value.bool false, Value.agg (tcs I seed ↑k ↑h).toArray, Value.func (Fn.func 84) #[] #[Value.pointer (some { block := u1, off := 0 }), Value.pointer (some { block := u0, off := 0 }), Value.pointer (some { block := u2, off := 0 })], Value.agg (bys X).toArray, x 0, x 1, x 2, x 3, undef, undef, undef, undef, undef, undef, undef, undef, undef, undef, undef, undef, undef, undef], []⟩) (fun jj => ([(OwnN w7.heap.size []), eqV (.pointer (some ⟨g6, 0, none⟩)), eqV (.int .u32 (D : Int)), (RdN (be 4 D))] : List (Value → World → Prop)).getD jj (fun _ _ => True)) rfl ⟨fun kk => [_, _, _, _].getD kk undef, rfl⟩ (by kernel_rfl) (by kernel_rfl) ?steps ?fin
  case steps =>
    refine StepsAt.cons 0 (fun _ _ _ h hb => OwnN.keep h hb) (fun _ _ => rfl) rfl rfl (fun x w9 hb hd K hK => ?_) ?_
    · refine wp_of_list rfl (wpList_make_own _ rfl (.const (.int .i64 0)) (.const (.int .i64 56)) 22 rfl w7.heap.size 5 i0 (.int .u8 0) 1 Tryz.underlying22 HIN.out H0.out H1.out .i64 .i64 (56 : Int) 56 rfl rfl rfl (by rw [H2.out]; omega) (by unfold maxLen; omega) hb.size ?_)
      intro w2 hown hgrow
      exact hK.out _ _ ((Below.refl _ _).grown hgrow (Nat.le_refl _) (fun k hk => by cases hk)) hown
    refine StepsAt.val 1 (.pointer (some ⟨g6, 0, none⟩)) rfl (fun _ _ => rfl) rfl rfl (fun x w9 hb hd => ?_) ?_
    · first | (go_simp; done) | (go_simp; rfl)
    refine StepsAt.val 2 (.int .u32 (D : Int)) rfl (fun _ _ => rfl) rfl rfl (fun x w9 hb hd => ?_) ?_
    · have h1 : x 1 = .pointer (some ⟨g6, 0, none⟩) := hd 1 (by kernel_rfl)
      have c := ((M6.out.below hb M6.out.lt).cell 0).trans HC0.out
      rw [h1]
      first | (go_simp; done) | (go_simp; rfl)
    refine StepsAt.cons 3 (fun _ _ _ h hb => RdN.keep h hb) (fun _ _ => rfl) rfl rfl (fun x w9 hb hd K hK => ?_) ?_
    · have h2 : Hid (x 2 = .int .u32 (D : Int)) := hd 2 (by kernel_rfl)
      go_simp
      refine calls_args (args2 := #[.int .u32 (D : Int)]) (by rw [h2.out]) ?_
      refine (fourL_any D _ hD4).mono ?_
      rintro e w2 ⟨v2, rfl, hown, hb2⟩
      exact hK.out _ _ hb2 hown.rd
    exact StepsAt.done
  case fin =>
    intro x w9 hb hd
    have h2 : Own 5 w9 w7.heap.size (x 0) [] := hd 0 (by omega)
    have h5 : Rd w9.heap.size w9 (x 3) (be 4 D) := hd 3 (by omega)
    refine AnyTill.any (S := fun _ => True) (m := 6) _ _ _ _ ?_
    refine AnyTill.one (i := 4) (by kernel_rfl) rfl (by rfl) (fun K hK => ?_)
    refine wp_of_list rfl (wpList_app rfl (.tmp 21) (.tmp 24) 22 rfl 5 i0 Tryz.underlying22 HIN.out H0.out H1.out H2.out w7.heap.size w9.heap.size (x 0) (x 3) [] (be 4 D) rfl h2 rfl h5 (by rw [be_length]; simp) hb.size ?_)
    intro v10 w10 hown10 hb10
    rw [List.nil_append] at hown10
    refine hK.out _ _ (.inr trivial) ?_
    clear hK K
    refine AnyTill.one (i := 5) (by kernel_rfl) rfl (by rfl) (fun K hK => ?_)
    refine hK.out _ _ (.inr trivial) ?_
    clear hK K
    refine AnyTill.done (by kernel_rfl) ?_
    refine NoPanic.normal ?_
    simp only [Act.put, Act.eval, List.setIfInBounds_toArray, List.set_cons_zero, List.set_cons_succ, Array.getD_eq_getD_getElem?, List.getElem?_toArray, List.getElem?_cons_zero, List.getElem?_cons_succ, Option.getD_some]
    have hbA : Below w7.heap.size w7 w10 := hb.trans hb10
    obtain ⟨b, hbE⟩ : ∃ b, w7.heap.size = b := ⟨_, rfl⟩
    have N1 : Hid (Blk w10 g0 (tcs I seed (k : Int) (h : Int)) 32) := M1.out.below hbA M1.out.lt
    have N4 : Hid (Blk w10 g4 (bys X) 30) := M4.out.below hbA M4.out.lt
    have N6 : Hid (Blk w10 g6 (shl k h) 65) := M6.out.below hbA M6.out.lt
    have NO : Hid (Own 5 w10 b v10 (be 4 D)) := by rw [← hbE]; exact hown10
    have NB : Hid (Below w.heap.size w w10) := MB.out.trans (hbA.mono MB.out.size)
    have hb10s : b ≤ w10.heap.size := by rw [← hbE]; exact hbA.size
    have hg0b : g0 < b := by rw [← hbE]; exact M1.out.lt
    have hg4b : g4 < b := by rw [← hbE]; exact M4.out.lt
    have hwb : w.heap.size ≤ b := by rw [← hbE]; exact MB.out.size
    have c1 := (N6.out.cell 1).trans HC1.out
    generalize x 0 = z0
    generalize x 1 = z1
    generalize x 2 = z2
    generalize x 3 = z3
    clear hd h2 h5 hb hb10 hown10 hbA M1 M4 M6 MB hbE x
    go_wp2_with fail
    clear c1
    refine (fourL_any Y _ hY4).mono ?_
    rintro e w11 ⟨v11, rfl, hown, hb⟩
    have P1 : Hid (Blk w11 g0 (tcs I seed (k : Int) (h : Int)) 32) := N1.out.below hb N1.out.lt
    have P4 : Hid (Blk w11 g4 (bys X) 30) := N4.out.below hb N4.out.lt
    have PO : Hid (Own 5 w11 b v10 (be 4 D)) := NO.out.below hb (Nat.le_refl _)
    have PB : Hid (Below w.heap.size w w11) := NB.out.trans (hb.mono NB.out.size)
    have PV := Lib.hid hown.rd
    have hb11s : b ≤ w11.heap.size := Nat.le_trans hb10s hb.size
    clear hb hown N1 N4 N6 NO NB hb10s
    go_wp2_with (at_builtin; refine wpList_app rfl _ _ 22 rfl 5 i0 Tryz.underlying22 HIN.out H0.out H1.out H2.out b w11.heap.size _ _ (be 4 D) (be 4 Y) rfl PO.out rfl PV.out (by rw [be_length, be_length]; omega) hb11s ?_)
    intro v12 w12 hown12 hb12
    have Q1 : Hid (Blk w12 g0 (tcs I seed (k : Int) (h : Int)) 32) := P1.out.below hb12 hg0b
    have Q4 : Hid (Blk w12 g4 (bys X) 30) := P4.out.below hb12 hg4b
    have QO := Lib.hid hown12
    have QB : Hid (Below w.heap.size w w12) := PB.out.trans (hb12.mono hwb)
    have hb12s : b ≤ w12.heap.size := Nat.le_trans hb11s hb12.size
    have hl12 : g0 < w12.heap.size := Q1.out.lt
    clear hown12 hb12 P1 P4 PO PV PB hb11s
    go_wp2_with (at_builtin; refine wpList_app rfl _ _ 22 rfl 5 i0 Tryz.underlying22 HIN.out H0.out H1.out H2.out b w12.heap.size _ _ (be 4 D ++ be 4 Y) I rfl QO.out rfl (tcs_I Q1.out HI.out hl12) (by rw [List.length_append, be_length, be_length, HI.out]; omega) hb12s ?_)
    intro v13 w13 hown13 hb13
    have R4 : Hid (Blk w13 g4 (bys X) 30) := Q4.out.below hb13 hg4b
    have RO := Lib.hid hown13
    have RB : Hid (Below w.heap.size w w13) := QB.out.trans (hb13.mono hwb)
    have hb13s : b ≤ w13.heap.size := Nat.le_trans hb12s hb13.size
    have hl13 : g4 < w13.heap.size := R4.out.lt
    clear hown13 hb13 Q1 Q4 QO QB hb12s hl12
    go_wp2_with (at_builtin; refine wpList_app rfl _ _ 22 rfl 5 i0 Tryz.underlying22 HIN.out H0.out H1.out H2.out b w13.heap.size _ _ (be 4 D ++ be 4 Y ++ I) X rfl RO.out rfl (Rd.blk 32 HXL.out R4.out hl13 (by omega)) (by rw [List.length_append, List.length_append, be_length, be_length, HI.out, HXL.out]; omega) hb13s ?_)
    intro v14 w14 hown14 hb14
    have SO := Lib.hid hown14
    have SB : Hid (Below w.heap.size w w14) := RB.out.trans (hb14.mono hwb)
    clear hown14 hb14 R4 RO RB hb13s hl13
    go_wp2
    rw [jump_ret]
    go_ret2
    refine ⟨_, rfl, ?_, SB.out⟩
    rw [HPE.out]
    exact SO.out.base hwb

end Go.Proofs.YtllncnnigjgadaaGreat
