/-
  Texts SX.
-/
import Derived.Test.YtgfobinklijkpaaGreatDoorChecked
import Derived.WalkKit
import Derived.WalkLawsBesides
import Derived.Outline
import Derived.Lib.Hide
import Derived.Deep.QuietTactic
import Derived.BigQuiet
import Derived.Deep.Draws
import Derived.StillTailTactics
import Derived.Lib.MinMax
import Derived.ChangeKeysEq
import Derived.Test.YtgfobinklijkpaaGreatDoorX01
import Derived.Test.YtgfobinklijkpaaGreatDoorX02
namespace Go.Proofs.YtgfobinklijkpaaGreatDoor
set_option maxRecDepth 100000
set_option maxHeartbeats 16000000
open Go.RowKit
theorem ret_int {k : IntKind} {a b : Int} (h : a = b) : Ending.returned (.int k a) = .returned (.int k b) := by rw [h]
theorem neg_and (k : Nat) (h0 : 0 < k) (h1 : k < 32) : bits .and .u64 (IntKind.u64.wrap (-(k : Int))) 31 = ((32 - k : Nat) : Int) := by
 have e : IntKind.u64.wrap (-(k : Int)) = ((18446744073709551616 - k : Nat) : Int) := by rw [IntKind.wrap_u64]; omega
 rw [e]
 have := u64_and_nat (18446744073709551616 - k) 31 (by omega) (by omega)
 rw [show ((31 : Nat) : Int) = 31 from rfl] at this
 rw [this, nat_mask5]
 congr 1
 omega
theorem rot_int (x j k : Nat) (hx : x < 4294967296) (hj : 32 - k = j) (hk : k = 32 - j) : bits .or .u32 ((x : Int) * 2 ^ j % 4294967296) ((x : Int) / 2 ^ (32 - j)) = ((rotr x k : Nat) : Int) := by
 have e1 : (x : Int) * 2 ^ j % 4294967296 = ((x * 2 ^ j % 4294967296 : Nat) : Int) := by simp
 have e2 : (x : Int) / 2 ^ (32 - j) = ((x / 2 ^ (32 - j) : Nat) : Int) := by simp
 rw [e1, e2, u32_or_nat _ _ (Nat.mod_lt _ (by decide)) (Nat.lt_of_le_of_lt (Nat.div_le_self _ _) hx)]
 unfold rotr
 rw [hj, hk]
theorem rot_int' (x k : Nat) (hx : x < 4294967296) : bits .or .u32 ((x : Int) / 2 ^ k) ((x : Int) * 2 ^ (32 - k) % 4294967296) = ((rotr x k : Nat) : Int) := by
 have e1 : (x : Int) * 2 ^ (32 - k) % 4294967296 = ((x * 2 ^ (32 - k) % 4294967296 : Nat) : Int) := by simp
 have e2 : (x : Int) / 2 ^ k = ((x / 2 ^ k : Nat) : Int) := by simp
 rw [e1, e2, u32_or_nat _ _ (Nat.lt_of_le_of_lt (Nat.div_le_self _ _) hx) (Nat.mod_lt _ (by decide)), Nat.or_comm]
 rfl
theorem rotl_any (x : Nat) (k : Nat) (w : World) (hx : x < 4294967296) (h0 : 0 < k) (h1 : k < 32) : Calls Tryz.prog 202 #[.int .u32 (x : Int), .int .i64 (-(k : Int))] w fun e w' => e = .returned (.int .u32 ((rotr x k : Nat) : Int)) ∧ w = w' := by
 have hb := neg_and k h0 h1
 obtain ⟨j, hj⟩ : ∃ j : Nat, 32 - k = j := ⟨_, rfl⟩
 rw [hj] at hb
 have hj1 : j < 32 := by omega
 have hj0 : 0 < j := by omega
 have HJ := lhd hj
 clear hj
 go_enter Tryz.func202, Tryz.ntmps202
 go_wp2
 go_ret
 have hj := HJ.out
 exact ⟨ret_int (rot_int x j k hx hj (by omega)), rfl⟩
theorem rotated_any (x : Nat) (k : Nat) (z : Int) (w : World) (hz : z = (k : Int)) (hx : x < 4294967296) (h0 : 0 < k) (h1 : k < 32) : Calls Tryz.prog 174 #[.int .u32 (x : Int), .int .i64 z] w fun e w' => e = .returned (.int .u32 ((rotr x k : Nat) : Int)) ∧ w = w' := by
 subst hz
 go_enter Tryz.func174, Tryz.ntmps174
 go_wp2_with ((with_reducible refine (rotl_any x k w hx h0 h1).mono ?_); rintro e w' ⟨rfl, rfl⟩)
 go_ret
 exact ⟨rfl, rfl⟩
theorem sm_int (a b x d : Nat) (hx : x < 4294967296) (ha : a < 4294967296) (hb : b < 4294967296) : bits .xor .u32 (bits .xor .u32 (a : Int) (b : Int)) ((x : Int) / (d : Int)) = ((a ^^^ b ^^^ x / d : Nat) : Int) := by
 have e2 : (x : Int) / (d : Int) = ((x / d : Nat) : Int) := by simp
 rw [u32_xor_nat _ _ ha hb, e2, u32_xor_nat _ _ (xor32 ha hb) (Nat.lt_of_le_of_lt (Nat.div_le_self _ _) hx)]
theorem bg_int (a b c : Nat) (ha : a < 4294967296) (hb : b < 4294967296) (hc : c < 4294967296) : bits .xor .u32 (bits .xor .u32 (a : Int) (b : Int)) (c : Int) = ((a ^^^ b ^^^ c : Nat) : Int) := by
 rw [u32_xor_nat _ _ ha hb, u32_xor_nat _ _ (xor32 ha hb) hc]
theorem smallS1_any (x : Nat) (w : World) (hx : x < 4294967296) : Calls Tryz.prog 145 #[.int .u32 (x : Int)] w fun e w' => e = .returned (.int .u32 ((sm1 x : Nat) : Int)) ∧ w = w' := by
 go_enter Tryz.func145, Tryz.ntmps145
 go_wp2_with fail
 refine (rotated_any x 17 _ w rfl hx (by omega) (by omega)).mono ?_
 rintro e w' ⟨rfl, rfl⟩
 go_wp2_with fail
 refine (rotated_any x 19 _ w rfl hx (by omega) (by omega)).mono ?_
 rintro e w' ⟨rfl, rfl⟩
 go_wp2
 go_ret
 exact ⟨ret_int (sm_int _ _ x 1024 hx (rotr_lt _ _ hx) (rotr_lt _ _ hx)), rfl⟩
theorem smallS0_any (x : Nat) (w : World) (hx : x < 4294967296) : Calls Tryz.prog 146 #[.int .u32 (x : Int)] w fun e w' => e = .returned (.int .u32 ((sm0 x : Nat) : Int)) ∧ w = w' := by
 go_enter Tryz.func146, Tryz.ntmps146
 go_wp2_with fail
 refine (rotated_any x 7 _ w rfl hx (by omega) (by omega)).mono ?_
 rintro e w' ⟨rfl, rfl⟩
 go_wp2_with fail
 refine (rotated_any x 18 _ w rfl hx (by omega) (by omega)).mono ?_
 rintro e w' ⟨rfl, rfl⟩
 go_wp2
 go_ret
 exact ⟨ret_int (sm_int _ _ x 8 hx (rotr_lt _ _ hx) (rotr_lt _ _ hx)), rfl⟩
theorem bigS1_any (x : Nat) (w : World) (hx : x < 4294967296) : Calls Tryz.prog 141 #[.int .u32 (x : Int)] w fun e w' => e = .returned (.int .u32 ((bg1 x : Nat) : Int)) ∧ w = w' := by
 go_enter Tryz.func141, Tryz.ntmps141
 go_wp2_with fail
 refine (rotated_any x 6 _ w rfl hx (by omega) (by omega)).mono ?_
 rintro e w' ⟨rfl, rfl⟩
 go_wp2_with fail
 refine (rotated_any x 11 _ w rfl hx (by omega) (by omega)).mono ?_
 rintro e w' ⟨rfl, rfl⟩
 go_wp2_with fail
 refine (rotated_any x 25 _ w rfl hx (by omega) (by omega)).mono ?_
 rintro e w' ⟨rfl, rfl⟩
 go_wp2
 go_ret
 exact ⟨ret_int (bg_int _ _ _ (rotr_lt _ _ hx) (rotr_lt _ _ hx) (rotr_lt _ _ hx)), rfl⟩
theorem bigS0_any (x : Nat) (w : World) (hx : x < 4294967296) : Calls Tryz.prog 143 #[.int .u32 (x : Int)] w fun e w' => e = .returned (.int .u32 ((bg0 x : Nat) : Int)) ∧ w = w' := by
 go_enter Tryz.func143, Tryz.ntmps143
 go_wp2_with fail
 refine (rotated_any x 2 _ w rfl hx (by omega) (by omega)).mono ?_
 rintro e w' ⟨rfl, rfl⟩
 go_wp2_with fail
 refine (rotated_any x 13 _ w rfl hx (by omega) (by omega)).mono ?_
 rintro e w' ⟨rfl, rfl⟩
 go_wp2_with fail
 refine (rotated_any x 22 _ w rfl hx (by omega) (by omega)).mono ?_
 rintro e w' ⟨rfl, rfl⟩
 go_wp2
 go_ret
 exact ⟨ret_int (bg_int _ _ _ (rotr_lt _ _ hx) (rotr_lt _ _ hx) (rotr_lt _ _ hx)), rfl⟩
theorem choose_any (x y z : Nat) (w : World) (hx : x < 4294967296) (hy : y < 4294967296) (hz : z < 4294967296) : Calls Tryz.prog 142 #[.int .u32 (x : Int), .int .u32 (y : Int), .int .u32 (z : Int)] w fun e w' => e = .returned (.int .u32 ((chs x y z : Nat) : Int)) ∧ w = w' := by
 go_enter Tryz.func142, Tryz.ntmps142
 go_wp2
 go_ret
 refine ⟨ret_int ?_, rfl⟩
 have hm : IntKind.u32.max = ((4294967295 : Nat) : Int) := by decide
 rw [hm, u32_xor_nat _ _ (by omega) hx, u32_and_nat _ _ hx hy, u32_and_nat _ _ (xor32 (by omega) hx) hz, u32_or_nat _ _ (and32 hy) (and32 hz)]
 rfl
theorem majority_any (x y z : Nat) (w : World) (hx : x < 4294967296) (hy : y < 4294967296) (hz : z < 4294967296) : Calls Tryz.prog 144 #[.int .u32 (x : Int), .int .u32 (y : Int), .int .u32 (z : Int)] w fun e w' => e = .returned (.int .u32 ((mjr x y z : Nat) : Int)) ∧ w = w' := by
 go_enter Tryz.func144, Tryz.ntmps144
 go_wp2
 go_ret
 refine ⟨ret_int ?_, rfl⟩
 rw [u32_and_nat _ _ hx hy, u32_and_nat _ _ hx hz, u32_and_nat _ _ hy hz, u32_or_nat _ _ (and32 hy) (and32 hz), u32_or_nat _ _ (or32 (and32 hy) (and32 hz)) (and32 hz)]
 rfl
theorem turned_any (x : Nat) (k : Nat) (z : Int) (w : World) (hz : z = (k : Int)) (hx : x < 4294967296) (h0 : 0 < k) (h1 : k < 32) : Calls Tryz.prog 123 #[.int .u32 (x : Int), .int .i64 z] w fun e w' => e = .returned (.int .u32 ((rotr x k : Nat) : Int)) ∧ ∃ n, w' = w.drewN n := by
 subst hz
 have h2 : IntKind.i64.wrap (32 - (k : Int)) = ((32 - k : Nat) : Int) := by rw [IntWalk.i64_in _ (by omega)]; omega
 go_enter Tryz.func123, Tryz.ntmps123
 go_wp2
 go_quiet (fail)
 go_wp2
 go_ret
 exact ⟨ret_int (rot_int' x k hx), _, rfl⟩
def Arr (cs : List Value) (w : World) (e : Ending) (w' : World) : Prop := e = .returned (.agg cs.toArray) ∧ Below w.heap.size w w'
def z8 : List Value := ws (List.replicate 8 0)
def z64 : List Value := ws (List.replicate 64 0)
def z32 : List Value := bys (List.replicate 32 0)
theorem z8_length : z8.length = 8 := by decide
theorem z64_length : z64.length = 64 := by decide
theorem z32_length : z32.length = 32 := by decide
theorem z33 : (Tryz.prog.info? 146).map (·.zero) = some (some (.agg z8.toArray)) := by kernel_rfl
theorem z34 : (Tryz.prog.info? 196).map (·.zero) = some (some (.agg z64.toArray)) := by kernel_rfl
theorem z24 : (Tryz.prog.info? 36).map (·.zero) = some (some (.agg z32.toArray)) := by kernel_rfl
theorem s33 : (Tryz.prog.info? 146).map (·.size) = some 8 := by kernel_rfl
theorem s34 : (Tryz.prog.info? 196).map (·.size) = some 64 := by kernel_rfl
theorem s24 : (Tryz.prog.info? 36).map (·.size) = some 32 := by kernel_rfl
theorem tu33 : Tryz.prog.underlying 146 = some (.array 8 145) := by kernel_rfl
theorem tu34 : Tryz.prog.underlying 196 = some (.array 64 145) := by kernel_rfl
theorem tu24 : Tryz.prog.underlying 36 = some (.array 32 5) := by kernel_rfl
theorem s27 : (Tryz.prog.info? 145).map (·.size) = some 1 := by kernel_rfl
theorem zz34 : ((Tryz.prog.info? 196).bind (·.zero)).map (·.cells.size) = some 64 := by kernel_rfl
theorem zz33 : ((Tryz.prog.info? 146).bind (·.zero)).map (·.cells.size) = some 8 := by kernel_rfl
def ints (l : List Nat) : List Int := l.map fun (n : Nat) => (n : Int)
theorem ints_ws (l : List Nat) : (ints l).map (Value.int .u32) = ws l := by simp [ints, ws]
theorem ints_length (l : List Nat) : (ints l).length = l.length := by simp [ints]
theorem roundConstants_any (w : World) : Calls Tryz.prog 116 #[] w (Arr (ws kw) w) := by
 go_enter Tryz.func116, Tryz.ntmps116
 go_wp2_with (refine wpList_alloc_blk rfl 196 rfl _ z34 ?_)
 intro w1 hb1 hs1 hbl
 go_wp2_with (first | (refine wpList_buildFlatArr rfl 196 145 64 _ rfl .u32 (ints kw) tu34 s27 (by rw [ints_length, kw_length]; exact zz34) (by kernel_rfl) ?_; rw [ints_ws]) | (refine wpList_store_blk rfl 196 _ _ rfl w.heap.size (ws kw) _ 196 rfl rfl hb1 (by rw [ws_length, kw_length]; exact s34) (by rw [ws_length, kw_length, z64_length]) (ws_one _) ?_))
 refine bodyPost_ret (v := .agg (ws kw).toArray) ?r rfl ?p
 case r => exact ret_blk rfl _ _ w.heap.size 196 (ws kw) rfl hb1.setRow 64 145 tu34 (by rw [ws_length, kw_length]; exact s34)
 case p => exact ⟨rfl, below_setRow' hbl (Nat.le_refl _) _⟩
theorem initial_any (w : World) : Calls Tryz.prog 80 #[] w (Arr (ws iv) w) := by
 go_enter Tryz.func80, Tryz.ntmps80
 go_wp2_with (refine wpList_alloc_blk rfl 146 rfl _ z33 ?_)
 intro w1 hb1 hs1 hbl
 go_wp2_with (first | (refine wpList_buildFlatArr rfl 146 145 8 _ rfl .u32 (ints iv) tu33 s27 (by rw [ints_length, iv_length]; exact zz33) (by kernel_rfl) ?_; rw [ints_ws]) | (refine wpList_store_blk rfl 146 _ _ rfl w.heap.size (ws iv) _ 146 rfl rfl hb1 (by rw [ws_length, iv_length]; exact s33) (by rw [ws_length, iv_length, z8_length]) (ws_one _) ?_))
 refine bodyPost_ret (v := .agg (ws iv).toArray) ?r rfl ?p
 case r => exact ret_blk rfl _ _ w.heap.size 146 (ws iv) rfl hb1.setRow 8 145 tu33 (by rw [ws_length, iv_length]; exact s33)
 case p => exact ⟨rfl, below_setRow' hbl (Nat.le_refl _) _⟩
theorem rounds_any (w : World) : Calls Tryz.prog 122 #[] w (Arr (ws kw) w) := by
 go_enter Tryz.func122, Tryz.ntmps122
 go_wp2_with (refine wpList_alloc_blk rfl 196 rfl _ z34 ?_)
 intro w1 hb1 hs1 hbl
 go_wp2_with (first | (refine wpList_buildFlatArr rfl 196 145 64 _ rfl .u32 (ints kw) tu34 s27 (by rw [ints_length, kw_length]; exact zz34) (by kernel_rfl) ?_; rw [ints_ws]) | (refine wpList_store_blk rfl 196 _ _ rfl w.heap.size (ws kw) _ 196 rfl rfl hb1 (by rw [ws_length, kw_length]; exact s34) (by rw [ws_length, kw_length, z64_length]) (ws_one _) ?_))
 refine bodyPost_ret (v := .agg (ws kw).toArray) ?r rfl ?p
 case r => exact ret_blk rfl _ _ w.heap.size 196 (ws kw) rfl hb1.setRow 64 145 tu34 (by rw [ws_length, kw_length]; exact s34)
 case p => exact ⟨rfl, below_setRow' hbl (Nat.le_refl _) _⟩
def rowk (b : List UInt8) (k : Nat) : List Value := ws (sch b k ++ List.replicate (64 - k) 0)
theorem rowk_full (b : List UInt8) : rowk b 64 = ws (sch b 64) := by simp [rowk]
theorem rowk_length (b : List UInt8) (k : Nat) (h : k ≤ 64) : (rowk b k).length = 64 := by simp [rowk, ws_length, sch_length]; omega
theorem rowk_at (b : List UInt8) (k j : Nat) (h : j < k) : (rowk b k)[j]? = some (.int .u32 ((sch b k).getD j 0 : Nat)) := by
 have hj : j < (sch b k).length := by rw [sch_length]; exact h
 rw [rowk, ws_append, List.getElem?_append_left (by rw [ws_length]; exact hj), ws_at _ _ hj]
 simp [hj]
theorem rowk_some (b : List UInt8) (k j : Nat) (hk : k ≤ 64) (h : j < 64) : ∃ v, (rowk b k)[j]? = some v := by
 exact ⟨_, List.getElem?_eq_getElem (by rw [rowk_length b k hk]; exact h)⟩
theorem rowk_set (b : List UInt8) (k : Nat) (h : k < 64) : (rowk b k).set k (.int .u32 ((if k < 16 then wd b k else nx (sch b k) k : Nat) : Int)) = rowk b (k + 1) := by
 obtain ⟨m, hm⟩ : ∃ m, 64 - k = m + 1 := ⟨63 - k, by omega⟩
 have hm' : 64 - (k + 1) = m := by omega
 have hl : (ws (sch b k)).length = k := by rw [ws_length, sch_length]
 unfold rowk
 rw [hm, hm', ws_append, ws_append, sch, ws_append, List.set_append, if_neg (by omega), hl, Nat.sub_self, List.append_assoc]
 rfl
theorem ad4_int (a b c d : Nat) : ((a : Int) + b + c + d) % 4294967296 = ((ad (ad (ad a b) c) d : Nat) : Int) := by unfold ad; omega
theorem wd_int (B0 B1 B2 B3 : Nat) (y0 : B0 < 256) (y1 : B1 < 256) (y2 : B2 < 256) (y3 : B3 < 256) :
 bits .or .u32 (bits .or .u32 (bits .or .u32 (IntKind.u32.wrap (IntKind.u32.wrap (B0 : Int) * 16777216)) (IntKind.u32.wrap (IntKind.u32.wrap (B1 : Int) * 65536))) (IntKind.u32.wrap (IntKind.u32.wrap (B2 : Int) * 256))) (IntKind.u32.wrap (B3 : Int))
  = ((B0 * 16777216 ||| B1 * 65536 ||| B2 * 256 ||| B3 : Nat) : Int) := by
 have r0 : IntKind.u32.wrap (IntKind.u32.wrap (B0 : Int) * 16777216) = ((B0 * 16777216 : Nat) : Int) := by rw [IntKind.wrap_u32', IntKind.wrap_u32']; omega
 have r1 : IntKind.u32.wrap (IntKind.u32.wrap (B1 : Int) * 65536) = ((B1 * 65536 : Nat) : Int) := by rw [IntKind.wrap_u32', IntKind.wrap_u32']; omega
 have r2 : IntKind.u32.wrap (IntKind.u32.wrap (B2 : Int) * 256) = ((B2 * 256 : Nat) : Int) := by rw [IntKind.wrap_u32', IntKind.wrap_u32']; omega
 have r3 : IntKind.u32.wrap (B3 : Int) = (B3 : Int) := by rw [IntKind.wrap_u32']; omega
 rw [r0, r1, r2, r3, u32_or_nat _ _ (by omega) (by omega), u32_or_nat _ _ (or32 (by omega) (by omega)) (by omega), u32_or_nat _ _ (or32 (or32 (by omega) (by omega)) (by omega)) (by omega)]
theorem schedule_any (v : Value) (b : List UInt8) (w : World) (hr : Rd w.heap.size w v b) (hl : b.length = 64) : Calls Tryz.prog 118 #[v] w (Arr (ws (sch b 64)) w) := by
 obtain ⟨A, c, rfl, hc, hm, hn, hcell⟩ := hr
 obtain ⟨a, rfl⟩ : ∃ a, A = some a := by
  cases A with
  | none => have := hn rfl; omega
  | some a => exact ⟨a, rfl⟩
 obtain ⟨hlt, hcell⟩ := hcell a rfl
 rw [hl] at hc hlt ⊢
 have HC := lhd hcell
 have HL := lhd hl
 have hlt' := hlt (by omega)
 clear hcell hl hlt hn
 unfold maxLen at hm
 go_enter Tryz.func118, Tryz.ntmps118
 go_wp2_with (refine wpList_alloc_blk rfl 196 rfl _ z34 ?_)
 intro w1 hb1 hs1 hbl1
 have HB1 := lhd hb1
 have HS1 := lhd hs1
 have HBL1 := lhd hbl1
 clear hb1 hs1 hbl1
 go_wp2_with (refine wpList_alloc_blk rfl 196 rfl _ z34 ?_)
 intro w2 hb2 hs2 hbl2
 have hg1 : w1.heap.size = w.heap.size + 1 := HS1.out
 rw [hg1] at hb2 hs2 hbl2
 have HB2 := lhd hb2
 have HS2 := lhd hs2
 have HBL2 := lhd hbl2
 clear hb2 hs2 hbl2 
 rw [hg1]
 clear hg1
 go_wp2
 go_loopw [6] (fun i wr => ∃ k : Nat, k ≤ 16 ∧ i = .int .i64 k ∧ Hid (Blk wr w.heap.size z64 196) ∧ Hid (Blk wr (w.heap.size + 1) (rowk b k) 196) ∧ Hid (Below w.heap.size w wr)) (fun i _ => 16 - (intOf i).toNat)
 case atStart => exact ⟨0, by omega, rfl, HB1.out.below HBL2.out (by omega), HB2.out, HBL1.out.trans (HBL2.out.mono (by omega))⟩
 case round =>
  obtain ⟨k, hk, rfl, G0, G1, GB⟩ := hrel
  by_cases hk2 : k < 16
  ·have hcl : ∀ j, j < 64 → wr.cell? (a.add j) = some (.int .u8 ((b.getD j 0).toNat : Int)) := fun j hj => by
    have hlb : j < b.length := by rw [HL.out]; exact hj
    rw [GB.out.cell (by rw [addr_block]; exact hlt'), HC.out j hlb]
    simp [hlb]
   obtain ⟨j0, e0⟩ : ∃ j : Nat, 4 * k = j := ⟨_, rfl⟩
   obtain ⟨j1, e1⟩ : ∃ j : Nat, 4 * k + 1 = j := ⟨_, rfl⟩
   obtain ⟨j2, e2⟩ : ∃ j : Nat, 4 * k + 2 = j := ⟨_, rfl⟩
   obtain ⟨j3, e3⟩ : ∃ j : Nat, 4 * k + 3 = j := ⟨_, rfl⟩
   have hx : wd b k = (b.getD j0 0).toNat * 16777216 ||| (b.getD j1 0).toNat * 65536 ||| (b.getD j2 0).toNat * 256 ||| (b.getD j3 0).toNat := by subst e0 e1 e2 e3; rfl
   have q0 : IntKind.i64.wrap (4 * (k : Int)) = (j0 : Int) := by rw [IntWalk.i64_in _ (by omega)]; omega
   have q1 : IntKind.i64.wrap ((j0 : Int) + 1) = (j1 : Int) := by rw [IntWalk.i64_in _ (by omega)]; omega
   have q2 : IntKind.i64.wrap ((j0 : Int) + 2) = (j2 : Int) := by rw [IntWalk.i64_in _ (by omega)]; omega
   have q3 : IntKind.i64.wrap ((j0 : Int) + 3) = (j3 : Int) := by rw [IntWalk.i64_in _ (by omega)]; omega
   have l0 : j0 < 64 := by omega
   have l1 : j1 < 64 := by omega
   have l2 : j2 < 64 := by omega
   have l3 : j3 < 64 := by omega
   have z0 : (j0 : Int) < 64 := by omega
   have c0 := hcl j0 l0
   have z1 : (j1 : Int) < 64 := by omega
   have c1 := hcl j1 l1
   have z2 : (j2 : Int) < 64 := by omega
   have c2 := hcl j2 l2
   have z3 : (j3 : Int) < 64 := by omega
   have c3 := hcl j3 l3
   generalize hB0 : (b.getD j0 0).toNat = B0 at c0 hx
   generalize hB1 : (b.getD j1 0).toNat = B1 at c1 hx
   generalize hB2 : (b.getD j2 0).toNat = B2 at c2 hx
   generalize hB3 : (b.getD j3 0).toNat = B3 at c3 hx
   have y0 : B0 < 256 := by rw [← hB0]; exact UInt8.toNat_lt _
   have y1 : B1 < 256 := by rw [← hB1]; exact UInt8.toNat_lt _
   have y2 : B2 < 256 := by rw [← hB2]; exact UInt8.toNat_lt _
   have y3 : B3 < 256 := by rw [← hB3]; exact UInt8.toNat_lt _
   have hwd := wd_int B0 B1 B2 B3 y0 y1 y2 y3
   rw [← hx] at hwd
   have zk : (k : Int) < 64 := by omega
   have hcs := G1.out.cell k
   obtain ⟨vk, hvk⟩ := rowk_some b k k (by omega) (by omega)
   rw [hvk] at hcs
   have hfs := G1.out.frozen k
   clear hcl e0 e1 e2 e3 hx hB0 hB1 hB2 hB3 hvk
   go_wp2
   go_still_tail 35, (by kernel_rfl)
   go_wp2
   go_roundw
   case rel =>
    refine ⟨k + 1, by omega, by go_num, (G0.out.setOther _ _ (by simp)).drew, ?_, (GB.out.setCell (by simp) _).drew⟩
    have h := (G1.out.set k (.int .u32 ((wd b k : Nat) : Int))).drew
    rw [← rowk_set b k (by omega), if_pos hk2]
    exact h
   case measure => simp [intOf]; omega
  ·obtain rfl : k = 16 := by omega
   clear hk hk2 HB1 HS1 HBL1 HB2 HS2 HBL2
   rw [show ((16 : Nat) : Int) = 16 from rfl]
   go_wp2
   go_loopw [5] (fun i wr => ∃ k : Nat, 16 ≤ k ∧ k ≤ 64 ∧ i = .int .i64 k ∧ Hid (Blk wr w.heap.size z64 196) ∧ Hid (Blk wr (w.heap.size + 1) (rowk b k) 196) ∧ Hid (Below w.heap.size w wr)) (fun i _ => 64 - (intOf i).toNat)
   case atStart => exact ⟨16, by omega, by omega, rfl, G0, G1, GB⟩
   case round =>
    clear G0 G1 GB
    obtain ⟨k, hk1, hk, rfl, G0, G1, GB⟩ := hrel
    by_cases hk2 : k < 64
    ·obtain ⟨j2, e2⟩ : ∃ j : Nat, k - 2 = j := ⟨_, rfl⟩
     obtain ⟨j7, e7⟩ : ∃ j : Nat, k - 7 = j := ⟨_, rfl⟩
     obtain ⟨j15, e15⟩ : ∃ j : Nat, k - 15 = j := ⟨_, rfl⟩
     obtain ⟨j16, e16⟩ : ∃ j : Nat, k - 16 = j := ⟨_, rfl⟩
     have q2 : IntKind.i64.wrap ((k : Int) - 2) = (j2 : Int) := by rw [IntWalk.i64_in _ (by omega)]; omega
     have q7 : IntKind.i64.wrap ((k : Int) - 7) = (j7 : Int) := by rw [IntWalk.i64_in _ (by omega)]; omega
     have q15 : IntKind.i64.wrap ((k : Int) - 15) = (j15 : Int) := by rw [IntWalk.i64_in _ (by omega)]; omega
     have q16 : IntKind.i64.wrap ((k : Int) - 16) = (j16 : Int) := by rw [IntWalk.i64_in _ (by omega)]; omega
     have c2 := (G1.out.cell j2).trans (rowk_at b k j2 (by omega))
     have c7 := (G1.out.cell j7).trans (rowk_at b k j7 (by omega))
     have c15 := (G1.out.cell j15).trans (rowk_at b k j15 (by omega))
     have c16 := (G1.out.cell j16).trans (rowk_at b k j16 (by omega))
     have w2 := (sch_lt b k).at j2
     have w15 := (sch_lt b k).at j15
     have hnx : nx (sch b k) k = ad (ad (ad (sm1 ((sch b k).getD j2 0)) ((sch b k).getD j7 0)) (sm0 ((sch b k).getD j15 0))) ((sch b k).getD j16 0) := by subst e2 e7 e15 e16; rfl
     generalize (sch b k).getD j2 0 = B2 at c2 w2 hnx
     generalize (sch b k).getD j7 0 = B7 at c7 hnx
     generalize (sch b k).getD j15 0 = B15 at c15 w15 hnx
     generalize (sch b k).getD j16 0 = B16 at c16 hnx
     have z2 : (j2 : Int) < 64 := by omega
     have z7 : (j7 : Int) < 64 := by omega
     have z15 : (j15 : Int) < 64 := by omega
     have z16 : (j16 : Int) < 64 := by omega
     have zk : (k : Int) < 64 := by omega
     have hcs := G1.out.cell k
     obtain ⟨vk, hvk⟩ := rowk_some b k k (by omega) (by omega)
     rw [hvk] at hcs
     have hfs := G1.out.frozen k
     have HNX := lhd hnx
     clear e2 e7 e15 e16 hvk hnx
     go_wp2
     refine wp_region_still_tail 23 (by kernel_rfl) (by kernel_rfl) ?_
     simp only [List.take_succ_cons, List.take_zero, List.drop_succ_cons, List.drop_zero]
     repeat (first | still_step | still_call ((smallS1_any B2 _ w2).mono (by rintro e w' ⟨rfl, rfl⟩; exact ⟨rfl, rfl⟩)) | still_call ((smallS0_any B15 _ w15).mono (by rintro e w' ⟨rfl, rfl⟩; exact ⟨rfl, rfl⟩)))
     refine wpStill_nil ?_
     go_wp2
     go_roundw
     case rel =>
      refine ⟨k + 1, by omega, by omega, by go_num, (G0.out.setOther _ _ (by simp)).drew, ?_, (GB.out.setCell (by simp) _).drew⟩
      have h := (G1.out.set k (.int .u32 ((nx (sch b k) k : Nat) : Int))).drew
      have hr := rowk_set b k hk2
      rw [if_neg (by omega)] at hr
      rw [hr, HNX.out, ← ad4_int] at h
      exact h
     case measure => simp [intOf]; omega
    ·obtain rfl : k = 64 := by omega
     rw [show ((64 : Nat) : Int) = 64 from rfl]
     have h34 : (Tryz.prog.info? 196).map (·.size) = some (rowk b 64).length := by rw [rowk_length b 64 (by omega)]; exact s34
     go_wp2_with (first | (refine wpList_load_blk rfl 196 _ rfl (w.heap.size + 1) rfl (rowk b 64) 196 G1.out 64 145 tu34 h34 ?_) | (refine wpList_store_blk rfl 196 _ _ rfl w.heap.size (rowk b 64) z64 196 rfl rfl G0.out h34 (by rw [rowk_length b 64 (by omega), z64_length]) (ws_one _) ?_))
     refine bodyPost_ret (v := .agg (ws (sch b 64)).toArray) ?_ rfl ?_
     ·rw [← rowk_full]; exact ret_blk rfl _ _ w.heap.size 196 (rowk b 64) rfl G0.out.setRow 64 145 tu34 h34
     ·exact ⟨rfl, below_setRow' GB.out (Nat.le_refl _) _⟩
theorem ws_cell (l : List Nat) (j : Nat) (h : j < l.length) : (ws l)[j]? = some (.int .u32 ((l.getD j 0 : Nat) : Int)) := by rw [ws_at l j h]; simp [h]
theorem process_any (s W K : List Nat) (w : World) (hs : s.length = 8) (hW : W.length = 64) (hK : K.length = 64) (hs32 : W32 s) : Calls Tryz.prog 117 #[.agg (ws s).toArray, .agg (ws W).toArray, .agg (ws K).toArray] w (Arr (ws (proc s W K)) w) := by
 have HS := lhd hs
 have HW := lhd hW
 have HK := lhd hK
 clear hs hW hK
 go_enter Tryz.func117, Tryz.ntmps117
 go_wp2_with (refine wpList_box_blk rfl 146 _ rfl (ws s) rfl ?_)
 intro w1 a1 a2 a3
 have A1 := lhd a1
 have A2 := lhd a2
 have A3 := lhd a3
 clear a1 a2 a3
 go_wp2_with (refine wpList_box_blk rfl 196 _ rfl (ws W) rfl ?_)
 intro w2 a1 a2 a3
 rw [A2.out] at a1 a2 a3 ⊢
 have B1 := lhd a1
 have B2 := lhd a2
 have B3 := lhd a3
 clear a1 a2 a3
 go_wp2_with (refine wpList_box_blk rfl 196 _ rfl (ws K) rfl ?_)
 intro w3 a1 a2 a3
 rw [B2.out] at a1 a2 a3 ⊢
 have C1 := lhd a1
 have C2 := lhd a2
 have C3 := lhd a3
 clear a1 a2 a3
 go_wp2_with (refine wpList_alloc_blk rfl 146 rfl _ z33 ?_)
 intro w4 a1 a2 a3
 rw [C2.out] at a1 a2 a3 ⊢
 obtain ⟨g, hg⟩ : ∃ g, w.heap.size = g := ⟨_, rfl⟩
 simp only [Nat.add_assoc, Nat.reduceAdd] at a1 a2 a3 ⊢
 have G0 : Hid (Blk w4 w.heap.size (ws s) 146) := ((A1.out.below B3.out (by omega)).below C3.out (by omega)).below a3 (by omega)
 have G1 : Hid (Blk w4 (w.heap.size + 1) (ws W) 196) := (B1.out.below C3.out (by omega)).below a3 (by omega)
 have G2 : Hid (Blk w4 (w.heap.size + 2) (ws K) 196) := Blk.below C1.out a3 (by omega)
 have G3 : Hid (Blk w4 (w.heap.size + 3) z8 146) := a1
 have GB : Hid (Below w.heap.size w w4) := ((A3.out.trans (B3.out.mono (by omega))).trans (C3.out.mono (by omega))).trans (a3.mono (by omega))
 clear a1 a2 a3 A1 A2 A3 B1 B2 B3 C1 C2 C3 hg
 clear g
 have hc : ∀ j, j < 8 → w4.cell? ⟨w.heap.size, j, none⟩ = some (.int .u32 ((s.getD j 0 : Nat) : Int)) := fun j hj => by
  rw [G0.out.cell, ws_cell s j (by rw [HS.out]; exact hj)]
 have c0 := hc 0 (by omega)
 have c1 := hc 1 (by omega)
 have c2 := hc 2 (by omega)
 have c3 := hc 3 (by omega)
 have c4 := hc 4 (by omega)
 have c5 := hc 5 (by omega)
 have c6 := hc 6 (by omega)
 have c7 := hc 7 (by omega)
 clear hc
 go_wp2
 go_still (by kernel_rfl)
 go_wp2
 generalize hw5 : ({ heap := w4.heap, tape := w4.tape, drawn := w4.drawn + 1, os := w4.os, output := w4.output } : World) = w5
 have d4 : w5.cell? ⟨w.heap.size, 4, none⟩ = some (.int .u32 ((s.getD 4 0 : Nat) : Int)) := by rw [← hw5]; exact c4
 have d5 : w5.cell? ⟨w.heap.size, 5, none⟩ = some (.int .u32 ((s.getD 5 0 : Nat) : Int)) := by rw [← hw5]; exact c5
 have d6 : w5.cell? ⟨w.heap.size, 6, none⟩ = some (.int .u32 ((s.getD 6 0 : Nat) : Int)) := by rw [← hw5]; exact c6
 have d7 : w5.cell? ⟨w.heap.size, 7, none⟩ = some (.int .u32 ((s.getD 7 0 : Nat) : Int)) := by rw [← hw5]; exact c7
 have K0 : Hid (Blk w5 w.heap.size (ws s) 146) := by rw [← hw5]; exact G0
 have K1 : Hid (Blk w5 (w.heap.size + 1) (ws W) 196) := by rw [← hw5]; exact G1
 have K2 : Hid (Blk w5 (w.heap.size + 2) (ws K) 196) := by rw [← hw5]; exact G2
 have K3 : Hid (Blk w5 (w.heap.size + 3) z8 146) := by rw [← hw5]; exact G3
 have KB : Hid (Below w.heap.size w w5) := by rw [← hw5]; exact GB.out.drew
 clear c0 c1 c2 c3 c4 c5 c6 c7 G0 G1 G2 G3 GB hw5
 go_still (by kernel_rfl)
 go_wp2
 generalize hw6 : ({ heap := w5.heap, tape := w5.tape, drawn := w5.drawn + 1, os := w5.os, output := w5.output } : World) = w6
 have J0 : Hid (Blk w6 w.heap.size (ws s) 146) := by rw [← hw6]; exact K0
 have J1 : Hid (Blk w6 (w.heap.size + 1) (ws W) 196) := by rw [← hw6]; exact K1
 have J2 : Hid (Blk w6 (w.heap.size + 2) (ws K) 196) := by rw [← hw6]; exact K2
 have J3 : Hid (Blk w6 (w.heap.size + 3) z8 146) := by rw [← hw6]; exact K3
 have JB : Hid (Below w.heap.size w w6) := by rw [← hw6]; exact KB.out.drew
 clear d4 d5 d6 d7 K0 K1 K2 K3 KB hw6
 go_loopw [7, 8, 9, 10, 11, 12, 13, 14, 34] (fun xa xb xc xd xe xf xg xh i wr => ∃ t : Nat, t ≤ 64 ∧ i = .int .i64 t ∧ ∃ q : St, Hid (q = rnds (St.of s) K W t) ∧ xa = .int .u32 (q.a : Int) ∧ xb = .int .u32 (q.b : Int) ∧ xc = .int .u32 (q.c : Int) ∧ xd = .int .u32 (q.d : Int) ∧ xe = .int .u32 (q.e : Int) ∧ xf = .int .u32 (q.f : Int) ∧ xg = .int .u32 (q.g : Int) ∧ xh = .int .u32 (q.h : Int) ∧
  Hid (Blk wr w.heap.size (ws s) 146) ∧ Hid (Blk wr (w.heap.size + 1) (ws W) 196) ∧ Hid (Blk wr (w.heap.size + 2) (ws K) 196) ∧ Hid (Blk wr (w.heap.size + 3) z8 146) ∧ Hid (Below w.heap.size w wr)) (fun _ _ _ _ _ _ _ _ i _ => 64 - (intOf i).toNat)
 case atStart => exact ⟨0, by omega, rfl, St.of s, rfl, rfl, rfl, rfl, rfl, rfl, rfl, rfl, rfl, J0, J1, J2, J3, JB⟩
 case round =>
  clear J0 J1 J2 J3 JB
  obtain ⟨t, ht, rfl, q, hq, rfl, rfl, rfl, rfl, rfl, rfl, rfl, rfl, G0, G1, G2, G3, GB⟩ := hrel
  have hok : q.ok := by rw [hq.out]; exact rnds_ok _ _ _ (St.of_ok hs32) t
  obtain ⟨o1, o2, o3, o4, o5, o6, o7, o8⟩ := hok
  by_cases ht2 : t < 64
  ·have zt : (t : Int) < 64 := by omega
   have cK := (G2.out.cell t).trans (ws_cell K t (by rw [HK.out]; exact ht2))
   have cW := (G1.out.cell t).trans (ws_cell W t (by rw [HW.out]; exact ht2))
   obtain ⟨kt, hkt⟩ : ∃ x, K.getD t 0 = x := ⟨_, rfl⟩
   obtain ⟨wt, hwt⟩ : ∃ x, W.getD t 0 = x := ⟨_, rfl⟩
   rw [hkt] at cK
   rw [hwt] at cW
   have HQ : Hid (rnds (St.of s) K W (t + 1) = rnd q kt wt) := by subst hkt hwt; rw [hq.out]; rfl
   clear hkt hwt hq
   obtain ⟨T, hT⟩ : ∃ x, t1 q kt wt = x := ⟨_, rfl⟩
   have eT : IntKind.u32.wrap (IntKind.u32.wrap (IntKind.u32.wrap (IntKind.u32.wrap ((q.h : Int) + (bg1 q.e : Int)) + (chs q.e q.f q.g : Int)) + (kt : Int)) + (wt : Int)) = (T : Int) := by
    rw [ad_int, ad_int, ad_int, ad_int, ← hT]; rfl
   have HT := lhd hT
   clear hT
   go_wp2
   refine wp_region_still_lit (by kernel_rfl) (by kernel_rfl) ?_
   repeat (first | still_step | still_call ((bigS1_any q.e _ o5).mono (by rintro e w' ⟨rfl, rfl⟩; exact ⟨rfl, rfl⟩)) | still_call ((choose_any q.e q.f q.g _ o5 o6 o7).mono (by rintro e w' ⟨rfl, rfl⟩; exact ⟨rfl, rfl⟩)))
   refine wpStill_nil ?_
   clear eT
   go_wp2_with fail
   refine (bigS0_any q.a _ o1).mono ?_
   rintro e w' ⟨rfl, rfl⟩
   go_wp2_with fail
   refine (majority_any q.a q.b q.c _ o1 o2 o3).mono ?_
   rintro e w' ⟨rfl, rfl⟩
   go_wp2
   go_roundw
   case rel =>
    refine ⟨t + 1, by omega, by go_num, rnd q kt wt, HQ.out.symm, ?_, rfl, rfl, rfl, ?_, rfl, rfl, rfl, G0, G1, G2, G3, GB.out.drew⟩
    ·have hT := HT.out
     show Value.int .u32 _ = .int .u32 ((ad (t1 q kt wt) (ad (bg0 q.a) (mjr q.a q.b q.c)) : Nat) : Int)
     rw [hT, ad_int' (bg0 q.a), ad_int']
    ·have hT := HT.out
     show Value.int .u32 _ = .int .u32 ((ad q.d (t1 q kt wt) : Nat) : Int)
     rw [hT, ad_int']
   case measure => simp [intOf]; omega
  ·obtain rfl : t = 64 := by omega
   rw [show ((64 : Nat) : Int) = 64 from rfl]
   have hq := hq.out
   have HP : Hid (proc s W K = fin (St.of s) q) := by rw [hq]; rfl
   have hc : ∀ j, j < 8 → wr.cell? ⟨w.heap.size, j, none⟩ = some (.int .u32 ((s.getD j 0 : Nat) : Int)) := fun j hj => by
    rw [G0.out.cell, ws_cell s j (by rw [HS.out]; exact hj)]
   have c0 := hc 0 (by omega)
   have c1 := hc 1 (by omega)
   have c2 := hc 2 (by omega)
   have c3 := hc 3 (by omega)
   have c4 := hc 4 (by omega)
   have c5 := hc 5 (by omega)
   have c6 := hc 6 (by omega)
   have c7 := hc 7 (by omega)
   have HF : Hid (fin (St.of s) q = [ad (s.getD 0 0) q.a, ad (s.getD 1 0) q.b, ad (s.getD 2 0) q.c, ad (s.getD 3 0) q.d, ad (s.getD 4 0) q.e, ad (s.getD 5 0) q.f, ad (s.getD 6 0) q.g, ad (s.getD 7 0) q.h]) := rfl
   generalize s.getD 0 0 = s0 at c0 HF
   generalize s.getD 1 0 = s1 at c1 HF
   generalize s.getD 2 0 = s2 at c2 HF
   generalize s.getD 3 0 = s3 at c3 HF
   generalize s.getD 4 0 = s4 at c4 HF
   generalize s.getD 5 0 = s5 at c5 HF
   generalize s.getD 6 0 = s6 at c6 HF
   generalize s.getD 7 0 = s7 at c7 HF
   clear hc hq
   have HV : Hid (ws (proc s W K) = [.int .u32 (((s0 : Int) + q.a) % 4294967296), .int .u32 (((s1 : Int) + q.b) % 4294967296), .int .u32 (((s2 : Int) + q.c) % 4294967296), .int .u32 (((s3 : Int) + q.d) % 4294967296), .int .u32 (((s4 : Int) + q.e) % 4294967296), .int .u32 (((s5 : Int) + q.f) % 4294967296), .int .u32 (((s6 : Int) + q.g) % 4294967296), .int .u32 (((s7 : Int) + q.h) % 4294967296)]) := by
    show ws (proc s W K) = _
    rw [HP.out, HF.out]
    simp only [ad_int']
    rfl
   go_wp2_with (refine wpList_store_blk rfl 146 _ _ rfl (w.heap.size + 3) [.int .u32 (((s0 : Int) + q.a) % 4294967296), .int .u32 (((s1 : Int) + q.b) % 4294967296), .int .u32 (((s2 : Int) + q.c) % 4294967296), .int .u32 (((s3 : Int) + q.d) % 4294967296), .int .u32 (((s4 : Int) + q.e) % 4294967296), .int .u32 (((s5 : Int) + q.f) % 4294967296), .int .u32 (((s6 : Int) + q.g) % 4294967296), .int .u32 (((s7 : Int) + q.h) % 4294967296)] z8 146 rfl rfl G3.out s33 z8_length (by rw [← HV.out]; exact ws_one _) ?_)
   refine bodyPost_ret (v := .agg (ws (proc s W K)).toArray) ?_ rfl ?_
   ·rw [HV.out]
    exact ret_blk rfl _ _ (w.heap.size + 3) 146 _ rfl G3.out.setRow 8 145 tu33 s33
   ·exact ⟨rfl, below_setRow' GB.out (by omega) _⟩
def jrow (l : List UInt8) : List Value := bys (l ++ List.replicate (32 - l.length) 0)
theorem jrow_length (l : List UInt8) (h : l.length ≤ 32) : (jrow l).length = 32 := by simp [jrow, bys_length]; omega
theorem jrow_full (l : List UInt8) (h : l.length = 32) : jrow l = bys l := by simp [jrow, h]
theorem jrow_set (l : List UInt8) (b : UInt8) (h : l.length < 32) : (jrow l).set l.length (.int .u8 (b.toNat : Int)) = jrow (l ++ [b]) := by
 obtain ⟨m, hm⟩ : ∃ m, 32 - l.length = m + 1 := ⟨31 - l.length, by omega⟩
 have hm' : 32 - (l ++ [b]).length = m := by simp; omega
 have hl : (bys l).length = l.length := bys_length l
 unfold jrow
 rw [hm, hm', bys_append, bys_append, bys_append, List.set_append, if_neg (by omega), hl, Nat.sub_self, List.append_assoc]
 rfl
theorem joinl_snoc (s : List Nat) (x : Nat) : joinl (s ++ [x]) = joinl s ++ be 4 x := by simp [joinl]
theorem take_snoc' (s : List Nat) (k : Nat) (h : k < s.length) : s.take (k + 1) = s.take k ++ [s.getD k 0] := by
 rw [List.take_succ_eq_append_getElem h]; simp [h]
theorem run_index {P : Program} (t e : TypeId) (n : Nat) (kk : IntKind) (hu : P.underlying t = some (.array n e)) (hsz : (P.info? e).map (·.size) = some 1) (he : P.underlying e = some (.int kk)) (cs : List Value) (k : Nat) (hk : k < n) (v : Value) (hv : cs[k]? = some v) (w : World) :
 (Instr.index t (.agg cs.toArray) (.int .i64 (k : Int))).run P w = .ok v w := by
 have hk1 : (0 : Int) ≤ (k : Int) ∧ (k : Int) < (n : Int) := by omega
 have hsz' : (sizeOf e).run P w = .ok 1 w := by
  cases hq : P.info? e with
  | none => simp [hq] at hsz
  | some i => simp [hq] at hsz; simp [sizeOf, typeInfo, hq, hsz]
 have hagg : (isAgg e).run P w = .ok false w := by
  unfold isAgg
  rw [Sem.run_bind, run_underlying he w]
  rfl
 unfold Instr.index
 simp only [asIntOf, Sem.run_bind, Sem.run_pure, Result.andThen_ok, run_underlying hu w]
 simp [hk1, hsz', part, hagg, hv, Result.andThen, Sem.run_bind]
theorem be4_snoc (x j : Nat) (hj : j < 4) : (be 4 x).take (j + 1) = (be 4 x).take j ++ [UInt8.ofNat (x / 256 ^ (3 - j))] := by
 have h := be_take 4 (3 - j) x (by omega)
 rw [show 4 - (3 - j) = j + 1 by omega, show 4 - (3 - j + 1) = j by omega] at h
 exact h
theorem be4_int (x j : Nat) (hj : j < 4) : (x : Int) / 2 ^ (24 - 8 * j) % 256 = ((UInt8.ofNat (x / 256 ^ (3 - j))).toNat : Int) := by
 have h := byte_shift (x : Int) (3 - j) (by omega)
 rw [show 8 * (3 - j) = 24 - 8 * j by omega] at h
 simpa using h
theorem jrow_next (l : List UInt8) (x j n : Nat) (hj : j < 4) (hn : l.length + j = n) (h : n < 32) : (jrow (l ++ (be 4 x).take j)).set n (.int .u8 ((x : Int) / 2 ^ (24 - 8 * j) % 256)) = jrow (l ++ (be 4 x).take (j + 1)) := by
 have hl : (l ++ (be 4 x).take j).length = n := by rw [List.length_append, List.length_take, be_length]; omega
 rw [be4_int x j hj, be4_snoc x j hj, ← List.append_assoc, ← jrow_set _ _ (by omega), hl]
theorem tu27 : Tryz.prog.underlying 145 = some (.int .u32) := by kernel_rfl
theorem join_any (s : List Nat) (w : World) (hs : s.length = 8) (hs32 : W32 s) : Calls Tryz.prog 120 #[.agg (ws s).toArray] w (Arr (bys (joinl s)) w) := by
 have HS := lhd hs
 clear hs
 go_enter Tryz.func120, Tryz.ntmps120
 go_wp2_with (refine wpList_box_blk rfl 146 _ rfl (ws s) rfl ?_)
 intro w1 a1 a2 a3
 have A1 := lhd a1
 have A2 := lhd a2
 have A3 := lhd a3
 clear a1 a2 a3
 go_wp2_with (refine wpList_alloc_blk rfl 36 rfl _ z24 ?_)
 intro w2 a1 a2 a3
 rw [A2.out] at a1 a2 a3 ⊢
 have B1 := lhd a1
 have B2 := lhd a2
 have B3 := lhd a3
 clear a1 a2 a3
 go_wp2_with (refine wpList_alloc_blk rfl 36 rfl _ z24 ?_)
 intro w3 a1 a2 a3
 rw [B2.out] at a1 a2 a3 ⊢
 simp only [Nat.add_assoc, Nat.reduceAdd] at a1 a2 a3 ⊢
 have G0 : Hid (Blk w3 w.heap.size (ws s) 146) := (A1.out.below B3.out (by omega)).below a3 (by omega)
 have G1 : Hid (Blk w3 (w.heap.size + 1) z32 36) := B1.out.below a3 (by omega)
 have G2 : Hid (Blk w3 (w.heap.size + 2) z32 36) := a1
 have GB : Hid (Below w.heap.size w w3) := (A3.out.trans (B3.out.mono (by omega))).trans (a3.mono (by omega))
 clear a1 a2 a3 A1 A2 A3 B1 B2 B3
 have h33 : (Tryz.prog.info? 146).map (·.size) = some (ws s).length := by rw [ws_length, HS.out]; exact s33
 go_wp2_with (refine wpList_load_blk rfl 146 _ rfl w.heap.size rfl (ws s) 146 G0.out 8 145 tu33 h33 ?_)
 clear h33
 go_loopw [8] (fun i wr => ∃ k : Nat, k ≤ 8 ∧ i = .int .i64 k ∧ Hid (Blk wr (w.heap.size + 1) z32 36) ∧ Hid (Blk wr (w.heap.size + 2) (jrow (joinl (s.take k))) 36) ∧ Hid (Below w.heap.size w wr)) (fun i _ => 8 - (intOf i).toNat)
 case atStart => exact ⟨0, by omega, rfl, G1, G2, GB⟩
 case round =>
  clear G0 G1 G2 GB
  obtain ⟨k, hk, rfl, G1, G2, GB⟩ := hrel
  by_cases hk2 : k < 8
  ·have hsk := ws_cell s k (by rw [HS.out]; exact hk2)
   have hlt := hs32.at k
   have HT : Hid (s.take (k + 1) = s.take k ++ [s.getD k 0]) := take_snoc' s k (by rw [HS.out]; exact hk2)
   have HL : Hid ((joinl (s.take k)).length = 4 * k) := by show _ = _; rw [joinl_length, List.length_take, HS.out]; omega
   generalize s.getD k 0 = x at hsk hlt HT
   have hix := run_index (P := Tryz.prog) 146 145 8 .u32 tu33 s27 tu27 (ws s) k hk2 _ hsk wr
   have zk : (k : Int) < 8 := by omega
   clear hsk
   go_wp2
   clear hix
   go_loopw [12] (fun i wr => ∃ j : Nat, j ≤ 4 ∧ i = .int .i64 j ∧ Hid (Blk wr (w.heap.size + 1) z32 36) ∧ Hid (Blk wr (w.heap.size + 2) (jrow (joinl (s.take k) ++ (be 4 x).take j)) 36) ∧ Hid (Below w.heap.size w wr)) (fun i _ => 4 - (intOf i).toNat)
   case atStart => exact ⟨0, by omega, rfl, G1, by simpa [Hid] using G2.out, GB⟩
   case round =>
    clear G1 G2 GB
    obtain ⟨j, hj, rfl, G1, G2, GB⟩ := hrel
    by_cases hj2 : j < 4
    ·have zj : (j : Int) < 4 := by omega
     have hjl : (joinl (s.take k) ++ (be 4 x).take j).length ≤ 32 := by rw [List.length_append, HL.out, List.length_take, be_length]; omega
     have hcs : ∃ v, wr.cell? ⟨w.heap.size + 2, 4 * k + j, none⟩ = some v := by
      rw [G2.out.cell]
      exact ⟨_, List.getElem?_eq_getElem (by rw [jrow_length _ hjl]; omega)⟩
     obtain ⟨v, hcs⟩ := hcs
     have hfs := G2.out.frozen (4 * k + j)
     clear hjl
     go_wp2
     go_roundw
     case rel =>
      refine ⟨j + 1, by omega, by go_num, G1.out.setOther _ _ (by simp), ?_, GB.out.setCell (by simp) _⟩
      have h := G2.out.set (4 * k + j) (.int .u8 ((x : Int) / 2 ^ (24 - 8 * j) % 256))
      rw [jrow_next _ x j (4 * k + j) hj2 (by rw [HL.out]) (by omega)] at h
      exact h
     case measure => simp [intOf]; omega
    ·obtain rfl : j = 4 := by omega
     rw [show ((4 : Nat) : Int) = 4 from rfl]
     go_wp2
     go_roundw
     case rel =>
      refine ⟨k + 1, by omega, by go_num, G1, ?_, GB⟩
      have h := G2.out
      rw [show (be 4 x).take 4 = be 4 x from List.take_of_length_le (by rw [be_length]; omega), ← joinl_snoc, ← HT.out] at h
      exact h
     case measure => simp [intOf]; omega
  ·obtain rfl : k = 8 := by omega
   rw [show ((8 : Nat) : Int) = 8 from rfl]
   have hj : jrow (joinl (s.take 8)) = bys (joinl s) := by
    rw [List.take_of_length_le (by rw [HS.out]; omega), jrow_full _ (by rw [joinl_length, HS.out])]
   have G2' : Hid (Blk wr (w.heap.size + 2) (bys (joinl s)) 36) := by have h := G2.out; rw [hj] at h; exact h
   have h24 : (Tryz.prog.info? 36).map (·.size) = some (bys (joinl s)).length := by rw [bys_length, joinl_length, HS.out]; exact s24
   have hln : z32.length = (bys (joinl s)).length := by rw [bys_length, joinl_length, HS.out, z32_length]
   have HLN := lhd hln
   have H24 := lhd h24
   clear hj G2 hln h24
   go_wp2_with (first | (refine wpList_load_blk rfl 36 _ rfl (w.heap.size + 2) rfl (bys (joinl s)) 36 G2'.out 32 5 tu24 H24.out ?_) | (refine wpList_store_blk rfl 36 _ _ rfl (w.heap.size + 1) (bys (joinl s)) z32 36 rfl rfl G1.out H24.out HLN.out (bys_one' _) ?_))
   refine bodyPost_ret (v := .agg (bys (joinl s)).toArray) ?_ rfl ?_
   ·exact ret_blk rfl _ _ (w.heap.size + 1) 36 _ rfl G1.out.setRow 32 5 tu24 H24.out
   ·exact ⟨rfl, below_setRow' GB.out (by omega) _⟩
theorem info5 : (Tryz.prog.info? 5).map (fun i => (i.zero, i.size, i.bytes)) = some (some (.int .u8 0), 1, 1) := by kernel_rfl
def Gives (base : Nat) (l : List UInt8) (w : World) (e : Ending) (w' : World) : Prop := ∃ v, e = .returned v ∧ Own 5 w' base v l ∧ Below base w w'
def pr (Z C k : Nat) : List UInt8 := 128 :: (List.replicate (Z + 8 - k) 0 ++ be k C)
theorem pr_length (Z C k : Nat) (h : k ≤ 8) : (pr Z C k).length = 9 + Z := by simp [pr, be_length]; omega
theorem pr_zero (Z C L : Nat) (h : 9 + Z = L) : (bys (List.replicate L 0)).set 0 (.int .u8 128) = bys (pr Z C 0) := by
 subst h
 rw [show 9 + Z = (Z + 8) + 1 by omega]
 simp [pr, be, bys, List.replicate_succ]
theorem pr_set (Z C k : Nat) (h : k < 8) : (bys (pr Z C k)).set (8 + Z - k) (.int .u8 ((C : Int) / 2 ^ (8 * k) % 256)) = bys (pr Z C (k + 1)) := by
 have hb := byte_shift (C : Int) k (by omega)
 rw [Int.toNat_natCast] at hb
 rw [hb]
 obtain ⟨m, hm⟩ : ∃ m, Z + 8 - k = m + 1 := ⟨Z + 7 - k, by omega⟩
 have hm2 : Z + 8 - (k + 1) = m := by omega
 have hl : (bys (List.replicate m 0)).length = m := by simp [bys]
 unfold pr
 rw [hm, hm2, show 8 + Z - k = (m + 1) by omega, List.replicate_succ', List.append_assoc, be]
 show (bys ([128] ++ (List.replicate m 0 ++ ([0] ++ be k C)))).set (m + 1) _ = bys ([128] ++ (List.replicate m 0 ++ ([UInt8.ofNat (C / 256 ^ k)] ++ be k C)))
 simp only [bys_append]
 rw [List.set_append, if_neg (by simp [bys]), show m + 1 - (bys [128]).length = m by simp [bys], List.set_append, if_neg (by omega), hl, Nat.sub_self]
 rfl
theorem pr_full (N : Nat) : pr (zn N) (N * 8 % 18446744073709551616) 8 = padl N := by simp [pr, padl]
theorem pad_any (n : Int) (w : World) (h0 : -9223372036854775808 ≤ n) (h1 : n ≤ 9223372036854775807) : Calls Tryz.prog 119 #[.int .i64 n] w (Gives w.heap.size (padl n.toNat) w) := by
 obtain ⟨i0, hi, hz0, hz1, hz2⟩ := info_parts info5
 obtain ⟨N, hN⟩ : ∃ N : Nat, n.toNat = N := ⟨_, rfl⟩
 have hmax : max n 0 = (N : Int) := by omega
 have hN1 : (N : Int) ≤ 9223372036854775807 := by omega
 rw [hN]
 clear hN h0 h1
 have HI := lhd hi
 have H0 := lhd hz0
 have H1 := lhd hz1
 have H2 := lhd hz2
 clear hi hz0 hz1 hz2
 obtain ⟨F, hF⟩ : ∃ F : Nat, (N % 64 + 9) % 64 = F := ⟨_, rfl⟩
 obtain ⟨Z, hZ⟩ : ∃ Z : Nat, zn N = Z := ⟨_, rfl⟩
 have hZ' : (64 - F) % 64 = Z := by rw [← hZ, ← hF]; rfl
 obtain ⟨L, hL⟩ : ∃ L : Nat, 9 + Z = L := ⟨_, rfl⟩
 have e1 : ((N : Int) % 64 + 1 + 8) % 64 = (F : Int) := by omega
 have e2 : (64 - (F : Int)) % 64 = (Z : Int) := by omega
 have e3 : -(F : Int) % 64 = (Z : Int) := by omega
 have e4 : 1 + (Z : Int) + 8 = (L : Int) := by omega
 have l1 : F < 64 := by omega
 have l2 : Z < 64 := by omega
 have l3 : 9 ≤ L := by omega
 have l4 : L ≤ 72 := by omega
 obtain ⟨C, hC⟩ : ∃ C : Nat, N * 8 % 18446744073709551616 = C := ⟨_, rfl⟩
 have eC : IntKind.u64.wrap ((N : Int) * 8) = (C : Int) := by rw [IntKind.wrap_u64]; omega
 have HP : Hid (pr Z C 8 = padl N) := by show pr Z C 8 = padl N; rw [← hZ, ← hC]; exact pr_full N
 clear hC
 have HL := lhd hL
 clear hF hZ hZ' hL
 go_enter Tryz.func119, Tryz.ntmps119
 go_wp2_with (at_make; refine wpList_make_full _ rfl _ _ 92 rfl w.heap.size 5 i0 (.int .u8 0) 1 Tryz.underlying92 HI.out H0.out H1.out _ _ _ _ L rfl rfl rfl rfl (by rw [H2.out]; omega) (by unfold maxLen; omega) (Nat.le_refl _) ?_)
 intro w1 hown hgrow
 have hb1 : Below w.heap.size w w1 := (Below.refl _ _).grown hgrow (Nat.le_refl _) (fun k hk => by cases hk)
 have HO : Hid (w1.ownsRow w.heap.size 5 1 (.slice (some ⟨w.heap.size, 0, none⟩) L L) L (bys (List.replicate L 0))) := by
  have h := hown
  rw [show (madeCells #[Value.int .u8 0] L).toList = bys (List.replicate L 0) by rw [toList_madeCells_one]; simp [bys]] at h
  exact h
 have HB := lhd hb1
 clear hown hgrow hb1 e1 e2 e3 e4
 have c0 : ∃ v, w1.cell? ⟨w.heap.size, 0, none⟩ = some v := ⟨_, World.ownsRow.cells HO.out rfl 0 (.int .u8 0) (by obtain ⟨m, rfl⟩ : ∃ m, L = m + 1 := ⟨L - 1, by omega⟩; rfl)⟩
 obtain ⟨v0, c0⟩ := c0
 have f0 := World.ownsRow.frozenAt HO.out 0
 go_wp2
 clear eC
 have HO2 : Hid ((w1.setCell ⟨w.heap.size, 0, none⟩ (.int .u8 128)).ownsRow w.heap.size 5 1 (.slice (some ⟨w.heap.size, 0, none⟩) L L) L (bys (pr Z C 0))) := by
  have h := (World.ownsRow.stored HO.out 0 (.int .u8 128)).1
  rw [pr_zero Z C L HL.out] at h
  exact h
 have HB2 : Hid (Below w.heap.size w (w1.setCell ⟨w.heap.size, 0, none⟩ (.int .u8 128))) := HB.out.setCell (by simp) _
 clear c0 f0 HO HB
 go_loopw [27] (fun i wr => ∃ k : Nat, k ≤ 8 ∧ i = .int .i64 k ∧ Hid (wr.ownsRow w.heap.size 5 1 (.slice (some ⟨w.heap.size, 0, none⟩) L L) L (bys (pr Z C k))) ∧ Hid (Below w.heap.size w wr)) (fun i _ => 8 - (intOf i).toNat)
 case atStart => exact ⟨0, by omega, rfl, HO2, HB2⟩
 case round =>
  clear HO2 HB2
  obtain ⟨k, hk, rfl, HO, HB⟩ := hrel
  by_cases hk2 : k < 8
  ·have zk : (k : Int) < 8 := by omega
   obtain ⟨v, c0⟩ : ∃ v, wr.cell? ⟨w.heap.size, L - 1 - k, none⟩ = some v := by
    have hl : (bys (pr Z C k)).length = L := by rw [bys_length, pr_length _ _ _ hk, HL.out]
    have h := World.ownsRow.cells HO.out rfl (L - 1 - k) _ (List.getElem?_eq_getElem (by omega))
    rw [Addr.add_mid, Nat.zero_add] at h
    exact ⟨_, h⟩
   have f0 := World.ownsRow.frozenAt HO.out (L - 1 - k)
   go_wp2
   go_roundw
   case rel =>
    refine ⟨k + 1, by omega, by go_num, ?_, HB.out.setCell (by simp) _⟩
    have h := (World.ownsRow.stored HO.out (L - 1 - k) (.int .u8 ((C : Int) / 2 ^ (8 * k) % 256))).1
    have hl := HL.out
    rw [show (bys (pr Z C k)).set (L - 1 - k) (.int .u8 ((C : Int) / 2 ^ (8 * k) % 256)) = bys (pr Z C (k + 1)) by rw [show L - 1 - k = 8 + Z - k by omega]; exact pr_set Z C k hk2] at h
    exact h
   case measure => simp [intOf]; omega
  ·obtain rfl : k = 8 := by omega
   rw [show ((8 : Nat) : Int) = 8 from rfl]
   go_wp2
   go_ret
   refine ⟨_, rfl, ?_, HB.out⟩
   have h := HO.out
   rw [HP.out] at h
   unfold Own
   rw [show (padl N).length = L by rw [← HP.out, pr_length _ _ _ (by omega)]; exact HL.out]
   exact h
theorem chain_snoc (s : List Nat) (k : Nat) (l : List UInt8) : chain s (k + 1) l = blk (chain s k l) ((l.drop (64 * k)).take 64) := by
 rw [chain_add]; rfl
def Absorbs (s : List Nat) (l : List UInt8) (w : World) (e : Ending) (w' : World) : Prop :=
 ∃ v, e = .returned (.tuple #[.agg (ws (chain s (l.length / 64) l)).toArray, v]) ∧ Rd w.heap.size w v (l.drop (64 * (l.length / 64))) ∧ Below w.heap.size w w'
theorem Rd.head {B : Nat} {w : World} {a : Addr} {n c m : Nat} {l : List UInt8} (h : Rd B w (.slice (some a) n c) l) (hm : m ≤ n) : Rd B w (.slice (some a) m c) (l.take m) := by
 obtain ⟨A, c', hv, hc, hmx, hn, hcell⟩ := h
 injection hv with h1 h2 h3
 subst h1 h2 h3
 have hl : (l.take m).length = m := by rw [List.length_take]; omega
 refine ⟨some a, c, by rw [hl], by omega, hmx, fun h => (by cases h), fun x hx => ?_⟩
 cases hx
 refine ⟨fun h0 => (hcell a rfl).1 (by omega), fun j hj => ?_⟩
 rw [(hcell a rfl).2 j (by omega)]
 simp
theorem absorb_any (s : List Nat) (v : Value) (l : List UInt8) (w : World) (hs : s.length = 8) (hs32 : W32 s) (hr : Rd w.heap.size w v l) : Calls Tryz.prog 79 #[.agg (ws s).toArray, v] w (Absorbs s l w) := by
 have HR := lhd hr
 have HS := lhd hs
 obtain ⟨A, c, rfl, hc, hm, hn, hcell⟩ := hr
 clear hcell hn hs
 unfold maxLen at hm
 go_enter Tryz.func79, Tryz.ntmps79
 go_wp2_with (refine wpList_box_blk rfl 146 _ rfl (ws s) rfl ?_)
 intro w1 a1 a2 a3
 have A1 := lhd a1
 have A2 := lhd a2
 have A3 := lhd a3
 clear a1 a2 a3
 go_wp2_with (refine wpList_alloc_blk rfl 146 rfl _ z33 ?_)
 intro w2 a1 a2 a3
 rw [A2.out] at a1 a2 a3 ⊢
 have B1 := lhd a1
 have B2 := lhd a2
 have B3 := lhd a3
 clear a1 a2 a3
 go_wp2_with fail
 refine (roundConstants_any _).mono ?_
 rintro e w3 ⟨rfl, a3⟩
 have C3 := lhd a3
 clear a3
 have h34 : (Tryz.prog.info? 196).map (·.size) = some (ws kw).length := by rw [ws_length, kw_length]; exact s34
 have H34 := lhd h34
 clear h34
 go_wp2_with (refine wpList_alloc_blk rfl 196 rfl _ z34 ?_)
 intro w4 a1 a2 a3
 obtain ⟨g, hg⟩ : ∃ g, w3.heap.size = g := ⟨_, rfl⟩
 rw [hg] at a1 a2 a3 ⊢
 have hz3 := C3.out.size
 have hB2 := B2.out
 have hA2 := A2.out
 have G0 : Hid (Blk w4 w.heap.size (ws s) 146) := ((A1.out.below B3.out (by omega)).below C3.out (by omega)).below a3 (by omega)
 have G1 : Hid (Blk w4 (w.heap.size + 1) z8 146) := (B1.out.below C3.out (by omega)).below a3 (by omega)
 have GB : Hid (Below w.heap.size w w4) := ((A3.out.trans (B3.out.mono (by omega))).trans (C3.out.mono (by omega))).trans (a3.mono (by omega))
 have hgl : w.heap.size + 2 ≤ g := by omega
 have D1 := lhd a1
 clear a1 a2 a3 hz3 hB2 hA2 A1 A2 A3 B1 B2 B3 C3 hg
 go_wp2_with (refine wpList_store_blk rfl 196 _ _ rfl g (ws kw) _ 196 rfl rfl D1.out H34.out (by rw [ws_length, kw_length, z64_length]) (ws_one _) ?_)
 have K0 : Hid (Blk (w4.setRow g (ws kw).toArray) w.heap.size (ws s) 146) := G0.out.setRowOther (by omega)
 have K1 : Hid (Blk (w4.setRow g (ws kw).toArray) (w.heap.size + 1) z8 146) := G1.out.setRowOther (by omega)
 have K2 : Hid (Blk (w4.setRow g (ws kw).toArray) g (ws kw) 196) := D1.out.setRow
 have KB : Hid (Below w.heap.size w (w4.setRow g (ws kw).toArray)) := below_setRow' GB.out (by omega) _
 clear G0 G1 GB D1
 generalize w4.setRow g (ws kw).toArray = w5 at K0 K1 K2 KB ⊢
 obtain ⟨n, hn⟩ : ∃ n : Nat, l.length / 64 = n := ⟨_, rfl⟩
 have hq : (l.length : Int) / 64 = (n : Int) := by omega
 rw [hq]
 have HN := lhd hn
 have hln : 64 * n ≤ l.length := by omega
 clear hn hq
 go_loopw [1, 11] (fun x i wr => ∃ k : Nat, k ≤ n ∧ i = .int .i64 k ∧ Hid (Rd w.heap.size w x (l.drop (64 * k))) ∧ Hid (Blk wr w.heap.size (ws (chain s k l)) 146) ∧ Hid (Blk wr (w.heap.size + 1) z8 146) ∧ Hid (Blk wr g (ws kw) 196) ∧ Hid (Below w.heap.size w wr)) (fun _ i _ => n - (intOf i).toNat)
 case atStart => exact ⟨0, by omega, rfl, by simpa [Hid] using HR.out, K0, K1, K2, KB⟩
 case round =>
  clear K0 K1 K2 KB
  obtain ⟨k, hk, rfl, XR, G0, G1, G2, GB⟩ := hrel
  by_cases hk2 : k < n
  ·have xr := XR.out
   obtain ⟨A', c', rfl, hc', hm', hn', _⟩ := xr
   have hdl : (l.drop (64 * k)).length = l.length - 64 * k := List.length_drop
   obtain ⟨a, rfl⟩ : ∃ a, A' = some a := by
    cases A' with
    | none => have := hn' rfl; omega
    | some a => exact ⟨a, rfl⟩
   obtain ⟨d, hd⟩ : ∃ d, (l.drop (64 * k)).length = d := ⟨_, rfl⟩
   rw [hd] at hc' XR hdl ⊢
   have hd64 : 64 ≤ d := by omega
   unfold maxLen at hm'
   have HD := lhd hd
   have HDL := lhd hdl
   have hgsz := GB.out.size
   have hglt := G2.out.lt
   clear hd hdl hn'
   go_wp2
   obtain ⟨st, hst⟩ : ∃ st, chain s k l = st := ⟨_, rfl⟩
   have HST := lhd hst
   have h33 : (Tryz.prog.info? 146).map (·.size) = some (ws st).length := by rw [ws_length, ← hst, chain_length s HS.out]; exact s33
   have h8 : st.length = 8 := by rw [← hst, chain_length s HS.out]
   have h32 : W32 st := by rw [← hst]; exact chain_lt s hs32 _ _
   rw [hst] at G0
   have H33 := lhd h33
   have H8 := lhd h8
   have RH : Hid (Rd w.heap.size w (.slice (some a) 64 c') ((l.drop (64 * k)).take 64)) := XR.out.head hd64
   clear hst h33 h8
   have hci : ¬ (c' : Int) < 64 := by omega
   refine wp_region_till 7 6 (fun w' => Below wr.heap.size wr w') (by kernel_rfl) rfl ?_
   have hS : Below wr.heap.size wr wr.drew := (Below.refl _ _).drew
   refine AnyTill.take (i := 0) (v := .agg (ws st).toArray) rfl (by kernel_rfl) (by kernel_rfl) (by kernel_rfl) (by kernel_rfl) (fun _ _ _ h => h) (by rfl) (fun w' hw' => ?_) hS ?_
   ·exact run_load_blk 146 _ rfl w.heap.size rfl (ws st) 146 (G0.out.below hw' (by omega)) 8 145 tu33 H33.out
   simp only [Act.put, List.setIfInBounds_toArray, List.set_cons_zero, List.set_cons_succ]
   refine AnyTill.take (i := 4) (v := .agg (ws kw).toArray) rfl (by kernel_rfl) (by kernel_rfl) (by kernel_rfl) (by kernel_rfl) (fun _ _ _ h => h) (by rfl) (fun w' hw' => ?_) hS ?_
   ·exact run_load_blk 196 _ rfl g rfl (ws kw) 196 (G2.out.below hw' hglt) 64 145 tu34 H34.out
   simp only [Act.put, List.setIfInBounds_toArray, List.set_cons_zero, List.set_cons_succ]
   refine AnyTill.take (i := 1) (v := .slice (some a) d c') rfl (by kernel_rfl) (by kernel_rfl) (by kernel_rfl) (by kernel_rfl) (fun _ _ _ h => h) (by rfl) (fun w' hw' => ?_) hS ?_
   ·(go_simp; try rfl)
   simp only [Act.put, List.setIfInBounds_toArray, List.set_cons_zero, List.set_cons_succ]
   refine AnyTill.take (i := 2) (v := .slice (some a) 64 c') rfl (by kernel_rfl) (by kernel_rfl) (by kernel_rfl) (by kernel_rfl) (fun _ _ _ h => h) (by rfl) (fun w' hw' => ?_) hS ?_
   ·(go_simp; try rfl)
   simp only [Act.put, List.setIfInBounds_toArray, List.set_cons_zero, List.set_cons_succ]
   refine AnyTill.one (i := 3) (by kernel_rfl) rfl (by rfl) (fun K hK => ?_)
   go_simp
   refine (schedule_any _ _ _ ((RH.out.below (GB.out.drew)).more (by simpa using hgsz)) (by rw [List.length_take, HD.out]; omega)).mono ?_
   rintro e w6 ⟨rfl, hb6⟩
   have hS6 : Below wr.heap.size wr w6 := hS.trans hb6
   refine hK.out _ _ (.inr hS6) ?_
   clear hK K
   refine AnyTill.one (i := 5) (by kernel_rfl) rfl (by rfl) (fun K hK => ?_)
   go_simp
   refine (process_any st (sch ((l.drop (64 * k)).take 64) 64) kw _ H8.out (sch_length _ _) kw_length h32).mono ?_
   rintro e w7 ⟨rfl, hb7⟩
   have hS7 : Below wr.heap.size wr w7 := hS6.trans (hb7.mono hS6.size)
   refine hK.out _ _ (.inr hS7) ?_
   clear hK K
   refine AnyTill.one (i := 6) (by kernel_rfl) rfl (by rfl) (fun K hK => ?_)
   refine wp_store_blk 146 _ _ rfl w.heap.size (ws (proc st (sch ((l.drop (64 * k)).take 64) 64) kw)) (ws st) 146 rfl rfl (G0.out.below hS7 (by omega)) (by rw [ws_length, proc_length]; exact s33) (by rw [ws_length, ws_length, proc_length]; exact H8.out) (ws_one _) ?_
   refine hK.out _ _ (.inl (by kernel_rfl)) ?_
   clear hK K
   refine AnyTill.done (by kernel_rfl) ?_
   refine NoPanic.normal ?_
   simp only [Act.put]
   have hchain : proc st (sch ((l.drop (64 * k)).take 64) 64) kw = chain s (k + 1) l := by rw [chain_snoc, HST.out]; rfl
   rw [hchain]
   have J0 : Hid (Blk (w7.setRow w.heap.size (ws (chain s (k + 1) l)).toArray) w.heap.size (ws (chain s (k + 1) l)) 146) := (G0.out.below hS7 (by omega)).setRow
   have J1 : Hid (Blk (w7.setRow w.heap.size (ws (chain s (k + 1) l)).toArray) (w.heap.size + 1) z8 146) := (G1.out.below hS7 (by omega)).setRowOther (by omega)
   have J2 : Hid (Blk (w7.setRow w.heap.size (ws (chain s (k + 1) l)).toArray) g (ws kw) 196) := (G2.out.below hS7 hglt).setRowOther (by omega)
   have JB : Hid (Below w.heap.size w (w7.setRow w.heap.size (ws (chain s (k + 1) l)).toArray)) := below_setRow' (GB.out.trans (hS7.mono hgsz)) (Nat.le_refl _) _
   generalize w7.setRow w.heap.size (ws (chain s (k + 1) l)).toArray = w8 at J0 J1 J2 JB ⊢
   clear hS6 hS7 hb6 hb7 hS hchain G0 G1 G2 GB
   have XD : Hid (Rd w.heap.size w (.slice (if c' = 64 then some a else some (a.add 64)) (d - 64) (c' - 64)) (l.drop (64 * (k + 1)))) := by
    have h := XR.out.drop 64 hd64
    rw [List.drop_drop, show 64 * k + 64 = 64 * (k + 1) by omega] at h
    exact h
   by_cases hc64 : c' = 64
   ·have hd1 : d = 64 := by omega
    subst hc64 hd1
    rw [if_pos rfl] at XD
    go_wp2
    go_roundw
    case rel => exact ⟨k + 1, by omega, by go_num, XD, J0, J1, J2, JB⟩
    case measure => simp [intOf]; omega
   ·rw [if_neg hc64] at XD
    go_wp2
    go_roundw
    case rel => exact ⟨k + 1, by omega, by go_num, XD, J0, J1, J2, JB⟩
    case measure => simp [intOf]; omega
  ·obtain rfl : k = n := by omega
   obtain ⟨A', c', rfl, _⟩ := XR.out.shape
   obtain ⟨st, hst⟩ : ∃ st, chain s k l = st := ⟨_, rfl⟩
   have h8 : st.length = 8 := by rw [← hst, chain_length s HS.out]
   have h33 : (Tryz.prog.info? 146).map (·.size) = some (ws st).length := by rw [ws_length, h8]; exact s33
   have hlz : z8.length = (ws st).length := by rw [ws_length, h8]; rfl
   rw [hst] at G0
   have HST := lhd hst
   have H33 := lhd h33
   have HLZ := lhd hlz
   clear hst h33 hlz h8
   go_wp2_with (first | (refine wpList_load_blk rfl 146 _ rfl w.heap.size rfl (ws st) 146 G0.out 8 145 tu33 H33.out ?_) | (refine wpList_store_blk rfl 146 _ _ rfl (w.heap.size + 1) (ws st) z8 146 rfl rfl G1.out H33.out HLZ.out (ws_one _) ?_))
   have xr := XR.out
   rw [List.length_drop] at xr
   refine bodyPost_ret (v := .tuple #[.agg (ws st).toArray, .slice A' (l.length - 64 * k) c']) ?_ rfl ?_
   ·exact ret_blk2 rfl _ _ (w.heap.size + 1) 146 (ws st) _ rfl rfl G1.out.setRow 8 145 tu33 H33.out
   ·refine ⟨.slice A' (l.length - 64 * k) c', ?_, ?_, below_setRow' GB.out (by omega) _⟩
    ·rw [HN.out, HST.out]
    ·rw [HN.out]; exact xr
theorem finish_any (s : List Nat) (v : Value) (l : List UInt8) (n : Nat) (w : World) (hs : s.length = 8) (hs32 : W32 s) (hr : Rd w.heap.size w v l) (hll : l.length ≤ 64) (hn : n ≤ 9223372036854775807) :
 Calls Tryz.prog 81 #[.agg (ws s).toArray, v, .int .i64 (n : Int)] w (Arr (bys (joinl (chain s ((l.length + (padl n).length) / 64) (l ++ padl n)))) w) := by
 obtain ⟨i0, hi, hz0, hz1, hz2⟩ := info_parts info5
 have HI := lhd hi
 have H0 := lhd hz0
 have H1 := lhd hz1
 have H2 := lhd hz2
 have HS := lhd hs
 have HR := lhd hr
 obtain ⟨A, c, rfl, hc, hm, hnn, hcell⟩ := hr
 clear hi hz0 hz1 hz2 hs hcell
 unfold maxLen at hm
 go_enter Tryz.func81, Tryz.ntmps81
 go_wp2_with (refine wpList_box_blk rfl 146 _ rfl (ws s) rfl ?_)
 intro w1 a1 a2 a3
 have A1 := lhd a1
 have A2 := lhd a2
 have A3 := lhd a3
 clear a1 a2 a3
 go_wp2_with (refine wpList_alloc_blk rfl 36 rfl _ z24 ?_)
 intro w2 a1 a2 a3
 rw [A2.out] at a1 a2 a3 ⊢
 have G0 : Hid (Blk w2 w.heap.size (ws s) 146) := A1.out.below a3 (by omega)
 have G1 : Hid (Blk w2 (w.heap.size + 1) z32 36) := a1
 have GB : Hid (Below w.heap.size w w2) := A3.out.trans (a3.mono (by omega))
 have hs2 : w2.heap.size = w.heap.size + 1 + 1 := a2
 have HS2 := lhd hs2
 clear a1 a2 a3 A1 A2 A3 hs2
 have h33 : (Tryz.prog.info? 146).map (·.size) = some (ws s).length := by rw [ws_length, HS.out]; exact s33
 have H33 := lhd h33
 have RN : Hid (Rd w.heap.size w (.slice A l.length l.length) l) := by
  obtain ⟨A', c', hv, h1, h2, h3, h4⟩ := HR.out
  injection hv with e1 e2 e3
  subst e1 e3
  exact ⟨A, l.length, rfl, Nat.le_refl _, by omega, fun h => by have := h3 h; omega, h4⟩
 have HNN := lhd hnn
 clear h33 hnn
 go_wp2
 refine wp_region_till 10 9 (fun w' => Below w2.heap.size w2 w') (by kernel_rfl) rfl ?_
 have hS : Below w2.heap.size w2 w2.drew := (Below.refl _ _).drew
 have hsz2 := HS2.out
 refine AnyTill.take (i := 0) (v := .agg (ws s).toArray) rfl (by kernel_rfl) (by kernel_rfl) (by kernel_rfl) (by kernel_rfl) (fun _ _ _ h => h) (by rfl) (fun w' hw' => ?_) hS ?_
 ·exact run_load_blk 146 _ rfl w.heap.size rfl (ws s) 146 (G0.out.below hw' (by omega)) 8 145 tu33 H33.out
 simp only [Act.put, List.setIfInBounds_toArray, List.set_cons_zero, List.set_cons_succ]
 refine AnyTill.take (i := 1) (v := .slice A l.length l.length) rfl (by kernel_rfl) (by kernel_rfl) (by kernel_rfl) (by kernel_rfl) (fun _ _ _ h => h) (by rfl) (fun w' hw' => ?_) hS ?_
 ·(go_simp; try rfl)
 simp only [Act.put, List.setIfInBounds_toArray, List.set_cons_zero, List.set_cons_succ]
 refine AnyTill.take (i := 2) (v := .int .i64 (n : Int)) rfl (by kernel_rfl) (by kernel_rfl) (by kernel_rfl) (by kernel_rfl) (fun _ _ _ h => h) (by rfl) (fun w' hw' => ?_) hS ?_
 ·(go_simp; try rfl)
 simp only [Act.put, List.setIfInBounds_toArray, List.set_cons_zero, List.set_cons_succ]
 refine AnyTill.one (i := 3) (by kernel_rfl) rfl (by rfl) (fun K hK => ?_)
 go_simp
 refine (pad_any _ _ (by omega) (by omega)).mono ?_
 rintro e w3 ⟨v3, rfl, hown3, hb3⟩
 rw [Int.toNat_natCast] at hown3
 have hS3 : Below w2.heap.size w2 w3 := hS.trans hb3
 refine hK.out _ _ (.inr hS3) ?_
 clear hK K
 have hp := padl_length n
 have hzn : zn n < 64 := by unfold zn; omega
 refine AnyTill.one (i := 4) (by kernel_rfl) rfl (by rfl) (fun K hK => ?_)
 refine wp_grow rfl _ _ 92 rfl 5 i0 Tryz.underlying92 HI.out H0.out H1.out H2.out w.heap.size w3.heap.size A l.length v3 l (padl n) rfl ((RN.out.below GB.out).below (hS3.mono (by omega))) rfl hown3.rd (by omega) (by omega) ?_
 intro v4 w4 hown4 hb4
 have hS4 : Below w2.heap.size w2 w4 := hS3.trans (hb4.mono hS3.size)
 refine hK.out _ _ (.inr hS4) ?_
 clear hK K
 simp only [Act.put, List.setIfInBounds_toArray, List.set_cons_zero, List.set_cons_succ]
 have HO4 := lhd hown4
 clear hown3 hown4 hb3 hb4
 refine AnyTill.one (i := 5) (by kernel_rfl) rfl (by rfl) (fun K hK => ?_)
 go_simp
 refine (absorb_any s v4 (l ++ padl n) _ HS.out hs32 HO4.out.rd).mono ?_
 rintro e w5 ⟨v5, rfl, hr5, hb5⟩
 have hS5 : Below w2.heap.size w2 w5 := hS4.trans (hb5.mono hS4.size)
 refine hK.out _ _ (.inr hS5) ?_
 clear hK K
 obtain ⟨st, hst⟩ : ∃ st, chain s ((l ++ padl n).length / 64) (l ++ padl n) = st := ⟨_, rfl⟩
 have hl2 : (l ++ padl n).length = l.length + (padl n).length := List.length_append
 have h8 : st.length = 8 := by rw [← hst, chain_length s HS.out]
 have h32 : W32 st := by rw [← hst]; exact chain_lt s hs32 _ _
 rw [hst]
 rw [hl2] at hst
 have H8 := lhd h8
 have HST := lhd hst
 clear hst h8 hl2 hp hzn
 refine AnyTill.free (i := 6) (v := .tuple #[.agg (ws st).toArray, v5]) rfl (by kernel_rfl) (by kernel_rfl) (by kernel_rfl) (by kernel_rfl) (fun _ _ _ h => h) (by rfl) (fun w' => ?_) hS5 ?_
 ·(go_simp; try rfl)
 simp only [Act.put, List.setIfInBounds_toArray, List.set_cons_zero, List.set_cons_succ]
 refine AnyTill.free (i := 7) (v := .agg (ws st).toArray) rfl (by kernel_rfl) (by kernel_rfl) (by kernel_rfl) (by kernel_rfl) (fun _ _ _ h => h) (by rfl) (fun w' => ?_) hS5 ?_
 ·(go_simp; try rfl)
 simp only [Act.put, List.setIfInBounds_toArray, List.set_cons_zero, List.set_cons_succ]
 refine AnyTill.free (i := 8) (v := v5) rfl (by kernel_rfl) (by kernel_rfl) (by kernel_rfl) (by kernel_rfl) (fun _ _ _ h => h) (by rfl) (fun w' => ?_) hS5 ?_
 ·(go_simp; try rfl)
 simp only [Act.put, List.setIfInBounds_toArray, List.set_cons_zero, List.set_cons_succ]
 have hi33 : (Tryz.prog.info? 146).map (·.size) = some (ws st).length := by rw [ws_length, H8.out]; exact s33
 have hlz : (ws s).length = (ws st).length := by rw [ws_length, ws_length, H8.out, HS.out]
 refine AnyTill.one (i := 9) (by kernel_rfl) rfl (by rfl) (fun K hK => ?_)
 refine wp_store_blk 146 _ _ rfl w.heap.size (ws st) (ws s) 146 rfl rfl (G0.out.below hS5 (by omega)) hi33 hlz (ws_one _) ?_
 refine hK.out _ _ (.inl (by kernel_rfl)) ?_
 clear hK K
 refine AnyTill.done (by kernel_rfl) ?_
 refine NoPanic.normal ?_
 simp only [Act.put]
 have J0 : Hid (Blk (w5.setRow w.heap.size (ws st).toArray) w.heap.size (ws st) 146) := (G0.out.below hS5 (by omega)).setRow
 have J1 : Hid (Blk (w5.setRow w.heap.size (ws st).toArray) (w.heap.size + 1) z32 36) := (G1.out.below hS5 (by omega)).setRowOther (by omega)
 have JB : Hid (Below w.heap.size w (w5.setRow w.heap.size (ws st).toArray)) := below_setRow' (GB.out.trans (hS5.mono (by omega))) (Nat.le_refl _) _
 have hs6 : w.heap.size + 1 < (w5.setRow w.heap.size (ws st).toArray).heap.size := by have := hS5.size; simp; omega
 generalize w5.setRow w.heap.size (ws st).toArray = w6 at J0 J1 JB hs6 ⊢
 have HI33 := lhd hi33
 have HO4' := HO4
 clear hS hS3 hS4 hS5 hi33 hlz hb5 hr5 HO4 HO4' hsz2 HS2 G0 G1 GB RN
 go_wp2_with (refine wpList_load_blk rfl 146 _ rfl w.heap.size rfl (ws st) 146 J0.out 8 145 tu33 HI33.out ?_)
 refine (join_any st _ H8.out h32).mono ?_
 rintro e w7 ⟨rfl, hb7⟩
 have L1 : Hid (Blk w7 (w.heap.size + 1) z32 36) := J1.out.below hb7 hs6
 have LB : Hid (Below w.heap.size w w7) := JB.out.trans (hb7.mono (by omega))
 have h24 : (Tryz.prog.info? 36).map (·.size) = some (bys (joinl st)).length := by rw [bys_length, joinl_length, H8.out]; exact s24
 have hlz : z32.length = (bys (joinl st)).length := by rw [bys_length, joinl_length, H8.out, z32_length]
 have H24 := lhd h24
 have HLZ := lhd hlz
 clear hb7 h24 hlz J0 J1 JB
 go_wp2_with (refine wpList_store_blk rfl 36 _ _ rfl (w.heap.size + 1) (bys (joinl st)) z32 36 rfl rfl L1.out H24.out HLZ.out (bys_one' _) ?_)
 refine bodyPost_ret (v := .agg (bys (joinl st)).toArray) ?_ rfl ?_
 ·exact ret_blk rfl _ _ (w.heap.size + 1) 36 _ rfl L1.out.setRow 32 5 tu24 H24.out
 ·exact ⟨by rw [HST.out], below_setRow' LB.out (by omega) _⟩
theorem sum_any (v : Value) (l : List UInt8) (w : World) (hr : Rd w.heap.size w v l) : Calls Tryz.prog 40 #[v] w (Arr (bys (hash l)) w) := by
 have HR := lhd hr
 obtain ⟨A, c, rfl, hc, hm, hn, hcell⟩ := hr
 clear hcell hn
 unfold maxLen at hm
 go_enter Tryz.func40, Tryz.ntmps40
 go_wp2_with (refine wpList_alloc_blk rfl 36 rfl _ z24 ?_)
 intro w1 a1 a2 a3
 have A1 := lhd a1
 have A2 := lhd a2
 have A3 := lhd a3
 clear a1 a2 a3
 go_wp2_with fail
 refine (initial_any _).mono ?_
 rintro e w2 ⟨rfl, hb2⟩
 have B2 := lhd hb2
 clear hb2
 go_wp2_with fail
 have hsz : w.heap.size < w2.heap.size := by have := B2.out.size; have := A2.out; omega
 have hszA := A2.out
 refine (absorb_any iv _ l _ iv_length iv_lt (((HR.out.below A3.out).below (B2.out.mono (by omega))).more (by omega))).mono ?_
 rintro e w3 ⟨v3, rfl, hr3, hb3⟩
 have hhash := hash_parts l (l.length / 64) (by omega)
 obtain ⟨st, hst⟩ : ∃ st, chain iv (l.length / 64) l = st := ⟨_, rfl⟩
 have h8 : st.length = 8 := by rw [← hst, chain_length iv iv_length]
 have h32 : W32 st := by rw [← hst]; exact chain_lt iv iv_lt _ _
 rw [hst] at hhash ⊢
 have HH := lhd hhash
 have H8 := lhd h8
 have h33 : (Tryz.prog.info? 146).map (·.size) = some (ws st).length := by rw [ws_length, h8]; exact s33
 have H33 := lhd h33
 have hlz : z8.length = (ws st).length := by rw [ws_length, h8, z8_length]
 have HLZ := lhd hlz
 have HR3 := lhd hr3
 have HB3 := lhd hb3
 have hsz3 := hb3.size
 clear hst hhash h8 h33 hlz hr3 hb3
 go_wp2_with (refine wpList_alloc_blk rfl 146 rfl _ z33 ?_)
 intro w4 a1 a2 a3
 have G0 : Hid (Blk w4 w.heap.size z32 36) := ((A1.out.below B2.out (by omega)).below HB3.out (by omega)).below a3 (by omega)
 have G1 : Hid (Blk w4 w3.heap.size z8 146) := a1
 have GB : Hid (Below w.heap.size w w4) := ((A3.out.trans (B2.out.mono (by omega))).trans (HB3.out.mono (by omega))).trans (a3.mono (by omega))
 have GR : Hid (Rd w3.heap.size w4 v3 (l.drop (64 * (l.length / 64)))) := ((HR3.out.below HB3.out).below (a3.mono (by omega))).more (by omega)
 obtain ⟨g, hg⟩ : ∃ g, w3.heap.size = g := ⟨_, rfl⟩
 rw [hg] at G1 GR ⊢
 have hgl : w.heap.size < g := by omega
 clear a1 a2 a3 A1 A2 A3 B2 HB3 HR3 hsz hszA hsz3 hg
 obtain ⟨A3, c3, rfl, _⟩ := GR.out.shape
 obtain ⟨r, hr⟩ : ∃ r, l.drop (64 * (l.length / 64)) = r := ⟨_, rfl⟩
 have hrl : r.length = l.length - 64 * (l.length / 64) := by rw [← hr, List.length_drop]
 rw [hr] at GR ⊢
 have hh2 : hash l = joinl (chain st ((r.length + (padl l.length).length) / 64) (r ++ padl l.length)) := by rw [HH.out, hr, hrl]
 have HH2 := lhd hh2
 have hr64 : r.length ≤ 64 := by omega
 clear hr hrl hh2 HH
 go_wp2_with (first | (refine wpList_store_blk rfl 146 _ _ rfl g (ws st) z8 146 rfl rfl G1.out H33.out HLZ.out (ws_one _) ?_) | (refine wpList_load_blk rfl 146 _ rfl g rfl (ws st) 146 G1.out.setRow 8 145 tu33 H33.out ?_))
 have hg4 := G1.out.lt
 have GR5 : Rd (w4.setRow g (ws st).toArray).heap.size (w4.setRow g (ws st).toArray) (.slice A3 r.length c3) r :=
  (GR.out.keep (fun p hp => cell_setRow_other w4 g _ p (by omega))).more (by simp; omega)
 refine (finish_any st _ r l.length _ H8.out h32 GR5 hr64 (by omega)).mono ?_
 rintro e w5 ⟨rfl, hb5⟩
 rw [← HH2.out]
 have L0 : Hid (Blk w5 w.heap.size z32 36) := (G0.out.setRowOther (g' := g) (cs' := ws st) (by omega)).below hb5 (by simp; omega)
 have LB : Hid (Below w.heap.size w w5) := (below_setRow' GB.out (by omega) _).trans (hb5.mono (by simp; omega))
 have h24 : (Tryz.prog.info? 36).map (·.size) = some (bys (hash l)).length := by rw [bys_length, hash_length]; exact s24
 have hlz : z32.length = (bys (hash l)).length := by rw [bys_length, hash_length, z32_length]
 have H24 := lhd h24
 have HL2 := lhd hlz
 clear hb5 h24 hlz G0 G1 GB GR5 GR
 go_wp2_with (refine wpList_store_blk rfl 36 _ _ rfl w.heap.size (bys (hash l)) z32 36 rfl rfl L0.out H24.out HL2.out (bys_one' _) ?_)
 refine bodyPost_ret (v := .agg (bys (hash l)).toArray) ?_ rfl ?_
 ·exact ret_blk rfl _ _ w.heap.size 36 _ rfl L0.out.setRow 32 5 tu24 H24.out
 ·exact ⟨rfl, below_setRow' LB.out (Nat.le_refl _) _⟩
def Two (x y : Value) (w : World) (e : Ending) (w' : World) : Prop := e = .returned (.tuple #[x, y]) ∧ Below w.heap.size w w'
theorem eqItems_same {P : Program} (w : World) (d : Nat) (e : TypeId) (k : IntKind) (he : P.underlying e = some (.int k)) (cs : List Value) (h : ∀ v ∈ cs, ∃ z, v = .int k z) :
 ∀ is : List Nat, (∀ i ∈ is, i < cs.length) → (Op.eqItems (d + 1) e 1 cs.toArray cs.toArray is).run P w = .ok true w
 | [], _ => by simp [Op.eqItems]
 | i :: is, hi => by
   have hlt := hi i (by simp)
   obtain ⟨z, hz⟩ := h cs[i] (List.getElem_mem hlt)
   have hp : (part e cs.toArray (i * 1)).run P w = .ok (.int k z) w := by
    simp [part, isAgg, run_underlying he, List.getElem?_eq_getElem hlt, hz]
   have hq : (Op.equalIn (d + 1) e (.int k z) (.int k z)).run P w = .ok true w := by
    rw [run_equalIn_int w d e k k z z he]; simp
   simp only [Op.eqItems, Sem.run_bind, hp, hq, Result.andThen_ok]
   simpa using eqItems_same w d e k he cs h is (fun j hj => hi j (by simp [hj]))
theorem run_equal_same {P : Program} (t e : TypeId) (n : Nat) (k : IntKind) (i : TypeInfo) (ht : P.underlying t = some (.array n e)) (he : P.underlying e = some (.int k)) (hi : P.info? e = some i) (hc : P.cellsOf e = 1)
 (cs : List Value) (hl : cs.length = n) (h : ∀ v ∈ cs, ∃ z, v = .int k z) (w : World) : (Op.equalIn 10000 t (.agg cs.toArray) (.agg cs.toArray)).run P w = .ok true w := by
 rw [show 10000 = 9999 + 1 from rfl, run_equalIn_array w 9999 _ _ ht hi, hc]
 exact eqItems_same w 9998 e k he cs h _ (fun j hj => by rw [hl]; simpa using hj)
theorem bys_ints (l : List UInt8) : ∀ v ∈ bys l, ∃ z, v = .int .u8 z := fun v hv => by
 obtain ⟨n, _, rfl⟩ := List.mem_map.1 hv; exact ⟨_, rfl⟩
theorem c5 : Tryz.prog.cellsOf 5 = 1 := by kernel_rfl
theorem eq24 (l : List UInt8) (hl : l.length = 32) (w : World) : (Op.equalIn 10000 36 (.agg (bys l).toArray) (.agg (bys l).toArray)).run Tryz.prog w = .ok true w := by
 obtain ⟨i0, hi, _⟩ := info_parts info5
 exact run_equal_same 36 5 32 .u8 i0 tu24 Tryz.underlying5 hi c5 (bys l) (by rw [bys_length, hl]) (bys_ints l) w
end Go.Proofs.YtgfobinklijkpaaGreatDoor
