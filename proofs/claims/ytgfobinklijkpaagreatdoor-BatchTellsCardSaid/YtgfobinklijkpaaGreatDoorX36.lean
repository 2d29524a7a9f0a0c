/-
  Texts RA.
-/
import Derived.Test.YtgfobinklijkpaaGreatDoorX01
import Derived.Test.YtgfobinklijkpaaGreatDoorX03
namespace Go.Proofs.YtgfobinklijkpaaGreatDoor
set_option maxRecDepth 100000
set_option maxHeartbeats 16000000
theorem joinl_at : ∀ (s : List Nat) (i : Nat), i < 4 * s.length → (joinl s).getD i 0 = UInt8.ofNat (s.getD (i / 4) 0 / 256 ^ (3 - i % 4))
 | [], i, h => by simp at h
 | x :: s, i, h => by
   have hb : joinl (x :: s) = be 4 x ++ joinl s := rfl
   rw [hb]
   by_cases h4 : i < 4
   ·have : i = 0 ∨ i = 1 ∨ i = 2 ∨ i = 3 := by omega
    rcases this with rfl | rfl | rfl | rfl <;> simp [be]
   ·obtain ⟨j, rfl⟩ : ∃ j, i = j + 4 := ⟨i - 4, by omega⟩
    have ih := joinl_at s j (by simp at h; omega)
    have e1 : (be 4 x ++ joinl s).getD (j + 4) 0 = (joinl s).getD j 0 := by
     simp [List.getElem?_append, be_length, show ¬ j + 4 < 4 by omega]
    rw [e1, ih, show (j + 4) / 4 = j / 4 + 1 by omega, show (j + 4) % 4 = j % 4 by omega]
    rfl
theorem joinl_int (s : List Nat) (i : Nat) (h : i < 4 * s.length) : (((joinl s).getD i 0).toNat : Int) = (s.getD (i / 4) 0 : Int) / 2 ^ (24 - 8 * (i % 4)) % 256 := by
 rw [joinl_at s i h]
 have hb := byte_shift (s.getD (i / 4) 0 : Int) (3 - i % 4) (by omega)
 rw [Int.toNat_natCast, show 8 * (3 - i % 4) = 24 - 8 * (i % 4) by omega] at hb
 exact hb.symm
open Go.RowKit
theorem turned_keep (S : World → Prop) (x k : Nat) (z : Int) (w : World) (hz : z = (k : Int)) (hx : x < 4294967296) (h0 : 0 < k) (h1 : k < 32) (hS : ∀ n, S (w.drewN n)) :
 Calls Tryz.prog 123 #[.int .u32 (x : Int), .int .i64 z] w fun e w' => e = .returned (.int .u32 ((rotr x k : Nat) : Int)) ∧ S w' :=
 (turned_any x k z w hz hx h0 h1).mono fun e w' ⟨he, n, hw⟩ => ⟨he, by rw [hw]; exact hS n⟩
def Rows2 (w : World) (b : List UInt8) (k : Nat) (w' : World) : Prop := Blk w' w.heap.size z64 196 ∧ Blk w' (w.heap.size + 1) (rowk b k) 196 ∧ Below w.heap.size w w'
theorem Rows2.drewN {w w' : World} {b : List UInt8} {k : Nat} (h : Rows2 w b k w') (n : Nat) : Rows2 w b k (w'.drewN n) := ⟨h.1, h.2.1, Below.drewN' h.2.2⟩
theorem refSchedule_in (v : Value) (b : List UInt8) (w : World) (hr : Rd w.heap.size w v b) (hl : b.length = 64) : Calls Tryz.prog 121 #[v] w (Two (.agg (ws (sch b 64)).toArray) (.int .i64 0) w) := by
 obtain ⟨A, c, rfl, hc, hm, hn, hcell⟩ := hr
 obtain ⟨a, rfl⟩ : ∃ a, A = some a := by
  cases A with
  | none => have := hn rfl; omega
  | some a => exact ⟨a, rfl⟩
 obtain ⟨hlt, hcell⟩ := hcell a rfl
 rw [hl] at hc hlt ⊢
 have HC := lhd hcell
 have HL := lhd hl
 have hlt' := hlt (by omega)
 clear hcell hl hlt hn
 unfold maxLen at hm
 have HLN : Hid ((Tryz.prog.info? 196).map (·.size) = some z64.length) := s34
 go_enter Tryz.func121, Tryz.ntmps121
 go_wp2_with (refine wpList_alloc_blk rfl 196 rfl _ z34 ?_)
 intro w1 hb1 hs1 hbl1
 have HB1 := lhd hb1
 have HS1 := lhd hs1
 have HBL1 := lhd hbl1
 clear hb1 hs1 hbl1
 go_wp2_with (first | (refine wpList_buildTo rfl 196 _ rfl (some 11) rfl z64.toArray (by kernel_rfl) ?_) | (refine wpList_alloc_blk rfl 196 rfl _ z34 ?_))
 intro w2 hb2 hs2 hbl2
 rw [HS1.out] at hb2 hs2 hbl2 ⊢
 have G0 : Hid (Blk w2 w.heap.size z64 196) := HB1.out.below hbl2 (by omega)
 have G1 : Hid (Blk w2 (w.heap.size + 1) z64 196) := hb2
 have GB : Hid (Below w.heap.size w w2) := HBL1.out.trans (hbl2.mono (by omega))
 clear hb2 hs2 hbl2 HB1 HS1 HBL1
 go_wp2_with (refine wpList_store_blk rfl 196 _ _ rfl (w.heap.size + 1) z64 z64 196 rfl rfl G1.out HLN.out rfl (ws_one _) ?_)
 have K0 : Hid (Blk (w2.setRow (w.heap.size + 1) z64.toArray) w.heap.size z64 196) := G0.out.setRowOther (by omega)
 have K1 : Hid (Blk (w2.setRow (w.heap.size + 1) z64.toArray) (w.heap.size + 1) (rowk b 0) 196) := G1.out.setRow
 have KB : Hid (Below w.heap.size w (w2.setRow (w.heap.size + 1) z64.toArray)) := below_setRow' GB.out (by omega) _
 clear G0 G1 GB
 generalize w2.setRow (w.heap.size + 1) z64.toArray = w3 at K0 K1 KB ⊢
 go_loopw [5] (fun i wr => ∃ k : Nat, k ≤ 16 ∧ i = .int .i64 k ∧ Hid (Blk wr w.heap.size z64 196) ∧ Hid (Blk wr (w.heap.size + 1) (rowk b k) 196) ∧ Hid (Below w.heap.size w wr)) (fun i _ => 16 - (intOf i).toNat)
 case atStart => exact ⟨0, by omega, rfl, K0, K1, KB⟩
 case round =>
  clear K0 K1 KB
  obtain ⟨k, hk, rfl, G0, G1, GB⟩ := hrel
  by_cases hk2 : k < 16
  ·have hcl : ∀ j, j < 64 → wr.cell? (a.add j) = some (.int .u8 ((b.getD j 0).toNat : Int)) := fun j hj => by
    have hlb : j < b.length := by rw [HL.out]; exact hj
    rw [GB.out.cell (by rw [addr_block]; exact hlt'), HC.out j hlb]
    simp [hlb]
   obtain ⟨j0, e0⟩ : ∃ j : Nat, 4 * k = j := ⟨_, rfl⟩
   obtain ⟨j1, e1⟩ : ∃ j : Nat, 4 * k + 1 = j := ⟨_, rfl⟩
   obtain ⟨j2, e2⟩ : ∃ j : Nat, 4 * k + 2 = j := ⟨_, rfl⟩
   obtain ⟨j3, e3⟩ : ∃ j : Nat, 4 * k + 3 = j := ⟨_, rfl⟩
   have hx : wd b k = (b.getD j0 0).toNat * 16777216 ||| (b.getD j1 0).toNat * 65536 ||| (b.getD j2 0).toNat * 256 ||| (b.getD j3 0).toNat := by subst e0 e1 e2 e3; rfl
   have q0 : IntKind.i64.wrap (4 * (k : Int)) = (j0 : Int) := by rw [IntWalk.i64_in _ (by omega)]; omega
   have q1 : IntKind.i64.wrap ((j0 : Int) + 1) = (j1 : Int) := by rw [IntWalk.i64_in _ (by omega)]; omega
   have q2 : IntKind.i64.wrap ((j0 : Int) + 2) = (j2 : Int) := by rw [IntWalk.i64_in _ (by omega)]; omega
   have q3 : IntKind.i64.wrap ((j0 : Int) + 3) = (j3 : Int) := by rw [IntWalk.i64_in _ (by omega)]; omega
   have l0 : j0 < 64 := by omega
   have l1 : j1 < 64 := by omega
   have l2 : j2 < 64 := by omega
   have l3 : j3 < 64 := by omega
   have z0 : (j0 : Int) < 64 := by omega
   have z1 : (j1 : Int) < 64 := by omega
   have z2 : (j2 : Int) < 64 := by omega
   have z3 : (j3 : Int) < 64 := by omega
   have c0 := hcl j0 l0
   have c1 := hcl j1 l1
   have c2 := hcl j2 l2
   have c3 := hcl j3 l3
   generalize hB0 : (b.getD j0 0).toNat = B0 at c0 hx
   generalize hB1 : (b.getD j1 0).toNat = B1 at c1 hx
   generalize hB2 : (b.getD j2 0).toNat = B2 at c2 hx
   generalize hB3 : (b.getD j3 0).toNat = B3 at c3 hx
   have y0 : B0 < 256 := by rw [← hB0]; exact UInt8.toNat_lt _
   have y1 : B1 < 256 := by rw [← hB1]; exact UInt8.toNat_lt _
   have y2 : B2 < 256 := by rw [← hB2]; exact UInt8.toNat_lt _
   have y3 : B3 < 256 := by rw [← hB3]; exact UInt8.toNat_lt _
   have hwd := wd_int B0 B1 B2 B3 y0 y1 y2 y3
   rw [← hx] at hwd
   have zk : (k : Int) < 64 := by omega
   have hcs := G1.out.cell k
   obtain ⟨vk, hvk⟩ := rowk_some b k k (by omega) (by omega)
   rw [hvk] at hcs
   have hfs := G1.out.frozen k
   clear hcl e0 e1 e2 e3 hx hB0 hB1 hB2 hB3 hvk
   go_wp2
   go_still_tail 35, (by kernel_rfl)
   go_wp2
   go_roundw
   case rel =>
    refine ⟨k + 1, by omega, by go_num, (G0.out.setOther _ _ (by simp)).drew, ?_, (GB.out.setCell (by simp) _).drew⟩
    have h := (G1.out.set k (.int .u32 ((wd b k : Nat) : Int))).drew
    rw [← rowk_set b k (by omega), if_pos hk2]
    exact h
   case measure => simp [intOf]; omega
  ·obtain rfl : k = 16 := by omega
   clear hk hk2
   rw [show ((16 : Nat) : Int) = 16 from rfl]
   go_wp2
   go_loopw [6] (fun i wr => ∃ k : Nat, 16 ≤ k ∧ k ≤ 64 ∧ i = .int .i64 k ∧ Hid (Blk wr w.heap.size z64 196) ∧ Hid (Blk wr (w.heap.size + 1) (rowk b k) 196) ∧ Hid (Below w.heap.size w wr)) (fun i _ => 64 - (intOf i).toNat)
   case atStart => exact ⟨16, by omega, by omega, rfl, G0, G1, GB⟩
   case round =>
    clear G0 G1 GB
    obtain ⟨k, hk1, hk, rfl, G0, G1, GB⟩ := hrel
    by_cases hk2 : k < 64
    ·obtain ⟨j2, e2⟩ : ∃ j : Nat, k - 2 = j := ⟨_, rfl⟩
     obtain ⟨j7, e7⟩ : ∃ j : Nat, k - 7 = j := ⟨_, rfl⟩
     obtain ⟨j15, e15⟩ : ∃ j : Nat, k - 15 = j := ⟨_, rfl⟩
     obtain ⟨j16, e16⟩ : ∃ j : Nat, k - 16 = j := ⟨_, rfl⟩
     have q2 : IntKind.i64.wrap ((k : Int) - 2) = (j2 : Int) := by rw [IntWalk.i64_in _ (by omega)]; omega
     have q7 : IntKind.i64.wrap ((k : Int) - 7) = (j7 : Int) := by rw [IntWalk.i64_in _ (by omega)]; omega
     have q15 : IntKind.i64.wrap ((k : Int) - 15) = (j15 : Int) := by rw [IntWalk.i64_in _ (by omega)]; omega
     have q16 : IntKind.i64.wrap ((k : Int) - 16) = (j16 : Int) := by rw [IntWalk.i64_in _ (by omega)]; omega
     have c2 := (G1.out.cell j2).trans (rowk_at b k j2 (by omega))
     have c15 := (G1.out.cell j15).trans (rowk_at b k j15 (by omega))
     have w2 := (sch_lt b k).at j2
     have w15 := (sch_lt b k).at j15
     have hnx : nx (sch b k) k = ad (ad (ad (sm1 ((sch b k).getD j2 0)) ((sch b k).getD j7 0)) (sm0 ((sch b k).getD j15 0))) ((sch b k).getD j16 0) := by subst e2 e7 e15 e16; rfl
     have C7 : Hid ((rowk b k)[j7]? = some (.int .u32 ((sch b k).getD j7 0 : Nat))) := rowk_at b k j7 (by omega)
     have C16 : Hid ((rowk b k)[j16]? = some (.int .u32 ((sch b k).getD j16 0 : Nat))) := rowk_at b k j16 (by omega)
     generalize (sch b k).getD j2 0 = B2 at c2 w2 hnx
     generalize (sch b k).getD j7 0 = B7 at C7 hnx
     generalize (sch b k).getD j15 0 = B15 at c15 w15 hnx
     generalize (sch b k).getD j16 0 = B16 at C16 hnx
     have z2 : (j2 : Int) < 64 := by omega
     have z7 : (j7 : Int) < 64 := by omega
     have z15 : (j15 : Int) < 64 := by omega
     have z16 : (j16 : Int) < 64 := by omega
     have zk : (k : Int) < 64 := by omega
     have HNX := lhd hnx
     clear e2 e7 e15 e16 hnx
     go_wp2
     go_still (by kernel_rfl)
     generalize hw5 : ({ heap := wr.heap, tape := wr.tape, drawn := wr.drawn + 1, os := wr.os, output := wr.output } : World) = w5
     have K : Hid (Rows2 w b k w5) := by rw [← hw5]; exact ⟨G0.out, G1.out, GB.out.drew⟩
     clear c2 c15 G0 G1 GB hw5
     go_wp2_with fail
     refine (turned_keep (Rows2 w b k) B15 7 _ _ rfl w15 (by omega) (by omega) K.out.drewN).mono ?_
     rintro e w6 ⟨rfl, hk6⟩
     have K6 := lhd hk6
     clear hk6 K
     go_wp2_with fail
     refine (turned_keep (Rows2 w b k) B15 18 _ _ rfl w15 (by omega) (by omega) K6.out.drewN).mono ?_
     rintro e w7 ⟨rfl, hk7⟩
     have K7 := lhd hk7
     have es0 : bits .xor .u32 (bits .xor .u32 ((rotr B15 7 : Nat) : Int) ((rotr B15 18 : Nat) : Int)) ((B15 : Int) / 8) = ((sm0 B15 : Nat) : Int) := sm_int _ _ B15 8 w15 (rotr_lt _ _ w15) (rotr_lt _ _ w15)
     clear hk7 K6
     go_wp2_with fail
     clear es0
     refine (turned_keep (Rows2 w b k) B2 17 _ _ rfl w2 (by omega) (by omega) K7.out.drewN).mono ?_
     rintro e w8 ⟨rfl, hk8⟩
     have K8 := lhd hk8
     clear hk8 K7
     go_wp2_with fail
     refine (turned_keep (Rows2 w b k) B2 19 _ _ rfl w2 (by omega) (by omega) K8.out.drewN).mono ?_
     rintro e w9 ⟨rfl, hk9⟩
     have K9 := lhd hk9
     have es1 : bits .xor .u32 (bits .xor .u32 ((rotr B2 17 : Nat) : Int) ((rotr B2 19 : Nat) : Int)) ((B2 : Int) / 1024) = ((sm1 B2 : Nat) : Int) := sm_int _ _ B2 1024 w2 (rotr_lt _ _ w2) (rotr_lt _ _ w2)
     clear hk9 K8
     have c7 := (K9.out.2.1.cell j7).trans C7.out
     have c16 := (K9.out.2.1.cell j16).trans C16.out
     have hcs := K9.out.2.1.cell k
     obtain ⟨vk, hvk⟩ := rowk_some b k k (by omega) (by omega)
     rw [hvk] at hcs
     have hfs := K9.out.2.1.frozen k
     clear hvk
     go_wp2
     clear es1
     go_still_tail 15, (by kernel_rfl)
     go_wp2
     go_roundw
     case rel =>
      refine ⟨k + 1, by omega, by omega, by go_num, (K9.out.1.setOther _ _ (by simp)).drew, ?_, (K9.out.2.2.setCell (by simp) _).drew⟩
      have h := (K9.out.2.1.set k (.int .u32 ((nx (sch b k) k : Nat) : Int))).drew
      have hr := rowk_set b k hk2
      rw [if_neg (by omega)] at hr
      rw [hr, HNX.out, ← ad4_int] at h
      exact h
     case measure => simp [intOf]; omega
    ·obtain rfl : k = 64 := by omega
     rw [show ((64 : Nat) : Int) = 64 from rfl]
     have h34 : (Tryz.prog.info? 196).map (·.size) = some (rowk b 64).length := by rw [rowk_length b 64 (by omega)]; exact s34
     go_wp2_with (first | (refine wpList_load_blk rfl 196 _ rfl (w.heap.size + 1) rfl (rowk b 64) 196 G1.out 64 145 tu34 h34 ?_) | (refine wpList_store_blk rfl 196 _ _ rfl w.heap.size (rowk b 64) z64 196 rfl rfl G0.out h34 (by rw [rowk_length b 64 (by omega), z64_length]) (ws_one _) ?_))
     refine bodyPost_ret (v := .tuple #[.agg (ws (sch b 64)).toArray, .int .i64 0]) ?_ rfl ?_
     ·rw [← rowk_full]; exact ret_blk2 rfl _ _ w.heap.size 196 (rowk b 64) _ rfl rfl G0.out.setRow 64 145 tu34 h34
     ·exact ⟨rfl, below_setRow' GB.out (Nat.le_refl _) _⟩
theorem ad_comm (x y : Nat) : ad x y = ad y x := by unfold ad; rw [Nat.add_comm]
def mix (F V : List Nat) (i : Nat) : List Nat := F.take i ++ V.drop i
theorem mix_zero (F V : List Nat) : mix F V 0 = V := by simp [mix]
theorem mix_full (F V : List Nat) (hF : F.length = 8) (hV : V.length = 8) : mix F V 8 = F := by simp [mix, hF, hV, List.take_of_length_le, List.drop_of_length_le]
theorem mix_length (F V : List Nat) (i : Nat) (hF : F.length = 8) (hV : V.length = 8) (hi : i ≤ 8) : (mix F V i).length = 8 := by simp [mix, hF, hV]; omega
theorem mix_at (F V : List Nat) (i : Nat) (hF : F.length = 8) (hi : i < 8) : (mix F V i).getD i 0 = V.getD i 0 := by
 have : (F.take i).length = i := by simp [hF]; omega
 simp [mix, List.getElem?_append, this]
theorem mix_set (F V : List Nat) (i : Nat) (hF : F.length = 8) (hV : V.length = 8) (hi : i < 8) : (mix F V i).set i (F.getD i 0) = mix F V (i + 1) := by
 have h1 : (F.take i).length = i := by simp [hF]; omega
 have h2 : F.take (i + 1) = F.take i ++ [F.getD i 0] := take_snoc' F i (by omega)
 have h3 : V.drop i = V.getD i 0 :: V.drop (i + 1) := by rw [List.drop_eq_getElem_cons (by omega)]; simp [show i < V.length by omega]
 unfold mix
 rw [List.set_append, if_neg (by omega), h1, Nat.sub_self, h3, h2, List.append_assoc]
 rfl
theorem ws_set (l : List Nat) (j x : Nat) : (ws l).set j (.int .u32 (x : Int)) = ws (l.set j x) := by simp [ws, List.map_set]
theorem fin_at (s V : List Nat) (i : Nat) (hi : i < 8) : (fin (St.of s) (St.of V)).getD i 0 = ad (V.getD i 0) (s.getD i 0) := by
 have : i = 0 ∨ i = 1 ∨ i = 2 ∨ i = 3 ∨ i = 4 ∨ i = 5 ∨ i = 6 ∨ i = 7 := by omega
 rcases this with rfl | rfl | rfl | rfl | rfl | rfl | rfl | rfl <;> (rw [ad_comm]; rfl)
theorem of_l (q : St) : St.of q.l = q := by cases q; rfl
theorem ch_int (x y z : Nat) (hx : x < 4294967296) (hy : y < 4294967296) (hz : z < 4294967296) : bits .or .u32 (bits .and .u32 (x : Int) (y : Int)) (bits .and .u32 (bits .xor .u32 (x : Int) 4294967295) (z : Int)) = ((chs x y z : Nat) : Int) := by
 have hm : (4294967295 : Int) = ((4294967295 : Nat) : Int) := rfl
 rw [hm, u32_xor_nat _ _ hx (by omega), u32_and_nat _ _ hx hy, u32_and_nat _ _ (xor32 hx (by omega)) hz, u32_or_nat _ _ (and32 hy) (and32 hz), Nat.xor_comm]
 rfl
theorem mj_int (x y z : Nat) (hx : x < 4294967296) (hy : y < 4294967296) (hz : z < 4294967296) : bits .or .u32 (bits .or .u32 (bits .and .u32 (x : Int) (y : Int)) (bits .and .u32 (x : Int) (z : Int))) (bits .and .u32 (y : Int) (z : Int)) = ((mjr x y z : Nat) : Int) := by
 rw [u32_and_nat _ _ hx hy, u32_and_nat _ _ hx hz, u32_and_nat _ _ hy hz, u32_or_nat _ _ (and32 hy) (and32 hz), u32_or_nat _ _ (or32 (and32 hy) (and32 hz)) (and32 hz)]
 rfl
theorem agg8_one (k : IntKind) (x0 x1 x2 x3 x4 x5 x6 x7 : Int) : ([Value.int k x0, .int k x1, .int k x2, .int k x3, .int k x4, .int k x5, .int k x6, .int k x7] : List Value).toArray.all (·.oneCell') = true := by
 rw [Array.all_eq_true_iff_forall_mem]
 intro v hv
 simp only [List.mem_toArray, List.mem_cons, List.not_mem_nil, or_false] at hv
 rcases hv with rfl | rfl | rfl | rfl | rfl | rfl | rfl | rfl <;> rfl
def Rows5 (w : World) (s W V : List Nat) (gw gk gs : Nat) (w' : World) : Prop :=
 Blk w' w.heap.size (ws s) 146 ∧ Blk w' (w.heap.size + 1) z8 146 ∧ Blk w' gw (ws W) 196 ∧ Blk w' gk (ws kw) 196 ∧ Blk w' gs (ws V) 146 ∧ Below w.heap.size w w'
theorem Rows5.drewN {w w' : World} {s W V : List Nat} {gw gk gs : Nat} (h : Rows5 w s W V gw gk gs w') (n : Nat) : Rows5 w s W V gw gk gs (w'.drewN n) := ⟨h.1, h.2.1, h.2.2.1, h.2.2.2.1, h.2.2.2.2.1, Below.drewN' h.2.2.2.2.2⟩
theorem Rows5.drew {w w' : World} {s W V : List Nat} {gw gk gs : Nat} (h : Rows5 w s W V gw gk gs w') : Rows5 w s W V gw gk gs w'.drew := ⟨h.1, h.2.1, h.2.2.1, h.2.2.2.1, h.2.2.2.2.1, h.2.2.2.2.2.drew⟩
def pickR (n : Nat) : Code → Option Code
 | .region i o d => if i = n then some (.region i o d) else none
 | .seq a b => match pickR n a with
   | some c => some c
   | none => pickR n b
 | .loop c => pickR n c
 | .block _ c => pickR n c
 | .scope c => pickR n c
 | .cond _ a b => match pickR n a with
   | some c => some c
   | none => pickR n b
 | _ => none
noncomputable def reg (n : Nat) : Code := ((Tryz.f83.body.bind (pickR n)).getD .skip)
theorem rcell {w : World} {s W : List Nat} {q : St} {gw gk gs : Nat} {w' : World} (h : Rows5 w s W q.l gw gk gs w') (j : Nat) (x : Value) (hx : (ws q.l)[j]? = some x) : w'.cell? ⟨gs, j, none⟩ = some x := (h.2.2.2.2.1.cell j).trans hx
theorem L9 (w : World) (s W : List Nat) (q : St) (gw gk gs : Nat) (w0 : World) (R : Hid (Rows5 w s W q.l gw gk gs w0)) {Q : Exit → Act → World → Prop} {x0 x1 x2 x3 x4 x5 x6 x7 x8 x10 x11 x12 x13 x14 x15 x16 x17 x18 x19 x20 x21 x22 x23 x24 x25 x26 x27 x28 x29 x30 x31 x32 x33 x34 x35 x36 x37 x38 x39 x40 x41 x42 x43 x44 x45 x46 x47 x48 x49 x50 x51 x52 x53 x54 x55 x56 x57 x58 x59 x60 x61 x62 x63 x64 x65 x66 x67 x68 x69 x70 x71 x72 x73 x74 x75 x76 x77 x78 x79 x80 x81 x82 x83 x84 x85 x86 x87 x88 x89 x90 x91 x92 x93 x94 x95 x96 x97 x98 x99 x100 x101 x102 x103 x104 x105 x106 x107 x108 x109 x110 x111 x112 x113 x114 x115 x116 x117 x118 x119 x120 x121 x122 x123 x124 x125 x126 x127 x128 : Value} (hK : ∀ (w1 : World) (y34 y35 y36 y37 y38 y39 : Value), Hid (Rows5 w s W q.l gw gk gs w1) → Q .normal ⟨#[x0, x1, x2, x3, x4, x5, x6, x7, x8, .pointer (some ⟨gs, 0, none⟩), x10, .int .u32 ((q.a : Nat) : Int), .int .u32 ((q.e : Nat) : Int), .int .u32 ((q.g : Nat) : Int), x14, x15, x16, x17, x18, x19, x20, x21, x22, x23, x24, x25, x26, x27, x28, x29, x30, x31, x32, x33, y34, y35, y36, y37, y38, y39, x40, x41, x42, x43, x44, x45, x46, x47, x48, x49, x50, x51, x52, x53, x54, x55, x56, x57, x58, x59, x60, x61, x62, x63, x64, x65, x66, x67, x68, x69, x70, x71, x72, x73, x74, x75, x76, x77, x78, x79, x80, x81, x82, x83, x84, x85, x86, x87, x88, x89, x90, x91, x92, x93, x94, x95, x96, x97, x98, x99, x100, x101, x102, x103, x104, x105, x106, x107, x108, x109, x110, x111, x112, x113, x114, x115, x116, x117, x118, x119, x120, x121, x122, x123, x124, x125, x126, x127, x128], []⟩ w1) :
 Code.wp Tryz.prog (reg 9) Q ⟨#[x0, x1, x2, x3, x4, x5, x6, x7, x8, .pointer (some ⟨gs, 0, none⟩), x10, x11, x12, x13, x14, x15, x16, x17, x18, x19, x20, x21, x22, x23, x24, x25, x26, x27, x28, x29, x30, x31, x32, x33, x34, x35, x36, x37, x38, x39, x40, x41, x42, x43, x44, x45, x46, x47, x48, x49, x50, x51, x52, x53, x54, x55, x56, x57, x58, x59, x60, x61, x62, x63, x64, x65, x66, x67, x68, x69, x70, x71, x72, x73, x74, x75, x76, x77, x78, x79, x80, x81, x82, x83, x84, x85, x86, x87, x88, x89, x90, x91, x92, x93, x94, x95, x96, x97, x98, x99, x100, x101, x102, x103, x104, x105, x106, x107, x108, x109, x110, x111, x112, x113, x114, x115, x116, x117, x118, x119, x120, x121, x122, x123, x124, x125, x126, x127, x128], []⟩ w0 := by
 have HK := lhd hK
 clear hK
 conv => arg 2; whnf
 have c0 := rcell R.out 0 (.int .u32 (q.a : Int)) rfl
 have c4 := rcell R.out 4 (.int .u32 (q.e : Int)) rfl
 have c6 := rcell R.out 6 (.int .u32 (q.g : Int)) rfl
 go_wp2
 go_still (by kernel_rfl)
 exact HK.out _ _ _ _ _ _ _ R.out.drew
theorem L10 (w : World) (s W : List Nat) (q : St) (gw gk gs : Nat) (w0 : World) (R : Hid (Rows5 w s W q.l gw gk gs w0)) (o : q.e < 4294967296) {Q : Exit → Act → World → Prop} {x0 x1 x2 x3 x4 x5 x6 x7 x8 x9 x10 x11 x13 x14 x15 x16 x17 x18 x19 x20 x21 x22 x23 x24 x25 x26 x27 x28 x29 x30 x31 x32 x33 x34 x35 x36 x37 x38 x39 x40 x41 x42 x43 x44 x45 x46 x47 x48 x49 x50 x51 x52 x53 x54 x55 x56 x57 x58 x59 x60 x61 x62 x63 x64 x65 x66 x67 x68 x69 x70 x71 x72 x73 x74 x75 x76 x77 x78 x79 x80 x81 x82 x83 x84 x85 x86 x87 x88 x89 x90 x91 x92 x93 x94 x95 x96 x97 x98 x99 x100 x101 x102 x103 x104 x105 x106 x107 x108 x109 x110 x111 x112 x113 x114 x115 x116 x117 x118 x119 x120 x121 x122 x123 x124 x125 x126 x127 x128 : Value} (hK : ∀ (w1 : World) (y40 y41 y42 y43 y44 y45 y46 y47 : Value), Hid (Rows5 w s W q.l gw gk gs w1) → Q .normal ⟨#[x0, x1, x2, x3, x4, x5, x6, x7, x8, x9, x10, x11, .int .u32 ((q.e : Nat) : Int), x13, .int .u32 ((bg1 q.e : Nat) : Int), x15, x16, x17, x18, x19, x20, x21, x22, x23, x24, x25, x26, x27, x28, x29, x30, x31, x32, x33, x34, x35, x36, x37, x38, x39, y40, y41, y42, y43, y44, y45, y46, y47, x48, x49, x50, x51, x52, x53, x54, x55, x56, x57, x58, x59, x60, x61, x62, x63, x64, x65, x66, x67, x68, x69, x70, x71, x72, x73, x74, x75, x76, x77, x78, x79, x80, x81, x82, x83, x84, x85, x86, x87, x88, x89, x90, x91, x92, x93, x94, x95, x96, x97, x98, x99, x100, x101, x102, x103, x104, x105, x106, x107, x108, x109, x110, x111, x112, x113, x114, x115, x116, x117, x118, x119, x120, x121, x122, x123, x124, x125, x126, x127, x128], []⟩ w1) :
 Code.wp Tryz.prog (reg 10) Q ⟨#[x0, x1, x2, x3, x4, x5, x6, x7, x8, x9, x10, x11, .int .u32 ((q.e : Nat) : Int), x13, x14, x15, x16, x17, x18, x19, x20, x21, x22, x23, x24, x25, x26, x27, x28, x29, x30, x31, x32, x33, x34, x35, x36, x37, x38, x39, x40, x41, x42, x43, x44, x45, x46, x47, x48, x49, x50, x51, x52, x53, x54, x55, x56, x57, x58, x59, x60, x61, x62, x63, x64, x65, x66, x67, x68, x69, x70, x71, x72, x73, x74, x75, x76, x77, x78, x79, x80, x81, x82, x83, x84, x85, x86, x87, x88, x89, x90, x91, x92, x93, x94, x95, x96, x97, x98, x99, x100, x101, x102, x103, x104, x105, x106, x107, x108, x109, x110, x111, x112, x113, x114, x115, x116, x117, x118, x119, x120, x121, x122, x123, x124, x125, x126, x127, x128], []⟩ w0 := by
 have HK := lhd hK
 clear hK
 conv => arg 2; whnf
 go_wp2_with fail
 refine (turned_keep (Rows5 w s W q.l gw gk gs) q.e 6 _ _ rfl o (by omega) (by omega) R.out.drewN).mono ?_
 rintro e v0 ⟨rfl, hk⟩
 have R0 := lhd hk
 clear hk R
 go_wp2_with fail
 refine (turned_keep (Rows5 w s W q.l gw gk gs) q.e 11 _ _ rfl o (by omega) (by omega) R0.out.drewN).mono ?_
 rintro e v1 ⟨rfl, hk⟩
 have R1 := lhd hk
 clear hk R0
 go_wp2_with fail
 refine (turned_keep (Rows5 w s W q.l gw gk gs) q.e 25 _ _ rfl o (by omega) (by omega) R1.out.drewN).mono ?_
 rintro e v2 ⟨rfl, hk⟩
 have R2 := lhd hk
 clear hk R1
 have eb : bits .xor .u32 (bits .xor .u32 ((rotr q.e 6 : Nat) : Int) ((rotr q.e 11 : Nat) : Int)) ((rotr q.e 25 : Nat) : Int) = ((bg1 q.e : Nat) : Int) := bg_int _ _ _ (rotr_lt _ _ o) (rotr_lt _ _ o) (rotr_lt _ _ o)
 go_wp2
 exact HK.out _ _ _ _ _ _ _ _ _ R2
theorem L12 (w : World) (s W : List Nat) (q : St) (gw gk gs : Nat) (w0 : World) (R : Hid (Rows5 w s W q.l gw gk gs w0)) (o : q.a < 4294967296) {Q : Exit → Act → World → Prop} {x0 x1 x2 x3 x4 x5 x6 x7 x8 x9 x10 x12 x13 x14 x15 x16 x17 x18 x19 x20 x21 x22 x23 x24 x25 x26 x27 x28 x29 x30 x31 x32 x33 x34 x35 x36 x37 x38 x39 x40 x41 x42 x43 x44 x45 x46 x47 x48 x49 x50 x51 x52 x53 x54 x55 x56 x57 x58 x59 x60 x61 x62 x63 x64 x65 x66 x67 x68 x69 x70 x71 x72 x73 x74 x75 x76 x77 x78 x79 x80 x81 x82 x83 x84 x85 x86 x87 x88 x89 x90 x91 x92 x93 x94 x95 x96 x97 x98 x99 x100 x101 x102 x103 x104 x105 x106 x107 x108 x109 x110 x111 x112 x113 x114 x115 x116 x117 x118 x119 x120 x121 x122 x123 x124 x125 x126 x127 x128 : Value} (hK : ∀ (w1 : World) (y70 y71 y72 y73 y74 y75 y76 y77 : Value), Hid (Rows5 w s W q.l gw gk gs w1) → Q .normal ⟨#[x0, x1, x2, x3, x4, x5, x6, x7, x8, x9, x10, .int .u32 ((q.a : Nat) : Int), x12, x13, x14, x15, .int .u32 ((bg0 q.a : Nat) : Int), x17, x18, x19, x20, x21, x22, x23, x24, x25, x26, x27, x28, x29, x30, x31, x32, x33, x34, x35, x36, x37, x38, x39, x40, x41, x42, x43, x44, x45, x46, x47, x48, x49, x50, x51, x52, x53, x54, x55, x56, x57, x58, x59, x60, x61, x62, x63, x64, x65, x66, x67, x68, x69, y70, y71, y72, y73, y74, y75, y76, y77, x78, x79, x80, x81, x82, x83, x84, x85, x86, x87, x88, x89, x90, x91, x92, x93, x94, x95, x96, x97, x98, x99, x100, x101, x102, x103, x104, x105, x106, x107, x108, x109, x110, x111, x112, x113, x114, x115, x116, x117, x118, x119, x120, x121, x122, x123, x124, x125, x126, x127, x128], []⟩ w1) :
 Code.wp Tryz.prog (reg 12) Q ⟨#[x0, x1, x2, x3, x4, x5, x6, x7, x8, x9, x10, .int .u32 ((q.a : Nat) : Int), x12, x13, x14, x15, x16, x17, x18, x19, x20, x21, x22, x23, x24, x25, x26, x27, x28, x29, x30, x31, x32, x33, x34, x35, x36, x37, x38, x39, x40, x41, x42, x43, x44, x45, x46, x47, x48, x49, x50, x51, x52, x53, x54, x55, x56, x57, x58, x59, x60, x61, x62, x63, x64, x65, x66, x67, x68, x69, x70, x71, x72, x73, x74, x75, x76, x77, x78, x79, x80, x81, x82, x83, x84, x85, x86, x87, x88, x89, x90, x91, x92, x93, x94, x95, x96, x97, x98, x99, x100, x101, x102, x103, x104, x105, x106, x107, x108, x109, x110, x111, x112, x113, x114, x115, x116, x117, x118, x119, x120, x121, x122, x123, x124, x125, x126, x127, x128], []⟩ w0 := by
 have HK := lhd hK
 clear hK
 conv => arg 2; whnf
 go_wp2_with fail
 refine (turned_keep (Rows5 w s W q.l gw gk gs) q.a 2 _ _ rfl o (by omega) (by omega) R.out.drewN).mono ?_
 rintro e v0 ⟨rfl, hk⟩
 have R0 := lhd hk
 clear hk R
 go_wp2_with fail
 refine (turned_keep (Rows5 w s W q.l gw gk gs) q.a 13 _ _ rfl o (by omega) (by omega) R0.out.drewN).mono ?_
 rintro e v1 ⟨rfl, hk⟩
 have R1 := lhd hk
 clear hk R0
 go_wp2_with fail
 refine (turned_keep (Rows5 w s W q.l gw gk gs) q.a 22 _ _ rfl o (by omega) (by omega) R1.out.drewN).mono ?_
 rintro e v2 ⟨rfl, hk⟩
 have R2 := lhd hk
 clear hk R1
 have eb : bits .xor .u32 (bits .xor .u32 ((rotr q.a 2 : Nat) : Int) ((rotr q.a 13 : Nat) : Int)) ((rotr q.a 22 : Nat) : Int) = ((bg0 q.a : Nat) : Int) := bg_int _ _ _ (rotr_lt _ _ o) (rotr_lt _ _ o) (rotr_lt _ _ o)
 go_wp2
 exact HK.out _ _ _ _ _ _ _ _ _ R2
theorem L11 (w : World) (s W : List Nat) (q : St) (gw gk gs : Nat) (w0 : World) (R : Hid (Rows5 w s W q.l gw gk gs w0)) (t kt wt : Nat) (ht : t < 64) (CK : Hid ((ws kw)[t]? = some (.int .u32 (kt : Int)))) (CW : Hid ((ws W)[t]? = some (.int .u32 (wt : Int)))) (o5 : q.e < 4294967296) (o6 : q.f < 4294967296) (o7 : q.g < 4294967296) {Q : Exit → Act → World → Prop} {x0 x1 x2 x3 x4 x5 x7 x11 x15 x16 x17 x18 x19 x20 x21 x22 x23 x24 x25 x26 x27 x28 x29 x30 x31 x32 x33 x34 x35 x36 x37 x38 x39 x40 x41 x42 x43 x44 x45 x46 x47 x48 x49 x50 x51 x52 x53 x54 x55 x56 x57 x58 x59 x60 x61 x62 x63 x64 x65 x66 x67 x68 x69 x70 x71 x72 x73 x74 x75 x76 x77 x78 x79 x80 x81 x82 x83 x84 x85 x86 x87 x88 x89 x90 x91 x92 x93 x94 x95 x96 x97 x98 x99 x100 x101 x102 x103 x104 x105 x106 x107 x108 x109 x110 x111 x112 x113 x114 x115 x116 x117 x118 x119 x120 x121 x122 x123 x124 x125 x126 x127 x128 : Value} (hK : ∀ (w1 : World) (y48 y49 y50 y51 y52 y53 y54 y55 y56 y57 y58 y59 y60 y61 y62 y63 y64 y65 y66 y67 y68 y69 : Value), Hid (Rows5 w s W q.l gw gk gs w1) → Q .normal ⟨#[x0, x1, x2, x3, x4, x5, .pointer (some ⟨gw, 0, none⟩), x7, .pointer (some ⟨gk, 0, none⟩), .pointer (some ⟨gs, 0, none⟩), .int .i64 (t : Int), x11, .int .u32 ((q.e : Nat) : Int), .int .u32 ((q.g : Nat) : Int), .int .u32 ((bg1 q.e : Nat) : Int), .int .u32 ((t1 q kt wt : Nat) : Int), x16, x17, x18, x19, x20, x21, x22, x23, x24, x25, x26, x27, x28, x29, x30, x31, x32, x33, x34, x35, x36, x37, x38, x39, x40, x41, x42, x43, x44, x45, x46, x47, y48, y49, y50, y51, y52, y53, y54, y55, y56, y57, y58, y59, y60, y61, y62, y63, y64, y65, y66, y67, y68, y69, x70, x71, x72, x73, x74, x75, x76, x77, x78, x79, x80, x81, x82, x83, x84, x85, x86, x87, x88, x89, x90, x91, x92, x93, x94, x95, x96, x97, x98, x99, x100, x101, x102, x103, x104, x105, x106, x107, x108, x109, x110, x111, x112, x113, x114, x115, x116, x117, x118, x119, x120, x121, x122, x123, x124, x125, x126, x127, x128], []⟩ w1) :
 Code.wp Tryz.prog (reg 11) Q ⟨#[x0, x1, x2, x3, x4, x5, .pointer (some ⟨gw, 0, none⟩), x7, .pointer (some ⟨gk, 0, none⟩), .pointer (some ⟨gs, 0, none⟩), .int .i64 (t : Int), x11, .int .u32 ((q.e : Nat) : Int), .int .u32 ((q.g : Nat) : Int), .int .u32 ((bg1 q.e : Nat) : Int), x15, x16, x17, x18, x19, x20, x21, x22, x23, x24, x25, x26, x27, x28, x29, x30, x31, x32, x33, x34, x35, x36, x37, x38, x39, x40, x41, x42, x43, x44, x45, x46, x47, x48, x49, x50, x51, x52, x53, x54, x55, x56, x57, x58, x59, x60, x61, x62, x63, x64, x65, x66, x67, x68, x69, x70, x71, x72, x73, x74, x75, x76, x77, x78, x79, x80, x81, x82, x83, x84, x85, x86, x87, x88, x89, x90, x91, x92, x93, x94, x95, x96, x97, x98, x99, x100, x101, x102, x103, x104, x105, x106, x107, x108, x109, x110, x111, x112, x113, x114, x115, x116, x117, x118, x119, x120, x121, x122, x123, x124, x125, x126, x127, x128], []⟩ w0 := by
 have HK := lhd hK
 clear hK
 conv => arg 2; whnf
 have zt : (t : Int) < 64 := by omega
 have c7 := rcell R.out 7 (.int .u32 (q.h : Int)) rfl
 have c5 := rcell R.out 5 (.int .u32 (q.f : Int)) rfl
 have ck := (R.out.2.2.2.1.cell t).trans CK.out
 have cw := (R.out.2.2.1.cell t).trans CW.out
 have ech := ch_int q.e q.f q.g o5 o6 o7
 obtain ⟨T, hT⟩ : ∃ x, t1 q kt wt = x := ⟨_, rfl⟩
 rw [hT] at HK
 have eT : IntKind.u32.wrap (IntKind.u32.wrap (IntKind.u32.wrap (IntKind.u32.wrap ((q.h : Int) + (bg1 q.e : Int)) + (chs q.e q.f q.g : Int)) + (kt : Int)) + (wt : Int)) = (T : Int) := by
  rw [ad_int, ad_int, ad_int, ad_int, ← hT]; rfl
 clear hT
 go_wp2
 go_still (by kernel_rfl)
 exact HK.out _ _ _ _ _ _ _ _ _ _ _ _ _ _ _ _ _ _ _ _ _ _ _ R.out.drew
theorem L13 (w : World) (s W : List Nat) (q : St) (gw gk gs : Nat) (w0 : World) (R : Hid (Rows5 w s W q.l gw gk gs w0)) (o1 : q.a < 4294967296) (o2 : q.b < 4294967296) (o3 : q.c < 4294967296) {Q : Exit → Act → World → Prop} {x0 x1 x2 x3 x4 x5 x6 x7 x8 x10 x12 x13 x14 x15 x17 x18 x19 x20 x21 x22 x23 x24 x25 x26 x27 x28 x29 x30 x31 x32 x33 x34 x35 x36 x37 x38 x39 x40 x41 x42 x43 x44 x45 x46 x47 x48 x49 x50 x51 x52 x53 x54 x55 x56 x57 x58 x59 x60 x61 x62 x63 x64 x65 x66 x67 x68 x69 x70 x71 x72 x73 x74 x75 x76 x77 x78 x79 x80 x81 x82 x83 x84 x85 x86 x87 x88 x89 x90 x91 x92 x93 x94 x95 x96 x97 x98 x99 x100 x101 x102 x103 x104 x105 x106 x107 x108 x109 x110 x111 x112 x113 x114 x115 x116 x117 x118 x119 x120 x121 x122 x123 x124 x125 x126 x127 x128 : Value} (hK : ∀ (w1 : World) (y78 y79 y80 y81 y82 y83 y84 y85 y86 y87 y88 y89 y90 y91 y92 y93 y94 : Value), Hid (Rows5 w s W q.l gw gk gs w1) → Q .normal ⟨#[x0, x1, x2, x3, x4, x5, x6, x7, x8, .pointer (some ⟨gs, 0, none⟩), x10, .int .u32 ((q.a : Nat) : Int), x12, x13, x14, x15, .int .u32 ((bg0 q.a : Nat) : Int), .int .u32 ((ad (bg0 q.a) (mjr q.a q.b q.c) : Nat) : Int), x18, x19, x20, x21, x22, x23, x24, x25, x26, x27, x28, x29, x30, x31, x32, x33, x34, x35, x36, x37, x38, x39, x40, x41, x42, x43, x44, x45, x46, x47, x48, x49, x50, x51, x52, x53, x54, x55, x56, x57, x58, x59, x60, x61, x62, x63, x64, x65, x66, x67, x68, x69, x70, x71, x72, x73, x74, x75, x76, x77, y78, y79, y80, y81, y82, y83, y84, y85, y86, y87, y88, y89, y90, y91, y92, y93, y94, x95, x96, x97, x98, x99, x100, x101, x102, x103, x104, x105, x106, x107, x108, x109, x110, x111, x112, x113, x114, x115, x116, x117, x118, x119, x120, x121, x122, x123, x124, x125, x126, x127, x128], []⟩ w1) :
 Code.wp Tryz.prog (reg 13) Q ⟨#[x0, x1, x2, x3, x4, x5, x6, x7, x8, .pointer (some ⟨gs, 0, none⟩), x10, .int .u32 ((q.a : Nat) : Int), x12, x13, x14, x15, .int .u32 ((bg0 q.a : Nat) : Int), x17, x18, x19, x20, x21, x22, x23, x24, x25, x26, x27, x28, x29, x30, x31, x32, x33, x34, x35, x36, x37, x38, x39, x40, x41, x42, x43, x44, x45, x46, x47, x48, x49, x50, x51, x52, x53, x54, x55, x56, x57, x58, x59, x60, x61, x62, x63, x64, x65, x66, x67, x68, x69, x70, x71, x72, x73, x74, x75, x76, x77, x78, x79, x80, x81, x82, x83, x84, x85, x86, x87, x88, x89, x90, x91, x92, x93, x94, x95, x96, x97, x98, x99, x100, x101, x102, x103, x104, x105, x106, x107, x108, x109, x110, x111, x112, x113, x114, x115, x116, x117, x118, x119, x120, x121, x122, x123, x124, x125, x126, x127, x128], []⟩ w0 := by
 have HK := lhd hK
 clear hK
 conv => arg 2; whnf
 have c1 := rcell R.out 1 (.int .u32 (q.b : Int)) rfl
 have c2 := rcell R.out 2 (.int .u32 (q.c : Int)) rfl
 have emj := mj_int q.a q.b q.c o1 o2 o3
 have e17 : IntKind.u32.wrap ((bg0 q.a : Int) + (mjr q.a q.b q.c : Int)) = ((ad (bg0 q.a) (mjr q.a q.b q.c) : Nat) : Int) := ad_int _ _
 go_wp2
 exact HK.out _ _ _ _ _ _ _ _ _ _ _ _ _ _ _ _ _ _ R
theorem L14 (w : World) (s W : List Nat) (q : St) (gw gk gs : Nat) (w0 : World) (R : Hid (Rows5 w s W q.l gw gk gs w0)) (kt wt : Nat) (l0 : w.heap.size + 1 < gw) (l1 : gw < gk) (l2 : gk < gs) {Q : Exit → Act → World → Prop} {x0 x1 x2 x3 x4 x5 x6 x7 x8 x10 x11 x12 x13 x14 x16 x18 x19 x20 x21 x22 x23 x24 x25 x26 x27 x28 x29 x30 x31 x32 x33 x34 x35 x36 x37 x38 x39 x40 x41 x42 x43 x44 x45 x46 x47 x48 x49 x50 x51 x52 x53 x54 x55 x56 x57 x58 x59 x60 x61 x62 x63 x64 x65 x66 x67 x68 x69 x70 x71 x72 x73 x74 x75 x76 x77 x78 x79 x80 x81 x82 x83 x84 x85 x86 x87 x88 x89 x90 x91 x92 x93 x94 x95 x96 x97 x98 x99 x100 x101 x102 x103 x104 x105 x106 x107 x108 x109 x110 x111 x112 x113 x114 x115 x116 x117 x118 x119 x120 x121 x122 x123 x124 x125 x126 x127 x128 : Value} (hK : ∀ (w1 : World) (y95 y96 y97 y98 y99 y100 y101 y102 y103 y104 y105 y106 y107 y108 y109 y110 y111 y112 y113 y114 : Value), Hid (Rows5 w s W (rnd q kt wt).l gw gk gs w1) → Q .normal ⟨#[x0, x1, x2, x3, x4, x5, x6, x7, x8, .pointer (some ⟨gs, 0, none⟩), x10, x11, x12, x13, x14, .int .u32 ((t1 q kt wt : Nat) : Int), x16, .int .u32 ((ad (bg0 q.a) (mjr q.a q.b q.c) : Nat) : Int), x18, x19, x20, x21, x22, x23, x24, x25, x26, x27, x28, x29, x30, x31, x32, x33, x34, x35, x36, x37, x38, x39, x40, x41, x42, x43, x44, x45, x46, x47, x48, x49, x50, x51, x52, x53, x54, x55, x56, x57, x58, x59, x60, x61, x62, x63, x64, x65, x66, x67, x68, x69, x70, x71, x72, x73, x74, x75, x76, x77, x78, x79, x80, x81, x82, x83, x84, x85, x86, x87, x88, x89, x90, x91, x92, x93, x94, y95, y96, y97, y98, y99, y100, y101, y102, y103, y104, y105, y106, y107, y108, y109, y110, y111, y112, y113, y114, x115, x116, x117, x118, x119, x120, x121, x122, x123, x124, x125, x126, x127, x128], []⟩ w1) :
 Code.wp Tryz.prog (reg 14) Q ⟨#[x0, x1, x2, x3, x4, x5, x6, x7, x8, .pointer (some ⟨gs, 0, none⟩), x10, x11, x12, x13, x14, .int .u32 ((t1 q kt wt : Nat) : Int), x16, .int .u32 ((ad (bg0 q.a) (mjr q.a q.b q.c) : Nat) : Int), x18, x19, x20, x21, x22, x23, x24, x25, x26, x27, x28, x29, x30, x31, x32, x33, x34, x35, x36, x37, x38, x39, x40, x41, x42, x43, x44, x45, x46, x47, x48, x49, x50, x51, x52, x53, x54, x55, x56, x57, x58, x59, x60, x61, x62, x63, x64, x65, x66, x67, x68, x69, x70, x71, x72, x73, x74, x75, x76, x77, x78, x79, x80, x81, x82, x83, x84, x85, x86, x87, x88, x89, x90, x91, x92, x93, x94, x95, x96, x97, x98, x99, x100, x101, x102, x103, x104, x105, x106, x107, x108, x109, x110, x111, x112, x113, x114, x115, x116, x117, x118, x119, x120, x121, x122, x123, x124, x125, x126, x127, x128], []⟩ w0 := by
 have HK := lhd hK
 clear hK
 conv => arg 2; whnf
 have c0 := rcell R.out 0 (.int .u32 (q.a : Int)) rfl
 have c1 := rcell R.out 1 (.int .u32 (q.b : Int)) rfl
 have c2 := rcell R.out 2 (.int .u32 (q.c : Int)) rfl
 have c3 := rcell R.out 3 (.int .u32 (q.d : Int)) rfl
 have c4 := rcell R.out 4 (.int .u32 (q.e : Int)) rfl
 have c5 := rcell R.out 5 (.int .u32 (q.f : Int)) rfl
 have c6 := rcell R.out 6 (.int .u32 (q.g : Int)) rfl
 have B4 := lhd R.out.2.2.2.2.1
 obtain ⟨T, hT⟩ : ∃ x, t1 q kt wt = x := ⟨_, rfl⟩
 obtain ⟨U, hU⟩ : ∃ x, ad (bg0 q.a) (mjr q.a q.b q.c) = x := ⟨_, rfl⟩
 have HT := lhd hT
 have HU := lhd hU
 rw [hT, hU] at HK ⊢
 have eA : IntKind.u32.wrap ((T : Int) + (U : Int)) = ((ad T U : Nat) : Int) := ad_int _ _
 have eE : IntKind.u32.wrap ((q.d : Int) + (T : Int)) = ((ad q.d T : Nat) : Int) := ad_int _ _
 clear hT hU
 go_wp2_with (refine wpList_store_blk rfl 146 _ _ rfl gs _ (ws q.l) 146 rfl rfl B4.out s33 rfl (agg8_one _ _ _ _ _ _ _ _ _) ?_)
 refine HK.out _ _ _ _ _ _ _ _ _ _ _ _ _ _ _ _ _ _ _ _ _ ?_
 have h : (ws (rnd q kt wt).l) = [.int .u32 ((ad T U : Nat) : Int), .int .u32 (q.a : Int), .int .u32 (q.b : Int), .int .u32 (q.c : Int), .int .u32 ((ad q.d T : Nat) : Int), .int .u32 (q.e : Int), .int .u32 (q.f : Int), .int .u32 (q.g : Int)] := by rw [← HT.out, ← HU.out]; rfl
 refine ⟨R.out.1.setRowOther (by omega), R.out.2.1.setRowOther (by omega), R.out.2.2.1.setRowOther (by omega), R.out.2.2.2.1.setRowOther (by omega), ?_, below_setRow' R.out.2.2.2.2.2 (by omega) _⟩
 rw [h]
 exact B4.out.setRow
theorem L18 (w : World) (s W V : List Nat) (gw gk gs : Nat) (w0 : World) (R : Hid (Rows5 w s W V gw gk gs w0)) (i : Nat) (hi : i < 8) (hV : V.length = 8) (hs : s.length = 8) (l0 : w.heap.size + 1 < gw) (l1 : gw < gk) (l2 : gk < gs) {Q : Exit → Act → World → Prop} {x0 x1 x3 x4 x5 x6 x7 x8 x10 x11 x12 x13 x14 x15 x16 x17 x19 x20 x21 x22 x23 x24 x25 x26 x27 x28 x29 x30 x31 x32 x33 x34 x35 x36 x37 x38 x39 x40 x41 x42 x43 x44 x45 x46 x47 x48 x49 x50 x51 x52 x53 x54 x55 x56 x57 x58 x59 x60 x61 x62 x63 x64 x65 x66 x67 x68 x69 x70 x71 x72 x73 x74 x75 x76 x77 x78 x79 x80 x81 x82 x83 x84 x85 x86 x87 x88 x89 x90 x91 x92 x93 x94 x95 x96 x97 x98 x99 x100 x101 x102 x103 x104 x105 x106 x107 x108 x109 x110 x111 x112 x113 x114 x115 x116 x117 x118 x119 x120 x121 x122 x123 x124 x125 x126 x127 x128 : Value} (hK : ∀ (w1 : World) (y119 y120 y121 y122 y123 y124 y125 y126 y127 : Value), Hid (Rows5 w s W (V.set i (ad (V.getD i 0) (s.getD i 0))) gw gk gs w1) → Q .normal ⟨#[x0, x1, .pointer (some ⟨w.heap.size, 0, none⟩), x3, x4, x5, x6, x7, x8, .pointer (some ⟨gs, 0, none⟩), x10, x11, x12, x13, x14, x15, x16, x17, .int .i64 (i : Int), x19, x20, x21, x22, x23, x24, x25, x26, x27, x28, x29, x30, x31, x32, x33, x34, x35, x36, x37, x38, x39, x40, x41, x42, x43, x44, x45, x46, x47, x48, x49, x50, x51, x52, x53, x54, x55, x56, x57, x58, x59, x60, x61, x62, x63, x64, x65, x66, x67, x68, x69, x70, x71, x72, x73, x74, x75, x76, x77, x78, x79, x80, x81, x82, x83, x84, x85, x86, x87, x88, x89, x90, x91, x92, x93, x94, x95, x96, x97, x98, x99, x100, x101, x102, x103, x104, x105, x106, x107, x108, x109, x110, x111, x112, x113, x114, x115, x116, x117, x118, y119, y120, y121, y122, y123, y124, y125, y126, y127, x128], []⟩ w1) :
 Code.wp Tryz.prog (reg 18) Q ⟨#[x0, x1, .pointer (some ⟨w.heap.size, 0, none⟩), x3, x4, x5, x6, x7, x8, .pointer (some ⟨gs, 0, none⟩), x10, x11, x12, x13, x14, x15, x16, x17, .int .i64 (i : Int), x19, x20, x21, x22, x23, x24, x25, x26, x27, x28, x29, x30, x31, x32, x33, x34, x35, x36, x37, x38, x39, x40, x41, x42, x43, x44, x45, x46, x47, x48, x49, x50, x51, x52, x53, x54, x55, x56, x57, x58, x59, x60, x61, x62, x63, x64, x65, x66, x67, x68, x69, x70, x71, x72, x73, x74, x75, x76, x77, x78, x79, x80, x81, x82, x83, x84, x85, x86, x87, x88, x89, x90, x91, x92, x93, x94, x95, x96, x97, x98, x99, x100, x101, x102, x103, x104, x105, x106, x107, x108, x109, x110, x111, x112, x113, x114, x115, x116, x117, x118, x119, x120, x121, x122, x123, x124, x125, x126, x127, x128], []⟩ w0 := by
 have HK := lhd hK
 clear hK
 conv => arg 2; whnf
 have zi : (i : Int) < 8 := by omega
 have c1 := (R.out.2.2.2.2.1.cell i).trans (ws_cell V i (by omega))
 have c2 := (R.out.1.cell i).trans (ws_cell s i (by omega))
 have hf := R.out.2.2.2.2.1.frozen i
 obtain ⟨X, hX⟩ : ∃ x, V.getD i 0 = x := ⟨_, rfl⟩
 obtain ⟨Y, hY⟩ : ∃ x, s.getD i 0 = x := ⟨_, rfl⟩
 rw [hX] at c1 HK
 rw [hY] at c2 HK
 have eA : IntKind.u32.wrap ((X : Int) + (Y : Int)) = ((ad X Y : Nat) : Int) := ad_int _ _
 clear hX hY
 go_wp2
 go_still_tail 9, (by kernel_rfl)
 go_wp2
 refine HK.out _ _ _ _ _ _ _ _ _ _ ?_
 have e : (ws V).set i (.int .u32 ((ad X Y : Nat) : Int)) = ws (V.set i (ad X Y)) := ws_set V i _
 have h := (R.out.2.2.2.2.1.set i (.int .u32 ((ad X Y : Nat) : Int))).drew
 rw [e] at h
 exact ⟨(R.out.1.setOther _ _ (by simp; omega)).drew, (R.out.2.1.setOther _ _ (by simp; omega)).drew, (R.out.2.2.1.setOther _ _ (by simp; omega)).drew, (R.out.2.2.2.1.setOther _ _ (by simp; omega)).drew, h, (R.out.2.2.2.2.2.setCell (by simp; omega) _).drew⟩
theorem L7T (w0 : World) (t : Nat) (ht : t < 64) {Q : Exit → Act → World → Prop} {x0 x1 x2 x3 x4 x5 x6 x7 x8 x9 x11 x12 x13 x14 x15 x16 x17 x18 x19 x20 x21 x22 x23 x24 x25 x26 x27 x28 x29 x30 x31 x32 x33 x34 x35 x36 x37 x38 x39 x40 x41 x42 x43 x44 x45 x46 x47 x48 x49 x50 x51 x52 x53 x54 x55 x56 x57 x58 x59 x60 x61 x62 x63 x64 x65 x66 x67 x68 x69 x70 x71 x72 x73 x74 x75 x76 x77 x78 x79 x80 x81 x82 x83 x84 x85 x86 x87 x88 x89 x90 x91 x92 x93 x94 x95 x96 x97 x98 x99 x100 x101 x102 x103 x104 x105 x106 x107 x108 x109 x110 x111 x112 x113 x114 x115 x116 x117 x118 x119 x120 x121 x122 x123 x124 x125 x126 x127 x128 : Value} (hK : ∀ (w1 : World) (y30 : Value), w1 = w0 → Q .normal ⟨#[x0, x1, x2, x3, x4, x5, x6, x7, x8, x9, .int .i64 (t : Int), x11, x12, x13, x14, x15, x16, x17, x18, x19, x20, x21, x22, x23, x24, x25, x26, x27, x28, x29, y30, .bool true, x32, x33, x34, x35, x36, x37, x38, x39, x40, x41, x42, x43, x44, x45, x46, x47, x48, x49, x50, x51, x52, x53, x54, x55, x56, x57, x58, x59, x60, x61, x62, x63, x64, x65, x66, x67, x68, x69, x70, x71, x72, x73, x74, x75, x76, x77, x78, x79, x80, x81, x82, x83, x84, x85, x86, x87, x88, x89, x90, x91, x92, x93, x94, x95, x96, x97, x98, x99, x100, x101, x102, x103, x104, x105, x106, x107, x108, x109, x110, x111, x112, x113, x114, x115, x116, x117, x118, x119, x120, x121, x122, x123, x124, x125, x126, x127, x128], []⟩ w1) :
 Code.wp Tryz.prog (reg 7) Q ⟨#[x0, x1, x2, x3, x4, x5, x6, x7, x8, x9, .int .i64 (t : Int), x11, x12, x13, x14, x15, x16, x17, x18, x19, x20, x21, x22, x23, x24, x25, x26, x27, x28, x29, x30, x31, x32, x33, x34, x35, x36, x37, x38, x39, x40, x41, x42, x43, x44, x45, x46, x47, x48, x49, x50, x51, x52, x53, x54, x55, x56, x57, x58, x59, x60, x61, x62, x63, x64, x65, x66, x67, x68, x69, x70, x71, x72, x73, x74, x75, x76, x77, x78, x79, x80, x81, x82, x83, x84, x85, x86, x87, x88, x89, x90, x91, x92, x93, x94, x95, x96, x97, x98, x99, x100, x101, x102, x103, x104, x105, x106, x107, x108, x109, x110, x111, x112, x113, x114, x115, x116, x117, x118, x119, x120, x121, x122, x123, x124, x125, x126, x127, x128], []⟩ w0 := by
 have HK := lhd hK
 clear hK
 conv => arg 2; whnf
 have zt : (t : Int) < 64 := by omega
 go_wp2
 exact HK.out _ _ rfl
theorem L7F (w0 : World) {Q : Exit → Act → World → Prop} {x0 x1 x2 x3 x4 x5 x6 x7 x8 x9 x11 x12 x13 x14 x15 x16 x17 x18 x19 x20 x21 x22 x23 x24 x25 x26 x27 x28 x29 x30 x31 x32 x33 x34 x35 x36 x37 x38 x39 x40 x41 x42 x43 x44 x45 x46 x47 x48 x49 x50 x51 x52 x53 x54 x55 x56 x57 x58 x59 x60 x61 x62 x63 x64 x65 x66 x67 x68 x69 x70 x71 x72 x73 x74 x75 x76 x77 x78 x79 x80 x81 x82 x83 x84 x85 x86 x87 x88 x89 x90 x91 x92 x93 x94 x95 x96 x97 x98 x99 x100 x101 x102 x103 x104 x105 x106 x107 x108 x109 x110 x111 x112 x113 x114 x115 x116 x117 x118 x119 x120 x121 x122 x123 x124 x125 x126 x127 x128 : Value} (hK : ∀ (w1 : World) (y30 : Value), w1 = w0 → Q .normal ⟨#[x0, x1, x2, x3, x4, x5, x6, x7, x8, x9, .int .i64 64, x11, x12, x13, x14, x15, x16, x17, x18, x19, x20, x21, x22, x23, x24, x25, x26, x27, x28, x29, y30, .bool false, x32, x33, x34, x35, x36, x37, x38, x39, x40, x41, x42, x43, x44, x45, x46, x47, x48, x49, x50, x51, x52, x53, x54, x55, x56, x57, x58, x59, x60, x61, x62, x63, x64, x65, x66, x67, x68, x69, x70, x71, x72, x73, x74, x75, x76, x77, x78, x79, x80, x81, x82, x83, x84, x85, x86, x87, x88, x89, x90, x91, x92, x93, x94, x95, x96, x97, x98, x99, x100, x101, x102, x103, x104, x105, x106, x107, x108, x109, x110, x111, x112, x113, x114, x115, x116, x117, x118, x119, x120, x121, x122, x123, x124, x125, x126, x127, x128], []⟩ w1) :
 Code.wp Tryz.prog (reg 7) Q ⟨#[x0, x1, x2, x3, x4, x5, x6, x7, x8, x9, .int .i64 64, x11, x12, x13, x14, x15, x16, x17, x18, x19, x20, x21, x22, x23, x24, x25, x26, x27, x28, x29, x30, x31, x32, x33, x34, x35, x36, x37, x38, x39, x40, x41, x42, x43, x44, x45, x46, x47, x48, x49, x50, x51, x52, x53, x54, x55, x56, x57, x58, x59, x60, x61, x62, x63, x64, x65, x66, x67, x68, x69, x70, x71, x72, x73, x74, x75, x76, x77, x78, x79, x80, x81, x82, x83, x84, x85, x86, x87, x88, x89, x90, x91, x92, x93, x94, x95, x96, x97, x98, x99, x100, x101, x102, x103, x104, x105, x106, x107, x108, x109, x110, x111, x112, x113, x114, x115, x116, x117, x118, x119, x120, x121, x122, x123, x124, x125, x126, x127, x128], []⟩ w0 := by
 have HK := lhd hK
 clear hK
 conv => arg 2; whnf
 go_wp2
 exact HK.out _ _ rfl
theorem L8 (w0 : World) (t : Nat) (ht : t < 64) {Q : Exit → Act → World → Prop} {x0 x1 x2 x3 x4 x5 x6 x7 x8 x9 x11 x12 x13 x14 x15 x16 x17 x18 x19 x20 x21 x22 x23 x24 x25 x26 x27 x28 x29 x30 x31 x32 x33 x34 x35 x36 x37 x38 x39 x40 x41 x42 x43 x44 x45 x46 x47 x48 x49 x50 x51 x52 x53 x54 x55 x56 x57 x58 x59 x60 x61 x62 x63 x64 x65 x66 x67 x68 x69 x70 x71 x72 x73 x74 x75 x76 x77 x78 x79 x80 x81 x82 x83 x84 x85 x86 x87 x88 x89 x90 x91 x92 x93 x94 x95 x96 x97 x98 x99 x100 x101 x102 x103 x104 x105 x106 x107 x108 x109 x110 x111 x112 x113 x114 x115 x116 x117 x118 x119 x120 x121 x122 x123 x124 x125 x126 x127 x128 : Value} (hK : ∀ (w1 : World) (y32 y33 : Value), w1 = w0 → Q .normal ⟨#[x0, x1, x2, x3, x4, x5, x6, x7, x8, x9, .int .i64 ((t + 1 : Nat) : Int), x11, x12, x13, x14, x15, x16, x17, x18, x19, x20, x21, x22, x23, x24, x25, x26, x27, x28, x29, x30, x31, y32, y33, x34, x35, x36, x37, x38, x39, x40, x41, x42, x43, x44, x45, x46, x47, x48, x49, x50, x51, x52, x53, x54, x55, x56, x57, x58, x59, x60, x61, x62, x63, x64, x65, x66, x67, x68, x69, x70, x71, x72, x73, x74, x75, x76, x77, x78, x79, x80, x81, x82, x83, x84, x85, x86, x87, x88, x89, x90, x91, x92, x93, x94, x95, x96, x97, x98, x99, x100, x101, x102, x103, x104, x105, x106, x107, x108, x109, x110, x111, x112, x113, x114, x115, x116, x117, x118, x119, x120, x121, x122, x123, x124, x125, x126, x127, x128], []⟩ w1) :
 Code.wp Tryz.prog (reg 8) Q ⟨#[x0, x1, x2, x3, x4, x5, x6, x7, x8, x9, .int .i64 (t : Int), x11, x12, x13, x14, x15, x16, x17, x18, x19, x20, x21, x22, x23, x24, x25, x26, x27, x28, x29, x30, x31, x32, x33, x34, x35, x36, x37, x38, x39, x40, x41, x42, x43, x44, x45, x46, x47, x48, x49, x50, x51, x52, x53, x54, x55, x56, x57, x58, x59, x60, x61, x62, x63, x64, x65, x66, x67, x68, x69, x70, x71, x72, x73, x74, x75, x76, x77, x78, x79, x80, x81, x82, x83, x84, x85, x86, x87, x88, x89, x90, x91, x92, x93, x94, x95, x96, x97, x98, x99, x100, x101, x102, x103, x104, x105, x106, x107, x108, x109, x110, x111, x112, x113, x114, x115, x116, x117, x118, x119, x120, x121, x122, x123, x124, x125, x126, x127, x128], []⟩ w0 := by
 have HK := lhd hK
 clear hK
 conv => arg 2; whnf
 have e : ((t + 1 : Nat) : Int) = (t : Int) + 1 := by omega
 rw [e] at HK
 have zt : (t : Int) < 64 := by omega
 clear e
 go_wp2
 exact HK.out _ _ _ rfl
theorem L16T (w0 : World) (i : Nat) (hi : i < 8) {Q : Exit → Act → World → Prop} {x0 x1 x2 x3 x4 x5 x6 x7 x8 x9 x10 x11 x12 x13 x14 x15 x16 x17 x19 x20 x21 x22 x23 x24 x25 x26 x27 x28 x29 x30 x31 x32 x33 x34 x35 x36 x37 x38 x39 x40 x41 x42 x43 x44 x45 x46 x47 x48 x49 x50 x51 x52 x53 x54 x55 x56 x57 x58 x59 x60 x61 x62 x63 x64 x65 x66 x67 x68 x69 x70 x71 x72 x73 x74 x75 x76 x77 x78 x79 x80 x81 x82 x83 x84 x85 x86 x87 x88 x89 x90 x91 x92 x93 x94 x95 x96 x97 x98 x99 x100 x101 x102 x103 x104 x105 x106 x107 x108 x109 x110 x111 x112 x113 x114 x115 x116 x117 x118 x119 x120 x121 x122 x123 x124 x125 x126 x127 x128 : Value} (hK : ∀ (w1 : World) (y115 : Value), w1 = w0 → Q .normal ⟨#[x0, x1, x2, x3, x4, x5, x6, x7, x8, x9, x10, x11, x12, x13, x14, x15, x16, x17, .int .i64 (i : Int), x19, x20, x21, x22, x23, x24, x25, x26, x27, x28, x29, x30, x31, x32, x33, x34, x35, x36, x37, x38, x39, x40, x41, x42, x43, x44, x45, x46, x47, x48, x49, x50, x51, x52, x53, x54, x55, x56, x57, x58, x59, x60, x61, x62, x63, x64, x65, x66, x67, x68, x69, x70, x71, x72, x73, x74, x75, x76, x77, x78, x79, x80, x81, x82, x83, x84, x85, x86, x87, x88, x89, x90, x91, x92, x93, x94, x95, x96, x97, x98, x99, x100, x101, x102, x103, x104, x105, x106, x107, x108, x109, x110, x111, x112, x113, x114, y115, .bool true, x117, x118, x119, x120, x121, x122, x123, x124, x125, x126, x127, x128], []⟩ w1) :
 Code.wp Tryz.prog (reg 16) Q ⟨#[x0, x1, x2, x3, x4, x5, x6, x7, x8, x9, x10, x11, x12, x13, x14, x15, x16, x17, .int .i64 (i : Int), x19, x20, x21, x22, x23, x24, x25, x26, x27, x28, x29, x30, x31, x32, x33, x34, x35, x36, x37, x38, x39, x40, x41, x42, x43, x44, x45, x46, x47, x48, x49, x50, x51, x52, x53, x54, x55, x56, x57, x58, x59, x60, x61, x62, x63, x64, x65, x66, x67, x68, x69, x70, x71, x72, x73, x74, x75, x76, x77, x78, x79, x80, x81, x82, x83, x84, x85, x86, x87, x88, x89, x90, x91, x92, x93, x94, x95, x96, x97, x98, x99, x100, x101, x102, x103, x104, x105, x106, x107, x108, x109, x110, x111, x112, x113, x114, x115, x116, x117, x118, x119, x120, x121, x122, x123, x124, x125, x126, x127, x128], []⟩ w0 := by
 have HK := lhd hK
 clear hK
 conv => arg 2; whnf
 have zt : (i : Int) < 8 := by omega
 go_wp2
 exact HK.out _ _ rfl
theorem L16F (w0 : World) {Q : Exit → Act → World → Prop} {x0 x1 x2 x3 x4 x5 x6 x7 x8 x9 x10 x11 x12 x13 x14 x15 x16 x17 x19 x20 x21 x22 x23 x24 x25 x26 x27 x28 x29 x30 x31 x32 x33 x34 x35 x36 x37 x38 x39 x40 x41 x42 x43 x44 x45 x46 x47 x48 x49 x50 x51 x52 x53 x54 x55 x56 x57 x58 x59 x60 x61 x62 x63 x64 x65 x66 x67 x68 x69 x70 x71 x72 x73 x74 x75 x76 x77 x78 x79 x80 x81 x82 x83 x84 x85 x86 x87 x88 x89 x90 x91 x92 x93 x94 x95 x96 x97 x98 x99 x100 x101 x102 x103 x104 x105 x106 x107 x108 x109 x110 x111 x112 x113 x114 x115 x116 x117 x118 x119 x120 x121 x122 x123 x124 x125 x126 x127 x128 : Value} (hK : ∀ (w1 : World) (y115 : Value), w1 = w0 → Q .normal ⟨#[x0, x1, x2, x3, x4, x5, x6, x7, x8, x9, x10, x11, x12, x13, x14, x15, x16, x17, .int .i64 8, x19, x20, x21, x22, x23, x24, x25, x26, x27, x28, x29, x30, x31, x32, x33, x34, x35, x36, x37, x38, x39, x40, x41, x42, x43, x44, x45, x46, x47, x48, x49, x50, x51, x52, x53, x54, x55, x56, x57, x58, x59, x60, x61, x62, x63, x64, x65, x66, x67, x68, x69, x70, x71, x72, x73, x74, x75, x76, x77, x78, x79, x80, x81, x82, x83, x84, x85, x86, x87, x88, x89, x90, x91, x92, x93, x94, x95, x96, x97, x98, x99, x100, x101, x102, x103, x104, x105, x106, x107, x108, x109, x110, x111, x112, x113, x114, y115, .bool false, x117, x118, x119, x120, x121, x122, x123, x124, x125, x126, x127, x128], []⟩ w1) :
 Code.wp Tryz.prog (reg 16) Q ⟨#[x0, x1, x2, x3, x4, x5, x6, x7, x8, x9, x10, x11, x12, x13, x14, x15, x16, x17, .int .i64 8, x19, x20, x21, x22, x23, x24, x25, x26, x27, x28, x29, x30, x31, x32, x33, x34, x35, x36, x37, x38, x39, x40, x41, x42, x43, x44, x45, x46, x47, x48, x49, x50, x51, x52, x53, x54, x55, x56, x57, x58, x59, x60, x61, x62, x63, x64, x65, x66, x67, x68, x69, x70, x71, x72, x73, x74, x75, x76, x77, x78, x79, x80, x81, x82, x83, x84, x85, x86, x87, x88, x89, x90, x91, x92, x93, x94, x95, x96, x97, x98, x99, x100, x101, x102, x103, x104, x105, x106, x107, x108, x109, x110, x111, x112, x113, x114, x115, x116, x117, x118, x119, x120, x121, x122, x123, x124, x125, x126, x127, x128], []⟩ w0 := by
 have HK := lhd hK
 clear hK
 conv => arg 2; whnf
 go_wp2
 exact HK.out _ _ rfl
theorem L17 (w0 : World) (i : Nat) (hi : i < 8) {Q : Exit → Act → World → Prop} {x0 x1 x2 x3 x4 x5 x6 x7 x8 x9 x10 x11 x12 x13 x14 x15 x16 x17 x19 x20 x21 x22 x23 x24 x25 x26 x27 x28 x29 x30 x31 x32 x33 x34 x35 x36 x37 x38 x39 x40 x41 x42 x43 x44 x45 x46 x47 x48 x49 x50 x51 x52 x53 x54 x55 x56 x57 x58 x59 x60 x61 x62 x63 x64 x65 x66 x67 x68 x69 x70 x71 x72 x73 x74 x75 x76 x77 x78 x79 x80 x81 x82 x83 x84 x85 x86 x87 x88 x89 x90 x91 x92 x93 x94 x95 x96 x97 x98 x99 x100 x101 x102 x103 x104 x105 x106 x107 x108 x109 x110 x111 x112 x113 x114 x115 x116 x117 x118 x119 x120 x121 x122 x123 x124 x125 x126 x127 x128 : Value} (hK : ∀ (w1 : World) (y117 y118 : Value), w1 = w0 → Q .normal ⟨#[x0, x1, x2, x3, x4, x5, x6, x7, x8, x9, x10, x11, x12, x13, x14, x15, x16, x17, .int .i64 ((i + 1 : Nat) : Int), x19, x20, x21, x22, x23, x24, x25, x26, x27, x28, x29, x30, x31, x32, x33, x34, x35, x36, x37, x38, x39, x40, x41, x42, x43, x44, x45, x46, x47, x48, x49, x50, x51, x52, x53, x54, x55, x56, x57, x58, x59, x60, x61, x62, x63, x64, x65, x66, x67, x68, x69, x70, x71, x72, x73, x74, x75, x76, x77, x78, x79, x80, x81, x82, x83, x84, x85, x86, x87, x88, x89, x90, x91, x92, x93, x94, x95, x96, x97, x98, x99, x100, x101, x102, x103, x104, x105, x106, x107, x108, x109, x110, x111, x112, x113, x114, x115, x116, y117, y118, x119, x120, x121, x122, x123, x124, x125, x126, x127, x128], []⟩ w1) :
 Code.wp Tryz.prog (reg 17) Q ⟨#[x0, x1, x2, x3, x4, x5, x6, x7, x8, x9, x10, x11, x12, x13, x14, x15, x16, x17, .int .i64 (i : Int), x19, x20, x21, x22, x23, x24, x25, x26, x27, x28, x29, x30, x31, x32, x33, x34, x35, x36, x37, x38, x39, x40, x41, x42, x43, x44, x45, x46, x47, x48, x49, x50, x51, x52, x53, x54, x55, x56, x57, x58, x59, x60, x61, x62, x63, x64, x65, x66, x67, x68, x69, x70, x71, x72, x73, x74, x75, x76, x77, x78, x79, x80, x81, x82, x83, x84, x85, x86, x87, x88, x89, x90, x91, x92, x93, x94, x95, x96, x97, x98, x99, x100, x101, x102, x103, x104, x105, x106, x107, x108, x109, x110, x111, x112, x113, x114, x115, x116, x117, x118, x119, x120, x121, x122, x123, x124, x125, x126, x127, x128], []⟩ w0 := by
 have HK := lhd hK
 clear hK
 conv => arg 2; whnf
 have e : ((i + 1 : Nat) : Int) = (i : Int) + 1 := by omega
 rw [e] at HK
 have zt : (i : Int) < 8 := by omega
 clear e
 go_wp2
 exact HK.out _ _ _ rfl
noncomputable def body1 : Code := .seq (.seq (reg 7) (.cond (.tmp 31) .skip (.exit 0))) (.seq (.block 1 (.seq (reg 9) (.seq (reg 10) (.seq (reg 11) (.seq (reg 12) (.seq (reg 13) (reg 14))))))) (reg 8))
noncomputable def body2 : Code := .seq (.seq (reg 16) (.cond (.tmp 116) .skip (.exit 2))) (.seq (.block 3 (reg 18)) (reg 17))
def Sh1 (w : World) (gw gk gs t : Nat) (J : Nat → Value) : Act := ⟨#[J 0, J 1, .pointer (some ⟨w.heap.size, 0, none⟩), J 3, .pointer (some ⟨w.heap.size + 1, 0, none⟩), J 5, .pointer (some ⟨gw, 0, none⟩), J 7, .pointer (some ⟨gk, 0, none⟩), .pointer (some ⟨gs, 0, none⟩), .int .i64 (t : Int), J 11, J 12, J 13, J 14, J 15, J 16, J 17, J 18, J 19, J 20, J 21, J 22, J 23, J 24, J 25, J 26, J 27, J 28, J 29, J 30, J 31, J 32, J 33, J 34, J 35, J 36, J 37, J 38, J 39, J 40, J 41, J 42, J 43, J 44, J 45, J 46, J 47, J 48, J 49, J 50, J 51, J 52, J 53, J 54, J 55, J 56, J 57, J 58, J 59, J 60, J 61, J 62, J 63, J 64, J 65, J 66, J 67, J 68, J 69, J 70, J 71, J 72, J 73, J 74, J 75, J 76, J 77, J 78, J 79, J 80, J 81, J 82, J 83, J 84, J 85, J 86, J 87, J 88, J 89, J 90, J 91, J 92, J 93, J 94, J 95, J 96, J 97, J 98, J 99, J 100, J 101, J 102, J 103, J 104, J 105, J 106, J 107, J 108, J 109, J 110, J 111, J 112, J 113, J 114, J 115, J 116, J 117, J 118, J 119, J 120, J 121, J 122, J 123, J 124, J 125, J 126, J 127, J 128], []⟩
theorem Sh1_to (w : World) (gw gk gs t : Nat) {Q : Exit → Act → World → Prop} {e : Exit} {w' : World} {x0 x1 x3 x5 x7 x11 x12 x13 x14 x15 x16 x17 x18 x19 x20 x21 x22 x23 x24 x25 x26 x27 x28 x29 x30 x31 x32 x33 x34 x35 x36 x37 x38 x39 x40 x41 x42 x43 x44 x45 x46 x47 x48 x49 x50 x51 x52 x53 x54 x55 x56 x57 x58 x59 x60 x61 x62 x63 x64 x65 x66 x67 x68 x69 x70 x71 x72 x73 x74 x75 x76 x77 x78 x79 x80 x81 x82 x83 x84 x85 x86 x87 x88 x89 x90 x91 x92 x93 x94 x95 x96 x97 x98 x99 x100 x101 x102 x103 x104 x105 x106 x107 x108 x109 x110 x111 x112 x113 x114 x115 x116 x117 x118 x119 x120 x121 x122 x123 x124 x125 x126 x127 x128 : Value} (h : ∀ J, Q e (Sh1 w gw gk gs t J) w') : Q e ⟨#[x0, x1, .pointer (some ⟨w.heap.size, 0, none⟩), x3, .pointer (some ⟨w.heap.size + 1, 0, none⟩), x5, .pointer (some ⟨gw, 0, none⟩), x7, .pointer (some ⟨gk, 0, none⟩), .pointer (some ⟨gs, 0, none⟩), .int .i64 (t : Int), x11, x12, x13, x14, x15, x16, x17, x18, x19, x20, x21, x22, x23, x24, x25, x26, x27, x28, x29, x30, x31, x32, x33, x34, x35, x36, x37, x38, x39, x40, x41, x42, x43, x44, x45, x46, x47, x48, x49, x50, x51, x52, x53, x54, x55, x56, x57, x58, x59, x60, x61, x62, x63, x64, x65, x66, x67, x68, x69, x70, x71, x72, x73, x74, x75, x76, x77, x78, x79, x80, x81, x82, x83, x84, x85, x86, x87, x88, x89, x90, x91, x92, x93, x94, x95, x96, x97, x98, x99, x100, x101, x102, x103, x104, x105, x106, x107, x108, x109, x110, x111, x112, x113, x114, x115, x116, x117, x118, x119, x120, x121, x122, x123, x124, x125, x126, x127, x128], []⟩ w' :=
 h (fun i => ([x0, x1, undef, x3, undef, x5, undef, x7, undef, undef, undef, x11, x12, x13, x14, x15, x16, x17, x18, x19, x20, x21, x22, x23, x24, x25, x26, x27, x28, x29, x30, x31, x32, x33, x34, x35, x36, x37, x38, x39, x40, x41, x42, x43, x44, x45, x46, x47, x48, x49, x50, x51, x52, x53, x54, x55, x56, x57, x58, x59, x60, x61, x62, x63, x64, x65, x66, x67, x68, x69, x70, x71, x72, x73, x74, x75, x76, x77, x78, x79, x80, x81, x82, x83, x84, x85, x86, x87, x88, x89, x90, x91, x92, x93, x94, x95, x96, x97, x98, x99, x100, x101, x102, x103, x104, x105, x106, x107, x108, x109, x110, x111, x112, x113, x114, x115, x116, x117, x118, x119, x120, x121, x122, x123, x124, x125, x126, x127, x128] : List Value).getD i undef)
def Sh2 (w : World) (gs i : Nat) (J : Nat → Value) : Act := ⟨#[J 0, J 1, .pointer (some ⟨w.heap.size, 0, none⟩), J 3, .pointer (some ⟨w.heap.size + 1, 0, none⟩), J 5, J 6, J 7, J 8, .pointer (some ⟨gs, 0, none⟩), J 10, J 11, J 12, J 13, J 14, J 15, J 16, J 17, .int .i64 (i : Int), J 19, J 20, J 21, J 22, J 23, J 24, J 25, J 26, J 27, J 28, J 29, J 30, J 31, J 32, J 33, J 34, J 35, J 36, J 37, J 38, J 39, J 40, J 41, J 42, J 43, J 44, J 45, J 46, J 47, J 48, J 49, J 50, J 51, J 52, J 53, J 54, J 55, J 56, J 57, J 58, J 59, J 60, J 61, J 62, J 63, J 64, J 65, J 66, J 67, J 68, J 69, J 70, J 71, J 72, J 73, J 74, J 75, J 76, J 77, J 78, J 79, J 80, J 81, J 82, J 83, J 84, J 85, J 86, J 87, J 88, J 89, J 90, J 91, J 92, J 93, J 94, J 95, J 96, J 97, J 98, J 99, J 100, J 101, J 102, J 103, J 104, J 105, J 106, J 107, J 108, J 109, J 110, J 111, J 112, J 113, J 114, J 115, J 116, J 117, J 118, J 119, J 120, J 121, J 122, J 123, J 124, J 125, J 126, J 127, J 128], []⟩
theorem Sh2_to (w : World) (gs i : Nat) {Q : Exit → Act → World → Prop} {e : Exit} {w' : World} {x0 x1 x3 x5 x6 x7 x8 x10 x11 x12 x13 x14 x15 x16 x17 x19 x20 x21 x22 x23 x24 x25 x26 x27 x28 x29 x30 x31 x32 x33 x34 x35 x36 x37 x38 x39 x40 x41 x42 x43 x44 x45 x46 x47 x48 x49 x50 x51 x52 x53 x54 x55 x56 x57 x58 x59 x60 x61 x62 x63 x64 x65 x66 x67 x68 x69 x70 x71 x72 x73 x74 x75 x76 x77 x78 x79 x80 x81 x82 x83 x84 x85 x86 x87 x88 x89 x90 x91 x92 x93 x94 x95 x96 x97 x98 x99 x100 x101 x102 x103 x104 x105 x106 x107 x108 x109 x110 x111 x112 x113 x114 x115 x116 x117 x118 x119 x120 x121 x122 x123 x124 x125 x126 x127 x128 : Value} (h : ∀ J, Q e (Sh2 w gs i J) w') : Q e ⟨#[x0, x1, .pointer (some ⟨w.heap.size, 0, none⟩), x3, .pointer (some ⟨w.heap.size + 1, 0, none⟩), x5, x6, x7, x8, .pointer (some ⟨gs, 0, none⟩), x10, x11, x12, x13, x14, x15, x16, x17, .int .i64 (i : Int), x19, x20, x21, x22, x23, x24, x25, x26, x27, x28, x29, x30, x31, x32, x33, x34, x35, x36, x37, x38, x39, x40, x41, x42, x43, x44, x45, x46, x47, x48, x49, x50, x51, x52, x53, x54, x55, x56, x57, x58, x59, x60, x61, x62, x63, x64, x65, x66, x67, x68, x69, x70, x71, x72, x73, x74, x75, x76, x77, x78, x79, x80, x81, x82, x83, x84, x85, x86, x87, x88, x89, x90, x91, x92, x93, x94, x95, x96, x97, x98, x99, x100, x101, x102, x103, x104, x105, x106, x107, x108, x109, x110, x111, x112, x113, x114, x115, x116, x117, x118, x119, x120, x121, x122, x123, x124, x125, x126, x127, x128], []⟩ w' :=
 h (fun i => ([x0, x1, undef, x3, undef, x5, x6, x7, x8, undef, x10, x11, x12, x13, x14, x15, x16, x17, undef, x19, x20, x21, x22, x23, x24, x25, x26, x27, x28, x29, x30, x31, x32, x33, x34, x35, x36, x37, x38, x39, x40, x41, x42, x43, x44, x45, x46, x47, x48, x49, x50, x51, x52, x53, x54, x55, x56, x57, x58, x59, x60, x61, x62, x63, x64, x65, x66, x67, x68, x69, x70, x71, x72, x73, x74, x75, x76, x77, x78, x79, x80, x81, x82, x83, x84, x85, x86, x87, x88, x89, x90, x91, x92, x93, x94, x95, x96, x97, x98, x99, x100, x101, x102, x103, x104, x105, x106, x107, x108, x109, x110, x111, x112, x113, x114, x115, x116, x117, x118, x119, x120, x121, x122, x123, x124, x125, x126, x127, x128] : List Value).getD i undef)
theorem round1 (w : World) (s W : List Nat) (gw gk gs : Nat) (l0 : w.heap.size + 1 < gw) (l1 : gw < gk) (l2 : gk < gs) (w0 : World) (t : Nat) (ht : t < 64) (hs32 : W32 s) (hWl : W.length = 64) (R : Hid (Rows5 w s W (rnds (St.of s) kw W t).l gw gk gs w0)) {Q : Exit → Act → World → Prop} {x0 x1 x3 x5 x7 x11 x12 x13 x14 x15 x16 x17 x18 x19 x20 x21 x22 x23 x24 x25 x26 x27 x28 x29 x30 x31 x32 x33 x34 x35 x36 x37 x38 x39 x40 x41 x42 x43 x44 x45 x46 x47 x48 x49 x50 x51 x52 x53 x54 x55 x56 x57 x58 x59 x60 x61 x62 x63 x64 x65 x66 x67 x68 x69 x70 x71 x72 x73 x74 x75 x76 x77 x78 x79 x80 x81 x82 x83 x84 x85 x86 x87 x88 x89 x90 x91 x92 x93 x94 x95 x96 x97 x98 x99 x100 x101 x102 x103 x104 x105 x106 x107 x108 x109 x110 x111 x112 x113 x114 x115 x116 x117 x118 x119 x120 x121 x122 x123 x124 x125 x126 x127 x128 : Value}
 (hK : ∀ J w1, Hid (Rows5 w s W (rnds (St.of s) kw W (t + 1)).l gw gk gs w1) → Q .normal (Sh1 w gw gk gs (t + 1) J) w1) :
 Code.wp Tryz.prog body1 Q ⟨#[x0, x1, .pointer (some ⟨w.heap.size, 0, none⟩), x3, .pointer (some ⟨w.heap.size + 1, 0, none⟩), x5, .pointer (some ⟨gw, 0, none⟩), x7, .pointer (some ⟨gk, 0, none⟩), .pointer (some ⟨gs, 0, none⟩), .int .i64 (t : Int), x11, x12, x13, x14, x15, x16, x17, x18, x19, x20, x21, x22, x23, x24, x25, x26, x27, x28, x29, x30, x31, x32, x33, x34, x35, x36, x37, x38, x39, x40, x41, x42, x43, x44, x45, x46, x47, x48, x49, x50, x51, x52, x53, x54, x55, x56, x57, x58, x59, x60, x61, x62, x63, x64, x65, x66, x67, x68, x69, x70, x71, x72, x73, x74, x75, x76, x77, x78, x79, x80, x81, x82, x83, x84, x85, x86, x87, x88, x89, x90, x91, x92, x93, x94, x95, x96, x97, x98, x99, x100, x101, x102, x103, x104, x105, x106, x107, x108, x109, x110, x111, x112, x113, x114, x115, x116, x117, x118, x119, x120, x121, x122, x123, x124, x125, x126, x127, x128], []⟩ w0 := by
 obtain ⟨q, hq⟩ : ∃ q, rnds (St.of s) kw W t = q := ⟨_, rfl⟩
 have hok : q.ok := by rw [← hq]; exact rnds_ok _ _ _ (St.of_ok hs32) t
 obtain ⟨kt, hkt⟩ : ∃ x, kw.getD t 0 = x := ⟨_, rfl⟩
 obtain ⟨wt, hwt⟩ : ∃ x, W.getD t 0 = x := ⟨_, rfl⟩
 have CK : Hid ((ws kw)[t]? = some (.int .u32 (kt : Int))) := by rw [← hkt]; exact ws_cell kw t (by rw [kw_length]; exact ht)
 have CW : Hid ((ws W)[t]? = some (.int .u32 (wt : Int))) := by rw [← hwt]; exact ws_cell W t (by rw [hWl]; exact ht)
 have HQ : rnds (St.of s) kw W (t + 1) = rnd q kt wt := by subst hkt hwt; rw [rnds, hq]
 rw [HQ] at hK
 rw [hq] at R
 obtain ⟨o1, o2, o3, o4, o5, o6, o7, o8⟩ := hok
 unfold body1
 refine wp_seq (wp_seq (L7T _ t ht ?_))
 intro w1 y30 hw
 subst hw
 refine wp_cond_true rfl (wp_skip ?_)
 refine wp_seq (wp_block (wp_seq (L9 w s W q gw gk gs _ R ?_)))
 intro w1 y34 y35 y36 y37 y38 y39 R
 refine wp_seq (L10 w s W q gw gk gs _ R o5 ?_)
 intro w1 y40 y41 y42 y43 y44 y45 y46 y47 R
 refine wp_seq (L11 w s W q gw gk gs _ R t kt wt ht CK CW o5 o6 o7 ?_)
 intro w1 y48 y49 y50 y51 y52 y53 y54 y55 y56 y57 y58 y59 y60 y61 y62 y63 y64 y65 y66 y67 y68 y69 R
 refine wp_seq (L12 w s W q gw gk gs _ R o1 ?_)
 intro w1 y70 y71 y72 y73 y74 y75 y76 y77 R
 refine wp_seq (L13 w s W q gw gk gs _ R o1 o2 o3 ?_)
 intro w1 y78 y79 y80 y81 y82 y83 y84 y85 y86 y87 y88 y89 y90 y91 y92 y93 y94 R
 refine L14 w s W q gw gk gs _ R kt wt l0 l1 l2 ?_
 intro w1 y95 y96 y97 y98 y99 y100 y101 y102 y103 y104 y105 y106 y107 y108 y109 y110 y111 y112 y113 y114 R
 refine L8 _ t ht ?_
 intro w1 y32 y33 hw
 subst hw
 exact Sh1_to w gw gk gs (t + 1) (fun J => hK J _ R)
def mu1 (a : Act) (_ : World) : Nat := 64 - (intOf (a.tmps.toList.getD 10 undef)).toNat
theorem mu1_eq (w : World) (gw gk gs t : Nat) (J : Nat → Value) (w' : World) : mu1 (Sh1 w gw gk gs t J) w' = 64 - t := rfl
def mu2 (a : Act) (_ : World) : Nat := 8 - (intOf (a.tmps.toList.getD 18 undef)).toNat
theorem mu2_eq (w : World) (gs i : Nat) (J : Nat → Value) (w' : World) : mu2 (Sh2 w gs i J) w' = 8 - i := rfl
theorem loop1 (w : World) (s W : List Nat) (gw gk gs : Nat) (l0 : w.heap.size + 1 < gw) (l1 : gw < gk) (l2 : gk < gs) (w0 : World) (hs32 : W32 s) (hWl : W.length = 64) (R : Hid (Rows5 w s W (St.of s).l gw gk gs w0)) {Q : Exit → Act → World → Prop} {x0 x1 x3 x5 x7 x11 x12 x13 x14 x15 x16 x17 x18 x19 x20 x21 x22 x23 x24 x25 x26 x27 x28 x29 x30 x31 x32 x33 x34 x35 x36 x37 x38 x39 x40 x41 x42 x43 x44 x45 x46 x47 x48 x49 x50 x51 x52 x53 x54 x55 x56 x57 x58 x59 x60 x61 x62 x63 x64 x65 x66 x67 x68 x69 x70 x71 x72 x73 x74 x75 x76 x77 x78 x79 x80 x81 x82 x83 x84 x85 x86 x87 x88 x89 x90 x91 x92 x93 x94 x95 x96 x97 x98 x99 x100 x101 x102 x103 x104 x105 x106 x107 x108 x109 x110 x111 x112 x113 x114 x115 x116 x117 x118 x119 x120 x121 x122 x123 x124 x125 x126 x127 x128 : Value}
 (hK : ∀ J w1, Hid (Rows5 w s W (rnds (St.of s) kw W 64).l gw gk gs w1) → Q (.exit 0) (Sh1 w gw gk gs 64 J) w1) :
 Code.wp Tryz.prog (.loop body1) Q ⟨#[x0, x1, .pointer (some ⟨w.heap.size, 0, none⟩), x3, .pointer (some ⟨w.heap.size + 1, 0, none⟩), x5, .pointer (some ⟨gw, 0, none⟩), x7, .pointer (some ⟨gk, 0, none⟩), .pointer (some ⟨gs, 0, none⟩), .int .i64 0, x11, x12, x13, x14, x15, x16, x17, x18, x19, x20, x21, x22, x23, x24, x25, x26, x27, x28, x29, x30, x31, x32, x33, x34, x35, x36, x37, x38, x39, x40, x41, x42, x43, x44, x45, x46, x47, x48, x49, x50, x51, x52, x53, x54, x55, x56, x57, x58, x59, x60, x61, x62, x63, x64, x65, x66, x67, x68, x69, x70, x71, x72, x73, x74, x75, x76, x77, x78, x79, x80, x81, x82, x83, x84, x85, x86, x87, x88, x89, x90, x91, x92, x93, x94, x95, x96, x97, x98, x99, x100, x101, x102, x103, x104, x105, x106, x107, x108, x109, x110, x111, x112, x113, x114, x115, x116, x117, x118, x119, x120, x121, x122, x123, x124, x125, x126, x127, x128], []⟩ w0 := by
 refine wp_loop (fun a w' => ∃ t J, t ≤ 64 ∧ Hid (Rows5 w s W (rnds (St.of s) kw W t).l gw gk gs w') ∧ a = Sh1 w gw gk gs t J) mu1 ?_ ?_
 ·exact Sh1_to (Q := fun _ a w' => ∃ t J, t ≤ 64 ∧ Hid (Rows5 w s W (rnds (St.of s) kw W t).l gw gk gs w') ∧ a = Sh1 w gw gk gs t J) (e := .normal) w gw gk gs 0 (fun J => ⟨0, J, by omega, R, rfl⟩)
 ·rintro a w' ⟨t, J, ht, R', rfl⟩
  by_cases h : t < 64
  ·refine round1 w s W gw gk gs l0 l1 l2 w' t h hs32 hWl R' ?_
   intro J' w1 R1
   exact ⟨⟨t + 1, J', by omega, R1, rfl⟩, by rw [mu1_eq, mu1_eq]; omega⟩
  ·obtain rfl : t = 64 := by omega
   unfold body1
   refine wp_seq (wp_seq (L7F _ ?_))
   intro w1 y30 hw
   subst hw
   refine wp_cond_false rfl (wp_exit ?_)
   exact Sh1_to w gw gk gs 64 (fun J => hK J _ R')
theorem loop2 (w : World) (s W : List Nat) (gw gk gs : Nat) (l0 : w.heap.size + 1 < gw) (l1 : gw < gk) (l2 : gk < gs) (V F : List Nat) (w0 : World) (hs : s.length = 8) (hV : V.length = 8) (hF : F.length = 8) (hFV : ∀ i, i < 8 → F.getD i 0 = ad (V.getD i 0) (s.getD i 0)) (R : Hid (Rows5 w s W V gw gk gs w0)) {Q : Exit → Act → World → Prop} {x0 x1 x3 x5 x6 x7 x8 x10 x11 x12 x13 x14 x15 x16 x17 x19 x20 x21 x22 x23 x24 x25 x26 x27 x28 x29 x30 x31 x32 x33 x34 x35 x36 x37 x38 x39 x40 x41 x42 x43 x44 x45 x46 x47 x48 x49 x50 x51 x52 x53 x54 x55 x56 x57 x58 x59 x60 x61 x62 x63 x64 x65 x66 x67 x68 x69 x70 x71 x72 x73 x74 x75 x76 x77 x78 x79 x80 x81 x82 x83 x84 x85 x86 x87 x88 x89 x90 x91 x92 x93 x94 x95 x96 x97 x98 x99 x100 x101 x102 x103 x104 x105 x106 x107 x108 x109 x110 x111 x112 x113 x114 x115 x116 x117 x118 x119 x120 x121 x122 x123 x124 x125 x126 x127 x128 : Value}
 (hK : ∀ J w1, Hid (Rows5 w s W F gw gk gs w1) → Q (.exit 2) (Sh2 w gs 8 J) w1) :
 Code.wp Tryz.prog (.loop body2) Q ⟨#[x0, x1, .pointer (some ⟨w.heap.size, 0, none⟩), x3, .pointer (some ⟨w.heap.size + 1, 0, none⟩), x5, x6, x7, x8, .pointer (some ⟨gs, 0, none⟩), x10, x11, x12, x13, x14, x15, x16, x17, .int .i64 0, x19, x20, x21, x22, x23, x24, x25, x26, x27, x28, x29, x30, x31, x32, x33, x34, x35, x36, x37, x38, x39, x40, x41, x42, x43, x44, x45, x46, x47, x48, x49, x50, x51, x52, x53, x54, x55, x56, x57, x58, x59, x60, x61, x62, x63, x64, x65, x66, x67, x68, x69, x70, x71, x72, x73, x74, x75, x76, x77, x78, x79, x80, x81, x82, x83, x84, x85, x86, x87, x88, x89, x90, x91, x92, x93, x94, x95, x96, x97, x98, x99, x100, x101, x102, x103, x104, x105, x106, x107, x108, x109, x110, x111, x112, x113, x114, x115, x116, x117, x118, x119, x120, x121, x122, x123, x124, x125, x126, x127, x128], []⟩ w0 := by
 refine wp_loop (fun a w' => ∃ i J, i ≤ 8 ∧ Hid (Rows5 w s W (mix F V i) gw gk gs w') ∧ a = Sh2 w gs i J) mu2 ?_ ?_
 ·refine Sh2_to (Q := fun _ a w' => ∃ i J, i ≤ 8 ∧ Hid (Rows5 w s W (mix F V i) gw gk gs w') ∧ a = Sh2 w gs i J) (e := .normal) w gs 0 (fun J => ⟨0, J, by omega, ?_, rfl⟩)
  rw [mix_zero]; exact R
 ·rintro a w' ⟨i, J, hi, R', rfl⟩
  by_cases h : i < 8
  ·unfold body2
   refine wp_seq (wp_seq (L16T _ i h ?_))
   intro w1 y115 hw
   subst hw
   refine wp_cond_true rfl (wp_skip ?_)
   refine wp_seq (wp_block (L18 w s W (mix F V i) gw gk gs _ R' i h (mix_length F V i hF hV hi) hs l0 l1 l2 ?_))
   intro w1 y119 y120 y121 y122 y123 y124 y125 y126 y127 R1
   refine L17 _ i h ?_
   intro w2 y117 y118 hw
   subst hw
   rw [mix_at F V i hF h, ← hFV i h, mix_set F V i hF hV h] at R1
   exact Sh2_to (Q := fun e a w' => Exit.then _ _ e a w') (e := .normal) w gs (i + 1) (fun J' => ⟨⟨i + 1, J', by omega, R1, rfl⟩, by rw [mu2_eq, mu2_eq]; omega⟩)
  ·obtain rfl : i = 8 := by omega
   rw [mix_full F V hF hV] at R'
   unfold body2
   refine wp_seq (wp_seq (L16F _ ?_))
   intro w1 y115 hw
   subst hw
   refine wp_cond_false rfl (wp_exit ?_)
   exact Sh2_to w gs 8 (fun J => hK J _ R')
set_option maxHeartbeats 40000000 in
theorem refBlock_in (s : List Nat) (v : Value) (b : List UInt8) (w : World) (hs : s.length = 8) (hs32 : W32 s) (hr : Rd w.heap.size w v b) (hl : b.length = 64) : Calls Tryz.prog 83 #[.agg (ws s).toArray, v] w (Two (.agg (ws (blk s b)).toArray) (.int .i64 0) w) := by
 have HR := lhd hr
 have HL := lhd hl
 have HS := lhd hs
 obtain ⟨A, c, rfl, hc, hm, hn, hcell⟩ := hr
 rw [hl] at hc HR ⊢
 clear hcell hn hl hs
 unfold maxLen at hm
 go_enter Tryz.func83, Tryz.ntmps83
 go_wp2_with (refine wpList_box_blk rfl 146 _ rfl (ws s) rfl ?_)
 intro w1 a1 a2 a3
 have A1 := lhd a1
 have A2 := lhd a2
 have A3 := lhd a3
 clear a1 a2 a3
 go_wp2_with (refine wpList_alloc_blk rfl 146 rfl _ z33 ?_)
 intro w2 a1 a2 a3
 rw [A2.out] at a1 a2 a3 ⊢
 have G0 : Hid (Blk w2 w.heap.size (ws s) 146) := A1.out.below a3 (by omega)
 have G1 : Hid (Blk w2 (w.heap.size + 1) z8 146) := a1
 have GB : Hid (Below w.heap.size w w2) := A3.out.trans (a3.mono (by omega))
 have hsz2 : w.heap.size + 1 < w2.heap.size := by omega
 clear a1 a2 a3 A1 A2 A3
 go_wp2_with fail
 refine (refSchedule_in _ b _ ((HR.out.below GB.out).more (by omega)) HL.out).mono ?_
 rintro e w3 ⟨rfl, hb3⟩
 obtain ⟨W, hW⟩ : ∃ W, sch b 64 = W := ⟨_, rfl⟩
 have hWl : W.length = 64 := by rw [← hW]; exact sch_length _ _
 have HBLK : Hid (blk s b = proc s W kw) := by show blk s b = _; unfold blk; rw [hW]
 rw [hW]
 have HWL := lhd hWl
 have G0' : Hid (Blk w3 w.heap.size (ws s) 146) := G0.out.below hb3 (by omega)
 have G1' : Hid (Blk w3 (w.heap.size + 1) z8 146) := G1.out.below hb3 (by omega)
 have GB' : Hid (Below w.heap.size w w3) := GB.out.trans (hb3.mono (by omega))
 have hsz3 : w.heap.size + 1 < w3.heap.size := by have := hb3.size; omega
 have h34 : (Tryz.prog.info? 196).map (·.size) = some (ws W).length := by rw [ws_length, hWl]; exact s34
 have hlz : z64.length = (ws W).length := by rw [ws_length, hWl, z64_length]
 have H34 := lhd h34
 have HLZ := lhd hlz
 clear hb3 G0 G1 GB hsz2 hW hWl h34 hlz
 go_wp2_with (refine wpList_alloc_blk rfl 196 rfl _ z34 ?_)
 intro w4 a1 a2 a3
 obtain ⟨gw, hgw⟩ : ∃ g, w3.heap.size = g := ⟨_, rfl⟩
 rw [hgw] at a1 a2 a3 hsz3 ⊢
 have G0 : Hid (Blk w4 w.heap.size (ws s) 146) := G0'.out.below a3 (by omega)
 have G1 : Hid (Blk w4 (w.heap.size + 1) z8 146) := G1'.out.below a3 (by omega)
 have GB : Hid (Below w.heap.size w w4) := GB'.out.trans (a3.mono (by omega))
 have G2 := lhd a1
 clear a1 a2 a3 G0' G1' GB' hgw
 go_wp2_with (refine wpList_store_blk rfl 196 _ _ rfl gw (ws W) z64 196 rfl rfl G2.out H34.out HLZ.out (ws_one _) ?_)
 have K0 : Hid (Blk (w4.setRow gw (ws W).toArray) w.heap.size (ws s) 146) := G0.out.setRowOther (by omega)
 have K1 : Hid (Blk (w4.setRow gw (ws W).toArray) (w.heap.size + 1) z8 146) := G1.out.setRowOther (by omega)
 have K2 : Hid (Blk (w4.setRow gw (ws W).toArray) gw (ws W) 196) := G2.out.setRow
 have KB : Hid (Below w.heap.size w (w4.setRow gw (ws W).toArray)) := below_setRow' GB.out (by omega) _
 clear G0 G1 G2 GB
 generalize w4.setRow gw (ws W).toArray = w5 at K0 K1 K2 KB ⊢
 refine (rounds_any _).mono ?_
 rintro e w6 ⟨rfl, hb6⟩
 have G0 : Hid (Blk w6 w.heap.size (ws s) 146) := K0.out.below hb6 K0.out.lt
 have G1 : Hid (Blk w6 (w.heap.size + 1) z8 146) := K1.out.below hb6 K1.out.lt
 have G2 : Hid (Blk w6 gw (ws W) 196) := K2.out.below hb6 K2.out.lt
 have GB : Hid (Below w.heap.size w w6) := KB.out.trans (hb6.mono KB.out.size)
 have HK34 : Hid ((Tryz.prog.info? 196).map (·.size) = some (ws kw).length) := by show _ = _; rw [ws_length, kw_length]; exact s34
 have HKZ : Hid (z64.length = (ws kw).length) := by show _ = _; rw [ws_length, kw_length, z64_length]
 clear hb6 K0 K1 K2 KB
 go_wp2_with (refine wpList_alloc_blk rfl 196 rfl _ z34 ?_)
 intro w7 a1 a2 a3
 obtain ⟨gk, hgk⟩ : ∃ g, w6.heap.size = g := ⟨_, rfl⟩
 have l1 : gw < gk := by rw [← hgk]; exact G2.out.lt
 rw [hgk] at a1 a2 a3 ⊢
 have K0 : Hid (Blk w7 w.heap.size (ws s) 146) := G0.out.below a3 (by omega)
 have K1 : Hid (Blk w7 (w.heap.size + 1) z8 146) := G1.out.below a3 (by omega)
 have K2 : Hid (Blk w7 gw (ws W) 196) := G2.out.below a3 l1
 have K3 := lhd a1
 have KB : Hid (Below w.heap.size w w7) := GB.out.trans (a3.mono (by omega))
 clear a1 a2 a3 G0 G1 G2 GB hgk
 have H33 : Hid ((Tryz.prog.info? 146).map (·.size) = some (ws s).length) := by show _ = _; rw [ws_length, HS.out]; exact s33
 have HZ8 : Hid (z8.length = (ws s).length) := by show _ = _; rw [ws_length, HS.out, z8_length]
 have K0s : Hid (Blk (w7.setRow gk (ws kw).toArray) w.heap.size (ws s) 146) := K0.out.setRowOther (by omega)
 go_wp2_with (first | (refine wpList_store_blk rfl 196 _ _ rfl gk (ws kw) z64 196 rfl rfl K3.out HK34.out HKZ.out (ws_one _) ?_) | (refine wpList_load_blk rfl 146 _ rfl w.heap.size rfl (ws s) 146 K0s.out 8 145 tu33 H33.out ?_) | (refine wpList_alloc_blk rfl 146 rfl _ z33 ?_))
 intro w8 a1 a2 a3
 obtain ⟨gs, hgs⟩ : ∃ g, w7.heap.size = g := ⟨_, rfl⟩
 have l2 : gk < gs := by rw [← hgs]; exact K3.out.lt
 rw [hgs] at a1 a2 a3 ⊢
 have M0 : Hid (Blk w8 w.heap.size (ws s) 146) := Blk.below K0s.out a3 (by omega)
 have M1 : Hid (Blk w8 (w.heap.size + 1) z8 146) := (K1.out.setRowOther (g' := gk) (cs' := ws kw) (by omega)).below a3 (by omega)
 have M2 : Hid (Blk w8 gw (ws W) 196) := (K2.out.setRowOther (g' := gk) (cs' := ws kw) (by omega)).below a3 (by omega)
 have M3 : Hid (Blk w8 gk (ws kw) 196) := (Blk.setRow (cs' := ws kw) K3.out).below a3 l2
 have MB : Hid (Below w.heap.size w w8) := (below_setRow' (g := gk) KB.out (by omega) _).trans (a3.mono (by omega))
 have M4 := lhd a1
 clear a1 a2 a3 K0 K1 K2 K3 KB K0s hgs
 go_wp2_with (refine wpList_store_blk rfl 146 _ _ rfl gs (ws s) z8 146 rfl rfl M4.out H33.out HZ8.out (ws_one _) ?_)
 have R : Hid (Rows5 w s W (St.of s).l gw gk gs (w8.setRow gs (ws s).toArray)) := by
  refine ⟨M0.out.setRowOther (by omega), M1.out.setRowOther (by omega), M2.out.setRowOther (by omega), M3.out.setRowOther (by omega), ?_, below_setRow' MB.out (by omega) _⟩
  have h : Blk (w8.setRow gs (ws s).toArray) gs (ws s) 146 := M4.out.setRow
  have e : (St.of s).l = s := by
   have h8 := HS.out
   match s, h8 with
   | [x0, x1, x2, x3, x4, x5, x6, x7], _ => rfl
  rw [e]
  exact h
 clear M0 M1 M2 M3 M4 MB
 generalize w8.setRow gs (ws s).toArray = w9 at R ⊢
 have l0 : w.heap.size + 1 < gw := hsz3
 have HWL2 := HWL.out
 obtain ⟨V, hV⟩ : ∃ V, rnds (St.of s) kw W 64 = V := ⟨_, rfl⟩
 obtain ⟨F, hF⟩ : ∃ F, proc s W kw = F := ⟨_, rfl⟩
 have HF8 : Hid (F.length = 8) := by rw [← hF]; exact proc_length _ _ _
 have HFV : Hid (∀ i, i < 8 → F.getD i 0 = ad (V.l.getD i 0) (s.getD i 0)) := fun i hi => by
  rw [← fin_at s V.l i hi, of_l, ← hF, ← hV]; rfl
 rw [hF] at HBLK
 have HV := lhd hV
 clear hV hF
 have H8 : Hid ((Tryz.prog.info? 146).map (·.size) = some (ws F).length) := by show _ = _; rw [ws_length, HF8.out]; exact s33
 have HZF : Hid (z8.length = (ws F).length) := by show _ = _; rw [ws_length, HF8.out, z8_length]
 go_wp2
 refine loop1 w s W gw gk gs l0 l1 l2 _ hs32 HWL2 R ?_
 clear R
 intro J w1 R
 rw [HV.out] at R
 unfold Sh1
 go_wp2
 refine loop2 w s W gw gk gs l0 l1 l2 V.l F _ HS.out rfl HF8.out HFV.out R ?_
 clear R
 intro J2 w2 R
 unfold Sh2
 go_wp2_with (first | (refine wpList_load_blk rfl 146 _ rfl gs rfl (ws F) 146 R.out.2.2.2.2.1 8 145 tu33 H8.out ?_) | (refine wpList_store_blk rfl 146 _ _ rfl (w.heap.size + 1) (ws F) z8 146 rfl rfl R.out.2.1 H8.out HZF.out (ws_one _) ?_))
 refine bodyPost_ret (v := .tuple #[.agg (ws F).toArray, .int .i64 0]) ?_ rfl ?_
 ·exact ret_blk2 rfl _ _ (w.heap.size + 1) 146 _ _ rfl rfl R.out.2.1.setRow 8 145 tu33 H8.out
 ·exact ⟨by rw [HBLK.out], below_setRow' R.out.2.2.2.2.2 (by omega) _⟩
theorem Own.first (w : World) (b : UInt8) : Own 5 (w.alloc (.cells #[.int .u8 (b.toNat : Int)] 5)) w.heap.size (.slice (some ⟨w.heap.size, 0, none⟩) 1 1) [b] :=
 World.ownsRow_lit w #[.int .u8 (b.toNat : Int)] 1 (Nat.le_refl _) (by unfold maxLen; omega) rfl
def lenOf : Value → Nat
 | .slice _ n _ => n
 | _ => 0
def pz (j : Nat) : List UInt8 := 128 :: List.replicate j 0
theorem pz_length (j : Nat) : (pz j).length = j + 1 := by simp [pz]
theorem pz_snoc (j : Nat) : pz j ++ [0] = pz (j + 1) := by simp [pz, List.replicate_succ']
theorem zn_stop (N j : Nat) (h : (N + (j + 1) + 8) % 64 = 0) (hj : j ≤ zn N) : j = zn N := by unfold zn at *; omega
theorem zn_go (N j : Nat) (h : (N + (j + 1) + 8) % 64 ≠ 0) (hj : j ≤ zn N) : j < zn N := by unfold zn at *; omega
theorem pe_snoc (C p : Nat) (h : p < 8) : (be 8 C).take (8 - (p + 1)) ++ [UInt8.ofNat (C / 256 ^ p)] = (be 8 C).take (8 - p) := by
 have : p = 0 ∨ p = 1 ∨ p = 2 ∨ p = 3 ∨ p = 4 ∨ p = 5 ∨ p = 6 ∨ p = 7 := by omega
 rcases this with rfl | rfl | rfl | rfl | rfl | rfl | rfl | rfl <;> rfl
theorem refPad_any (n : Int) (w : World) (h0 : -9223372036854775808 ≤ n) (h1 : n ≤ 1099511627776) : Calls Tryz.prog 82 #[.int .i64 n] w (Gives w.heap.size (padl n.toNat) w) := by
 obtain ⟨i0, hi, hz0, hz1, hz2⟩ := info_parts info5
 obtain ⟨N, hN⟩ : ∃ N : Nat, n.toNat = N := ⟨_, rfl⟩
 have hmax : max n 0 = (N : Int) := by omega
 have hN1 : (N : Int) ≤ 1099511627776 := by omega
 rw [hN]
 have HI := lhd hi
 have H0 := lhd hz0
 have H1 := lhd hz1
 have H2 := lhd hz2
 have hzn : zn N < 64 := by unfold zn; omega
 clear hi hz0 hz1 hz2 hN h0 h1
 have O1 : Hid (Own 5 (w.alloc (.cells #[.int .u8 128] 5)) w.heap.size (.slice (some ⟨w.heap.size, 0, none⟩) 1 1) (pz 0)) := Own.first w 128
 have B1 : Hid (Below w.heap.size w (w.alloc (.cells #[.int .u8 128] 5))) := (Below.refl _ _).alloc (Nat.le_refl _) _
 go_enter Tryz.func82, Tryz.ntmps82
 go_wp2
 generalize w.alloc (.cells #[.int .u8 128] 5) = w1 at O1 B1 ⊢
 clear hmax
 go_loopw [3] (fun v wr => ∃ j : Nat, j ≤ zn N ∧ ∃ A c, v = .slice A (j + 1) c ∧ j + 1 ≤ c ∧ c ≤ maxLen ∧ Hid (Own 5 wr w.heap.size v (pz j)) ∧ Hid (Below w.heap.size w wr)) (fun v _ => 64 - lenOf v)
 case atStart => exact ⟨0, by omega, _, 1, rfl, by omega, by unfold maxLen; omega, O1, B1⟩
 case round =>
  clear O1 B1
  obtain ⟨j, hj, A, c, rfl, hc, hcm, O, B⟩ := hrel
  have hs := B.out.size
  unfold maxLen at hcm
  by_cases hz : (N + (j + 1) + 8) % 64 = 0
  ·have hjz := zn_stop N j hz hj
   have heq : (((N : Int) + ((j : Int) + 1) + 8) % 64 != 0) = false := by simp; omega
   obtain ⟨C, hC⟩ : ∃ C : Nat, N * 8 = C := ⟨_, rfl⟩
   have eC : IntKind.u64.wrap ((N : Int) * 8) = (C : Int) := by rw [IntKind.wrap_u64]; omega
   have hC1 : C ≤ 8796093022208 := by omega
   have HP : Hid (pz j ++ be 8 C = padl N) := by
    show pz j ++ be 8 C = padl N
    unfold pz padl
    rw [hjz, Nat.mod_eq_of_lt (by omega), hC]
    rfl
   have hj64 : j < 64 := by omega
   clear hC hz hjz hj hzn
   go_wp2
   clear heq eC
   go_loopw [3, 5] (fun v x wr => ∃ m : Nat, m ≤ 8 ∧ x = .int .i64 ((m : Int) - 1) ∧ ∃ A c, v = .slice A (j + 9 - m) c ∧ j + 9 - m ≤ c ∧ c ≤ maxLen ∧ Hid (Own 5 wr w.heap.size v (pz j ++ (be 8 C).take (8 - m))) ∧ Hid (Below w.heap.size w wr)) (fun _ x _ => (intOf x + 1).toNat)
   case atStart => exact ⟨8, by omega, rfl, A, c, rfl, hc, hcm, by simpa using O, B⟩
   case round =>
    clear O B hc hcm
    obtain ⟨m, hm, rfl, A, c, rfl, hc, hcm, O, B⟩ := hrel
    have hs := B.out.size
    unfold maxLen at hcm
    by_cases hm2 : m = 0
    ·subst hm2
     rw [show ((0 : Nat) : Int) - 1 = -1 from rfl]
     go_wp2
     go_ret
     refine ⟨_, rfl, ?_, B.out⟩
     have h := O.out
     rw [show 8 - 0 = (be 8 C).length by rw [be_length], List.take_length, HP.out] at h
     exact h
    ·obtain ⟨p, rfl⟩ : ∃ p, m = p + 1 := ⟨m - 1, by omega⟩
     rw [show ((p + 1 : Nat) : Int) - 1 = (p : Int) by omega]
     obtain ⟨bb, hbb⟩ : ∃ b : UInt8, UInt8.ofNat (C / 256 ^ p) = b := ⟨_, rfl⟩
     have eb : (C : Int) / 2 ^ (8 * p) % 256 = (bb.toNat : Int) := by
      have h := byte_shift (C : Int) p (by omega)
      rw [Int.toNat_natCast, hbb] at h
      exact h
     have HN : Hid (pz j ++ (be 8 C).take (8 - (p + 1)) ++ [bb] = pz j ++ (be 8 C).take (8 - p)) := by
      show _ = _
      rw [List.append_assoc, ← hbb, pe_snoc C p (by omega)]
     have HLL : Hid ((pz j ++ (be 8 C).take (8 - (p + 1))).length = j + 9 - (p + 1)) := by
      show _ = _
      rw [List.length_append, pz_length, List.length_take, be_length]; omega
     obtain ⟨lp, hlp⟩ : ∃ x, pz j ++ (be 8 C).take (8 - (p + 1)) = x := ⟨_, rfl⟩
     rw [hlp] at HN HLL O
     clear hlp
     obtain ⟨n1, hn1⟩ : ∃ n, j + 9 - (p + 1) = n := ⟨_, rfl⟩
     rw [hn1] at HLL hc O ⊢
     have hn2 : n1 ≤ 80 := by omega
     clear hbb hn1
     go_wp2_with (at_builtin; refine wpList_app1 rfl _ _ 92 rfl 5 i0 Tryz.underlying92 HI.out H0.out H1.out H2.out w.heap.size _ _ bb ⟨wr.heap.size, 0, none⟩ rfl (O.out.alloc _) rfl (by first | (simp; done) | (rw [← eb]; simp)) (by rw [HLL.out]; omega) (by simp; omega) ?_)
     intro v' w' hown hb
     rw [HN.out] at hown
     have hsh := hown.rd.shape
     rw [List.length_append, pz_length, List.length_take, be_length] at hsh
     obtain ⟨A', c', hv', hc', hcm'⟩ := hsh
     rw [show j + 1 + min (8 - p) 8 = j + 9 - p by omega] at hv' hc'
     subst hv'
     have O' := lhd hown
     have B' : Hid (Below w.heap.size w w') := (B.out.alloc hs _).trans hb
     clear hown hb O B eb
     go_wp2
     go_roundw
     case rel => exact ⟨p, by omega, by go_num, A', c', rfl, hc', hcm', O', B'⟩
     case measure => simp [intOf]
  ·have hjz := zn_go N j hz hj
   have hne : (((N : Int) + ((j : Int) + 1) + 8) % 64 != 0) = true := by simp; omega
   go_wp2_with (at_builtin; refine wpList_app1 rfl _ _ 92 rfl 5 i0 Tryz.underlying92 HI.out H0.out H1.out H2.out w.heap.size _ (pz j) 0 ⟨wr.heap.size, 0, none⟩ rfl (O.out.alloc _) rfl (by simp) (by rw [pz_length]; omega) (by simp; omega) ?_)
   intro v' w' hown hb
   rw [pz_snoc] at hown
   have hsh := hown.rd.shape
   rw [pz_length] at hsh
   obtain ⟨A', c', hv', hc', hcm'⟩ := hsh
   subst hv'
   have O' := lhd hown
   have B' : Hid (Below w.heap.size w w') := (B.out.alloc hs _).trans hb
   clear hown hb O B hne
   go_wp2
   go_roundw
   case rel => exact ⟨j + 1, by omega, A', c', rfl, hc', hcm', O', B'⟩
   case measure => simp [lenOf]; omega
theorem Own.madeS (e : TypeId) (w : World) : Own e (w.alloc (.cells #[] e)) w.heap.size (.slice (some ⟨w.heap.size, 0, none⟩) 0 0) [] :=
 World.ownsRow_made w #[] 0 (Nat.le_refl _) (Nat.zero_le _) rfl
theorem take_snocB (l : List UInt8) (i : Nat) (h : i < l.length) : l.take (i + 1) = l.take i ++ [l.getD i 0] := by
 rw [List.take_add_one]; simp [h]
theorem refSum_any (v : Value) (l : List UInt8) (wz : World) (hr : Rd wz.heap.size wz v l) (hl : l.length ≤ 100000) : Calls Tryz.prog 41 #[v] wz (Arr (bys (hash l)) wz) := by
 obtain ⟨i0, hi, hz0, hz1, hz2⟩ := info_parts info5
 have HI := lhd hi
 have H0 := lhd hz0
 have H1 := lhd hz1
 have H2 := lhd hz2
 have HRZ := lhd hr
 obtain ⟨A, c, rfl, hc, hm, hn, hcell⟩ := hr
 clear hcell hn hi hz0 hz1 hz2
 unfold maxLen at hm
 go_enter Tryz.func41, Tryz.ntmps41
 go_wp2_with (refine wpList_alloc_blk rfl 36 rfl _ z24 ?_)
 intro w a1 a2 a3
 have E0 := lhd a1
 have ES := lhd a2
 have EB := lhd a3
 have HR : Hid (Rd w.heap.size w (.slice A l.length c) l) := (HRZ.out.below a3).more (by omega)
 clear a1 a2 a3 HRZ
 go_wp2_with (at_builtin; refine wpList_app rfl _ _ 92 rfl 5 i0 Tryz.underlying92 HI.out H0.out H1.out H2.out w.heap.size w.heap.size _ _ [] l rfl (Own.madeS 5 w) rfl (HR.out.below ((Below.refl _ _).alloc (Nat.le_refl _) _)) (by simp; omega) (by simp) ?_)
 intro v1 w1 hown1 hb1
 have O1 := lhd hown1
 have B1 : Hid (Below w.heap.size w w1) := ((Below.refl _ _).alloc (Nat.le_refl _) _).trans hb1
 clear hown1 hb1
 go_wp2_with fail
 refine (refPad_any (l.length : Int) w1 (by omega) (by omega)).mono ?_
 rintro e w2 ⟨v2, rfl, hown2, hb2⟩
 rw [Int.toNat_natCast] at hown2
 have O2 := lhd hown2
 have hs1 := B1.out.size
 have hs2 := hb2.size
 have O1' : Hid (Own 5 w2 w.heap.size v1 l) := O1.out.below hb2 (Nat.le_refl _)
 have B2 : Hid (Below w.heap.size w w2) := B1.out.trans (hb2.mono hs1)
 have hzn : zn l.length < 64 := by unfold zn; omega
 have hpl := padl_length l.length
 have HPL := lhd hpl
 clear hown2 hb2 O1 B1 hpl
 go_wp2_with (at_builtin; refine wpList_app rfl _ _ 92 rfl 5 i0 Tryz.underlying92 HI.out H0.out H1.out H2.out w.heap.size w2.heap.size v1 v2 l (padl l.length) rfl O1'.out rfl O2.out.rd (by have := HPL.out; omega) (by omega) ?_)
 intro v3 w3 hown3 hb3
 obtain ⟨L, hL⟩ : ∃ L, l ++ padl l.length = L := ⟨_, rfl⟩
 rw [hL] at hown3
 have hLl : L.length = l.length + (9 + zn l.length) := by rw [← hL, List.length_append, HPL.out]
 have hmod : L.length % 64 = 0 := by rw [← hL, List.length_append]; exact padl_mod _
 obtain ⟨N, hN⟩ : ∃ N, L.length = N := ⟨_, rfl⟩
 obtain ⟨M, hM⟩ : ∃ M, N / 64 = M := ⟨_, rfl⟩
 have hNM : N = 64 * M := by omega
 have R3 : Hid (Rd w3.heap.size w3 v3 L) := hown3.rd
 have B3 : Hid (Below w.heap.size w w3) := B2.out.trans hb3
 have hN1 : N ≤ 100072 := by omega
 have hN2 : l.length + 9 ≤ N := by omega
 have hN3 : N ≤ l.length + 72 := by omega
 have HH : Hid (hash l = joinl (chain iv M L)) := by
  show hash l = _
  unfold hash
  rw [hL, ← hM, ← hN, ← hL, List.length_append]
 have HLN := lhd hN
 have HNM := lhd hNM
 obtain ⟨A3, c3, hv3, hc3, hcm3⟩ := R3.out.shape
 rw [hN] at hv3 hc3
 subst hv3
 unfold maxLen at hcm3
 have HMM : Hid (M ≤ 1600) := by show M ≤ 1600; omega
 clear hown3 hb3 O1' O2 B2 hLl hmod hN hM hNM hL hs1 hs2 hzn HPL
 have HIV : Hid ((Tryz.prog.info? 146).map (·.size) = some (ws iv).length) := s33
 have HZ8 : Hid (z8.length = (ws iv).length) := rfl
 go_wp2_with (first | (refine wpList_buildFlatArr rfl 146 145 8 _ rfl .u32 (ints iv) tu33 s27 (by rw [ints_length, iv_length]; exact zz33) (by kernel_rfl) ?_; rw [ints_ws]) | (refine wpList_alloc_blk rfl 146 rfl _ z33 ?_))
 intro w4 a1 a2 a3
 obtain ⟨g4, hg4⟩ : ∃ g, w3.heap.size = g := ⟨_, rfl⟩
 rw [hg4] at a1 a2 a3 R3 ⊢
 have hgl : w.heap.size ≤ g4 := by rw [← hg4]; exact B3.out.size
 have G4 := lhd a1
 have R4 : Hid (Rd g4 w4 (.slice A3 N c3) L) := R3.out.below a3
 have B4 : Hid (Below w.heap.size w w4) := B3.out.trans (a3.mono hgl)
 clear a1 a2 a3 R3 B3 hg4
 go_wp2_with (refine wpList_store_blk rfl 146 _ _ rfl g4 (ws iv) z8 146 rfl rfl G4.out HIV.out HZ8.out (ws_one _) ?_)
 have G5 : Hid (Blk (w4.setRow g4 (ws iv).toArray) g4 (ws iv) 146) := G4.out.setRow
 have R5 : Hid (Rd g4 (w4.setRow g4 (ws iv).toArray) (.slice A3 N c3) L) := R4.out.keep (fun p hp => cell_setRow_other w4 g4 _ p (by omega))
 have B5 : Hid (Below w.heap.size w (w4.setRow g4 (ws iv).toArray)) := below_setRow' B4.out hgl _
 clear G4 R4 B4
 generalize w4.setRow g4 (ws iv).toArray = w5 at G5 R5 B5 ⊢
 go_loopw [5] (fun x wr => ∃ k j : Nat, k ≤ M ∧ Hid (j = 64 * k) ∧ j ≤ N ∧ x = .int .i64 j ∧ Hid (Blk wr g4 (ws (chain iv k L)) 146) ∧ Hid (Rd g4 wr (.slice A3 N c3) L) ∧ Hid (Below w.heap.size w wr)) (fun x _ => N - (intOf x).toNat)
 case atStart => exact ⟨0, 0, by omega, rfl, by omega, rfl, G5, R5, B5⟩
 case round =>
  clear G5 R5 B5
  obtain ⟨k, j, hk, HJ, hjN, rfl, G0, R0, GB⟩ := hrel
  by_cases hk2 : k < M
  ·have hj2 : j + 64 ≤ N := by have := HJ.out; have := HNM.out; omega
   obtain ⟨a, rfl⟩ : ∃ a, A3 = some a := by
    obtain ⟨A', c', hv, h1, h2, h3, h4⟩ := R0.out
    injection hv with e1 e2 e3
    subst e1 e3
    cases A3 with
    | none => have := h3 rfl; omega
    | some a => exact ⟨a, rfl⟩
   obtain ⟨st, hst⟩ : ∃ st, chain iv k L = st := ⟨_, rfl⟩
   have h8 : st.length = 8 := by rw [← hst, chain_length iv iv_length]
   have h32 : W32 st := by rw [← hst]; exact chain_lt iv iv_lt _ _
   have HN1 : Hid (chain iv (k + 1) L = blk st ((L.drop j).take 64)) := by show chain iv (k + 1) L = _; rw [chain_snoc, hst, HJ.out]
   rw [hst] at G0
   have H8 := lhd h8
   have H33 : Hid ((Tryz.prog.info? 146).map (·.size) = some (ws st).length) := by show _ = _; rw [ws_length, h8]; exact s33
   have q1 : IntKind.i64.wrap ((j : Int) + 64) = ((j + 64 : Nat) : Int) := by rw [IntWalk.i64_in _ (by omega)]; omega
   obtain ⟨j2, hj2e⟩ : ∃ x, j + 64 = x := ⟨_, rfl⟩
   rw [hj2e] at q1 hj2
   have zlt : (j : Int) < (N : Int) := by omega
   have z1 : ¬ (c3 : Int) < (j2 : Int) := by omega
   have z2 : ¬ (j2 : Int) < (j : Int) := by omega
   have z3 : ¬ c3 = j := by omega
   have HJ2 := lhd hj2e
   have hgl4 := G0.out.lt
   clear hst h8 hj2e
   go_wp2
   refine wp_region_till 13 11 (fun w' => Below wr.heap.size wr w') (by kernel_rfl) rfl ?_
   have hS : Below wr.heap.size wr wr.drew := (Below.refl _ _).drew
   refine AnyTill.take (i := 0) (v := .agg (ws st).toArray) rfl (by kernel_rfl) (by kernel_rfl) (by kernel_rfl) (by kernel_rfl) (fun _ _ _ h => h) (by rfl) (fun w' hw' => ?_) hS ?_
   ·exact run_load_blk 146 _ rfl g4 rfl (ws st) 146 (G0.out.below hw' hgl4) 8 145 tu33 H33.out
   simp only [Act.put, List.setIfInBounds_toArray, List.set_cons_zero, List.set_cons_succ]
   refine AnyTill.free (i := 1) (v := .slice (some a) N c3) rfl (by kernel_rfl) (by kernel_rfl) (by kernel_rfl) (by kernel_rfl) (fun _ _ _ h => h) (by rfl) (fun w' => ?_) hS ?_
   ·(go_simp; try rfl)
   simp only [Act.put, List.setIfInBounds_toArray, List.set_cons_zero, List.set_cons_succ]
   refine AnyTill.free (i := 2) (v := .int .i64 (j : Int)) rfl (by kernel_rfl) (by kernel_rfl) (by kernel_rfl) (by kernel_rfl) (fun _ _ _ h => h) (by rfl) (fun w' => ?_) hS ?_
   ·(go_simp; try rfl)
   simp only [Act.put, List.setIfInBounds_toArray, List.set_cons_zero, List.set_cons_succ]
   refine AnyTill.free (i := 3) (v := .int .i64 (j : Int)) rfl (by kernel_rfl) (by kernel_rfl) (by kernel_rfl) (by kernel_rfl) (fun _ _ _ h => h) (by rfl) (fun w' => ?_) hS ?_
   ·(go_simp; try rfl)
   simp only [Act.put, List.setIfInBounds_toArray, List.set_cons_zero, List.set_cons_succ]
   refine AnyTill.free (i := 4) (v := .int .i64 (j2 : Int)) rfl (by kernel_rfl) (by kernel_rfl) (by kernel_rfl) (by kernel_rfl) (fun _ _ _ h => h) (by rfl) (fun w' => ?_) hS ?_
   ·(go_simp; try rfl)
   simp only [Act.put, List.setIfInBounds_toArray, List.set_cons_zero, List.set_cons_succ]
   refine AnyTill.free (i := 5) (v := .slice (some (a.add j)) (j2 - j) (c3 - j)) rfl (by kernel_rfl) (by kernel_rfl) (by kernel_rfl) (by kernel_rfl) (fun _ _ _ h => h) (by rfl) (fun w' => ?_) hS ?_
   ·go_simp
   simp only [Act.put, List.setIfInBounds_toArray, List.set_cons_zero, List.set_cons_succ]
   have RB : Hid (Rd g4 wr (.slice (some (a.add j)) (j2 - j) (c3 - j)) ((L.drop j).take 64)) := by
    have h := R0.out.drop j hjN
    rw [if_neg z3] at h
    have h2 := h.head (m := 64) (by have := HJ2.out; omega)
    rw [show j2 - j = 64 by have := HJ2.out; omega]
    exact h2
   have HB64 : Hid (((L.drop j).take 64).length = 64) := by show _ = _; rw [List.length_take, List.length_drop, HLN.out]; have := HJ2.out; omega
   have hgsz := GB.out.size
   refine AnyTill.two (i := 6) (j := 10) (by kernel_rfl) rfl rfl (by rfl) (by rfl) (fun K hK => ?_) (fun K hK => ?_)
   ·go_simp
    refine (refBlock_in st _ ((L.drop j).take 64) _ H8.out h32 ((RB.out.below (hS.mono (by omega))).more (by have := hS.size; omega)) HB64.out).mono ?_
    rintro e w6 ⟨rfl, hb⟩
    have hSw6 : Below wr.heap.size wr w6 := hS.trans (hb.mono hS.size)
    refine hK.out _ _ (.inr hSw6) ?_
    clear hK K hb
    refine AnyTill.free (i := 7) (v := .tuple #[.agg (ws (blk st ((L.drop j).take 64))).toArray, .int .i64 0]) rfl (by kernel_rfl) (by kernel_rfl) (by kernel_rfl) (by kernel_rfl) (fun _ _ _ h => h) (by rfl) (fun w' => ?_) hSw6 ?_
    ·(go_simp; try rfl)
    simp only [Act.put, List.setIfInBounds_toArray, List.set_cons_zero, List.set_cons_succ]
    refine AnyTill.free (i := 8) (v := .agg (ws (blk st ((L.drop j).take 64))).toArray) rfl (by kernel_rfl) (by kernel_rfl) (by kernel_rfl) (by kernel_rfl) (fun _ _ _ h => h) (by rfl) (fun w' => ?_) hSw6 ?_
    ·(go_simp; try rfl)
    simp only [Act.put, List.setIfInBounds_toArray, List.set_cons_zero, List.set_cons_succ]
    refine AnyTill.free (i := 9) (v := .int .i64 0) rfl (by kernel_rfl) (by kernel_rfl) (by kernel_rfl) (by kernel_rfl) (fun _ _ _ h => h) (by rfl) (fun w' => ?_) hSw6 ?_
    ·(go_simp; try rfl)
    simp only [Act.put, List.setIfInBounds_toArray, List.set_cons_zero, List.set_cons_succ]
    refine AnyTill.one (i := 10) (by kernel_rfl) rfl (by rfl) (fun K hK => ?_)
    refine wp_alloc_blk 146 rfl _ z33 ?_
    intro w7 a1 a2 a3
    have hSw7 : Below wr.heap.size wr w7 := (hSw6).trans (a3.mono (hSw6).size)
    refine hK.out _ _ (.inr hSw7) ?_
    clear hK K
    simp only [Act.put, List.setIfInBounds_toArray, List.set_cons_zero, List.set_cons_succ]
    have hsz6 := hSw6.size
    refine AnyTill.one (i := 11) (by kernel_rfl) rfl (by rfl) (fun K hK => ?_)
    refine wp_store_blk 146 _ _ rfl w6.heap.size (ws (blk st ((L.drop j).take 64))) z8 146 rfl rfl a1 s33 z8_length (ws_one _) ?_
    refine hK.out _ _ (.inl (by kernel_rfl)) ?_
    clear hK K
    refine AnyTill.one (i := 12) (by kernel_rfl) rfl (by rfl) (fun K hK => ?_)
    go_simp
    refine hK.out _ _ (.inl (by kernel_rfl)) ?_
    clear hK K
    refine AnyTill.done (by kernel_rfl) ?_
    refine NoPanic.normal ?_
    have hgn : g4 < w6.heap.size := by omega
    have G6 : Hid (Blk (w7.setRow w6.heap.size (ws (blk st ((L.drop j).take 64))).toArray) w6.heap.size (ws (blk st ((L.drop j).take 64))) 146) := Blk.setRow a1
    have G7 : Hid (Blk (w7.setRow w6.heap.size (ws (blk st ((L.drop j).take 64))).toArray) g4 (ws st) 146) := (G0.out.below hSw7 hgl4).setRowOther (by omega)
    have R7 : Hid (Rd g4 (w7.setRow w6.heap.size (ws (blk st ((L.drop j).take 64))).toArray) (.slice (some a) N c3) L) := (R0.out.below (hSw7.mono (by omega))).keep (fun p hp => cell_setRow_other w7 w6.heap.size _ p (by omega))
    have B7 : Hid (Below w.heap.size w (w7.setRow w6.heap.size (ws (blk st ((L.drop j).take 64))).toArray)) := below_setRow' (GB.out.trans (hSw7.mono hgsz)) (by omega) _
    generalize w7.setRow w6.heap.size (ws (blk st ((L.drop j).take 64))).toArray = w9 at G6 G7 R7 B7 ⊢
    generalize w6.heap.size = gn at G6 hgn ⊢
    rw [← HN1.out] at G6 ⊢
    have hi33 : Hid ((Tryz.prog.info? 146).map (·.size) = some (ws (chain iv (k + 1) L)).length) := by show _ = _; rw [ws_length, chain_length iv iv_length]; exact s33
    have hl33 : Hid ((ws st).length = (ws (chain iv (k + 1) L)).length) := by show _ = _; rw [ws_length, ws_length, chain_length iv iv_length]; exact H8.out
    generalize hCH : chain iv (k + 1) L = CH at G6 hi33 hl33 ⊢
    have HCH := lhd hCH
    clear hCH q1 z1 z2 z3
    go_wp2_with (first | (refine wpList_load_blk rfl 146 _ rfl gn rfl (ws CH) 146 G6.out 8 145 tu33 hi33.out ?_) | (refine wpList_store_blk rfl 146 _ _ rfl g4 (ws CH) (ws st) 146 rfl rfl G7.out hi33.out hl33.out (ws_one _) ?_))
    go_roundw
    case rel =>
     refine ⟨k + 1, j + 64, by omega, by have := HJ.out; show j + 64 = 64 * (k + 1); omega, by have := HJ2.out; omega, by go_num, ?_, R7.out.keep (fun p hp => cell_setRow_other w9 g4 _ p (by omega)), below_setRow' B7.out (by omega) _⟩
     rw [HCH.out]
     exact G7.out.setRow
    case measure => simp [intOf]; omega
   ·refine wp_alloc_blk 146 rfl _ z33 ?_
    intro w6 a1 a2 a3
    have hSw6 : Below wr.heap.size wr w6 := (hS).trans (a3.mono (hS).size)
    refine hK.out _ _ (.inr hSw6) ?_
    clear hK K
    simp only [Act.put, List.setIfInBounds_toArray, List.set_cons_zero, List.set_cons_succ]
    refine AnyTill.one (i := 6) (by kernel_rfl) rfl (by rfl) (fun K hK => ?_)
    go_simp
    refine (refBlock_in st _ ((L.drop j).take 64) _ H8.out h32 ((RB.out.below (hSw6.mono (by omega))).more (by have := hSw6.size; omega)) HB64.out).mono ?_
    rintro e w7 ⟨rfl, hb⟩
    have hSw7 : Below wr.heap.size wr w7 := hSw6.trans (hb.mono hSw6.size)
    have a1' : Blk w7 wr.heap.size z8 146 := a1.below hb a1.lt
    refine hK.out _ _ (.inr hSw7) ?_
    clear hK K hb
    refine AnyTill.free (i := 7) (v := .tuple #[.agg (ws (blk st ((L.drop j).take 64))).toArray, .int .i64 0]) rfl (by kernel_rfl) (by kernel_rfl) (by kernel_rfl) (by kernel_rfl) (fun _ _ _ h => h) (by rfl) (fun w' => ?_) hSw7 ?_
    ·(go_simp; try rfl)
    simp only [Act.put, List.setIfInBounds_toArray, List.set_cons_zero, List.set_cons_succ]
    refine AnyTill.free (i := 8) (v := .agg (ws (blk st ((L.drop j).take 64))).toArray) rfl (by kernel_rfl) (by kernel_rfl) (by kernel_rfl) (by kernel_rfl) (fun _ _ _ h => h) (by rfl) (fun w' => ?_) hSw7 ?_
    ·(go_simp; try rfl)
    simp only [Act.put, List.setIfInBounds_toArray, List.set_cons_zero, List.set_cons_succ]
    refine AnyTill.free (i := 9) (v := .int .i64 0) rfl (by kernel_rfl) (by kernel_rfl) (by kernel_rfl) (by kernel_rfl) (fun _ _ _ h => h) (by rfl) (fun w' => ?_) hSw7 ?_
    ·(go_simp; try rfl)
    simp only [Act.put, List.setIfInBounds_toArray, List.set_cons_zero, List.set_cons_succ]
    have hsz6 := hS.size
    refine AnyTill.one (i := 11) (by kernel_rfl) rfl (by rfl) (fun K hK => ?_)
    refine wp_store_blk 146 _ _ rfl wr.heap.size (ws (blk st ((L.drop j).take 64))) z8 146 rfl rfl a1' s33 z8_length (ws_one _) ?_
    refine hK.out _ _ (.inl (by kernel_rfl)) ?_
    clear hK K
    refine AnyTill.one (i := 12) (by kernel_rfl) rfl (by rfl) (fun K hK => ?_)
    go_simp
    refine hK.out _ _ (.inl (by kernel_rfl)) ?_
    clear hK K
    refine AnyTill.done (by kernel_rfl) ?_
    refine NoPanic.normal ?_
    have hgn : g4 < wr.heap.size := by omega
    have G6 : Hid (Blk (w7.setRow wr.heap.size (ws (blk st ((L.drop j).take 64))).toArray) wr.heap.size (ws (blk st ((L.drop j).take 64))) 146) := Blk.setRow a1'
    have G7 : Hid (Blk (w7.setRow wr.heap.size (ws (blk st ((L.drop j).take 64))).toArray) g4 (ws st) 146) := (G0.out.below hSw7 hgl4).setRowOther (by omega)
    have R7 : Hid (Rd g4 (w7.setRow wr.heap.size (ws (blk st ((L.drop j).take 64))).toArray) (.slice (some a) N c3) L) := (R0.out.below (hSw7.mono (by omega))).keep (fun p hp => cell_setRow_other w7 wr.heap.size _ p (by omega))
    have B7 : Hid (Below w.heap.size w (w7.setRow wr.heap.size (ws (blk st ((L.drop j).take 64))).toArray)) := below_setRow' (GB.out.trans (hSw7.mono hgsz)) (by omega) _
    generalize w7.setRow wr.heap.size (ws (blk st ((L.drop j).take 64))).toArray = w9 at G6 G7 R7 B7 ⊢
    generalize wr.heap.size = gn at G6 hgn ⊢
    rw [← HN1.out] at G6 ⊢
    have hi33 : Hid ((Tryz.prog.info? 146).map (·.size) = some (ws (chain iv (k + 1) L)).length) := by show _ = _; rw [ws_length, chain_length iv iv_length]; exact s33
    have hl33 : Hid ((ws st).length = (ws (chain iv (k + 1) L)).length) := by show _ = _; rw [ws_length, ws_length, chain_length iv iv_length]; exact H8.out
    generalize hCH : chain iv (k + 1) L = CH at G6 hi33 hl33 ⊢
    have HCH := lhd hCH
    clear hCH q1 z1 z2 z3
    go_wp2_with (first | (refine wpList_load_blk rfl 146 _ rfl gn rfl (ws CH) 146 G6.out 8 145 tu33 hi33.out ?_) | (refine wpList_store_blk rfl 146 _ _ rfl g4 (ws CH) (ws st) 146 rfl rfl G7.out hi33.out hl33.out (ws_one _) ?_))
    go_roundw
    case rel =>
     refine ⟨k + 1, j + 64, by omega, by have := HJ.out; show j + 64 = 64 * (k + 1); omega, by have := HJ2.out; omega, by go_num, ?_, R7.out.keep (fun p hp => cell_setRow_other w9 g4 _ p (by omega)), below_setRow' B7.out (by omega) _⟩
     rw [HCH.out]
     exact G7.out.setRow
    case measure => simp [intOf]; omega
  ·obtain rfl : k = M := by omega
   obtain rfl : j = N := by have := HJ.out; have := HNM.out; omega
   obtain ⟨st, hst⟩ : ∃ st, chain iv k L = st := ⟨_, rfl⟩
   have h8 : st.length = 8 := by rw [← hst, chain_length iv iv_length]
   have h32 : W32 st := by rw [← hst]; exact chain_lt iv iv_lt _ _
   have HHS : Hid (hash l = joinl st) := by show hash l = _; rw [HH.out, hst]
   rw [hst] at G0
   have H8 := lhd h8
   have hg4 := G0.out.lt
   have hgsz := GB.out.size
   clear hst h8
   have h24 : Hid ((Tryz.prog.info? 36).map (·.size) = some z32.length) := s24
   go_wp2_with (first | (refine wpList_buildTo rfl 36 _ rfl (some 36) rfl z32.toArray (by kernel_rfl) ?_) | (refine wpList_alloc_blk rfl 36 rfl _ z24 ?_))
   intro w7 a1 a2 a3
   obtain ⟨g8, hg8⟩ : ∃ g, wr.heap.size = g := ⟨_, rfl⟩
   rw [hg8] at a1 a2 a3 hg4 hgsz ⊢
   have G7 : Hid (Blk w7 g4 (ws st) 146) := G0.out.below a3 hg4
   have B7 : Hid (Below w.heap.size w w7) := GB.out.trans (a3.mono (by omega))
   have A8 := lhd a1
   clear a1 a2 a3 hg8 G0 GB R0
   go_wp2_with (refine wpList_store_blk rfl 36 _ _ rfl g8 z32 z32 36 rfl rfl A8.out h24.out rfl (bys_one' _) ?_)
   have G9 : Hid (Blk (w7.setRow g8 z32.toArray) g4 (ws st) 146) := G7.out.setRowOther (by omega)
   have A9 : Hid (Blk (w7.setRow g8 z32.toArray) g8 (jrow ((joinl st).take 0)) 36) := A8.out.setRow
   have B9 : Hid (Below w.heap.size w (w7.setRow g8 z32.toArray)) := below_setRow' B7.out (by omega) _
   clear G7 A8 B7
   generalize w7.setRow g8 z32.toArray = w9 at G9 A9 B9 ⊢
   go_loopw [9] (fun x wr => ∃ i : Nat, i ≤ 32 ∧ x = .int .i64 i ∧ Hid (Blk wr g4 (ws st) 146) ∧ Hid (Blk wr g8 (jrow ((joinl st).take i)) 36) ∧ Hid (Below w.heap.size w wr)) (fun x _ => 32 - (intOf x).toNat)
   case atStart => exact ⟨0, by omega, rfl, G9, A9, B9⟩
   case round =>
    clear G9 A9 B9
    obtain ⟨i, hi, rfl, G0, A0, GB⟩ := hrel
    have HJL : Hid ((joinl st).length = 32) := by show _ = _; rw [joinl_length, H8.out]
    by_cases hi2 : i < 32
    ·have zi : (i : Int) < 32 := by omega
     have hji := joinl_int st i (by rw [H8.out]; omega)
     have htl : ((joinl st).take i).length = i := by rw [List.length_take, HJL.out]; omega
     obtain ⟨vv, cj⟩ : ∃ v, wr.cell? ⟨g8, i, none⟩ = some v := by
      rw [A0.out.cell]
      exact ⟨_, List.getElem?_eq_getElem (by rw [jrow_length _ (by omega)]; omega)⟩
     have fj := A0.out.frozen i
     obtain ⟨q, hq⟩ : ∃ q : Nat, i / 4 = q := ⟨_, rfl⟩
     obtain ⟨r, hr⟩ : ∃ r : Nat, i % 4 = r := ⟨_, rfl⟩
     rw [hq, hr] at hji
     have cs := (G0.out.cell q).trans (ws_cell st q (by rw [H8.out]; omega))
     have e1 : (i : Int) / 4 = (q : Int) := by omega
     have e2 : (i : Int) % 4 = (r : Int) := by omega
     obtain ⟨m, hm'⟩ : ∃ m : Nat, 24 - 8 * r = m := ⟨_, rfl⟩
     have e3 : 24 - 8 * (r : Int) = (m : Int) := by omega
     have zq : (q : Int) < 8 := by omega
     have hm32 : m ≤ 32 := by omega
     rw [hm'] at hji
     generalize hX : st.getD q 0 = X at cs hji
     have HNX : Hid ((jrow ((joinl st).take i)).set i (.int .u8 ((((joinl st).getD i 0).toNat : Nat) : Int)) = jrow ((joinl st).take (i + 1))) := by
      show _ = _
      have h := jrow_set ((joinl st).take i) ((joinl st).getD i 0) (by omega)
      rw [htl, ← take_snocB (joinl st) i (by rw [HJL.out]; exact hi2)] at h
      exact h
     generalize hh : ((joinl st).getD i 0).toNat = h at hji HNX
     have hX32 : X < 4294967296 := by rw [← hX]; exact h32.at q
     have e5 : (X : Int) / 2 ^ m % 256 = (h : Int) := hji.symm
     have l3 : r < 4 := by omega
     clear hq hr hm' hji hX hh htl
     go_wp2
     go_roundw
     case rel =>
      refine ⟨i + 1, by omega, by go_num, G0.out.setOther _ _ (by simp; omega), ?_, GB.out.setCell (by simp; omega) _⟩
      have hx := A0.out.set i (.int .u8 (h : Int))
      rw [HNX.out] at hx
      exact hx
     case measure => simp [intOf]; omega
    ·obtain rfl : i = 32 := by omega
     rw [show ((32 : Nat) : Int) = 32 from rfl]
     have A1 : Hid (Blk wr g8 (bys (joinl st)) 36) := by
      have h := A0.out
      rw [List.take_of_length_le (by rw [HJL.out]; omega), jrow_full _ HJL.out] at h
      exact h
     have E1 : Hid (Blk wr wz.heap.size z32 36) := E0.out.below GB.out (by have := ES.out; omega)
     have hI : Hid ((Tryz.prog.info? 36).map (·.size) = some (bys (joinl st)).length) := by show _ = _; rw [bys_length, HJL.out]; exact s24
     have hZ : Hid (z32.length = (bys (joinl st)).length) := by show _ = _; rw [bys_length, HJL.out, z32_length]
     go_wp2_with (first | (refine wpList_load_blk rfl 36 _ rfl g8 rfl (bys (joinl st)) 36 A1.out 32 5 tu24 hI.out ?_) | (refine wpList_store_blk rfl 36 _ _ rfl wz.heap.size (bys (joinl st)) z32 36 rfl rfl E1.out hI.out hZ.out (bys_one' _) ?_))
     refine bodyPost_ret (v := .agg (bys (joinl st)).toArray) ?_ rfl ?_
     ·exact ret_blk rfl _ _ wz.heap.size 36 _ rfl E1.out.setRow 32 5 tu24 hI.out
     ·exact ⟨by rw [HHS.out], below_setRow' (EB.out.trans (GB.out.mono (by have := ES.out; omega))) (Nat.le_refl _) _⟩
end Go.Proofs.YtgfobinklijkpaaGreatDoor
