/-
  The document's own message schedule: of every block of 64 bytes; of other bytes there is none.
-/
import Derived.Test.YtnemkefmlffigaaSa9
namespace Go.Proofs.Ytnemkefmlffigaa
open Go.RowKit

theorem sm_int3 (a b x : Nat) (ha : a < 4294967296) (hb : b < 4294967296) (hx : x < 4294967296) (d : Nat) : bits .xor .u32 (bits .xor .u32 (a : Int) (b : Int)) ((x : Int) / (d : Int)) = ((a ^^^ b ^^^ x / d : Nat) : Int) := sm_int a b x d hx ha hb

/-- 'turned' keeps what no draw changes. -/
theorem turned_keep (S : World → Prop) (x k : Nat) (z : Int) (w : World) (hz : z = (k : Int)) (hx : x < 4294967296) (h0 : 0 < k) (h1 : k < 32) (hS : ∀ n, S (w.drewN n)) :
    Calls Try.prog 98 #[.int .u32 (x : Int), .int .i64 z] w fun e w' => e = .returned (.int .u32 ((rotr x k : Nat) : Int)) ∧ S w' :=
  (turned_any x k z w hz hx h0 h1).mono fun e w' ⟨he, n, hw⟩ => ⟨he, by rw [hw]; exact hS n⟩

/-- What the schedule's rounds keep. -/
def Rows2 (w : World) (b : List UInt8) (k : Nat) (w' : World) : Prop := Blk w' w.heap.size z64 133 ∧ Blk w' (w.heap.size + 1) (rowk b k) 133 ∧ Below w.heap.size w w'
theorem Rows2.drewN {w w' : World} {b : List UInt8} {k : Nat} (h : Rows2 w b k w') (n : Nat) : Rows2 w b k (w'.drewN n) := ⟨h.1, h.2.1, Below.drewN' h.2.2⟩

set_option maxHeartbeats 1000000 in
set_option maxRecDepth 100000 in
theorem refSchedule_in (v : Value) (b : List UInt8) (w : World) (hr : Rd w.heap.size w v b) (hl : b.length = 64) : Calls Try.prog 96 #[v] w (Two (.agg (ws (sch b 64)).toArray) (.int .i64 0) w) := by
  obtain ⟨A, c, rfl, hc, hm, hn, hcell⟩ := hr
  obtain ⟨a, rfl⟩ : ∃ a, A = some a := by
    cases A with
    | none => have := hn rfl; omega
    | some a => exact ⟨a, rfl⟩
  obtain ⟨hlt, hcell⟩ := hcell a rfl
  rw [hl] at hc hlt ⊢
  have HC := Lib.hid hcell
  have HL := Lib.hid hl
  have hlt' := hlt (by omega)
  clear hcell hl hlt hn
  unfold maxLen at hm
  have HLN : Hid ((Try.prog.info? 133).map (·.size) = some z64.length) := s34
  go_enter Try.func96, Try.ntmps96
  go_wp2_with (refine wpList_alloc_blk rfl 133 rfl _ z34 ?_)
  intro w1 hb1 hs1 hbl1
  have HB1 := Lib.hid hb1
  have HS1 := Lib.hid hs1
  have HBL1 := Lib.hid hbl1
  clear hb1 hs1 hbl1
  go_wp2_with (first | (refine wpList_buildTo rfl 133 _ rfl (some 11) rfl z64.toArray (by kernel_rfl) ?_) | (refine wpList_alloc_blk rfl 133 rfl _ z34 ?_))
  intro w2 hb2 hs2 hbl2
  rw [HS1.out] at hb2 hs2 hbl2 ⊢
  have G0 : Hid (Blk w2 w.heap.size z64 133) := HB1.out.below hbl2 (by omega)
  have G1 : Hid (Blk w2 (w.heap.size + 1) z64 133) := hb2
  have GB : Hid (Below w.heap.size w w2) := HBL1.out.trans (hbl2.mono (by omega))
  clear hb2 hs2 hbl2 HB1 HS1 HBL1
  go_wp2_with (refine wpList_store_blk rfl 133 _ _ rfl (w.heap.size + 1) z64 z64 133 rfl rfl G1.out HLN.out rfl (ws_one _) ?_)
  have K0 : Hid (Blk (w2.setRow (w.heap.size + 1) z64.toArray) w.heap.size z64 133) := G0.out.setRowOther (by omega)
  have K1 : Hid (Blk (w2.setRow (w.heap.size + 1) z64.toArray) (w.heap.size + 1) (rowk b 0) 133) := G1.out.setRow
  have KB : Hid (Below w.heap.size w (w2.setRow (w.heap.size + 1) z64.toArray)) := below_setRow' GB.out (by omega) _
  clear G0 G1 GB
  generalize w2.setRow (w.heap.size + 1) z64.toArray = w3 at K0 K1 KB ⊢
  go_loopw [5] (fun i wr => ∃ k : Nat, k ≤ 16 ∧ i = .int .i64 k ∧ Hid (Blk wr w.heap.size z64 133) ∧ Hid (Blk wr (w.heap.size + 1) (rowk b k) 133) ∧ Hid (Below w.heap.size w wr)) (fun i _ => 16 - (intOf i).toNat)
  case atStart => exact ⟨0, by omega, rfl, K0, K1, KB⟩
  case round =>
    clear K0 K1 KB
    obtain ⟨k, hk, rfl, G0, G1, GB⟩ := hrel
    by_cases hk2 : k < 16
    · have hcl : ∀ j, j < 64 → wr.cell? (a.add j) = some (.int .u8 ((b.getD j 0).toNat : Int)) := fun j hj => by
        have hlb : j < b.length := by rw [HL.out]; exact hj
        rw [GB.out.cell (by rw [addr_block]; exact hlt'), HC.out j hlb]
        simp [hlb]
      obtain ⟨j0, e0⟩ : ∃ j : Nat, 4 * k = j := ⟨_, rfl⟩
      obtain ⟨j1, e1⟩ : ∃ j : Nat, 4 * k + 1 = j := ⟨_, rfl⟩
      obtain ⟨j2, e2⟩ : ∃ j : Nat, 4 * k + 2 = j := ⟨_, rfl⟩
      obtain ⟨j3, e3⟩ : ∃ j : Nat, 4 * k + 3 = j := ⟨_, rfl⟩
      have hx : wd b k = (b.getD j0 0).toNat * 16777216 ||| (b.getD j1 0).toNat * 65536 ||| (b.getD j2 0).toNat * 256 ||| (b.getD j3 0).toNat := by subst e0 e1 e2 e3; rfl
      have q0 : IntKind.i64.wrap (4 * (k : Int)) = (j0 : Int) := by rw [IntWalk.i64_in _ (by omega)]; omega
      have q1 : IntKind.i64.wrap ((j0 : Int) + 1) = (j1 : Int) := by rw [IntWalk.i64_in _ (by omega)]; omega
      have q2 : IntKind.i64.wrap ((j0 : Int) + 2) = (j2 : Int) := by rw [IntWalk.i64_in _ (by omega)]; omega
      have q3 : IntKind.i64.wrap ((j0 : Int) + 3) = (j3 : Int) := by rw [IntWalk.i64_in _ (by omega)]; omega
      have l0 : j0 < 64 := by omega
      have l1 : j1 < 64 := by omega
      have l2 : j2 < 64 := by omega
      have l3 : j3 < 64 := by omega
      have z0 : (j0 : Int) < 64 := by omega
      have z1 : (j1 : Int) < 64 := by omega
      have z2 : (j2 : Int) < 64 := by omega
      have z3 : (j3 : Int) < 64 := by omega
      have c0 := hcl j0 l0
      have c1 := hcl j1 l1
      have c2 := hcl j2 l2
      have c3 := hcl j3 l3
      generalize hB0 : (b.getD j0 0).toNat = B0 at c0 hx
      generalize hB1 : (b.getD j1 0).toNat = B1 at c1 hx
      generalize hB2 : (b.getD j2 0).toNat = B2 at c2 hx
      generalize hB3 : (b.getD j3 0).toNat = B3 at c3 hx
      have y0 : B0 < 256 := by rw [← hB0]; exact UInt8.toNat_lt _
      have y1 : B1 < 256 := by rw [← hB1]; exact UInt8.toNat_lt _
      have y2 : B2 < 256 := by rw [← hB2]; exact UInt8.toNat_lt _
      have y3 : B3 < 256 := by rw [← hB3]; exact UInt8.toNat_lt _
      have hwd := wd_int B0 B1 B2 B3 y0 y1 y2 y3
      rw [← hx] at hwd
      have zk : (k : Int) < 64 := by omega
      have hcs := G1.out.cell k
      obtain ⟨vk, hvk⟩ := rowk_some b k k (by omega) (by omega)
      rw [hvk] at hcs
      have hfs := G1.out.frozen k
      clear hcl e0 e1 e2 e3 hx hB0 hB1 hB2 hB3 hvk
      go_wp2
      go_still_tail 35, (by kernel_rfl)
      go_wp2
      go_roundw
      case rel =>
        refine ⟨k + 1, by omega, by go_num, (G0.out.setOther _ _ (by simp)).drew, ?_, (GB.out.setCell (by simp) _).drew⟩
        have h := (G1.out.set k (.int .u32 ((wd b k : Nat) : Int))).drew
        rw [← rowk_set b k (by omega), if_pos hk2]
        exact h
      case measure => simp [intOf]; omega
    · obtain rfl : k = 16 := by omega
      clear hk hk2
      rw [show ((16 : Nat) : Int) = 16 from rfl]
      go_wp2
      go_loopw [6] (fun i wr => ∃ k : Nat, 16 ≤ k ∧ k ≤ 64 ∧ i = .int .i64 k ∧ Hid (Blk wr w.heap.size z64 133) ∧ Hid (Blk wr (w.heap.size + 1) (rowk b k) 133) ∧ Hid (Below w.heap.size w wr)) (fun i _ => 64 - (intOf i).toNat)
      case atStart => exact ⟨16, by omega, by omega, rfl, G0, G1, GB⟩
      case round =>
        clear G0 G1 GB
        obtain ⟨k, hk1, hk, rfl, G0, G1, GB⟩ := hrel
        by_cases hk2 : k < 64
        · obtain ⟨j2, e2⟩ : ∃ j : Nat, k - 2 = j := ⟨_, rfl⟩
          obtain ⟨j7, e7⟩ : ∃ j : Nat, k - 7 = j := ⟨_, rfl⟩
          obtain ⟨j15, e15⟩ : ∃ j : Nat, k - 15 = j := ⟨_, rfl⟩
          obtain ⟨j16, e16⟩ : ∃ j : Nat, k - 16 = j := ⟨_, rfl⟩
          have q2 : IntKind.i64.wrap ((k : Int) - 2) = (j2 : Int) := by rw [IntWalk.i64_in _ (by omega)]; omega
          have q7 : IntKind.i64.wrap ((k : Int) - 7) = (j7 : Int) := by rw [IntWalk.i64_in _ (by omega)]; omega
          have q15 : IntKind.i64.wrap ((k : Int) - 15) = (j15 : Int) := by rw [IntWalk.i64_in _ (by omega)]; omega
          have q16 : IntKind.i64.wrap ((k : Int) - 16) = (j16 : Int) := by rw [IntWalk.i64_in _ (by omega)]; omega
          have c2 := (G1.out.cell j2).trans (rowk_at b k j2 (by omega))
          have c15 := (G1.out.cell j15).trans (rowk_at b k j15 (by omega))
          have w2 := (sch_lt b k).at j2
          have w15 := (sch_lt b k).at j15
          have hnx : nx (sch b k) k = ad (ad (ad (sm1 ((sch b k).getD j2 0)) ((sch b k).getD j7 0)) (sm0 ((sch b k).getD j15 0))) ((sch b k).getD j16 0) := by subst e2 e7 e15 e16; rfl
          have C7 : Hid ((rowk b k)[j7]? = some (.int .u32 ((sch b k).getD j7 0 : Nat))) := rowk_at b k j7 (by omega)
          have C16 : Hid ((rowk b k)[j16]? = some (.int .u32 ((sch b k).getD j16 0 : Nat))) := rowk_at b k j16 (by omega)
          generalize (sch b k).getD j2 0 = B2 at c2 w2 hnx
          generalize (sch b k).getD j7 0 = B7 at C7 hnx
          generalize (sch b k).getD j15 0 = B15 at c15 w15 hnx
          generalize (sch b k).getD j16 0 = B16 at C16 hnx
          have z2 : (j2 : Int) < 64 := by omega
          have z7 : (j7 : Int) < 64 := by omega
          have z15 : (j15 : Int) < 64 := by omega
          have z16 : (j16 : Int) < 64 := by omega
          have zk : (k : Int) < 64 := by omega
          have HNX := Lib.hid hnx
          clear e2 e7 e15 e16 hnx
          go_wp2
          go_still (by kernel_rfl)
          generalize hw5 : ({ heap := wr.heap, tape := wr.tape, drawn := wr.drawn + 1, os := wr.os, output := wr.output } : World) = w5
          have K : Hid (Rows2 w b k w5) := by rw [← hw5]; exact ⟨G0.out, G1.out, GB.out.drew⟩
          clear c2 c15 G0 G1 GB hw5
          go_wp2_with fail
          refine (turned_keep (Rows2 w b k) B15 7 _ _ rfl w15 (by omega) (by omega) K.out.drewN).mono ?_
          rintro e w6 ⟨rfl, hk6⟩
          have K6 := Lib.hid hk6
          clear hk6 K
          go_wp2_with fail
          refine (turned_keep (Rows2 w b k) B15 18 _ _ rfl w15 (by omega) (by omega) K6.out.drewN).mono ?_
          rintro e w7 ⟨rfl, hk7⟩
          have K7 := Lib.hid hk7
          have es0 : bits .xor .u32 (bits .xor .u32 ((rotr B15 7 : Nat) : Int) ((rotr B15 18 : Nat) : Int)) ((B15 : Int) / 8) = ((sm0 B15 : Nat) : Int) := sm_int _ _ B15 8 w15 (rotr_lt _ _ w15) (rotr_lt _ _ w15)
          clear hk7 K6
          go_wp2_with fail
          clear es0
          refine (turned_keep (Rows2 w b k) B2 17 _ _ rfl w2 (by omega) (by omega) K7.out.drewN).mono ?_
          rintro e w8 ⟨rfl, hk8⟩
          have K8 := Lib.hid hk8
          clear hk8 K7
          go_wp2_with fail
          refine (turned_keep (Rows2 w b k) B2 19 _ _ rfl w2 (by omega) (by omega) K8.out.drewN).mono ?_
          rintro e w9 ⟨rfl, hk9⟩
          have K9 := Lib.hid hk9
          have es1 : bits .xor .u32 (bits .xor .u32 ((rotr B2 17 : Nat) : Int) ((rotr B2 19 : Nat) : Int)) ((B2 : Int) / 1024) = ((sm1 B2 : Nat) : Int) := sm_int _ _ B2 1024 w2 (rotr_lt _ _ w2) (rotr_lt _ _ w2)
          clear hk9 K8
          have c7 := (K9.out.2.1.cell j7).trans C7.out
          have c16 := (K9.out.2.1.cell j16).trans C16.out
          have hcs := K9.out.2.1.cell k
          obtain ⟨vk, hvk⟩ := rowk_some b k k (by omega) (by omega)
          rw [hvk] at hcs
          have hfs := K9.out.2.1.frozen k
          clear hvk
          go_wp2
          clear es1
          go_still_tail 15, (by kernel_rfl)
          go_wp2
          go_roundw
          case rel =>
            refine ⟨k + 1, by omega, by omega, by go_num, (K9.out.1.setOther _ _ (by simp)).drew, ?_, (K9.out.2.2.setCell (by simp) _).drew⟩
            have h := (K9.out.2.1.set k (.int .u32 ((nx (sch b k) k : Nat) : Int))).drew
            have hr := rowk_set b k hk2
            rw [if_neg (by omega)] at hr
            rw [hr, HNX.out, ← ad4_int] at h
            exact h
          case measure => simp [intOf]; omega
        · obtain rfl : k = 64 := by omega
          rw [show ((64 : Nat) : Int) = 64 from rfl]
          have h34 : (Try.prog.info? 133).map (·.size) = some (rowk b 64).length := by rw [rowk_length b 64 (by omega)]; exact s34
          go_wp2_with (first | (refine wpList_load_blk rfl 133 _ rfl (w.heap.size + 1) rfl (rowk b 64) 133 G1.out 64 23 tu34 h34 ?_) | (refine wpList_store_blk rfl 133 _ _ rfl w.heap.size (rowk b 64) z64 133 rfl rfl G0.out h34 (by rw [rowk_length b 64 (by omega), z64_length]) (ws_one _) ?_))
          refine bodyPost_ret (v := .tuple #[.agg (ws (sch b 64)).toArray, .int .i64 0]) ?_ rfl ?_
          · rw [← rowk_full]; exact ret_blk2 rfl _ _ w.heap.size 133 (rowk b 64) _ rfl rfl G0.out.setRow 64 23 tu34 h34
          · exact ⟨rfl, below_setRow' GB.out (Nat.le_refl _) _⟩

set_option maxHeartbeats 400000 in
theorem refSchedule_out (v : Value) (b : List UInt8) (w : World) (hr : Rd w.heap.size w v b) (hl : b.length ≠ 64) : Calls Try.prog 96 #[v] w (Two (.agg z64.toArray) (.int .i64 1) w) := by
  obtain ⟨A, c, rfl, hc, hm, hn, hcell⟩ := hr
  have hl2 : ((b.length : Int) != 64) = true := by simp; omega
  clear hcell hn
  unfold maxLen at hm
  have HLN : Hid ((Try.prog.info? 133).map (·.size) = some z64.length) := s34
  go_enter Try.func96, Try.ntmps96
  go_wp2_with (refine wpList_alloc_blk rfl 133 rfl _ z34 ?_)
  intro w1 hb1 hs1 hbl1
  have HB1 := Lib.hid hb1
  have HS1 := Lib.hid hs1
  have HBL1 := Lib.hid hbl1
  clear hb1 hs1 hbl1
  go_wp2_with (first | (refine wpList_buildTo rfl 133 _ rfl (some 11) rfl z64.toArray (by kernel_rfl) ?_) | (refine wpList_alloc_blk rfl 133 rfl _ z34 ?_))
  intro w2 hb2 hs2 hbl2
  rw [HS1.out] at hb2 hs2 hbl2 ⊢
  have G0 : Hid (Blk w2 w.heap.size z64 133) := HB1.out.below hbl2 (by omega)
  have G1 : Hid (Blk w2 (w.heap.size + 1) z64 133) := hb2
  have GB : Hid (Below w.heap.size w w2) := HBL1.out.trans (hbl2.mono (by omega))
  clear hb2 hs2 hbl2 HB1 HS1 HBL1
  have K0 : Hid (Blk (w2.setRow (w.heap.size + 1) z64.toArray) w.heap.size z64 133) := G0.out.setRowOther (by omega)
  have K1 : Hid (Blk (w2.setRow (w.heap.size + 1) z64.toArray) (w.heap.size + 1) z64 133) := G1.out.setRow
  have KB : Hid (Below w.heap.size w (w2.setRow (w.heap.size + 1) z64.toArray)) := below_setRow' GB.out (by omega) _
  go_wp2_with (first | (refine wpList_store_blk rfl 133 _ _ rfl (w.heap.size + 1) z64 z64 133 rfl rfl G1.out HLN.out rfl (ws_one _) ?_) | (refine wpList_load_blk rfl 133 _ rfl (w.heap.size + 1) rfl z64 133 K1.out 64 23 tu34 HLN.out ?_) | (refine wpList_store_blk rfl 133 _ _ rfl w.heap.size z64 z64 133 rfl rfl K0.out HLN.out rfl (ws_one _) ?_))
  refine bodyPost_ret (v := .tuple #[.agg z64.toArray, .int .i64 1]) ?_ rfl ?_
  · exact ret_blk2 rfl _ _ w.heap.size 133 _ _ rfl rfl K0.out.setRow 64 23 tu34 HLN.out
  · exact ⟨rfl, below_setRow' KB.out (Nat.le_refl _) _⟩
end Go.Proofs.Ytnemkefmlffigaa
