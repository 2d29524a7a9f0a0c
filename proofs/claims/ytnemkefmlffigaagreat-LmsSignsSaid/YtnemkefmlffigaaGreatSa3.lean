/-
  The message schedule of every block of 64 bytes, as the program lays it.
-/
import Derived.Test.YtnemkefmlffigaaGreatSa2
import Derived.StillTailTactics
namespace Go.Proofs.YtnemkefmlffigaaGreat
open Go.RowKit

/-- The cells of a schedule whose first k words are laid. -/
def rowk (b : List UInt8) (k : Nat) : List Value := ws (sch b k ++ List.replicate (64 - k) 0)
theorem rowk_zero (b : List UInt8) : rowk b 0 = z64 := rfl
theorem rowk_full (b : List UInt8) : rowk b 64 = ws (sch b 64) := by simp [rowk]
theorem rowk_length (b : List UInt8) (k : Nat) (h : k ≤ 64) : (rowk b k).length = 64 := by simp [rowk, ws_length, sch_length]; omega
theorem rowk_at (b : List UInt8) (k j : Nat) (h : j < k) : (rowk b k)[j]? = some (.int .u32 ((sch b k).getD j 0 : Nat)) := by
  have hj : j < (sch b k).length := by rw [sch_length]; exact h
  rw [rowk, ws_append, List.getElem?_append_left (by rw [ws_length]; exact hj), ws_at _ _ hj]
  simp [hj]
theorem rowk_some (b : List UInt8) (k j : Nat) (hk : k ≤ 64) (h : j < 64) : ∃ v, (rowk b k)[j]? = some v := by
  exact ⟨_, List.getElem?_eq_getElem (by rw [rowk_length b k hk]; exact h)⟩
theorem rowk_set (b : List UInt8) (k : Nat) (h : k < 64) : (rowk b k).set k (.int .u32 ((if k < 16 then wd b k else nx (sch b k) k : Nat) : Int)) = rowk b (k + 1) := by
  obtain ⟨m, hm⟩ : ∃ m, 64 - k = m + 1 := ⟨63 - k, by omega⟩
  have hm' : 64 - (k + 1) = m := by omega
  have hl : (ws (sch b k)).length = k := by rw [ws_length, sch_length]
  unfold rowk
  rw [hm, hm', ws_append, ws_append, sch, ws_append, List.set_append, if_neg (by omega), hl, Nat.sub_self, List.append_assoc]
  rfl

theorem ad4_int (a b c d : Nat) : ((a : Int) + b + c + d) % 4294967296 = ((ad (ad (ad a b) c) d : Nat) : Int) := by unfold ad; omega
theorem wd_int (B0 B1 B2 B3 : Nat) (y0 : B0 < 256) (y1 : B1 < 256) (y2 : B2 < 256) (y3 : B3 < 256) :
    bits .or .u32 (bits .or .u32 (bits .or .u32 (IntKind.u32.wrap (IntKind.u32.wrap (B0 : Int) * 16777216)) (IntKind.u32.wrap (IntKind.u32.wrap (B1 : Int) * 65536))) (IntKind.u32.wrap (IntKind.u32.wrap (B2 : Int) * 256))) (IntKind.u32.wrap (B3 : Int))
      = ((B0 * 16777216 ||| B1 * 65536 ||| B2 * 256 ||| B3 : Nat) : Int) := by
  have r0 : IntKind.u32.wrap (IntKind.u32.wrap (B0 : Int) * 16777216) = ((B0 * 16777216 : Nat) : Int) := by rw [IntKind.wrap_u32', IntKind.wrap_u32']; omega
  have r1 : IntKind.u32.wrap (IntKind.u32.wrap (B1 : Int) * 65536) = ((B1 * 65536 : Nat) : Int) := by rw [IntKind.wrap_u32', IntKind.wrap_u32']; omega
  have r2 : IntKind.u32.wrap (IntKind.u32.wrap (B2 : Int) * 256) = ((B2 * 256 : Nat) : Int) := by rw [IntKind.wrap_u32', IntKind.wrap_u32']; omega
  have r3 : IntKind.u32.wrap (B3 : Int) = (B3 : Int) := by rw [IntKind.wrap_u32']; omega
  rw [r0, r1, r2, r3, u32_or_nat _ _ (by omega) (by omega), u32_or_nat _ _ (or32 (by omega) (by omega)) (by omega), u32_or_nat _ _ (or32 (or32 (by omega) (by omega)) (by omega)) (by omega)]

set_option maxHeartbeats 1000000 in
set_option maxRecDepth 100000 in
theorem schedule_any (v : Value) (b : List UInt8) (w : World) (hr : Rd w.heap.size w v b) (hl : b.length = 64) : Calls Tryz.prog 117 #[v] w (Arr (ws (sch b 64)) w) := by
  obtain ⟨A, c, rfl, hc, hm, hn, hcell⟩ := hr
  obtain ⟨a, rfl⟩ : ∃ a, A = some a := by
    cases A with
    | none => have := hn rfl; omega
    | some a => exact ⟨a, rfl⟩
  obtain ⟨hlt, hcell⟩ := hcell a rfl
  rw [hl] at hc hlt ⊢
  have HC := Lib.hid hcell
  have HL := Lib.hid hl
  have hlt' := hlt (by omega)
  clear hcell hl hlt hn
  unfold maxLen at hm
  go_enter Tryz.func117, Tryz.ntmps117
  go_wp2_with (refine wpList_alloc_blk rfl 138 rfl _ z34 ?_)
  intro w1 hb1 hs1 hbl1
  have HB1 := Lib.hid hb1
  have HS1 := Lib.hid hs1
  have HBL1 := Lib.hid hbl1
  clear hb1 hs1 hbl1
  go_wp2_with (refine wpList_alloc_blk rfl 138 rfl _ z34 ?_)
  intro w2 hb2 hs2 hbl2
  have hg1 : w1.heap.size = w.heap.size + 1 := HS1.out
  rw [hg1] at hb2 hs2 hbl2
  have HB2 := Lib.hid hb2
  have HS2 := Lib.hid hs2
  have HBL2 := Lib.hid hbl2
  clear hb2 hs2 hbl2 
  rw [hg1]
  clear hg1
  go_wp2
  go_loopw [6] (fun i wr => ∃ k : Nat, k ≤ 16 ∧ i = .int .i64 k ∧ Hid (Blk wr w.heap.size z64 138) ∧ Hid (Blk wr (w.heap.size + 1) (rowk b k) 138) ∧ Hid (Below w.heap.size w wr)) (fun i _ => 16 - (intOf i).toNat)
  case atStart => exact ⟨0, by omega, rfl, HB1.out.below HBL2.out (by omega), HB2.out, HBL1.out.trans (HBL2.out.mono (by omega))⟩
  case round =>
    obtain ⟨k, hk, rfl, G0, G1, GB⟩ := hrel
    by_cases hk2 : k < 16
    · have hcl : ∀ j, j < 64 → wr.cell? (a.add j) = some (.int .u8 ((b.getD j 0).toNat : Int)) := fun j hj => by
        have hlb : j < b.length := by rw [HL.out]; exact hj
        rw [GB.out.cell (by rw [addr_block]; exact hlt'), HC.out j hlb]
        simp [hlb]
      obtain ⟨j0, e0⟩ : ∃ j : Nat, 4 * k = j := ⟨_, rfl⟩
      obtain ⟨j1, e1⟩ : ∃ j : Nat, 4 * k + 1 = j := ⟨_, rfl⟩
      obtain ⟨j2, e2⟩ : ∃ j : Nat, 4 * k + 2 = j := ⟨_, rfl⟩
      obtain ⟨j3, e3⟩ : ∃ j : Nat, 4 * k + 3 = j := ⟨_, rfl⟩
      have hx : wd b k = (b.getD j0 0).toNat * 16777216 ||| (b.getD j1 0).toNat * 65536 ||| (b.getD j2 0).toNat * 256 ||| (b.getD j3 0).toNat := by subst e0 e1 e2 e3; rfl
      have q0 : IntKind.i64.wrap (4 * (k : Int)) = (j0 : Int) := by rw [IntWalk.i64_in _ (by omega)]; omega
      have q1 : IntKind.i64.wrap ((j0 : Int) + 1) = (j1 : Int) := by rw [IntWalk.i64_in _ (by omega)]; omega
      have q2 : IntKind.i64.wrap ((j0 : Int) + 2) = (j2 : Int) := by rw [IntWalk.i64_in _ (by omega)]; omega
      have q3 : IntKind.i64.wrap ((j0 : Int) + 3) = (j3 : Int) := by rw [IntWalk.i64_in _ (by omega)]; omega
      have l0 : j0 < 64 := by omega
      have l1 : j1 < 64 := by omega
      have l2 : j2 < 64 := by omega
      have l3 : j3 < 64 := by omega
      have z0 : (j0 : Int) < 64 := by omega
      have c0 := hcl j0 l0
      have z1 : (j1 : Int) < 64 := by omega
      have c1 := hcl j1 l1
      have z2 : (j2 : Int) < 64 := by omega
      have c2 := hcl j2 l2
      have z3 : (j3 : Int) < 64 := by omega
      have c3 := hcl j3 l3
      generalize hB0 : (b.getD j0 0).toNat = B0 at c0 hx
      generalize hB1 : (b.getD j1 0).toNat = B1 at c1 hx
      generalize hB2 : (b.getD j2 0).toNat = B2 at c2 hx
      generalize hB3 : (b.getD j3 0).toNat = B3 at c3 hx
      have y0 : B0 < 256 := by rw [← hB0]; exact UInt8.toNat_lt _
      have y1 : B1 < 256 := by rw [← hB1]; exact UInt8.toNat_lt _
      have y2 : B2 < 256 := by rw [← hB2]; exact UInt8.toNat_lt _
      have y3 : B3 < 256 := by rw [← hB3]; exact UInt8.toNat_lt _
      have hwd := wd_int B0 B1 B2 B3 y0 y1 y2 y3
      rw [← hx] at hwd
      have zk : (k : Int) < 64 := by omega
      have hcs := G1.out.cell k
      obtain ⟨vk, hvk⟩ := rowk_some b k k (by omega) (by omega)
      rw [hvk] at hcs
      have hfs := G1.out.frozen k
      clear hcl e0 e1 e2 e3 hx hB0 hB1 hB2 hB3 hvk
      go_wp2
      go_still_tail 35, (by kernel_rfl)
      go_wp2
      go_roundw
      case rel =>
        refine ⟨k + 1, by omega, by go_num, (G0.out.setOther _ _ (by simp)).drew, ?_, (GB.out.setCell (by simp) _).drew⟩
        have h := (G1.out.set k (.int .u32 ((wd b k : Nat) : Int))).drew
        rw [← rowk_set b k (by omega), if_pos hk2]
        exact h
      case measure => simp [intOf]; omega
    · obtain rfl : k = 16 := by omega
      clear hk hk2 HB1 HS1 HBL1 HB2 HS2 HBL2
      rw [show ((16 : Nat) : Int) = 16 from rfl]
      go_wp2
      go_loopw [5] (fun i wr => ∃ k : Nat, 16 ≤ k ∧ k ≤ 64 ∧ i = .int .i64 k ∧ Hid (Blk wr w.heap.size z64 138) ∧ Hid (Blk wr (w.heap.size + 1) (rowk b k) 138) ∧ Hid (Below w.heap.size w wr)) (fun i _ => 64 - (intOf i).toNat)
      case atStart => exact ⟨16, by omega, by omega, rfl, G0, G1, GB⟩
      case round =>
        clear G0 G1 GB
        obtain ⟨k, hk1, hk, rfl, G0, G1, GB⟩ := hrel
        by_cases hk2 : k < 64
        · obtain ⟨j2, e2⟩ : ∃ j : Nat, k - 2 = j := ⟨_, rfl⟩
          obtain ⟨j7, e7⟩ : ∃ j : Nat, k - 7 = j := ⟨_, rfl⟩
          obtain ⟨j15, e15⟩ : ∃ j : Nat, k - 15 = j := ⟨_, rfl⟩
          obtain ⟨j16, e16⟩ : ∃ j : Nat, k - 16 = j := ⟨_, rfl⟩
          have q2 : IntKind.i64.wrap ((k : Int) - 2) = (j2 : Int) := by rw [IntWalk.i64_in _ (by omega)]; omega
          have q7 : IntKind.i64.wrap ((k : Int) - 7) = (j7 : Int) := by rw [IntWalk.i64_in _ (by omega)]; omega
          have q15 : IntKind.i64.wrap ((k : Int) - 15) = (j15 : Int) := by rw [IntWalk.i64_in _ (by omega)]; omega
          have q16 : IntKind.i64.wrap ((k : Int) - 16) = (j16 : Int) := by rw [IntWalk.i64_in _ (by omega)]; omega
          have c2 := (G1.out.cell j2).trans (rowk_at b k j2 (by omega))
          have c7 := (G1.out.cell j7).trans (rowk_at b k j7 (by omega))
          have c15 := (G1.out.cell j15).trans (rowk_at b k j15 (by omega))
          have c16 := (G1.out.cell j16).trans (rowk_at b k j16 (by omega))
          have w2 := (sch_lt b k).at j2
          have w15 := (sch_lt b k).at j15
          have hnx : nx (sch b k) k = ad (ad (ad (sm1 ((sch b k).getD j2 0)) ((sch b k).getD j7 0)) (sm0 ((sch b k).getD j15 0))) ((sch b k).getD j16 0) := by subst e2 e7 e15 e16; rfl
          generalize (sch b k).getD j2 0 = B2 at c2 w2 hnx
          generalize (sch b k).getD j7 0 = B7 at c7 hnx
          generalize (sch b k).getD j15 0 = B15 at c15 w15 hnx
          generalize (sch b k).getD j16 0 = B16 at c16 hnx
          have z2 : (j2 : Int) < 64 := by omega
          have z7 : (j7 : Int) < 64 := by omega
          have z15 : (j15 : Int) < 64 := by omega
          have z16 : (j16 : Int) < 64 := by omega
          have zk : (k : Int) < 64 := by omega
          have hcs := G1.out.cell k
          obtain ⟨vk, hvk⟩ := rowk_some b k k (by omega) (by omega)
          rw [hvk] at hcs
          have hfs := G1.out.frozen k
          have HNX := Lib.hid hnx
          clear e2 e7 e15 e16 hvk hnx
          go_wp2
          refine wp_region_still_tail 23 (by kernel_rfl) (by kernel_rfl) ?_
          simp only [List.take_succ_cons, List.take_zero, List.drop_succ_cons, List.drop_zero]
          repeat (first | still_step | still_call ((smallS1_any B2 _ w2).mono (by rintro e w' ⟨rfl, rfl⟩; exact ⟨rfl, rfl⟩)) | still_call ((smallS0_any B15 _ w15).mono (by rintro e w' ⟨rfl, rfl⟩; exact ⟨rfl, rfl⟩)))
          refine wpStill_nil ?_
          go_wp2
          go_roundw
          case rel =>
            refine ⟨k + 1, by omega, by omega, by go_num, (G0.out.setOther _ _ (by simp)).drew, ?_, (GB.out.setCell (by simp) _).drew⟩
            have h := (G1.out.set k (.int .u32 ((nx (sch b k) k : Nat) : Int))).drew
            have hr := rowk_set b k hk2
            rw [if_neg (by omega)] at hr
            rw [hr, HNX.out, ← ad4_int] at h
            exact h
          case measure => simp [intOf]; omega
        · obtain rfl : k = 64 := by omega
          rw [show ((64 : Nat) : Int) = 64 from rfl]
          have h34 : (Tryz.prog.info? 138).map (·.size) = some (rowk b 64).length := by rw [rowk_length b 64 (by omega)]; exact s34
          go_wp2_with (first | (refine wpList_load_blk rfl 138 _ rfl (w.heap.size + 1) rfl (rowk b 64) 138 G1.out 64 48 tu34 h34 ?_) | (refine wpList_store_blk rfl 138 _ _ rfl w.heap.size (rowk b 64) z64 138 rfl rfl G0.out h34 (by rw [rowk_length b 64 (by omega), z64_length]) (ws_one _) ?_))
          refine bodyPost_ret (v := .agg (ws (sch b 64)).toArray) ?_ rfl ?_
          · rw [← rowk_full]; exact ret_blk rfl _ _ w.heap.size 138 (rowk b 64) rfl G0.out.setRow 64 48 tu34 h34
          · exact ⟨rfl, below_setRow' GB.out (Nat.le_refl _) _⟩
end Go.Proofs.YtnemkefmlffigaaGreat
