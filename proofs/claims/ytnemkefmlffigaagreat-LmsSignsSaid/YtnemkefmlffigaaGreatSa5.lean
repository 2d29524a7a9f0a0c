/-
  The bytes of a state, and the padding of every number of bytes, as the program lays them.
-/
import Derived.Test.YtnemkefmlffigaaGreatSa4
namespace Go.Proofs.YtnemkefmlffigaaGreat
open Go.RowKit

/-- 32 bytes whose first are these. -/
def jrow (l : List UInt8) : List Value := bys (l ++ List.replicate (32 - l.length) 0)
theorem jrow_nil : jrow [] = z32 := rfl
theorem jrow_length (l : List UInt8) (h : l.length ≤ 32) : (jrow l).length = 32 := by simp [jrow, bys_length]; omega
theorem jrow_full (l : List UInt8) (h : l.length = 32) : jrow l = bys l := by simp [jrow, h]
theorem jrow_set (l : List UInt8) (b : UInt8) (h : l.length < 32) : (jrow l).set l.length (.int .u8 (b.toNat : Int)) = jrow (l ++ [b]) := by
  obtain ⟨m, hm⟩ : ∃ m, 32 - l.length = m + 1 := ⟨31 - l.length, by omega⟩
  have hm' : 32 - (l ++ [b]).length = m := by simp; omega
  have hl : (bys l).length = l.length := bys_length l
  unfold jrow
  rw [hm, hm', bys_append, bys_append, bys_append, List.set_append, if_neg (by omega), hl, Nat.sub_self, List.append_assoc]
  rfl
theorem joinl_snoc (s : List Nat) (x : Nat) : joinl (s ++ [x]) = joinl s ++ be 4 x := by simp [joinl]
theorem take_snoc' (s : List Nat) (k : Nat) (h : k < s.length) : s.take (k + 1) = s.take k ++ [s.getD k 0] := by
  rw [List.take_succ_eq_append_getElem h]; simp [h]

/-- A cell of an array's value. -/
theorem run_index {P : Program} (t e : TypeId) (n : Nat) (kk : IntKind) (hu : P.underlying t = some (.array n e)) (hsz : (P.info? e).map (·.size) = some 1) (he : P.underlying e = some (.int kk)) (cs : List Value) (k : Nat) (hk : k < n) (v : Value) (hv : cs[k]? = some v) (w : World) :
    (Instr.index t (.agg cs.toArray) (.int .i64 (k : Int))).run P w = .ok v w := by
  have hk1 : (0 : Int) ≤ (k : Int) ∧ (k : Int) < (n : Int) := by omega
  have hsz' : (sizeOf e).run P w = .ok 1 w := by
    cases hq : P.info? e with
    | none => simp [hq] at hsz
    | some i => simp [hq] at hsz; simp [sizeOf, typeInfo, hq, hsz]
  have hagg : (isAgg e).run P w = .ok false w := by
    unfold isAgg
    rw [Sem.run_bind, run_underlying he w]
    rfl
  unfold Instr.index
  simp only [asIntOf, Sem.run_bind, Sem.run_pure, Result.andThen_ok, run_underlying hu w]
  simp [hk1, hsz', part, hagg, hv, Result.andThen, Sem.run_bind]
/-- Byte j of a word's four. -/
theorem be4_snoc (x j : Nat) (hj : j < 4) : (be 4 x).take (j + 1) = (be 4 x).take j ++ [UInt8.ofNat (x / 256 ^ (3 - j))] := by
  have h := be_take 4 (3 - j) x (by omega)
  rw [show 4 - (3 - j) = j + 1 by omega, show 4 - (3 - j + 1) = j by omega] at h
  exact h
theorem be4_int (x j : Nat) (hj : j < 4) : (x : Int) / 2 ^ (24 - 8 * j) % 256 = ((UInt8.ofNat (x / 256 ^ (3 - j))).toNat : Int) := by
  have h := byte_shift (x : Int) (3 - j) (by omega)
  rw [show 8 * (3 - j) = 24 - 8 * j by omega] at h
  simpa using h
theorem jrow_next (l : List UInt8) (x j n : Nat) (hj : j < 4) (hn : l.length + j = n) (h : n < 32) : (jrow (l ++ (be 4 x).take j)).set n (.int .u8 ((x : Int) / 2 ^ (24 - 8 * j) % 256)) = jrow (l ++ (be 4 x).take (j + 1)) := by
  have hl : (l ++ (be 4 x).take j).length = n := by rw [List.length_append, List.length_take, be_length]; omega
  rw [be4_int x j hj, be4_snoc x j hj, ← List.append_assoc, ← jrow_set _ _ (by omega), hl]
theorem tu27 : Tryz.prog.underlying 48 = some (.int .u32) := by kernel_rfl

set_option maxHeartbeats 1000000 in
theorem join_any (s : List Nat) (w : World) (hs : s.length = 8) (hs32 : W32 s) : Calls Tryz.prog 119 #[.agg (ws s).toArray] w (Arr (bys (joinl s)) w) := by
  have HS := Lib.hid hs
  clear hs
  go_enter Tryz.func119, Tryz.ntmps119
  go_wp2_with (refine wpList_box_blk rfl 125 _ rfl (ws s) rfl ?_)
  intro w1 a1 a2 a3
  have A1 := Lib.hid a1
  have A2 := Lib.hid a2
  have A3 := Lib.hid a3
  clear a1 a2 a3
  go_wp2_with (refine wpList_alloc_blk rfl 23 rfl _ z24 ?_)
  intro w2 a1 a2 a3
  rw [A2.out] at a1 a2 a3 ⊢
  have B1 := Lib.hid a1
  have B2 := Lib.hid a2
  have B3 := Lib.hid a3
  clear a1 a2 a3
  go_wp2_with (refine wpList_alloc_blk rfl 23 rfl _ z24 ?_)
  intro w3 a1 a2 a3
  rw [B2.out] at a1 a2 a3 ⊢
  simp only [Nat.add_assoc, Nat.reduceAdd] at a1 a2 a3 ⊢
  have G0 : Hid (Blk w3 w.heap.size (ws s) 125) := (A1.out.below B3.out (by omega)).below a3 (by omega)
  have G1 : Hid (Blk w3 (w.heap.size + 1) z32 23) := B1.out.below a3 (by omega)
  have G2 : Hid (Blk w3 (w.heap.size + 2) z32 23) := a1
  have GB : Hid (Below w.heap.size w w3) := (A3.out.trans (B3.out.mono (by omega))).trans (a3.mono (by omega))
  clear a1 a2 a3 A1 A2 A3 B1 B2 B3
  have h33 : (Tryz.prog.info? 125).map (·.size) = some (ws s).length := by rw [ws_length, HS.out]; exact s33
  go_wp2_with (refine wpList_load_blk rfl 125 _ rfl w.heap.size rfl (ws s) 125 G0.out 8 48 tu33 h33 ?_)
  clear h33
  go_loopw [8] (fun i wr => ∃ k : Nat, k ≤ 8 ∧ i = .int .i64 k ∧ Hid (Blk wr (w.heap.size + 1) z32 23) ∧ Hid (Blk wr (w.heap.size + 2) (jrow (joinl (s.take k))) 23) ∧ Hid (Below w.heap.size w wr)) (fun i _ => 8 - (intOf i).toNat)
  case atStart => exact ⟨0, by omega, rfl, G1, G2, GB⟩
  case round =>
    clear G0 G1 G2 GB
    obtain ⟨k, hk, rfl, G1, G2, GB⟩ := hrel
    by_cases hk2 : k < 8
    · have hsk := ws_cell s k (by rw [HS.out]; exact hk2)
      have hlt := hs32.at k
      have HT : Hid (s.take (k + 1) = s.take k ++ [s.getD k 0]) := take_snoc' s k (by rw [HS.out]; exact hk2)
      have HL : Hid ((joinl (s.take k)).length = 4 * k) := by show _ = _; rw [joinl_length, List.length_take, HS.out]; omega
      generalize s.getD k 0 = x at hsk hlt HT
      have hix := run_index (P := Tryz.prog) 125 48 8 .u32 tu33 s27 tu27 (ws s) k hk2 _ hsk wr
      have zk : (k : Int) < 8 := by omega
      clear hsk
      go_wp2
      clear hix
      go_loopw [12] (fun i wr => ∃ j : Nat, j ≤ 4 ∧ i = .int .i64 j ∧ Hid (Blk wr (w.heap.size + 1) z32 23) ∧ Hid (Blk wr (w.heap.size + 2) (jrow (joinl (s.take k) ++ (be 4 x).take j)) 23) ∧ Hid (Below w.heap.size w wr)) (fun i _ => 4 - (intOf i).toNat)
      case atStart => exact ⟨0, by omega, rfl, G1, by simpa [Hid] using G2.out, GB⟩
      case round =>
        clear G1 G2 GB
        obtain ⟨j, hj, rfl, G1, G2, GB⟩ := hrel
        by_cases hj2 : j < 4
        · have zj : (j : Int) < 4 := by omega
          have hjl : (joinl (s.take k) ++ (be 4 x).take j).length ≤ 32 := by rw [List.length_append, HL.out, List.length_take, be_length]; omega
          have hcs : ∃ v, wr.cell? ⟨w.heap.size + 2, 4 * k + j, none⟩ = some v := by
            rw [G2.out.cell]
            exact ⟨_, List.getElem?_eq_getElem (by rw [jrow_length _ hjl]; omega)⟩
          obtain ⟨v, hcs⟩ := hcs
          have hfs := G2.out.frozen (4 * k + j)
          clear hjl
          go_wp2
          go_roundw
          case rel =>
            refine ⟨j + 1, by omega, by go_num, G1.out.setOther _ _ (by simp), ?_, GB.out.setCell (by simp) _⟩
            have h := G2.out.set (4 * k + j) (.int .u8 ((x : Int) / 2 ^ (24 - 8 * j) % 256))
            rw [jrow_next _ x j (4 * k + j) hj2 (by rw [HL.out]) (by omega)] at h
            exact h
          case measure => simp [intOf]; omega
        · obtain rfl : j = 4 := by omega
          rw [show ((4 : Nat) : Int) = 4 from rfl]
          go_wp2
          go_roundw
          case rel =>
            refine ⟨k + 1, by omega, by go_num, G1, ?_, GB⟩
            have h := G2.out
            rw [show (be 4 x).take 4 = be 4 x from List.take_of_length_le (by rw [be_length]; omega), ← joinl_snoc, ← HT.out] at h
            exact h
          case measure => simp [intOf]; omega
    · obtain rfl : k = 8 := by omega
      rw [show ((8 : Nat) : Int) = 8 from rfl]
      have hj : jrow (joinl (s.take 8)) = bys (joinl s) := by
        rw [List.take_of_length_le (by rw [HS.out]; omega), jrow_full _ (by rw [joinl_length, HS.out])]
      have G2' : Hid (Blk wr (w.heap.size + 2) (bys (joinl s)) 23) := by have h := G2.out; rw [hj] at h; exact h
      have h24 : (Tryz.prog.info? 23).map (·.size) = some (bys (joinl s)).length := by rw [bys_length, joinl_length, HS.out]; exact s24
      have hln : z32.length = (bys (joinl s)).length := by rw [bys_length, joinl_length, HS.out, z32_length]
      have HLN := Lib.hid hln
      have H24 := Lib.hid h24
      clear hj G2 hln h24
      go_wp2_with (first | (refine wpList_load_blk rfl 23 _ rfl (w.heap.size + 2) rfl (bys (joinl s)) 23 G2'.out 32 5 tu24 H24.out ?_) | (refine wpList_store_blk rfl 23 _ _ rfl (w.heap.size + 1) (bys (joinl s)) z32 23 rfl rfl G1.out H24.out HLN.out (bys_one' _) ?_))
      refine bodyPost_ret (v := .agg (bys (joinl s)).toArray) ?_ rfl ?_
      · exact ret_blk rfl _ _ (w.heap.size + 1) 23 _ rfl G1.out.setRow 32 5 tu24 H24.out
      · exact ⟨rfl, below_setRow' GB.out (by omega) _⟩
end Go.Proofs.YtnemkefmlffigaaGreat
