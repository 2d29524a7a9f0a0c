/-
  The law DigitsCheck: of two hashes that are not the same each has, among all digits, one that is greater than the other's, for every width.
-/
import Derived.Test.YtklbegioifpfjaaEq
namespace Go.Proofs.Ytklbegioifpfjaa
open Go.RowKit

/-- The whole array is read, where the operation's guard says so. -/
theorem wpList_load_blkG {P : Program} {w : World} {ops : Array Oper} {rest : List Oper} {o : Oper} {a : Act} {Q : Exit → Act → World → Prop} (t : TypeId) (x : Operand) (ho : o.op = .load t x) (g : Nat) (hx : a.eval x = .pointer (some ⟨g, 0, none⟩)) (cs : List Value) (u : TypeId) (hb : Blk w g cs u)
    (n : Nat) (e : TypeId) (hu : P.underlying t = some (.array n e)) (hi : (P.info? t).map (·.size) = some cs.length) (hw : Region.wanted o (yielded ops a.tmps) = true)
    (h : wpList P ops Q rest (a.put o.dst (.agg cs.toArray)) w) : wpList P ops Q (o :: rest) a w := by
  refine BigFrame.wpList_want hw (fun K hK => ?_)
  unfold Oper.wp
  rw [run_load_blk t x ho g hx cs u hb n e hu hi]
  exact hK _ _ h

set_option maxRecDepth 100000 in
set_option maxHeartbeats 1000000 in
theorem checkLaw_no (l m : List UInt8) (z : Int) (w : World) (hl : l.length = 32) (hm : m.length = 32) (hz : NoW z) : Calls Try.prog 5 #[.agg (bys l).toArray, .agg (bys m).toArray, .int .i64 z] w (One (.bool true) w) := by
  have HZ := Lib.hid hz
  have HL : Hid ((Try.prog.info? 28).map (·.size) = some (bys l).length) := by show _ = _; rw [bys_length, hl]; exact s28
  have HM : Hid ((Try.prog.info? 28).map (·.size) = some (bys m).length) := by show _ = _; rw [bys_length, hm]; exact s28
  clear hl hm
  obtain ⟨h1, h2, h4, h8⟩ := hz
  have g1 : (z != 1) = true := by simp at h1 ⊢; exact h1
  have g2 : (z != 2) = true := by simp at h2 ⊢; exact h2
  have g4 : (z != 4) = true := by simp at h4 ⊢; exact h4
  have g8 : (z != 8) = true := by simp at h8 ⊢; exact h8
  clear h1 h2 h4 h8
  go_enter Try.func5, Try.ntmps5
  go_wp2_with (refine wpList_box_blk rfl 28 _ rfl (bys l) rfl ?_)
  intro w1 a1 a2 a3
  have A1 := Lib.hid a1
  have A2 := Lib.hid a2
  have A3 := Lib.hid a3
  clear a1 a2 a3
  go_wp2_with (refine wpList_box_blk rfl 28 _ rfl (bys m) rfl ?_)
  intro w2 a1 a2 a3
  rw [A2.out] at a1 a2 a3 ⊢
  have G1 : Hid (Blk w2 w.heap.size (bys l) 28) := A1.out.below a3 (by omega)
  have G2 : Hid (Blk w2 (w.heap.size + 1) (bys m) 28) := a1
  have GB : Hid (Below w.heap.size w w2) := A3.out.trans (a3.mono (by omega))
  have hs2 : w.heap.size + 1 < w2.heap.size := by omega
  clear a1 a2 a3 A1 A2 A3
  go_wp2_with (refine wpList_load_blk rfl 28 _ rfl w.heap.size rfl (bys l) 28 G1.out 32 5 tu28 HL.out ?_)
  refine (all_no _ (bys l) z _ rfl HZ.out).mono ?_
  rintro e w3 ⟨rfl, hb⟩
  have G3 : Hid (Blk w3 (w.heap.size + 1) (bys m) 28) := G2.out.below hb (by omega)
  have B3 : Hid (Below w.heap.size w w3) := GB.out.trans (hb.mono (by omega))
  clear hb G1 G2 GB
  go_wp2_with (refine wpList_load_blk rfl 28 _ rfl (w.heap.size + 1) rfl (bys m) 28 G3.out 32 5 tu28 HM.out ?_)
  refine (all_no _ (bys m) z _ rfl HZ.out).mono ?_
  rintro e w4 ⟨rfl, hb⟩
  have B4 : Hid (Below w.heap.size w w4) := B3.out.trans (hb.mono B3.out.size)
  clear hb G3 B3
  go_wp2_with fail
  refine (alive_any _).mono ?_
  rintro e w5 ⟨rfl, hb⟩
  have B5 : Hid (Below w.heap.size w w5) := B4.out.trans (hb.mono B4.out.size)
  clear hb B4
  go_wp2_with fail
  refine (ints_same 0 _ _ [] _ (RdI.nil _ _) (RdI.nil _ _) (by simp)).mono ?_
  rintro e w6 ⟨rfl, n, rfl⟩
  go_wp2
  go_ret
  exact ⟨rfl, Below.drewN' B5.out⟩

set_option maxRecDepth 100000 in
set_option maxHeartbeats 1000000 in
theorem checkLaw_same (l : List UInt8) (k : Nat) (w : World) (hl : l.length = 32) (hk : Wd k) : Calls Try.prog 5 #[.agg (bys l).toArray, .agg (bys l).toArray, .int .i64 (k : Int)] w (One (.bool true) w) := by
  have HK := Lib.hid hk
  have HL : Hid ((Try.prog.info? 28).map (·.size) = some (bys l).length) := by show _ = _; rw [bys_length, hl]; exact s28
  have HL0 := Lib.hid hl
  obtain ⟨k1, k8, hP, hG⟩ := hk.le
  have hC := chk_le k
  have hA : (allD l k).length ≤ 300 := by rw [allD_length]; unfold onn at hP; omega
  clear hl hk
  go_enter Try.func5, Try.ntmps5
  go_wp2_with (refine wpList_box_blk rfl 28 _ rfl (bys l) rfl ?_)
  intro w1 a1 a2 a3
  have A1 := Lib.hid a1
  have A2 := Lib.hid a2
  have A3 := Lib.hid a3
  clear a1 a2 a3
  go_wp2_with (refine wpList_box_blk rfl 28 _ rfl (bys l) rfl ?_)
  intro w2 a1 a2 a3
  rw [A2.out] at a1 a2 a3 ⊢
  have G1 : Hid (Blk w2 w.heap.size (bys l) 28) := A1.out.below a3 (by omega)
  have G2 : Hid (Blk w2 (w.heap.size + 1) (bys l) 28) := a1
  have GB : Hid (Below w.heap.size w w2) := A3.out.trans (a3.mono (by omega))
  have hs2 : w.heap.size + 1 < w2.heap.size := by omega
  clear a1 a2 a3 A1 A2 A3
  go_wp2_with (refine wpList_load_blk rfl 28 _ rfl w.heap.size rfl (bys l) 28 G1.out 32 5 tu28 HL.out ?_)
  refine (all_yes l k _ HK.out HL0.out).mono ?_
  rintro e w3 ⟨x, rfl, hown, hb⟩
  have F1 : Hid (Blk w3 w.heap.size (bys l) 28) := G1.out.below hb (by omega)
  have F2 : Hid (Blk w3 (w.heap.size + 1) (bys l) 28) := G2.out.below hb (by omega)
  have FB : Hid (Below w.heap.size w w3) := GB.out.trans (hb.mono (by omega))
  have FX : Hid (RdI w3.heap.size w3 x (allD l k)) := hown.rd
  have hs3 : w.heap.size + 1 < w3.heap.size := by have := hb.size; omega
  clear hb hown G1 G2 GB
  go_wp2_with (refine wpList_load_blk rfl 28 _ rfl (w.heap.size + 1) rfl (bys l) 28 F2.out 32 5 tu28 HL.out ?_)
  refine (all_yes l k _ HK.out HL0.out).mono ?_
  rintro e w4 ⟨y, rfl, hown, hb⟩
  have G1 : Hid (Blk w4 w.heap.size (bys l) 28) := F1.out.below hb (by omega)
  have G2 : Hid (Blk w4 (w.heap.size + 1) (bys l) 28) := F2.out.below hb (by omega)
  have GB : Hid (Below w.heap.size w w4) := FB.out.trans (hb.mono (by omega))
  have GX : Hid (RdI w4.heap.size w4 x (allD l k)) := (FX.out.below hb).more hb.size
  have GY : Hid (RdI w4.heap.size w4 y (allD l k)) := hown.rd
  clear hb hown F1 F2 FB FX hs3
  obtain ⟨A, c, rfl, hc, hm⟩ := GX.out.shape
  obtain ⟨A', c', rfl, hc', hm'⟩ := GY.out.shape
  unfold maxLen at hm hm'
  have heq := eqHash_yes l HL0.out w4
  go_wp2_with (first | (refine wpList_load_blkG 28 _ rfl w.heap.size rfl (bys l) 28 G1.out 32 5 tu28 HL.out (by rfl) ?_) | (refine wpList_load_blkG 28 _ rfl (w.heap.size + 1) rfl (bys l) 28 G2.out 32 5 tu28 HL.out (by rfl) ?_))
  clear heq
  refine (alive_any _).mono ?_
  rintro e w5 ⟨rfl, hb⟩
  have B5 : Hid (Below w.heap.size w w5) := GB.out.trans (hb.mono GB.out.size)
  have X5 : Hid (RdI w4.heap.size w5 (Value.slice A (allD l k).length c) (allD l k)) := GX.out.below hb
  have Y5 : Hid (RdI w4.heap.size w5 (Value.slice A' (allD l k).length c') (allD l k)) := GY.out.below hb
  clear hb G1 G2 GB GX GY
  go_wp2_with fail
  refine (ints_same _ _ _ (allD l k) _ X5.out Y5.out (by omega)).mono ?_
  rintro e w6 ⟨rfl, n, rfl⟩
  go_wp2
  go_ret
  exact ⟨rfl, Below.drewN' B5.out⟩
end Go.Proofs.Ytklbegioifpfjaa
