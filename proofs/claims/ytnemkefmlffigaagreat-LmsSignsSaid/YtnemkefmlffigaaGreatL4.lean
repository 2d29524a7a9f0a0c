/-
  Package lms: shapeOf, for every width and height; hashes, what it lays.
-/
import Derived.Test.YtnemkefmlffigaaGreatL3
import Derived.Laws.EntriesVeiled
namespace Go.Proofs.YtnemkefmlffigaaGreat
open Go.RowKit

/-- No height. -/
def NoH (y : Int) : Prop := y < 1 ∨ 5 < y

set_option maxRecDepth 100000 in
set_option maxHeartbeats 400000 in
theorem lshape_noW (z y : Int) (w : World) (hz : NoW z) : Calls Tryz.prog 21 #[.int .i64 z, .int .i64 y] w (TwoD (.agg shl0.toArray) (.int .i64 1) w) := by
  have HZ := Lib.hid hz
  clear hz
  obtain ⟨d74, hu74, hd74⟩ := row74
  have HU := Lib.hid hu74
  have HD := Lib.hid hd74
  clear hu74 hd74
  go_enter Tryz.func21, Tryz.ntmps21
  go_wp2_with (refine wpList_alloc_blk rfl 50 rfl _ zi74 ?_)
  intro w1 a1 a2 a3
  have A1 := Lib.hid a1
  have A2 := Lib.hid a2
  have A3 := Lib.hid a3
  clear a1 a2 a3
  go_wp2
  refine wp_scope_goto 0 rfl ?_
  go_wp2_with fail
  refine (typeX_no z _ HZ.out).mono ?_
  rintro e w2 ⟨rfl, hb⟩
  have hs1 := A2.out
  have G1 : Hid (Blk w2 w.heap.size shl0 50) := A1.out.below hb (by omega)
  have GB : Hid (Below w.heap.size w w2) := A3.out.trans (hb.mono (by omega))
  clear hb hs1 A1 A2 A3
  go_wp2
  refine wp_goto ⟨rfl, ?_⟩
  go_wp2_with (refine wpList_store_blk rfl 50 _ _ rfl w.heap.size shl0 shl0 50 rfl rfl G1.out s74 rfl shl0_one ?_)
  rw [Exit.noGoto_ret]
  refine bodyPost_ret (v := .tuple #[.agg shl0.toArray, .int .i64 1]) ?_ rfl ?_
  · exact ret_blk2U rfl _ _ w.heap.size 50 shl0 _ rfl rfl G1.out.setRow d74 HU.out HD.out s74
  · exact ⟨rfl, below_setRow' GB.out (Nat.le_refl _) _⟩

set_option maxRecDepth 100000 in
set_option maxHeartbeats 400000 in
theorem lshape_noH (k : Nat) (y : Int) (w : World) (hk : Wd k) (hy : NoH y) : Calls Tryz.prog 21 #[.int .i64 (k : Int), .int .i64 y] w (TwoD (.agg shl0.toArray) (.int .i64 1) w) := by
  have HK := Lib.hid hk
  clear hk
  obtain ⟨d74, hu74, hd74⟩ := row74
  have HU := Lib.hid hu74
  have HD := Lib.hid hd74
  clear hu74 hd74
  go_enter Tryz.func21, Tryz.ntmps21
  go_wp2_with (refine wpList_alloc_blk rfl 50 rfl _ zi74 ?_)
  intro w1 a1 a2 a3
  have A1 := Lib.hid a1
  have A2 := Lib.hid a2
  have A3 := Lib.hid a3
  clear a1 a2 a3
  go_wp2
  refine wp_scope_goto 0 rfl ?_
  go_wp2_with fail
  refine (typeX_yes k _ HK.out).mono ?_
  rintro e w2 ⟨rfl, hb⟩
  have hs1 := A2.out
  have G1 : Hid (Blk w2 w.heap.size shl0 50) := A1.out.below hb (by omega)
  have GB : Hid (Below w.heap.size w w2) := A3.out.trans (hb.mono (by omega))
  have hg2 : w.heap.size < w2.heap.size := by have := hb.size; omega
  clear hb hs1 A1 A2 A3
  go_wp2_with fail
  refine (longX_yes k _ HK.out).mono ?_
  rintro e w3 ⟨rfl, hb⟩
  have E1 : Hid (Blk w3 w.heap.size shl0 50) := G1.out.below hb hg2
  have EB : Hid (Below w.heap.size w w3) := GB.out.trans (hb.mono (by omega))
  clear hb hg2 G1 GB
  rcases hy with hy | hy
  · have z1 : y < 1 := hy
    go_wp2
    refine wp_goto ⟨rfl, ?_⟩
    go_wp2_with (refine wpList_store_blk rfl 50 _ _ rfl w.heap.size shl0 shl0 50 rfl rfl E1.out s74 rfl shl0_one ?_)
    rw [Exit.noGoto_ret]
    refine bodyPost_ret (v := .tuple #[.agg shl0.toArray, .int .i64 1]) ?_ rfl ?_
    · exact ret_blk2U rfl _ _ w.heap.size 50 shl0 _ rfl rfl E1.out.setRow d74 HU.out HD.out s74
    · exact ⟨rfl, below_setRow' EB.out (Nat.le_refl _) _⟩
  · have z1 : ¬ (y < 1) := by omega
    have z2 : 5 < y := hy
    go_wp2
    refine wp_goto ⟨rfl, ?_⟩
    go_wp2_with (refine wpList_store_blk rfl 50 _ _ rfl w.heap.size shl0 shl0 50 rfl rfl E1.out s74 rfl shl0_one ?_)
    rw [Exit.noGoto_ret]
    refine bodyPost_ret (v := .tuple #[.agg shl0.toArray, .int .i64 1]) ?_ rfl ?_
    · exact ret_blk2U rfl _ _ w.heap.size 50 shl0 _ rfl rfl E1.out.setRow d74 HU.out HD.out s74
    · exact ⟨rfl, below_setRow' EB.out (Nat.le_refl _) _⟩

set_option maxRecDepth 100000 in
set_option maxHeartbeats 400000 in
theorem lshape_yes (k h : Nat) (w : World) (hk : Wd k) (hh : Ht h) : Calls Tryz.prog 21 #[.int .i64 (k : Int), .int .i64 (h : Int)] w (TwoD (.agg (shl k h).toArray) (.int .i64 0) w) := by
  have HK := Lib.hid hk
  have HH := Lib.hid hh
  obtain ⟨h1, h5⟩ := hh.le
  have z1 : ¬ ((h : Int) < 1) := by omega
  have z2 : ¬ ((5 : Int) < (h : Int)) := by omega
  obtain ⟨Y, hY⟩ : ∃ N, typ k = N := ⟨_, rfl⟩
  obtain ⟨L, hL⟩ : ∃ N, lng k = N := ⟨_, rfl⟩
  obtain ⟨D, hD⟩ : ∃ N, knd h = N := ⟨_, rfl⟩
  have HSH : Hid (shl k h = [.int .u32 (D : Int), .int .u32 (Y : Int), .int .i64 (L : Int), .int .i64 (h : Int)]) := by show _ = _; unfold shl; rw [hY, hL, hD]
  have HY := Lib.hid hY
  have HL := Lib.hid hL
  have HDE := Lib.hid hD
  clear hk hh hY hL hD
  obtain ⟨d74, hu74, hd74⟩ := row74
  have HU := Lib.hid hu74
  have HD := Lib.hid hd74
  clear hu74 hd74
  go_enter Tryz.func21, Tryz.ntmps21
  go_wp2_with (refine wpList_alloc_blk rfl 50 rfl _ zi74 ?_)
  intro w1 a1 a2 a3
  have A1 := Lib.hid a1
  have A2 := Lib.hid a2
  have A3 := Lib.hid a3
  clear a1 a2 a3
  go_wp2
  refine wp_scope_goto 0 rfl ?_
  go_wp2_with fail
  refine (typeX_yes k _ HK.out).mono ?_
  rintro e w2 ⟨rfl, hb⟩
  rw [HY.out]
  have hs1 := A2.out
  have G1 : Hid (Blk w2 w.heap.size shl0 50) := A1.out.below hb (by omega)
  have GB : Hid (Below w.heap.size w w2) := A3.out.trans (hb.mono (by omega))
  have hg2 : w.heap.size < w2.heap.size := by have := hb.size; omega
  clear hb hs1 A1 A2 A3
  go_wp2_with fail
  refine (longX_yes k _ HK.out).mono ?_
  rintro e w3 ⟨rfl, hb⟩
  rw [HL.out]
  have E1 : Hid (Blk w3 w.heap.size shl0 50) := G1.out.below hb hg2
  have EB : Hid (Below w.heap.size w w3) := GB.out.trans (hb.mono (by omega))
  have hg3 : w.heap.size < w3.heap.size := by have := hb.size; omega
  clear hb hg2 G1 GB
  go_wp2_with fail
  refine (kindL_any h _ HH.out).mono ?_
  rintro e w4 ⟨rfl, hb⟩
  rw [HDE.out]
  have F1 : Hid (Blk w4 w.heap.size shl0 50) := E1.out.below hb hg3
  have FB : Hid (Below w.heap.size w w4) := EB.out.trans (hb.mono (by omega))
  clear hb hg3 E1 EB
  go_wp2_with (first | (refine wpList_store_blk rfl 50 _ _ rfl w.heap.size (shl k h) shl0 50 rfl (by rw [HSH.out]; rfl) F1.out s74 rfl (shl_one k h) ?_))
  rw [jump_ret]
  refine bodyPost_ret (v := .tuple #[.agg (shl k h).toArray, .int .i64 0]) ?_ rfl ?_
  · exact ret_blk2U rfl _ _ w.heap.size 50 (shl k h) _ rfl rfl F1.out.setRow d74 HU.out HD.out s74
  · exact ⟨rfl, below_setRow' FB.out (Nat.le_refl _) _⟩

/-- What hashes lays: the tree, the number of leaves, and the function itself. -/
def Hsh (I seed : List UInt8) (k h : Nat) (v : Value) (w : World) : Prop :=
  ∃ g0 g1 g2, v = .func (.func 50) #[] #[.pointer (some ⟨g1, 0, none⟩), .pointer (some ⟨g0, 0, none⟩), .pointer (some ⟨g2, 0, none⟩)] ∧
    g0 < w.heap.size ∧ g1 < w.heap.size ∧ g2 < w.heap.size ∧ Blk w g0 (tcs I seed (k : Int) (h : Int)) 25 ∧ w.cell? ⟨g1, 0, none⟩ = some (.int .i64 (2 ^ h : Nat)) ∧ w.cell? ⟨g2, 0, none⟩ = some v

theorem Hsh.laid (I seed : List UInt8) (k h : Nat) (w w1 : World) (n : Int) (hn : n = ((2 ^ h : Nat) : Int)) (A1 : Blk w1 w.heap.size (tcs I seed (k : Int) (h : Int)) 25) (A2 : w1.heap.size = w.heap.size + 1) (A3 : Below w.heap.size w w1) (t3 t77 : TypeId) (v : Value)
    (hv : v = .func (.func 50) #[] #[.pointer (some ⟨w1.heap.size, 0, none⟩), .pointer (some ⟨w.heap.size, 0, none⟩), .pointer (some ⟨w1.heap.size + 1, 0, none⟩)]) :
    Hsh I seed k h v ((w1.alloc (.cells #[.int .i64 n] t3)).alloc (.cells #[v] t77)) ∧ Below w.heap.size w ((w1.alloc (.cells #[.int .i64 n] t3)).alloc (.cells #[v] t77)) := by
  have hb : Below w1.heap.size w1 ((w1.alloc (.cells #[.int .i64 n] t3)).alloc (.cells #[v] t77)) := ((Below.refl _ _).alloc (Nat.le_refl _) _).alloc (by simp) _
  have hb2 : Below (w1.heap.size + 1) (w1.alloc (.cells #[.int .i64 n] t3)) ((w1.alloc (.cells #[.int .i64 n] t3)).alloc (.cells #[v] t77)) := (Below.refl _ _).alloc (by simp) _
  have hsz : ((w1.alloc (.cells #[.int .i64 n] t3)).alloc (.cells #[v] t77)).heap.size = w1.heap.size + 1 + 1 := by simp
  refine ⟨⟨w.heap.size, w1.heap.size, w1.heap.size + 1, hv, by omega, by omega, by omega, A1.below hb (by omega), ?_, ?_⟩, A3.trans (hb.mono (by omega))⟩
  · rw [hb2.cell (p := ⟨w1.heap.size, 0, none⟩) (by show w1.heap.size < w1.heap.size + 1; omega), hn]
    exact World.cell?_alloc_at _ _ _ _ rfl
  · exact World.cell?_alloc_at _ _ _ _ (by simp)
set_option maxRecDepth 100000 in
set_option maxHeartbeats 400000 in
theorem hashes_any (I seed : List UInt8) (k h : Nat) (w : World) (hI : I.length = 16) (hs : seed.length = 32) (hh : Ht h) : Calls Tryz.prog 23 #[.agg (tcs I seed (k : Int) (h : Int)).toArray] w (fun e w' => ∃ v, e = .returned v ∧ Hsh I seed k h v w' ∧ Below w.heap.size w w') := by
  have HC := Lib.hid (tcs_y I seed (k : Int) (h : Int) hI hs)
  have HH := Lib.hid hh
  clear hI hs hh
  go_enter Tryz.func23, Tryz.ntmps23
  go_wp2_with (refine wpList_box_blk rfl 25 _ rfl (tcs I seed (k : Int) (h : Int)) rfl ?_)
  intro w1 a1 a2 a3
  have A1 := Lib.hid a1
  have A3 := Lib.hid a3
  have A2 := Lib.hid a2
  have cy := (a1.cell 49).trans HC.out
  clear a1 a2 a3
  have hmf : ∀ (fn : Fn) (first cap : Array Value) (w : World), (Instr.makeFunc fn first cap).run Tryz.prog w = .ok (.func fn first cap) w := fun _ _ _ _ => rfl
  rcases HH.out with rfl | rfl | rfl | rfl | rfl
  all_goals
    go_wp2
    go_ret
    obtain ⟨q1, q2⟩ := Hsh.laid I seed k _ w w1 _ rfl A1.out A2.out A3.out 3 54 _ rfl
    exact ⟨_, rfl, q1, q2⟩
theorem Hsh.keep {I seed : List UInt8} {k h : Nat} {v : Value} {w w' : World} (H : Hsh I seed k h v w) (hb : Below w.heap.size w w') : Hsh I seed k h v w' := by
  obtain ⟨g0, g1, g2, hv, h0, h1, h2, hB, hL, hF⟩ := H
  have := hb.size
  exact ⟨g0, g1, g2, hv, by omega, by omega, by omega, hB.below hb h0, by rw [hb.cell h1]; exact hL, by rw [hb.cell h2]; exact hF⟩
end Go.Proofs.YtnemkefmlffigaaGreat
