/-
  The document's own All: for every width and every hash; and what is no width.
-/
import Derived.Test.YtnemkefmlffigaaDgR2
namespace Go.Proofs.Ytnemkefmlffigaa
open Go.RowKit

theorem OwnI.made (e : TypeId) (w : World) : OwnI e (w.alloc (.cells #[] e)) w.heap.size (.slice (some ⟨w.heap.size, 0, none⟩) 0 0) [] :=
  World.ownsRow_made w #[] 0 (Nat.le_refl _) (Nat.zero_le _) rfl

set_option maxHeartbeats 400000 in
theorem refAll_no (cs : List Value) (z : Int) (w : World) (hc : (Try.prog.info? 28).map (·.size) = some cs.length) (hz : NoW z) : Calls Try.prog 30 #[.agg cs.toArray, .int .i64 z] w (TwoD (.slice none 0 0) (.int .i64 1) w) := by
  have HZ := Lib.hid hz
  have HC := Lib.hid hc
  clear hz hc
  go_enter Try.func30, Try.ntmps30
  go_wp2_with (refine wpList_box_blk rfl 28 _ rfl cs rfl ?_)
  intro w1 a1 a2 a3
  have A1 := Lib.hid a1
  have A2 := Lib.hid a2
  have A3 := Lib.hid a3
  clear a1 a2 a3
  go_wp2_with (refine wpList_load_blk rfl 28 _ rfl w.heap.size rfl cs 28 A1.out 32 5 tu28 HC.out ?_)
  refine (refNumber_no cs z _ HZ.out).mono ?_
  rintro e w2 ⟨rfl, hb⟩
  have hsz := A2.out
  have B2 : Hid (Below w.heap.size w w2) := A3.out.trans (hb.mono (by omega))
  clear hb A1 A2 A3 hsz
  go_wp2
  go_ret2
  exact ⟨rfl, B2.out⟩

set_option maxRecDepth 100000 in
set_option maxHeartbeats 1000000 in
theorem refAll_yes (l : List UInt8) (k : Nat) (w : World) (hk : Wd k) (hl : l.length = 32) : Calls Try.prog 30 #[.agg (bys l).toArray, .int .i64 (k : Int)] w (GivesI2 (allD l k) w) := by
  obtain ⟨i0, hi, hz0, hz1, hz2⟩ := info_parts3
  have HI := Lib.hid hi
  have H0 := Lib.hid hz0
  have H1 := Lib.hid hz1
  have H2 := Lib.hid hz2
  have HK := Lib.hid hk
  have HL := Lib.hid hl
  obtain ⟨k1, k8, hP, hG⟩ := hk.le
  have zk : ¬ k = 0 := by omega
  have hC := chk_le k
  have hN := num_lt l k hk
  have H28 : Hid ((Try.prog.info? 28).map (·.size) = some (bys l).length) := by show _ = _; rw [bys_length, hl]; exact s28
  obtain ⟨N, hN0⟩ : ∃ N, num l k = N := ⟨_, rfl⟩
  obtain ⟨P, hP0⟩ : ∃ P, onn k = P := ⟨_, rfl⟩
  obtain ⟨C, hC0⟩ : ∃ C, chk k = C := ⟨_, rfl⟩
  have HA : Hid (allD l k = digs l k P ++ digs (by2 N) k C) := by show _ = _; rw [← hN0, ← hP0, ← hC0]; rfl
  have HN0 := Lib.hid hN0
  have e1 : (256 : Int) / (k : Int) = (P : Int) := by rw [← hP0]; unfold onn; simp
  have HP32 : Hid (P ≤ l.length * (8 / k)) := by show _ ≤ _; rw [← hP0, onn_eq k hk, hl]; omega
  have HC2 : Hid (C ≤ (by2 N).length * (8 / k)) := by
    show C ≤ 2 * (8 / k)
    rw [← hC0]
    rcases hk with rfl | rfl | rfl | rfl <;> decide
  have CC : Hid (∀ w', Calls Try.prog 65 #[.int .i64 (k : Int)] w' (Drew (.tuple #[.int .i64 (C : Nat), .int .i64 0]) w')) := fun w' => by rw [← hC0]; exact refCheck_yes k w' hk
  rw [hN0] at hN
  rw [hP0] at hP
  rw [hC0] at hC
  have zN : (N : Int) < 65536 := by omega
  rw [HA.out]
  clear hi hz0 hz1 hz2 hk hl hN0 hP0 hC0
  go_enter Try.func30, Try.ntmps30
  go_wp2_with (refine wpList_box_blk rfl 28 _ rfl (bys l) rfl ?_)
  intro w1 a1 a2 a3
  have A1 := Lib.hid a1
  have A2 := Lib.hid a2
  have A3 := Lib.hid a3
  clear a1 a2 a3
  go_wp2_with (refine wpList_load_blk rfl 28 _ rfl w.heap.size rfl (bys l) 28 A1.out 32 5 tu28 H28.out ?_)
  refine (refNumber_yes l k _ HK.out HL.out).mono ?_
  rintro e w2 ⟨rfl, hb⟩
  rw [HN0.out]
  have hsz := A2.out
  have G2 : Hid (Blk w2 w.heap.size (bys l) 28) := A1.out.below hb (by omega)
  have B2 : Hid (Below w.heap.size w w2) := A3.out.trans (hb.mono (by omega))
  have hs2 : w.heap.size < w2.heap.size := by have := hb.size; omega
  clear hb hsz A1 A2 A3
  go_wp2
  have O3 : Hid (OwnI 3 (w2.alloc (.cells #[] 3)) w2.heap.size (.slice (some ⟨w2.heap.size, 0, none⟩) 0 0) []) := OwnI.made 3 w2
  have G3 : Hid (Blk (w2.alloc (.cells #[] 3)) w.heap.size (bys l) 28) := G2.out.alloc _
  have B3 : Hid (Below w.heap.size w (w2.alloc (.cells #[] 3))) := B2.out.alloc (by omega) _
  have hs3 : w2.heap.size < (w2.alloc (.cells #[] 3)).heap.size := by simp
  generalize w2.alloc (.cells #[] 3) = w3 at O3 G3 B3 hs3 ⊢
  obtain ⟨g, hg⟩ : ∃ g, w2.heap.size = g := ⟨_, rfl⟩
  rw [hg] at O3 hs2 hs3 ⊢
  clear hg G2 B2
  go_loopw [8, 9] (fun v x wr => ∃ i : Nat, i ≤ P ∧ x = .int .i64 i ∧ Hid (OwnI 3 wr g v (digs l k i)) ∧ Hid (Below g w3 wr)) (fun _ x _ => P - (intOf x).toNat)
  case atStart => exact ⟨0, by omega, rfl, O3, Below.refl _ _⟩
  case round =>
    clear O3
    obtain ⟨i, hi, rfl, O, B⟩ := hrel
    have hs := B.out.size
    by_cases hlt : i < P
    · have HS : Hid (digs l k i ++ [dig l i k] = digs l k (i + 1)) := (digs_succ l k i).symm
      have HLL : Hid ((digs l k i).length = i) := digs_length l k i
      have R : Rd (w.heap.size + 1) wr (.slice (some ⟨w.heap.size, 0, none⟩) 32 32) l := by
        have h := (G3.out.below B.out hs2).rd (by rw [HL.out]; unfold maxLen; omega)
        rw [HL.out] at h
        exact h
      have CD : Hid (Calls Try.prog 64 #[.slice (some ⟨w.heap.size, 0, none⟩) 32 32, .int .i64 (i : Int), .int .i64 (k : Int)] wr (Just (.tuple #[.int .i64 (dig l i k : Nat), .int .i64 0]) wr)) := refDigit_in _ _ l i k _ HK.out R (by rw [HL.out]; omega) (Nat.lt_of_lt_of_le hlt HP32.out)
      generalize digs l k i = L at O HLL HS
      generalize dig l i k = D at HS CD
      clear R
      go_wp2_with fail
      refine CD.out.mono ?_
      rintro e w4 ⟨rfl, rfl⟩
      go_wp2_with (at_builtin; refine wpList_app1I rfl _ _ 52 rfl 3 i0 Try.underlying52 HI.out H0.out H1.out H2.out g _ L D ⟨wr.heap.size, 0, none⟩ rfl (O.out.alloc _) rfl (by simp) (by rw [HLL.out]; omega) (by simp; omega) ?_)
      intro v' w' hown hb
      rw [HS.out] at hown
      have O' := Lib.hid hown
      have B' : Hid (Below g w3 w') := (B.out.alloc (by omega) _).trans hb
      clear hown hb O B CD
      go_wp2
      go_roundw
      case rel => exact ⟨i + 1, by omega, by go_num, O', B'⟩
      case measure => simp [intOf]; omega
    · obtain rfl : i = P := by omega
      go_wp2_with fail
      refine (CC.out _).mono ?_
      rintro e w4 ⟨rfl, n, rfl⟩
      have O4 : Hid (OwnI 3 (wr.drewN n) g _ (digs l k i)) := O.out.below (B := wr.heap.size) (Below.drewN' (Below.refl _ _)) (Nat.le_refl _)
      have B4 : Hid (Below g w3 (wr.drewN n)) := Below.drewN' B.out
      have hs4 : g < (wr.drewN n).heap.size := by have := B4.out.size; omega
      generalize wr.drewN n = w4 at O4 B4 hs4 ⊢
      clear O B hs
      go_wp2
      go_loopw [8, 14] (fun v x wr => ∃ j : Nat, j ≤ C ∧ x = .int .i64 j ∧ Hid (OwnI 3 wr g v (digs l k i ++ digs (by2 N) k j)) ∧ Hid (Below g w3 wr)) (fun _ x _ => C - (intOf x).toNat)
      case atStart => exact ⟨0, by omega, rfl, by simpa [digs, Hid] using O4, B4⟩
      case round =>
        clear O4 B4 hs4
        obtain ⟨j, hj, rfl, O, B⟩ := hrel
        have hs := B.out.size
        by_cases hlt : j < C
        · have HS : Hid ((digs l k i ++ digs (by2 N) k j) ++ [dig (by2 N) j k] = digs l k i ++ digs (by2 N) k (j + 1)) := by show _ = _; rw [List.append_assoc, digs_succ]
          have HLL : Hid ((digs l k i ++ digs (by2 N) k j).length = i + j) := by show _ = _; rw [List.length_append, digs_length, digs_length]
          have R : Rd (wr.heap.size + 1) (wr.alloc (.cells #[.int .u8 ((N : Int) / 256), .int .u8 ((N : Int) % 256)] 5)) (.slice (some ⟨wr.heap.size, 0, none⟩) 2 2) (by2 N) :=
            Rd.two 5 _ wr _ _ _ _ (by simp; omega) (by simp)
          have CD : Hid (Calls Try.prog 64 #[.slice (some ⟨wr.heap.size, 0, none⟩) 2 2, .int .i64 (j : Int), .int .i64 (k : Int)] (wr.alloc (.cells #[.int .u8 ((N : Int) / 256), .int .u8 ((N : Int) % 256)] 5)) (Just (.tuple #[.int .i64 (dig (by2 N) j k : Nat), .int .i64 0]) (wr.alloc (.cells #[.int .u8 ((N : Int) / 256), .int .u8 ((N : Int) % 256)] 5)))) := refDigit_in _ _ (by2 N) j k _ HK.out R (by simp [by2]) (Nat.lt_of_lt_of_le hlt HC2.out)
          have O5 : Hid (OwnI 3 (wr.alloc (.cells #[.int .u8 ((N : Int) / 256), .int .u8 ((N : Int) % 256)] 5)) g _ (digs l k i ++ digs (by2 N) k j)) := O.out.alloc _
          have B5 : Hid (Below g w3 (wr.alloc (.cells #[.int .u8 ((N : Int) / 256), .int .u8 ((N : Int) % 256)] 5))) := B.out.alloc (by omega) _
          have hs5 : g < (wr.alloc (.cells #[.int .u8 ((N : Int) / 256), .int .u8 ((N : Int) % 256)] 5)).heap.size := by simp; omega
          generalize digs l k i ++ digs (by2 N) k j = L at O5 HLL HS
          generalize dig (by2 N) j k = D at HS CD
          clear R O B
          go_wp2_with fail
          refine CD.out.mono ?_
          rintro e w5 ⟨rfl, hw5⟩
          rw [hw5] at O5 B5 hs5
          clear hw5 CD
          go_wp2_with (at_builtin; refine wpList_app1I rfl _ _ 52 rfl 3 i0 Try.underlying52 HI.out H0.out H1.out H2.out g _ L D ⟨w5.heap.size, 0, none⟩ rfl (O5.out.alloc _) rfl (by simp) (by rw [HLL.out]; omega) (by simp; omega) ?_)
          intro v' w' hown hb
          rw [HS.out] at hown
          have O' := Lib.hid hown
          have B' : Hid (Below g w3 w') := (B5.out.alloc (by omega) _).trans hb
          clear hown hb O5 B5
          go_wp2
          go_roundw
          case rel => exact ⟨j + 1, by omega, by go_num, O', B'⟩
          case measure => simp [intOf]; omega
        · obtain rfl : j = C := by omega
          go_wp2
          go_ret2
          exact ⟨_, rfl, O.out.base (by omega), B3.out.trans (B.out.mono (by omega))⟩
end Go.Proofs.Ytnemkefmlffigaa
