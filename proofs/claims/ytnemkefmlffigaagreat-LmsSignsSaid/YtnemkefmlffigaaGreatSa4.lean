/-
  A block on a state: for every state, schedule and round words the program answers the eight words that the document tells.
-/
import Derived.Test.YtnemkefmlffigaaGreatSa3
namespace Go.Proofs.YtnemkefmlffigaaGreat
open Go.RowKit

theorem ws_cell (l : List Nat) (j : Nat) (h : j < l.length) : (ws l)[j]? = some (.int .u32 ((l.getD j 0 : Nat) : Int)) := by rw [ws_at l j h]; simp [h]

set_option maxHeartbeats 2000000 in
set_option maxRecDepth 100000 in
theorem process_any (s W K : List Nat) (w : World) (hs : s.length = 8) (hW : W.length = 64) (hK : K.length = 64) (hs32 : W32 s) : Calls Tryz.prog 116 #[.agg (ws s).toArray, .agg (ws W).toArray, .agg (ws K).toArray] w (Arr (ws (proc s W K)) w) := by
  have HS := Lib.hid hs
  have HW := Lib.hid hW
  have HK := Lib.hid hK
  clear hs hW hK
  go_enter Tryz.func116, Tryz.ntmps116
  go_wp2_with (refine wpList_box_blk rfl 125 _ rfl (ws s) rfl ?_)
  intro w1 a1 a2 a3
  have A1 := Lib.hid a1
  have A2 := Lib.hid a2
  have A3 := Lib.hid a3
  clear a1 a2 a3
  go_wp2_with (refine wpList_box_blk rfl 138 _ rfl (ws W) rfl ?_)
  intro w2 a1 a2 a3
  rw [A2.out] at a1 a2 a3 ⊢
  have B1 := Lib.hid a1
  have B2 := Lib.hid a2
  have B3 := Lib.hid a3
  clear a1 a2 a3
  go_wp2_with (refine wpList_box_blk rfl 138 _ rfl (ws K) rfl ?_)
  intro w3 a1 a2 a3
  rw [B2.out] at a1 a2 a3 ⊢
  have C1 := Lib.hid a1
  have C2 := Lib.hid a2
  have C3 := Lib.hid a3
  clear a1 a2 a3
  go_wp2_with (refine wpList_alloc_blk rfl 125 rfl _ z33 ?_)
  intro w4 a1 a2 a3
  rw [C2.out] at a1 a2 a3 ⊢
  obtain ⟨g, hg⟩ : ∃ g, w.heap.size = g := ⟨_, rfl⟩
  simp only [Nat.add_assoc, Nat.reduceAdd] at a1 a2 a3 ⊢
  have G0 : Hid (Blk w4 w.heap.size (ws s) 125) := ((A1.out.below B3.out (by omega)).below C3.out (by omega)).below a3 (by omega)
  have G1 : Hid (Blk w4 (w.heap.size + 1) (ws W) 138) := (B1.out.below C3.out (by omega)).below a3 (by omega)
  have G2 : Hid (Blk w4 (w.heap.size + 2) (ws K) 138) := Blk.below C1.out a3 (by omega)
  have G3 : Hid (Blk w4 (w.heap.size + 3) z8 125) := a1
  have GB : Hid (Below w.heap.size w w4) := ((A3.out.trans (B3.out.mono (by omega))).trans (C3.out.mono (by omega))).trans (a3.mono (by omega))
  clear a1 a2 a3 A1 A2 A3 B1 B2 B3 C1 C2 C3 hg
  clear g
  have hc : ∀ j, j < 8 → w4.cell? ⟨w.heap.size, j, none⟩ = some (.int .u32 ((s.getD j 0 : Nat) : Int)) := fun j hj => by
    rw [G0.out.cell, ws_cell s j (by rw [HS.out]; exact hj)]
  have c0 := hc 0 (by omega)
  have c1 := hc 1 (by omega)
  have c2 := hc 2 (by omega)
  have c3 := hc 3 (by omega)
  have c4 := hc 4 (by omega)
  have c5 := hc 5 (by omega)
  have c6 := hc 6 (by omega)
  have c7 := hc 7 (by omega)
  clear hc
  go_wp2
  go_still (by kernel_rfl)
  go_wp2
  generalize hw5 : ({ heap := w4.heap, tape := w4.tape, drawn := w4.drawn + 1, os := w4.os, output := w4.output } : World) = w5
  have d4 : w5.cell? ⟨w.heap.size, 4, none⟩ = some (.int .u32 ((s.getD 4 0 : Nat) : Int)) := by rw [← hw5]; exact c4
  have d5 : w5.cell? ⟨w.heap.size, 5, none⟩ = some (.int .u32 ((s.getD 5 0 : Nat) : Int)) := by rw [← hw5]; exact c5
  have d6 : w5.cell? ⟨w.heap.size, 6, none⟩ = some (.int .u32 ((s.getD 6 0 : Nat) : Int)) := by rw [← hw5]; exact c6
  have d7 : w5.cell? ⟨w.heap.size, 7, none⟩ = some (.int .u32 ((s.getD 7 0 : Nat) : Int)) := by rw [← hw5]; exact c7
  have K0 : Hid (Blk w5 w.heap.size (ws s) 125) := by rw [← hw5]; exact G0
  have K1 : Hid (Blk w5 (w.heap.size + 1) (ws W) 138) := by rw [← hw5]; exact G1
  have K2 : Hid (Blk w5 (w.heap.size + 2) (ws K) 138) := by rw [← hw5]; exact G2
  have K3 : Hid (Blk w5 (w.heap.size + 3) z8 125) := by rw [← hw5]; exact G3
  have KB : Hid (Below w.heap.size w w5) := by rw [← hw5]; exact GB.out.drew
  clear c0 c1 c2 c3 c4 c5 c6 c7 G0 G1 G2 G3 GB hw5
  go_still (by kernel_rfl)
  go_wp2
  generalize hw6 : ({ heap := w5.heap, tape := w5.tape, drawn := w5.drawn + 1, os := w5.os, output := w5.output } : World) = w6
  have J0 : Hid (Blk w6 w.heap.size (ws s) 125) := by rw [← hw6]; exact K0
  have J1 : Hid (Blk w6 (w.heap.size + 1) (ws W) 138) := by rw [← hw6]; exact K1
  have J2 : Hid (Blk w6 (w.heap.size + 2) (ws K) 138) := by rw [← hw6]; exact K2
  have J3 : Hid (Blk w6 (w.heap.size + 3) z8 125) := by rw [← hw6]; exact K3
  have JB : Hid (Below w.heap.size w w6) := by rw [← hw6]; exact KB.out.drew
  clear d4 d5 d6 d7 K0 K1 K2 K3 KB hw6
  go_loopw [7, 8, 9, 10, 11, 12, 13, 14, 34] (fun xa xb xc xd xe xf xg xh i wr => ∃ t : Nat, t ≤ 64 ∧ i = .int .i64 t ∧ ∃ q : St, Hid (q = rnds (St.of s) K W t) ∧ xa = .int .u32 (q.a : Int) ∧ xb = .int .u32 (q.b : Int) ∧ xc = .int .u32 (q.c : Int) ∧ xd = .int .u32 (q.d : Int) ∧ xe = .int .u32 (q.e : Int) ∧ xf = .int .u32 (q.f : Int) ∧ xg = .int .u32 (q.g : Int) ∧ xh = .int .u32 (q.h : Int) ∧
    Hid (Blk wr w.heap.size (ws s) 125) ∧ Hid (Blk wr (w.heap.size + 1) (ws W) 138) ∧ Hid (Blk wr (w.heap.size + 2) (ws K) 138) ∧ Hid (Blk wr (w.heap.size + 3) z8 125) ∧ Hid (Below w.heap.size w wr)) (fun _ _ _ _ _ _ _ _ i _ => 64 - (intOf i).toNat)
  case atStart => exact ⟨0, by omega, rfl, St.of s, rfl, rfl, rfl, rfl, rfl, rfl, rfl, rfl, rfl, J0, J1, J2, J3, JB⟩
  case round =>
    clear J0 J1 J2 J3 JB
    obtain ⟨t, ht, rfl, q, hq, rfl, rfl, rfl, rfl, rfl, rfl, rfl, rfl, G0, G1, G2, G3, GB⟩ := hrel
    have hok : q.ok := by rw [hq.out]; exact rnds_ok _ _ _ (St.of_ok hs32) t
    obtain ⟨o1, o2, o3, o4, o5, o6, o7, o8⟩ := hok
    by_cases ht2 : t < 64
    · have zt : (t : Int) < 64 := by omega
      have cK := (G2.out.cell t).trans (ws_cell K t (by rw [HK.out]; exact ht2))
      have cW := (G1.out.cell t).trans (ws_cell W t (by rw [HW.out]; exact ht2))
      obtain ⟨kt, hkt⟩ : ∃ x, K.getD t 0 = x := ⟨_, rfl⟩
      obtain ⟨wt, hwt⟩ : ∃ x, W.getD t 0 = x := ⟨_, rfl⟩
      rw [hkt] at cK
      rw [hwt] at cW
      have HQ : Hid (rnds (St.of s) K W (t + 1) = rnd q kt wt) := by subst hkt hwt; rw [hq.out]; rfl
      clear hkt hwt hq
      obtain ⟨T, hT⟩ : ∃ x, t1 q kt wt = x := ⟨_, rfl⟩
      have eT : IntKind.u32.wrap (IntKind.u32.wrap (IntKind.u32.wrap (IntKind.u32.wrap ((q.h : Int) + (bg1 q.e : Int)) + (chs q.e q.f q.g : Int)) + (kt : Int)) + (wt : Int)) = (T : Int) := by
        rw [ad_int, ad_int, ad_int, ad_int, ← hT]; rfl
      have HT := Lib.hid hT
      clear hT
      go_wp2
      refine wp_region_still_lit (by kernel_rfl) (by kernel_rfl) ?_
      repeat (first | still_step | still_call ((bigS1_any q.e _ o5).mono (by rintro e w' ⟨rfl, rfl⟩; exact ⟨rfl, rfl⟩)) | still_call ((choose_any q.e q.f q.g _ o5 o6 o7).mono (by rintro e w' ⟨rfl, rfl⟩; exact ⟨rfl, rfl⟩)))
      refine wpStill_nil ?_
      clear eT
      go_wp2_with fail
      refine (bigS0_any q.a _ o1).mono ?_
      rintro e w' ⟨rfl, rfl⟩
      go_wp2_with fail
      refine (majority_any q.a q.b q.c _ o1 o2 o3).mono ?_
      rintro e w' ⟨rfl, rfl⟩
      go_wp2
      go_roundw
      case rel =>
        refine ⟨t + 1, by omega, by go_num, rnd q kt wt, HQ.out.symm, ?_, rfl, rfl, rfl, ?_, rfl, rfl, rfl, G0, G1, G2, G3, GB.out.drew⟩
        · have hT := HT.out
          show Value.int .u32 _ = .int .u32 ((ad (t1 q kt wt) (ad (bg0 q.a) (mjr q.a q.b q.c)) : Nat) : Int)
          rw [hT, ad_int' (bg0 q.a), ad_int']
        · have hT := HT.out
          show Value.int .u32 _ = .int .u32 ((ad q.d (t1 q kt wt) : Nat) : Int)
          rw [hT, ad_int']
      case measure => simp [intOf]; omega
    · obtain rfl : t = 64 := by omega
      rw [show ((64 : Nat) : Int) = 64 from rfl]
      have hq := hq.out
      have HP : Hid (proc s W K = fin (St.of s) q) := by rw [hq]; rfl
      have hc : ∀ j, j < 8 → wr.cell? ⟨w.heap.size, j, none⟩ = some (.int .u32 ((s.getD j 0 : Nat) : Int)) := fun j hj => by
        rw [G0.out.cell, ws_cell s j (by rw [HS.out]; exact hj)]
      have c0 := hc 0 (by omega)
      have c1 := hc 1 (by omega)
      have c2 := hc 2 (by omega)
      have c3 := hc 3 (by omega)
      have c4 := hc 4 (by omega)
      have c5 := hc 5 (by omega)
      have c6 := hc 6 (by omega)
      have c7 := hc 7 (by omega)
      have HF : Hid (fin (St.of s) q = [ad (s.getD 0 0) q.a, ad (s.getD 1 0) q.b, ad (s.getD 2 0) q.c, ad (s.getD 3 0) q.d, ad (s.getD 4 0) q.e, ad (s.getD 5 0) q.f, ad (s.getD 6 0) q.g, ad (s.getD 7 0) q.h]) := rfl
      generalize s.getD 0 0 = s0 at c0 HF
      generalize s.getD 1 0 = s1 at c1 HF
      generalize s.getD 2 0 = s2 at c2 HF
      generalize s.getD 3 0 = s3 at c3 HF
      generalize s.getD 4 0 = s4 at c4 HF
      generalize s.getD 5 0 = s5 at c5 HF
      generalize s.getD 6 0 = s6 at c6 HF
      generalize s.getD 7 0 = s7 at c7 HF
      clear hc hq
      have HV : Hid (ws (proc s W K) = [.int .u32 (((s0 : Int) + q.a) % 4294967296), .int .u32 (((s1 : Int) + q.b) % 4294967296), .int .u32 (((s2 : Int) + q.c) % 4294967296), .int .u32 (((s3 : Int) + q.d) % 4294967296), .int .u32 (((s4 : Int) + q.e) % 4294967296), .int .u32 (((s5 : Int) + q.f) % 4294967296), .int .u32 (((s6 : Int) + q.g) % 4294967296), .int .u32 (((s7 : Int) + q.h) % 4294967296)]) := by
        show ws (proc s W K) = _
        rw [HP.out, HF.out]
        simp only [ad_int']
        rfl
      go_wp2_with (refine wpList_store_blk rfl 125 _ _ rfl (w.heap.size + 3) [.int .u32 (((s0 : Int) + q.a) % 4294967296), .int .u32 (((s1 : Int) + q.b) % 4294967296), .int .u32 (((s2 : Int) + q.c) % 4294967296), .int .u32 (((s3 : Int) + q.d) % 4294967296), .int .u32 (((s4 : Int) + q.e) % 4294967296), .int .u32 (((s5 : Int) + q.f) % 4294967296), .int .u32 (((s6 : Int) + q.g) % 4294967296), .int .u32 (((s7 : Int) + q.h) % 4294967296)] z8 125 rfl rfl G3.out s33 z8_length (by rw [← HV.out]; exact ws_one _) ?_)
      refine bodyPost_ret (v := .agg (ws (proc s W K)).toArray) ?_ rfl ?_
      · rw [HV.out]
        exact ret_blk rfl _ _ (w.heap.size + 3) 125 _ rfl G3.out.setRow 8 48 tu33 s33
      · exact ⟨rfl, below_setRow' GB.out (by omega) _⟩
end Go.Proofs.YtnemkefmlffigaaGreat
