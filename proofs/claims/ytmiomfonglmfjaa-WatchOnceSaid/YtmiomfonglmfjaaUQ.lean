/-
  The statements on tables: alive.
-/
import Derived.Test.YtmiomfonglmfjaaUE
import Derived.Test.YtmiomfonglmfjaaUN
namespace Go.Proofs.Ytmiomfonglmfjaa
open Go.RowKit

theorem tab_rd {B : Nat} {w : World} {v : Value} {l : List Wa} (h : RdE WaK B w v l) : [v].toArray.all (·.oneCell') = true := by
  obtain ⟨A, c, rfl, -, -⟩ := h.shape
  exact slice_one _ _ _
def liveW : Wa := ([47, 97], 1, true)
def liveC : List Ch := [(2, [47, 97, 47, 98]), (1, [47, 97, 47, 98])]
theorem liv11_r : RightW [] := ⟨by decide, fun _ h => (by cases h), List.nodup_nil⟩
theorem liv11_a : addE [] liveW = 0 ∧ addW [] liveW = [liveW] := by decide +kernel
theorem liv11_r1 : RightW [liveW] := by rw [← liv11_a.2]; exact right_add [] liveW liv11_r
theorem liv11_f : leftW [liveW] liveC = [] ∧ fireW [liveW] liveC = [(liveW, (1, [47, 97, 47, 98]))] := by decide +kernel

set_option maxRecDepth 100000 in
set_option maxHeartbeats 4000000 in
theorem alive11 (w : World) : Calls Try.prog 9 #[] w (One (.bool true) w) := by
  go_enter Try.func9, Try.ntmps9
  go_wp2_with fail
  refine (waAdd_any [] liveW (.slice none 0 0) w (RdE.nil _ _) liv11_r).mono ?_
  rintro e va1 ⟨v1, rfl, hrd, hb⟩
  rw [liv11_a.2] at hrd
  rw [liv11_a.1]
  obtain ⟨A1, c1, hu, -, -⟩ := hrd.shape
  change v1 = .slice A1 1 c1 at hu
  subst hu
  go_wp2_with (refine wpList_alloc_blk rfl 24 rfl [.slice none 0 0] zTbP ?_)
  intro vb1 a1 a2 a3
  obtain ⟨vg1, hg⟩ : ∃ g, va1.heap.size = g := ⟨_, rfl⟩
  have AA := Lib.hid a1
  have EB := Lib.hid (hb.trans (a3.mono hb.size))
  have A3 := Lib.hid a3
  have hbg : w.heap.size ≤ vg1 := by have := hb.size; omega
  have hgs : vg1 ≤ vb1.heap.size := by omega
  have HG := Lib.hid hg
  have RR0 := Lib.hid hrd
  rw [hg] at AA A3 RR0 ⊢
  clear a1 a2 a3 hb hg hrd
  go_wp2_with (refine wpList_store_to rfl 24 _ _ rfl vg1 [.slice A1 1 c1] [.slice none 0 0] 24 rfl rfl AA.out sTbP rfl (slice_one _ _ _) ?_)
  intro W1 e1 e2 e3 e4
  have X1 := Lib.hid e1
  have E1 := Lib.hid (EB.out.trans (e3.mono hbg))
  have R1 := Lib.hid (((RR0.out.below A3.out).below e3).more (show vg1 ≤ W1.heap.size by omega))
  clear e1 e2 e3 e4 AA EB A3 hbg hgs HG RR0
  have c_X1 := X1.out.cell 0
  have HCB := Lib.hid (heap_alloc_new W1 (.cells (rowsE ChK liveC).toArray 26))
  obtain ⟨gC, hgC⟩ : ∃ g, W1.heap.size = g := ⟨_, rfl⟩
  have HBL : Hid (Below W1.heap.size W1 (W1.alloc (.cells (rowsE ChK liveC).toArray 26))) := (Below.refl _ _).alloc (Nat.le_refl _) _
  have RC : Hid (RdE ChK (gC + 1) (W1.alloc (.cells (rowsE ChK liveC).toArray 26)) (.slice (some ⟨gC, 0, none⟩) 2 2) liveC) := by
    have h := RdE.ofBlks (E := ChK) (l := liveC) HCB.out (by decide)
    rw [hgC] at h
    exact h
  have c_X := (X1.out.below HBL.out X1.out.lt).cell 0
  go_wp2_with fail
  clear c_X1
  clear c_X
  obtain ⟨W9, hW9⟩ : ∃ q, W1.alloc (.cells (rowsE ChK liveC).toArray 26) = q := ⟨_, rfl⟩
  have HW9 := Lib.hid hW9
  have hs9 : W9.heap.size = gC + 1 := by
    rw [← hW9]
    simp
    exact hgC
  rw [hW9] at HBL RC HCB
  have E9 := Lib.hid HBL.out
  have RC9 : Hid (RdE ChK W9.heap.size W9 (.slice (some ⟨gC, 0, none⟩) 2 2) liveC) := by
    rw [hs9]
    exact RC.out
  clear HBL RC HCB hW9 hs9
  rw [show W1.alloc (.cells #[.int .i64 2, txt [47, 97, 47, 98], .int .i64 1, txt [47, 97, 47, 98]] 26) = W9 from HW9.out]
  have P2_w := Lib.hid (E1.out.trans (E9.out.mono E1.out.size))
  refine (waFire_any [liveW] liveC (.slice A1 1 c1) _ W9 ((R1.out.below E9.out).more E9.out.size) RC9.out liv11_r1 (by decide)).mono ?_
  rintro e va3 ⟨v2, u2, rfl, hrd, hre, hb⟩
  rw [liv11_f.1] at hrd
  rw [liv11_f.2] at hre
  obtain ⟨A2, c2, hu, -, -⟩ := hrd.shape
  change v2 = .slice A2 0 c2 at hu
  subst hu
  obtain ⟨A3, c3, hu, -, -⟩ := hre.shape
  change u2 = .slice A3 1 c3 at hu
  subst hu
  go_wp2_with (refine wpList_alloc_blk rfl 24 rfl [.slice none 0 0] zTbP ?_)
  intro vb3 a1 a2 a3
  obtain ⟨vg3, hg⟩ : ∃ g, va3.heap.size = g := ⟨_, rfl⟩
  have AA := Lib.hid a1
  have EB := Lib.hid (hb.trans (a3.mono hb.size))
  have A3 := Lib.hid a3
  have hbg : W9.heap.size ≤ vg3 := by have := hb.size; omega
  have hgs : vg3 ≤ vb3.heap.size := by omega
  have HG := Lib.hid hg
  have RR0 := Lib.hid hrd
  have RR1 := Lib.hid hre
  rw [hg] at AA A3 RR0 RR1 ⊢
  clear a1 a2 a3 hb hg hrd hre
  go_wp2_with (refine wpList_store_to rfl 24 _ _ rfl vg3 [.slice A2 0 c2] [.slice none 0 0] 24 rfl rfl AA.out sTbP rfl (slice_one _ _ _) ?_)
  intro W3 e1 e2 e3 e4
  have X2 := Lib.hid e1
  have E3 := Lib.hid (EB.out.trans (e3.mono hbg))
  have R2 := Lib.hid (((RR0.out.below A3.out).below e3).more (show vg3 ≤ W3.heap.size by omega))
  have RE := Lib.hid (((RR1.out.below A3.out).below e3).more (show vg3 ≤ W3.heap.size by omega))
  clear e1 e2 e3 e4 AA EB A3 hbg hgs HG RR0 RR1
  have P3_w := Lib.hid (P2_w.out.trans (E3.out.mono P2_w.out.size))
  clear P2_w
  have P3_W1 := Lib.hid (E9.out.trans (E3.out.mono E9.out.size))
  have c_X1 := (X1.out.below P3_W1.out X1.out.lt).cell 0
  have c_X2 := X2.out.cell 0
  obtain ⟨a3, hA3, q0, q1, q2, q3, q4⟩ := RE.out.atEv 0 (by decide)
  change W3.cell? ⟨(a3.add (0 * 5)).block, (a3.add (0 * 5)).off + 3, none⟩ = some (.int .i64 1) at q3
  subst hA3
  rw [Nat.zero_mul, add_zeroA] at q3
  go_wp2
  go_ret
  exact ⟨rfl, P3_w.out⟩
end Go.Proofs.Ytmiomfonglmfjaa
