/-
  The document's purse: Left, for every purse that may be.
-/
import Derived.Test.YtllncnnigjgadaaGreatPH
import Derived.Test.YtllncnnigjgadaaGreatDDx
import Derived.Test.YtllncnnigjgadaaGreatLAx
import Derived.Test.YtllncnnigjgadaaGreatOBx
import Derived.Test.YtllncnnigjgadaaGreatPAx
import Derived.Test.YtllncnnigjgadaaGreatPBx
import Derived.Test.YtllncnnigjgadaaGreatPCx
import Derived.Test.YtllncnnigjgadaaGreatPDx
import Derived.Test.YtllncnnigjgadaaGreatPGx
import Derived.Test.YtllncnnigjgadaaGreatRBx
import Derived.Test.YtllncnnigjgadaaGreatSXx
namespace Go.Proofs.YtllncnnigjgadaaGreat
open Go.RowKit

set_option maxRecDepth 100000 in
set_option maxHeartbeats 1000000 in
theorem rf6Left_yes (I seed : List UInt8) (k h n m s : Nat) (w : World) (hI : I.length = 16) (hs : seed.length = 32) (hf : PFit k h n m s) : Calls Tryz.prog 23 #[.agg (pcs I seed (k : Int) (h : Int) (n : Int) (m : Int) (s : Int)).toArray] w (One (.int .i64 ((2 ^ h - n : Nat) : Int)) w) := by
  have HN := Lib.hid (pcs_n I seed (k : Int) (h : Int) (n : Int) (m : Int) (s : Int) hI hs)
  have HI := Lib.hid hI
  have HS := Lib.hid hs
  have HF := Lib.hid hf
  have HT := Lib.hid (sTree5' I seed (k : Int) (h : Int) hI hs)
  obtain ⟨dT, huT, hdT⟩ := rowTree5
  have HU := Lib.hid huT
  have HD := Lib.hid hdT
  obtain ⟨L, hL⟩ : ∃ L, 2 ^ h = L := ⟨_, rfl⟩
  have HL := Lib.hid hL
  have hL2 : L ≤ 32 := by rw [← hL]; exact hf.ht.pow.2
  have hmL : m ≤ L := by rw [← hL]; exact hf.mh
  have hnm := hf.nm
  rw [hL]
  obtain ⟨D, hD0⟩ : ∃ D, L - n = D := ⟨_, rfl⟩
  have zD : (L : Int) - (n : Int) = (D : Int) := by omega
  have ZD := Lib.hid zD
  have HDL : Hid (D ≤ 32) := by show _ ≤ _; omega
  rw [hD0]
  clear hI hs huT hdT hf hL hL2 hmL hnm hD0 zD
  go_enter Tryz.func23, Tryz.ntmps23
  go_wp2_with (refine wpList_box_blk rfl 40 _ rfl (pcs I seed (k : Int) (h : Int) (n : Int) (m : Int) (s : Int)) rfl ?_)
  intro w1 a1 a2 a3
  obtain ⟨g0, hg0⟩ : ∃ g, w.heap.size = g := ⟨_, rfl⟩
  have B1 : Hid (Blk w1 g0 (pcs I seed (k : Int) (h : Int) (n : Int) (m : Int) (s : Int)) 40) := by rw [← hg0]; exact a1
  have B3 := Lib.hid a3
  rw [hg0]
  clear a1 a2 a3 hg0
  go_wp2_with fail
  refine wp_region_rely2 7 0 (fun x => ⟨#[.agg (pcs I seed (k : Int) (h : Int) (n : Int) (m : Int) (s : Int)).toArray, .pointer (some ⟨g0, 0, none⟩), x 6, x 0, x 1, x 2, x 3, x 4, x 5], []⟩) (fun jj => ([eqV (.pointer (some ⟨g0, 0, none⟩)), eqV (.agg (tcs I seed (k : Int) (h : Int)).toArray), (eqV (.int .i64 (L : Int))), eqV (.pointer (some ⟨g0, 50, none⟩)), eqV (.int .i64 (n : Int)), eqV (.int .i64 (D : Int)), eqV (.int .i64 (D : Int))] : List (Value → World → Prop)).getD jj (fun _ _ => True)) rfl ⟨fun kk => [_, _, _, _, _, _, _].getD kk undef, rfl⟩ (by kernel_rfl) (by kernel_rfl) ?steps ?fin
  case steps =>
    refine StepsAt.val 0 (.pointer (some ⟨g0, 0, none⟩)) rfl (fun _ _ => rfl) rfl rfl (fun x w9 hb hd => ?_) ?_
    · first | (go_simp; done) | (go_simp; rfl)
    refine StepsAt.val 1 (.agg (tcs I seed (k : Int) (h : Int)).toArray) rfl (fun _ _ => rfl) rfl rfl (fun x w9 hb hd => ?_) ?_
    · have h0 : x 0 = .pointer (some ⟨g0, 0, none⟩) := hd 0 (by kernel_rfl)
      exact run_load_midU 38 (.tmp 3) rfl g0 0 (by exact h0) (tcs I seed (k : Int) (h : Int)) dT (pcs_range (B1.out.below hb B1.out.lt)) HU.out HD.out HT.out
    refine StepsAt.cons 2 (fun _ _ _ h hb => h) (fun _ _ => rfl) rfl rfl (fun x w9 hb hd K hK => ?_) ?_
    · have h1 : Hid (x 1 = .agg (tcs I seed (k : Int) (h : Int)).toArray) := hd 1 (by kernel_rfl)
      go_simp
      refine calls_args (args2 := #[.agg (tcs I seed (k : Int) (h : Int)).toArray]) (by rw [h1.out]) ?_
      refine (rf6Leaves_yes I seed k h _ HI.out HS.out HF.out.wd HF.out.ht).mono ?_
      rintro e w5 ⟨rfl, hb2⟩
      rw [HL.out]
      exact hK.out _ _ hb2 rfl
    refine StepsAt.val 3 (.pointer (some ⟨g0, 50, none⟩)) rfl (fun _ _ => rfl) rfl rfl (fun x w9 hb hd => ?_) ?_
    · first | (go_simp; done) | (go_simp; rfl)
    refine StepsAt.val 4 (.int .i64 (n : Int)) rfl (fun _ _ => rfl) rfl rfl (fun x w9 hb hd => ?_) ?_
    · have h3 : x 3 = .pointer (some ⟨g0, 50, none⟩) := hd 3 (by kernel_rfl)
      have cc := ((B1.out.below hb B1.out.lt).cell 50).trans HN.out
      rw [h3]
      first | (go_simp; done) | (go_simp; rfl)
    refine StepsAt.val 5 (.int .i64 (D : Int)) rfl (fun _ _ => rfl) rfl rfl (fun x w9 hb hd => ?_) ?_
    · have h2 : x 2 = .int .i64 (L : Int) := hd 2 (by kernel_rfl)
      have h4 : x 4 = .int .i64 (n : Int) := hd 4 (by kernel_rfl)
      rw [h2, h4]
      go_simp
      rw [ZD.out]
      have := HDL.out
      exact wrap_i64 _ (by omega) (by omega)
    refine StepsAt.val 6 (.int .i64 (D : Int)) rfl (fun _ _ => rfl) rfl rfl (fun x w9 hb hd => ?_) ?_
    · have h5 : x 5 = .int .i64 (D : Int) := hd 5 (by kernel_rfl)
      rw [h5]
      first | (go_simp; done) | (go_simp; rfl)
    exact StepsAt.done
  case fin =>
    intro x w9 hb hd
    have h6 : x 6 = .int .i64 (D : Int) := hd 6 (by omega)
    refine AnyTill.any (S := fun _ => True) (m := 7) _ _ _ _ ?_
    refine AnyTill.done (by kernel_rfl) ?_
    refine NoPanic.normal ?_
    try dsimp only
    rw [h6]
    have C3 : Hid (Below w.heap.size w w9) := B3.out.trans (hb.mono B3.out.size)
    generalize x 0 = y0
    generalize x 1 = y1
    generalize x 2 = y2
    generalize x 3 = y3
    generalize x 4 = y4
    generalize x 5 = y5
    clear hd h6 hb B1 B3 x
    go_wp2
    go_ret
    exact ⟨rfl, C3.out⟩
end Go.Proofs.YtllncnnigjgadaaGreat
