/-
  The law CrcScans. Each theorem states its own conditions.
-/
import Derived.Test.YteckenlbelgknaaCQ
namespace Go.Proofs.Yteckenlbelgknaa
open Go.RowKit

set_option maxRecDepth 100000 in
set_option maxHeartbeats 4000000 in
theorem scans15_all (v : Value) (l : List UInt8) (w : World) (hr : Rd w.heap.size w v l) : Calls Try.prog 4 #[v] w (OneC (.bool true) w) := by
  obtain ⟨A, c, rfl, hc, hm⟩ := hr.shape
  unfold maxLen at hm
  obtain ⟨n, hn⟩ : ∃ q, l.length = q := ⟨_, rfl⟩
  have HN := Lib.hid hn
  have HR := Lib.hid hr
  rw [hn] at HR hc ⊢
  clear hr hn
  go_enter Try.func4, Try.ntmps4
  by_cases hlong : (3000 : Int) < (n : Int)
  · go_wp2_with fail
    refine (alive15 w).mono ?_
    rintro e w1 ⟨rfl, hb⟩
    have HB := Lib.hid hb
    clear hb
    go_wp2
    go_ret
    exact ⟨rfl, HB.out⟩
  have hl : Hid (l.length ≤ 1000000) := Lib.hid (by rw [HN.out]; omega)
  go_wp2_with fail
  refine (crScan_any l (.slice A n c) w HR.out hl.out).mono ?_
  rintro e w1 ⟨v1, rfl, h1, hb⟩
  obtain ⟨rs, k, hY⟩ : ∃ a b, scanC l = (a, b) := ⟨_, _, rfl⟩
  rw [hY] at h1 ⊢
  have HY := Lib.hid hY
  have B1 := Lib.hid hb
  have H1 := Lib.hid h1
  clear hY h1 hb
  go_wp2_with fail
  refine (rfScanC_any (.slice A n c) l w1.heap.size w1 ((HR.out.below B1.out).more B1.out.size) (Nat.le_refl _) hl.out).mono ?_
  rintro e w2 ⟨v2, rfl, h2, hb⟩
  rw [HY.out] at h2 ⊢
  have B2 := Lib.hid (B1.out.trans (hb.mono B1.out.size))
  have H12 := Lib.hid ((H1.out.below hb).more hb.size)
  have H22 := Lib.hid (h2.rd hb.size)
  clear h2 hb H1 B1
  go_wp2_with fail
  refine (alive15 w2).mono ?_
  rintro e w3 ⟨rfl, hb⟩
  have B3 := Lib.hid (B2.out.trans (hb.mono B2.out.size))
  have H13 := Lib.hid ((H12.out.below hb).more hb.size)
  have H23 := Lib.hid ((H22.out.below hb).more hb.size)
  clear hb H12 H22 B2
  go_wp2_with fail
  refine (rfRowsC_any rs rs v1 v2 w3 H13.out H23.out).mono ?_
  rintro e w4 ⟨rfl, hb⟩
  rw [decide_eq_true (rfl : rs = rs)]
  have B4 := Lib.hid (B3.out.trans (hb.mono B3.out.size))
  clear hb
  go_wp2
  go_ret
  exact ⟨rfl, B4.out⟩
end Go.Proofs.Yteckenlbelgknaa
