/-
  The laws on frames: that they are alive. Each theorem states its own conditions.
-/
import Derived.Test.YteckenlbelgknaaC8
import Derived.Test.YteckenlbelgknaaCP
import Derived.Lib.SlBytesConst
namespace Go.Proofs.Yteckenlbelgknaa
open Go.RowKit

set_option maxRecDepth 100000 in
set_option maxHeartbeats 4000000 in
theorem alive15 (w : World) : Calls Try.prog 8 #[] w (OneC (.bool true) w) := by
  go_enter Try.func8, Try.ntmps8
  have hcv := Lib.run_convert_bytes_const (P := Try.prog) w 22 5 #[.int .u8 97, .int .u8 98] 2 2 Try.underlying22 Try.underlying5
  go_wp2_with fail
  have hb0 : Below w.heap.size w (w.alloc (.cells #[.int .u8 97, .int .u8 98] 5 (2, 3))) := (Below.refl _ _).alloc (Nat.le_refl _) _
  have hs0 : (w.alloc (.cells #[.int .u8 97, .int .u8 98] 5 (2, 3))).heap.size = w.heap.size + 1 := by simp
  have hr0 := Rd.rowF 5 (2, 3) w [97, 98] (by decide)
  refine (crFrame_any [] [97, 98] (.slice none 0 0) (.slice (some ⟨w.heap.size, 0, none⟩) 2 2) _ (Rd.nil _ _) (by rw [hs0]; exact hr0) (by decide) (by decide)).mono ?_
  rintro e w1 ⟨v1, rfl, hown, hb⟩
  rw [List.nil_append] at hown
  have O1 := Lib.hid hown.rd
  have B1 := Lib.hid (hb0.trans (hb.mono hb0.size))
  clear hcv hb0 hs0 hr0 hown hb
  go_wp2_with fail
  refine (crTake_any (frameC [97, 98]) v1 w1 O1.out (by decide +kernel)).mono ?_
  rintro e w2 ⟨x1, x2, rfl, h1, h2, hb⟩
  rw [alive_T] at h1 h2 ⊢
  have H1 := Lib.hid h1
  have B2 := Lib.hid (B1.out.trans (hb.mono B1.out.size))
  obtain ⟨A2, c2, rfl, -, -⟩ := h2.shape
  clear h1 h2 hb B1 O1
  have hcv := Lib.run_convert_bytes_const (P := Try.prog) w2 22 5 #[.int .u8 49, .int .u8 50, .int .u8 51, .int .u8 52, .int .u8 53, .int .u8 54, .int .u8 55, .int .u8 56, .int .u8 57] 9 9 Try.underlying22 Try.underlying5
  go_wp2_with fail
  have hb3 : Below w2.heap.size w2 (w2.alloc (.cells #[.int .u8 49, .int .u8 50, .int .u8 51, .int .u8 52, .int .u8 53, .int .u8 54, .int .u8 55, .int .u8 56, .int .u8 57] 5 (9, 10))) := (Below.refl _ _).alloc (Nat.le_refl _) _
  have hs3 : (w2.alloc (.cells #[.int .u8 49, .int .u8 50, .int .u8 51, .int .u8 52, .int .u8 53, .int .u8 54, .int .u8 55, .int .u8 56, .int .u8 57] 5 (9, 10))).heap.size = w2.heap.size + 1 := by simp
  have hr3 := Rd.rowF 5 (9, 10) w2 txtC (by decide)
  refine (crSum_any txtC (.slice (some ⟨w2.heap.size, 0, none⟩) 9 9) _ (by rw [hs3]; exact hr3) (by decide)).mono ?_
  rintro e w4 ⟨rfl, hb⟩
  rw [alive_C]
  have hb4 := hb3.trans (hb.mono hb3.size)
  have H4 := Lib.hid ((H1.out.below hb4).more hb4.size)
  have B4 := Lib.hid (B2.out.trans (hb4.mono B2.out.size))
  obtain ⟨A1, c1, hx, -, -⟩ := H4.out.shape
  subst hx
  have hst : (convert 22 9 (.slice A1 2 c1)).run Try.prog w4 = .ok (.string ⟨#[97, 98]⟩) w4 := run_string_rd 22 9 5 Try.underlying22 Try.underlying5 Try.underlying9 H4.out
  clear hcv hb hb3 hs3 hr3 hb4 H1 B2
  go_wp2_with fail
  refine (crLong_any 2 w4 (by decide)).mono ?_
  rintro e w5 ⟨rfl, hb⟩
  have B5 := Lib.hid (B4.out.trans (hb.mono B4.out.size))
  have hl : ((longC (2 : Int).toNat : Nat) : Int) = 9 := by decide +kernel
  rw [hl]
  clear hb hl hst
  go_wp2
  go_ret
  exact ⟨rfl, B5.out⟩
end Go.Proofs.Yteckenlbelgknaa
