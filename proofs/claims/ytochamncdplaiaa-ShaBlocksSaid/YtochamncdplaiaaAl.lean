/-
  The statements' live question is answered with true, from every world; no old memory changes.
-/
import Derived.Test.YtochamncdplaiaaA9
import Derived.Lib.SlBytesConst
namespace Go.Proofs.Ytochamncdplaiaa
open Go.RowKit

theorem Rd.abc (e : TypeId) (fr : Nat × Nat) (w : World) : Rd (w.heap.size + 1) (w.alloc (.cells #[.int .u8 97, .int .u8 98, .int .u8 99] e fr)) (.slice (some ⟨w.heap.size, 0, none⟩) 3 3) [97, 98, 99] := by
  refine ⟨some ⟨w.heap.size, 0, none⟩, 3, rfl, Nat.le_refl _, by unfold maxLen; decide, fun h => (by cases h), fun a ha => ?_⟩
  cases ha
  refine ⟨fun _ => Nat.lt_succ_self _, fun j hj => ?_⟩
  rw [Addr.add_mid, cell_of_row _ _ _ _ e fr (heap_alloc_new w _)]
  have : j = 0 ∨ j = 1 ∨ j = 2 := by simp at hj; omega
  rcases this with rfl | rfl | rfl <;> simp

set_option maxHeartbeats 1000000 in
theorem alive_any (w : World) : Calls Try.prog 9 #[] w fun e w' => e = .returned (.bool true) ∧ Below w.heap.size w w' := by
  have hcv := Lib.run_convert_bytes_const (P := Try.prog) w 22 5 #[.int .u8 97, .int .u8 98, .int .u8 99] 3 3 Try.underlying22 Try.underlying5
  go_enter Try.func9, Try.ntmps9
  go_wp2_with fail
  clear hcv
  refine (sum_any _ [97, 98, 99] _ ((Rd.abc 5 _ w).more (by simp))).mono ?_
  rintro e w1 ⟨rfl, hb1⟩
  rw [hash_abc]
  have B1 : Hid (Below w.heap.size w w1) := ((Below.refl _ _).alloc (Nat.le_refl _) _).trans (hb1.mono (by simp))
  clear hb1
  obtain ⟨H, hH⟩ : ∃ H : List UInt8, [0xba, 0x78, 0x16, 0xbf, 0x8f, 0x01, 0xcf, 0xea, 0x41, 0x41, 0x40, 0xde, 0x5d, 0xae, 0x22, 0x23, 0xb0, 0x03, 0x61, 0xa3, 0x96, 0x17, 0x7a, 0x9c, 0xb4, 0x10, 0xff, 0x61, 0xf2, 0x00, 0x15, 0xad] = H := ⟨_, rfl⟩
  rw [hH]
  have h24 : (Try.prog.info? 24).map (·.size) = some (bys H).length := by rw [← hH]; exact s24
  have hlz : z32.length = (bys H).length := by rw [← hH]; rfl
  have e0 : (bys H)[0]? = some (.int .u8 186) := by rw [← hH]; rfl
  have e1 : (bys H)[1]? = some (.int .u8 120) := by rw [← hH]; rfl
  have e31 : (bys H)[31]? = some (.int .u8 173) := by rw [← hH]; rfl
  have H24 := Lib.hid h24
  have HLZ := Lib.hid hlz
  have E0 := Lib.hid e0
  have E1 := Lib.hid e1
  have E31 := Lib.hid e31
  clear h24 hlz e0 e1 e31 hH
  go_wp2_with (refine wpList_alloc_blk rfl 24 rfl _ z24 ?_)
  intro w2 a1 a2 a3
  obtain ⟨g, hg⟩ : ∃ g, w1.heap.size = g := ⟨_, rfl⟩
  rw [hg] at a1 a2 a3 ⊢
  have hgl : w.heap.size ≤ g := by rw [← hg]; exact B1.out.size
  have A1 := Lib.hid a1
  have B2 : Hid (Below w.heap.size w w2) := B1.out.trans (a3.mono hgl)
  clear a1 a2 a3 B1 hg
  go_wp2_with (refine wpList_store_blk rfl 24 _ _ rfl g (bys H) z32 24 rfl rfl A1.out H24.out HLZ.out (bys_one' _) ?_)
  have C1 : Hid (Blk (w2.setRow g (bys H).toArray) g (bys H) 24) := A1.out.setRow
  have B3 : Hid (Below w.heap.size w (w2.setRow g (bys H).toArray)) := below_setRow' B2.out hgl _
  clear A1 B2
  generalize w2.setRow g (bys H).toArray = w3 at C1 B3 ⊢
  refine (round_in 63 _ (by omega)).mono ?_
  rintro e w4 ⟨rfl, hb4⟩
  have C2 : Hid (Blk w4 g (bys H) 24) := C1.out.below hb4 C1.out.lt
  have B4 : Hid (Below w.heap.size w w4) := B3.out.trans (hb4.mono B3.out.size)
  have hk : kw.getD 63 0 = 3329325298 := by decide
  rw [hk]
  clear hb4 C1 B3 hk
  go_wp2_with fail
  refine (scheduleX_out _ [] _ (Rd.nil _ _) (by simp)).mono ?_
  rintro e w5 ⟨rfl, hb5⟩
  have C3 : Hid (Blk w5 g (bys H) 24) := C2.out.below hb5 C2.out.lt
  have B5 : Hid (Below w.heap.size w w5) := B4.out.trans (hb5.mono B4.out.size)
  clear hb5 C2 B4
  go_wp2_with (refine wpList_alloc_blk rfl 34 rfl _ z34 ?_)
  intro w6 a1 a2 a3
  obtain ⟨g2, hg2⟩ : ∃ g2, w5.heap.size = g2 := ⟨_, rfl⟩
  rw [hg2] at a1 a2 a3 ⊢
  have hgl2 : g < g2 := by rw [← hg2]; exact C3.out.lt
  have A1 := Lib.hid a1
  have C4 : Hid (Blk w6 g (bys H) 24) := C3.out.below a3 hgl2
  have B6 : Hid (Below w.heap.size w w6) := B5.out.trans (a3.mono (by omega))
  clear a1 a2 a3 B5 hg2 C3
  have HLN : Hid ((Try.prog.info? 34).map (·.size) = some z64.length) := s34
  have C5 : Blk (w6.setRow g2 z64.toArray) g (bys H) 24 := C4.out.setRowOther (by omega)
  have d0 := (C5.cell 0).trans E0.out
  have d1 := (C5.cell 1).trans E1.out
  have d31 := (C5.cell 31).trans E31.out
  clear C5
  go_wp2_with (first | (refine wpList_store_blk rfl 34 _ _ rfl g2 z64 z64 34 rfl rfl A1.out HLN.out rfl (ws_one _) ?_) | (go_at_call 18; refine (pad_any 0 _ (by omega) (by omega)).mono ?_; rintro e w8 ⟨v8, rfl, hown8, hb8⟩; rw [show (0 : Int).toNat = 0 from rfl] at hown8; obtain ⟨A8, c8, rfl, _⟩ := hown8.rd.shape; have HB8 := Lib.hid hb8; clear hown8 hb8; rw [show (padl 0).length = 64 by decide]))
  go_ret
  refine ⟨rfl, ?_⟩
  exact (below_setRow' B6.out (by omega) _).trans (HB8.out.mono (by have := B6.out.size; simp; omega))
end Go.Proofs.Ytochamncdplaiaa
