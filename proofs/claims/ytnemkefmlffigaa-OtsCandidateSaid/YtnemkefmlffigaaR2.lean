/-
  The document's own block on a state: of every block of 64 bytes; of other bytes there is none.
-/
import Derived.Test.YtnemkefmlffigaaR2c
namespace Go.Proofs.Ytnemkefmlffigaa
open Go.RowKit

set_option maxHeartbeats 40000000 in
set_option maxRecDepth 100000 in
theorem refBlock_in (s : List Nat) (v : Value) (b : List UInt8) (w : World) (hs : s.length = 8) (hs32 : W32 s) (hr : Rd w.heap.size w v b) (hl : b.length = 64) : Calls Try.prog 90 #[.agg (ws s).toArray, v] w (Two (.agg (ws (blk s b)).toArray) (.int .i64 0) w) := by
  have HR := Lib.hid hr
  have HL := Lib.hid hl
  have HS := Lib.hid hs
  obtain ⟨A, c, rfl, hc, hm, hn, hcell⟩ := hr
  rw [hl] at hc HR ⊢
  clear hcell hn hl hs
  unfold maxLen at hm
  go_enter Try.func90, Try.ntmps90
  go_wp2_with (refine wpList_box_blk rfl 121 _ rfl (ws s) rfl ?_)
  intro w1 a1 a2 a3
  have A1 := Lib.hid a1
  have A2 := Lib.hid a2
  have A3 := Lib.hid a3
  clear a1 a2 a3
  go_wp2_with (refine wpList_alloc_blk rfl 121 rfl _ z33 ?_)
  intro w2 a1 a2 a3
  rw [A2.out] at a1 a2 a3 ⊢
  have G0 : Hid (Blk w2 w.heap.size (ws s) 121) := A1.out.below a3 (by omega)
  have G1 : Hid (Blk w2 (w.heap.size + 1) z8 121) := a1
  have GB : Hid (Below w.heap.size w w2) := A3.out.trans (a3.mono (by omega))
  have hsz2 : w.heap.size + 1 < w2.heap.size := by omega
  clear a1 a2 a3 A1 A2 A3
  go_wp2_with fail
  refine (refSchedule_in _ b _ ((HR.out.below GB.out).more (by omega)) HL.out).mono ?_
  rintro e w3 ⟨rfl, hb3⟩
  obtain ⟨W, hW⟩ : ∃ W, sch b 64 = W := ⟨_, rfl⟩
  have hWl : W.length = 64 := by rw [← hW]; exact sch_length _ _
  have HBLK : Hid (blk s b = proc s W kw) := by show blk s b = _; unfold blk; rw [hW]
  rw [hW]
  have HWL := Lib.hid hWl
  have G0' : Hid (Blk w3 w.heap.size (ws s) 121) := G0.out.below hb3 (by omega)
  have G1' : Hid (Blk w3 (w.heap.size + 1) z8 121) := G1.out.below hb3 (by omega)
  have GB' : Hid (Below w.heap.size w w3) := GB.out.trans (hb3.mono (by omega))
  have hsz3 : w.heap.size + 1 < w3.heap.size := by have := hb3.size; omega
  have h34 : (Try.prog.info? 133).map (·.size) = some (ws W).length := by rw [ws_length, hWl]; exact s34
  have hlz : z64.length = (ws W).length := by rw [ws_length, hWl, z64_length]
  have H34 := Lib.hid h34
  have HLZ := Lib.hid hlz
  clear hb3 G0 G1 GB hsz2 hW hWl h34 hlz
  go_wp2_with (refine wpList_alloc_blk rfl 133 rfl _ z34 ?_)
  intro w4 a1 a2 a3
  obtain ⟨gw, hgw⟩ : ∃ g, w3.heap.size = g := ⟨_, rfl⟩
  rw [hgw] at a1 a2 a3 hsz3 ⊢
  have G0 : Hid (Blk w4 w.heap.size (ws s) 121) := G0'.out.below a3 (by omega)
  have G1 : Hid (Blk w4 (w.heap.size + 1) z8 121) := G1'.out.below a3 (by omega)
  have GB : Hid (Below w.heap.size w w4) := GB'.out.trans (a3.mono (by omega))
  have G2 := Lib.hid a1
  clear a1 a2 a3 G0' G1' GB' hgw
  go_wp2_with (refine wpList_store_blk rfl 133 _ _ rfl gw (ws W) z64 133 rfl rfl G2.out H34.out HLZ.out (ws_one _) ?_)
  have K0 : Hid (Blk (w4.setRow gw (ws W).toArray) w.heap.size (ws s) 121) := G0.out.setRowOther (by omega)
  have K1 : Hid (Blk (w4.setRow gw (ws W).toArray) (w.heap.size + 1) z8 121) := G1.out.setRowOther (by omega)
  have K2 : Hid (Blk (w4.setRow gw (ws W).toArray) gw (ws W) 133) := G2.out.setRow
  have KB : Hid (Below w.heap.size w (w4.setRow gw (ws W).toArray)) := below_setRow' GB.out (by omega) _
  clear G0 G1 G2 GB
  generalize w4.setRow gw (ws W).toArray = w5 at K0 K1 K2 KB ⊢
  refine (rounds_any _).mono ?_
  rintro e w6 ⟨rfl, hb6⟩
  have G0 : Hid (Blk w6 w.heap.size (ws s) 121) := K0.out.below hb6 K0.out.lt
  have G1 : Hid (Blk w6 (w.heap.size + 1) z8 121) := K1.out.below hb6 K1.out.lt
  have G2 : Hid (Blk w6 gw (ws W) 133) := K2.out.below hb6 K2.out.lt
  have GB : Hid (Below w.heap.size w w6) := KB.out.trans (hb6.mono KB.out.size)
  have HK34 : Hid ((Try.prog.info? 133).map (·.size) = some (ws kw).length) := by show _ = _; rw [ws_length, kw_length]; exact s34
  have HKZ : Hid (z64.length = (ws kw).length) := by show _ = _; rw [ws_length, kw_length, z64_length]
  clear hb6 K0 K1 K2 KB
  go_wp2_with (refine wpList_alloc_blk rfl 133 rfl _ z34 ?_)
  intro w7 a1 a2 a3
  obtain ⟨gk, hgk⟩ : ∃ g, w6.heap.size = g := ⟨_, rfl⟩
  have l1 : gw < gk := by rw [← hgk]; exact G2.out.lt
  rw [hgk] at a1 a2 a3 ⊢
  have K0 : Hid (Blk w7 w.heap.size (ws s) 121) := G0.out.below a3 (by omega)
  have K1 : Hid (Blk w7 (w.heap.size + 1) z8 121) := G1.out.below a3 (by omega)
  have K2 : Hid (Blk w7 gw (ws W) 133) := G2.out.below a3 l1
  have K3 := Lib.hid a1
  have KB : Hid (Below w.heap.size w w7) := GB.out.trans (a3.mono (by omega))
  clear a1 a2 a3 G0 G1 G2 GB hgk
  have H33 : Hid ((Try.prog.info? 121).map (·.size) = some (ws s).length) := by show _ = _; rw [ws_length, HS.out]; exact s33
  have HZ8 : Hid (z8.length = (ws s).length) := by show _ = _; rw [ws_length, HS.out, z8_length]
  have K0s : Hid (Blk (w7.setRow gk (ws kw).toArray) w.heap.size (ws s) 121) := K0.out.setRowOther (by omega)
  go_wp2_with (first | (refine wpList_store_blk rfl 133 _ _ rfl gk (ws kw) z64 133 rfl rfl K3.out HK34.out HKZ.out (ws_one _) ?_) | (refine wpList_load_blk rfl 121 _ rfl w.heap.size rfl (ws s) 121 K0s.out 8 23 tu33 H33.out ?_) | (refine wpList_alloc_blk rfl 121 rfl _ z33 ?_))
  intro w8 a1 a2 a3
  obtain ⟨gs, hgs⟩ : ∃ g, w7.heap.size = g := ⟨_, rfl⟩
  have l2 : gk < gs := by rw [← hgs]; exact K3.out.lt
  rw [hgs] at a1 a2 a3 ⊢
  have M0 : Hid (Blk w8 w.heap.size (ws s) 121) := Blk.below K0s.out a3 (by omega)
  have M1 : Hid (Blk w8 (w.heap.size + 1) z8 121) := (K1.out.setRowOther (g' := gk) (cs' := ws kw) (by omega)).below a3 (by omega)
  have M2 : Hid (Blk w8 gw (ws W) 133) := (K2.out.setRowOther (g' := gk) (cs' := ws kw) (by omega)).below a3 (by omega)
  have M3 : Hid (Blk w8 gk (ws kw) 133) := (Blk.setRow (cs' := ws kw) K3.out).below a3 l2
  have MB : Hid (Below w.heap.size w w8) := (below_setRow' (g := gk) KB.out (by omega) _).trans (a3.mono (by omega))
  have M4 := Lib.hid a1
  clear a1 a2 a3 K0 K1 K2 K3 KB K0s hgs
  go_wp2_with (refine wpList_store_blk rfl 121 _ _ rfl gs (ws s) z8 121 rfl rfl M4.out H33.out HZ8.out (ws_one _) ?_)
  have R : Hid (Rows5 w s W (St.of s).l gw gk gs (w8.setRow gs (ws s).toArray)) := by
    refine ⟨M0.out.setRowOther (by omega), M1.out.setRowOther (by omega), M2.out.setRowOther (by omega), M3.out.setRowOther (by omega), ?_, below_setRow' MB.out (by omega) _⟩
    have h : Blk (w8.setRow gs (ws s).toArray) gs (ws s) 121 := M4.out.setRow
    have e : (St.of s).l = s := by
      have h8 := HS.out
      match s, h8 with
      | [x0, x1, x2, x3, x4, x5, x6, x7], _ => rfl
    rw [e]
    exact h
  clear M0 M1 M2 M3 M4 MB
  generalize w8.setRow gs (ws s).toArray = w9 at R ⊢
  have l0 : w.heap.size + 1 < gw := hsz3
  have HWL2 := HWL.out
  obtain ⟨V, hV⟩ : ∃ V, rnds (St.of s) kw W 64 = V := ⟨_, rfl⟩
  obtain ⟨F, hF⟩ : ∃ F, proc s W kw = F := ⟨_, rfl⟩
  have HF8 : Hid (F.length = 8) := by rw [← hF]; exact proc_length _ _ _
  have HFV : Hid (∀ i, i < 8 → F.getD i 0 = ad (V.l.getD i 0) (s.getD i 0)) := fun i hi => by
    rw [← fin_at s V.l i hi, of_l, ← hF, ← hV]; rfl
  rw [hF] at HBLK
  have HV := Lib.hid hV
  clear hV hF
  have H8 : Hid ((Try.prog.info? 121).map (·.size) = some (ws F).length) := by show _ = _; rw [ws_length, HF8.out]; exact s33
  have HZF : Hid (z8.length = (ws F).length) := by show _ = _; rw [ws_length, HF8.out, z8_length]
  go_wp2
  refine loop1 w s W gw gk gs l0 l1 l2 _ hs32 HWL2 R ?_
  clear R
  intro J w1 R
  rw [HV.out] at R
  unfold Sh1
  go_wp2
  refine loop2 w s W gw gk gs l0 l1 l2 V.l F _ HS.out rfl HF8.out HFV.out R ?_
  clear R
  intro J2 w2 R
  unfold Sh2
  go_wp2_with (first | (refine wpList_load_blk rfl 121 _ rfl gs rfl (ws F) 121 R.out.2.2.2.2.1 8 23 tu33 H8.out ?_) | (refine wpList_store_blk rfl 121 _ _ rfl (w.heap.size + 1) (ws F) z8 121 rfl rfl R.out.2.1 H8.out HZF.out (ws_one _) ?_))
  refine bodyPost_ret (v := .tuple #[.agg (ws F).toArray, .int .i64 0]) ?_ rfl ?_
  · exact ret_blk2 rfl _ _ (w.heap.size + 1) 121 _ _ rfl rfl R.out.2.1.setRow 8 23 tu33 H8.out
  · exact ⟨by rw [HBLK.out], below_setRow' R.out.2.2.2.2.2 (by omega) _⟩

set_option maxHeartbeats 4000000 in
set_option maxRecDepth 100000 in
theorem refBlock_out (s : List Nat) (v : Value) (b : List UInt8) (w : World) (hr : Rd w.heap.size w v b) (hl : b.length ≠ 64) : Calls Try.prog 90 #[.agg (ws s).toArray, v] w (Two (.agg z8.toArray) (.int .i64 1) w) := by
  have HR := Lib.hid hr
  have HL := Lib.hid hl
  clear hr hl
  have HLN : Hid ((Try.prog.info? 121).map (·.size) = some z8.length) := s33
  have HL6 : Hid ((Try.prog.info? 133).map (·.size) = some z64.length) := s34
  go_enter Try.func90, Try.ntmps90
  go_wp2_with (refine wpList_box_blk rfl 121 _ rfl (ws s) rfl ?_)
  intro w1 a1 a2 a3
  have A2 := Lib.hid a2
  have A3 := Lib.hid a3
  clear a1 a2 a3
  go_wp2_with (refine wpList_alloc_blk rfl 121 rfl _ z33 ?_)
  intro w2 a1 a2 a3
  rw [A2.out] at a1 a2 a3 ⊢
  have G1 : Hid (Blk w2 (w.heap.size + 1) z8 121) := a1
  have GB : Hid (Below w.heap.size w w2) := A3.out.trans (a3.mono (by omega))
  have hsz2 : w.heap.size + 1 < w2.heap.size := by omega
  clear a1 a2 a3 A2 A3
  go_wp2_with fail
  refine (refSchedule_out _ b _ ((HR.out.below GB.out).more (by omega)) HL.out).mono ?_
  rintro e w3 ⟨rfl, hb3⟩
  have G1' : Hid (Blk w3 (w.heap.size + 1) z8 121) := G1.out.below hb3 (by omega)
  have GB' : Hid (Below w.heap.size w w3) := GB.out.trans (hb3.mono (by omega))
  have hsz3 : w.heap.size + 1 < w3.heap.size := by have := hb3.size; omega
  clear hb3 G1 GB hsz2
  go_wp2_with (refine wpList_alloc_blk rfl 133 rfl _ z34 ?_)
  intro w4 a1 a2 a3
  obtain ⟨gw, hgw⟩ : ∃ g, w3.heap.size = g := ⟨_, rfl⟩
  rw [hgw] at a1 a2 a3 hsz3 ⊢
  have G1 : Hid (Blk w4 (w.heap.size + 1) z8 121) := G1'.out.below a3 (by omega)
  have GB : Hid (Below w.heap.size w w4) := GB'.out.trans (a3.mono (by omega))
  have G2 := Lib.hid a1
  clear a1 a2 a3 G1' GB' hgw
  have K1 : Hid (Blk (w4.setRow gw z64.toArray) (w.heap.size + 1) z8 121) := G1.out.setRowOther (by omega)
  have KB : Hid (Below w.heap.size w (w4.setRow gw z64.toArray)) := below_setRow' GB.out (by omega) _
  go_wp2_with (first | (refine wpList_store_blk rfl 133 _ _ rfl gw z64 z64 133 rfl rfl G2.out HL6.out rfl (ws_one _) ?_) | (refine wpList_buildTo rfl 121 _ rfl (some 26) rfl z8.toArray (by kernel_rfl) ?_) | (refine wpList_store_blk rfl 121 _ _ rfl (w.heap.size + 1) z8 z8 121 rfl rfl K1.out HLN.out rfl (ws_one _) ?_))
  refine bodyPost_ret (v := .tuple #[.agg z8.toArray, .int .i64 1]) ?_ rfl ?_
  · exact ret_blk2 rfl _ _ (w.heap.size + 1) 121 _ _ rfl rfl K1.out.setRow 8 23 tu33 HLN.out
  · exact ⟨rfl, below_setRow' KB.out (by omega) _⟩
end Go.Proofs.Ytnemkefmlffigaa
