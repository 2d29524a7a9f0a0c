/-
  Sum, Round, Schedule and Block: for every input the program answers as the document says.
-/
import Derived.Test.YtnemkefmlffigaaGreatSa8
namespace Go.Proofs.YtnemkefmlffigaaGreat
open Go.RowKit

set_option maxHeartbeats 1000000 in
theorem sum_any (v : Value) (l : List UInt8) (w : World) (hr : Rd w.heap.size w v l) : Calls Tryz.prog 113 #[v] w (Arr (bys (hash l)) w) := by
  have HR := Lib.hid hr
  obtain ⟨A, c, rfl, hc, hm, hn, hcell⟩ := hr
  clear hcell hn
  unfold maxLen at hm
  go_enter Tryz.func113, Tryz.ntmps113
  go_wp2_with (refine wpList_alloc_blk rfl 23 rfl _ z24 ?_)
  intro w1 a1 a2 a3
  have A1 := Lib.hid a1
  have A2 := Lib.hid a2
  have A3 := Lib.hid a3
  clear a1 a2 a3
  go_wp2_with fail
  refine (initial_any _).mono ?_
  rintro e w2 ⟨rfl, hb2⟩
  have B2 := Lib.hid hb2
  clear hb2
  go_wp2_with fail
  have hsz : w.heap.size < w2.heap.size := by have := B2.out.size; have := A2.out; omega
  have hszA := A2.out
  refine (absorb_any iv _ l _ iv_length iv_lt (((HR.out.below A3.out).below (B2.out.mono (by omega))).more (by omega))).mono ?_
  rintro e w3 ⟨v3, rfl, hr3, hb3⟩
  have hhash := hash_parts l (l.length / 64) (by omega)
  obtain ⟨st, hst⟩ : ∃ st, chain iv (l.length / 64) l = st := ⟨_, rfl⟩
  have h8 : st.length = 8 := by rw [← hst, chain_length iv iv_length]
  have h32 : W32 st := by rw [← hst]; exact chain_lt iv iv_lt _ _
  rw [hst] at hhash ⊢
  have HH := Lib.hid hhash
  have H8 := Lib.hid h8
  have h33 : (Tryz.prog.info? 125).map (·.size) = some (ws st).length := by rw [ws_length, h8]; exact s33
  have H33 := Lib.hid h33
  have hlz : z8.length = (ws st).length := by rw [ws_length, h8, z8_length]
  have HLZ := Lib.hid hlz
  have HR3 := Lib.hid hr3
  have HB3 := Lib.hid hb3
  have hsz3 := hb3.size
  clear hst hhash h8 h33 hlz hr3 hb3
  go_wp2_with (refine wpList_alloc_blk rfl 125 rfl _ z33 ?_)
  intro w4 a1 a2 a3
  have G0 : Hid (Blk w4 w.heap.size z32 23) := ((A1.out.below B2.out (by omega)).below HB3.out (by omega)).below a3 (by omega)
  have G1 : Hid (Blk w4 w3.heap.size z8 125) := a1
  have GB : Hid (Below w.heap.size w w4) := ((A3.out.trans (B2.out.mono (by omega))).trans (HB3.out.mono (by omega))).trans (a3.mono (by omega))
  have GR : Hid (Rd w3.heap.size w4 v3 (l.drop (64 * (l.length / 64)))) := ((HR3.out.below HB3.out).below (a3.mono (by omega))).more (by omega)
  obtain ⟨g, hg⟩ : ∃ g, w3.heap.size = g := ⟨_, rfl⟩
  rw [hg] at G1 GR ⊢
  have hgl : w.heap.size < g := by omega
  clear a1 a2 a3 A1 A2 A3 B2 HB3 HR3 hsz hszA hsz3 hg
  obtain ⟨A3, c3, rfl, _⟩ := GR.out.shape
  obtain ⟨r, hr⟩ : ∃ r, l.drop (64 * (l.length / 64)) = r := ⟨_, rfl⟩
  have hrl : r.length = l.length - 64 * (l.length / 64) := by rw [← hr, List.length_drop]
  rw [hr] at GR ⊢
  have hh2 : hash l = joinl (chain st ((r.length + (padl l.length).length) / 64) (r ++ padl l.length)) := by rw [HH.out, hr, hrl]
  have HH2 := Lib.hid hh2
  have hr64 : r.length ≤ 64 := by omega
  clear hr hrl hh2 HH
  go_wp2_with (first | (refine wpList_store_blk rfl 125 _ _ rfl g (ws st) z8 125 rfl rfl G1.out H33.out HLZ.out (ws_one _) ?_) | (refine wpList_load_blk rfl 125 _ rfl g rfl (ws st) 125 G1.out.setRow 8 48 tu33 H33.out ?_))
  have hg4 := G1.out.lt
  have GR5 : Rd (w4.setRow g (ws st).toArray).heap.size (w4.setRow g (ws st).toArray) (.slice A3 r.length c3) r :=
    (GR.out.keep (fun p hp => cell_setRow_other w4 g _ p (by omega))).more (by simp; omega)
  refine (finish_any st _ r l.length _ H8.out h32 GR5 hr64 (by omega)).mono ?_
  rintro e w5 ⟨rfl, hb5⟩
  rw [← HH2.out]
  have L0 : Hid (Blk w5 w.heap.size z32 23) := (G0.out.setRowOther (g' := g) (cs' := ws st) (by omega)).below hb5 (by simp; omega)
  have LB : Hid (Below w.heap.size w w5) := (below_setRow' GB.out (by omega) _).trans (hb5.mono (by simp; omega))
  have h24 : (Tryz.prog.info? 23).map (·.size) = some (bys (hash l)).length := by rw [bys_length, hash_length]; exact s24
  have hlz : z32.length = (bys (hash l)).length := by rw [bys_length, hash_length, z32_length]
  have H24 := Lib.hid h24
  have HL2 := Lib.hid hlz
  clear hb5 h24 hlz G0 G1 GB GR5 GR
  go_wp2_with (refine wpList_store_blk rfl 23 _ _ rfl w.heap.size (bys (hash l)) z32 23 rfl rfl L0.out H24.out HL2.out (bys_one' _) ?_)
  refine bodyPost_ret (v := .agg (bys (hash l)).toArray) ?_ rfl ?_
  · exact ret_blk rfl _ _ w.heap.size 23 _ rfl L0.out.setRow 32 5 tu24 H24.out
  · exact ⟨rfl, below_setRow' LB.out (Nat.le_refl _) _⟩

/-- The call answers two values, and no old memory has changed. -/
def Two (x y : Value) (w : World) (e : Ending) (w' : World) : Prop := e = .returned (.tuple #[x, y]) ∧ Below w.heap.size w w'



end Go.Proofs.YtnemkefmlffigaaGreat
