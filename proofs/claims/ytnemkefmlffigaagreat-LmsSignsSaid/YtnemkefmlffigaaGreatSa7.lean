/-
  absorb: for every state and all bytes, the state behind their whole blocks, and the bytes that are left.
-/
import Derived.Test.YtnemkefmlffigaaGreatSa6
import Derived.Test.YtnemkefmlffigaaGreatMs
namespace Go.Proofs.YtnemkefmlffigaaGreat
open Go.RowKit

theorem chain_snoc (s : List Nat) (k : Nat) (l : List UInt8) : chain s (k + 1) l = blk (chain s k l) ((l.drop (64 * k)).take 64) := by
  rw [chain_add]; rfl

/-- absorb's answer: the state behind the whole blocks, and what reads as the bytes that are left. -/
def Absorbs (s : List Nat) (l : List UInt8) (w : World) (e : Ending) (w' : World) : Prop :=
  ∃ v, e = .returned (.tuple #[.agg (ws (chain s (l.length / 64) l)).toArray, v]) ∧ Rd w.heap.size w v (l.drop (64 * (l.length / 64))) ∧ Below w.heap.size w w'

/-- The first 64 bytes of what is read. -/
theorem Rd.head {B : Nat} {w : World} {a : Addr} {n c m : Nat} {l : List UInt8} (h : Rd B w (.slice (some a) n c) l) (hm : m ≤ n) : Rd B w (.slice (some a) m c) (l.take m) := by
  obtain ⟨A, c', hv, hc, hmx, hn, hcell⟩ := h
  injection hv with h1 h2 h3
  subst h1 h2 h3
  have hl : (l.take m).length = m := by rw [List.length_take]; omega
  refine ⟨some a, c, by rw [hl], by omega, hmx, fun h => (by cases h), fun x hx => ?_⟩
  cases hx
  refine ⟨fun h0 => (hcell a rfl).1 (by omega), fun j hj => ?_⟩
  rw [(hcell a rfl).2 j (by omega)]
  simp

set_option maxHeartbeats 2000000 in
set_option maxRecDepth 100000 in
theorem absorb_any (s : List Nat) (v : Value) (l : List UInt8) (w : World) (hs : s.length = 8) (hs32 : W32 s) (hr : Rd w.heap.size w v l) : Calls Tryz.prog 112 #[.agg (ws s).toArray, v] w (Absorbs s l w) := by
  have HR := Lib.hid hr
  have HS := Lib.hid hs
  obtain ⟨A, c, rfl, hc, hm, hn, hcell⟩ := hr
  clear hcell hn hs
  unfold maxLen at hm
  go_enter Tryz.func112, Tryz.ntmps112
  go_wp2_with (refine wpList_box_blk rfl 125 _ rfl (ws s) rfl ?_)
  intro w1 a1 a2 a3
  have A1 := Lib.hid a1
  have A2 := Lib.hid a2
  have A3 := Lib.hid a3
  clear a1 a2 a3
  go_wp2_with (refine wpList_alloc_blk rfl 125 rfl _ z33 ?_)
  intro w2 a1 a2 a3
  rw [A2.out] at a1 a2 a3 ⊢
  have B1 := Lib.hid a1
  have B2 := Lib.hid a2
  have B3 := Lib.hid a3
  clear a1 a2 a3
  go_wp2_with fail
  refine (roundConstants_any _).mono ?_
  rintro e w3 ⟨rfl, a3⟩
  have C3 := Lib.hid a3
  clear a3
  have h34 : (Tryz.prog.info? 138).map (·.size) = some (ws kw).length := by rw [ws_length, kw_length]; exact s34
  have H34 := Lib.hid h34
  clear h34
  go_wp2_with (refine wpList_alloc_blk rfl 138 rfl _ z34 ?_)
  intro w4 a1 a2 a3
  obtain ⟨g, hg⟩ : ∃ g, w3.heap.size = g := ⟨_, rfl⟩
  rw [hg] at a1 a2 a3 ⊢
  have hz3 := C3.out.size
  have hB2 := B2.out
  have hA2 := A2.out
  have G0 : Hid (Blk w4 w.heap.size (ws s) 125) := ((A1.out.below B3.out (by omega)).below C3.out (by omega)).below a3 (by omega)
  have G1 : Hid (Blk w4 (w.heap.size + 1) z8 125) := (B1.out.below C3.out (by omega)).below a3 (by omega)
  have GB : Hid (Below w.heap.size w w4) := ((A3.out.trans (B3.out.mono (by omega))).trans (C3.out.mono (by omega))).trans (a3.mono (by omega))
  have hgl : w.heap.size + 2 ≤ g := by omega
  have D1 := Lib.hid a1
  clear a1 a2 a3 hz3 hB2 hA2 A1 A2 A3 B1 B2 B3 C3 hg
  go_wp2_with (refine wpList_store_blk rfl 138 _ _ rfl g (ws kw) _ 138 rfl rfl D1.out H34.out (by rw [ws_length, kw_length, z64_length]) (ws_one _) ?_)
  have K0 : Hid (Blk (w4.setRow g (ws kw).toArray) w.heap.size (ws s) 125) := G0.out.setRowOther (by omega)
  have K1 : Hid (Blk (w4.setRow g (ws kw).toArray) (w.heap.size + 1) z8 125) := G1.out.setRowOther (by omega)
  have K2 : Hid (Blk (w4.setRow g (ws kw).toArray) g (ws kw) 138) := D1.out.setRow
  have KB : Hid (Below w.heap.size w (w4.setRow g (ws kw).toArray)) := below_setRow' GB.out (by omega) _
  clear G0 G1 GB D1
  generalize w4.setRow g (ws kw).toArray = w5 at K0 K1 K2 KB ⊢
  obtain ⟨n, hn⟩ : ∃ n : Nat, l.length / 64 = n := ⟨_, rfl⟩
  have hq : (l.length : Int) / 64 = (n : Int) := by omega
  rw [hq]
  have HN := Lib.hid hn
  have hln : 64 * n ≤ l.length := by omega
  clear hn hq
  go_loopw [1, 11] (fun x i wr => ∃ k : Nat, k ≤ n ∧ i = .int .i64 k ∧ Hid (Rd w.heap.size w x (l.drop (64 * k))) ∧ Hid (Blk wr w.heap.size (ws (chain s k l)) 125) ∧ Hid (Blk wr (w.heap.size + 1) z8 125) ∧ Hid (Blk wr g (ws kw) 138) ∧ Hid (Below w.heap.size w wr)) (fun _ i _ => n - (intOf i).toNat)
  case atStart => exact ⟨0, by omega, rfl, by simpa [Hid] using HR.out, K0, K1, K2, KB⟩
  case round =>
    clear K0 K1 K2 KB
    obtain ⟨k, hk, rfl, XR, G0, G1, G2, GB⟩ := hrel
    by_cases hk2 : k < n
    · have xr := XR.out
      obtain ⟨A', c', rfl, hc', hm', hn', _⟩ := xr
      have hdl : (l.drop (64 * k)).length = l.length - 64 * k := List.length_drop
      obtain ⟨a, rfl⟩ : ∃ a, A' = some a := by
        cases A' with
        | none => have := hn' rfl; omega
        | some a => exact ⟨a, rfl⟩
      obtain ⟨d, hd⟩ : ∃ d, (l.drop (64 * k)).length = d := ⟨_, rfl⟩
      rw [hd] at hc' XR hdl ⊢
      have hd64 : 64 ≤ d := by omega
      unfold maxLen at hm'
      have HD := Lib.hid hd
      have HDL := Lib.hid hdl
      have hgsz := GB.out.size
      have hglt := G2.out.lt
      clear hd hdl hn'
      go_wp2
      obtain ⟨st, hst⟩ : ∃ st, chain s k l = st := ⟨_, rfl⟩
      have HST := Lib.hid hst
      have h33 : (Tryz.prog.info? 125).map (·.size) = some (ws st).length := by rw [ws_length, ← hst, chain_length s HS.out]; exact s33
      have h8 : st.length = 8 := by rw [← hst, chain_length s HS.out]
      have h32 : W32 st := by rw [← hst]; exact chain_lt s hs32 _ _
      rw [hst] at G0
      have H33 := Lib.hid h33
      have H8 := Lib.hid h8
      have RH : Hid (Rd w.heap.size w (.slice (some a) 64 c') ((l.drop (64 * k)).take 64)) := XR.out.head hd64
      clear hst h33 h8
      have hci : ¬ (c' : Int) < 64 := by omega
      refine wp_region_till 7 6 (fun w' => Below wr.heap.size wr w') (by kernel_rfl) rfl ?_
      have hS : Below wr.heap.size wr wr.drew := (Below.refl _ _).drew
      refine AnyTill.take (i := 0) (v := .agg (ws st).toArray) rfl (by kernel_rfl) (by kernel_rfl) (by kernel_rfl) (by kernel_rfl) (fun _ _ _ h => h) (by rfl) (fun w' hw' => ?_) hS ?_
      · exact run_load_blk 125 _ rfl w.heap.size rfl (ws st) 125 (G0.out.below hw' (by omega)) 8 48 tu33 H33.out
      simp only [Act.put, List.setIfInBounds_toArray, List.set_cons_zero, List.set_cons_succ]
      refine AnyTill.take (i := 4) (v := .agg (ws kw).toArray) rfl (by kernel_rfl) (by kernel_rfl) (by kernel_rfl) (by kernel_rfl) (fun _ _ _ h => h) (by rfl) (fun w' hw' => ?_) hS ?_
      · exact run_load_blk 138 _ rfl g rfl (ws kw) 138 (G2.out.below hw' hglt) 64 48 tu34 H34.out
      simp only [Act.put, List.setIfInBounds_toArray, List.set_cons_zero, List.set_cons_succ]
      refine AnyTill.take (i := 1) (v := .slice (some a) d c') rfl (by kernel_rfl) (by kernel_rfl) (by kernel_rfl) (by kernel_rfl) (fun _ _ _ h => h) (by rfl) (fun w' hw' => ?_) hS ?_
      · first | (go_simp; done) | (go_simp; rfl)
      simp only [Act.put, List.setIfInBounds_toArray, List.set_cons_zero, List.set_cons_succ]
      refine AnyTill.take (i := 2) (v := .slice (some a) 64 c') rfl (by kernel_rfl) (by kernel_rfl) (by kernel_rfl) (by kernel_rfl) (fun _ _ _ h => h) (by rfl) (fun w' hw' => ?_) hS ?_
      · first | (go_simp; done) | (go_simp; rfl)
      simp only [Act.put, List.setIfInBounds_toArray, List.set_cons_zero, List.set_cons_succ]
      refine AnyTill.one (i := 3) (by kernel_rfl) rfl (by rfl) (fun K hK => ?_)
      go_simp
      refine (schedule_any _ _ _ ((RH.out.below (GB.out.drew)).more (by simpa using hgsz)) (by rw [List.length_take, HD.out]; omega)).mono ?_
      rintro e w6 ⟨rfl, hb6⟩
      have hS6 : Below wr.heap.size wr w6 := hS.trans hb6
      refine hK.out _ _ (.inr hS6) ?_
      clear hK K
      refine AnyTill.one (i := 5) (by kernel_rfl) rfl (by rfl) (fun K hK => ?_)
      go_simp
      refine (process_any st (sch ((l.drop (64 * k)).take 64) 64) kw _ H8.out (sch_length _ _) kw_length h32).mono ?_
      rintro e w7 ⟨rfl, hb7⟩
      have hS7 : Below wr.heap.size wr w7 := hS6.trans (hb7.mono hS6.size)
      refine hK.out _ _ (.inr hS7) ?_
      clear hK K
      refine AnyTill.one (i := 6) (by kernel_rfl) rfl (by rfl) (fun K hK => ?_)
      refine wp_store_blk 125 _ _ rfl w.heap.size (ws (proc st (sch ((l.drop (64 * k)).take 64) 64) kw)) (ws st) 125 rfl rfl (G0.out.below hS7 (by omega)) (by rw [ws_length, proc_length]; exact s33) (by rw [ws_length, ws_length, proc_length]; exact H8.out) (ws_one _) ?_
      refine hK.out _ _ (.inl (by kernel_rfl)) ?_
      clear hK K
      refine AnyTill.done (by kernel_rfl) ?_
      refine NoPanic.normal ?_
      simp only [Act.put]
      have hchain : proc st (sch ((l.drop (64 * k)).take 64) 64) kw = chain s (k + 1) l := by rw [chain_snoc, HST.out]; rfl
      rw [hchain]
      have J0 : Hid (Blk (w7.setRow w.heap.size (ws (chain s (k + 1) l)).toArray) w.heap.size (ws (chain s (k + 1) l)) 125) := (G0.out.below hS7 (by omega)).setRow
      have J1 : Hid (Blk (w7.setRow w.heap.size (ws (chain s (k + 1) l)).toArray) (w.heap.size + 1) z8 125) := (G1.out.below hS7 (by omega)).setRowOther (by omega)
      have J2 : Hid (Blk (w7.setRow w.heap.size (ws (chain s (k + 1) l)).toArray) g (ws kw) 138) := (G2.out.below hS7 hglt).setRowOther (by omega)
      have JB : Hid (Below w.heap.size w (w7.setRow w.heap.size (ws (chain s (k + 1) l)).toArray)) := below_setRow' (GB.out.trans (hS7.mono hgsz)) (Nat.le_refl _) _
      generalize w7.setRow w.heap.size (ws (chain s (k + 1) l)).toArray = w8 at J0 J1 J2 JB ⊢
      clear hS6 hS7 hb6 hb7 hS hchain G0 G1 G2 GB
      have XD : Hid (Rd w.heap.size w (.slice (if c' = 64 then some a else some (a.add 64)) (d - 64) (c' - 64)) (l.drop (64 * (k + 1)))) := by
        have h := XR.out.drop 64 hd64
        rw [List.drop_drop, show 64 * k + 64 = 64 * (k + 1) by omega] at h
        exact h
      by_cases hc64 : c' = 64
      · have hd1 : d = 64 := by omega
        subst hc64 hd1
        rw [if_pos rfl] at XD
        go_wp2
        go_roundw
        case rel => exact ⟨k + 1, by omega, by go_num, XD, J0, J1, J2, JB⟩
        case measure => simp [intOf]; omega
      · rw [if_neg hc64] at XD
        go_wp2
        go_roundw
        case rel => exact ⟨k + 1, by omega, by go_num, XD, J0, J1, J2, JB⟩
        case measure => simp [intOf]; omega
    · obtain rfl : k = n := by omega
      obtain ⟨A', c', rfl, _⟩ := XR.out.shape
      obtain ⟨st, hst⟩ : ∃ st, chain s k l = st := ⟨_, rfl⟩
      have h8 : st.length = 8 := by rw [← hst, chain_length s HS.out]
      have h33 : (Tryz.prog.info? 125).map (·.size) = some (ws st).length := by rw [ws_length, h8]; exact s33
      have hlz : z8.length = (ws st).length := by rw [ws_length, h8]; rfl
      rw [hst] at G0
      have HST := Lib.hid hst
      have H33 := Lib.hid h33
      have HLZ := Lib.hid hlz
      clear hst h33 hlz h8
      go_wp2_with (first | (refine wpList_load_blk rfl 125 _ rfl w.heap.size rfl (ws st) 125 G0.out 8 48 tu33 H33.out ?_) | (refine wpList_store_blk rfl 125 _ _ rfl (w.heap.size + 1) (ws st) z8 125 rfl rfl G1.out H33.out HLZ.out (ws_one _) ?_))
      have xr := XR.out
      rw [List.length_drop] at xr
      refine bodyPost_ret (v := .tuple #[.agg (ws st).toArray, .slice A' (l.length - 64 * k) c']) ?_ rfl ?_
      · exact ret_blk2 rfl _ _ (w.heap.size + 1) 125 (ws st) _ rfl rfl G1.out.setRow 8 48 tu33 H33.out
      · refine ⟨.slice A' (l.length - 64 * k) c', ?_, ?_, below_setRow' GB.out (by omega) _⟩
        · rw [HN.out, HST.out]
        · rw [HN.out]; exact xr
end Go.Proofs.YtnemkefmlffigaaGreat
