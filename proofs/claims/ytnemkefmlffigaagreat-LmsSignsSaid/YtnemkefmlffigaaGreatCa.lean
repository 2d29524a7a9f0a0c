/-
  Package ots: hashIn and number, for every slice that is long enough.
-/
import Derived.Test.YtnemkefmlffigaaGreatSg
import Derived.BigQuiet
namespace Go.Proofs.YtnemkefmlffigaaGreat
open Go.RowKit

theorem Rd.take {B : Nat} {w : World} {a : Addr} {n c : Nat} {l : List UInt8} (h : Rd B w (.slice (some a) n c) l) (m : Nat) (hm : m ≤ n) : Rd B w (.slice (some a) m c) (l.take m) := by
  obtain ⟨A, c', hv, hc, hmx, hn, hcell⟩ := h
  injection hv with h1 h2 h3
  subst h1 h2 h3
  have hl : (l.take m).length = m := by rw [List.length_take]; omega
  refine ⟨some a, c, by rw [hl], by omega, hmx, fun h => (by cases h), fun x hx => ?_⟩
  cases hx
  refine ⟨fun h0 => (hcell a rfl).1 (by omega), fun j hj => ?_⟩
  rw [(hcell a rfl).2 j (by omega)]
  simp
theorem Rd.some_ {B : Nat} {w : World} {v : Value} {l : List UInt8} (h : Rd B w v l) (h0 : 0 < l.length) : ∃ a c, v = .slice (some a) l.length c ∧ l.length ≤ c ∧ c ≤ maxLen := by
  obtain ⟨A, c, rfl, hc, hm, hn, _⟩ := h
  cases A with
  | none => have := hn rfl; omega
  | some a => exact ⟨a, c, rfl, hc, hm⟩
/-- What is behind place m of a slice. -/
theorem run_sliceFromS (a : Addr) (n c m : Nat) (w : World) (h1 : m < n) (_ : n ≤ c) : (Instr.sliceAt 34 (.slice (some a) n c) (some (.int .i64 (m : Int))) none none).run Tryz.prog w = .ok (.slice (some (a.add m)) (n - m) (c - m)) w := by
  have e1 : m ≤ n := by omega

  have e3 : ¬ c = m := by omega
  simp [Instr.sliceAt, Instr.slice, run_underlying Tryz.underlying34, Instr.sliceBounds, Instr.sliceBound, asIntOf, e1, e3, Sem.run_bind, Result.andThen]

set_option maxRecDepth 100000 in
set_option maxHeartbeats 1000000 in
theorem hashIn_any (v : Value) (s : List UInt8) (i : Nat) (w : World) (hr : Rd w.heap.size w v s) (hi : 4 + i * 32 + 32 ≤ s.length) (hl : s.length ≤ 1000000) : Calls Tryz.prog 74 #[v, .int .i64 (i : Int)] w (Arr (bys (hAt s i)) w) := by
  have HR := Lib.hid hr
  obtain ⟨a, c, rfl, hc, hm⟩ := hr.some_ (by omega)
  unfold maxLen at hm
  have hal : (hAt s i).length = 32 := by unfold hAt; rw [List.length_take, List.length_drop]; omega
  have HAL := Lib.hid hal
  have H24 : Hid ((Tryz.prog.info? 23).map (·.size) = some (bys (hAt s i)).length) := by show _ = _; rw [bys_length, hal]; exact s24
  have HLZ : Hid (z32.length = (bys (hAt s i)).length) := by show _ = _; rw [bys_length, hal, z32_length]
  obtain ⟨n, hn⟩ : ∃ n, s.length = n := ⟨_, rfl⟩
  have HN := Lib.hid hn
  obtain ⟨m, hme⟩ : ∃ m, 4 + i * 32 = m := ⟨_, rfl⟩
  have HME := Lib.hid hme
  have hmn : m + 32 ≤ n := by omega
  have z1 : 4 + (i : Int) * 32 = (m : Int) := by omega
  have HM1 := Lib.hid z1
  have him : i ≤ 1000000 := by omega
  rw [hn] at hc hl ⊢
  clear hr hal hn hme hi z1
  go_enter Tryz.func74, Tryz.ntmps74
  go_wp2_with (refine wpList_alloc_blk rfl 23 rfl _ z24 ?_)
  intro w1 a1 a2 a3
  have A1 := Lib.hid a1
  have A2 := Lib.hid a2
  have A3 := Lib.hid a3
  clear a1 a2 a3
  go_wp2_with (refine wpList_alloc_blk rfl 23 rfl _ z24 ?_)
  intro w2 a1 a2 a3
  rw [A2.out] at a1 a2 a3 ⊢
  obtain ⟨g0, hg0⟩ : ∃ g, w.heap.size = g := ⟨_, rfl⟩
  obtain ⟨g1, hg1⟩ : ∃ g, g0 + 1 = g := ⟨_, rfl⟩
  have G0 : Hid (Blk w2 g0 z32 23) := by rw [← hg0]; exact A1.out.below a3 (by omega)
  have G1 : Hid (Blk w2 g1 z32 23) := by rw [← hg1, ← hg0]; exact a1
  have GB : Hid (Below w.heap.size w w2) := A3.out.trans (a3.mono (by omega))
  have hw0 : w.heap.size ≤ g0 := by omega
  have hg01 : g0 < g1 := by omega
  rw [hg0, hg1]
  clear a1 a2 a3 A1 A2 A3 hg0 hg1
  go_wp2
  refine wp_region_till 7 6 (fun _ => True) (by kernel_rfl) rfl ?_
  refine AnyTill.free (i := 0) (v := .slice (some ⟨g1, 0, none⟩) 32 32) rfl (by kernel_rfl) (by kernel_rfl) (by kernel_rfl) (by kernel_rfl) (fun _ _ _ h => h) (by rfl) (fun w' => ?_) trivial ?_
  · first | (go_simp; done) | (go_simp; rfl)
  simp only [Act.put, List.setIfInBounds_toArray, List.set_cons_zero, List.set_cons_succ]
  refine AnyTill.free (i := 1) (v := .slice (some a) n c) rfl (by kernel_rfl) (by kernel_rfl) (by kernel_rfl) (by kernel_rfl) (fun _ _ _ h => h) (by rfl) (fun w' => ?_) trivial ?_
  · first | (go_simp; done) | (go_simp; rfl)
  simp only [Act.put, List.setIfInBounds_toArray, List.set_cons_zero, List.set_cons_succ]
  refine AnyTill.free (i := 2) (v := .int .i64 (i : Int)) rfl (by kernel_rfl) (by kernel_rfl) (by kernel_rfl) (by kernel_rfl) (fun _ _ _ h => h) (by rfl) (fun w' => ?_) trivial ?_
  · first | (go_simp; done) | (go_simp; rfl)
  simp only [Act.put, List.setIfInBounds_toArray, List.set_cons_zero, List.set_cons_succ]
  refine AnyTill.free (i := 3) (v := .int .i64 ((i : Int) * 32)) rfl (by kernel_rfl) (by kernel_rfl) (by kernel_rfl) (by kernel_rfl) (fun _ _ _ h => h) (by rfl) (fun w' => ?_) trivial ?_
  · go_simp; first | done | exact wrap_i64 _ (by omega) (by omega)
  simp only [Act.put, List.setIfInBounds_toArray, List.set_cons_zero, List.set_cons_succ]
  refine AnyTill.free (i := 4) (v := .int .i64 (m : Int)) rfl (by kernel_rfl) (by kernel_rfl) (by kernel_rfl) (by kernel_rfl) (fun _ _ _ h => h) (by rfl) (fun w' => ?_) trivial ?_
  · have z1 := HM1.out; go_simp; first | done | exact wrap_i64 _ (by omega) (by omega)
  simp only [Act.put, List.setIfInBounds_toArray, List.set_cons_zero, List.set_cons_succ]
  refine AnyTill.free (i := 5) (v := .slice (some (a.add m)) (n - m) (c - m)) rfl (by kernel_rfl) (by kernel_rfl) (by kernel_rfl) (by kernel_rfl) (fun _ _ _ h => h) (by rfl) (fun w' => ?_) trivial ?_
  · have hs := run_sliceFromS a n c m w' (by omega) hc; first | (go_simp; done) | (go_simp; rfl)
  simp only [Act.put, List.setIfInBounds_toArray, List.set_cons_zero, List.set_cons_succ]
  refine AnyTill.one (i := 6) (by kernel_rfl) rfl (by rfl) (fun K hK => ?_)
  have hrd : Rd w.heap.size w (.slice (some (a.add m)) (n - m) (c - m)) (s.drop m) := by
    have h0 := HR.out
    rw [HN.out] at h0
    have h := h0.drop m (by omega)
    rwa [if_neg (by omega)] at h
  refine wp_of_list rfl (wpList_copy_to rfl _ _ 34 rfl 5 Tryz.underlying34 s5 g1 0 32 32 _ rfl rfl z32 23 G1.out.drew w.heap.size (s.drop m) (hrd.below (GB.out.drew)) (by rw [z32_length]; omega) 32 (by rw [List.length_take, List.length_drop, HN.out]; omega) (bys (hAt s i)) ?_ ?_)
  · have e1 : (s.drop m).take 32 = hAt s i := by unfold hAt; rw [HME.out]
    rw [e1, HAL.out]
    simp [z32, bys]
  intro w3 h3 hb3
  refine hK.out _ _ (.inl (by kernel_rfl)) ?_
  clear hK K
  refine AnyTill.done (by kernel_rfl) ?_
  refine NoPanic.normal ?_
  simp only [Act.put, List.setIfInBounds_toArray, List.set_cons_zero, List.set_cons_succ]
  have D0 : Hid (Blk w3 g0 z32 23) := hb3.blk G0.out.drew (by omega)
  have D1 := Lib.hid h3
  have DB : Hid (Below w.heap.size w w3) := GB.out.trans (((Below.refl _ _).drew).trans (hb3.below (by omega) (by simpa using GB.out.size)))
  clear h3 hb3 hrd G0 G1 GB
  go_wp2_with (first | (refine wpList_load_blk rfl 23 _ rfl g1 rfl (bys (hAt s i)) 23 D1.out 32 5 tu24 H24.out ?_) | (refine wpList_store_blk rfl 23 _ _ rfl g0 (bys (hAt s i)) z32 23 rfl rfl D0.out H24.out HLZ.out (bys_one' _) ?_))
  refine bodyPost_ret (v := .agg (bys (hAt s i)).toArray) ?_ rfl ?_
  · exact ret_blk rfl _ _ g0 23 _ rfl D0.out.setRow 32 5 tu24 H24.out
  · exact ⟨rfl, below_setRow' DB.out (by omega) _⟩

theorem wd_int2 (B0 B1 B2 B3 : Nat) (y0 : B0 < 256) (y1 : B1 < 256) (y2 : B2 < 256) (y3 : B3 < 256) :
    bits .or .u32 (bits .or .u32 (bits .or .u32 ((B0 : Int) * 16777216) ((B1 : Int) * 65536)) ((B2 : Int) * 256)) (B3 : Int) = ((B0 * 16777216 ||| B1 * 65536 ||| B2 * 256 ||| B3 : Nat) : Int) := by
  have r0 : (B0 : Int) * 16777216 = ((B0 * 16777216 : Nat) : Int) := by omega
  have r1 : (B1 : Int) * 65536 = ((B1 * 65536 : Nat) : Int) := by omega
  have r2 : (B2 : Int) * 256 = ((B2 * 256 : Nat) : Int) := by omega
  rw [r0, r1, r2, u32_or_nat _ _ (by omega) (by omega), u32_or_nat _ _ (or32 (by omega) (by omega)) (by omega), u32_or_nat _ _ (or32 (or32 (by omega) (by omega)) (by omega)) (by omega)]

set_option maxHeartbeats 1000000 in
theorem numberO_any (B : Nat) (v : Value) (l : List UInt8) (w : World) (hr : Rd B w v l) (hl : l.length = 4) : Calls Tryz.prog 96 #[v] w (Drew (.int .u32 (wd l 0 : Nat)) w) := by
  obtain ⟨a, c, hv, hc, hm⟩ := hr.some_ (by omega)
  subst hv
  obtain ⟨A, c', hv, _, _, _, hcell⟩ := hr
  injection hv with e1 e2 e3
  subst e1 e3
  have h0 := (hcell a rfl).2 0 (by omega)
  have h1 := (hcell a rfl).2 1 (by omega)
  have h2 := (hcell a rfl).2 2 (by omega)
  have h3 := (hcell a rfl).2 3 (by omega)
  rw [hl] at hc ⊢
  have hw : wd l 0 = (l[0].toNat * 16777216 ||| l[1].toNat * 65536 ||| l[2].toNat * 256 ||| l[3].toNat) := by
    unfold wd
    simp [hl]
  rw [hw]
  have y0 : l[0].toNat < 256 := l[0].toNat_lt
  have y1 : l[1].toNat < 256 := l[1].toNat_lt
  have y2 : l[2].toNat < 256 := l[2].toNat_lt
  have y3 : l[3].toNat < 256 := l[3].toNat_lt
  generalize l[0].toNat = B0 at h0 y0 hw ⊢
  generalize l[1].toNat = B1 at h1 y1 hw ⊢
  generalize l[2].toNat = B2 at h2 y2 hw ⊢
  generalize l[3].toNat = B3 at h3 y3 hw ⊢
  have HW := Lib.hid (wd_int2 B0 B1 B2 B3 y0 y1 y2 y3)
  unfold maxLen at hm
  clear hcell hw
  rw [show a.add 0 = a by simp [Addr.add]] at h0
  simp only [Addr.add] at h1 h2 h3
  rw [if_neg (by omega)] at h1 h2 h3
  go_enter Tryz.func96, Tryz.ntmps96
  go_wp2
  refine wp_region_quiet_lit (by kernel_rfl) (by kernel_rfl) ?_
  repeat (first | go_big_quiet_step (fail) | quiet_step (fail))
  refine wpQuiet_nil ?_
  intro _ hw'
  obtain ⟨nq, hw''⟩ := hw'
  subst hw''
  go_wp2
  go_ret
  exact ⟨ret_intD HW.out, nq, rfl⟩
end Go.Proofs.YtnemkefmlffigaaGreat
