/-
  The law SizeLeads, walked: it answers true for every size and every number.
-/
import Derived.Test.YtgabkeohihdenaaZB
import Derived.Laws.MakeOwn
namespace Go.Proofs.Ytgabkeohihdenaa
open Go.RowKit

/-- Who led, as cells. -/
def ledL (B : Nat → Bool) : List Value := (List.range 64).map fun k => Value.bool (B k)
theorem ledL_length (B : Nat → Bool) : (ledL B).length = 64 := by simp [ledL]
theorem ledL_get (B : Nat → Bool) (k : Nat) (h : k < 64) : (ledL B)[k]? = some (.bool (B k)) := by simp [ledL, h]
theorem ledL_set (B : Nat → Bool) (k : Nat) (h : k < 64) : (ledL B).set k (.bool true) = ledL fun j => if j = k then true else B j := by
  refine List.ext_getElem? fun j => ?_
  by_cases hj : j < 64
  · rw [ledL_get _ _ hj, List.getElem?_set]
    by_cases hk : k = j
    · subst hk
      simp [ledL_length, h]
    · rw [if_neg hk, ledL_get _ _ hj, if_neg (fun h => hk h.symm)]
  · rw [List.getElem?_eq_none (by rw [List.length_set, ledL_length]; omega), List.getElem?_eq_none (by rw [ledL_length]; omega)]
theorem info_bool : ∃ i, Try.prog.info? 4 = some i ∧ i.zero = some (.bool false) ∧ i.size = 1 ∧ i.bytes = 1 := by
  cases h : Try.prog.info? 4 with
  | none =>
    have : (Try.prog.info? 4).isSome = true := by kernel_rfl
    rw [h] at this
    cases this
  | some i =>
    have z : (Try.prog.info? 4).map (·.zero) = some (some (.bool false)) := by kernel_rfl
    have z1 : (Try.prog.info? 4).map (·.size) = some 1 := by kernel_rfl
    have z2 : (Try.prog.info? 4).map (·.bytes) = some 1 := by kernel_rfl
    rw [h] at z z1 z2
    simp only [Option.map_some, Option.some.injEq] at z z1 z2
    exact ⟨i, rfl, z, z1, z2⟩
theorem made64 : madeCells (Value.bool false).cells 64 = (ledL fun _ => false).toArray := by kernel_rfl
theorem run_make64 (w : World) : (Instr.makeSlice 38 (.int .i64 64) (.int .i64 64)).run Try.prog w = .ok (.slice (some ⟨w.heap.size, 0, none⟩) 64 64) (w.alloc (.cells (ledL fun _ => false).toArray 4)) := by
  obtain ⟨i, hi, hz, hs, hb⟩ := info_bool
  have h := run_makeSlice (P := Try.prog) w 38 4 i (.bool false) Try.underlying38 hi hz .i64 .i64 64 64 (by decide) (by decide) (by rw [hs]; decide) (by rw [hb]; decide) (by decide)
  rw [hs] at h
  rw [h]
  show _ = Result.ok _ (w.alloc (.cells (ledL fun _ => false).toArray 4))
  rw [← made64]
  rfl
/-- Two views that are less than n apart are not led by the same one. -/
theorem led_new (n q i j : Nat) (hj : j < i) (hi : i < n) : (q + j) % n ≠ (q + i) % n := by
  intro h
  have hn : 0 < n := by omega
  have e := Nat.sub_mod_eq_zero_of_mod_eq h.symm
  have e2 : q + i - (q + j) = i - j := by omega
  rw [e2, Nat.mod_eq_of_lt (by omega)] at e
  omega

set_option maxRecDepth 100000 in
set_option maxHeartbeats 2000000 in
theorem leads_no (f t v : Int) (w : World) (hf : szB f t = false) : Calls Try.prog 6 #[.agg (szl f t).toArray, .int .i64 v] w (One (.bool true) w) := by
  have HY := Lib.hid hf
  clear hf
  obtain ⟨d, hud, hdd⟩ := rowSize
  have HUd := Lib.hid hud
  have HDd := Lib.hid hdd
  clear hud hdd
  go_enter Try.func6, Try.ntmps6
  go_wp2_with (refine wpList_box_blk rfl 23 _ rfl (szl f t) rfl ?_)
  intro w1 a1 a2 a3
  obtain ⟨g2, hg2⟩ : ∃ g, w.heap.size = g := ⟨_, rfl⟩
  have A1 : Hid (Blk w1 g2 (szl f t) 23) := by rw [← hg2]; exact a1
  have A3 := Lib.hid a3
  rw [hg2]
  have HG := Lib.hid hg2
  clear a1 a2 a3 hg2
  go_wp2_with (refine wpList_load_blkU rfl 23 _ rfl g2 rfl (szl f t) 23 A1.out d HUd.out HDd.out (sSize _ _) ?_)
  refine (rightS_any _ _ _).mono ?_
  rintro e w2 ⟨rfl, hb⟩
  rw [HY.out]
  have B1 : Hid (Blk w2 g2 (szl f t) 23) := A1.out.below hb A1.out.lt
  have B3 : Hid (Below w.heap.size w w2) := A3.out.trans (hb.mono A3.out.size)
  clear hb A1 A3
  go_wp2_with fail
  refine (alive7_any _).mono ?_
  rintro e w3 ⟨rfl, hb⟩
  have Z3 : Hid (Below w.heap.size w w3) := B3.out.trans (hb.mono B3.out.size)
  clear hb
  go_wp2
  go_ret
  exact ⟨rfl, Z3.out⟩

set_option maxRecDepth 100000 in
set_option maxHeartbeats 2000000 in
theorem leads_neg (f t : Nat) (v : Int) (w : World) (hf : SFit f t) (hv : v < 0) : Calls Try.prog 6 #[.agg (szl (f : Int) (t : Int)).toArray, .int .i64 v] w (One (.bool true) w) := by
  have HY := Lib.hid hf.yes
  have dv : decide (v < 0) = true := decide_eq_true hv
  clear hf hv
  obtain ⟨d, hud, hdd⟩ := rowSize
  have HUd := Lib.hid hud
  have HDd := Lib.hid hdd
  clear hud hdd
  go_enter Try.func6, Try.ntmps6
  go_wp2_with (refine wpList_box_blk rfl 23 _ rfl (szl (f : Int) (t : Int)) rfl ?_)
  intro w1 a1 a2 a3
  obtain ⟨g2, hg2⟩ : ∃ g, w.heap.size = g := ⟨_, rfl⟩
  have A1 : Hid (Blk w1 g2 (szl (f : Int) (t : Int)) 23) := by rw [← hg2]; exact a1
  have A3 := Lib.hid a3
  rw [hg2]
  have HG := Lib.hid hg2
  clear a1 a2 a3 hg2
  go_wp2_with (refine wpList_load_blkU rfl 23 _ rfl g2 rfl (szl (f : Int) (t : Int)) 23 A1.out d HUd.out HDd.out (sSize _ _) ?_)
  refine (rightS_any _ _ _).mono ?_
  rintro e w2 ⟨rfl, hb⟩
  rw [HY.out]
  have B1 : Hid (Blk w2 g2 (szl (f : Int) (t : Int)) 23) := A1.out.below hb A1.out.lt
  have B3 : Hid (Below w.heap.size w w2) := A3.out.trans (hb.mono A3.out.size)
  clear hb A1 A3
  go_wp2_with fail
  refine (alive7_any _).mono ?_
  rintro e w3 ⟨rfl, hb⟩
  have Z3 : Hid (Below w.heap.size w w3) := B3.out.trans (hb.mono B3.out.size)
  clear hb
  go_wp2
  go_ret
  exact ⟨rfl, Z3.out⟩

set_option maxRecDepth 100000 in
set_option maxHeartbeats 2000000 in
theorem leads_big (f t : Nat) (v : Int) (w : World) (hf : SFit f t) (hv : 1000000000 < v) : Calls Try.prog 6 #[.agg (szl (f : Int) (t : Int)).toArray, .int .i64 v] w (One (.bool true) w) := by
  have HY := Lib.hid hf.yes
  have dv : decide (v < 0) = false := decide_eq_false (by omega)
  have dv2 : decide (1000000000 < v) = true := decide_eq_true hv
  clear hf hv
  obtain ⟨d, hud, hdd⟩ := rowSize
  have HUd := Lib.hid hud
  have HDd := Lib.hid hdd
  clear hud hdd
  go_enter Try.func6, Try.ntmps6
  go_wp2_with (refine wpList_box_blk rfl 23 _ rfl (szl (f : Int) (t : Int)) rfl ?_)
  intro w1 a1 a2 a3
  obtain ⟨g2, hg2⟩ : ∃ g, w.heap.size = g := ⟨_, rfl⟩
  have A1 : Hid (Blk w1 g2 (szl (f : Int) (t : Int)) 23) := by rw [← hg2]; exact a1
  have A3 := Lib.hid a3
  rw [hg2]
  have HG := Lib.hid hg2
  clear a1 a2 a3 hg2
  go_wp2_with (refine wpList_load_blkU rfl 23 _ rfl g2 rfl (szl (f : Int) (t : Int)) 23 A1.out d HUd.out HDd.out (sSize _ _) ?_)
  refine (rightS_any _ _ _).mono ?_
  rintro e w2 ⟨rfl, hb⟩
  rw [HY.out]
  have B1 : Hid (Blk w2 g2 (szl (f : Int) (t : Int)) 23) := A1.out.below hb A1.out.lt
  have B3 : Hid (Below w.heap.size w w2) := A3.out.trans (hb.mono A3.out.size)
  clear hb A1 A3
  go_wp2_with fail
  refine (alive7_any _).mono ?_
  rintro e w3 ⟨rfl, hb⟩
  have Z3 : Hid (Below w.heap.size w w3) := B3.out.trans (hb.mono B3.out.size)
  clear hb
  go_wp2
  go_ret
  exact ⟨rfl, Z3.out⟩

set_option maxRecDepth 100000 in
set_option maxHeartbeats 2000000 in
theorem leads_main (f t q : Nat) (w : World) (hf : SFit f t) (hq : q ≤ 1000000000) : Calls Try.prog 6 #[.agg (szl (f : Int) (t : Int)).toArray, .int .i64 (q : Int)] w (One (.bool true) w) := by
  have HF := Lib.hid hf
  have HY := Lib.hid hf.yes
  obtain ⟨n4, n26⟩ := nN_le hf
  obtain ⟨n, hn⟩ : ∃ n, nN f t = n := ⟨_, rfl⟩
  rw [hn] at n4 n26
  have HN := Lib.hid hn
  have dv : decide ((q : Int) < 0) = false := decide_eq_false (by omega)
  have dv2 : decide (1000000000 < (q : Int)) = false := decide_eq_false (by omega)
  clear hf hn
  obtain ⟨d, hud, hdd⟩ := rowSize
  have HUd := Lib.hid hud
  have HDd := Lib.hid hdd
  clear hud hdd
  go_enter Try.func6, Try.ntmps6
  go_wp2_with (refine wpList_box_blk rfl 23 _ rfl (szl (f : Int) (t : Int)) rfl ?_)
  intro w1 a1 a2 a3
  obtain ⟨g2, hg2⟩ : ∃ g, w.heap.size = g := ⟨_, rfl⟩
  have A1 : Hid (Blk w1 g2 (szl (f : Int) (t : Int)) 23) := by rw [← hg2]; exact a1
  have A3 := Lib.hid a3
  rw [hg2]
  have HG := Lib.hid hg2
  clear a1 a2 a3 hg2
  go_wp2_with (refine wpList_load_blkU rfl 23 _ rfl g2 rfl (szl (f : Int) (t : Int)) 23 A1.out d HUd.out HDd.out (sSize _ _) ?_)
  refine (rightS_any _ _ _).mono ?_
  rintro e w2 ⟨rfl, hb⟩
  rw [HY.out]
  have B1 : Hid (Blk w2 g2 (szl (f : Int) (t : Int)) 23) := A1.out.below hb A1.out.lt
  have B3 : Hid (Below w.heap.size w w2) := A3.out.trans (hb.mono A3.out.size)
  clear hb A1 A3
  go_wp2_with (refine wpList_load_blkU rfl 23 _ rfl g2 rfl (szl (f : Int) (t : Int)) 23 B1.out d HUd.out HDd.out (sSize _ _) ?_)
  refine (nN_any f t _ HF.out).mono ?_
  rintro e w3 ⟨rfl, hb⟩
  rw [HN.out]
  have C1 : Hid (Blk w3 g2 (szl (f : Int) (t : Int)) 23) := B1.out.below hb B1.out.lt
  have C3 : Hid (Below w.heap.size w w3) := B3.out.trans (hb.mono B3.out.size)
  clear hb B1 B3 dv dv2
  have hmk := run_make64
  go_wp2
  clear hmk
  obtain ⟨g6, hg6⟩ : ∃ g, w3.heap.size = g := ⟨_, rfl⟩
  have h26 : g2 < g6 := by have := C1.out.lt; omega
  obtain ⟨w4, hw4⟩ : ∃ u, w3.alloc (.cells ((ledL fun _ => false).toArray) 4) = u := ⟨_, rfl⟩
  have hsz : w4.heap.size = g6 + 1 := by rw [← hw4, ← hg6]; simp
  have HW4 := Lib.hid hw4
  have K0 : Hid (Blk w4 g2 (szl (f : Int) (t : Int)) 23 ∧ Blk w4 g6 (ledL fun _ => false) 4 ∧ Below w.heap.size w w4) := by
    refine ⟨?_, ?_, ?_⟩
    · rw [← hw4]; exact C1.out.alloc _
    · rw [← hw4, ← hg6]
      show (w3.heap.push _)[w3.heap.size]? = _
      first | exact Array.getElem?_push_size | exact Array.getElem?_push_eq
    · rw [← hw4]; exact C3.out.alloc C3.out.size _
  rw [hg6]
  try rw [HW4.out]
  clear hw4 hg6 C1 C3
  go_loopw [7] (fun x wr => ∃ (i : Nat) (B : Nat → Bool), i ≤ n ∧ x = .int .i64 (i : Int) ∧ Hid (∀ k, B k = true → ∃ j, j < i ∧ (q + j) % n = k) ∧ Hid (Blk wr g2 (szl (f : Int) (t : Int)) 23 ∧ Blk wr g6 (ledL B) 4 ∧ Below w.heap.size w wr)) (fun x _ => (26 - (intOf x)).toNat)
  case atStart => exact ⟨0, fun _ => false, by omega, rfl, Lib.hid (fun k h => by cases h), K0⟩
  case round =>
    clear K0 HW4 hsz
    obtain ⟨i, B, hi, rfl, HB, KK⟩ := hrel
    by_cases hin : i < n
    · obtain ⟨k, hk⟩ : ∃ k, (q + i) % n = k := ⟨_, rfl⟩
      have hkn : k < n := by rw [← hk]; exact Nat.mod_lt _ (by omega)
      have HLD : Hid (ldI (n : Int) ((q + i : Nat) : Int) = (k : Int)) := by
        show _ = _
        unfold ldI
        rw [← hk, Int.max_eq_left (by omega)]
        first | exact (Int.natCast_mod _ _).symm | exact (Int.natCast_emod _ _).symm
      have hBk : B k = false := by
        cases h : B k with
        | false => rfl
        | true =>
          obtain ⟨j, hj, e⟩ := HB.out k h
          exact absurd (e.trans hk.symm) (led_new n q i j hj hin)
      have HB2 : Hid (∀ k', (if k' = k then true else B k') = true → ∃ j, j < i + 1 ∧ (q + j) % n = k') := by
        intro k' h
        by_cases e : k' = k
        · subst e; exact ⟨i, by omega, hk⟩
        · rw [if_neg e] at h
          obtain ⟨j, hj, e2⟩ := HB.out k' h
          exact ⟨j, by omega, e2⟩
      have HBK := Lib.hid hBk
      have eS : Hid ((q : Int) + (i : Int) = ((q + i : Nat) : Int)) := by show _ = _; omega
      obtain ⟨Q, hQ⟩ : ∃ Q, q + i = Q := ⟨_, rfl⟩
      rw [hQ] at HLD eS
      have hQb : Q ≤ 1000000026 := by omega
      clear hk HB hBk hQ
      have din : decide ((i : Int) < (n : Int)) = true := decide_eq_true (by omega)
      have zw : IntKind.i64.wrap ((q : Int) + (i : Int)) = (Q : Int) := by rw [eS.out]; exact wrap_i64s _ (by omega) (by omega)
      go_wp2_with (refine wpList_load_blkU rfl 23 _ rfl g2 rfl (szl (f : Int) (t : Int)) 23 KK.out.1 d HUd.out HDd.out (sSize _ _) ?_)
      refine calls_args (args2 := #[.agg (szl (f : Int) (t : Int)).toArray, .int .i64 (Q : Int)]) (by first | rfl | (rw [eS.out]) | simp [zw]) ?_
      refine (leaderS_any f t (Q : Int) _ HF.out).mono ?_
      rintro e w5 ⟨rfl, hb⟩
      rw [HN.out, HLD.out]
      have M1 : Hid (Blk w5 g2 (szl (f : Int) (t : Int)) 23) := KK.out.1.below hb KK.out.1.lt
      have M6 : Hid (Blk w5 g6 (ledL B) 4) := KK.out.2.1.below hb KK.out.2.1.lt
      have M3 : Hid (Below w.heap.size w w5) := KK.out.2.2.trans (hb.mono KK.out.2.2.size)
      clear hb KK zw eS HLD
      have hc := (M6.out.cell k).trans (ledL_get B k (by omega))
      rw [HBK.out] at hc
      have hfz := M6.out.frozen k
      have dk0 : decide ((k : Int) < 0) = false := decide_eq_false (by omega)
      have dkn : decide ((n : Int) ≤ (k : Int)) = false := decide_eq_false (by omega)
      have dkn2 : decide (n ≤ k) = false := decide_eq_false (by omega)
      have dk64 : decide (64 ≤ (k : Int)) = false := decide_eq_false (by omega)
      go_wp2
      go_roundw
      case rel =>
        refine ⟨i + 1, fun k' => if k' = k then true else B k', by omega, by go_num, HB2, ?_⟩
        refine ⟨M1.out.setOther _ _ (by show g2 ≠ g6; omega), ?_, M3.out.setCell (by show w.heap.size ≤ g6; have := HG.out; omega) _⟩
        rw [← ledL_set B k (by omega)]
        exact M6.out.set k _
      case measure => simp [intOf]; omega
    · obtain rfl : i = n := by omega
      have din : decide ((i : Int) < (i : Int)) = false := decide_eq_false (by omega)
      go_wp2_with fail
      refine (alive7_any _).mono ?_
      rintro e w5 ⟨rfl, hb⟩
      have M3 : Hid (Below w.heap.size w w5) := KK.out.2.2.trans (hb.mono KK.out.2.2.size)
      clear hb KK
      go_wp2
      go_ret
      exact ⟨rfl, M3.out⟩

theorem leads_all (f t v : Int) (w : World) : Calls Try.prog 6 #[.agg (szl f t).toArray, .int .i64 v] w (One (.bool true) w) := by
  rcases size_or f t with ⟨F, T, hf, rfl, rfl⟩ | h
  · by_cases h1 : v < 0
    · exact leads_neg F T v w hf h1
    by_cases h2 : 1000000000 < v
    · exact leads_big F T v w hf h2
    obtain ⟨q, rfl⟩ : ∃ q : Nat, v = q := ⟨v.toNat, by omega⟩
    exact leads_main F T q w hf (by omega)
  · exact leads_no f t v w h

end Go.Proofs.Ytgabkeohihdenaa
