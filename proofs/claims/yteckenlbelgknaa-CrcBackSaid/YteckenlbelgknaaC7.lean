/-
  The document's Rows: are rows of byte slices alike? Each theorem states its own conditions.
-/
import Derived.Test.YteckenlbelgknaaC6
namespace Go.Proofs.Yteckenlbelgknaa
open Go.RowKit

theorem rowsC_at (l m : List (List UInt8)) (i : Nat) (h : l.getD i [] ≠ m.getD i []) : decide (l = m) = false := by
  rw [decide_eq_false_iff_not]
  rintro rfl
  exact h rfl
theorem rowsC_all (l m : List (List UInt8)) (hl : l.length = m.length) (h : ∀ i, i < l.length → l.getD i [] = m.getD i []) : decide (l = m) = true := by
  rw [decide_eq_true_eq]
  refine List.ext_getElem hl fun i h1 h2 => ?_
  have := h i h1
  rw [List.getD_eq_getElem?_getD, List.getD_eq_getElem?_getD, List.getElem?_eq_getElem h1, List.getElem?_eq_getElem h2] at this
  exact this
theorem rowsC_len (l m : List (List UInt8)) (hl : l.length ≠ m.length) : decide (l = m) = false := by
  rw [decide_eq_false_iff_not]
  rintro rfl
  exact hl rfl
theorem RdM.shape {B : Nat} {w : World} {v : Value} {ls : List (List UInt8)} (h : RdM B w v ls) : ∃ A c, v = .slice A ls.length c ∧ ls.length ≤ c ∧ c ≤ maxLen := by
  obtain ⟨vs, h1, h2, h3⟩ := h
  obtain ⟨A, c, hv, hc, hm⟩ := h2.shape
  rw [h1] at hv hc
  exact ⟨A, c, hv, hc, hm⟩
/-- The slice in place j and what it reads. -/
theorem RdM.at_ {B : Nat} {w : World} {A : Option Addr} {n c : Nat} {ls : List (List UInt8)} (h : RdM B w (.slice A n c) ls) (j : Nat) (hj : j < ls.length) :
    ∃ a A1 c1, A = some a ∧ w.cell? (a.add j) = some (.slice A1 (ls.getD j []).length c1) ∧ Rd B w (.slice A1 (ls.getD j []).length c1) (ls.getD j []) := by
  obtain ⟨vs, h1, h2, h3⟩ := h
  obtain ⟨a, ha, hc⟩ := h2.atSl j (by omega)
  have hr := h3 j hj
  obtain ⟨A1, c1, hv, -, -⟩ := hr.shape
  rw [hv] at hc hr
  exact ⟨a, A1, c1, ha, hc, hr⟩
theorem Rd.drewN {B : Nat} {w : World} {v : Value} {l : List UInt8} (h : Rd B w v l) (nq : Nat) : Rd B (w.drewN nq) v l := h.keep fun _ _ => rfl
set_option maxRecDepth 100000 in
set_option maxHeartbeats 4000000 in
theorem rfRowsC_any (l m : List (List UInt8)) (v u : Value) (w : World) (hr : RdM w.heap.size w v l) (hr2 : RdM w.heap.size w u m) : Calls Try.prog 21 #[v, u] w (fun e w' => e = .returned (.bool (decide (l = m))) ∧ Below w.heap.size w w') := by
  obtain ⟨A, cp, rfl, hc, hm⟩ := hr.shape
  obtain ⟨A2, cp2, rfl, hc2, hm2⟩ := hr2.shape
  unfold maxLen at hm hm2
  obtain ⟨n, hn⟩ : ∃ n, l.length = n := ⟨_, rfl⟩
  obtain ⟨k, hk⟩ : ∃ n, m.length = n := ⟨_, rfl⟩
  have HN := Lib.hid hn
  have HK := Lib.hid hk
  have HR := Lib.hid hr
  have HR2 := Lib.hid hr2
  rw [hn] at hc HR
  rw [hk] at hc2 HR2
  rw [hn, hk]
  clear hr hn hr2 hk
  obtain ⟨R, hR⟩ : ∃ R, decide (l = m) = R := ⟨_, rfl⟩
  have HRR := Lib.hid hR
  rw [hR]
  clear hR
  go_enter Try.func21, Try.ntmps21
  by_cases hnk : n = k
  · subst hnk
    go_wp2
    go_loopw [5] (fun x wr => ∃ i : Nat, i ≤ n ∧ x = .int .i64 (i : Int) ∧ Hid (∀ j, j < i → l.getD j [] = m.getD j []) ∧ Hid (Below w.heap.size w wr)) (fun x _ => n - (intOf x).toNat)
    case atStart => exact ⟨0, by omega, rfl, fun j hj => by omega, Below.refl _ _⟩
    case round =>
      obtain ⟨i, hi, rfl, HA, HD⟩ := hrel
      by_cases hi2 : i < n
      · have zi : (i : Int) < (n : Int) := by omega
        obtain ⟨a, B1, e1, hA, c0, r1⟩ := (HR.out.below HD.out).at_ i (by rw [HN.out]; exact hi2)
        obtain ⟨b, B2, e2, hA2, d0, r2⟩ := (HR2.out.below HD.out).at_ i (by rw [HK.out]; exact hi2)
        subst hA hA2
        obtain ⟨x, hx⟩ : ∃ x, l.getD i [] = x := ⟨_, rfl⟩
        obtain ⟨y, hy⟩ : ∃ y, m.getD i [] = y := ⟨_, rfl⟩
        rw [hx] at c0 r1
        rw [hy] at d0 r2
        have s1 : ∀ nq, (convert 22 9 (.slice B1 x.length e1)).run Try.prog (wr.drewN nq) = .ok (.string ⟨x.toArray⟩) (wr.drewN nq) := fun nq => run_string_rd (w := wr.drewN nq) 22 9 5 Try.underlying22 Try.underlying5 Try.underlying9 (r1.drewN nq)
        have s2 : ∀ nq, (convert 22 9 (.slice B2 y.length e2)).run Try.prog (wr.drewN nq) = .ok (.string ⟨y.toArray⟩) (wr.drewN nq) := fun nq => run_string_rd (w := wr.drewN nq) 22 9 5 Try.underlying22 Try.underlying5 Try.underlying9 (r2.drewN nq)
        obtain ⟨n1, hn1⟩ : ∃ q, x.length = q := ⟨_, rfl⟩
        obtain ⟨n2, hn2⟩ : ∃ q, y.length = q := ⟨_, rfl⟩
        rw [hn1] at c0 s1
        rw [hn2] at d0 s2
        clear hn1 hn2 r1 r2
        by_cases hxy : x = y
        · have hb := (show (x == y) = true by simpa using hxy)
          have HA2 : Hid (∀ j, j < i + 1 → l.getD j [] = m.getD j []) := by
            intro j hj
            by_cases h : j < i
            · exact HA.out j h
            · obtain rfl : j = i := by omega
              rw [hx, hy]
              exact hxy
          clear hxy hx hy
          go_wp2
          refine wp_region_quiet_lit (by kernel_rfl) (by kernel_rfl) ?_
          repeat (first | go_big_quiet_step (fail) | quiet_step (fail))
          refine wpQuiet_nil ?_
          intro _ hw'
          obtain ⟨nq, hw''⟩ := hw'
          subst hw''
          have HD2 : Hid (Below w.heap.size w (wr.drewN nq)) := Below.drewN' HD.out
          clear hb s1 s2 c0 d0 HD
          go_wp2
          go_roundw
          case rel => exact ⟨i + 1, by omega, by go_num, HA2, HD2⟩
          case measure => simp [intOf]; omega
        · have hb := (show (x == y) = false by simpa using hxy)
          have HF := Lib.hid (rowsC_at l m i (by rw [hx, hy]; exact hxy))
          clear hxy hx hy
          go_wp2
          refine wp_region_quiet_lit (by kernel_rfl) (by kernel_rfl) ?_
          repeat (first | go_big_quiet_step (fail) | quiet_step (fail))
          refine wpQuiet_nil ?_
          intro _ hw'
          obtain ⟨nq, hw''⟩ := hw'
          subst hw''
          have HD2 : Hid (Below w.heap.size w (wr.drewN nq)) := Below.drewN' HD.out
          clear hb s1 s2 c0 d0 HD
          go_wp2
          go_ret
          exact ⟨by rw [← HRR.out, HF.out]; rfl, HD2.out⟩
      · have hE : i = n := by omega
        subst hE
        have HF := Lib.hid (rowsC_all l m (by rw [HN.out, HK.out]) (by rw [HN.out]; exact HA.out))
        go_wp2
        go_ret
        exact ⟨by rw [← HRR.out, HF.out]; rfl, HD.out⟩
  · have HF := Lib.hid (rowsC_len l m (by rw [HN.out, HK.out]; exact hnk))
    have hz : ((n : Int) == (k : Int)) = false := by
      rw [beq_eq_false_iff_ne]
      omega
    go_wp2
    go_ret
    exact ⟨by rw [← HRR.out, HF.out]; rfl, Below.refl _ _⟩
end Go.Proofs.Yteckenlbelgknaa
