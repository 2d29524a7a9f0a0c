/-
  The program's shelves: where a new node belongs. Each theorem states its own conditions.
-/
import Derived.Test.YtlpakfaoaodaiaaDoorG9
namespace Go.Proofs.YtlpakfaoaodaiaaDoor
open Go.RowKit

set_option maxRecDepth 100000 in
set_option maxHeartbeats 4000000 in
/-- sort.Search, where the first m answers are no and all others yes. -/
theorem search_any (n m f : Nat) (lb : Array Value) (q : Nat → Bool) (w : World) (hn : n ≤ 100000) (hm : m ≤ n) (ef : ∀ args w, (callFunc f args).run Tryd.prog w = .ok (.enter f args) w)
    (hq : ∀ i, i < n → q i = decide (m ≤ i)) (hp : ∀ i W, i < n → Below w.heap.size w W → Calls Tryd.prog f (#[.int .i64 (i : Int)] ++ lb) W (One (.bool (q i)) W)) :
    Calls Tryd.prog 69 #[.int .i64 (n : Int), .func (.func f) #[] lb] w (One (.int .i64 (m : Int)) w) := by
  have HQ := Lib.hid hq
  have HP := Lib.hid hp
  clear hq hp
  go_enter Tryd.func69, Tryd.ntmps69
  go_wp2
  go_loopw [5, 6] (fun x y wr => ∃ lo hi : Nat, x = .int .i64 (lo : Int) ∧ y = .int .i64 (hi : Int) ∧ lo ≤ m ∧ m ≤ hi ∧ hi ≤ n ∧ Hid (Below w.heap.size w wr)) (fun x y _ => (intOf y).toNat - (intOf x).toNat)
  case atStart => exact ⟨0, n, rfl, rfl, by omega, hm, Nat.le_refl _, Below.refl _ _⟩
  case round =>
    obtain ⟨lo, hi, rfl, rfl, h1, h2, h3, HW⟩ := hrel
    by_cases hlt : lo < hi
    · have hltz : (lo : Int) < (hi : Int) := by omega
      have hc := HP.out ((lo + hi) / 2) wr (by omega) HW.out
      rw [HQ.out _ (by omega)] at hc
      rw [show (((lo + hi) / 2 : Nat) : Int) = ((lo : Int) + (hi : Int)) / 2 by omega] at hc
      by_cases hk : m ≤ (lo + hi) / 2
      · rw [decide_eq_true hk] at hc
        have HC := Lib.hid hc
        clear hc
        go_wp2_with (refine HC.out.mono ?_; rintro e w2 ⟨rfl, hb⟩)
        go_roundw
        case rel => exact ⟨lo, (lo + hi) / 2, rfl, by rw [show (((lo + hi) / 2 : Nat) : Int) = ((lo : Int) + (hi : Int)) / 2 by omega], h1, hk, by omega, HW.out.trans (hb.mono HW.out.size)⟩
        case measure => simp [intOf]; omega
      · rw [decide_eq_false hk] at hc
        have HC := Lib.hid hc
        clear hc
        go_wp2_with (refine HC.out.mono ?_; rintro e w2 ⟨rfl, hb⟩)
        go_roundw
        case rel => exact ⟨(lo + hi) / 2 + 1, hi, by rw [show (((lo + hi) / 2 + 1 : Nat) : Int) = ((lo : Int) + (hi : Int)) / 2 + 1 by omega], rfl, by omega, h2, h3, HW.out.trans (hb.mono HW.out.size)⟩
        case measure => simp [intOf]; omega
    · have hE : lo = m := by omega
      have hE2 : hi = m := by omega
      subst hE
      subst hE2
      go_wp2
      go_ret
      exact ⟨rfl, HW.out⟩

/-- Where the new node's place is. -/
def posN (l : List Nd) (p : List UInt8) : Nat := l.findIdx fun x => aheadB p (nP x)
theorem posN_le (l : List Nd) (p : List UInt8) : posN l p ≤ l.length := List.findIdx_le_length
theorem posN_at (l : List Nd) (p : List UInt8) (h : inOrder l) (i : Nat) (hi : i < l.length) : aheadB p (nP (l.getD i nd0)) = decide (posN l p ≤ i) := by
  have e : ∀ j (hj : j < l.length), l.getD j nd0 = l[j] := fun j hj => by rw [List.getD_eq_getElem?_getD, List.getElem?_eq_getElem hj]; rfl
  by_cases hk : posN l p ≤ i
  · rw [decide_eq_true hk]
    have hlt : posN l p < l.length := by omega
    have h0 : aheadB p (nP (l.getD (posN l p) nd0)) = true := by
      rw [e _ hlt]
      exact List.findIdx_getElem (w := hlt)
    by_cases heq : posN l p = i
    · rw [← heq]; exact h0
    · exact ahead_tr _ _ _ h0 (inOrder_at l h (posN l p) i (by omega) hi)
  · rw [decide_eq_false hk, e i hi]
    have := List.not_of_lt_findIdx (p := fun x : Nd => aheadB p (nP x)) (xs := l) (i := i) (by unfold posN at hk; omega)
    simpa using this
theorem insN_pos (n : Nd) : ∀ l : List Nd, insN n l = l.take (posN l (nP n)) ++ n :: l.drop (posN l (nP n))
  | [] => rfl
  | x :: r => by
    unfold insN posN
    rw [List.findIdx_cons]
    cases h : aheadB (nP n) (nP x)
    · rw [if_neg (by simp)]
      have := insN_pos n r
      unfold posN at this
      simp only [cond_false, List.take_succ_cons, List.drop_succ_cons, List.cons_append]
      rw [← this]
    · simp
end Go.Proofs.YtlpakfaoaodaiaaDoor
