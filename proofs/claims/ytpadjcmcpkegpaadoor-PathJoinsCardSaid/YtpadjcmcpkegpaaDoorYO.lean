/-
  The statements on paths: PathOrder.
-/
import Derived.Test.YtpadjcmcpkegpaaDoorYL
namespace Go.Proofs.YtpadjcmcpkegpaaDoor
open Go.RowKit

theorem ahead_self (p : List UInt8) : aheadB p p = false := by unfold aheadB; rw [aheadL_irrefl]; simp
theorem ahead_or (p q : List UInt8) (hp : rightB p = true) (hq : rightB q = true) (h : p ≠ q) : aheadB q p = !aheadB p q := by
  rw [aheadB_yes p q hp hq, aheadB_yes q p hq hp]
  exact aheadL_or _ _ (fun e => h (cut_inj p q (right_slash p hp) (right_slash q hq) e.symm))
theorem ahead_trans (p q r : List UInt8) (h : aheadB p q = true) (h2 : aheadB q r = true) : aheadB p r = true := by
  unfold aheadB at *
  simp only [Bool.and_eq_true] at *
  exact ⟨⟨h.1.1, h2.1.2⟩, aheadL_trans _ _ _ h.2 h2.2⟩
theorem below_ahead (p q : List UInt8) (h : belowB p q = true) : aheadB p q = true := by
  unfold aheadB belowB at *
  simp only [Bool.and_eq_true] at *
  exact ⟨h.1, belowL_ahead _ _ h.2⟩
theorem below_between (p q r : List UInt8) (h : aheadB p q = true) (h2 : aheadB q r = true) (h3 : belowB p r = true) : belowB p q = true := by
  unfold aheadB belowB at *
  simp only [Bool.and_eq_true] at *
  exact ⟨h.1, belowL_between _ _ _ h.2 h2.2 h3.2⟩

set_option maxRecDepth 100000 in
set_option maxHeartbeats 8000000 in
theorem order_all (p q r : List UInt8) (w : World) : Calls Tryd.prog 5 #[txt p, txt q, txt r] w (One (.bool true) w) := by
  obtain ⟨k, hk⟩ : ∃ k, p.length = k := ⟨_, rfl⟩
  obtain ⟨m, hm⟩ : ∃ m, q.length = m := ⟨_, rfl⟩
  obtain ⟨n, hn⟩ : ∃ n, r.length = n := ⟨_, rfl⟩
  have hpz : (⟨p.toArray⟩ : ByteArray).size = k := hk
  have hqz : (⟨q.toArray⟩ : ByteArray).size = m := hm
  have hrz : (⟨r.toArray⟩ : ByteArray).size = n := hn
  clear hk hm hn
  have HB : Hid (Below w.heap.size w w) := Below.refl _ _
  go_enter Tryd.func5, Tryd.ntmps5
  by_cases h1 : 1000 < (k : Int)
  · go_wp2_with fail
    first
      | refine (pxAhead_any _ _ _).mono ?_
      | refine (pxBelow_any _ _ _).mono ?_
      | refine (pxRight_any _ _).mono ?_
      | refine (alive8 _).mono ?_
    rintro e w9 ⟨rfl, hb9⟩
    have hs9 := HB.out.size
    replace HB := Lib.hid (HB.out.trans (hb9.mono hs9))
    clear hb9 hs9
    go_wp2
    go_ret
    exact ⟨rfl, HB.out⟩
  by_cases h2 : 1000 < (m : Int)
  · go_wp2_with fail
    first
      | refine (pxAhead_any _ _ _).mono ?_
      | refine (pxBelow_any _ _ _).mono ?_
      | refine (pxRight_any _ _).mono ?_
      | refine (alive8 _).mono ?_
    rintro e w9 ⟨rfl, hb9⟩
    have hs9 := HB.out.size
    replace HB := Lib.hid (HB.out.trans (hb9.mono hs9))
    clear hb9 hs9
    go_wp2
    go_ret
    exact ⟨rfl, HB.out⟩
  by_cases h3 : 1000 < (n : Int)
  · go_wp2_with fail
    first
      | refine (pxAhead_any _ _ _).mono ?_
      | refine (pxBelow_any _ _ _).mono ?_
      | refine (pxRight_any _ _).mono ?_
      | refine (alive8 _).mono ?_
    rintro e w9 ⟨rfl, hb9⟩
    have hs9 := HB.out.size
    replace HB := Lib.hid (HB.out.trans (hb9.mono hs9))
    clear hb9 hs9
    go_wp2
    go_ret
    exact ⟨rfl, HB.out⟩
  cases hp : rightB p
  · go_wp2_with fail
    first
      | refine (pxAhead_any _ _ _).mono ?_
      | refine (pxBelow_any _ _ _).mono ?_
      | refine (pxRight_any _ _).mono ?_
      | refine (alive8 _).mono ?_
    rintro e w9 ⟨rfl, hb9⟩
    have hs9 := HB.out.size
    replace HB := Lib.hid (HB.out.trans (hb9.mono hs9))
    clear hb9 hs9
    try simp only [hp]
    go_wp2_with fail
    first
      | refine (pxAhead_any _ _ _).mono ?_
      | refine (pxBelow_any _ _ _).mono ?_
      | refine (pxRight_any _ _).mono ?_
      | refine (alive8 _).mono ?_
    rintro e w9 ⟨rfl, hb9⟩
    have hs9 := HB.out.size
    replace HB := Lib.hid (HB.out.trans (hb9.mono hs9))
    clear hb9 hs9
    try simp only [hp]
    go_wp2
    go_ret
    exact ⟨rfl, HB.out⟩
  cases hq : rightB q
  · go_wp2_with fail
    first
      | refine (pxAhead_any _ _ _).mono ?_
      | refine (pxBelow_any _ _ _).mono ?_
      | refine (pxRight_any _ _).mono ?_
      | refine (alive8 _).mono ?_
    rintro e w9 ⟨rfl, hb9⟩
    have hs9 := HB.out.size
    replace HB := Lib.hid (HB.out.trans (hb9.mono hs9))
    clear hb9 hs9
    try simp only [hp]
    go_wp2_with fail
    first
      | refine (pxAhead_any _ _ _).mono ?_
      | refine (pxBelow_any _ _ _).mono ?_
      | refine (pxRight_any _ _).mono ?_
      | refine (alive8 _).mono ?_
    rintro e w9 ⟨rfl, hb9⟩
    have hs9 := HB.out.size
    replace HB := Lib.hid (HB.out.trans (hb9.mono hs9))
    clear hb9 hs9
    try simp only [hq]
    go_wp2_with fail
    first
      | refine (pxAhead_any _ _ _).mono ?_
      | refine (pxBelow_any _ _ _).mono ?_
      | refine (pxRight_any _ _).mono ?_
      | refine (alive8 _).mono ?_
    rintro e w9 ⟨rfl, hb9⟩
    have hs9 := HB.out.size
    replace HB := Lib.hid (HB.out.trans (hb9.mono hs9))
    clear hb9 hs9
    go_wp2
    go_ret
    exact ⟨rfl, HB.out⟩
  cases hr : rightB r
  · go_wp2_with fail
    first
      | refine (pxAhead_any _ _ _).mono ?_
      | refine (pxBelow_any _ _ _).mono ?_
      | refine (pxRight_any _ _).mono ?_
      | refine (alive8 _).mono ?_
    rintro e w9 ⟨rfl, hb9⟩
    have hs9 := HB.out.size
    replace HB := Lib.hid (HB.out.trans (hb9.mono hs9))
    clear hb9 hs9
    try simp only [hp]
    go_wp2_with fail
    first
      | refine (pxAhead_any _ _ _).mono ?_
      | refine (pxBelow_any _ _ _).mono ?_
      | refine (pxRight_any _ _).mono ?_
      | refine (alive8 _).mono ?_
    rintro e w9 ⟨rfl, hb9⟩
    have hs9 := HB.out.size
    replace HB := Lib.hid (HB.out.trans (hb9.mono hs9))
    clear hb9 hs9
    try simp only [hq]
    go_wp2_with fail
    first
      | refine (pxAhead_any _ _ _).mono ?_
      | refine (pxBelow_any _ _ _).mono ?_
      | refine (pxRight_any _ _).mono ?_
      | refine (alive8 _).mono ?_
    rintro e w9 ⟨rfl, hb9⟩
    have hs9 := HB.out.size
    replace HB := Lib.hid (HB.out.trans (hb9.mono hs9))
    clear hb9 hs9
    try simp only [hr]
    go_wp2_with fail
    first
      | refine (pxAhead_any _ _ _).mono ?_
      | refine (pxBelow_any _ _ _).mono ?_
      | refine (pxRight_any _ _).mono ?_
      | refine (alive8 _).mono ?_
    rintro e w9 ⟨rfl, hb9⟩
    have hs9 := HB.out.size
    replace HB := Lib.hid (HB.out.trans (hb9.mono hs9))
    clear hb9 hs9
    go_wp2
    go_ret
    exact ⟨rfl, HB.out⟩
  have e0 := ahead_self p
  have HO := Lib.hid (ahead_or p q hp hq)
  go_wp2_with fail
  first
    | refine (pxAhead_any _ _ _).mono ?_
    | refine (pxBelow_any _ _ _).mono ?_
    | refine (pxRight_any _ _).mono ?_
    | refine (alive8 _).mono ?_
  rintro e w9 ⟨rfl, hb9⟩
  have hs9 := HB.out.size
  replace HB := Lib.hid (HB.out.trans (hb9.mono hs9))
  clear hb9 hs9
  try simp only [hp]
  go_wp2_with fail
  first
    | refine (pxAhead_any _ _ _).mono ?_
    | refine (pxBelow_any _ _ _).mono ?_
    | refine (pxRight_any _ _).mono ?_
    | refine (alive8 _).mono ?_
  rintro e w9 ⟨rfl, hb9⟩
  have hs9 := HB.out.size
  replace HB := Lib.hid (HB.out.trans (hb9.mono hs9))
  clear hb9 hs9
  try simp only [hq]
  go_wp2_with fail
  first
    | refine (pxAhead_any _ _ _).mono ?_
    | refine (pxBelow_any _ _ _).mono ?_
    | refine (pxRight_any _ _).mono ?_
    | refine (alive8 _).mono ?_
  rintro e w9 ⟨rfl, hb9⟩
  have hs9 := HB.out.size
  replace HB := Lib.hid (HB.out.trans (hb9.mono hs9))
  clear hb9 hs9
  try simp only [hr]
  go_wp2_with fail
  first
    | refine (pxAhead_any _ _ _).mono ?_
    | refine (pxBelow_any _ _ _).mono ?_
    | refine (pxRight_any _ _).mono ?_
    | refine (alive8 _).mono ?_
  rintro e w9 ⟨rfl, hb9⟩
  have hs9 := HB.out.size
  replace HB := Lib.hid (HB.out.trans (hb9.mono hs9))
  clear hb9 hs9
  try simp only [e0]
  by_cases hpq : p = q
  · subst hpq
    have xx : (p == p) = true := by simp
    cases hpr : aheadB p r
    · cases hb : belowB p r
      · cases hbp : belowB p p
        · repeat (
              go_wp2_with fail
              first
                | refine (pxAhead_any _ _ _).mono ?_
                | refine (pxBelow_any _ _ _).mono ?_
                | refine (pxRight_any _ _).mono ?_
                | refine (alive8 _).mono ?_
              rintro e w9 ⟨rfl, hb9⟩
              have hs9 := HB.out.size
              replace HB := Lib.hid (HB.out.trans (hb9.mono hs9))
              clear hb9 hs9
              try simp only [e0, hpr, hb, hbp])
          go_wp2
          go_ret
          exact ⟨rfl, HB.out⟩
        · exfalso
          have := below_ahead p p hbp
          rw [e0] at this
          cases this
      · exfalso
        have := below_ahead p r hb
        rw [hpr] at this
        cases this
    · cases hb : belowB p r <;> cases hbp : belowB p p <;> first | (exfalso; have := below_ahead p p hbp; rw [e0] at this; cases this) | skip
      all_goals
        repeat (
            go_wp2_with fail
            first
              | refine (pxAhead_any _ _ _).mono ?_
              | refine (pxBelow_any _ _ _).mono ?_
              | refine (pxRight_any _ _).mono ?_
              | refine (alive8 _).mono ?_
            rintro e w9 ⟨rfl, hb9⟩
            have hs9 := HB.out.size
            replace HB := Lib.hid (HB.out.trans (hb9.mono hs9))
            clear hb9 hs9
            try simp only [e0, hpr, hb, hbp])
        go_wp2
        go_ret
        exact ⟨rfl, HB.out⟩
  · have xx := txt_ne p q hpq
    have e1 := HO.out hpq
    clear hpq HO
    cases hA : aheadB p q <;> rw [hA] at e1 <;> simp only [Bool.not_true, Bool.not_false] at e1 <;> cases hqr : aheadB q r <;> cases hpr : aheadB p r <;> cases hb : belowB p q <;> cases hbr : belowB p r
    all_goals first
      | (exfalso; have h := ahead_trans p q r hA hqr; rw [hpr] at h; exact absurd h (by decide))
      | (exfalso; have h := below_ahead p q hb; rw [hA] at h; exact absurd h (by decide))
      | (exfalso; have h := below_ahead p r hbr; rw [hpr] at h; exact absurd h (by decide))
      | (exfalso; have h := below_between p q r hA hqr hbr; rw [hb] at h; exact absurd h (by decide))
      | (repeat (
             go_wp2_with fail
             first
               | refine (pxAhead_any _ _ _).mono ?_
               | refine (pxBelow_any _ _ _).mono ?_
               | refine (pxRight_any _ _).mono ?_
               | refine (alive8 _).mono ?_
             rintro e w9 ⟨rfl, hb9⟩
             have hs9 := HB.out.size
             replace HB := Lib.hid (HB.out.trans (hb9.mono hs9))
             clear hb9 hs9
             try simp only [e0, e1, hA, hqr, hpr, hb, hbr])
         go_wp2
         go_ret
         exact ⟨rfl, HB.out⟩)
end Go.Proofs.YtpadjcmcpkegpaaDoor
