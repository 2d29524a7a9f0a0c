/-
  The statements on paths: PathJoins.
-/
import Derived.Test.YtpadjcmcpkegpaaDoorYP
namespace Go.Proofs.YtpadjcmcpkegpaaDoor
open Go.RowKit

set_option maxRecDepth 100000 in
set_option maxHeartbeats 8000000 in
theorem joins_all (p nm : List UInt8) (w : World) : Calls Tryd.prog 6 #[txt p, txt nm] w (One (.bool true) w) := by
  obtain ⟨m, hm⟩ : ∃ m, p.length = m := ⟨_, rfl⟩
  obtain ⟨n, hn⟩ : ∃ n, nm.length = n := ⟨_, rfl⟩
  have hpz : (⟨p.toArray⟩ : ByteArray).size = m := hm
  have hqz : (⟨nm.toArray⟩ : ByteArray).size = n := hn
  have HM := Lib.hid hm
  have HN := Lib.hid hn
  clear hm hn
  have HB : Hid (Below w.heap.size w w) := Below.refl _ _
  have HXL := Lib.hid (show (0 : Nat) = 0 from rfl)
  have HQ := HXL
  go_enter Tryd.func6, Tryd.ntmps6
  by_cases h1 : 1000 < (m : Int)
  · go_wp2_with fail
    first
      | refine (pxJoin_any _ _ _ HQ.out).mono ?_
      | refine (pxJoin_any _ _ _ HXL.out).mono ?_
      | refine (pxParent_any _ _).mono ?_
      | refine (pxBelow_any _ _ _).mono ?_
      | refine (pxRight_any _ _).mono ?_
      | refine (pxName_any _ _ HQ.out).mono ?_
      | refine (alive8 _).mono ?_
    rintro e w9 ⟨rfl, hb9⟩
    have hs9 := HB.out.size
    replace HB := Lib.hid (HB.out.trans (hb9.mono hs9))
    clear hb9 hs9
    go_wp2
    go_ret
    exact ⟨rfl, HB.out⟩
  by_cases h2 : 1000 < (n : Int)
  · go_wp2_with fail
    first
      | refine (pxJoin_any _ _ _ HQ.out).mono ?_
      | refine (pxJoin_any _ _ _ HXL.out).mono ?_
      | refine (pxParent_any _ _).mono ?_
      | refine (pxBelow_any _ _ _).mono ?_
      | refine (pxRight_any _ _).mono ?_
      | refine (pxName_any _ _ HQ.out).mono ?_
      | refine (alive8 _).mono ?_
    rintro e w9 ⟨rfl, hb9⟩
    have hs9 := HB.out.size
    replace HB := Lib.hid (HB.out.trans (hb9.mono hs9))
    clear hb9 hs9
    go_wp2
    go_ret
    exact ⟨rfl, HB.out⟩
  clear HQ
  have HQ := Lib.hid (show nm.length ≤ 1000000 by rw [HN.out]; omega)
  go_wp2_with fail
  refine (pxNames_any p w).mono ?_
  rintro e w1 ⟨v, rfl, ho, hb⟩
  have hs1 := hb.size
  clear HB
  have HB := Lib.hid hb
  clear hb
  have xx : (p == p) = true := by simp
  cases hR : rightB p
  · obtain ⟨n1, n2⟩ := names_not p hR
    obtain ⟨p1, p2⟩ := parent_not p hR
    obtain ⟨j1, j2⟩ := join_not p nm (by simp [joinOk, hR])
    clear ho
    rw [n2]
    go_wp2_with fail
    first
      | refine (pxJoin_any _ _ _ HQ.out).mono ?_
      | refine (pxJoin_any _ _ _ HXL.out).mono ?_
      | refine (pxParent_any _ _).mono ?_
      | refine (pxBelow_any _ _ _).mono ?_
      | refine (pxRight_any _ _).mono ?_
      | refine (pxName_any _ _ HQ.out).mono ?_
      | refine (alive8 _).mono ?_
    rintro e w9 ⟨rfl, hb9⟩
    have hs9 := HB.out.size
    replace HB := Lib.hid (HB.out.trans (hb9.mono hs9))
    clear hb9 hs9
    try simp only [p1, p2]
    go_wp2_with fail
    first
      | refine (pxJoin_any _ _ _ HQ.out).mono ?_
      | refine (pxJoin_any _ _ _ HXL.out).mono ?_
      | refine (pxParent_any _ _).mono ?_
      | refine (pxBelow_any _ _ _).mono ?_
      | refine (pxRight_any _ _).mono ?_
      | refine (pxName_any _ _ HQ.out).mono ?_
      | refine (alive8 _).mono ?_
    rintro e w9 ⟨rfl, hb9⟩
    have hs9 := HB.out.size
    replace HB := Lib.hid (HB.out.trans (hb9.mono hs9))
    clear hb9 hs9
    try simp only [hR]
    go_wp2_with fail
    first
      | refine (pxJoin_any _ _ _ HQ.out).mono ?_
      | refine (pxJoin_any _ _ _ HXL.out).mono ?_
      | refine (pxParent_any _ _).mono ?_
      | refine (pxBelow_any _ _ _).mono ?_
      | refine (pxRight_any _ _).mono ?_
      | refine (pxName_any _ _ HQ.out).mono ?_
      | refine (alive8 _).mono ?_
    rintro e w9 ⟨rfl, hb9⟩
    have hs9 := HB.out.size
    replace HB := Lib.hid (HB.out.trans (hb9.mono hs9))
    clear hb9 hs9
    try simp only [j1, j2]
    go_wp2_with fail
    first
      | refine (pxJoin_any _ _ _ HQ.out).mono ?_
      | refine (pxJoin_any _ _ _ HXL.out).mono ?_
      | refine (pxParent_any _ _).mono ?_
      | refine (pxBelow_any _ _ _).mono ?_
      | refine (pxRight_any _ _).mono ?_
      | refine (pxName_any _ _ HQ.out).mono ?_
      | refine (alive8 _).mono ?_
    rintro e w9 ⟨rfl, hb9⟩
    have hs9 := HB.out.size
    replace HB := Lib.hid (HB.out.trans (hb9.mono hs9))
    clear hb9 hs9
    go_wp2
    go_ret
    exact ⟨rfl, HB.out⟩
  · obtain ⟨n1, n2⟩ := names_yes p hR
    have HR := Lib.hid hR
    rw [n2]
    rw [n1] at ho
    have hr := ho.rd
    obtain ⟨A, cp, rfl, hc, hm⟩ := hr.shape
    unfold maxLen at hm
    rw [bas_length] at hc hr ⊢
    clear ho n1 n2
    by_cases h0 : cutL p = []
    · obtain ⟨p1, p2⟩ := parent_root p hR h0
      have hz : (cutL p).length = 0 := by rw [h0]; rfl
      rw [hz] at hc ⊢
      clear hr h0
      cases hj : joinOk p nm
      · obtain ⟨j1, j2⟩ := join_not p nm hj
        go_wp2_with fail
        first
          | refine (pxJoin_any _ _ _ HQ.out).mono ?_
            | refine (pxParent_any _ _).mono ?_
          | refine (pxBelow_any _ _ _).mono ?_
          | refine (pxRight_any _ _).mono ?_
          | refine (pxName_any _ _ HQ.out).mono ?_
          | refine (alive8 _).mono ?_
        rintro e w9 ⟨rfl, hb9⟩
        have hs9 := HB.out.size
        replace HB := Lib.hid (HB.out.trans (hb9.mono hs9))
        clear hb9 hs9
        try simp only [p1, p2]
        go_wp2_with fail
        first
          | refine (pxJoin_any _ _ _ HQ.out).mono ?_
            | refine (pxParent_any _ _).mono ?_
          | refine (pxBelow_any _ _ _).mono ?_
          | refine (pxRight_any _ _).mono ?_
          | refine (pxName_any _ _ HQ.out).mono ?_
          | refine (alive8 _).mono ?_
        rintro e w9 ⟨rfl, hb9⟩
        have hs9 := HB.out.size
        replace HB := Lib.hid (HB.out.trans (hb9.mono hs9))
        clear hb9 hs9
        try simp only [hR]
        go_wp2_with fail
        first
          | refine (pxJoin_any _ _ _ HQ.out).mono ?_
            | refine (pxParent_any _ _).mono ?_
          | refine (pxBelow_any _ _ _).mono ?_
          | refine (pxRight_any _ _).mono ?_
          | refine (pxName_any _ _ HQ.out).mono ?_
          | refine (alive8 _).mono ?_
        rintro e w9 ⟨rfl, hb9⟩
        have hs9 := HB.out.size
        replace HB := Lib.hid (HB.out.trans (hb9.mono hs9))
        clear hb9 hs9
        try simp only [j1, j2]
        go_wp2_with fail
        first
          | refine (pxJoin_any _ _ _ HQ.out).mono ?_
            | refine (pxParent_any _ _).mono ?_
          | refine (pxBelow_any _ _ _).mono ?_
          | refine (pxRight_any _ _).mono ?_
          | refine (pxName_any _ _ HQ.out).mono ?_
          | refine (alive8 _).mono ?_
        rintro e w9 ⟨rfl, hb9⟩
        have hs9 := HB.out.size
        replace HB := Lib.hid (HB.out.trans (hb9.mono hs9))
        clear hb9 hs9
        go_wp2
        go_ret
        exact ⟨rfl, HB.out⟩
      · obtain ⟨j2, q1, q2, q3, q4, q5⟩ := joined p nm hj
        obtain ⟨q, hq⟩ : ∃ q, joinS p nm = q := ⟨_, rfl⟩
        rw [hq] at q1 q2 q3 q4
        go_wp2_with fail
        first
          | refine (pxJoin_any _ _ _ HQ.out).mono ?_
            | refine (pxParent_any _ _).mono ?_
          | refine (pxBelow_any _ _ _).mono ?_
          | refine (pxRight_any _ _).mono ?_
          | refine (pxName_any _ _ HQ.out).mono ?_
          | refine (alive8 _).mono ?_
        rintro e w9 ⟨rfl, hb9⟩
        have hs9 := HB.out.size
        replace HB := Lib.hid (HB.out.trans (hb9.mono hs9))
        clear hb9 hs9
        try simp only [p1, p2]
        go_wp2_with fail
        first
          | refine (pxJoin_any _ _ _ HQ.out).mono ?_
            | refine (pxParent_any _ _).mono ?_
          | refine (pxBelow_any _ _ _).mono ?_
          | refine (pxRight_any _ _).mono ?_
          | refine (pxName_any _ _ HQ.out).mono ?_
          | refine (alive8 _).mono ?_
        rintro e w9 ⟨rfl, hb9⟩
        have hs9 := HB.out.size
        replace HB := Lib.hid (HB.out.trans (hb9.mono hs9))
        clear hb9 hs9
        try simp only [hR]
        go_wp2_with fail
        first
          | refine (pxJoin_any _ _ _ HQ.out).mono ?_
            | refine (pxParent_any _ _).mono ?_
          | refine (pxBelow_any _ _ _).mono ?_
          | refine (pxRight_any _ _).mono ?_
          | refine (pxName_any _ _ HQ.out).mono ?_
          | refine (alive8 _).mono ?_
        rintro e w9 ⟨rfl, hb9⟩
        have hs9 := HB.out.size
        replace HB := Lib.hid (HB.out.trans (hb9.mono hs9))
        clear hb9 hs9
        try simp only [hq, j2]
        go_wp2_with fail
        first
          | refine (pxJoin_any _ _ _ HQ.out).mono ?_
            | refine (pxParent_any _ _).mono ?_
          | refine (pxBelow_any _ _ _).mono ?_
          | refine (pxRight_any _ _).mono ?_
          | refine (pxName_any _ _ HQ.out).mono ?_
          | refine (alive8 _).mono ?_
        rintro e w9 ⟨rfl, hb9⟩
        have hs9 := HB.out.size
        replace HB := Lib.hid (HB.out.trans (hb9.mono hs9))
        clear hb9 hs9
        try simp only [q1, q2]
        go_wp2_with fail
        first
          | refine (pxJoin_any _ _ _ HQ.out).mono ?_
            | refine (pxParent_any _ _).mono ?_
          | refine (pxBelow_any _ _ _).mono ?_
          | refine (pxRight_any _ _).mono ?_
          | refine (pxName_any _ _ HQ.out).mono ?_
          | refine (alive8 _).mono ?_
        rintro e w9 ⟨rfl, hb9⟩
        have hs9 := HB.out.size
        replace HB := Lib.hid (HB.out.trans (hb9.mono hs9))
        clear hb9 hs9
        go_wp2_with fail
        first
          | refine (pxJoin_any _ _ _ HQ.out).mono ?_
            | refine (pxParent_any _ _).mono ?_
          | refine (pxBelow_any _ _ _).mono ?_
          | refine (pxRight_any _ _).mono ?_
          | refine (pxName_any _ _ HQ.out).mono ?_
          | refine (alive8 _).mono ?_
        rintro e w9 ⟨rfl, hb9⟩
        have hs9 := HB.out.size
        replace HB := Lib.hid (HB.out.trans (hb9.mono hs9))
        clear hb9 hs9
        try simp only [q3]
        go_wp2_with fail
        first
          | refine (pxJoin_any _ _ _ HQ.out).mono ?_
            | refine (pxParent_any _ _).mono ?_
          | refine (pxBelow_any _ _ _).mono ?_
          | refine (pxRight_any _ _).mono ?_
          | refine (pxName_any _ _ HQ.out).mono ?_
          | refine (alive8 _).mono ?_
        rintro e w9 ⟨rfl, hb9⟩
        have hs9 := HB.out.size
        replace HB := Lib.hid (HB.out.trans (hb9.mono hs9))
        clear hb9 hs9
        try simp only [q4]
        go_wp2_with fail
        first
          | refine (pxJoin_any _ _ _ HQ.out).mono ?_
            | refine (pxParent_any _ _).mono ?_
          | refine (pxBelow_any _ _ _).mono ?_
          | refine (pxRight_any _ _).mono ?_
          | refine (pxName_any _ _ HQ.out).mono ?_
          | refine (alive8 _).mono ?_
        rintro e w9 ⟨rfl, hb9⟩
        have hs9 := HB.out.size
        replace HB := Lib.hid (HB.out.trans (hb9.mono hs9))
        clear hb9 hs9
        try simp only [q5]
        go_wp2
        go_ret
        exact ⟨rfl, HB.out⟩
    · obtain ⟨p1, p2⟩ := parent_yes p hR h0
      obtain ⟨k, hk⟩ : ∃ k, (cutL p).length = k + 1 := ⟨(cutL p).length - 1, by have : (cutL p).length ≠ 0 := fun h => h0 (List.eq_nil_of_length_eq_zero h); omega⟩
      obtain ⟨x, hx⟩ : ∃ x, (cutL p).getD k [] = x := ⟨_, rfl⟩
      have hst := step_made p hR k (by omega) x hx
      have ht : (cutL p).take (k + 1) = cutL p := List.take_of_length_le (by omega)
      rw [ht, made_cut p (right_slash p hR)] at hst
      have hxm := (take_next (cutL p) k (by omega) x hx).2
      have hxl : x.length ≤ 1000000 := by
        have h1 := cutL_len p x hxm
        have h2 := (rightB_len p hR).1
        omega
      clear HXL
      have HXL := Lib.hid hxl
      rw [hk, Nat.add_sub_cancel] at p1
      obtain ⟨a, hA, ca⟩ := hr.at_ k (by rw [bas_length]; omega)
      subst hA
      have HCA : Hid (∀ w', Below w1.heap.size w1 w' → w'.cell? (a.add k) = some (Value.string ⟨x.toArray⟩)) := by
        intro w' hb'
        obtain ⟨a', ha', h⟩ := (hr.below hb').at_ k (by rw [bas_length]; omega)
        injection ha' with ha'
        subst ha'
        rw [h, bas_at (cutL p) k (by omega) x hx]
      have h8 := (rightB_len p hR).2.2.2
      obtain ⟨K, hK⟩ : ∃ K : Nat, k + 1 = K := ⟨_, rfl⟩
      rw [hk, hK] at h8 hc ⊢
      have hne : ((K : Int) == 0) = false := by
        rw [beq_eq_false_iff_ne]
        omega
      have hlt : (k : Int) < (K : Int) := by omega
      have hi1 : (K : Int) - 1 = (k : Int) := by omega
      obtain ⟨u, hu⟩ : ∃ u, madeL ((cutL p).take k) = u := ⟨_, rfl⟩
      rw [hu] at hst p1
      obtain ⟨-, s1, s2, s3⟩ := hst
      have HBw := HB
      clear HB
      have HB : Hid (Below w1.heap.size w1 w1) := Below.refl _ _
      clear hr h0 hxm hxl hx ht hk hu ca hK h8
      go_wp2_with fail
      first
        | refine (pxJoin_any _ _ _ HQ.out).mono ?_
        | refine (pxParent_any _ _).mono ?_
        | refine (pxBelow_any _ _ _).mono ?_
        | refine (pxRight_any _ _).mono ?_
        | refine (pxName_any _ _ HQ.out).mono ?_
        | refine (alive8 _).mono ?_
      rintro e w9 ⟨rfl, hb9⟩
      have hs9 := HB.out.size
      replace HB := Lib.hid (HB.out.trans (hb9.mono hs9))
      clear hb9 hs9
      try simp only [p1, p2]
      go_wp2_with fail
      first
        | refine (pxJoin_any _ _ _ HQ.out).mono ?_
        | refine (pxParent_any _ _).mono ?_
        | refine (pxBelow_any _ _ _).mono ?_
        | refine (pxRight_any _ _).mono ?_
        | refine (pxName_any _ _ HQ.out).mono ?_
        | refine (alive8 _).mono ?_
      rintro e w9 ⟨rfl, hb9⟩
      have hs9 := HB.out.size
      replace HB := Lib.hid (HB.out.trans (hb9.mono hs9))
      clear hb9 hs9
      try simp only [hR]
      have cb := HCA.out _ HB.out
      go_wp2_with fail
      refine (pxJoin_any u x _ HXL.out).mono ?_
      rintro e w9 ⟨rfl, hb9⟩
      have hs9 := HB.out.size
      replace HB := Lib.hid (HB.out.trans (hb9.mono hs9))
      clear hb9 hs9
      try simp only [s1, s2]
      clear cb hi1 hlt hne hc hm
      go_wp2_with fail
      first
        | refine (pxJoin_any _ _ _ HQ.out).mono ?_
        | refine (pxParent_any _ _).mono ?_
        | refine (pxBelow_any _ _ _).mono ?_
        | refine (pxRight_any _ _).mono ?_
        | refine (pxName_any _ _ HQ.out).mono ?_
        | refine (alive8 _).mono ?_
      rintro e w9 ⟨rfl, hb9⟩
      have hs9 := HB.out.size
      replace HB := Lib.hid (HB.out.trans (hb9.mono hs9))
      clear hb9 hs9
      try simp only [s3]
      cases hj : joinOk p nm
      · obtain ⟨j1, j2⟩ := join_not p nm hj
        go_wp2_with fail
        first
          | refine (pxJoin_any _ _ _ HQ.out).mono ?_
            | refine (pxParent_any _ _).mono ?_
          | refine (pxBelow_any _ _ _).mono ?_
          | refine (pxRight_any _ _).mono ?_
          | refine (pxName_any _ _ HQ.out).mono ?_
          | refine (alive8 _).mono ?_
        rintro e w9 ⟨rfl, hb9⟩
        have hs9 := HB.out.size
        replace HB := Lib.hid (HB.out.trans (hb9.mono hs9))
        clear hb9 hs9
        try simp only [j1, j2]
        go_wp2_with fail
        first
          | refine (pxJoin_any _ _ _ HQ.out).mono ?_
            | refine (pxParent_any _ _).mono ?_
          | refine (pxBelow_any _ _ _).mono ?_
          | refine (pxRight_any _ _).mono ?_
          | refine (pxName_any _ _ HQ.out).mono ?_
          | refine (alive8 _).mono ?_
        rintro e w9 ⟨rfl, hb9⟩
        have hs9 := HB.out.size
        replace HB := Lib.hid (HB.out.trans (hb9.mono hs9))
        clear hb9 hs9
        go_wp2
        go_ret
        exact ⟨rfl, HBw.out.trans (HB.out.mono hs1)⟩
      · obtain ⟨j2, q1, q2, q3, q4, q5⟩ := joined p nm hj
        obtain ⟨q, hq⟩ : ∃ q, joinS p nm = q := ⟨_, rfl⟩
        rw [hq] at q1 q2 q3 q4
        go_wp2_with fail
        first
          | refine (pxJoin_any _ _ _ HQ.out).mono ?_
            | refine (pxParent_any _ _).mono ?_
          | refine (pxBelow_any _ _ _).mono ?_
          | refine (pxRight_any _ _).mono ?_
          | refine (pxName_any _ _ HQ.out).mono ?_
          | refine (alive8 _).mono ?_
        rintro e w9 ⟨rfl, hb9⟩
        have hs9 := HB.out.size
        replace HB := Lib.hid (HB.out.trans (hb9.mono hs9))
        clear hb9 hs9
        try simp only [hq, j2]
        go_wp2_with fail
        first
          | refine (pxJoin_any _ _ _ HQ.out).mono ?_
            | refine (pxParent_any _ _).mono ?_
          | refine (pxBelow_any _ _ _).mono ?_
          | refine (pxRight_any _ _).mono ?_
          | refine (pxName_any _ _ HQ.out).mono ?_
          | refine (alive8 _).mono ?_
        rintro e w9 ⟨rfl, hb9⟩
        have hs9 := HB.out.size
        replace HB := Lib.hid (HB.out.trans (hb9.mono hs9))
        clear hb9 hs9
        try simp only [q1, q2]
        go_wp2_with fail
        first
          | refine (pxJoin_any _ _ _ HQ.out).mono ?_
            | refine (pxParent_any _ _).mono ?_
          | refine (pxBelow_any _ _ _).mono ?_
          | refine (pxRight_any _ _).mono ?_
          | refine (pxName_any _ _ HQ.out).mono ?_
          | refine (alive8 _).mono ?_
        rintro e w9 ⟨rfl, hb9⟩
        have hs9 := HB.out.size
        replace HB := Lib.hid (HB.out.trans (hb9.mono hs9))
        clear hb9 hs9
        go_wp2_with fail
        first
          | refine (pxJoin_any _ _ _ HQ.out).mono ?_
            | refine (pxParent_any _ _).mono ?_
          | refine (pxBelow_any _ _ _).mono ?_
          | refine (pxRight_any _ _).mono ?_
          | refine (pxName_any _ _ HQ.out).mono ?_
          | refine (alive8 _).mono ?_
        rintro e w9 ⟨rfl, hb9⟩
        have hs9 := HB.out.size
        replace HB := Lib.hid (HB.out.trans (hb9.mono hs9))
        clear hb9 hs9
        try simp only [q3]
        go_wp2_with fail
        first
          | refine (pxJoin_any _ _ _ HQ.out).mono ?_
            | refine (pxParent_any _ _).mono ?_
          | refine (pxBelow_any _ _ _).mono ?_
          | refine (pxRight_any _ _).mono ?_
          | refine (pxName_any _ _ HQ.out).mono ?_
          | refine (alive8 _).mono ?_
        rintro e w9 ⟨rfl, hb9⟩
        have hs9 := HB.out.size
        replace HB := Lib.hid (HB.out.trans (hb9.mono hs9))
        clear hb9 hs9
        try simp only [q4]
        go_wp2_with fail
        first
          | refine (pxJoin_any _ _ _ HQ.out).mono ?_
            | refine (pxParent_any _ _).mono ?_
          | refine (pxBelow_any _ _ _).mono ?_
          | refine (pxRight_any _ _).mono ?_
          | refine (pxName_any _ _ HQ.out).mono ?_
          | refine (alive8 _).mono ?_
        rintro e w9 ⟨rfl, hb9⟩
        have hs9 := HB.out.size
        replace HB := Lib.hid (HB.out.trans (hb9.mono hs9))
        clear hb9 hs9
        try simp only [q5]
        go_wp2
        go_ret
        exact ⟨rfl, HBw.out.trans (HB.out.mono hs1)⟩
end Go.Proofs.YtpadjcmcpkegpaaDoor
