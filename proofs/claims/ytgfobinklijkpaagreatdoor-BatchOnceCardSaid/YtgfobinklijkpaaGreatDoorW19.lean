/-
  Texts NM.
-/
import Derived.Test.YtgfobinklijkpaaGreatDoorW01
import Derived.Test.YtgfobinklijkpaaGreatDoorW13
import Derived.Test.YtgfobinklijkpaaGreatDoorW18
namespace Go.Proofs.YtgfobinklijkpaaGreatDoor
set_option maxRecDepth 100000
set_option maxHeartbeats 16000000
open Go.RowKit
theorem flat_take (ls : List (List UInt8)) (i : Nat) (hi : i < ls.length) : (ls.take (i + 1)).flatten = (ls.take i).flatten ++ ls.getD i [] := by
 rw [List.take_succ_eq_append_getElem hi, List.flatten_append, List.getD_eq_getElem?_getD, List.getElem?_eq_getElem hi]
 simp
theorem flat_le (ls : List (List UInt8)) (i : Nat) : (ls.take i).flatten.length ≤ ls.flatten.length := by
 have h : ls.flatten = (ls.take i).flatten ++ (ls.drop i).flatten := by rw [← List.flatten_append, List.take_append_drop]
 rw [h, List.length_append]
 omega
theorem concat_any (vs : List SlT) (ls : List (List UInt8)) (v : Value) (w : World) (hv : RdE SlK w.heap.size w v vs) (he : vs.length = ls.length)
 (hr : ∀ j, j < ls.length → Rd w.heap.size w (slv (vs.getD j sl0)) (ls.getD j [])) (hl : ls.flatten.length ≤ 10000000) (hn : ls.length ≤ 100) :
 Calls Tryz.prog 65 #[v] w (Gives w.heap.size ls.flatten w) := by
 obtain ⟨i0, hI, hz0, hz1, hz2⟩ := info_parts info5
 obtain ⟨A, c, rfl, hc, hm⟩ := hv.shape
 obtain ⟨n, hn2⟩ : ∃ n, ls.length = n := ⟨_, rfl⟩
 rw [he, hn2] at hv hc ⊢
 rw [hn2] at hr hn
 have HV := lhd hv
 have HR := lhd hr
 have HN := lhd hn2
 have HE : Hid (vs.length = n) := he.trans hn2
 obtain ⟨T, hT⟩ : ∃ T, ls.flatten.length = T := ⟨_, rfl⟩
 rw [hT] at hl
 have HT := lhd hT
 unfold maxLen at hm
 clear hv hr hn2 hT he
 go_enter Tryz.func65, Tryz.ntmps65
 go_wp2
 go_loopw [3, 11] (fun s x wr => ∃ (i m : Nat), i ≤ n ∧ x = .int .i64 (i : Int) ∧ s = .int .i64 (m : Int) ∧ Hid (m = (ls.take i).flatten.length) ∧ Hid (m ≤ T) ∧ Hid (Below w.heap.size w wr)) (fun _ x _ => n - (intOf x).toNat)
 case atStart => exact ⟨0, 0, by omega, rfl, rfl, rfl, Nat.zero_le _, Below.refl _ _⟩
 case round =>
  obtain ⟨i, m, hi, rfl, rfl, HM, HMT, HB⟩ := hrel
  have hsz := HB.out.size
  by_cases hi2 : i < n
  ·have zi : (i : Int) < (n : Int) := by omega
   obtain ⟨a, hA, c0⟩ := (HV.out.below HB.out).atSl i (by rw [HE.out]; exact hi2)
   subst hA
   obtain ⟨A9, c9, hs9, hc9, hm9⟩ := (HR.out i hi2).shape
   obtain ⟨k9, hk9⟩ : ∃ k, (ls.getD i []).length = k := ⟨_, rfl⟩
   rw [hs9, hk9] at c0
   have h1 : m + k9 = (ls.take (i + 1)).flatten.length := by
    rw [flat_take ls i (by rw [HN.out]; exact hi2), List.length_append, hk9, HM.out]
   have h2 : m + k9 ≤ T := by rw [h1, ← HT.out]; exact flat_le ls (i + 1)
   have H1 := lhd h1
   have hp : (0 : Int) ≤ (m : Int) + (k9 : Int) := by omega
   have hp2 : ¬ ((m : Int) + (k9 : Int) < 0) := by omega
   clear hs9 hc9 hm9 hk9 h1 HM
   go_wp2
   go_roundw
   case rel => exact ⟨i + 1, m + k9, by omega, by go_num, by go_num, H1, h2, HB⟩
   case measure => first | (simp [intOf]; done) | (simp [intOf]; omega)
  ·obtain rfl : i = n := by omega
   have hmT := HMT.out
   have hm0 : (0 : Int) ≤ (m : Int) := by omega
   go_wp2_with fail
   refine (grow_nil m wr (by omega)).mono ?_
   rintro e w3 ⟨v3, rfl, hown3, hb3⟩
   have HO3 : Hid (Own 5 w3 w.heap.size v3 []) := hown3.base hsz
   have HB3 : Hid (Below w.heap.size w w3) := HB.out.trans (hb3.mono hsz)
   clear hown3 hb3 HB HM
   go_wp2
   go_loopw [6, 27] (fun o x wq => ∃ (j : Nat), j ≤ i ∧ x = .int .i64 (j : Int) ∧ Hid (Own 5 wq w.heap.size o (ls.take j).flatten) ∧ Hid (Below w.heap.size w wq)) (fun _ x _ => i - (intOf x).toNat)
   case atStart => exact ⟨0, by omega, rfl, HO3, HB3⟩
   case round =>
    obtain ⟨j, hj, rfl, HO, HB⟩ := hrel
    have hsq := HB.out.size
    by_cases hj2 : j < i
    ·have zj : (j : Int) < (i : Int) := by omega
     obtain ⟨a, hA, c0⟩ := (HV.out.below HB.out).atSl j (by rw [HE.out]; exact hj2)
     subst hA
     have HR9 := lhd ((HR.out j hj2).below HB.out)
     have h2 : (ls.take j).flatten.length + (ls.getD j []).length ≤ T := by
      rw [← List.length_append, ← flat_take ls j (by rw [HN.out]; exact hj2), ← HT.out]
      exact flat_le ls (j + 1)
     have H2 := lhd h2
     have HF := lhd (flat_take ls j (by rw [HN.out]; exact hj2))
     obtain ⟨A9, c9, hs9, hc9, hm9⟩ := (HR.out j hj2).shape
     obtain ⟨l9, hl9⟩ : ∃ k, ls.getD j [] = k := ⟨_, rfl⟩
     rw [hs9] at c0 HR9
     rw [hl9] at HR9 H2 HF c0
     clear hs9 hc9 hm9 hl9 h2
     go_wp2_with (at_builtin; refine wpList_app rfl _ _ 92 rfl 5 i0 Tryz.underlying92 hI hz0 hz1 hz2 w.heap.size w.heap.size _ _ (ls.take j).flatten l9 rfl HO.out rfl HR9.out ?c1 hsq ?_)
     case c1 => have := H2.out; omega
     intro v' w5 h5 hb5
     have HO5 : Hid (Own 5 w5 w.heap.size v' (ls.take (j + 1)).flatten) := by
      show Own _ _ _ _ _
      rw [HF.out]
      exact h5
     have HB5 := lhd (HB.out.trans hb5)
     clear h5 hb5
     go_wp2
     go_roundw
     case rel => exact ⟨j + 1, by omega, by go_num, HO5, HB5⟩
     case measure => first | (simp [intOf]; done) | (simp [intOf]; omega)
    ·obtain rfl : j = i := by omega
     go_wp2
     go_ret
     refine ⟨_, rfl, ?_, HB.out⟩
     have h := HO.out
     rw [← HN.out, List.take_length] at h
     exact h
theorem numbers_any (v : Value) (ns : List Int) (w : World) (hv : RdE InK w.heap.size w v ns) (hf : ∀ n ∈ ns, fit64 n) (hn : ns.length ≤ 100) :
 Calls Tryz.prog 66 #[v] w (Gives w.heap.size (encIs ns) w) := by
 obtain ⟨A, c, rfl, hc, hm⟩ := hv.shape
 obtain ⟨n, hn2⟩ : ∃ n, ns.length = n := ⟨_, rfl⟩
 rw [hn2] at hv hc hn ⊢
 have HV := lhd hv
 have HF := lhd hf
 have HN := lhd hn2
 unfold maxLen at hm
 clear hv hf hn2
 go_enter Tryz.func66, Tryz.ntmps66
 go_wp2
 go_loopw [3, 8] (fun o x wr => ∃ (i : Nat), i ≤ n ∧ x = .int .i64 (i : Int) ∧ Hid (Own 5 wr w.heap.size o (encIs (ns.take i))) ∧ Hid (Below w.heap.size w wr)) (fun _ x _ => n - (intOf x).toNat)
 case atStart => exact ⟨0, by omega, rfl, Own.nil _ _ _, Below.refl _ _⟩
 case round =>
  obtain ⟨i, hi, rfl, HO, HB⟩ := hrel
  have hsz := HB.out.size
  by_cases hi2 : i < n
  ·have zi : (i : Int) < (n : Int) := by omega
   obtain ⟨a, hA, c0⟩ := (HV.out.below HB.out).at1 i (by rw [HN.out]; exact hi2)
   subst hA
   have hlt : i < ns.length := by rw [HN.out]; exact hi2
   obtain ⟨n9, hn9⟩ : ∃ x, ns.getD i 0 = x := ⟨_, rfl⟩
   have HT := lhd (encIs_take ns i hlt)
   have HF9 : Hid (fit64 n9) := by
    show fit64 _
    rw [← hn9, List.getD_eq_getElem?_getD, List.getElem?_eq_getElem hlt]
    exact HF.out _ (List.getElem_mem _)
   rw [hn9] at c0 HT
   have HLL : Hid ((encIs (ns.take i)).length ≤ 900) := by
    show _ ≤ _
    have h1 := encIs_len (ns.take i)
    have h2 := List.length_take_le i ns
    omega
   clear hn9
   go_wp2_with fail
   refine (int_any u3 (encIs (ns.take i)) n9 wr HO.out.rd HF9.out.1 HF9.out.2 (by have := HLL.out; omega)).mono ?_
   rintro e w3 ⟨v3, rfl, hown, hb⟩
   have HO3 : Hid (Own 5 w3 w.heap.size v3 (encIs (ns.take (i + 1)))) := by
    show Own _ _ _ _ _
    rw [HT.out]
    exact hown.base hsz
   have HB3 := lhd (HB.out.trans (hb.mono hsz))
   clear hown hb
   go_wp2
   go_roundw
   case rel => exact ⟨i + 1, by omega, by go_num, HO3, HB3⟩
   case measure => first | (simp [intOf]; done) | (simp [intOf]; omega)
  ·obtain rfl : i = n := by omega
   go_wp2
   go_ret
   refine ⟨_, rfl, ?_, HB.out⟩
   have h := HO.out
   rw [← HN.out, List.take_length] at h
   exact h
end Go.Proofs.YtgfobinklijkpaaGreatDoor
