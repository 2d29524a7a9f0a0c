/-
  The document's paths: Made, the text of names.
-/
import Derived.Test.YtpadjcmcpkegpaaDoorY1
namespace Go.Proofs.YtpadjcmcpkegpaaDoor
open Go.RowKit

/-- Names, as texts. -/
def bas (l : List (List UInt8)) : List ByteArray := l.map fun x => ⟨x.toArray⟩
theorem bas_length (l : List (List UInt8)) : (bas l).length = l.length := by simp [bas]

theorem joinL_take (l : List (List UInt8)) (i : Nat) : (joinL (l.take i)).length ≤ (joinL l).length := by
  have h : joinL l = joinL (l.take i) ++ joinL (l.drop i) := by
    conv => lhs; rw [← List.take_append_drop i l]
    simp only [joinL, List.flatMap_append]
  rw [h]; simp
theorem joinL_next (l : List (List UInt8)) (i : Nat) (hi : i < l.length) (x : List UInt8) (hx : l.getD i [] = x) : joinL (l.take (i + 1)) = joinL (l.take i) ++ 47 :: x := by
  rw [List.take_add_one]
  have e : l[i]? = some x := by
    rw [List.getElem?_eq_getElem hi]
    congr 1
    rw [← hx, List.getD_eq_getElem?_getD, List.getElem?_eq_getElem hi]
    rfl
  rw [e]
  exact joinL_snoc _ _

theorem two_add (y x : List UInt8) : (⟨y.toArray⟩ : ByteArray) ++ ⟨#[47]⟩ ++ ⟨x.toArray⟩ = ⟨(y ++ 47 :: x).toArray⟩ := by
  apply ByteArray.ext
  simp [ByteArray.data_append]

set_option maxRecDepth 100000 in
set_option maxHeartbeats 1000000 in
theorem rfMade_any (l : List (List UInt8)) (v : Value) (w : World) (hr : RdS w.heap.size w v (bas l)) (hl : (joinL l).length ≤ 1000000) : Calls Tryd.prog 27 #[v] w (One (txt (madeL l)) w) := by
  obtain ⟨A, c, rfl, hc, hm⟩ := hr.shape
  unfold maxLen at hm
  rw [bas_length] at hc hr ⊢
  obtain ⟨n, hn⟩ : ∃ n, l.length = n := ⟨_, rfl⟩
  have HN := Lib.hid hn
  have HR := Lib.hid hr
  have HL := Lib.hid hl
  rw [hn] at hc HR ⊢
  clear hr hn hl
  go_enter Tryd.func27, Tryd.ntmps27
  go_wp2
  go_loop [3, 4] (fun o x => ∃ i : Nat, i ≤ n ∧ x = .int .i64 (i : Int) ∧ o = txt (joinL (l.take i))) (fun _ x => n - (intOf x).toNat)
  case atStart => exact ⟨0, by omega, rfl, rfl⟩
  case round =>
    obtain ⟨i, hi, rfl, rfl⟩ := hrel
    by_cases hi2 : i < n
    · have zi : (i : Int) < (n : Int) := by omega
      obtain ⟨a, hA, ca⟩ := HR.out.at_ i (by rw [bas_length, HN.out]; exact hi2)
      subst hA
      obtain ⟨x, hx⟩ : ∃ x, l.getD i [] = x := ⟨_, rfl⟩
      have ex : (bas l)[i]'(by rw [bas_length, HN.out]; exact hi2) = ⟨x.toArray⟩ := by
        simp only [bas, List.getElem_map]
        congr 2
        rw [← hx, List.getD_eq_getElem?_getD, List.getElem?_eq_getElem (by rw [HN.out]; exact hi2)]
        rfl
      rw [ex] at ca
      have HE := Lib.hid (joinL_next l i (by rw [HN.out]; exact hi2) x hx)
      have hq := joinL_take l (i + 1)
      rw [HE.out] at hq
      have hq2 := HL.out
      obtain ⟨y, hy⟩ : ∃ y, joinL (l.take i) = y := ⟨_, rfl⟩
      rw [hy] at hq HE ⊢
      simp only [List.length_append, List.length_cons] at hq
      have b1 : ¬ 9223372036854775807 < y.length + 1 := by omega
      have b2 : ¬ 9223372036854775807 < y.length + 1 + x.length := by omega
      clear hq hq2 hx ex
      go_wp2
      go_round
      case rel =>
        refine ⟨i + 1, by omega, by go_num, ?_⟩
        rw [HE.out]
        exact congrArg Value.string (two_add y x)
      case measure => simp [intOf]; omega
    · have hE : i = n := by omega
      subst hE
      have HT : l.take i = l := List.take_of_length_le (by rw [HN.out]; exact Nat.le_refl _)
      rw [HT] at *
      obtain ⟨y, hy⟩ : ∃ y, joinL l = y := ⟨_, rfl⟩
      have hy3 : madeL l = if y = [] then [47] else y := by unfold madeL; rw [hy]
      have HM := Lib.hid hy3
      rw [hy]
      clear hy hy3 HT
      by_cases hye : y = []
      · subst hye
        go_wp2
        go_ret
        exact ⟨by rw [HM.out]; rfl, Below.refl _ _⟩
      · have hz : y.isEmpty = false := by simpa using hye
        go_wp2
        go_ret
        exact ⟨by rw [HM.out, if_neg hye]; rfl, Below.refl _ _⟩
end Go.Proofs.YtpadjcmcpkegpaaDoor
