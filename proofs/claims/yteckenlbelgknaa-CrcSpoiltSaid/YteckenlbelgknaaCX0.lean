/-
  One byte of frames that is another one, in plain terms; rows of byte slices, cut. Each theorem states its own conditions.
-/
import Derived.Test.YteckenlbelgknaaCQ
import Derived.Test.YteckenlbelgknaaCU
namespace Go.Proofs.Yteckenlbelgknaa
open Go.RowKit

theorem frames_split (l : List (List UInt8)) (j : Nat) (hj : j < l.length) : framesC l = framesC (l.take j) ++ (frameC (l.getD j []) ++ framesC (l.drop (j + 1))) := by
  have e : l = l.take j ++ (l.getD j [] :: l.drop (j + 1)) := by
    have h : l.getD j [] = l[j] := by rw [List.getD_eq_getElem?_getD, List.getElem?_eq_getElem hj]; rfl
    rw [h, List.getElem_cons_drop, List.take_append_drop]
  have h2 : framesC l = framesC (l.take j ++ (l.getD j [] :: l.drop (j + 1))) := congrArg framesC e
  rw [h2]
  simp [framesC]
theorem frames_step (l : List (List UInt8)) (i : Nat) (hi : i < l.length) : framesC (l.take i) ++ frameC (l.getD i []) = framesC (l.take (i + 1)) := by
  rw [List.take_succ_eq_append_getElem hi, frames_snoc]
  congr 2
  rw [List.getD_eq_getElem?_getD, List.getElem?_eq_getElem hi]
  rfl
/-- The frames ahead of the spoilt one are found. -/
theorem scan_set (l : List (List UInt8)) (j k : Nat) (y : UInt8) (hj : j < l.length) (hl : ∀ x ∈ l, x.length ≤ 100000) (hg : (framesC (l.take j)).length ≤ k) (hk : k < (framesC (l.take j)).length + longC (l.getD j []).length)
    (hp : k = (framesC (l.take j)).length ∨ (framesC (l.take j)).length + (2 + wid (l.getD j []).length) ≤ k) (hy : y ≠ 0) : k < (framesC l).length ∧ scanC ((framesC l).set k ((framesC l).getD k 0 ^^^ y)) = (l.take j, (framesC (l.take j)).length) := by
  obtain ⟨P, hP⟩ : ∃ q, framesC (l.take j) = q := ⟨_, rfl⟩
  obtain ⟨d, hd⟩ : ∃ q, l.getD j [] = q := ⟨_, rfl⟩
  have hsp := frames_split l j hj
  rw [hP, hd] at hsp hk
  rw [hP] at hg
  rw [hP, hd] at hp
  have hfl := frameC_len d
  have hkk : k - P.length < (frameC d).length := by omega
  refine ⟨by rw [hsp, List.length_append, List.length_append]; omega, ?_⟩
  have hgd : (framesC l).getD k 0 = (frameC d).getD (k - P.length) 0 := by
    rw [hsp, List.getD_eq_getElem?_getD, List.getElem?_append_right hg, List.getElem?_append_left hkk, List.getD_eq_getElem?_getD]
  rw [hgd]
  obtain ⟨a, c, h1, h2⟩ := set_mid (frameC d) (k - P.length) hkk ((frameC d).getD (k - P.length) 0 ^^^ y)
  have hal : a.length = k - P.length := by
    have e1 : (frameC d).set (k - P.length) ((frameC d).getD (k - P.length) 0 ^^^ y) = a ++ ((frameC d).getD (k - P.length) 0 ^^^ y) :: c := h2
    by_cases hlt : a.length = k - P.length
    · exact hlt
    · exfalso
      have hx := congrArg (fun q => q[a.length]?) e1
      have hx2 := congrArg (fun q => q[a.length]?) h1
      simp only [List.getElem?_set, if_neg (Ne.symm hlt)] at hx
      rw [hx2] at hx
      simp at hx
      exact xor8_ne ((frameC d).getD (k - P.length) 0) y hy (by simpa [List.getD_eq_getElem?_getD] using hx)
  have hset : (framesC l).set k ((frameC d).getD (k - P.length) 0 ^^^ y) = P ++ ((a ++ ((frameC d).getD (k - P.length) 0 ^^^ y) :: c) ++ framesC (l.drop (j + 1))) := by
    rw [hsp, List.set_append, if_neg (by omega), List.set_append, if_pos hkk, h2]
  rw [hset]
  have hlj : ∀ x ∈ l.take j, x.length ≤ 100000 := fun x hx => hl x (List.mem_of_mem_take hx)
  have hdl : d.length ≤ 100000 := by
    rw [← hd, List.getD_eq_getElem?_getD, List.getElem?_eq_getElem hj]
    exact hl _ (List.getElem_mem hj)
  subst hP
  refine scan_spoilt (l.take j) d _ a c _ _ hlj hdl h1 (xor8_ne _ _ hy) ?_
  rw [enc_length, hal]
  rcases hp with hp | hp
  · left
    exact List.eq_nil_of_length_eq_zero (by omega)
  · right
    omega
theorem RdM.take {B : Nat} {w : World} {A : Option Addr} {n c : Nat} {ls : List (List UInt8)} (h : RdM B w (.slice A n c) ls) (k : Nat) (hk : k ≤ ls.length) : RdM B w (.slice A k c) (ls.take k) := by
  obtain ⟨vs, h1, h2, h3⟩ := h
  have hn : n = vs.length := by
    obtain ⟨A2, c2, hv, _⟩ := h2.shape
    injection hv
  refine ⟨vs.take k, by rw [List.length_take, List.length_take, h1], h2.take k (by omega), fun j hj => ?_⟩
  have hj2 : j < k := by rw [List.length_take] at hj; omega
  have e1 : (vs.take k).getD j sl0 = vs.getD j sl0 := by rw [List.getD_eq_getElem?_getD, List.getElem?_take, if_pos hj2, List.getD_eq_getElem?_getD]
  have e2 : (ls.take k).getD j [] = ls.getD j [] := by rw [List.getD_eq_getElem?_getD, List.getElem?_take, if_pos hj2, List.getD_eq_getElem?_getD]
  rw [e1, e2]
  exact h3 j (by rw [List.length_take] at hj; omega)
/-- Which frame is spoilt, and where it begins. -/
def Spot (l : List (List UInt8)) (z : Int) (i : Nat) (va vg : Value) : Prop :=
  (va = .int .i64 (-1) ∧ vg = .int .i64 0 ∧ ¬ (0 ≤ z ∧ z < ((framesC (l.take i)).length : Int))) ∨
  ∃ j k g : Nat, va = .int .i64 (j : Int) ∧ vg = .int .i64 (g : Int) ∧ z = (k : Int) ∧ j < i ∧ g = (framesC (l.take j)).length ∧ g ≤ k ∧ k < g + longC (l.getD j []).length ∧ (k = g ∨ g + (2 + wid (l.getD j []).length) ≤ k)
theorem Spot.below {l : List (List UInt8)} {z : Int} {i : Nat} {va vg : Value} (h : Spot l z i va vg) (hz : z < ((framesC (l.take i)).length : Int)) : Spot l z (i + 1) va vg := by
  rcases h with ⟨h1, h2, h3⟩ | ⟨j, k, g, h1, h2, h3, h4, h5⟩
  · exact .inl ⟨h1, h2, fun h => h3 ⟨h.1, hz⟩⟩
  · exact .inr ⟨j, k, g, h1, h2, h3, by omega, h5⟩
theorem Spot.above {l : List (List UInt8)} {z : Int} {i : Nat} {va vg : Value} (h : Spot l z i va vg) (hz : ((framesC (l.take (i + 1))).length : Int) ≤ z) : Spot l z (i + 1) va vg := by
  rcases h with ⟨h1, h2, h3⟩ | ⟨j, k, g, h1, h2, h3, h4, h5⟩
  · exact .inl ⟨h1, h2, fun h => by omega⟩
  · exact .inr ⟨j, k, g, h1, h2, h3, by omega, h5⟩
end Go.Proofs.Yteckenlbelgknaa
