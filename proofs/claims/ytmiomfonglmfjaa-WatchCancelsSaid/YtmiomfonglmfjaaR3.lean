/-
  A box is written over: rows that can't lie in it stay.
-/
import Derived.Test.YtmiomfonglmfjaaR1
namespace Go.Proofs.Ytmiomfonglmfjaa
open Go.RowKit

theorem cell_spot {w : World} {a : Addr} {v : Value} (h : w.cell? a = some v) : a.spot = none := by
  unfold World.cell? at h
  split at h
  · cases hs : a.spot with
    | none => rfl
    | some k => rw [hs] at h; simp at h
  · cases h
theorem cell_heap {w w' : World} (p : Addr) (h : w'.heap[p.block]? = w.heap[p.block]?) : w'.cell? p = w.cell? p := by
  unfold World.cell?
  rw [h]
/-- A row lies apart from a block one of whose cells holds what no cell of the row holds, and which is too short ahead of it and behind it. -/
theorem RdE.apart {α : Type} {E : RowK α} {B : Nat} {w : World} {a : Addr} {n c : Nat} {l : List α} (h : RdE E B w (.slice (some a) n c) l) (hl : 0 < l.length) {g : Nat} {cs : List Value} {t : TypeId} (hx : Blk w g cs t)
    (hk : ∀ off, off + E.k ≤ cs.length → ∃ i, i < E.k ∧ ∀ x : α, (E.enc x)[i]? ≠ cs[off + i]?) : a.block ≠ g := by
  intro e
  have hn := h.node 0 hl
  rw [Nat.zero_mul] at hn
  have ha0 : a.add 0 = a := by cases a; rfl
  rw [ha0] at hn
  obtain ⟨x, hxx⟩ : ∃ x, l.getD 0 E.d = x := ⟨_, rfl⟩
  rw [hxx] at hn
  have hs : a.spot = none := by
    have h0 := hn 0 _ (enc_get E x 0 E.pos)
    rw [ha0] at h0
    exact cell_spot h0
  have hc : ∀ i, i < E.k → w.cell? (a.add i) = cs[a.off + i]? := by
    intro i _
    rw [show a.add i = ⟨g, a.off + i, none⟩ from by
      cases a
      simp only at e hs
      subst e hs
      unfold Addr.add
      split
      · rename_i h0; subst h0; rfl
      · rfl]
    exact hx.cell _
  have hlen : a.off + E.k ≤ cs.length := by
    have hp := E.pos
    have h1 := hn (E.k - 1) _ (enc_get E x (E.k - 1) (by omega))
    rw [hc (E.k - 1) (by omega)] at h1
    have := (List.getElem?_eq_some_iff.1 h1).1
    omega
  obtain ⟨i, hi, hne⟩ := hk a.off hlen
  refine hne x ?_
  rw [enc_get E x i hi, ← hc i hi]
  exact (hn i _ (enc_get E x i hi)).symm
/-- The row stays where a block apart from it is written. -/
theorem RdE.but {α : Type} {E : RowK α} {B : Nat} {w w' : World} {v : Value} {l : List α} (h : RdE E B w v l) {g : Nat} {cs : List Value} {t : TypeId} (hx : Blk w g cs t)
    (hk : ∀ off, off + E.k ≤ cs.length → ∃ i, i < E.k ∧ ∀ x : α, (E.enc x)[i]? ≠ cs[off + i]?) (ho : ∀ k, k ≠ g → w'.heap[k]? = w.heap[k]?) : RdE E B w' v l := by
  have h' := h
  obtain ⟨A, c, rfl, hc, hm, hn, hr⟩ := h
  refine ⟨A, c, rfl, hc, hm, hn, fun a ha => ⟨(hr a ha).1, fun j u hu => ?_⟩⟩
  subst ha
  have hl : 0 < l.length := by
    cases l with
    | nil => simp [rowsE] at hu
    | cons x r => simp
  have hne := h'.apart hl hx hk
  have e : w'.cell? (a.add j) = w.cell? (a.add j) := cell_heap _ (by rw [addr_block]; exact ho _ hne)
  rw [e]
  exact (hr a rfl).2 j u hu
end Go.Proofs.Ytmiomfonglmfjaa
