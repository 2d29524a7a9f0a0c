/-
  Bytes that come in pieces, over plain lists, of no program: the state behind the whole blocks, and the bytes that are left.
-/
import Derived.Test.YtejeefkoalbcmaaN1
namespace Go.Proofs.Ytejeefkoalbcmaa

/-- st and left hold the bytes bs. -/
def Holds (st : List Nat) (left bs : List UInt8) : Prop := left.length = 64 ∧ st = chain iv (bs.length / 64) bs ∧ left.take (bs.length % 64) = bs.drop (64 * (bs.length / 64))

theorem Holds.new : Holds iv (List.replicate 64 0) [] := ⟨by simp, rfl, by simp⟩
theorem Holds.st8 {st : List Nat} {left bs : List UInt8} (h : Holds st left bs) : st.length = 8 := by rw [h.2.1, chain_length iv iv_length]
theorem Holds.st32 {st : List Nat} {left bs : List UInt8} (h : Holds st left bs) : W32 st := by rw [h.2.1]; exact chain_lt iv iv_lt _ _

/-- What is laid over the bytes that are left. -/
def over (left : List UInt8) (h : Nat) (p : List UInt8) : List UInt8 := left.take h ++ p ++ left.drop (h + p.length)
theorem over_length (left p : List UInt8) (h : Nat) (hl : left.length = 64) (hh : h + p.length ≤ 64) : (over left h p).length = 64 := by
  simp [over, hl]; omega

/-- The piece does not fill the block. -/
theorem Holds.less {st : List Nat} {left bs l : List UInt8} (h : Holds st left bs) (hl : bs.length % 64 + l.length < 64) : Holds st (over left (bs.length % 64) l) (bs ++ l) := by
  obtain ⟨h1, h2, h3⟩ := h
  have e1 : (bs ++ l).length / 64 = bs.length / 64 := by rw [List.length_append]; omega
  have e2 : (bs ++ l).length % 64 = bs.length % 64 + l.length := by rw [List.length_append]; omega
  refine ⟨over_length _ _ _ h1 (by omega), ?_, ?_⟩
  · rw [e1, chain_app _ _ _ _ (by omega), ← h2]
  · rw [e1, e2, List.drop_append_of_le_length (by omega), ← h3]
    unfold over
    rw [List.take_append_of_le_length (by simp [h1]; omega), List.take_of_length_le (by simp; omega)]

/-- The piece fills the block: first that block, then those of the rest. -/
theorem Holds.full {st : List Nat} {left bs l : List UInt8} (h : Holds st left bs) (t : Nat) (ht : bs.length % 64 + t = 64) (hl : t ≤ l.length) :
    over left (bs.length % 64) (l.take t) = left.take (bs.length % 64) ++ l.take t ∧
    chain (chain st 1 (over left (bs.length % 64) (l.take t))) ((l.drop t).length / 64) (l.drop t) = chain iv ((bs ++ l).length / 64) (bs ++ l) ∧
    (l.drop t).drop (64 * ((l.drop t).length / 64)) = (bs ++ l).drop (64 * ((bs ++ l).length / 64)) ∧ ((l.drop t).drop (64 * ((l.drop t).length / 64))).length = (bs ++ l).length % 64 := by
  obtain ⟨h1, h2, h3⟩ := h
  have hlt : (l.take t).length = t := by rw [List.length_take]; omega
  have eo : over left (bs.length % 64) (l.take t) = left.take (bs.length % 64) ++ l.take t := by
    unfold over
    rw [hlt, List.drop_of_length_le (by omega), List.append_nil]
  have eq : (bs ++ l).length / 64 = bs.length / 64 + 1 + (l.drop t).length / 64 := by rw [List.length_append, List.length_drop]; omega
  have e1 : chain iv (bs.length / 64 + 1) (bs ++ l) = chain st 1 (left.take (bs.length % 64) ++ l.take t) := by
    rw [chain_add, chain_app _ _ _ _ (by omega), ← h2]
    show blk st (((bs ++ l).drop (64 * (bs.length / 64))).take 64) = blk st ((left.take (bs.length % 64) ++ l.take t).take 64)
    rw [List.drop_append_of_le_length (by omega), ← h3]
    congr 1
    have hx : (left.take (bs.length % 64)).length = bs.length % 64 := by rw [List.length_take]; omega
    rw [List.take_append, List.take_append, hx, List.take_of_length_le (by omega), show 64 - bs.length % 64 = t by omega, List.take_take, Nat.min_self]
  have ed : (bs ++ l).drop (64 * (bs.length / 64 + 1)) = l.drop t := by
    rw [List.drop_append, List.drop_of_length_le (by omega), List.nil_append]
    congr 1
    omega
  refine ⟨eo, ?_, ?_, ?_⟩
  · rw [eo, ← e1, eq, chain_add iv (bs.length / 64 + 1), ed]
  · rw [eq, Nat.mul_add, ← List.drop_drop, ed]
  · rw [List.length_drop, List.length_drop, List.length_append]
    omega

theorem over_zero (left p : List UInt8) : over left 0 p = p ++ left.drop p.length := by simp [over]
/-- The rest is laid at the beginning. -/
theorem Holds.rest {bs left r : List UInt8} (hl : left.length = 64) (hr : r = bs.drop (64 * (bs.length / 64))) : Holds (chain iv (bs.length / 64) bs) (over left 0 r) bs := by
  have hrl : r.length = bs.length % 64 := by rw [hr, List.length_drop]; omega
  refine ⟨over_length _ _ _ hl (by omega), rfl, ?_⟩
  rw [over_zero, ← hrl, List.take_append_of_le_length (by omega), List.take_of_length_le (by omega)]
  exact hr
end Go.Proofs.Ytejeefkoalbcmaa
