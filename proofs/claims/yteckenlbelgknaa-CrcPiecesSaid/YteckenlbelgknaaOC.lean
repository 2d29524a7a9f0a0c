/-
  Plain facts on one-time signatures, over lists of bytes, of no program: public hash, signature, candidate; the candidate of a signature is the public hash. No condition beyond those of each line.
  Package ots: Public, for every key whose W is a width.
  Package ots: Sign, for every key and every text of at most 100000 bytes.
-/
import Derived.Test.YteckenlbelgknaaOB
import Derived.Test.YteckenlbelgknaaMs
namespace Go.Proofs.Yteckenlbelgknaa

/-- Rows of 32 bytes, n of them, one behind the other. -/
def rowsTo (f : Nat → List UInt8) (n : Nat) : List UInt8 := (List.range n).flatMap f
theorem rowsTo_succ (f : Nat → List UInt8) (n : Nat) : rowsTo f (n + 1) = rowsTo f n ++ f n := by simp [rowsTo, List.range_succ]
theorem rowsTo_length (f : Nat → List UInt8) (hf : ∀ i, (f i).length = 32) (n : Nat) : (rowsTo f n).length = 32 * n := by
  induction n with
  | zero => rfl
  | succ n ih => rw [rowsTo_succ, List.length_append, ih, hf]; omega
theorem rowsTo_congr (f g : Nat → List UInt8) (n : Nat) (h : ∀ i, i < n → f i = g i) : rowsTo f n = rowsTo g n := by
  induction n with
  | zero => rfl
  | succ n ih => rw [rowsTo_succ, rowsTo_succ, ih (fun i hi => h i (by omega)), h n (by omega)]
theorem rowsTo_at (f : Nat → List UInt8) (hf : ∀ i, (f i).length = 32) (n i : Nat) (hi : i < n) : ((rowsTo f n).drop (32 * i)).take 32 = f i := by
  induction n with
  | zero => omega
  | succ n ih =>
    rw [rowsTo_succ]
    have hl := rowsTo_length f hf n
    by_cases h : i < n
    · rw [List.drop_append_of_le_length (by omega), List.take_append_of_le_length (by rw [List.length_drop]; omega)]
      exact ih h
    · obtain rfl : i = n := by omega
      rw [List.drop_append, List.drop_of_length_le (by omega), List.nil_append, hl, Nat.sub_self, List.drop_zero, List.take_of_length_le (by rw [hf]; omega)]

theorem hsec_length (p seed : List UInt8) (i : Nat) : (hsec p seed i).length = 32 := hash_length _
theorem hrnd_length (p seed : List UInt8) : (hrnd p seed).length = 32 := hash_length _
theorem hmsg_length (p r text : List UInt8) : (hmsg p r text).length = 32 := hash_length _
theorem hpub_length (p ends : List UInt8) : (hpub p ends).length = 32 := hash_length _

/-- The end of chain i. -/
def endF (p seed : List UInt8) (k i : Nat) : List UInt8 := chn p i 0 (gr k) (hsec p seed i)
theorem endF_length (p seed : List UInt8) (k i : Nat) : (endF p seed k i).length = 32 := chn_length _ _ _ _ _ (hsec_length _ _ _)
/-- The public hash. -/
def pubL (p seed : List UInt8) (k : Nat) : List UInt8 := hpub p (rowsTo (endF p seed k) (mny k))
/-- What is signed of digit i. -/
def sgnF (p seed : List UInt8) (D : List Nat) (i : Nat) : List UInt8 := chn p i 0 (D.getD i 0) (hsec p seed i)
theorem sgnF_length (p seed : List UInt8) (D : List Nat) (i : Nat) : (sgnF p seed D i).length = 32 := chn_length _ _ _ _ _ (hsec_length _ _ _)
/-- The digits that are signed. -/
def sdig (p seed text : List UInt8) (k : Nat) : List Nat := allD (hmsg p (hrnd p seed) text) k
/-- The signature. -/
def sigL (p seed text : List UInt8) (k : Nat) : List UInt8 := be 4 (typ k) ++ hrnd p seed ++ rowsTo (sgnF p seed (sdig p seed text k)) (mny k)
theorem sigL_length (p seed text : List UInt8) (k : Nat) : (sigL p seed text k).length = lng k := by
  unfold sigL lng
  rw [List.length_append, List.length_append, be_length, hrnd_length, rowsTo_length _ (sgnF_length _ _ _)]
  omega
/-- Hash i of a signature. -/
def hAt (s : List UInt8) (i : Nat) : List UInt8 := (s.drop (4 + i * 32)).take 32
/-- Where chain i of a signature ends. -/
def cndF (p s : List UInt8) (D : List Nat) (k i : Nat) : List UInt8 := chn p i (D.getD i 0) (gr k - D.getD i 0) (hAt s (i + 1))
/-- The digits that a signature is of. -/
def cdig (p s text : List UInt8) (k : Nat) : List Nat := allD (hmsg p (hAt s 0) text) k
/-- The candidate. -/
def cndL (p s text : List UInt8) (k : Nat) : List UInt8 := hpub p (rowsTo (cndF p s (cdig p s text k) k) (mny k))

theorem hAt_sig0 (p seed text : List UInt8) (k : Nat) : hAt (sigL p seed text k) 0 = hrnd p seed := by
  unfold hAt sigL
  rw [List.append_assoc, List.drop_append, List.drop_of_length_le (by rw [be_length]; omega), List.nil_append, be_length]
  simp only [Nat.zero_mul, Nat.add_zero, Nat.sub_self, List.drop_zero]
  rw [List.take_append_of_le_length (by rw [hrnd_length]; omega), List.take_of_length_le (by rw [hrnd_length]; omega)]
theorem hAt_sig (p seed text : List UInt8) (k i : Nat) (hi : i < mny k) : hAt (sigL p seed text k) (i + 1) = sgnF p seed (sdig p seed text k) i := by
  unfold hAt sigL
  rw [List.drop_append, List.drop_of_length_le (by rw [List.length_append, be_length, hrnd_length]; omega), List.nil_append, List.length_append, be_length, hrnd_length, show 4 + (i + 1) * 32 - (4 + 32) = 32 * i by omega]
  exact rowsTo_at _ (sgnF_length _ _ _) _ _ hi
theorem digit_le (l : List UInt8) (k i : Nat) : (allD l k).getD i 0 ≤ gr k := by
  have := allD_lt l k i
  unfold gr; omega
theorem cnd_sig (p seed text : List UInt8) (k : Nat) : cndL p (sigL p seed text k) text k = pubL p seed k := by
  unfold cndL pubL cdig
  rw [hAt_sig0]
  congr 1
  refine rowsTo_congr _ _ _ (fun i hi => ?_)
  unfold cndF endF
  rw [hAt_sig p seed text k i hi]
  unfold sgnF
  have hd := digit_le (hmsg p (hrnd p seed) text) k i
  unfold sdig
  generalize (allD (hmsg p (hrnd p seed) text) k).getD i 0 = d at hd ⊢
  have := chn_add p i 0 d (gr k - d) (hsec p seed i)
  rw [Nat.zero_add, show d + (gr k - d) = gr k by omega] at this
  exact this
end Go.Proofs.Yteckenlbelgknaa

namespace Go.Proofs.Yteckenlbelgknaa
open Go.RowKit

end Go.Proofs.Yteckenlbelgknaa

namespace Go.Proofs.Yteckenlbelgknaa
open Go.RowKit

/-- The digits that were answered, and OK. -/
def RdIN (D : List Nat) : Value → World → Prop := fun v w => RdI w.heap.size w v D
theorem RdIN.keep {D : List Nat} {v : Value} {w w' : World} (h : RdIN D v w) (hb : Below w.heap.size w w') : RdIN D v w' := (RdI.below h hb).more hb.size
def AllN (D : List Nat) : Value → World → Prop := fun v w => ∃ u, v = .tuple #[u, .int .i64 0] ∧ RdIN D u w
theorem AllN.keep {D : List Nat} {v : Value} {w w' : World} (h : AllN D v w) (hb : Below w.heap.size w w') : AllN D v w' := by
  obtain ⟨u, hv, h⟩ := h
  exact ⟨u, hv, h.keep hb⟩
/-- A slice of the call's own, from block b on. -/
def OwnN (b : Nat) (l : List UInt8) : Value → World → Prop := fun v w => Own 5 w b v l
theorem OwnN.keep {b : Nat} {l : List UInt8} {v : Value} {w w' : World} (h : OwnN b l v w) (hb : Below w.heap.size w w') : OwnN b l v w' := Own.below h hb (Nat.le_refl _)

end Go.Proofs.Yteckenlbelgknaa
