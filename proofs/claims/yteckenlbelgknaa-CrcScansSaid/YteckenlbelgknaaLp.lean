/-
  Plain facts on trees of one-time keys, over lists of bytes, of no program: the hash of a node, siblings, the way up; the way up from a node with its siblings leads to the node above. No condition beyond those of each line.
-/
import Derived.Test.YteckenlbelgknaaOC
namespace Go.Proofs.Yteckenlbelgknaa

/-- A leaf's node. -/
def leafL (I : List UInt8) (r : Nat) (p : List UInt8) : List UInt8 := hash (pre20 I r ++ [[130, 130], p].flatten)
/-- Another node. -/
def upL (I : List UInt8) (r : Nat) (x y : List UInt8) : List UInt8 := hash (pre20 I r ++ [[131, 131], x, y].flatten)
theorem leafL_length (I : List UInt8) (r : Nat) (p : List UInt8) : (leafL I r p).length = 32 := hash_length _
theorem upL_length (I : List UInt8) (r : Nat) (x y : List UInt8) : (upL I r x y).length = 32 := hash_length _
/-- Node r, n levels above the leaves, of a tree of L leaves. -/
def knt (I seed : List UInt8) (k L : Nat) : Nat → Nat → List UInt8
  | 0, r => leafL I r (pubL (pre20 I (r - L)) seed k)
  | n + 1, r => upL I r (knt I seed k L n (2 * r)) (knt I seed k L n (2 * r + 1))
theorem knt_length (I seed : List UInt8) (k L n r : Nat) : (knt I seed k L n r).length = 32 := by
  cases n with
  | zero => exact leafL_length _ _ _
  | succ n => exact upL_length _ _ _ _
/-- The type of a height. -/
def knd (h : Nat) : Nat := if h = 5 then 5 else 100 + h
/-- The public key. -/
def lpub (I seed : List UInt8) (k h : Nat) : List UInt8 := be 4 (knd h) ++ be 4 (typ k) ++ I ++ knt I seed k (2 ^ h) h 1
theorem lpub_length (I seed : List UInt8) (k h : Nat) (hI : I.length = 16) : (lpub I seed k h).length = 56 := by
  simp [lpub, be_length, knt_length, hI]
/-- The node beside a node. -/
def sbr (r : Nat) : Nat := if r % 2 = 0 then r + 1 else r - 1
/-- The nodes beside the way of n levels up from node r, j levels above the leaves. -/
def sbl (I seed : List UInt8) (k L : Nat) : Nat → Nat → Nat → List UInt8
  | _, 0, _ => []
  | j, n + 1, r => knt I seed k L j (sbr r) ++ sbl I seed k L (j + 1) n (r / 2)
theorem sbl_length (I seed : List UInt8) (k L n : Nat) : ∀ j r, (sbl I seed k L j n r).length = 32 * n := by
  induction n with
  | zero => intro j r; rfl
  | succ n ih => intro j r; rw [sbl, List.length_append, knt_length, ih]; omega
/-- The way up, n levels, with the hashes beside it. -/
def clm (I : List UInt8) : Nat → Nat → List UInt8 → List UInt8 → List UInt8
  | 0, _, x, _ => x
  | n + 1, r, x, s => clm I n (r / 2) (if r % 2 = 0 then upL I (r / 2) x (s.take 32) else upL I (r / 2) (s.take 32) x) (s.drop 32)
theorem clm_length (I : List UInt8) (n : Nat) : ∀ r x s, x.length = 32 → (clm I n r x s).length = 32 := by
  induction n with
  | zero => intro r x s h; exact h
  | succ n ih =>
    intro r x s _
    refine ih _ _ _ ?_
    split <;> exact upL_length _ _ _ _
theorem clm_sbl (I seed : List UInt8) (k L n : Nat) : ∀ j r, clm I n r (knt I seed k L j r) (sbl I seed k L j n r) = knt I seed k L (j + n) (r / 2 ^ n) := by
  induction n with
  | zero => intro j r; simp [clm]
  | succ n ih =>
    intro j r
    rw [clm, sbl, List.take_append_of_le_length (by rw [knt_length]; omega), List.take_of_length_le (by rw [knt_length]; omega), List.drop_append_of_le_length (by rw [knt_length]; omega), List.drop_of_length_le (by rw [knt_length]; omega), List.nil_append]
    have e : (if r % 2 = 0 then upL I (r / 2) (knt I seed k L j r) (knt I seed k L j (sbr r)) else upL I (r / 2) (knt I seed k L j (sbr r)) (knt I seed k L j r)) = knt I seed k L (j + 1) (r / 2) := by
      rw [knt]
      by_cases h : r % 2 = 0
      · rw [if_pos h, sbr, if_pos h, show 2 * (r / 2) = r by omega]
      · rw [if_neg h, sbr, if_neg h, show 2 * (r / 2) = r - 1 by omega, show r - 1 + 1 = r by omega]
    rw [e, ih, show j + 1 + n = j + (n + 1) by omega, Nat.div_div_eq_div_mul, Nat.pow_succ, Nat.mul_comm 2]
/-- How long a signature is. -/
def llng (k h : Nat) : Nat := 4 + lng k + 4 + h * 32
/-- A signature. -/
def lsig (I seed text : List UInt8) (k h q : Nat) : List UInt8 := be 4 q ++ sigL (pre20 I q) seed text k ++ be 4 (knd h) ++ sbl I seed k (2 ^ h) 0 h (2 ^ h + q)
theorem lsig_length (I seed text : List UInt8) (k h q : Nat) : (lsig I seed text k h q).length = llng k h := by
  unfold lsig llng
  rw [List.length_append, List.length_append, List.length_append, be_length, be_length, sigL_length, sbl_length]; omega
/-- What a signature's parts lead to. -/
def lroot (I once text sibs : List UInt8) (k h q : Nat) : List UInt8 := clm I h (2 ^ h + q) (leafL I (2 ^ h + q) (cndL (pre20 I q) once text k)) sibs
theorem lroot_right (I seed text : List UInt8) (k h q : Nat) (hq : q < 2 ^ h) : lroot I (sigL (pre20 I q) seed text k) text (sbl I seed k (2 ^ h) 0 h (2 ^ h + q)) k h q = knt I seed k (2 ^ h) h 1 := by
  unfold lroot
  rw [cnd_sig]
  have e : leafL I (2 ^ h + q) (pubL (pre20 I q) seed k) = knt I seed k (2 ^ h) 0 (2 ^ h + q) := by rw [knt, show 2 ^ h + q - 2 ^ h = q by omega]
  rw [e, clm_sbl, Nat.zero_add]
  congr 1
  rw [Nat.div_eq_iff (Nat.pow_pos (by omega))]
  omega
end Go.Proofs.Yteckenlbelgknaa
