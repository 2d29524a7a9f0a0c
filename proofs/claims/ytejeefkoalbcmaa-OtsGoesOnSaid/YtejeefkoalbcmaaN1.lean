/-
  SHA-256 over plain lists, of no program: the round words, the first state, the message schedule, a block on a state, padding, the hash.
-/
import Derived.Test.YtejeefkoalbcmaaN0
import Derived.Test.YtejeefkoalbcmaaNum
namespace Go.Proofs.Ytejeefkoalbcmaa

def kw : List Nat := [
  0x428a2f98, 0x71374491, 0xb5c0fbcf, 0xe9b5dba5, 0x3956c25b, 0x59f111f1, 0x923f82a4, 0xab1c5ed5,
  0xd807aa98, 0x12835b01, 0x243185be, 0x550c7dc3, 0x72be5d74, 0x80deb1fe, 0x9bdc06a7, 0xc19bf174,
  0xe49b69c1, 0xefbe4786, 0x0fc19dc6, 0x240ca1cc, 0x2de92c6f, 0x4a7484aa, 0x5cb0a9dc, 0x76f988da,
  0x983e5152, 0xa831c66d, 0xb00327c8, 0xbf597fc7, 0xc6e00bf3, 0xd5a79147, 0x06ca6351, 0x14292967,
  0x27b70a85, 0x2e1b2138, 0x4d2c6dfc, 0x53380d13, 0x650a7354, 0x766a0abb, 0x81c2c92e, 0x92722c85,
  0xa2bfe8a1, 0xa81a664b, 0xc24b8b70, 0xc76c51a3, 0xd192e819, 0xd6990624, 0xf40e3585, 0x106aa070,
  0x19a4c116, 0x1e376c08, 0x2748774c, 0x34b0bcb5, 0x391c0cb3, 0x4ed8aa4a, 0x5b9cca4f, 0x682e6ff3,
  0x748f82ee, 0x78a5636f, 0x84c87814, 0x8cc70208, 0x90befffa, 0xa4506ceb, 0xbef9a3f7, 0xc67178f2]
def iv : List Nat := [0x6a09e667, 0xbb67ae85, 0x3c6ef372, 0xa54ff53a, 0x510e527f, 0x9b05688c, 0x1f83d9ab, 0x5be0cd19]
theorem kw_length : kw.length = 64 := by decide
theorem iv_length : iv.length = 8 := by decide
theorem kw_lt : ∀ x ∈ kw, x < 4294967296 := by decide
theorem iv_lt : ∀ x ∈ iv, x < 4294967296 := by decide

/-- Words of 32 bits. -/
def W32 (l : List Nat) : Prop := ∀ x ∈ l, x < 4294967296
theorem W32.at {l : List Nat} (h : W32 l) (j : Nat) : l.getD j 0 < 4294967296 := by
  by_cases hj : j < l.length
  · rw [List.getD_eq_getElem?_getD, List.getElem?_eq_getElem hj]; exact h _ (List.getElem_mem hj)
  · rw [List.getD_eq_getElem?_getD, List.getElem?_eq_none (by omega)]; decide

/-- Word t of a block's bytes. -/
def wd (b : List UInt8) (t : Nat) : Nat :=
  (b.getD (4 * t) 0).toNat * 16777216 ||| (b.getD (4 * t + 1) 0).toNat * 65536 ||| (b.getD (4 * t + 2) 0).toNat * 256 ||| (b.getD (4 * t + 3) 0).toNat
def nx (l : List Nat) (t : Nat) : Nat := ad (ad (ad (sm1 (l.getD (t - 2) 0)) (l.getD (t - 7) 0)) (sm0 (l.getD (t - 15) 0))) (l.getD (t - 16) 0)
/-- The first t words of a block's schedule. -/
def sch (b : List UInt8) : Nat → List Nat
  | 0 => []
  | t + 1 => sch b t ++ [if t < 16 then wd b t else nx (sch b t) t]
theorem sch_length (b : List UInt8) (t : Nat) : (sch b t).length = t := by
  induction t with
  | zero => rfl
  | succ t ih => simp [sch, ih]
theorem wd_lt (b : List UInt8) (t : Nat) : wd b t < 4294967296 := by
  have h1 := (b.getD (4 * t) 0).toNat_lt
  have h2 := (b.getD (4 * t + 1) 0).toNat_lt
  have h3 := (b.getD (4 * t + 2) 0).toNat_lt
  have h4 := (b.getD (4 * t + 3) 0).toNat_lt
  exact or32 (or32 (or32 (by omega) (by omega)) (by omega)) (by omega)
theorem sch_lt (b : List UInt8) (t : Nat) : W32 (sch b t) := by
  induction t with
  | zero => intro x hx; cases hx
  | succ t ih =>
    intro x hx
    simp only [sch, List.mem_append, List.mem_singleton] at hx
    rcases hx with hx | rfl
    · exact ih x hx
    · split
      · exact wd_lt _ _
      · exact ad_lt _ _

/-- The eight words of a state while a block is taken. -/
structure St where
  a : Nat
  b : Nat
  c : Nat
  d : Nat
  e : Nat
  f : Nat
  g : Nat
  h : Nat
def St.of (l : List Nat) : St := ⟨l.getD 0 0, l.getD 1 0, l.getD 2 0, l.getD 3 0, l.getD 4 0, l.getD 5 0, l.getD 6 0, l.getD 7 0⟩
def St.l (s : St) : List Nat := [s.a, s.b, s.c, s.d, s.e, s.f, s.g, s.h]
def t1 (s : St) (k w : Nat) : Nat := ad (ad (ad (ad s.h (bg1 s.e)) (chs s.e s.f s.g)) k) w
def t2 (s : St) : Nat := ad (bg0 s.a) (mjr s.a s.b s.c)
def rnd (s : St) (k w : Nat) : St := ⟨ad (t1 s k w) (t2 s), s.a, s.b, s.c, ad s.d (t1 s k w), s.e, s.f, s.g⟩
def rnds (s : St) (K W : List Nat) : Nat → St
  | 0 => s
  | t + 1 => rnd (rnds s K W t) (K.getD t 0) (W.getD t 0)
def fin (s : St) (v : St) : List Nat := [ad s.a v.a, ad s.b v.b, ad s.c v.c, ad s.d v.d, ad s.e v.e, ad s.f v.f, ad s.g v.g, ad s.h v.h]
/-- The state behind a block, of words of the schedule. -/
def proc (s W K : List Nat) : List Nat := fin (St.of s) (rnds (St.of s) K W 64)
def blk (s : List Nat) (b : List UInt8) : List Nat := proc s (sch b 64) kw
theorem proc_length (s W K : List Nat) : (proc s W K).length = 8 := rfl
theorem proc_lt (s W K : List Nat) : W32 (proc s W K) := by
  intro x hx
  simp only [proc, fin, List.mem_cons, List.not_mem_nil, or_false] at hx
  rcases hx with rfl | rfl | rfl | rfl | rfl | rfl | rfl | rfl <;> exact ad_lt _ _

def St.ok (s : St) : Prop := s.a < 4294967296 ∧ s.b < 4294967296 ∧ s.c < 4294967296 ∧ s.d < 4294967296 ∧ s.e < 4294967296 ∧ s.f < 4294967296 ∧ s.g < 4294967296 ∧ s.h < 4294967296
theorem St.of_ok {l : List Nat} (h : W32 l) : (St.of l).ok := ⟨h.at 0, h.at 1, h.at 2, h.at 3, h.at 4, h.at 5, h.at 6, h.at 7⟩
theorem rnds_ok (s : St) (K W : List Nat) (hs : s.ok) (t : Nat) : (rnds s K W t).ok := by
  induction t with
  | zero => exact hs
  | succ t ih =>
    obtain ⟨h1, h2, h3, h4, h5, h6, h7, h8⟩ := ih
    exact ⟨ad_lt _ _, h1, h2, h3, ad_lt _ _, h5, h6, h7⟩

/-- n blocks of bytes on a state. -/
def chain (s : List Nat) : Nat → List UInt8 → List Nat
  | 0, _ => s
  | n + 1, b => chain (blk s (b.take 64)) n (b.drop 64)
theorem chain_length (s : List Nat) (hs : s.length = 8) (n : Nat) (b : List UInt8) : (chain s n b).length = 8 := by
  induction n generalizing s b with
  | zero => exact hs
  | succ n ih => exact ih _ rfl _
theorem chain_lt (s : List Nat) (hs : W32 s) (n : Nat) (b : List UInt8) : W32 (chain s n b) := by
  induction n generalizing s b with
  | zero => exact hs
  | succ n ih => exact ih _ (proc_lt _ _ _) _
theorem chain_add (s : List Nat) (m n : Nat) (b : List UInt8) : chain s (m + n) b = chain (chain s m b) n (b.drop (64 * m)) := by
  induction m generalizing s b with
  | zero => simp [chain]
  | succ m ih =>
    rw [show m + 1 + n = (m + n) + 1 by omega]
    simp only [chain]
    rw [ih, List.drop_drop]
    congr 2
    omega
theorem chain_app (s : List Nat) (m : Nat) (b c : List UInt8) (h : 64 * m ≤ b.length) : chain s m (b ++ c) = chain s m b := by
  induction m generalizing s b with
  | zero => rfl
  | succ m ih =>
    simp only [chain]
    rw [List.take_append_of_le_length (by omega), List.drop_append_of_le_length (by omega), ih _ _ (by rw [List.length_drop]; omega)]

/-- How many zero bytes padding has. -/
def zn (n : Nat) : Nat := (64 - (n % 64 + 9) % 64) % 64
/-- The padding of n bytes. -/
def padl (n : Nat) : List UInt8 := 128 :: (List.replicate (zn n) 0 ++ be 8 (n * 8 % 18446744073709551616))
theorem padl_length (n : Nat) : (padl n).length = 9 + zn n := by simp [padl, be_length]; omega
theorem padl_mod (n : Nat) : (n + (padl n).length) % 64 = 0 := by rw [padl_length]; unfold zn; omega
/-- The bytes of words, the highest first. -/
def joinl (s : List Nat) : List UInt8 := s.flatMap (be 4)
/-- The hash of bytes. -/
def hash (b : List UInt8) : List UInt8 := joinl (chain iv ((b.length + (padl b.length).length) / 64) (b ++ padl b.length))
theorem joinl_length (s : List Nat) : (joinl s).length = 4 * s.length := by
  induction s with
  | nil => rfl
  | cons x s ih => simp only [joinl, List.flatMap_cons, List.length_append, be_length, List.length_cons] at *; omega
theorem hash_length (b : List UInt8) : (hash b).length = 32 := by unfold hash; rw [joinl_length, chain_length _ iv_length]
/-- The hash is what is left, padded, on the state behind the whole blocks. -/
theorem hash_parts (b : List UInt8) (m : Nat) (hm : 64 * m ≤ b.length) : hash b = joinl (chain (chain iv m b) ((b.length - 64 * m + (padl b.length).length) / 64) (b.drop (64 * m) ++ padl b.length)) := by
  unfold hash
  rw [show (b.length + (padl b.length).length) / 64 = m + (b.length - 64 * m + (padl b.length).length) / 64 by omega, chain_add, chain_app _ _ _ _ hm, List.drop_append_of_le_length hm]
end Go.Proofs.Ytejeefkoalbcmaa
