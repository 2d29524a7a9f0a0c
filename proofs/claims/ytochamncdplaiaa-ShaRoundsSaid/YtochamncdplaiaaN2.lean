/-
  The document's own way to a round word, over plain numbers, of no program: primes, products in pieces of 16 bits, cube roots bit by bit; reckoned by the kernel for all 64 places.
-/
import Derived.Test.YtochamncdplaiaaN1
namespace Go.Proofs.Ytochamncdplaiaa

def w64 (n : Nat) : Nat := n % 18446744073709551616
/-- A row's inner steps: the pieces, and what is carried. -/
def inn (o b : List Nat) (x i : Nat) : Nat → List Nat × Nat
  | 0 => (o, 0)
  | k + 1 => match inn o b x i k with
    | (q, c) => (q.set (i + k) (w64 (c + q.getD (i + k) 0 + x * b.getD k 0) % 65536), w64 (c + q.getD (i + k) 0 + x * b.getD k 0) / 65536)
/-- The first i rows of a product. -/
def tm (a b : List Nat) : Nat → List Nat
  | 0 => List.replicate (a.length + b.length) 0
  | i + 1 => match inn (tm a b i) b (a.getD i 0) i b.length with
    | (q, c) => q.set (i + b.length) c
def tms (a b : List Nat) : List Nat := tm a b a.length
def pcs (x : Nat) : List Nat := [x % 65536, x / 65536 % 65536, x / 4294967296]
def want (p i : Nat) : Nat := if i = 6 then p else 0
/-- The pieces below place n, compared with p at place 6. -/
def cmpl (c : List Nat) (p : Nat) : Nat → Bool
  | 0 => true
  | i + 1 => if c.getD i 0 = want p i then cmpl c p i else decide (c.getD i 0 < want p i)
def fitsl (x p : Nat) : Bool := cmpl (tms (tms (pcs x) (pcs x)) (pcs x)) p 9
/-- The root so far, behind so many bits. -/
def rootl (p : Nat) : Nat → Nat
  | 0 => 0
  | n + 1 => if fitsl (rootl p n + 2 ^ (35 - n)) p then rootl p n + 2 ^ (35 - n) else rootl p n
def pl : List Nat := [2, 3, 5, 7, 11, 13, 17, 19, 23, 29, 31, 37, 41, 43, 47, 53, 59, 61, 67, 71, 73, 79, 83, 89, 97, 101, 103, 107, 109, 113, 127, 131, 137, 139, 149, 151, 157, 163, 167, 173, 179, 181, 191, 193, 197, 199, 211, 223, 227, 229, 233, 239, 241, 251, 257, 263, 269, 271, 277, 281, 283, 293, 307, 311]
end Go.Proofs.Ytochamncdplaiaa
