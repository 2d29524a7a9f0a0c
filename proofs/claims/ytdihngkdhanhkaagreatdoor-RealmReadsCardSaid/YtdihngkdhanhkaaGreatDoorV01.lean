/-
  Texts Ps Y0.
-/
import Derived.Lib.Hide
import Derived.Laws.BitsAllLaws
import GoSem.Op.String
namespace Go.Proofs.YtdihngkdhanhkaaGreatDoor
theorem lhd {p : Prop} (h : p) : RowKit.Hid p := Lib.hid h
set_option maxRecDepth 100000
set_option maxHeartbeats 16000000
def wid (n : Nat) : Nat :=
 if n = 0 then 0 else if n < 256 then 1 else if n < 65536 then 2 else if n < 16777216 then 3 else if n < 4294967296 then 4
 else if n < 1099511627776 then 5 else if n < 281474976710656 then 6 else if n < 72057594037927936 then 7 else 8
def be : Nat → Nat → List UInt8
 | 0, _ => []
 | k + 1, n => UInt8.ofNat (n / 256 ^ k) :: be k n
def enc (n : Nat) : List UInt8 := UInt8.ofNat (wid n) :: be (wid n) n
def rotr (x k : Nat) : Nat := (x * 2 ^ (32 - k) % 4294967296) ||| (x / 2 ^ k)
def sm0 (x : Nat) : Nat := rotr x 7 ^^^ rotr x 18 ^^^ x / 8
def sm1 (x : Nat) : Nat := rotr x 17 ^^^ rotr x 19 ^^^ x / 1024
def bg0 (x : Nat) : Nat := rotr x 2 ^^^ rotr x 13 ^^^ rotr x 22
def bg1 (x : Nat) : Nat := rotr x 6 ^^^ rotr x 11 ^^^ rotr x 25
def chs (e f g : Nat) : Nat := (e &&& f) ||| ((4294967295 ^^^ e) &&& g)
def mjr (a b c : Nat) : Nat := (a &&& b) ||| (a &&& c) ||| (b &&& c)
def ad (x y : Nat) : Nat := (x + y) % 4294967296
def kw : List Nat := [
 0x428a2f98, 0x71374491, 0xb5c0fbcf, 0xe9b5dba5, 0x3956c25b, 0x59f111f1, 0x923f82a4, 0xab1c5ed5,
 0xd807aa98, 0x12835b01, 0x243185be, 0x550c7dc3, 0x72be5d74, 0x80deb1fe, 0x9bdc06a7, 0xc19bf174,
 0xe49b69c1, 0xefbe4786, 0x0fc19dc6, 0x240ca1cc, 0x2de92c6f, 0x4a7484aa, 0x5cb0a9dc, 0x76f988da,
 0x983e5152, 0xa831c66d, 0xb00327c8, 0xbf597fc7, 0xc6e00bf3, 0xd5a79147, 0x06ca6351, 0x14292967,
 0x27b70a85, 0x2e1b2138, 0x4d2c6dfc, 0x53380d13, 0x650a7354, 0x766a0abb, 0x81c2c92e, 0x92722c85,
 0xa2bfe8a1, 0xa81a664b, 0xc24b8b70, 0xc76c51a3, 0xd192e819, 0xd6990624, 0xf40e3585, 0x106aa070,
 0x19a4c116, 0x1e376c08, 0x2748774c, 0x34b0bcb5, 0x391c0cb3, 0x4ed8aa4a, 0x5b9cca4f, 0x682e6ff3,
 0x748f82ee, 0x78a5636f, 0x84c87814, 0x8cc70208, 0x90befffa, 0xa4506ceb, 0xbef9a3f7, 0xc67178f2]
def iv : List Nat := [0x6a09e667, 0xbb67ae85, 0x3c6ef372, 0xa54ff53a, 0x510e527f, 0x9b05688c, 0x1f83d9ab, 0x5be0cd19]
def wd (b : List UInt8) (t : Nat) : Nat :=
 (b.getD (4 * t) 0).toNat * 16777216 ||| (b.getD (4 * t + 1) 0).toNat * 65536 ||| (b.getD (4 * t + 2) 0).toNat * 256 ||| (b.getD (4 * t + 3) 0).toNat
def nx (l : List Nat) (t : Nat) : Nat := ad (ad (ad (sm1 (l.getD (t - 2) 0)) (l.getD (t - 7) 0)) (sm0 (l.getD (t - 15) 0))) (l.getD (t - 16) 0)
def sch (b : List UInt8) : Nat → List Nat
 | 0 => []
 | t + 1 => sch b t ++ [if t < 16 then wd b t else nx (sch b t) t]
structure St where
 a : Nat
 b : Nat
 c : Nat
 d : Nat
 e : Nat
 f : Nat
 g : Nat
 h : Nat
def St.of (l : List Nat) : St := ⟨l.getD 0 0, l.getD 1 0, l.getD 2 0, l.getD 3 0, l.getD 4 0, l.getD 5 0, l.getD 6 0, l.getD 7 0⟩
def t1 (s : St) (k w : Nat) : Nat := ad (ad (ad (ad s.h (bg1 s.e)) (chs s.e s.f s.g)) k) w
def t2 (s : St) : Nat := ad (bg0 s.a) (mjr s.a s.b s.c)
def rnd (s : St) (k w : Nat) : St := ⟨ad (t1 s k w) (t2 s), s.a, s.b, s.c, ad s.d (t1 s k w), s.e, s.f, s.g⟩
def rnds (s : St) (K W : List Nat) : Nat → St
 | 0 => s
 | t + 1 => rnd (rnds s K W t) (K.getD t 0) (W.getD t 0)
def fin (s : St) (v : St) : List Nat := [ad s.a v.a, ad s.b v.b, ad s.c v.c, ad s.d v.d, ad s.e v.e, ad s.f v.f, ad s.g v.g, ad s.h v.h]
def proc (s W K : List Nat) : List Nat := fin (St.of s) (rnds (St.of s) K W 64)
def blk (s : List Nat) (b : List UInt8) : List Nat := proc s (sch b 64) kw
def chain (s : List Nat) : Nat → List UInt8 → List Nat
 | 0, _ => s
 | n + 1, b => chain (blk s (b.take 64)) n (b.drop 64)
def zn (n : Nat) : Nat := (64 - (n % 64 + 9) % 64) % 64
def padl (n : Nat) : List UInt8 := 128 :: (List.replicate (zn n) 0 ++ be 8 (n * 8 % 18446744073709551616))
def joinl (s : List Nat) : List UInt8 := s.flatMap (be 4)
def hash (b : List UInt8) : List UInt8 := joinl (chain iv ((b.length + (padl b.length).length) / 64) (b ++ padl b.length))
def over (left : List UInt8) (h : Nat) (p : List UInt8) : List UInt8 := left.take h ++ p ++ left.drop (h + p.length)
def by2 (n : Nat) : List UInt8 := [UInt8.ofNat (n / 256), UInt8.ofNat n]
def lessB : List UInt8 → List UInt8 → Bool
 | _, [] => false
 | [], _ :: _ => true
 | a :: x, b :: y => a < b || (a == b && lessB x y)
theorem lessB_eq : ∀ x y, lessB x y = Op.bytesLess x y
 | [], [] => rfl
 | _ :: _, [] => rfl
 | [], _ :: _ => rfl
 | a :: x, b :: y => by
   rw [lessB, Op.bytesLess, lessB_eq x y]
theorem lessB_irrefl : ∀ x, lessB x x = false
 | [] => rfl
 | a :: x => by
   rw [lessB, lessB_irrefl x]
   simp
theorem lessB_or : ∀ x y, x ≠ y → lessB x y = !lessB y x
 | [], [], h => absurd rfl h
 | _ :: _, [], _ => rfl
 | [], _ :: _, _ => rfl
 | a :: x, b :: y, h => by
   rw [lessB, lessB]
   by_cases hab : a = b
   ·subst hab
    have hxy : x ≠ y := fun e => h (by rw [e])
    simp [lessB_or x y hxy]
   ·have h1 : (a == b) = false := by simpa using hab
    have h2 : (b == a) = false := by simpa using (fun e => hab e.symm)
    have h3 : a.toNat ≠ b.toNat := fun e => hab (UInt8.toNat_inj.1 e)
    rw [h1, h2]
    simp only [Bool.false_and, Bool.or_false]
    by_cases hl : a < b
    ·have : ¬ b < a := by rw [UInt8.lt_iff_toNat_lt] at hl ⊢; omega
     simp [hl, this]
    ·have : b < a := by rw [UInt8.lt_iff_toNat_lt] at hl ⊢; omega
     simp [hl, this]
theorem lessB_trans : ∀ x y z, lessB x y = true → lessB y z = true → lessB x z = true
 | _, _, [], _, h => by cases ‹List UInt8› <;> simp [lessB] at h
 | _, [], _ :: _, h, _ => by cases ‹List UInt8› <;> simp [lessB] at h
 | [], _ :: _, _ :: _, _, _ => rfl
 | a :: x, b :: y, c :: z, h1, h2 => by
   rw [lessB] at h1 h2 ⊢
   simp only [Bool.or_eq_true, Bool.and_eq_true, decide_eq_true_eq, beq_iff_eq] at h1 h2 ⊢
   rcases h1 with h1 | ⟨rfl, h1⟩
   ·rcases h2 with h2 | ⟨rfl, h2⟩
    ·left; rw [UInt8.lt_iff_toNat_lt] at h1 h2 ⊢; omega
    ·exact .inl h1
   ·rcases h2 with h2 | ⟨rfl, h2⟩
    ·exact .inl h2
    ·exact .inr ⟨rfl, lessB_trans x y z h1 h2⟩
def aheadL : List (List UInt8) → List (List UInt8) → Bool
 | [], b => !b.isEmpty
 | _ :: _, [] => false
 | x :: a, y :: b => if x = y then aheadL a b else lessB x y
theorem aheadL_irrefl : ∀ a, aheadL a a = false
 | [] => rfl
 | x :: a => by rw [aheadL, if_pos rfl, aheadL_irrefl a]
theorem aheadL_or : ∀ a b, a ≠ b → aheadL a b = !aheadL b a
 | [], [], h => absurd rfl h
 | _ :: _, [], _ => rfl
 | [], _ :: _, _ => rfl
 | x :: a, y :: b, h => by
   rw [aheadL, aheadL]
   by_cases hxy : x = y
   ·subst hxy
    rw [if_pos rfl, if_pos rfl]
    exact aheadL_or a b (fun e => h (by rw [e]))
   ·rw [if_neg hxy, if_neg (fun e => hxy e.symm)]
    exact lessB_or x y hxy
theorem aheadL_trans : ∀ a b c, aheadL a b = true → aheadL b c = true → aheadL a c = true
 | [], [], c, h, _ => by simp [aheadL] at h
 | [], _ :: _, [], _, h => by simp [aheadL] at h
 | [], _ :: _, _ :: _, _, _ => rfl
 | _ :: _, [], _, h, _ => by simp [aheadL] at h
 | _ :: _, _ :: _, [], _, h => by simp [aheadL] at h
 | x :: a, y :: b, z :: c, h1, h2 => by
   rw [aheadL] at h1 h2 ⊢
   by_cases hxy : x = y
   ·subst hxy
    rw [if_pos rfl] at h1
    by_cases hyz : x = z
    ·subst hyz
     rw [if_pos rfl] at h2 ⊢
     exact aheadL_trans a b c h1 h2
    ·rw [if_neg hyz] at h2 ⊢
     exact h2
   ·rw [if_neg hxy] at h1
    by_cases hyz : y = z
    ·subst hyz
     rw [if_neg hxy]
     exact h1
    ·rw [if_neg hyz] at h2
     have h3 := lessB_trans x y z h1 h2
     by_cases hxz : x = z
     ·subst hxz
      rw [lessB_irrefl] at h3
      cases h3
     ·rw [if_neg hxz]
      exact h3
def chrB (c : UInt8) : Bool := (97 ≤ c.toNat && c.toNat ≤ 122) || (48 ≤ c.toNat && c.toNat ≤ 57) || c.toNat = 45 || c.toNat = 95
def nameB (l : List UInt8) : Bool := l.all chrB && 1 ≤ l.length && l.length ≤ 30
def splitL : List UInt8 → List UInt8 → List (List UInt8)
 | nm, [] => [nm]
 | nm, c :: r => if c = 47 then nm :: splitL [] r else splitL (nm ++ [c]) r
def cutL : List UInt8 → List (List UInt8)
 | [] => []
 | c :: r => if c = 47 then (if r = [] then [] else splitL [] r) else []
def slashB : List UInt8 → Bool
 | [] => false
 | c :: _ => c = 47
def rightB (p : List UInt8) : Bool := p.length ≤ 100 && (cutL p).all nameB && slashB p && (cutL p).length ≤ 8
def joinL (l : List (List UInt8)) : List UInt8 := l.flatMap fun x => 47 :: x
def madeL (l : List (List UInt8)) : List UInt8 := if joinL l = [] then [47] else joinL l
theorem joinL_nil : joinL [] = [] := rfl
theorem joinL_cons (x : List UInt8) (l : List (List UInt8)) : joinL (x :: l) = 47 :: (x ++ joinL l) := by simp [joinL]
theorem joinL_snoc (l : List (List UInt8)) (x : List UInt8) : joinL (l ++ [x]) = joinL l ++ 47 :: x := by simp [joinL]
theorem chrB_slash : chrB 47 = false := by decide
theorem splitL_join (nm x : List UInt8) (l : List (List UInt8)) (hx : x.all chrB = true) (hl : ∀ y ∈ l, y.all chrB = true) : splitL nm (x ++ joinL l) = (nm ++ x) :: l := by
 induction x generalizing nm with
 | nil =>
   cases l with
   | nil => simp [joinL, splitL]
   | cons y l =>
     rw [List.nil_append, List.append_nil, joinL_cons, splitL, if_pos rfl]
     have ih : splitL [] (y ++ joinL l) = ([] ++ y) :: l := by
      clear hx
      induction l generalizing y nm with
      | nil =>
        have hy := hl y (by simp)
        clear hl nm
        suffices h : ∀ nm, splitL nm (y ++ joinL []) = [nm ++ y] by simpa using h []
        intro nm
        rw [joinL_nil, List.append_nil]
        induction y generalizing nm with
        | nil => simp [splitL]
        | cons c y ihy =>
          have hc : c ≠ 47 := fun e => by subst e; simp [chrB_slash] at hy
          rw [splitL, if_neg hc, ihy (by simpa using (by simp at hy; exact hy.2))]
          simp
      | cons z l ihl =>
        have hy := hl y (by simp)
        suffices h : ∀ nm, splitL nm (y ++ joinL (z :: l)) = (nm ++ y) :: z :: l by exact h []
        have ih2 := ihl [] z (fun q hq => hl q (by simp at hq ⊢; exact .inr hq))
        intro nm
        clear hl
        induction y generalizing nm with
        | nil => rw [List.nil_append, joinL_cons, splitL, if_pos rfl, ih2]; simp
        | cons c y ihy =>
          have hc : c ≠ 47 := fun e => by subst e; simp [chrB_slash] at hy
          rw [List.cons_append, splitL, if_neg hc, ihy (by simpa using (by simp at hy; exact hy.2))]
          simp
     rw [ih, List.nil_append]
 | cons c x ih =>
   have hc : c ≠ 47 := fun e => by subst e; simp [chrB_slash] at hx
   rw [List.cons_append, splitL, if_neg hc, ih _ (by simp at hx ⊢; exact hx.2)]
   simp
theorem cutL_made (l : List (List UInt8)) (hl : ∀ y ∈ l, y.all chrB = true) (hn : ∀ y ∈ l, y ≠ []) : cutL (madeL l) = l := by
 cases l with
 | nil => decide
 | cons x l =>
   have h1 : madeL (x :: l) = 47 :: (x ++ joinL l) := by unfold madeL; rw [joinL_cons, if_neg (by simp)]
   have h2 : x ++ joinL l ≠ [] := fun e => hn x (by simp) (List.append_eq_nil_iff.1 e).1
   rw [h1, cutL, if_pos rfl, if_neg h2, splitL_join [] x l (hl x (by simp)) (fun y hy => hl y (by simp [hy]))]
   simp
theorem join_split : ∀ r nm, joinL (splitL nm r) = 47 :: (nm ++ r)
 | [], nm => by simp [splitL, joinL]
 | c :: r, nm => by
   rw [splitL]
   by_cases hc : c = 47
   ·subst hc
    rw [if_pos rfl, joinL_cons, join_split r []]
    simp
   ·rw [if_neg hc, join_split r (nm ++ [c])]
    simp
theorem made_cut (p : List UInt8) (h : slashB p = true) : madeL (cutL p) = p := by
 cases p with
 | nil => cases h
 | cons c r =>
   have hc : c = 47 := by simpa [slashB] using h
   subst hc
   rw [cutL, if_pos rfl]
   by_cases hr : r = []
   ·rw [if_pos hr, hr]; decide
   ·rw [if_neg hr]
    unfold madeL
    rw [join_split, if_neg (by simp)]
    simp
theorem cut_inj (p q : List UInt8) (hp : slashB p = true) (hq : slashB q = true) (h : cutL p = cutL q) : p = q := by rw [← made_cut p hp, ← made_cut q hq, h]
end Go.Proofs.YtdihngkdhanhkaaGreatDoor
