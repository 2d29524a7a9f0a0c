/-
  Texts O0 Y0 Lp LA Rel4 LB Y1.
-/
import GoSem.Op.String
import Derived.Laws.EntriesVeiled
import Derived.WalkLawsBesides
import Derived.Test.YtgfobinklijkpaaGreatDoorX01
import Derived.Test.YtgfobinklijkpaaGreatDoorX02
import Derived.Test.YtgfobinklijkpaaGreatDoorX04
import Derived.Test.YtgfobinklijkpaaGreatDoorX06
namespace Go.Proofs.YtgfobinklijkpaaGreatDoor
set_option maxRecDepth 100000
set_option maxHeartbeats 16000000
abbrev Or := Int × Int × Int × List UInt8 × List UInt8 × Int × Int × Int
instance dec5O : DecidableEq (List UInt8 × List UInt8 × Int × Int × Int) := fun _ _ => inferInstance
instance decO : DecidableEq Or := fun a b => inferInstanceAs (Decidable ((a : Int × Int × Int × (List UInt8 × List UInt8 × Int × Int × Int)) = b))
abbrev oC (o : Or) : Int := o.1
abbrev oQ (o : Or) : Int := o.2.1
abbrev oK (o : Or) : Int := o.2.2.1
abbrev oP (o : Or) : List UInt8 := o.2.2.2.1
abbrev oV (o : Or) : List UInt8 := o.2.2.2.2.1
abbrev oR (o : Or) : Int := o.2.2.2.2.2.1
abbrev oS (o : Or) : Int := o.2.2.2.2.2.2.1
abbrev oT (o : Or) : Int := o.2.2.2.2.2.2.2
def or0 : Or := (0, 0, 0, [], [], 0, 0, 0)
abbrev Rp := Int × Int × Int × List UInt8 × Int × List ByteArray
abbrev pC (r : Rp) : Int := r.1
abbrev pQ (r : Rp) : Int := r.2.1
abbrev pE (r : Rp) : Int := r.2.2.1
abbrev pV (r : Rp) : List UInt8 := r.2.2.2.1
abbrev pR (r : Rp) : Int := r.2.2.2.2.1
abbrev pN (r : Rp) : List ByteArray := r.2.2.2.2.2
def rp0 : Rp := (0, 0, 0, [], 0, [])
def ba (l : List UInt8) : ByteArray := ⟨l.toArray⟩
theorem ba_size (l : List UInt8) : (ba l).size = l.length := by
 show (ByteArray.mk l.toArray).data.size = _
 simp
theorem ba_list (l : List UInt8) : (ba l).data.toList = l := by simp [ba]
def encI (n : Int) : List UInt8 := enc (zig n).toNat
def encIs : List Int → List UInt8
 | [] => []
 | n :: r => encI n ++ encIs r
theorem encIs_append (a b : List Int) : encIs (a ++ b) = encIs a ++ encIs b := by
 induction a with
 | nil => rfl
 | cons s r ih => simp [encIs, ih, List.append_assoc]
def encX (s : List UInt8) : List UInt8 := encS (ba s)
def encO (o : Or) : List UInt8 := encIs [oC o, oQ o, oK o, oR o, oS o, oT o] ++ (encX (oP o) ++ encX (oV o))
def fit64 (n : Int) : Prop := -9223372036854775808 ≤ n ∧ n ≤ 9223372036854775807
def takeIs : Nat → List UInt8 → List Int × List UInt8 × Nat
 | 0, l => ([], l, 0)
 | k + 1, l =>
   if (takeN l).2.2 ≠ 0 then ([], [], (takeN l).2.2)
   else if (takeIs k (takeN l).2.1).2.2 ≠ 0 then ([], [], (takeIs k (takeN l).2.1).2.2)
   else (zag (takeN l).1 :: (takeIs k (takeN l).2.1).1, (takeIs k (takeN l).2.1).2.1, 0)
def preI (acc : List Int) (r : List Int × List UInt8 × Nat) : List Int × List UInt8 × Nat :=
 if r.2.2 ≠ 0 then ([], [], r.2.2) else (acc ++ r.1, r.2.1, 0)
theorem takeIs_err (k : Nat) (l : List UInt8) (h : (takeIs k l).2.2 ≠ 0) : takeIs k l = ([], [], (takeIs k l).2.2) := by
 cases k with
 | zero => simp [takeIs] at h
 | succ k =>
   unfold takeIs at h ⊢
   split
   ·rfl
   ·rename_i h1
    rw [if_neg h1] at h
    split
    ·rfl
    ·rename_i h2
     rw [if_neg h2] at h
     simp at h
theorem preI_nil (k : Nat) (l : List UInt8) : preI [] (takeIs k l) = takeIs k l := by
 unfold preI
 split
 ·rename_i h; exact (takeIs_err k l h).symm
 ·rename_i h
  have : (takeIs k l).2.2 = 0 := by simpa using h
  rw [List.nil_append, ← this]
theorem preI_step (acc : List Int) (k : Nat) (l r : List UInt8) (n : Nat) (h : takeN l = (n, r, 0)) : preI acc (takeIs (k + 1) l) = preI (acc ++ [zag n]) (takeIs k r) := by
 unfold preI
 rw [takeIs, h]
 by_cases h2 : (takeIs k r).2.2 = 0
 ·simp [h2]
 ·simp [h2]
theorem preI_stop (acc : List Int) (k : Nat) (l : List UInt8) (h : (takeN l).2.2 ≠ 0) : preI acc (takeIs (k + 1) l) = ([], [], (takeN l).2.2) := by
 unfold preI
 rw [takeIs, if_pos h]
 simp [h]
theorem takeIs_enc : ∀ (ns : List Int) (r : List UInt8), (∀ n ∈ ns, fit64 n) → takeIs ns.length (encIs ns ++ r) = (ns, r, 0)
 | [], _, _ => rfl
 | n :: t, r, h => by
   have hn := h n (by simp)
   have h1 := takeN_enc (zig n).toNat (zig_bound n hn.1 hn.2) (encIs t ++ r)
   have h2 := takeIs_enc t r (fun x hx => h x (by simp [hx]))
   show takeIs (t.length + 1) (encIs (n :: t) ++ r) = _
   rw [show encIs (n :: t) ++ r = enc (zig n).toNat ++ (encIs t ++ r) by simp [encIs, encI, List.append_assoc]]
   unfold takeIs
   rw [h1]
   simp [h2, zag_zig]
theorem zag_fit (u : Nat) (h : u < 18446744073709551616) : fit64 (zag u) := by
 unfold zag fit64
 split <;> constructor <;> omega
theorem takeIs_only : ∀ (k : Nat) (l : List UInt8) (ns : List Int) (r : List UInt8), takeIs k l = (ns, r, 0) → encIs ns ++ r = l ∧ ns.length = k ∧ ∀ n ∈ ns, fit64 n
 | 0, l, ns, r, h => by
   unfold takeIs at h
   injection h with h1 h2
   injection h2 with h2 h3
   subst h1 h2
   exact ⟨rfl, rfl, fun _ h => by cases h⟩
 | k + 1, l, ns, r, h => by
   unfold takeIs at h
   split at h
   ·rename_i h1
    injection h with h2 h3
    injection h3 with h3 h4
    exact absurd h4 h1
   ·rename_i h1
    split at h
    ·rename_i h2
     injection h with h3 h4
     injection h4 with h4 h5
     exact absurd h5 h2
    ·rename_i h2
     injection h with h3 h4
     injection h4 with h4 h5
     have e1 : (takeN l).2.2 = 0 := by simpa using h1
     have e2 : (takeIs k (takeN l).2.1).2.2 = 0 := by simpa using h2
     obtain ⟨q1, q2⟩ := takeN_only l (takeN l).1 (takeN l).2.1 (by rw [← e1])
     obtain ⟨q3, q4, q5⟩ := takeIs_only k (takeN l).2.1 (takeIs k (takeN l).2.1).1 (takeIs k (takeN l).2.1).2.1 (by rw [← e2])
     subst h3 h4
     refine ⟨?_, by simp [q4], ?_⟩
     ·rw [encIs, List.append_assoc, q3]
      unfold encI
      rw [zig_zag, q1]
     ·intro n hn
      rcases List.mem_cons.1 hn with rfl | hn
      ·exact zag_fit _ q2
      ·exact q5 n hn
def usesT (k : Int) : List UInt8 :=
 if k = 1 then [112, 118, 115] else if k = 2 ∨ k = 5 ∨ k = 10 ∨ k = 11 then [112] else if k = 3 then [112, 118, 110] else if k = 4 then [112, 110] else if k = 6 then [115, 116] else if k = 7 ∨ k = 8 then [115] else if k = 9 then [116] else []
def sizedO (o : Or) : Bool := decide (0 ≤ oC o) && decide (oC o ≤ 1000) && decide (1 ≤ oQ o) && decide (oQ o ≤ 1000000000) && decide (0 ≤ oK o) && decide (oK o ≤ 11) && decide ((oP o).length ≤ 100) && decide ((oV o).length ≤ 1000)
def usedO (o : Or) : Bool :=
 ((usesT (oK o)).contains 112 || decide (oP o = [])) && ((usesT (oK o)).contains 118 || decide (oV o = [])) && ((usesT (oK o)).contains 110 || decide (oR o = 0)) && ((usesT (oK o)).contains 115 || decide (oS o = 0)) && ((usesT (oK o)).contains 116 || decide (oT o = 0))
def mayO (o : Or) : Bool := sizedO o && usedO o
theorem may_sized {o : Or} (h : mayO o = true) : 0 ≤ oC o ∧ oC o ≤ 1000 ∧ 1 ≤ oQ o ∧ oQ o ≤ 1000000000 ∧ 0 ≤ oK o ∧ oK o ≤ 11 ∧ (oP o).length ≤ 100 ∧ (oV o).length ≤ 1000 := by
 unfold mayO sizedO at h
 simp only [Bool.and_eq_true, decide_eq_true_eq] at h
 omega
def ofTaken (l : List Int) (p v : List UInt8) : Or := (l.getD 0 0, l.getD 1 0, l.getD 2 0, p, v, l.getD 3 0, l.getD 4 0, l.getD 5 0)
def takeO (b : List UInt8) : Or × List UInt8 × Nat :=
 if (takeIs 6 b).2.2 ≠ 0 then (or0, [], (takeIs 6 b).2.2)
 else if (takeS (takeIs 6 b).2.1 100).2.2 ≠ 0 then (or0, [], (takeS (takeIs 6 b).2.1 100).2.2)
 else if (takeS (takeS (takeIs 6 b).2.1 100).2.1 1000).2.2 ≠ 0 then (or0, [], (takeS (takeS (takeIs 6 b).2.1 100).2.1 1000).2.2)
 else if mayO (ofTaken (takeIs 6 b).1 (takeS (takeIs 6 b).2.1 100).1 (takeS (takeS (takeIs 6 b).2.1 100).2.1 1000).1) = false then (or0, [], 3)
 else (ofTaken (takeIs 6 b).1 (takeS (takeIs 6 b).2.1 100).1 (takeS (takeS (takeIs 6 b).2.1 100).2.1 1000).1, (takeS (takeS (takeIs 6 b).2.1 100).2.1 1000).2.1, 0)
theorem takeX_enc (s r : List UInt8) (m : Int) (hs : (s.length : Int) ≤ m) (h0 : 0 ≤ m) (hm : m ≤ 9223372036854775807) : takeS (encX s ++ r) m = (s, r, 0) := by
 have h := takeS_enc (ba s) r m (by rw [ba_size]; omega) (by rw [ba_size]; omega)
 rw [ba_list] at h
 exact h
theorem takeO_enc (o : Or) (r : List UInt8) (hm : mayO o = true) (h3 : fit64 (oR o)) (h4 : fit64 (oS o)) (h5 : fit64 (oT o)) : takeO (encO o ++ r) = (o, r, 0) := by
 obtain ⟨m1, m2, m3, m4, m5, m6, m7, m8⟩ := may_sized hm
 have e1 := takeIs_enc [oC o, oQ o, oK o, oR o, oS o, oT o] (encX (oP o) ++ (encX (oV o) ++ r)) (by
  intro n hn
  simp only [List.mem_cons, List.not_mem_nil, or_false] at hn
  unfold fit64 at h3 h4 h5 ⊢
  rcases hn with rfl | rfl | rfl | rfl | rfl | rfl <;> constructor <;> omega)
 have e2 := takeX_enc (oP o) (encX (oV o) ++ r) 100 (by omega) (by omega) (by omega)
 have e3 := takeX_enc (oV o) r 1000 (by omega) (by omega) (by omega)
 have e0 : encO o ++ r = encIs [oC o, oQ o, oK o, oR o, oS o, oT o] ++ (encX (oP o) ++ (encX (oV o) ++ r)) := by simp [encO, List.append_assoc]
 rw [show [oC o, oQ o, oK o, oR o, oS o, oT o].length = 6 from rfl] at e1
 unfold takeO
 rw [e0, e1]
 simp only [e2, e3]
 have eo : ofTaken [oC o, oQ o, oK o, oR o, oS o, oT o] (oP o) (oV o) = o := rfl
 rw [eo, hm]
 simp
theorem takeO_only (b : List UInt8) (o : Or) (r : List UInt8) (h : takeO b = (o, r, 0)) : mayO o = true ∧ encO o ++ r = b ∧ fit64 (oR o) ∧ fit64 (oS o) ∧ fit64 (oT o) := by
 unfold takeO at h
 split at h
 ·rename_i h1; injection h with q1 q2; injection q2 with q2 q3; exact absurd q3 h1
 rename_i h1
 split at h
 ·rename_i h2; injection h with q1 q2; injection q2 with q2 q3; exact absurd q3 h2
 rename_i h2
 split at h
 ·rename_i h3; injection h with q1 q2; injection q2 with q2 q3; exact absurd q3 h3
 rename_i h3
 split at h
 ·injection h with q1 q2; injection q2 with q2 q3; cases q3
 rename_i h4
 injection h with q1 q2
 injection q2 with q2 q3
 have e1 : (takeIs 6 b).2.2 = 0 := by simpa using h1
 have e2 : (takeS (takeIs 6 b).2.1 100).2.2 = 0 := by simpa using h2
 have e3 : (takeS (takeS (takeIs 6 b).2.1 100).2.1 1000).2.2 = 0 := by simpa using h3
 obtain ⟨a1, a2, a3⟩ := takeIs_only 6 b (takeIs 6 b).1 (takeIs 6 b).2.1 (by rw [← e1])
 have b1 := takeS_only (takeIs 6 b).2.1 (takeS (takeIs 6 b).2.1 100).1 (takeS (takeIs 6 b).2.1 100).2.1 100 (by rw [← e2])
 have b2 := takeS_only (takeS (takeIs 6 b).2.1 100).2.1 (takeS (takeS (takeIs 6 b).2.1 100).2.1 1000).1 (takeS (takeS (takeIs 6 b).2.1 100).2.1 1000).2.1 1000 (by rw [← e3])
 rw [q2] at b2
 generalize hL : (takeIs 6 b).1 = L at *
 generalize hP : (takeS (takeIs 6 b).2.1 100).1 = P at *
 generalize hV : (takeS (takeS (takeIs 6 b).2.1 100).2.1 1000).1 = V at *
 subst q1
 refine ⟨by simpa using h4, ?_, ?_⟩
 ·match L, a2, a1 with
  | [n0, n1, n2, n3, n4, n5], _, a1 =>
    rw [← a1, ← b1, ← b2]
    simp [encO, ofTaken, oC, oQ, oK, oR, oS, oT, oP, oV, encX, ba, List.append_assoc]
 ·match L, a2, a3 with
  | [n0, n1, n2, n3, n4, n5], _, a3 => exact ⟨a3 n3 (by simp), a3 n4 (by simp), a3 n5 (by simp)⟩
def lessB : List UInt8 → List UInt8 → Bool
 | _, [] => false
 | [], _ :: _ => true
 | a :: x, b :: y => a < b || (a == b && lessB x y)
theorem lessB_eq : ∀ x y, lessB x y = Op.bytesLess x y
 | [], [] => rfl
 | _ :: _, [] => rfl
 | [], _ :: _ => rfl
 | a :: x, b :: y => by
   rw [lessB, Op.bytesLess, lessB_eq x y]
theorem lessB_irrefl : ∀ x, lessB x x = false
 | [] => rfl
 | a :: x => by
   rw [lessB, lessB_irrefl x]
   simp
theorem lessB_or : ∀ x y, x ≠ y → lessB x y = !lessB y x
 | [], [], h => absurd rfl h
 | _ :: _, [], _ => rfl
 | [], _ :: _, _ => rfl
 | a :: x, b :: y, h => by
   rw [lessB, lessB]
   by_cases hab : a = b
   ·subst hab
    have hxy : x ≠ y := fun e => h (by rw [e])
    simp [lessB_or x y hxy]
   ·have h1 : (a == b) = false := by simpa using hab
    have h2 : (b == a) = false := by simpa using (fun e => hab e.symm)
    have h3 : a.toNat ≠ b.toNat := fun e => hab (UInt8.toNat_inj.1 e)
    rw [h1, h2]
    simp only [Bool.false_and, Bool.or_false]
    by_cases hl : a < b
    ·have : ¬ b < a := by rw [UInt8.lt_iff_toNat_lt] at hl ⊢; omega
     simp [hl, this]
    ·have : b < a := by rw [UInt8.lt_iff_toNat_lt] at hl ⊢; omega
     simp [hl, this]
theorem lessB_trans : ∀ x y z, lessB x y = true → lessB y z = true → lessB x z = true
 | _, _, [], _, h => by cases ‹List UInt8› <;> simp [lessB] at h
 | _, [], _ :: _, h, _ => by cases ‹List UInt8› <;> simp [lessB] at h
 | [], _ :: _, _ :: _, _, _ => rfl
 | a :: x, b :: y, c :: z, h1, h2 => by
   rw [lessB] at h1 h2 ⊢
   simp only [Bool.or_eq_true, Bool.and_eq_true, decide_eq_true_eq, beq_iff_eq] at h1 h2 ⊢
   rcases h1 with h1 | ⟨rfl, h1⟩
   ·rcases h2 with h2 | ⟨rfl, h2⟩
    ·left; rw [UInt8.lt_iff_toNat_lt] at h1 h2 ⊢; omega
    ·exact .inl h1
   ·rcases h2 with h2 | ⟨rfl, h2⟩
    ·exact .inl h2
    ·exact .inr ⟨rfl, lessB_trans x y z h1 h2⟩
def aheadL : List (List UInt8) → List (List UInt8) → Bool
 | [], b => !b.isEmpty
 | _ :: _, [] => false
 | x :: a, y :: b => if x = y then aheadL a b else lessB x y
def belowL : List (List UInt8) → List (List UInt8) → Bool
 | [], b => !b.isEmpty
 | _ :: _, [] => false
 | x :: a, y :: b => if x = y then belowL a b else false
theorem aheadL_irrefl : ∀ a, aheadL a a = false
 | [] => rfl
 | x :: a => by rw [aheadL, if_pos rfl, aheadL_irrefl a]
theorem aheadL_or : ∀ a b, a ≠ b → aheadL a b = !aheadL b a
 | [], [], h => absurd rfl h
 | _ :: _, [], _ => rfl
 | [], _ :: _, _ => rfl
 | x :: a, y :: b, h => by
   rw [aheadL, aheadL]
   by_cases hxy : x = y
   ·subst hxy
    rw [if_pos rfl, if_pos rfl]
    exact aheadL_or a b (fun e => h (by rw [e]))
   ·rw [if_neg hxy, if_neg (fun e => hxy e.symm)]
    exact lessB_or x y hxy
theorem aheadL_trans : ∀ a b c, aheadL a b = true → aheadL b c = true → aheadL a c = true
 | [], [], c, h, _ => by simp [aheadL] at h
 | [], _ :: _, [], _, h => by simp [aheadL] at h
 | [], _ :: _, _ :: _, _, _ => rfl
 | _ :: _, [], _, h, _ => by simp [aheadL] at h
 | _ :: _, _ :: _, [], _, h => by simp [aheadL] at h
 | x :: a, y :: b, z :: c, h1, h2 => by
   rw [aheadL] at h1 h2 ⊢
   by_cases hxy : x = y
   ·subst hxy
    rw [if_pos rfl] at h1
    by_cases hyz : x = z
    ·subst hyz
     rw [if_pos rfl] at h2 ⊢
     exact aheadL_trans a b c h1 h2
    ·rw [if_neg hyz] at h2 ⊢
     exact h2
   ·rw [if_neg hxy] at h1
    by_cases hyz : y = z
    ·subst hyz
     rw [if_neg hxy]
     exact h1
    ·rw [if_neg hyz] at h2
     have h3 := lessB_trans x y z h1 h2
     by_cases hxz : x = z
     ·subst hxz
      rw [lessB_irrefl] at h3
      cases h3
     ·rw [if_neg hxz]
      exact h3
def chrB (c : UInt8) : Bool := (97 ≤ c.toNat && c.toNat ≤ 122) || (48 ≤ c.toNat && c.toNat ≤ 57) || c.toNat = 45 || c.toNat = 95
def nameB (l : List UInt8) : Bool := l.all chrB && 1 ≤ l.length && l.length ≤ 30
def splitL : List UInt8 → List UInt8 → List (List UInt8)
 | nm, [] => [nm]
 | nm, c :: r => if c = 47 then nm :: splitL [] r else splitL (nm ++ [c]) r
def cutL : List UInt8 → List (List UInt8)
 | [] => []
 | c :: r => if c = 47 then (if r = [] then [] else splitL [] r) else []
def slashB : List UInt8 → Bool
 | [] => false
 | c :: _ => c = 47
def rightB (p : List UInt8) : Bool := p.length ≤ 100 && (cutL p).all nameB && slashB p && (cutL p).length ≤ 8
def joinL (l : List (List UInt8)) : List UInt8 := l.flatMap fun x => 47 :: x
def madeL (l : List (List UInt8)) : List UInt8 := if joinL l = [] then [47] else joinL l
theorem joinL_nil : joinL [] = [] := rfl
theorem joinL_cons (x : List UInt8) (l : List (List UInt8)) : joinL (x :: l) = 47 :: (x ++ joinL l) := by simp [joinL]
theorem joinL_snoc (l : List (List UInt8)) (x : List UInt8) : joinL (l ++ [x]) = joinL l ++ 47 :: x := by simp [joinL]
theorem chrB_slash : chrB 47 = false := by decide
theorem splitL_join (nm x : List UInt8) (l : List (List UInt8)) (hx : x.all chrB = true) (hl : ∀ y ∈ l, y.all chrB = true) : splitL nm (x ++ joinL l) = (nm ++ x) :: l := by
 induction x generalizing nm with
 | nil =>
   cases l with
   | nil => simp [joinL, splitL]
   | cons y l =>
     rw [List.nil_append, List.append_nil, joinL_cons, splitL, if_pos rfl]
     have ih : splitL [] (y ++ joinL l) = ([] ++ y) :: l := by
      clear hx
      induction l generalizing y nm with
      | nil =>
        have hy := hl y (by simp)
        clear hl nm
        suffices h : ∀ nm, splitL nm (y ++ joinL []) = [nm ++ y] by simpa using h []
        intro nm
        rw [joinL_nil, List.append_nil]
        induction y generalizing nm with
        | nil => simp [splitL]
        | cons c y ihy =>
          have hc : c ≠ 47 := fun e => by subst e; simp [chrB_slash] at hy
          rw [splitL, if_neg hc, ihy (by simpa using (by simp at hy; exact hy.2))]
          simp
      | cons z l ihl =>
        have hy := hl y (by simp)
        suffices h : ∀ nm, splitL nm (y ++ joinL (z :: l)) = (nm ++ y) :: z :: l by exact h []
        have ih2 := ihl [] z (fun q hq => hl q (by simp at hq ⊢; exact .inr hq))
        intro nm
        clear hl
        induction y generalizing nm with
        | nil => rw [List.nil_append, joinL_cons, splitL, if_pos rfl, ih2]; simp
        | cons c y ihy =>
          have hc : c ≠ 47 := fun e => by subst e; simp [chrB_slash] at hy
          rw [List.cons_append, splitL, if_neg hc, ihy (by simpa using (by simp at hy; exact hy.2))]
          simp
     rw [ih, List.nil_append]
 | cons c x ih =>
   have hc : c ≠ 47 := fun e => by subst e; simp [chrB_slash] at hx
   rw [List.cons_append, splitL, if_neg hc, ih _ (by simp at hx ⊢; exact hx.2)]
   simp
theorem cutL_made (l : List (List UInt8)) (hl : ∀ y ∈ l, y.all chrB = true) (hn : ∀ y ∈ l, y ≠ []) : cutL (madeL l) = l := by
 cases l with
 | nil => decide
 | cons x l =>
   have h1 : madeL (x :: l) = 47 :: (x ++ joinL l) := by unfold madeL; rw [joinL_cons, if_neg (by simp)]
   have h2 : x ++ joinL l ≠ [] := fun e => hn x (by simp) (List.append_eq_nil_iff.1 e).1
   rw [h1, cutL, if_pos rfl, if_neg h2, splitL_join [] x l (hl x (by simp)) (fun y hy => hl y (by simp [hy]))]
   simp
theorem join_split : ∀ r nm, joinL (splitL nm r) = 47 :: (nm ++ r)
 | [], nm => by simp [splitL, joinL]
 | c :: r, nm => by
   rw [splitL]
   by_cases hc : c = 47
   ·subst hc
    rw [if_pos rfl, joinL_cons, join_split r []]
    simp
   ·rw [if_neg hc, join_split r (nm ++ [c])]
    simp
theorem made_cut (p : List UInt8) (h : slashB p = true) : madeL (cutL p) = p := by
 cases p with
 | nil => cases h
 | cons c r =>
   have hc : c = 47 := by simpa [slashB] using h
   subst hc
   rw [cutL, if_pos rfl]
   by_cases hr : r = []
   ·rw [if_pos hr, hr]; decide
   ·rw [if_neg hr]
    unfold madeL
    rw [join_split, if_neg (by simp)]
    simp
theorem cut_inj (p q : List UInt8) (hp : slashB p = true) (hq : slashB q = true) (h : cutL p = cutL q) : p = q := by rw [← made_cut p hp, ← made_cut q hq, h]
open Go.RowKit
def Ht (h : Nat) : Prop := h = 1 ∨ h = 2 ∨ h = 3 ∨ h = 4 ∨ h = 5
theorem Ht.le {h : Nat} (H : Ht h) : 1 ≤ h ∧ h ≤ 5 := by rcases H with rfl | rfl | rfl | rfl | rfl <;> decide
theorem Ht.of {h : Nat} (h1 : 1 ≤ h) (h5 : h ≤ 5) : Ht h := by unfold Ht; omega
theorem Blk.at_ {w : World} {g : Nat} {cs : List Value} {t : TypeId} (h : Blk w g cs t) (j : Nat) (v : Value) (hj : cs[j]? = some v) : w.cell? ⟨g, j, none⟩ = some v := (h.cell j).trans hj
theorem ret_blkUL {P : Program} {fn : Func} {p : Tmp} {ty : TypeId} (h : fn.results = #[.cell p ty]) (tmps : Array Value) (w : World) (g : Nat) (t : TypeId) (cs : List Value)
 (hp : tmps.getD p undef = .pointer (some ⟨g, 0, none⟩)) (hb : Blk w g cs t) (d : TypeDesc) (hu : P.underlying ty = some d) (hd : d.isRow = true) (hi : (P.info? ty).map (·.size) = some cs.length) :
 (results fn tmps).run P w = .ok (.agg cs.toArray) w :=
 results_cell_row h tmps w g t cs.toArray (0, 0) d hp hb hu (by cases d <;> first | rfl | cases hd) (by simpa using hi)
theorem Own.apart {e : TypeId} {w : World} {base g : Nat} {v : Value} {l : List UInt8} (h : Own e w base v l) (hg : g < base) : Apart g v := fun a n c hv hn => by
 obtain ⟨_, ⟨hv2, _⟩ | ⟨g2, cap, cur, hv2, hb, _⟩⟩ := h
 ·rw [hv] at hv2; cases hv2
 ·rw [hv] at hv2
  injection hv2 with e1 e2 e3
  injection e1 with e1
  subst e1
  show g2 ≠ g
  omega
section
variable {P : Program} {l : List Oper} {Q : Exit → Act → World → Prop} {F : (Nat → Value) → Act} {Φ : Nat → Value → World → Prop} {w0 : World}
theorem StepsAt.skip (j : Nat) {n : Nat} {o : Oper} {r : List Oper} (hΦ : Φ j = eqV undef) (hp : ∀ x v, (F x).put o.dst v = F (upd x j v)) (ho : l[j]? = some o)
 (hw : ∀ x w, (∀ k, waitsB .any l.toArray j k = true → Φ k (x k) w) → Region.wanted o (yielded l.toArray (F x).tmps) = false)
 (hr : StepsAt P l Q F Φ w0 n r (j + 1)) : StepsAt P l Q F Φ w0 (n + 1) (o :: r) j := by
 refine ⟨⟨fun u w w' h1 _ => by rw [hΦ] at h1 ⊢; exact h1, hp, fun x w hb hd => ?_⟩, hr⟩
 unfold wpOp
 rw [show l.toArray[j]? = some o by simpa using ho]
 simp only [hw x w hd, Bool.false_eq_true, if_false]
 exact ⟨undef, rfl, Below.refl _ _, by rw [hΦ]; rfl⟩
end
abbrev txt (l : List UInt8) : Value := .string ⟨l.toArray⟩
theorem run_index_txt (s : List UInt8) (i : Nat) (hi : i < s.length) (w : World) : (Instr.index 9 (txt s) (.int .i64 (i : Int))).run Tryz.prog w = .ok (.int .u8 (((s.getD i 0).toNat : Nat) : Int)) w := by
 have h := run_index_string (P := Tryz.prog) (w := w) 9 ⟨s.toArray⟩ .i64 (i : Int) Tryz.underlying9
 rw [h]
 have hs : (⟨s.toArray⟩ : ByteArray).size = s.length := rfl
 simp [hs, hi]
 rfl
theorem nameB_of (s : List UInt8) (b : Bool) (h : s.all chrB = b) : nameB s = (b && (decide (1 ≤ s.length) && decide (s.length ≤ 30))) := by
 unfold nameB
 rw [h, Bool.and_assoc]
end Go.Proofs.YtgfobinklijkpaaGreatDoor
