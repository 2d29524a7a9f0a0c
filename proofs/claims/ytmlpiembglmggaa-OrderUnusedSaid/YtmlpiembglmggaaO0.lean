/-
  Orders and replies in plain terms: how they are written, what is taken of bytes. Each theorem states its own conditions.
-/
import Derived.Test.YtmlpiembglmggaaEF
namespace Go.Proofs.Ytmlpiembglmggaa

/-- An order: client, seq, kind, path, value, version, session, span. -/
abbrev Or := Int × Int × Int × List UInt8 × List UInt8 × Int × Int × Int
instance dec5O : DecidableEq (List UInt8 × List UInt8 × Int × Int × Int) := fun _ _ => inferInstance
instance decO : DecidableEq Or := fun a b => inferInstanceAs (Decidable ((a : Int × Int × Int × (List UInt8 × List UInt8 × Int × Int × Int)) = b))
abbrev oC (o : Or) : Int := o.1
abbrev oQ (o : Or) : Int := o.2.1
abbrev oK (o : Or) : Int := o.2.2.1
abbrev oP (o : Or) : List UInt8 := o.2.2.2.1
abbrev oV (o : Or) : List UInt8 := o.2.2.2.2.1
abbrev oR (o : Or) : Int := o.2.2.2.2.2.1
abbrev oS (o : Or) : Int := o.2.2.2.2.2.2.1
abbrev oT (o : Or) : Int := o.2.2.2.2.2.2.2
def or0 : Or := (0, 0, 0, [], [], 0, 0, 0)
/-- A reply: client, seq, fault, value, version, names. -/
abbrev Rp := Int × Int × Int × List UInt8 × Int × List ByteArray
abbrev pC (r : Rp) : Int := r.1
abbrev pQ (r : Rp) : Int := r.2.1
abbrev pE (r : Rp) : Int := r.2.2.1
abbrev pV (r : Rp) : List UInt8 := r.2.2.2.1
abbrev pR (r : Rp) : Int := r.2.2.2.2.1
abbrev pN (r : Rp) : List ByteArray := r.2.2.2.2.2
def rp0 : Rp := (0, 0, 0, [], 0, [])

def ba (l : List UInt8) : ByteArray := ⟨l.toArray⟩
theorem ba_size (l : List UInt8) : (ba l).size = l.length := by
  show (ByteArray.mk l.toArray).data.size = _
  simp
theorem ba_list (l : List UInt8) : (ba l).data.toList = l := by simp [ba]
def encI (n : Int) : List UInt8 := enc (zig n).toNat
def encIs : List Int → List UInt8
  | [] => []
  | n :: r => encI n ++ encIs r
theorem encIs_append (a b : List Int) : encIs (a ++ b) = encIs a ++ encIs b := by
  induction a with
  | nil => rfl
  | cons s r ih => simp [encIs, ih, List.append_assoc]
def encX (s : List UInt8) : List UInt8 := encS (ba s)
def encO (o : Or) : List UInt8 := encIs [oC o, oQ o, oK o, oR o, oS o, oT o] ++ (encX (oP o) ++ encX (oV o))
def encR (r : Rp) : List UInt8 := encIs [pC r, pQ r, pE r, pR r] ++ (encX (pV r) ++ encL (pN r))
/-- An int's range. -/
def fit64 (n : Int) : Prop := -9223372036854775808 ≤ n ∧ n ≤ 9223372036854775807

/-- So many numbers ahead. -/
def takeIs : Nat → List UInt8 → List Int × List UInt8 × Nat
  | 0, l => ([], l, 0)
  | k + 1, l =>
    if (takeN l).2.2 ≠ 0 then ([], [], (takeN l).2.2)
    else if (takeIs k (takeN l).2.1).2.2 ≠ 0 then ([], [], (takeIs k (takeN l).2.1).2.2)
    else (zag (takeN l).1 :: (takeIs k (takeN l).2.1).1, (takeIs k (takeN l).2.1).2.1, 0)
def preI (acc : List Int) (r : List Int × List UInt8 × Nat) : List Int × List UInt8 × Nat :=
  if r.2.2 ≠ 0 then ([], [], r.2.2) else (acc ++ r.1, r.2.1, 0)
theorem takeIs_err (k : Nat) (l : List UInt8) (h : (takeIs k l).2.2 ≠ 0) : takeIs k l = ([], [], (takeIs k l).2.2) := by
  cases k with
  | zero => simp [takeIs] at h
  | succ k =>
    unfold takeIs at h ⊢
    split
    · rfl
    · rename_i h1
      rw [if_neg h1] at h
      split
      · rfl
      · rename_i h2
        rw [if_neg h2] at h
        simp at h
theorem preI_nil (k : Nat) (l : List UInt8) : preI [] (takeIs k l) = takeIs k l := by
  unfold preI
  split
  · rename_i h; exact (takeIs_err k l h).symm
  · rename_i h
    have : (takeIs k l).2.2 = 0 := by simpa using h
    rw [List.nil_append, ← this]
theorem preI_step (acc : List Int) (k : Nat) (l r : List UInt8) (n : Nat) (h : takeN l = (n, r, 0)) : preI acc (takeIs (k + 1) l) = preI (acc ++ [zag n]) (takeIs k r) := by
  unfold preI
  rw [takeIs, h]
  by_cases h2 : (takeIs k r).2.2 = 0
  · simp [h2]
  · simp [h2]
theorem preI_stop (acc : List Int) (k : Nat) (l : List UInt8) (h : (takeN l).2.2 ≠ 0) : preI acc (takeIs (k + 1) l) = ([], [], (takeN l).2.2) := by
  unfold preI
  rw [takeIs, if_pos h]
  simp [h]
theorem takeIs_enc : ∀ (ns : List Int) (r : List UInt8), (∀ n ∈ ns, fit64 n) → takeIs ns.length (encIs ns ++ r) = (ns, r, 0)
  | [], _, _ => rfl
  | n :: t, r, h => by
    have hn := h n (by simp)
    have h1 := takeN_enc (zig n).toNat (zig_bound n hn.1 hn.2) (encIs t ++ r)
    have h2 := takeIs_enc t r (fun x hx => h x (by simp [hx]))
    show takeIs (t.length + 1) (encIs (n :: t) ++ r) = _
    rw [show encIs (n :: t) ++ r = enc (zig n).toNat ++ (encIs t ++ r) by simp [encIs, encI, List.append_assoc]]
    unfold takeIs
    rw [h1]
    simp [h2, zag_zig]
theorem zag_fit (u : Nat) (h : u < 18446744073709551616) : fit64 (zag u) := by
  unfold zag fit64
  split <;> constructor <;> omega
theorem takeIs_only : ∀ (k : Nat) (l : List UInt8) (ns : List Int) (r : List UInt8), takeIs k l = (ns, r, 0) → encIs ns ++ r = l ∧ ns.length = k ∧ ∀ n ∈ ns, fit64 n
  | 0, l, ns, r, h => by
    unfold takeIs at h
    injection h with h1 h2
    injection h2 with h2 h3
    subst h1 h2
    exact ⟨rfl, rfl, fun _ h => by cases h⟩
  | k + 1, l, ns, r, h => by
    unfold takeIs at h
    split at h
    · rename_i h1
      injection h with h2 h3
      injection h3 with h3 h4
      exact absurd h4 h1
    · rename_i h1
      split at h
      · rename_i h2
        injection h with h3 h4
        injection h4 with h4 h5
        exact absurd h5 h2
      · rename_i h2
        injection h with h3 h4
        injection h4 with h4 h5
        have e1 : (takeN l).2.2 = 0 := by simpa using h1
        have e2 : (takeIs k (takeN l).2.1).2.2 = 0 := by simpa using h2
        obtain ⟨q1, q2⟩ := takeN_only l (takeN l).1 (takeN l).2.1 (by rw [← e1])
        obtain ⟨q3, q4, q5⟩ := takeIs_only k (takeN l).2.1 (takeIs k (takeN l).2.1).1 (takeIs k (takeN l).2.1).2.1 (by rw [← e2])
        subst h3 h4
        refine ⟨?_, by simp [q4], ?_⟩
        · rw [encIs, List.append_assoc, q3]
          unfold encI
          rw [zig_zag, q1]
        · intro n hn
          rcases List.mem_cons.1 hn with rfl | hn
          · exact zag_fit _ q2
          · exact q5 n hn

/-- Which of path, value, version, session, span a kind uses: p v n s t. -/
def usesT (k : Int) : List UInt8 :=
  if k = 1 then [112, 118, 115] else if k = 2 ∨ k = 5 ∨ k = 10 ∨ k = 11 then [112] else if k = 3 then [112, 118, 110] else if k = 4 then [112, 110] else if k = 6 then [115, 116] else if k = 7 ∨ k = 8 then [115] else if k = 9 then [116] else []
def sizedO (o : Or) : Bool := decide (0 ≤ oC o) && decide (oC o ≤ 1000) && decide (1 ≤ oQ o) && decide (oQ o ≤ 1000000000) && decide (0 ≤ oK o) && decide (oK o ≤ 11) && decide ((oP o).length ≤ 100) && decide ((oV o).length ≤ 1000)
def usedO (o : Or) : Bool :=
  ((usesT (oK o)).contains 112 || decide (oP o = [])) && ((usesT (oK o)).contains 118 || decide (oV o = [])) && ((usesT (oK o)).contains 110 || decide (oR o = 0)) && ((usesT (oK o)).contains 115 || decide (oS o = 0)) && ((usesT (oK o)).contains 116 || decide (oT o = 0))
def mayO (o : Or) : Bool := sizedO o && usedO o
theorem may_sized {o : Or} (h : mayO o = true) : 0 ≤ oC o ∧ oC o ≤ 1000 ∧ 1 ≤ oQ o ∧ oQ o ≤ 1000000000 ∧ 0 ≤ oK o ∧ oK o ≤ 11 ∧ (oP o).length ≤ 100 ∧ (oV o).length ≤ 1000 := by
  unfold mayO sizedO at h
  simp only [Bool.and_eq_true, decide_eq_true_eq] at h
  omega
/-- The order ahead. -/
def ofTaken (l : List Int) (p v : List UInt8) : Or := (l.getD 0 0, l.getD 1 0, l.getD 2 0, p, v, l.getD 3 0, l.getD 4 0, l.getD 5 0)
def takeO (b : List UInt8) : Or × List UInt8 × Nat :=
  if (takeIs 6 b).2.2 ≠ 0 then (or0, [], (takeIs 6 b).2.2)
  else if (takeS (takeIs 6 b).2.1 100).2.2 ≠ 0 then (or0, [], (takeS (takeIs 6 b).2.1 100).2.2)
  else if (takeS (takeS (takeIs 6 b).2.1 100).2.1 1000).2.2 ≠ 0 then (or0, [], (takeS (takeS (takeIs 6 b).2.1 100).2.1 1000).2.2)
  else if mayO (ofTaken (takeIs 6 b).1 (takeS (takeIs 6 b).2.1 100).1 (takeS (takeS (takeIs 6 b).2.1 100).2.1 1000).1) = false then (or0, [], 3)
  else (ofTaken (takeIs 6 b).1 (takeS (takeIs 6 b).2.1 100).1 (takeS (takeS (takeIs 6 b).2.1 100).2.1 1000).1, (takeS (takeS (takeIs 6 b).2.1 100).2.1 1000).2.1, 0)
theorem takeX_enc (s r : List UInt8) (m : Int) (hs : (s.length : Int) ≤ m) (h0 : 0 ≤ m) (hm : m ≤ 9223372036854775807) : takeS (encX s ++ r) m = (s, r, 0) := by
  have h := takeS_enc (ba s) r m (by rw [ba_size]; omega) (by rw [ba_size]; omega)
  rw [ba_list] at h
  exact h
theorem takeO_enc (o : Or) (r : List UInt8) (hm : mayO o = true) (h3 : fit64 (oR o)) (h4 : fit64 (oS o)) (h5 : fit64 (oT o)) : takeO (encO o ++ r) = (o, r, 0) := by
  obtain ⟨m1, m2, m3, m4, m5, m6, m7, m8⟩ := may_sized hm
  have e1 := takeIs_enc [oC o, oQ o, oK o, oR o, oS o, oT o] (encX (oP o) ++ (encX (oV o) ++ r)) (by
    intro n hn
    simp only [List.mem_cons, List.not_mem_nil, or_false] at hn
    unfold fit64 at h3 h4 h5 ⊢
    rcases hn with rfl | rfl | rfl | rfl | rfl | rfl <;> constructor <;> omega)
  have e2 := takeX_enc (oP o) (encX (oV o) ++ r) 100 (by omega) (by omega) (by omega)
  have e3 := takeX_enc (oV o) r 1000 (by omega) (by omega) (by omega)
  have e0 : encO o ++ r = encIs [oC o, oQ o, oK o, oR o, oS o, oT o] ++ (encX (oP o) ++ (encX (oV o) ++ r)) := by simp [encO, List.append_assoc]
  rw [show [oC o, oQ o, oK o, oR o, oS o, oT o].length = 6 from rfl] at e1
  unfold takeO
  rw [e0, e1]
  simp only [e2, e3]
  have eo : ofTaken [oC o, oQ o, oK o, oR o, oS o, oT o] (oP o) (oV o) = o := rfl
  rw [eo, hm]
  simp
theorem takeO_only (b : List UInt8) (o : Or) (r : List UInt8) (h : takeO b = (o, r, 0)) : mayO o = true ∧ encO o ++ r = b ∧ fit64 (oR o) ∧ fit64 (oS o) ∧ fit64 (oT o) := by
  unfold takeO at h
  split at h
  · rename_i h1; injection h with q1 q2; injection q2 with q2 q3; exact absurd q3 h1
  rename_i h1
  split at h
  · rename_i h2; injection h with q1 q2; injection q2 with q2 q3; exact absurd q3 h2
  rename_i h2
  split at h
  · rename_i h3; injection h with q1 q2; injection q2 with q2 q3; exact absurd q3 h3
  rename_i h3
  split at h
  · injection h with q1 q2; injection q2 with q2 q3; cases q3
  rename_i h4
  injection h with q1 q2
  injection q2 with q2 q3
  have e1 : (takeIs 6 b).2.2 = 0 := by simpa using h1
  have e2 : (takeS (takeIs 6 b).2.1 100).2.2 = 0 := by simpa using h2
  have e3 : (takeS (takeS (takeIs 6 b).2.1 100).2.1 1000).2.2 = 0 := by simpa using h3
  obtain ⟨a1, a2, a3⟩ := takeIs_only 6 b (takeIs 6 b).1 (takeIs 6 b).2.1 (by rw [← e1])
  have b1 := takeS_only (takeIs 6 b).2.1 (takeS (takeIs 6 b).2.1 100).1 (takeS (takeIs 6 b).2.1 100).2.1 100 (by rw [← e2])
  have b2 := takeS_only (takeS (takeIs 6 b).2.1 100).2.1 (takeS (takeS (takeIs 6 b).2.1 100).2.1 1000).1 (takeS (takeS (takeIs 6 b).2.1 100).2.1 1000).2.1 1000 (by rw [← e3])
  rw [q2] at b2
  generalize hL : (takeIs 6 b).1 = L at *
  generalize hP : (takeS (takeIs 6 b).2.1 100).1 = P at *
  generalize hV : (takeS (takeS (takeIs 6 b).2.1 100).2.1 1000).1 = V at *
  subst q1
  refine ⟨by simpa using h4, ?_, ?_⟩
  · match L, a2, a1 with
    | [n0, n1, n2, n3, n4, n5], _, a1 =>
      rw [← a1, ← b1, ← b2]
      simp [encO, ofTaken, oC, oQ, oK, oR, oS, oT, oP, oV, encX, ba, List.append_assoc]
  · match L, a2, a3 with
    | [n0, n1, n2, n3, n4, n5], _, a3 => exact ⟨a3 n3 (by simp), a3 n4 (by simp), a3 n5 (by simp)⟩

/-- The reply ahead. -/
def rpTaken (l : List Int) (v : List UInt8) (ss : List ByteArray) : Rp := (l.getD 0 0, l.getD 1 0, l.getD 2 0, v, l.getD 3 0, ss)
def takeR (b : List UInt8) : Rp × List UInt8 × Nat :=
  if (takeIs 4 b).2.2 ≠ 0 then (rp0, [], (takeIs 4 b).2.2)
  else if (takeS (takeIs 4 b).2.1 1000).2.2 ≠ 0 then (rp0, [], (takeS (takeIs 4 b).2.1 1000).2.2)
  else if (takeL (takeS (takeIs 4 b).2.1 1000).2.1 200 1000).2.2 ≠ 0 then (rp0, [], (takeL (takeS (takeIs 4 b).2.1 1000).2.1 200 1000).2.2)
  else if (takeIs 4 b).1.getD 2 0 < 0 ∨ 16 < (takeIs 4 b).1.getD 2 0 then (rp0, [], 3)
  else (rpTaken (takeIs 4 b).1 (takeS (takeIs 4 b).2.1 1000).1 (takeL (takeS (takeIs 4 b).2.1 1000).2.1 200 1000).1, (takeL (takeS (takeIs 4 b).2.1 1000).2.1 200 1000).2.1, 0)
theorem takeR_enc (p : Rp) (r : List UInt8) (h1 : fit64 (pC p)) (h2 : fit64 (pQ p)) (h3 : fit64 (pE p)) (h4 : fit64 (pR p)) (hv : (pV p).length ≤ 1000) (hn : (pN p).length ≤ 200) (hs : ∀ s ∈ pN p, s.size ≤ 1000) :
    takeR (encR p ++ r) = if pE p < 0 ∨ 16 < pE p then (rp0, [], 3) else (p, r, 0) := by
  have e1 := takeIs_enc [pC p, pQ p, pE p, pR p] (encX (pV p) ++ (encL (pN p) ++ r)) (by
    intro n hn
    simp only [List.mem_cons, List.not_mem_nil, or_false] at hn
    rcases hn with rfl | rfl | rfl | rfl <;> assumption)
  have e2 := takeX_enc (pV p) (encL (pN p) ++ r) 1000 (by omega) (by omega) (by omega)
  have e3 := takeL_enc (pN p) r 200 1000 (by omega) (by omega) (fun s hx => by have := hs s hx; constructor <;> omega)
  have e0 : encR p ++ r = encIs [pC p, pQ p, pE p, pR p] ++ (encX (pV p) ++ (encL (pN p) ++ r)) := by simp [encR, List.append_assoc]
  rw [show [pC p, pQ p, pE p, pR p].length = 4 from rfl] at e1
  unfold takeR
  rw [e0, e1]
  simp only [e2, e3]
  have eo : rpTaken [pC p, pQ p, pE p, pR p] (pV p) (pN p) = p := rfl
  rw [eo]
  simp
theorem takeR_only (b : List UInt8) (p : Rp) (r : List UInt8) (h : takeR b = (p, r, 0)) : encR p ++ r = b ∧ 0 ≤ pE p ∧ pE p ≤ 16 := by
  unfold takeR at h
  split at h
  · rename_i h1; injection h with q1 q2; injection q2 with q2 q3; exact absurd q3 h1
  rename_i h1
  split at h
  · rename_i h2; injection h with q1 q2; injection q2 with q2 q3; exact absurd q3 h2
  rename_i h2
  split at h
  · rename_i h3; injection h with q1 q2; injection q2 with q2 q3; exact absurd q3 h3
  rename_i h3
  split at h
  · injection h with q1 q2; injection q2 with q2 q3; cases q3
  rename_i h4
  injection h with q1 q2
  injection q2 with q2 q3
  have e1 : (takeIs 4 b).2.2 = 0 := by simpa using h1
  have e2 : (takeS (takeIs 4 b).2.1 1000).2.2 = 0 := by simpa using h2
  have e3 : (takeL (takeS (takeIs 4 b).2.1 1000).2.1 200 1000).2.2 = 0 := by simpa using h3
  obtain ⟨a1, a2, a3⟩ := takeIs_only 4 b (takeIs 4 b).1 (takeIs 4 b).2.1 (by rw [← e1])
  have b1 := takeS_only (takeIs 4 b).2.1 (takeS (takeIs 4 b).2.1 1000).1 (takeS (takeIs 4 b).2.1 1000).2.1 1000 (by rw [← e2])
  have b2 := takeL_only (takeS (takeIs 4 b).2.1 1000).2.1 (takeL (takeS (takeIs 4 b).2.1 1000).2.1 200 1000).1 (takeL (takeS (takeIs 4 b).2.1 1000).2.1 200 1000).2.1 200 1000 (by rw [← e3])
  rw [q2] at b2
  generalize hL : (takeIs 4 b).1 = L at *
  generalize hV : (takeS (takeIs 4 b).2.1 1000).1 = V at *
  generalize hS : (takeL (takeS (takeIs 4 b).2.1 1000).2.1 200 1000).1 = S at *
  subst q1
  have hE : pE (rpTaken L V S) = L.getD 2 0 := rfl
  rw [hE]
  refine ⟨?_, by omega, by omega⟩
  match L, a2, a1 with
  | [n0, n1, n2, n3], _, a1 =>
    rw [← a1, ← b1, ← b2]
    simp [encR, rpTaken, pC, pQ, pE, pR, pV, pN, encX, ba, List.append_assoc]
end Go.Proofs.Ytmlpiembglmggaa
