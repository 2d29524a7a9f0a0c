/-
  Plain facts on paths, over lists of bytes, of no program: names, what stands between slashes, which path is below and which ahead; that ahead is an order. Each theorem states its own conditions.
-/
import Derived.Test.YtmlpiembglmggaaPs
import GoSem.Op.String
namespace Go.Proofs.Ytmlpiembglmggaa

/-- Bytewise less. -/
def lessB : List UInt8 → List UInt8 → Bool
  | _, [] => false
  | [], _ :: _ => true
  | a :: x, b :: y => a < b || (a == b && lessB x y)
theorem lessB_eq : ∀ x y, lessB x y = Op.bytesLess x y
  | [], [] => rfl
  | _ :: _, [] => rfl
  | [], _ :: _ => rfl
  | a :: x, b :: y => by
    rw [lessB, Op.bytesLess, lessB_eq x y]
theorem lessB_irrefl : ∀ x, lessB x x = false
  | [] => rfl
  | a :: x => by
    rw [lessB, lessB_irrefl x]
    simp
theorem lessB_or : ∀ x y, x ≠ y → lessB x y = !lessB y x
  | [], [], h => absurd rfl h
  | _ :: _, [], _ => rfl
  | [], _ :: _, _ => rfl
  | a :: x, b :: y, h => by
    rw [lessB, lessB]
    by_cases hab : a = b
    · subst hab
      have hxy : x ≠ y := fun e => h (by rw [e])
      simp [lessB_or x y hxy]
    · have h1 : (a == b) = false := by simpa using hab
      have h2 : (b == a) = false := by simpa using (fun e => hab e.symm)
      have h3 : a.toNat ≠ b.toNat := fun e => hab (UInt8.toNat_inj.1 e)
      rw [h1, h2]
      simp only [Bool.false_and, Bool.or_false]
      by_cases hl : a < b
      · have : ¬ b < a := by rw [UInt8.lt_iff_toNat_lt] at hl ⊢; omega
        simp [hl, this]
      · have : b < a := by rw [UInt8.lt_iff_toNat_lt] at hl ⊢; omega
        simp [hl, this]
theorem lessB_trans : ∀ x y z, lessB x y = true → lessB y z = true → lessB x z = true
  | _, _, [], _, h => by cases ‹List UInt8› <;> simp [lessB] at h
  | _, [], _ :: _, h, _ => by cases ‹List UInt8› <;> simp [lessB] at h
  | [], _ :: _, _ :: _, _, _ => rfl
  | a :: x, b :: y, c :: z, h1, h2 => by
    rw [lessB] at h1 h2 ⊢
    simp only [Bool.or_eq_true, Bool.and_eq_true, decide_eq_true_eq, beq_iff_eq] at h1 h2 ⊢
    rcases h1 with h1 | ⟨rfl, h1⟩
    · rcases h2 with h2 | ⟨rfl, h2⟩
      · left; rw [UInt8.lt_iff_toNat_lt] at h1 h2 ⊢; omega
      · exact .inl h1
    · rcases h2 with h2 | ⟨rfl, h2⟩
      · exact .inl h2
      · exact .inr ⟨rfl, lessB_trans x y z h1 h2⟩

/-- Of two rows of names the first is ahead. -/
def aheadL : List (List UInt8) → List (List UInt8) → Bool
  | [], b => !b.isEmpty
  | _ :: _, [] => false
  | x :: a, y :: b => if x = y then aheadL a b else lessB x y
/-- The second row of names begins with the first one, and goes on. -/
def belowL : List (List UInt8) → List (List UInt8) → Bool
  | [], b => !b.isEmpty
  | _ :: _, [] => false
  | x :: a, y :: b => if x = y then belowL a b else false
theorem aheadL_irrefl : ∀ a, aheadL a a = false
  | [] => rfl
  | x :: a => by rw [aheadL, if_pos rfl, aheadL_irrefl a]
theorem aheadL_or : ∀ a b, a ≠ b → aheadL a b = !aheadL b a
  | [], [], h => absurd rfl h
  | _ :: _, [], _ => rfl
  | [], _ :: _, _ => rfl
  | x :: a, y :: b, h => by
    rw [aheadL, aheadL]
    by_cases hxy : x = y
    · subst hxy
      rw [if_pos rfl, if_pos rfl]
      exact aheadL_or a b (fun e => h (by rw [e]))
    · rw [if_neg hxy, if_neg (fun e => hxy e.symm)]
      exact lessB_or x y hxy
theorem aheadL_trans : ∀ a b c, aheadL a b = true → aheadL b c = true → aheadL a c = true
  | [], [], c, h, _ => by simp [aheadL] at h
  | [], _ :: _, [], _, h => by simp [aheadL] at h
  | [], _ :: _, _ :: _, _, _ => rfl
  | _ :: _, [], _, h, _ => by simp [aheadL] at h
  | _ :: _, _ :: _, [], _, h => by simp [aheadL] at h
  | x :: a, y :: b, z :: c, h1, h2 => by
    rw [aheadL] at h1 h2 ⊢
    by_cases hxy : x = y
    · subst hxy
      rw [if_pos rfl] at h1
      by_cases hyz : x = z
      · subst hyz
        rw [if_pos rfl] at h2 ⊢
        exact aheadL_trans a b c h1 h2
      · rw [if_neg hyz] at h2 ⊢
        exact h2
    · rw [if_neg hxy] at h1
      by_cases hyz : y = z
      · subst hyz
        rw [if_neg hxy]
        exact h1
      · rw [if_neg hyz] at h2
        have h3 := lessB_trans x y z h1 h2
        by_cases hxz : x = z
        · subst hxz
          rw [lessB_irrefl] at h3
          cases h3
        · rw [if_neg hxz]
          exact h3
theorem belowL_ahead : ∀ a b, belowL a b = true → aheadL a b = true
  | [], _, h => h
  | _ :: _, [], h => by simp [belowL] at h
  | x :: a, y :: b, h => by
    rw [belowL] at h
    rw [aheadL]
    by_cases hxy : x = y
    · rw [if_pos hxy] at h ⊢
      exact belowL_ahead a b h
    · rw [if_neg hxy] at h
      cases h
/-- What stands between a path and one below it is below it, too. -/
theorem belowL_between : ∀ a b c, aheadL a b = true → aheadL b c = true → belowL a c = true → belowL a b = true
  | [], _, _, h, _, _ => h
  | _ :: _, [], _, h, _, _ => by simp [aheadL] at h
  | _ :: _, _ :: _, [], _, h, _ => by simp [aheadL] at h
  | x :: a, y :: b, z :: c, h1, h2, h3 => by
    rw [aheadL] at h1 h2
    rw [belowL] at h3 ⊢
    by_cases hxz : x = z
    · subst hxz
      rw [if_pos rfl] at h3
      by_cases hxy : x = y
      · subst hxy
        rw [if_pos rfl] at h1 h2 ⊢
        exact belowL_between a b c h1 h2 h3
      · rw [if_neg hxy] at h1
        rw [if_neg (fun e => hxy e.symm)] at h2
        rw [lessB_or x y hxy, h2] at h1
        cases h1
    · rw [if_neg hxz] at h3
      cases h3
theorem belowL_snoc : ∀ a x, belowL a (a ++ [x]) = true
  | [], _ => rfl
  | y :: a, x => by
    rw [List.cons_append, belowL, if_pos rfl]
    exact belowL_snoc a x

/-- May the byte stand in a name? -/
def chrB (c : UInt8) : Bool := (97 ≤ c.toNat && c.toNat ≤ 122) || (48 ≤ c.toNat && c.toNat ≤ 57) || c.toNat = 45 || c.toNat = 95
def nameB (l : List UInt8) : Bool := l.all chrB && 1 ≤ l.length && l.length ≤ 30
/-- What stands between slashes, a name nm begun. -/
def splitL : List UInt8 → List UInt8 → List (List UInt8)
  | nm, [] => [nm]
  | nm, c :: r => if c = 47 then nm :: splitL [] r else splitL (nm ++ [c]) r
def cutL : List UInt8 → List (List UInt8)
  | [] => []
  | c :: r => if c = 47 then (if r = [] then [] else splitL [] r) else []
def slashB : List UInt8 → Bool
  | [] => false
  | c :: _ => c = 47
def rightB (p : List UInt8) : Bool := p.length ≤ 100 && (cutL p).all nameB && slashB p && (cutL p).length ≤ 8
def joinL (l : List (List UInt8)) : List UInt8 := l.flatMap fun x => 47 :: x
def madeL (l : List (List UInt8)) : List UInt8 := if joinL l = [] then [47] else joinL l
theorem joinL_nil : joinL [] = [] := rfl
theorem joinL_cons (x : List UInt8) (l : List (List UInt8)) : joinL (x :: l) = 47 :: (x ++ joinL l) := by simp [joinL]
theorem joinL_snoc (l : List (List UInt8)) (x : List UInt8) : joinL (l ++ [x]) = joinL l ++ 47 :: x := by simp [joinL]
theorem chrB_slash : chrB 47 = false := by decide
/-- Splitting a path's text gives back its names. -/
theorem splitL_join (nm x : List UInt8) (l : List (List UInt8)) (hx : x.all chrB = true) (hl : ∀ y ∈ l, y.all chrB = true) : splitL nm (x ++ joinL l) = (nm ++ x) :: l := by
  induction x generalizing nm with
  | nil =>
    cases l with
    | nil => simp [joinL, splitL]
    | cons y l =>
      rw [List.nil_append, List.append_nil, joinL_cons, splitL, if_pos rfl]
      have ih : splitL [] (y ++ joinL l) = ([] ++ y) :: l := by
        clear hx
        induction l generalizing y nm with
        | nil =>
          have hy := hl y (by simp)
          clear hl nm
          suffices h : ∀ nm, splitL nm (y ++ joinL []) = [nm ++ y] by simpa using h []
          intro nm
          rw [joinL_nil, List.append_nil]
          induction y generalizing nm with
          | nil => simp [splitL]
          | cons c y ihy =>
            have hc : c ≠ 47 := fun e => by subst e; simp [chrB_slash] at hy
            rw [splitL, if_neg hc, ihy (by simpa using (by simp at hy; exact hy.2))]
            simp
        | cons z l ihl =>
          have hy := hl y (by simp)
          suffices h : ∀ nm, splitL nm (y ++ joinL (z :: l)) = (nm ++ y) :: z :: l by exact h []
          have ih2 := ihl [] z (fun q hq => hl q (by simp at hq ⊢; exact .inr hq))
          intro nm
          clear hl
          induction y generalizing nm with
          | nil => rw [List.nil_append, joinL_cons, splitL, if_pos rfl, ih2]; simp
          | cons c y ihy =>
            have hc : c ≠ 47 := fun e => by subst e; simp [chrB_slash] at hy
            rw [List.cons_append, splitL, if_neg hc, ihy (by simpa using (by simp at hy; exact hy.2))]
            simp
      rw [ih, List.nil_append]
  | cons c x ih =>
    have hc : c ≠ 47 := fun e => by subst e; simp [chrB_slash] at hx
    rw [List.cons_append, splitL, if_neg hc, ih _ (by simp at hx ⊢; exact hx.2)]
    simp
theorem cutL_made (l : List (List UInt8)) (hl : ∀ y ∈ l, y.all chrB = true) (hn : ∀ y ∈ l, y ≠ []) : cutL (madeL l) = l := by
  cases l with
  | nil => decide
  | cons x l =>
    have h1 : madeL (x :: l) = 47 :: (x ++ joinL l) := by unfold madeL; rw [joinL_cons, if_neg (by simp)]
    have h2 : x ++ joinL l ≠ [] := fun e => hn x (by simp) (List.append_eq_nil_iff.1 e).1
    rw [h1, cutL, if_pos rfl, if_neg h2, splitL_join [] x l (hl x (by simp)) (fun y hy => hl y (by simp [hy]))]
    simp
/-- Joining what stands between slashes gives back the text. -/
theorem join_split : ∀ r nm, joinL (splitL nm r) = 47 :: (nm ++ r)
  | [], nm => by simp [splitL, joinL]
  | c :: r, nm => by
    rw [splitL]
    by_cases hc : c = 47
    · subst hc
      rw [if_pos rfl, joinL_cons, join_split r []]
      simp
    · rw [if_neg hc, join_split r (nm ++ [c])]
      simp
theorem made_cut (p : List UInt8) (h : slashB p = true) : madeL (cutL p) = p := by
  cases p with
  | nil => cases h
  | cons c r =>
    have hc : c = 47 := by simpa [slashB] using h
    subst hc
    rw [cutL, if_pos rfl]
    by_cases hr : r = []
    · rw [if_pos hr, hr]; decide
    · rw [if_neg hr]
      unfold madeL
      rw [join_split, if_neg (by simp)]
      simp
/-- Two paths that have the same names are the same. -/
theorem cut_inj (p q : List UInt8) (hp : slashB p = true) (hq : slashB q = true) (h : cutL p = cutL q) : p = q := by rw [← made_cut p hp, ← made_cut q hq, h]
end Go.Proofs.Ytmlpiembglmggaa
