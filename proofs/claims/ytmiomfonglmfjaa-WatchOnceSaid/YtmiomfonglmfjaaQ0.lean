/-
  Plain facts on paths for the program's own way: what stands ahead of and behind a text's first slash, how many slashes it has, its last slash, what texts below a path begin with. Each theorem states its own conditions.
-/
import Derived.Test.YtmiomfonglmfjaaYA
import Derived.Lib.SplitLaws
import Derived.Lib.LastIndexByte
namespace Go.Proofs.Ytmiomfonglmfjaa

def headS : List UInt8 → List UInt8
  | [] => []
  | c :: r => if c = 47 then [] else c :: headS r
def tailS : List UInt8 → List UInt8
  | [] => []
  | c :: r => if c = 47 then r else tailS r
def hasS : List UInt8 → Bool
  | [] => false
  | c :: r => if c = 47 then true else hasS r
theorem hasS_not : ∀ s, hasS s = false → headS s = s ∧ tailS s = []
  | [], _ => ⟨rfl, rfl⟩
  | c :: r, h => by
    unfold hasS at h
    by_cases hc : c = 47
    · rw [if_pos hc] at h; cases h
    · rw [if_neg hc] at h
      obtain ⟨h1, h2⟩ := hasS_not r h
      unfold headS tailS
      rw [if_neg hc, if_neg hc, h1, h2]
      exact ⟨rfl, rfl⟩
theorem hasS_yes : ∀ s, hasS s = true → s = headS s ++ 47 :: tailS s
  | [], h => by cases h
  | c :: r, h => by
    unfold hasS at h
    by_cases hc : c = 47
    · unfold headS tailS
      rw [if_pos hc, if_pos hc, hc]
      rfl
    · rw [if_neg hc] at h
      unfold headS tailS
      rw [if_neg hc, if_neg hc, List.cons_append, ← hasS_yes r h]
theorem hasS_len (s : List UInt8) (h : hasS s = true) : (headS s).length + 1 + (tailS s).length = s.length := by
  have e := congrArg List.length (hasS_yes s h)
  simp at e
  omega
theorem headS_take (s : List UInt8) (h : hasS s = true) : s.take (headS s).length = headS s := by
  have e := congrArg (List.take (headS s).length) (hasS_yes s h)
  exact e.trans (by simp)
theorem tailS_drop (s : List UInt8) (h : hasS s = true) : s.drop ((headS s).length + 1) = tailS s := by
  have e := congrArg (List.drop ((headS s).length + 1)) (hasS_yes s h)
  exact e.trans (by rw [← List.drop_drop]; simp)
theorem headS_le (s : List UInt8) : (headS s).length ≤ s.length := by
  cases h : hasS s
  · rw [(hasS_not s h).1]; exact Nat.le_refl _
  · have := hasS_len s h; omega
theorem index_head : ∀ s, Lib.indexByte s 47 = if hasS s = true then ((headS s).length : Int) else -1
  | [] => rfl
  | c :: r => by
    unfold Lib.indexByte hasS headS
    by_cases hc : c = 47
    · subst hc; simp
    · have h1 : (c == 47) = false := by simpa using hc
      rw [h1, if_neg hc, if_neg hc, index_head r]
      cases h : hasS r <;> simp
theorem split_head : ∀ s nm, splitL nm s = if hasS s = true then (nm ++ headS s) :: splitL [] (tailS s) else [nm ++ s]
  | [], nm => by simp [splitL, hasS]
  | c :: r, nm => by
    by_cases hc : c = 47
    · simp [splitL, hasS, headS, tailS, hc]
    · simp only [splitL, hasS, headS, tailS, if_neg hc]
      rw [split_head r (nm ++ [c])]
      simp
theorem split_not (s : List UInt8) (h : hasS s = false) : splitL [] s = [s] := by rw [split_head, h]; simp
theorem split_yes (s : List UInt8) (h : hasS s = true) : splitL [] s = headS s :: splitL [] (tailS s) := by rw [split_head, h]; simp
theorem split_count : ∀ s nm, (splitL nm s).length = s.count 47 + 1
  | [], nm => rfl
  | c :: r, nm => by
    unfold splitL
    by_cases hc : c = 47
    · subst hc
      rw [if_pos rfl, List.length_cons, split_count r [], List.count_cons_self]
    · rw [if_neg hc, split_count r, List.count_cons_of_ne (by simpa using hc)]

/-- The program's own question. -/
theorem right_root : rightB [47] = true := by decide
theorem right_many (p : List UInt8) (h : 8 < p.count 47) : rightB p = false := by
  cases p with
  | nil => rfl
  | cons c r =>
    by_cases hc : c = 47
    · subst hc
      have hr : r ≠ [] := by
        intro e; subst e; simp at h
      have e : (cutL (47 :: r)).length = r.count 47 + 1 := by
        rw [cutL, if_pos rfl, if_neg hr, split_count]
      rw [List.count_cons_self] at h
      unfold rightB
      have : decide ((cutL (47 :: r)).length ≤ 8) = false := by rw [e]; simp; omega
      rw [this]; simp
    · unfold rightB slashB
      simp [hc]
theorem right_start (p : List UInt8) (h : slashB p = false) : rightB p = false := by
  unfold rightB
  rw [h]; simp
theorem right_rest (r : List UInt8) (hr : r ≠ []) (hl : (47 :: r).length ≤ 100) (hc : (47 :: r).count 47 ≤ 8) : rightB (47 :: r) = (splitL [] r).all nameB := by
  have e : cutL (47 :: r) = splitL [] r := by rw [cutL, if_pos rfl, if_neg hr]
  rw [List.count_cons_self] at hc
  have h3 : (splitL [] r).length ≤ 8 := by rw [split_count]; omega
  unfold rightB
  rw [e]
  simp [slashB, h3]
  intro _
  simpa using hl
theorem slash_prefix (p : List UInt8) : Lib.hasPrefix p [47] = slashB p := by
  cases p with
  | nil => rfl
  | cons c r =>
    unfold Lib.hasPrefix slashB
    by_cases hc : c = 47
    · subst hc; simp [List.isPrefixOf]
    · have : ((47 : UInt8) == c) = false := by simpa using fun e => hc e.symm
      simp [List.isPrefixOf, this, hc]
theorem slash_trim (p : List UInt8) (h : slashB p = true) : p = 47 :: Lib.trimPrefix p [47] := by
  cases p with
  | nil => cases h
  | cons c r =>
    have hc : c = 47 := by simpa [slashB] using h
    subst hc
    unfold Lib.trimPrefix
    rw [slash_prefix, h]
    rfl

/-- What all texts below a path begin with. -/
def undL (p : List UInt8) : List UInt8 := if p = [47] then [47] else p ++ [47]
theorem right_slash (p : List UInt8) (h : rightB p = true) : slashB p = true := (rightB_len p h).2.2.1
theorem cut_root (p : List UInt8) (h : slashB p = true) : cutL p = [] ↔ p = [47] := by
  cases p with
  | nil => cases h
  | cons c r =>
    have hc : c = 47 := by simpa [slashB] using h
    subst hc
    rw [cutL, if_pos rfl]
    by_cases hr : r = []
    · subst hr; simp
    · rw [if_neg hr]
      constructor
      · intro e
        have := split_count r []
        rw [e] at this; simp at this
      · intro e; injection e with _ e; exact absurd e hr
theorem join_cut (p : List UInt8) (h : slashB p = true) (h2 : p ≠ [47]) : joinL (cutL p) = p := by
  have e := made_cut p h
  have hn : cutL p ≠ [] := fun e => h2 ((cut_root p h).1 e)
  unfold madeL at e
  split at e
  · rename_i hj
    cases hc : cutL p with
    | nil => exact absurd hc hn
    | cons x l => rw [hc] at hj; simp [joinL] at hj
  · exact e
theorem joinP_und (p nm : List UInt8) (h : rightB p = true) : joinP p nm = undL p ++ nm := by
  have hs := right_slash p h
  unfold joinP undL
  by_cases hr : p = [47]
  · subst hr
    simp [cutL, madeL, joinL]
  · rw [if_neg hr]
    unfold madeL
    rw [joinL_snoc, join_cut p hs hr]
    simp
theorem undL_len (p : List UInt8) : (undL p).length ≤ p.length + 1 := by
  unfold undL
  split
  · simp
  · simp

theorem prefix_names (x y s t : List UInt8) (hx : x.all chrB = true) (hy : y.all chrB = true) (ht : t = [] ∨ ∃ u, t = 47 :: u) : (x ++ 47 :: s).isPrefixOf (y ++ t) = (if x = y then (47 :: s).isPrefixOf t else false) := by
  induction x generalizing y with
  | nil =>
    cases y with
    | nil => simp
    | cons b y =>
      have hb : chrB b = true := by simp at hy; exact hy.1
      have : ((47 : UInt8) == b) = false := by
        rw [beq_eq_false_iff_ne]
        intro e; rw [← e] at hb; exact absurd hb (by decide)
      simp [List.isPrefixOf, this]
  | cons a x ih =>
    have ha : chrB a = true := by simp at hx; exact hx.1
    have hx2 : x.all chrB = true := by simp at hx ⊢; exact hx.2
    cases y with
    | nil =>
      rcases ht with rfl | ⟨u, rfl⟩
      · simp
      · have : (a == (47 : UInt8)) = false := by
          rw [beq_eq_false_iff_ne]
          intro e; rw [e] at ha; exact absurd ha (by decide)
        simp [List.isPrefixOf, this]
    | cons b y =>
      have hy2 : y.all chrB = true := by simp at hy ⊢; exact hy.2
      rw [List.cons_append, List.cons_append, List.isPrefixOf, ih y hx2 hy2]
      by_cases hab : a = b
      · subst hab; simp
      · have : (a == b) = false := by simpa using hab
        simp [this, hab]
theorem joinL_head (l : List (List UInt8)) : joinL l = [] ∨ ∃ u, joinL l = 47 :: u := by
  cases l with
  | nil => exact .inl rfl
  | cons x l => exact .inr ⟨_, joinL_cons x l⟩
theorem below_prefix : ∀ a b : List (List UInt8), (∀ y ∈ a, y.all chrB = true) → (∀ y ∈ b, y.all chrB = true) → (joinL a ++ [47]).isPrefixOf (joinL b) = belowL a b
  | [], [], _, _ => rfl
  | [], y :: b, _, _ => by rw [joinL_cons]; simp [joinL, belowL]
  | x :: a, [], _, _ => by rw [joinL_cons]; simp [joinL, belowL]
  | x :: a, y :: b, ha, hb => by
    have hx := ha x (by simp)
    have hy := hb y (by simp)
    have ih := below_prefix a b (fun z hz => ha z (by simp [hz])) (fun z hz => hb z (by simp [hz]))
    rw [joinL_cons, joinL_cons, belowL, List.cons_append, List.append_assoc]
    rw [List.isPrefixOf]
    simp only [beq_self_eq_true, Bool.true_and]
    obtain ⟨s, hs⟩ : ∃ s, joinL a ++ [47] = 47 :: s := by
      rcases joinL_head a with h | ⟨u, h⟩
      · exact ⟨[], by rw [h]; rfl⟩
      · exact ⟨u ++ [47], by rw [h]; rfl⟩
    rw [hs, prefix_names x y s (joinL b) hx hy (joinL_head b), ← hs, ih]
theorem right_names (p : List UInt8) (h : rightB p = true) : ∀ y ∈ cutL p, y.all chrB = true := by
  intro y hy
  have h1 := (rightB_len p h).2.1
  rw [List.all_eq_true] at h1
  have := h1 y hy
  unfold nameB at this
  simp only [Bool.and_eq_true] at this
  exact this.1.1
theorem below_text (p q : List UInt8) (hp : rightB p = true) (hq : rightB q = true) : belowL (cutL p) (cutL q) = (!(p == q) && Lib.hasPrefix q (undL p)) := by
  have sp := right_slash p hp
  have sq := right_slash q hq
  unfold Lib.hasPrefix undL
  by_cases h1 : p = [47]
  · rw [if_pos h1, (cut_root p sp).2 h1]
    have e : [47].isPrefixOf q = true := by
      have := slash_prefix q
      unfold Lib.hasPrefix at this
      rw [this, sq]
    rw [e, belowL, Bool.and_true]
    by_cases h2 : q = [47]
    · rw [(cut_root q sq).2 h2, h1, h2]; rfl
    · have hn : cutL q ≠ [] := fun e => h2 ((cut_root q sq).1 e)
      have : (p == q) = false := by rw [beq_eq_false_iff_ne, h1]; exact fun e => h2 e.symm
      rw [this]
      cases hc : cutL q with
      | nil => exact absurd hc hn
      | cons _ _ => rfl
  · rw [if_neg h1]
    by_cases h2 : q = [47]
    · rw [(cut_root q sq).2 h2]
      have hc : cutL p ≠ [] := fun e => h1 ((cut_root p sp).1 e)
      have e1 : belowL (cutL p) [] = false := by
        cases h : cutL p with
        | nil => exact absurd h hc
        | cons _ _ => rfl
      have e2 : (p ++ [47]).isPrefixOf [47] = false := by
        cases p with
        | nil => cases sp
        | cons c r => cases r <;> simp [List.isPrefixOf]
      rw [e1, h2, e2]; simp
    · have e := below_prefix (cutL p) (cutL q) (right_names p hp) (right_names q hq)
      rw [join_cut p sp h1, join_cut q sq h2] at e
      rw [e]
      by_cases h3 : p = q
      · subst h3
        rw [belowL_len _ _ (Nat.le_refl _)]; simp
      · have : (p == q) = false := by simpa using h3
        rw [this]; simp

/-- The last slash of a path with names. -/
theorem last_slash (p : List UInt8) (h : rightB p = true) (h1 : p ≠ [47]) : ∃ m : Nat, m < p.length ∧ p.getD m 0 = 47 ∧ (∀ j, m < j → j < p.length → p.getD j 0 ≠ 47) ∧ parentE p = 0 ∧ parentS p = if m = 0 then [47] else p.take m := by
  have sp := right_slash p h
  have hj := join_cut p sp h1
  have hn : cutL p ≠ [] := fun e => h1 ((cut_root p sp).1 e)
  obtain ⟨l, x, hlx⟩ : ∃ l x, cutL p = l ++ [x] := ⟨(cutL p).dropLast, (cutL p).getLast hn, (List.dropLast_concat_getLast hn).symm⟩
  have hx := right_names p h x (by rw [hlx]; simp)
  have e : p = joinL l ++ 47 :: x := by rw [← hj, hlx, joinL_snoc]
  have hy := parent_yes p h hn
  refine ⟨(joinL l).length, ?_, ?_, ?_, hy.2, ?_⟩
  · have := congrArg List.length e
    simp at this; omega
  · rw [e]; simp
  · intro j hj1 hj2 hc
    have hl := congrArg List.length e
    simp at hl
    rw [e] at hc
    rw [List.getD_eq_getElem?_getD, List.getElem?_append_right (by omega)] at hc
    obtain ⟨k, hk⟩ : ∃ k, j - (joinL l).length = k + 1 := ⟨j - (joinL l).length - 1, by omega⟩
    rw [hk, List.getElem?_cons_succ, List.getElem?_eq_getElem (by omega)] at hc
    rw [List.all_eq_true] at hx
    have := hx _ (List.getElem_mem (l := x) (n := k) (by omega))
    simp at hc
    rw [hc] at this
    exact absurd this (by decide)
  · rw [hy.1, hlx]
    simp only [List.length_append, List.length_cons, List.length_nil, Nat.zero_add, Nat.add_sub_cancel]
    rw [List.take_append_of_le_length (Nat.le_refl _), List.take_length]
    unfold madeL
    by_cases h0 : joinL l = []
    · rw [if_pos h0, h0]; rfl
    · rw [if_neg h0, if_neg (fun h2 => h0 (List.eq_nil_of_length_eq_zero h2))]
      conv => rhs; rw [e]
      simp
theorem last_of (p : List UInt8) (m : Nat) (hm : m < p.length) (h1 : p.getD m 0 = 47) (h2 : ∀ j, m < j → j < p.length → p.getD j 0 ≠ 47) : Lib.lastIndexByte ⟨p.toArray⟩ 47 = (m : Int) := by
  have hsz : (⟨p.toArray⟩ : ByteArray).size = p.length := rfl
  have hb : ∀ j, j < p.length → (⟨p.toArray⟩ : ByteArray).data[j]! = p.getD j 0 := by
    intro j hj
    rw [getElem!_pos _ j (by simpa using hj)]
    simp [List.getD_eq_getElem?_getD, List.getElem?_eq_getElem hj]
  unfold Lib.lastIndexByte
  rw [hsz]
  rcases Lib.lastIdx_spec ⟨p.toArray⟩ 47 p.length with ⟨_, hn⟩ | ⟨i, hi, e, hc, hn⟩
  · have := hn m hm
    rw [hb m hm, h1] at this
    exact absurd rfl this
  · rw [e]
    rw [hb i hi] at hc
    have hci : p.getD i 0 = 47 := by
      apply UInt8.toNat_inj.1
      have : ((47 : UInt8).toNat : Int) = 47 := rfl
      omega
    by_cases h : i < m
    · have := hn m h hm
      rw [hb m hm, h1] at this
      exact absurd rfl this
    · by_cases h3 : m < i
      · exact absurd hci (h2 i h3 hi)
      · congr 1; omega
end Go.Proofs.Ytmiomfonglmfjaa
