/-
  Plain facts on paths, over lists of bytes, of no program: names, what stands between slashes, which path is below and which ahead; that ahead is an order. Each theorem states its own conditions.
  The document's paths: IsName, for every text.
  The document's paths: Made, the text of names.
  The document's paths: cut, the names between a text's slashes.
  The document's paths: Right, Names.
  The document's paths: Parent, Join.
  The document's paths: Below, Ahead.
-/
import Derived.Test.YtmiomfonglmfjaaPs
import GoSem.Op.String
import Derived.Test.YtmiomfonglmfjaaWB
import Derived.WalkLawsBesides
import Derived.Deep.QuietTactic
import Derived.BigQuiet
namespace Go.Proofs.Ytmiomfonglmfjaa

/-- Bytewise less. -/
def lessB : List UInt8 → List UInt8 → Bool
  | _, [] => false
  | [], _ :: _ => true
  | a :: x, b :: y => a < b || (a == b && lessB x y)
theorem lessB_eq : ∀ x y, lessB x y = Op.bytesLess x y
  | [], [] => rfl
  | _ :: _, [] => rfl
  | [], _ :: _ => rfl
  | a :: x, b :: y => by
    rw [lessB, Op.bytesLess, lessB_eq x y]
theorem lessB_irrefl : ∀ x, lessB x x = false
  | [] => rfl
  | a :: x => by
    rw [lessB, lessB_irrefl x]
    simp
theorem lessB_or : ∀ x y, x ≠ y → lessB x y = !lessB y x
  | [], [], h => absurd rfl h
  | _ :: _, [], _ => rfl
  | [], _ :: _, _ => rfl
  | a :: x, b :: y, h => by
    rw [lessB, lessB]
    by_cases hab : a = b
    · subst hab
      have hxy : x ≠ y := fun e => h (by rw [e])
      simp [lessB_or x y hxy]
    · have h1 : (a == b) = false := by simpa using hab
      have h2 : (b == a) = false := by simpa using (fun e => hab e.symm)
      have h3 : a.toNat ≠ b.toNat := fun e => hab (UInt8.toNat_inj.1 e)
      rw [h1, h2]
      simp only [Bool.false_and, Bool.or_false]
      by_cases hl : a < b
      · have : ¬ b < a := by rw [UInt8.lt_iff_toNat_lt] at hl ⊢; omega
        simp [hl, this]
      · have : b < a := by rw [UInt8.lt_iff_toNat_lt] at hl ⊢; omega
        simp [hl, this]
theorem lessB_trans : ∀ x y z, lessB x y = true → lessB y z = true → lessB x z = true
  | _, _, [], _, h => by cases ‹List UInt8› <;> simp [lessB] at h
  | _, [], _ :: _, h, _ => by cases ‹List UInt8› <;> simp [lessB] at h
  | [], _ :: _, _ :: _, _, _ => rfl
  | a :: x, b :: y, c :: z, h1, h2 => by
    rw [lessB] at h1 h2 ⊢
    simp only [Bool.or_eq_true, Bool.and_eq_true, decide_eq_true_eq, beq_iff_eq] at h1 h2 ⊢
    rcases h1 with h1 | ⟨rfl, h1⟩
    · rcases h2 with h2 | ⟨rfl, h2⟩
      · left; rw [UInt8.lt_iff_toNat_lt] at h1 h2 ⊢; omega
      · exact .inl h1
    · rcases h2 with h2 | ⟨rfl, h2⟩
      · exact .inl h2
      · exact .inr ⟨rfl, lessB_trans x y z h1 h2⟩

/-- Of two rows of names the first is ahead. -/
def aheadL : List (List UInt8) → List (List UInt8) → Bool
  | [], b => !b.isEmpty
  | _ :: _, [] => false
  | x :: a, y :: b => if x = y then aheadL a b else lessB x y
/-- The second row of names begins with the first one, and goes on. -/
def belowL : List (List UInt8) → List (List UInt8) → Bool
  | [], b => !b.isEmpty
  | _ :: _, [] => false
  | x :: a, y :: b => if x = y then belowL a b else false
theorem aheadL_irrefl : ∀ a, aheadL a a = false
  | [] => rfl
  | x :: a => by rw [aheadL, if_pos rfl, aheadL_irrefl a]
theorem aheadL_or : ∀ a b, a ≠ b → aheadL a b = !aheadL b a
  | [], [], h => absurd rfl h
  | _ :: _, [], _ => rfl
  | [], _ :: _, _ => rfl
  | x :: a, y :: b, h => by
    rw [aheadL, aheadL]
    by_cases hxy : x = y
    · subst hxy
      rw [if_pos rfl, if_pos rfl]
      exact aheadL_or a b (fun e => h (by rw [e]))
    · rw [if_neg hxy, if_neg (fun e => hxy e.symm)]
      exact lessB_or x y hxy
theorem aheadL_trans : ∀ a b c, aheadL a b = true → aheadL b c = true → aheadL a c = true
  | [], [], c, h, _ => by simp [aheadL] at h
  | [], _ :: _, [], _, h => by simp [aheadL] at h
  | [], _ :: _, _ :: _, _, _ => rfl
  | _ :: _, [], _, h, _ => by simp [aheadL] at h
  | _ :: _, _ :: _, [], _, h => by simp [aheadL] at h
  | x :: a, y :: b, z :: c, h1, h2 => by
    rw [aheadL] at h1 h2 ⊢
    by_cases hxy : x = y
    · subst hxy
      rw [if_pos rfl] at h1
      by_cases hyz : x = z
      · subst hyz
        rw [if_pos rfl] at h2 ⊢
        exact aheadL_trans a b c h1 h2
      · rw [if_neg hyz] at h2 ⊢
        exact h2
    · rw [if_neg hxy] at h1
      by_cases hyz : y = z
      · subst hyz
        rw [if_neg hxy]
        exact h1
      · rw [if_neg hyz] at h2
        have h3 := lessB_trans x y z h1 h2
        by_cases hxz : x = z
        · subst hxz
          rw [lessB_irrefl] at h3
          cases h3
        · rw [if_neg hxz]
          exact h3
theorem belowL_ahead : ∀ a b, belowL a b = true → aheadL a b = true
  | [], _, h => h
  | _ :: _, [], h => by simp [belowL] at h
  | x :: a, y :: b, h => by
    rw [belowL] at h
    rw [aheadL]
    by_cases hxy : x = y
    · rw [if_pos hxy] at h ⊢
      exact belowL_ahead a b h
    · rw [if_neg hxy] at h
      cases h
/-- What stands between a path and one below it is below it, too. -/
theorem belowL_between : ∀ a b c, aheadL a b = true → aheadL b c = true → belowL a c = true → belowL a b = true
  | [], _, _, h, _, _ => h
  | _ :: _, [], _, h, _, _ => by simp [aheadL] at h
  | _ :: _, _ :: _, [], _, h, _ => by simp [aheadL] at h
  | x :: a, y :: b, z :: c, h1, h2, h3 => by
    rw [aheadL] at h1 h2
    rw [belowL] at h3 ⊢
    by_cases hxz : x = z
    · subst hxz
      rw [if_pos rfl] at h3
      by_cases hxy : x = y
      · subst hxy
        rw [if_pos rfl] at h1 h2 ⊢
        exact belowL_between a b c h1 h2 h3
      · rw [if_neg hxy] at h1
        rw [if_neg (fun e => hxy e.symm)] at h2
        rw [lessB_or x y hxy, h2] at h1
        cases h1
    · rw [if_neg hxz] at h3
      cases h3
theorem belowL_snoc : ∀ a x, belowL a (a ++ [x]) = true
  | [], _ => rfl
  | y :: a, x => by
    rw [List.cons_append, belowL, if_pos rfl]
    exact belowL_snoc a x

/-- May the byte stand in a name? -/
def chrB (c : UInt8) : Bool := (97 ≤ c.toNat && c.toNat ≤ 122) || (48 ≤ c.toNat && c.toNat ≤ 57) || c.toNat = 45 || c.toNat = 95
def nameB (l : List UInt8) : Bool := l.all chrB && 1 ≤ l.length && l.length ≤ 30
/-- What stands between slashes, a name nm begun. -/
def splitL : List UInt8 → List UInt8 → List (List UInt8)
  | nm, [] => [nm]
  | nm, c :: r => if c = 47 then nm :: splitL [] r else splitL (nm ++ [c]) r
def cutL : List UInt8 → List (List UInt8)
  | [] => []
  | c :: r => if c = 47 then (if r = [] then [] else splitL [] r) else []
def slashB : List UInt8 → Bool
  | [] => false
  | c :: _ => c = 47
def rightB (p : List UInt8) : Bool := p.length ≤ 100 && (cutL p).all nameB && slashB p && (cutL p).length ≤ 8
def joinL (l : List (List UInt8)) : List UInt8 := l.flatMap fun x => 47 :: x
def madeL (l : List (List UInt8)) : List UInt8 := if joinL l = [] then [47] else joinL l
theorem joinL_nil : joinL [] = [] := rfl
theorem joinL_cons (x : List UInt8) (l : List (List UInt8)) : joinL (x :: l) = 47 :: (x ++ joinL l) := by simp [joinL]
theorem joinL_snoc (l : List (List UInt8)) (x : List UInt8) : joinL (l ++ [x]) = joinL l ++ 47 :: x := by simp [joinL]
theorem chrB_slash : chrB 47 = false := by decide
/-- Splitting a path's text gives back its names. -/
theorem splitL_join (nm x : List UInt8) (l : List (List UInt8)) (hx : x.all chrB = true) (hl : ∀ y ∈ l, y.all chrB = true) : splitL nm (x ++ joinL l) = (nm ++ x) :: l := by
  induction x generalizing nm with
  | nil =>
    cases l with
    | nil => simp [joinL, splitL]
    | cons y l =>
      rw [List.nil_append, List.append_nil, joinL_cons, splitL, if_pos rfl]
      have ih : splitL [] (y ++ joinL l) = ([] ++ y) :: l := by
        clear hx
        induction l generalizing y nm with
        | nil =>
          have hy := hl y (by simp)
          clear hl nm
          suffices h : ∀ nm, splitL nm (y ++ joinL []) = [nm ++ y] by simpa using h []
          intro nm
          rw [joinL_nil, List.append_nil]
          induction y generalizing nm with
          | nil => simp [splitL]
          | cons c y ihy =>
            have hc : c ≠ 47 := fun e => by subst e; simp [chrB_slash] at hy
            rw [splitL, if_neg hc, ihy (by simpa using (by simp at hy; exact hy.2))]
            simp
        | cons z l ihl =>
          have hy := hl y (by simp)
          suffices h : ∀ nm, splitL nm (y ++ joinL (z :: l)) = (nm ++ y) :: z :: l by exact h []
          have ih2 := ihl [] z (fun q hq => hl q (by simp at hq ⊢; exact .inr hq))
          intro nm
          clear hl
          induction y generalizing nm with
          | nil => rw [List.nil_append, joinL_cons, splitL, if_pos rfl, ih2]; simp
          | cons c y ihy =>
            have hc : c ≠ 47 := fun e => by subst e; simp [chrB_slash] at hy
            rw [List.cons_append, splitL, if_neg hc, ihy (by simpa using (by simp at hy; exact hy.2))]
            simp
      rw [ih, List.nil_append]
  | cons c x ih =>
    have hc : c ≠ 47 := fun e => by subst e; simp [chrB_slash] at hx
    rw [List.cons_append, splitL, if_neg hc, ih _ (by simp at hx ⊢; exact hx.2)]
    simp
theorem cutL_made (l : List (List UInt8)) (hl : ∀ y ∈ l, y.all chrB = true) (hn : ∀ y ∈ l, y ≠ []) : cutL (madeL l) = l := by
  cases l with
  | nil => decide
  | cons x l =>
    have h1 : madeL (x :: l) = 47 :: (x ++ joinL l) := by unfold madeL; rw [joinL_cons, if_neg (by simp)]
    have h2 : x ++ joinL l ≠ [] := fun e => hn x (by simp) (List.append_eq_nil_iff.1 e).1
    rw [h1, cutL, if_pos rfl, if_neg h2, splitL_join [] x l (hl x (by simp)) (fun y hy => hl y (by simp [hy]))]
    simp
/-- Joining what stands between slashes gives back the text. -/
theorem join_split : ∀ r nm, joinL (splitL nm r) = 47 :: (nm ++ r)
  | [], nm => by simp [splitL, joinL]
  | c :: r, nm => by
    rw [splitL]
    by_cases hc : c = 47
    · subst hc
      rw [if_pos rfl, joinL_cons, join_split r []]
      simp
    · rw [if_neg hc, join_split r (nm ++ [c])]
      simp
theorem made_cut (p : List UInt8) (h : slashB p = true) : madeL (cutL p) = p := by
  cases p with
  | nil => cases h
  | cons c r =>
    have hc : c = 47 := by simpa [slashB] using h
    subst hc
    rw [cutL, if_pos rfl]
    by_cases hr : r = []
    · rw [if_pos hr, hr]; decide
    · rw [if_neg hr]
      unfold madeL
      rw [join_split, if_neg (by simp)]
      simp
/-- Two paths that have the same names are the same. -/
theorem cut_inj (p q : List UInt8) (hp : slashB p = true) (hq : slashB q = true) (h : cutL p = cutL q) : p = q := by rw [← made_cut p hp, ← made_cut q hq, h]
end Go.Proofs.Ytmiomfonglmfjaa

namespace Go.Proofs.Ytmiomfonglmfjaa
open Go.RowKit

/-- A text. -/
abbrev txt (l : List UInt8) : Value := .string ⟨l.toArray⟩
theorem run_index_txt (s : List UInt8) (i : Nat) (hi : i < s.length) (w : World) : (Instr.index 9 (txt s) (.int .i64 (i : Int))).run Try.prog w = .ok (.int .u8 (((s.getD i 0).toNat : Nat) : Int)) w := by
  have h := run_index_string (P := Try.prog) (w := w) 9 ⟨s.toArray⟩ .i64 (i : Int) Try.underlying9
  rw [h]
  have hs : (⟨s.toArray⟩ : ByteArray).size = s.length := rfl
  simp [hs, hi]
  rfl
theorem nameB_of (s : List UInt8) (b : Bool) (h : s.all chrB = b) : nameB s = (b && (decide (1 ≤ s.length) && decide (s.length ≤ 30))) := by
  unfold nameB
  rw [h, Bool.and_assoc]

set_option maxRecDepth 100000 in
set_option maxHeartbeats 2000000 in
theorem rfName_any (s : List UInt8) (w : World) (hs : s.length ≤ 1000000) : Calls Try.prog 42 #[txt s] w (One (.bool (nameB s)) w) := by
  obtain ⟨n, hn⟩ : ∃ n, s.length = n := ⟨_, rfl⟩
  have hsz : (⟨s.toArray⟩ : ByteArray).size = n := hn
  have HN := Lib.hid hn
  rw [hn] at hs
  go_enter Try.func42, Try.ntmps42
  go_wp2
  go_loop [3] (fun x => ∃ i : Nat, i ≤ n ∧ x = .int .i64 (i : Int) ∧ Hid ((s.take i).all chrB = true)) (fun x => n - (intOf x).toNat)
  case atStart => exact ⟨0, by omega, rfl, by simp [Hid]⟩
  case round =>
    obtain ⟨i, hi, rfl, HA⟩ := hrel
    by_cases hi2 : i < n
    · have hix := run_index_txt s i (by rw [hn]; exact hi2)
      obtain ⟨c, hc⟩ : ∃ c, s.getD i 0 = c := ⟨_, rfl⟩
      rw [hc] at hix
      have hC : c.toNat < 256 := c.toNat_lt
      have hT : s.take (i + 1) = s.take i ++ [c] := by
        rw [List.take_add_one]
        have e : s[i]? = some c := by
          rw [List.getElem?_eq_getElem (by rw [hn]; exact hi2)]
          congr 1
          rw [← hc, List.getD_eq_getElem?_getD, List.getElem?_eq_getElem (by rw [hn]; exact hi2)]
          rfl
        rw [e]; rfl
      have HT := Lib.hid hT
      have HM : Hid (c ∈ s) := by
        show _ ∈ _
        rw [← hc, List.getD_eq_getElem?_getD, List.getElem?_eq_getElem (by rw [hn]; exact hi2)]
        exact List.getElem_mem _
      have zi : (i : Int) < (n : Int) := by omega
      have HL : Hid (chrB c = (decide (97 ≤ c.toNat) && decide (c.toNat ≤ 122) || decide (48 ≤ c.toNat) && decide (c.toNat ≤ 57) || decide (c.toNat = 45) || decide (c.toNat = 95))) := by
        show _ = _
        unfold chrB
        simp
      obtain ⟨C, hCE⟩ : ∃ C, c.toNat = C := ⟨_, rfl⟩
      rw [hCE] at hix hC HL
      clear hc hT hCE hn
      by_cases h1 : 97 ≤ (C : Int) <;> by_cases h2 : (C : Int) ≤ 122 <;> by_cases h3 : 48 ≤ (C : Int) <;> by_cases h4 : (C : Int) ≤ 57 <;> by_cases h5 : (C : Int) = 45 <;> by_cases h6 : (C : Int) = 95 <;> first | (exfalso; omega) | skip
      · have HB : Hid (chrB c = true) := by
          show _ = _
          rw [HL.out]
          simp only [Bool.or_eq_true, Bool.and_eq_true, decide_eq_true_eq]
          omega
        clear HL HM
        go_wp2
        go_round
        case rel =>
          refine ⟨i + 1, by omega, by go_num, ?_⟩
          show _ = _
          rw [HT.out, List.all_append, HA.out]
          simp [HB.out]
        case measure => simp [intOf]; omega
      · have HB : Hid (chrB c = false) := by
          show _ = _
          rw [HL.out, Bool.eq_false_iff]
          intro hh
          simp only [Bool.or_eq_true, Bool.and_eq_true, decide_eq_true_eq] at hh
          omega
        have HF : Hid (s.all chrB = false) := by
          show _ = _
          rw [List.all_eq_false]
          exact ⟨c, HM.out, by rw [HB.out]; simp⟩
        have b5 : ((C : Int) == 45) = false := by simpa using h5
        have b6 : ((C : Int) == 95) = false := by simpa using h6
        clear HL HM HB HA HT
        go_wp2
        go_ret
        exact ⟨by rw [nameB_of s _ HF.out]; rfl, Below.refl _ _⟩
      · have HB : Hid (chrB c = true) := by
          show _ = _
          rw [HL.out]
          simp only [Bool.or_eq_true, Bool.and_eq_true, decide_eq_true_eq]
          omega
        clear HL HM
        go_wp2
        go_round
        case rel =>
          refine ⟨i + 1, by omega, by go_num, ?_⟩
          show _ = _
          rw [HT.out, List.all_append, HA.out]
          simp [HB.out]
        case measure => simp [intOf]; omega
      · have HB : Hid (chrB c = true) := by
          show _ = _
          rw [HL.out]
          simp only [Bool.or_eq_true, Bool.and_eq_true, decide_eq_true_eq]
          omega
        clear HL HM
        go_wp2
        go_round
        case rel =>
          refine ⟨i + 1, by omega, by go_num, ?_⟩
          show _ = _
          rw [HT.out, List.all_append, HA.out]
          simp [HB.out]
        case measure => simp [intOf]; omega
      · have HB : Hid (chrB c = false) := by
          show _ = _
          rw [HL.out, Bool.eq_false_iff]
          intro hh
          simp only [Bool.or_eq_true, Bool.and_eq_true, decide_eq_true_eq] at hh
          omega
        have HF : Hid (s.all chrB = false) := by
          show _ = _
          rw [List.all_eq_false]
          exact ⟨c, HM.out, by rw [HB.out]; simp⟩
        have b5 : ((C : Int) == 45) = false := by simpa using h5
        have b6 : ((C : Int) == 95) = false := by simpa using h6
        clear HL HM HB HA HT
        go_wp2
        go_ret
        exact ⟨by rw [nameB_of s _ HF.out]; rfl, Below.refl _ _⟩
      · have HB : Hid (chrB c = true) := by
          show _ = _
          rw [HL.out]
          simp only [Bool.or_eq_true, Bool.and_eq_true, decide_eq_true_eq]
          omega
        clear HL HM
        go_wp2
        go_round
        case rel =>
          refine ⟨i + 1, by omega, by go_num, ?_⟩
          show _ = _
          rw [HT.out, List.all_append, HA.out]
          simp [HB.out]
        case measure => simp [intOf]; omega
      · have HB : Hid (chrB c = false) := by
          show _ = _
          rw [HL.out, Bool.eq_false_iff]
          intro hh
          simp only [Bool.or_eq_true, Bool.and_eq_true, decide_eq_true_eq] at hh
          omega
        have HF : Hid (s.all chrB = false) := by
          show _ = _
          rw [List.all_eq_false]
          exact ⟨c, HM.out, by rw [HB.out]; simp⟩
        have b5 : ((C : Int) == 45) = false := by simpa using h5
        have b6 : ((C : Int) == 95) = false := by simpa using h6
        clear HL HM HB HA HT
        go_wp2
        go_ret
        exact ⟨by rw [nameB_of s _ HF.out]; rfl, Below.refl _ _⟩
    · obtain rfl : i = n := by omega
      have HF : Hid (s.all chrB = true) := by
        have h := HA.out
        rw [List.take_of_length_le (by rw [hn]; exact Nat.le_refl _)] at h
        exact h
      have hnb := nameB_of s true HF.out
      rw [hn] at hnb
      have HNB := Lib.hid hnb
      clear HA HF hnb hn
      have zi : ¬ (i : Int) < (i : Int) := by omega
      by_cases h1 : 1 ≤ i
      · have d1 : decide ((1 : Int) ≤ (i : Int)) = true := decide_eq_true (by omega)
        by_cases h2 : i ≤ 30
        · have d2 : decide ((i : Int) ≤ 30) = true := decide_eq_true (by omega)
          go_wp2
          go_ret
          exact ⟨by rw [HNB.out]; simp [h1, h2], Below.refl _ _⟩
        · have d2 : decide ((i : Int) ≤ 30) = false := decide_eq_false (by omega)
          go_wp2
          go_ret
          exact ⟨by rw [HNB.out]; simp [h1, h2], Below.refl _ _⟩
      · have d1 : decide ((1 : Int) ≤ (i : Int)) = false := decide_eq_false (by omega)
        go_wp2
        go_ret
        exact ⟨by rw [HNB.out]; simp [h1], Below.refl _ _⟩
end Go.Proofs.Ytmiomfonglmfjaa

namespace Go.Proofs.Ytmiomfonglmfjaa
open Go.RowKit

/-- Names, as texts. -/
def bas (l : List (List UInt8)) : List ByteArray := l.map fun x => ⟨x.toArray⟩
theorem bas_length (l : List (List UInt8)) : (bas l).length = l.length := by simp [bas]

theorem joinL_take (l : List (List UInt8)) (i : Nat) : (joinL (l.take i)).length ≤ (joinL l).length := by
  have h : joinL l = joinL (l.take i) ++ joinL (l.drop i) := by
    conv => lhs; rw [← List.take_append_drop i l]
    simp only [joinL, List.flatMap_append]
  rw [h]; simp
theorem joinL_next (l : List (List UInt8)) (i : Nat) (hi : i < l.length) (x : List UInt8) (hx : l.getD i [] = x) : joinL (l.take (i + 1)) = joinL (l.take i) ++ 47 :: x := by
  rw [List.take_add_one]
  have e : l[i]? = some x := by
    rw [List.getElem?_eq_getElem hi]
    congr 1
    rw [← hx, List.getD_eq_getElem?_getD, List.getElem?_eq_getElem hi]
    rfl
  rw [e]
  exact joinL_snoc _ _

theorem two_add (y x : List UInt8) : (⟨y.toArray⟩ : ByteArray) ++ ⟨#[47]⟩ ++ ⟨x.toArray⟩ = ⟨(y ++ 47 :: x).toArray⟩ := by
  apply ByteArray.ext
  simp [ByteArray.data_append]

set_option maxRecDepth 100000 in
set_option maxHeartbeats 1000000 in
theorem rfMade_any (l : List (List UInt8)) (v : Value) (w : World) (hr : RdS w.heap.size w v (bas l)) (hl : (joinL l).length ≤ 1000000) : Calls Try.prog 44 #[v] w (One (txt (madeL l)) w) := by
  obtain ⟨A, c, rfl, hc, hm⟩ := hr.shape
  unfold maxLen at hm
  rw [bas_length] at hc hr ⊢
  obtain ⟨n, hn⟩ : ∃ n, l.length = n := ⟨_, rfl⟩
  have HN := Lib.hid hn
  have HR := Lib.hid hr
  have HL := Lib.hid hl
  rw [hn] at hc HR ⊢
  clear hr hn hl
  go_enter Try.func44, Try.ntmps44
  go_wp2
  go_loop [3, 4] (fun o x => ∃ i : Nat, i ≤ n ∧ x = .int .i64 (i : Int) ∧ o = txt (joinL (l.take i))) (fun _ x => n - (intOf x).toNat)
  case atStart => exact ⟨0, by omega, rfl, rfl⟩
  case round =>
    obtain ⟨i, hi, rfl, rfl⟩ := hrel
    by_cases hi2 : i < n
    · have zi : (i : Int) < (n : Int) := by omega
      obtain ⟨a, hA, ca⟩ := HR.out.at_ i (by rw [bas_length, HN.out]; exact hi2)
      subst hA
      obtain ⟨x, hx⟩ : ∃ x, l.getD i [] = x := ⟨_, rfl⟩
      have ex : (bas l)[i]'(by rw [bas_length, HN.out]; exact hi2) = ⟨x.toArray⟩ := by
        simp only [bas, List.getElem_map]
        congr 2
        rw [← hx, List.getD_eq_getElem?_getD, List.getElem?_eq_getElem (by rw [HN.out]; exact hi2)]
        rfl
      rw [ex] at ca
      have HE := Lib.hid (joinL_next l i (by rw [HN.out]; exact hi2) x hx)
      have hq := joinL_take l (i + 1)
      rw [HE.out] at hq
      have hq2 := HL.out
      obtain ⟨y, hy⟩ : ∃ y, joinL (l.take i) = y := ⟨_, rfl⟩
      rw [hy] at hq HE ⊢
      simp only [List.length_append, List.length_cons] at hq
      have b1 : ¬ 9223372036854775807 < y.length + 1 := by omega
      have b2 : ¬ 9223372036854775807 < y.length + 1 + x.length := by omega
      clear hq hq2 hx ex
      go_wp2
      go_round
      case rel =>
        refine ⟨i + 1, by omega, by go_num, ?_⟩
        rw [HE.out]
        exact congrArg Value.string (two_add y x)
      case measure => simp [intOf]; omega
    · have hE : i = n := by omega
      subst hE
      have HT : l.take i = l := List.take_of_length_le (by rw [HN.out]; exact Nat.le_refl _)
      rw [HT] at *
      obtain ⟨y, hy⟩ : ∃ y, joinL l = y := ⟨_, rfl⟩
      have hy3 : madeL l = if y = [] then [47] else y := by unfold madeL; rw [hy]
      have HM := Lib.hid hy3
      rw [hy]
      clear hy hy3 HT
      by_cases hye : y = []
      · subst hye
        go_wp2
        go_ret
        exact ⟨by rw [HM.out]; rfl, Below.refl _ _⟩
      · have hz : y.isEmpty = false := by simpa using hye
        go_wp2
        go_ret
        exact ⟨by rw [HM.out, if_neg hye]; rfl, Below.refl _ _⟩
end Go.Proofs.Ytmiomfonglmfjaa

namespace Go.Proofs.Ytmiomfonglmfjaa
open Go.RowKit

/-- The call answers texts of its own, and a truth. -/
def Cuts (l : List (List UInt8)) (b : Bool) (w : World) (e : Ending) (w' : World) : Prop :=
  ∃ v, e = .returned (.tuple #[v, .bool b]) ∧ OwnS 9 w' w.heap.size v (bas l) ∧ Below w.heap.size w w'
theorem OwnS.empty (e : TypeId) (w : World) (base : Nat) (hb : base ≤ w.heap.size) : OwnS e (w.alloc (.cells #[] e)) base (.slice (some ⟨w.heap.size, 0, none⟩) 0 0) [] :=
  World.ownsRow_made w #[] 0 hb (by decide) rfl
theorem infoStr : (Try.prog.info? 9).map (fun i => (i.zero, i.size, i.bytes)) = some (some (.string ⟨#[]⟩), 1, 16) := by kernel_rfl
theorem info_partsStr : ∃ i, Try.prog.info? 9 = some i ∧ i.zero = some (.string ⟨#[]⟩) ∧ i.size = 1 ∧ i.bytes = 16 := by
  have h := infoStr
  cases hi : Try.prog.info? 9 with
  | none => rw [hi] at h; simp at h
  | some i =>
    rw [hi] at h
    simp at h
    exact ⟨i, rfl, h.1, h.2.1, h.2.2⟩
theorem drop_next (s : List UInt8) (i : Nat) (hi : i < s.length) (c : UInt8) (hc : s.getD i 0 = c) : s.drop i = c :: s.drop (i + 1) := by
  have e : s[i] = c := by
    rw [← hc, List.getD_eq_getElem?_getD, List.getElem?_eq_getElem hi]
    rfl
  rw [List.drop_eq_getElem_cons hi, e]
theorem bas_snoc (l : List (List UInt8)) (x : List UInt8) : bas (l ++ [x]) = bas l ++ [⟨x.toArray⟩] := by simp [bas]
theorem cutL_next (s : List UInt8) (h0 : s.getD 0 0 = 47) (hl : 1 ≤ s.length) (h1 : s ≠ [47]) : cutL s = splitL [] (s.drop 1) ∧ slashB s = true := by
  match s, hl with
  | c :: r, _ =>
    have hc : c = 47 := h0
    subst hc
    have hr : r ≠ [] := fun h => h1 (by rw [h])
    exact ⟨by simp [cutL, hr], by simp [slashB]⟩
theorem cutL_not (s : List UInt8) (hl : 1 ≤ s.length) (h0 : s.getD 0 0 ≠ 47) : cutL s = [] ∧ slashB s = false := by
  match s, hl with
  | c :: r, _ =>
    have hc : c ≠ 47 := h0
    exact ⟨by simp [cutL, hc], by simp [slashB, hc]⟩
theorem b_add1 (y : List UInt8) (c : UInt8) : (⟨y.toArray⟩ : ByteArray) ++ ⟨[c].toArray⟩ = ⟨(y ++ [c]).toArray⟩ := by
  apply ByteArray.ext
  simp [ByteArray.data_append]

set_option maxRecDepth 100000 in
set_option maxHeartbeats 2000000 in
theorem rfCut_any (s : List UInt8) (w : World) (hs : s.length ≤ 1000000) : Calls Try.prog 41 #[txt s] w (Cuts (cutL s) (slashB s) w) := by
  obtain ⟨i0, hI, hz0, hz1, hz2⟩ := info_partsStr
  obtain ⟨n, hn⟩ : ∃ n, s.length = n := ⟨_, rfl⟩
  have hsz : (⟨s.toArray⟩ : ByteArray).size = n := hn
  have HN := Lib.hid hn
  rw [hn] at hs
  have HE0 := Lib.hid (OwnS.empty 9 w w.heap.size (Nat.le_refl _))
  have HB0 : Hid (Below w.heap.size w (w.alloc (.cells #[] 9))) := (Below.refl _ _).alloc (Nat.le_refl _) _
  go_enter Try.func41, Try.ntmps41
  by_cases h0 : n = 0
  · have : s = [] := List.eq_nil_of_length_eq_zero (by omega)
    subst this
    clear hn HN
    subst h0
    go_wp2
    go_ret2
    exact ⟨_, rfl, HE0.out, HB0.out⟩
  · have hpos : (0 : Int) < (n : Int) := by omega
    have hne : ((n : Int) == 0) = false := by simp; omega
    obtain ⟨c, hc⟩ : ∃ c, s.getD 0 0 = c := ⟨_, rfl⟩
    obtain ⟨C, hCE⟩ : ∃ C, c.toNat = C := ⟨_, rfl⟩
    have hix : ∀ w, (Instr.index 9 (txt s) (.int .i64 0)).run Try.prog w = .ok (.int .u8 (C : Int)) w := by
      intro w
      have h := run_index_txt s 0 (by omega) w
      rw [hc, hCE] at h
      exact h
    have HC := Lib.hid hc
    have HCE := Lib.hid hCE
    clear hc hCE hn
    by_cases h47 : C = 47
    · subst h47
      have hb : ((47 : Nat) : Int) = 47 := rfl
      have hcc : c = 47 := by
        have h := HCE.out
        exact UInt8.toNat_inj.1 (by rw [h]; rfl)
      by_cases h1 : s = [47]
      · subst h1
        go_wp2
        go_ret2
        exact ⟨_, rfl, HE0.out, HB0.out⟩
      · have hs1 : (s == [47]) = false := by simpa using h1
        have HQ := Lib.hid (cutL_next s (by rw [HC.out, hcc]) (by rw [HN.out]; omega) h1)
        clear h1 hcc
        go_wp2
        go_loopw [4, 5, 6] (fun vo vn vi wr => ∃ i : Nat, 1 ≤ i ∧ i ≤ n ∧ vi = .int .i64 (i : Int) ∧ ∃ (acc : List (List UInt8)) (nm : List UInt8), vn = txt nm ∧ nm.length ≤ i ∧ acc.length ≤ i ∧
          Hid (splitL [] (s.drop 1) = acc ++ splitL nm (s.drop i)) ∧ Hid (OwnS 9 wr w.heap.size vo (bas acc)) ∧ Hid (Below w.heap.size w wr)) (fun _ _ vi _ => n - (intOf vi).toNat)
        case atStart => exact ⟨1, by omega, by omega, rfl, [], [], rfl, by simp, by simp, rfl, HE0, HB0⟩
        case round =>
          obtain ⟨i, hi1, hi, rfl, acc, nm, rfl, hnl, hal, HS, HO, HB⟩ := hrel
          have hwr := HB.out.size
          by_cases hi2 : i < n
          · have zi : (i : Int) < (n : Int) := by omega
            have hiy := run_index_txt s i (by rw [HN.out]; exact hi2)
            obtain ⟨d, hd⟩ : ∃ d, s.getD i 0 = d := ⟨_, rfl⟩
            have HD := Lib.hid (drop_next s i (by rw [HN.out]; exact hi2) d hd)
            rw [hd] at hiy
            obtain ⟨D, hDE⟩ : ∃ D, d.toNat = D := ⟨_, rfl⟩
            rw [hDE] at hiy
            have HDE := Lib.hid hDE
            clear hd hDE
            by_cases d47 : D = 47
            · subst d47
              have hS2 : splitL [] (s.drop 1) = (acc ++ [nm]) ++ splitL [] (s.drop (i + 1)) := by
                have hd : d = 47 := UInt8.toNat_inj.1 (by rw [HDE.out]; rfl)
                rw [HS.out, HD.out, hd, splitL, if_pos rfl]
                simp
              have HS2 := Lib.hid hS2
              clear hS2
              go_wp2_with (at_builtin; refine wpList_app1S rfl _ _ 80 rfl 9 i0 Try.underlying80 hI hz0 hz1 hz2 w.heap.size u4 (bas acc) ⟨nm.toArray⟩ ⟨wr.heap.size, 0, none⟩ rfl (HO.out.alloc _) rfl ?d1 ?d2 ?d3 ?_)
              case d1 => simp
              case d2 => rw [bas_length]; omega
              case d3 => simp; omega
              intro v4 w4 hown4 hb4
              rw [← bas_snoc] at hown4
              have HO4 := Lib.hid hown4
              have HB4 : Hid (Below w.heap.size w w4) := (HB.out.alloc hwr _).trans hb4
              clear hown4 hb4
              go_wp2
              go_roundw
              case rel => exact ⟨i + 1, by omega, by omega, by go_num, acc ++ [nm], [], rfl, by simp, by simp; omega, HS2, HO4, HB4⟩
              case measure => simp [intOf]; omega
            · have d472 : ((D : Int) == 47) = false := by simp; omega
              have hS2 : splitL [] (s.drop 1) = acc ++ splitL (nm ++ [d]) (s.drop (i + 1)) := by
                have hd : d ≠ 47 := fun h => d47 (by rw [← HDE.out, h]; rfl)
                rw [HS.out, HD.out, splitL, if_neg hd]
              have HS2 := Lib.hid hS2
              clear hS2
              have hcv : (convert 91 9 (.slice (some ⟨wr.heap.size, 0, none⟩) 1 1)).run Try.prog (wr.alloc (.cells #[.int .u8 (D : Int)] 5)) = .ok (.string ⟨[d].toArray⟩) (wr.alloc (.cells #[.int .u8 (D : Int)] 5)) := by
                have h := Rd.one 5 wr d
                rw [HDE.out] at h
                exact run_string_rd 91 9 5 Try.underlying91 Try.underlying5 Try.underlying9 h
              have b1 : ¬ 9223372036854775807 < nm.length + 1 := by omega
              have HB4 : Hid (Below w.heap.size w (wr.alloc (.cells #[.int .u8 (D : Int)] 5))) := HB.out.alloc hwr _
              have HO4 := Lib.hid (HO.out.alloc (.cells #[.int .u8 (D : Int)] 5))
              go_wp2
              go_roundw
              case rel => exact ⟨i + 1, by omega, by omega, by go_num, acc, nm ++ [d], congrArg Value.string (b_add1 nm d), by simp; omega, by omega, HS2, HO4, HB4⟩
              case measure => simp [intOf]; omega
          · have hE : i = n := by omega
            subst hE
            have hS2 : splitL [] (s.drop 1) = acc ++ [nm] := by
              have hd : s.drop i = [] := List.drop_eq_nil_of_le (by rw [HN.out]; exact Nat.le_refl _)
              rw [HS.out, hd, splitL]
            have HS2 := Lib.hid hS2
            clear hS2
            go_wp2_with (at_builtin; refine wpList_app1S rfl _ _ 80 rfl 9 i0 Try.underlying80 hI hz0 hz1 hz2 w.heap.size u4 (bas acc) ⟨nm.toArray⟩ ⟨wr.heap.size, 0, none⟩ rfl (HO.out.alloc _) rfl ?d1 ?d2 ?d3 ?_)
            case d1 => simp
            case d2 => rw [bas_length]; omega
            case d3 => simp; omega
            intro v4 w4 hown4 hb4
            rw [← bas_snoc] at hown4
            have HO4 := Lib.hid hown4
            have HB4 : Hid (Below w.heap.size w w4) := (HB.out.alloc hwr _).trans hb4
            clear hown4 hb4
            go_wp2
            go_ret2
            rw [HQ.out.1, HQ.out.2, HS2.out]
            exact ⟨_, rfl, HO4.out, HB4.out⟩
    · have hb : ((C : Int) != 47) = true := by simp; omega
      have HQ := Lib.hid (cutL_not s (by rw [HN.out]; omega) (by rw [HC.out]; intro h; apply h47; rw [← HCE.out, h]; rfl))
      go_wp2
      go_ret2
      rw [HQ.out.1, HQ.out.2]
      exact ⟨_, rfl, HE0.out, HB0.out⟩
end Go.Proofs.Ytmiomfonglmfjaa

namespace Go.Proofs.Ytmiomfonglmfjaa
open Go.RowKit

theorem splitL_len (s nm : List UInt8) : ∀ x ∈ splitL nm s, x.length ≤ nm.length + s.length := by
  induction s generalizing nm with
  | nil => intro x hx; simp [splitL] at hx; subst hx; simp
  | cons c r ih =>
    intro x hx
    rw [splitL] at hx
    split at hx
    · rcases List.mem_cons.1 hx with rfl | hx
      · simp
      · have := ih [] x hx; simp at this ⊢; omega
    · have := ih (nm ++ [c]) x hx; simp at this ⊢; omega
theorem cutL_len (s : List UInt8) : ∀ x ∈ cutL s, x.length ≤ s.length := by
  match s with
  | [] => intro x hx; simp [cutL] at hx
  | c :: r =>
    intro x hx
    rw [cutL] at hx
    split at hx
    · split at hx
      · simp at hx
      · have := splitL_len r [] x hx; simp at this ⊢; omega
    · simp at hx
theorem bas_at (l : List (List UInt8)) (i : Nat) (hi : i < l.length) (x : List UInt8) (hx : l.getD i [] = x) : (bas l)[i]'(by rw [bas_length]; exact hi) = ⟨x.toArray⟩ := by
  simp only [bas, List.getElem_map]
  congr 2
  rw [← hx, List.getD_eq_getElem?_getD, List.getElem?_eq_getElem hi]
  rfl
theorem rightB_long (s : List UInt8) (h : 100 < s.length) : rightB s = false := by
  unfold rightB
  have : decide (s.length ≤ 100) = false := by simp; omega
  rw [this]; simp
theorem rightB_not (s : List UInt8) (h : (cutL s).all nameB = false) : rightB s = false := by
  unfold rightB
  rw [h]; simp
theorem rightB_yes (s : List UInt8) (h1 : s.length ≤ 100) (h : (cutL s).all nameB = true) : rightB s = (slashB s && decide ((cutL s).length ≤ 8)) := by
  unfold rightB
  rw [h]
  have : decide (s.length ≤ 100) = true := by simp; omega
  rw [this]; simp

set_option maxRecDepth 100000 in
set_option maxHeartbeats 2000000 in
theorem rfRight_any (s : List UInt8) (w : World) : Calls Try.prog 29 #[txt s] w (One (.bool (rightB s)) w) := by
  obtain ⟨n, hn⟩ : ∃ n, s.length = n := ⟨_, rfl⟩
  have hsz : (⟨s.toArray⟩ : ByteArray).size = n := hn
  have HN := Lib.hid hn
  go_enter Try.func29, Try.ntmps29
  by_cases h100 : 100 < (n : Int)
  · go_wp2
    go_ret
    exact ⟨by rw [rightB_long s (by omega)]; rfl, Below.refl _ _⟩
  · have hle : n ≤ 100 := by omega
    clear hn
    go_wp2_with fail
    refine (rfCut_any s w (by rw [HN.out]; omega)).mono ?_
    rintro e w1 ⟨v, rfl, ho, hb⟩
    have hs1 := hb.size
    have HB := Lib.hid hb
    have hr := ho.rd
    obtain ⟨A, cp, rfl, hc, hm⟩ := hr.shape
    unfold maxLen at hm
    rw [bas_length] at hc hr ⊢
    have HL := Lib.hid (cutL_len s)
    obtain ⟨l, hl⟩ : ∃ l, cutL s = l := ⟨_, rfl⟩
    have HY := Lib.hid (rightB_yes s (by rw [HN.out]; exact hle))
    have HX := Lib.hid (rightB_not s)
    rw [hl] at hc hr HL HY HX ⊢
    obtain ⟨m, hm2⟩ : ∃ m, l.length = m := ⟨_, rfl⟩
    have HM := Lib.hid hm2
    have HR := Lib.hid hr
    rw [hm2] at hc HR ⊢
    clear hr hm2 ho hb hl
    go_wp2
    go_loopw [5] (fun vi wr => ∃ i : Nat, i ≤ m ∧ vi = .int .i64 (i : Int) ∧ Hid ((l.take i).all nameB = true) ∧ Hid (Below w1.heap.size w1 wr)) (fun vi _ => m - (intOf vi).toNat)
    case atStart => exact ⟨0, by omega, rfl, by simp [Hid], Below.refl _ _⟩
    case round =>
      obtain ⟨i, hi, rfl, HA, HBr⟩ := hrel
      have hwr := HBr.out.size
      by_cases hi2 : i < m
      · have zi : (i : Int) < (m : Int) := by omega
        have HRr := HR.out.below HBr.out
        obtain ⟨a, hA, ca⟩ := HRr.at_ i (by rw [bas_length, HM.out]; exact hi2)
        subst hA
        obtain ⟨x, hx⟩ : ∃ x, l.getD i [] = x := ⟨_, rfl⟩
        rw [bas_at l i (by rw [HM.out]; exact hi2) x hx] at ca
        have hxm : x ∈ l := by
          rw [← hx, List.getD_eq_getElem?_getD, List.getElem?_eq_getElem (by rw [HM.out]; exact hi2)]
          exact List.getElem_mem _
        have HXM := Lib.hid hxm
        have hxl : x.length ≤ 1000000 := by
          have h := HL.out x hxm
          rw [HN.out] at h
          omega
        have HT : Hid (l.take (i + 1) = l.take i ++ [x]) := by
          show _ = _
          rw [List.take_add_one]
          have e : l[i]? = some x := by
            rw [List.getElem?_eq_getElem (by rw [HM.out]; exact hi2)]
            congr 1
            rw [← hx, List.getD_eq_getElem?_getD, List.getElem?_eq_getElem (by rw [HM.out]; exact hi2)]
            rfl
          rw [e]; rfl
        have HXL := Lib.hid hxl
        clear HRr hx hxm hxl
        go_wp2_with fail
        refine (rfName_any x wr HXL.out).mono ?_
        rintro e w3 ⟨rfl, hb3⟩
        have HB3 := Lib.hid (HBr.out.trans (hb3.mono hwr))
        clear hb3
        cases hxb : nameB x
        · have HF : Hid (l.all nameB = false) := by
            show _ = _
            rw [List.all_eq_false]
            exact ⟨x, HXM.out, by rw [hxb]; simp⟩
          go_wp2
          go_ret
          exact ⟨by rw [HX.out HF.out]; rfl, HB.out.trans (HB3.out.mono hs1)⟩
        · go_wp2
          go_roundw
          case rel =>
            refine ⟨i + 1, by omega, by go_num, ?_, HB3⟩
            show _ = _
            rw [HT.out, List.all_append, HA.out]
            simp [hxb]
          case measure => simp [intOf]; omega
      · have hE : i = m := by omega
        subst hE
        have HF : Hid (l.all nameB = true) := by
          show _ = _
          have h := HA.out
          rw [List.take_of_length_le (by rw [HM.out]; exact Nat.le_refl _)] at h
          exact h
        have HZ := Lib.hid (HY.out HF.out)
        rw [HM.out] at HZ
        cases hb : slashB s
        · rw [hb] at HZ
          go_wp2
          go_ret
          exact ⟨by rw [HZ.out]; rfl, HB.out.trans (HBr.out.mono hs1)⟩
        · rw [hb] at HZ
          go_wp2
          go_ret
          exact ⟨by rw [HZ.out]; simp; omega, HB.out.trans (HBr.out.mono hs1)⟩

/-- The call answers texts of its own, and a fault. -/
def Lists (l : List (List UInt8)) (f : Nat) (w : World) (e : Ending) (w' : World) : Prop :=
  ∃ v, e = .returned (.tuple #[v, .int .i64 (f : Int)]) ∧ OwnS 9 w' w.heap.size v (bas l) ∧ Below w.heap.size w w'
def namesL (s : List UInt8) : List (List UInt8) := if rightB s = true then cutL s else []
def namesE (s : List UInt8) : Nat := if rightB s = true then 0 else 13
theorem names_yes (s : List UInt8) (h : rightB s = true) : namesL s = cutL s ∧ namesE s = 0 := by simp [namesL, namesE, h]
theorem names_not (s : List UInt8) (h : rightB s = false) : namesL s = [] ∧ namesE s = 13 := by simp [namesL, namesE, h]
theorem rightB_len (s : List UInt8) (h : rightB s = true) : s.length ≤ 100 ∧ (cutL s).all nameB = true ∧ slashB s = true ∧ (cutL s).length ≤ 8 := by
  unfold rightB at h
  simp only [Bool.and_eq_true, decide_eq_true_eq] at h
  exact ⟨h.1.1.1, h.1.1.2, h.1.2, h.2⟩

set_option maxRecDepth 100000 in
set_option maxHeartbeats 2000000 in
theorem rfNames_any (s : List UInt8) (w : World) : Calls Try.prog 43 #[txt s] w (Lists (namesL s) (namesE s) w) := by
  go_enter Try.func43, Try.ntmps43
  go_wp2_with fail
  refine (rfRight_any s w).mono ?_
  rintro e w1 ⟨rfl, hb⟩
  have hs1 := hb.size
  have HB := Lib.hid hb
  clear hb
  cases hR : rightB s
  · have HN := Lib.hid (names_not s hR)
    clear hR
    go_wp2
    go_ret2
    rw [HN.out.1, HN.out.2]
    exact ⟨_, rfl, OwnS.nil _ _ _, HB.out⟩
  · have HN := Lib.hid (names_yes s hR)
    have HQ := Lib.hid (rightB_len s hR)
    clear hR
    go_wp2_with fail
    refine (rfCut_any s w1 (by have := HQ.out.1; omega)).mono ?_
    rintro e w2 ⟨v, rfl, ho, hb⟩
    have HO := Lib.hid (ho.base hs1)
    have HB2 := Lib.hid (HB.out.trans (hb.mono hs1))
    clear ho hb
    go_wp2
    go_ret2
    rw [HN.out.1, HN.out.2]
    exact ⟨_, rfl, HO.out, HB2.out⟩
end Go.Proofs.Ytmiomfonglmfjaa

namespace Go.Proofs.Ytmiomfonglmfjaa
open Go.RowKit

theorem joinL_split (s nm : List UInt8) : (joinL (splitL nm s)).length = 1 + nm.length + s.length := by
  induction s generalizing nm with
  | nil => simp [splitL, joinL]; omega
  | cons c r ih =>
    rw [splitL]
    split
    · rw [joinL_cons]
      have := ih []
      simp at this ⊢; omega
    · have := ih (nm ++ [c]); simp at this ⊢; omega
theorem joinL_cut (s : List UInt8) : (joinL (cutL s)).length ≤ s.length := by
  match s with
  | [] => simp [cutL, joinL]
  | c :: r =>
    rw [cutL]
    split
    · split
      · simp [joinL]
      · rw [joinL_split]; simp; omega
    · simp [joinL]
theorem RdS.take {B : Nat} {w : World} {A : Option Addr} {n c : Nat} {l : List ByteArray} (h : RdS B w (.slice A n c) l) (k : Nat) (hk : k ≤ n) : RdS B w (.slice A k c) (l.take k) := by
  obtain ⟨A', c', hv, hc, hm, hn, hr⟩ := h
  injection hv with h1 h2 h3
  subst h1 h2 h3
  have hl : (l.take k).length = k := by simp; omega
  refine ⟨A, c, by rw [hl], by rw [hl]; omega, hm, hn, fun a ha => ⟨fun h0 => (hr a ha).1 (by omega), fun j hj => ?_⟩⟩
  rw [(hr a ha).2 j (by omega)]
  simp
theorem bas_take (l : List (List UInt8)) (k : Nat) : (bas l).take k = bas (l.take k) := by simp [bas]

def parentS (s : List UInt8) : List UInt8 := if rightB s = true ∧ cutL s ≠ [] then madeL ((cutL s).take ((cutL s).length - 1)) else []
def parentE (s : List UInt8) : Nat := if rightB s = true then (if cutL s = [] then 6 else 0) else 13
theorem parent_not (s : List UInt8) (h : rightB s = false) : parentS s = [] ∧ parentE s = 13 := by simp [parentS, parentE, h]
theorem parent_root (s : List UInt8) (h : rightB s = true) (h2 : cutL s = []) : parentS s = [] ∧ parentE s = 6 := by simp [parentS, parentE, h, h2]
theorem parent_yes (s : List UInt8) (h : rightB s = true) (h2 : cutL s ≠ []) : parentS s = madeL ((cutL s).take ((cutL s).length - 1)) ∧ parentE s = 0 := by simp [parentS, parentE, h, h2]
/-- The call answers a text and a fault. -/
def Says (l : List UInt8) (f : Nat) (w : World) (e : Ending) (w' : World) : Prop := e = .returned (.tuple #[txt l, .int .i64 (f : Int)]) ∧ Below w.heap.size w w'

set_option maxRecDepth 100000 in
set_option maxHeartbeats 2000000 in
theorem rfParent_any (s : List UInt8) (w : World) : Calls Try.prog 30 #[txt s] w (Says (parentS s) (parentE s) w) := by
  go_enter Try.func30, Try.ntmps30
  go_wp2_with fail
  refine (rfNames_any s w).mono ?_
  rintro e w1 ⟨v, rfl, ho, hb⟩
  have hs1 := hb.size
  have HB := Lib.hid hb
  cases hR : rightB s
  · have HN := Lib.hid (names_not s hR)
    have HP := Lib.hid (parent_not s hR)
    rw [HN.out.2]
    clear hR ho hb
    go_wp2
    go_ret2
    rw [HP.out.1, HP.out.2]
    exact ⟨rfl, HB.out⟩
  · have HN := Lib.hid (names_yes s hR)
    have HQ := Lib.hid (rightB_len s hR)
    rw [HN.out.1] at ho
    rw [HN.out.2]
    have hr := ho.rd
    obtain ⟨A, cp, rfl, hc, hm⟩ := hr.shape
    unfold maxLen at hm
    rw [bas_length] at hc hr ⊢
    by_cases h0 : cutL s = []
    · have HP := Lib.hid (parent_root s hR h0)
      have hl : (cutL s).length = 0 := by rw [h0]; rfl
      rw [hl] at hc ⊢
      clear hR ho hb hr h0 hl
      go_wp2
      go_ret2
      rw [HP.out.1, HP.out.2]
      exact ⟨rfl, HB.out⟩
    · have HP := Lib.hid (parent_yes s hR h0)
      have hj : (joinL ((cutL s).take ((cutL s).length - 1))).length ≤ 1000000 := by
        have h1 := joinL_take (cutL s) ((cutL s).length - 1)
        have h2 := joinL_cut s
        have h3 := HQ.out.1
        omega
      have HJ := Lib.hid hj
      have hl8 := HQ.out.2.2.2
      obtain ⟨m, hm2⟩ : ∃ m, (cutL s).length = m := ⟨_, rfl⟩
      have hmp : m ≠ 0 := by
        intro h
        exact h0 (List.eq_nil_of_length_eq_zero (by omega))
      rw [hm2] at hc hr HP HJ hl8 ⊢
      have hr2 := hr.take (m - 1) (by omega)
      rw [bas_take] at hr2
      have HR2 := Lib.hid hr2
      clear hR ho hb hr h0 hr2 hj hm2
      go_wp2_with fail
      refine (rfMade_any _ _ w1 HR2.out HJ.out).mono ?_
      rintro e w2 ⟨rfl, hb2⟩
      have HB2 := Lib.hid (HB.out.trans (hb2.mono hs1))
      clear hb2
      go_wp2
      go_ret2
      rw [HP.out.1, HP.out.2]
      exact ⟨rfl, HB2.out⟩

def joinP (s nm : List UInt8) : List UInt8 := madeL (cutL s ++ [nm])
def joinOk (s nm : List UInt8) : Bool := rightB s && nameB nm && rightB (joinP s nm)
def joinS (s nm : List UInt8) : List UInt8 := if joinOk s nm = true then joinP s nm else []
def joinE (s nm : List UInt8) : Nat := if joinOk s nm = true then 0 else 13
theorem join_not (s nm : List UInt8) (h : joinOk s nm = false) : joinS s nm = [] ∧ joinE s nm = 13 := by simp [joinS, joinE, h]
theorem join_yes (s nm : List UInt8) (h : joinOk s nm = true) : joinS s nm = joinP s nm ∧ joinE s nm = 0 := by simp [joinS, joinE, h]

end Go.Proofs.Ytmiomfonglmfjaa

namespace Go.Proofs.Ytmiomfonglmfjaa
open Go.RowKit

theorem belowL_len : ∀ (a b : List (List UInt8)), b.length ≤ a.length → belowL a b = false
  | [], [], _ => rfl
  | [], _ :: _, h => by simp at h
  | _ :: _, [], _ => rfl
  | x :: a, y :: b, h => by
    unfold belowL
    rw [belowL_len a b (by simpa using h)]
    simp
theorem belowL_diff : ∀ (a b : List (List UInt8)) (i : Nat), i < a.length → a.getD i [] ≠ b.getD i [] → belowL a b = false
  | [], _, _, h, _ => by simp at h
  | _ :: _, [], _, _, _ => rfl
  | x :: a, y :: b, i, h, hd => by
    unfold belowL
    cases i with
    | zero =>
      have : x ≠ y := by simpa using hd
      rw [if_neg this]
    | succ i =>
      rw [belowL_diff a b i (by simpa using h) (by simpa using hd)]
      simp
theorem belowL_all : ∀ (a b : List (List UInt8)), a.length < b.length → (∀ i, i < a.length → a.getD i [] = b.getD i []) → belowL a b = true
  | [], _ :: _, _, _ => rfl
  | _, [], h, _ => by simp at h
  | x :: a, y :: b, h, hd => by
    unfold belowL
    have h0 : x = y := by simpa using hd 0 (by simp)
    rw [if_pos h0]
    exact belowL_all a b (by simpa using h) (fun i hi => by simpa using hd (i + 1) (by simpa using hi))
theorem aheadL_diff : ∀ (a b : List (List UInt8)) (i : Nat), i < a.length → i < b.length → (∀ j, j < i → a.getD j [] = b.getD j []) → a.getD i [] ≠ b.getD i [] → aheadL a b = lessB (a.getD i []) (b.getD i [])
  | [], _, _, h, _, _, _ => by simp at h
  | _ :: _, [], _, _, h, _, _ => by simp at h
  | x :: a, y :: b, i, h, h2, hj, hd => by
    unfold aheadL
    cases i with
    | zero =>
      have : x ≠ y := by simpa using hd
      rw [if_neg this]
      rfl
    | succ i =>
      have h0 : x = y := by simpa using hj 0 (by omega)
      rw [if_pos h0]
      simpa using aheadL_diff a b i (by simpa using h) (by simpa using h2) (fun j hj2 => by simpa using hj (j + 1) (by omega)) (by simpa using hd)
theorem aheadL_end : ∀ (a b : List (List UInt8)), (∀ i, i < a.length → i < b.length → a.getD i [] = b.getD i []) → aheadL a b = decide (a.length < b.length)
  | [], [], _ => rfl
  | [], _ :: _, _ => by simp [aheadL]
  | _ :: _, [], _ => by simp [aheadL]
  | x :: a, y :: b, hd => by
    unfold aheadL
    have h0 : x = y := by simpa using hd 0 (by simp) (by simp)
    rw [if_pos h0, aheadL_end a b (fun i h1 h2 => by simpa using hd (i + 1) (by simpa using h1) (by simpa using h2))]
    simp

def belowB (p q : List UInt8) : Bool := rightB p && rightB q && belowL (cutL p) (cutL q)
def aheadB (p q : List UInt8) : Bool := rightB p && rightB q && aheadL (cutL p) (cutL q)
theorem belowB_not (p q : List UInt8) (h : (rightB p && rightB q) = false) : belowB p q = false := by simp [belowB, h]
theorem belowB_yes (p q : List UInt8) (h : rightB p = true) (h2 : rightB q = true) : belowB p q = belowL (cutL p) (cutL q) := by simp [belowB, h, h2]
theorem aheadB_not (p q : List UInt8) (h : (rightB p && rightB q) = false) : aheadB p q = false := by simp [aheadB, h]
theorem aheadB_yes (p q : List UInt8) (h : rightB p = true) (h2 : rightB q = true) : aheadB p q = aheadL (cutL p) (cutL q) := by simp [aheadB, h, h2]
theorem namesE_or (p : List UInt8) : (rightB p = true ∧ namesE p = 0 ∧ namesL p = cutL p) ∨ (rightB p = false ∧ namesE p = 13 ∧ namesL p = []) := by
  cases h : rightB p
  · exact .inr ⟨rfl, (names_not p h).2, (names_not p h).1⟩
  · exact .inl ⟨rfl, (names_yes p h).2, (names_yes p h).1⟩
theorem txt_ne (x y : List UInt8) (h : x ≠ y) : (x == y) = false := by simpa using h

end Go.Proofs.Ytmiomfonglmfjaa
