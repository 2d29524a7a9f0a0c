/-
  Texts Y3 Y4 Y5 Y6 Y7 Q0 Sh.
-/
import Derived.Deep.QuietTactic
import Derived.BigQuiet
import Derived.Lib.SplitLaws
import Derived.Lib.LastIndexByte
import Derived.Shelf.Small.Wraps
import Derived.Shelf.Strings.Search1
import Derived.Shelf.Strings.Search2
import Derived.Shelf.Strings.Search3
import Derived.Shelf.Strings.Cut
import Derived.Shelf.Strings.Count
import Derived.Shelf.Strings.LastIndex
import Derived.Shelf.Strings.Prefix
import Derived.Shelf.Strings.Split
import Derived.Test.YtdihngkdhanhkaaGreatDoorProg
import Derived.Test.YtdihngkdhanhkaaGreatDoorZ03
namespace Go.Proofs.YtdihngkdhanhkaaGreatDoor
open Go.RowKit

theorem OwnS.empty (e : TypeId) (w : World) (base : Nat) (hb : base ≤ w.heap.size) : OwnS e (w.alloc (.cells #[] e)) base (.slice (some ⟨w.heap.size, 0, none⟩) 0 0) [] :=
  World.ownsRow_made w #[] 0 hb (by decide) rfl
theorem infoStr : (Tryz.prog.info? 9).map (fun i => (i.zero, i.size, i.bytes)) = some (some (.string ⟨#[]⟩), 1, 16) := by kernel_rfl
theorem info_partsStr : ∃ i, Tryz.prog.info? 9 = some i ∧ i.zero = some (.string ⟨#[]⟩) ∧ i.size = 1 ∧ i.bytes = 16 := by
  have h := infoStr
  cases hi : Tryz.prog.info? 9 with
  | none => rw [hi] at h; simp at h
  | some i =>
    rw [hi] at h
    simp at h
    exact ⟨i, rfl, h.1, h.2.1, h.2.2⟩
theorem bas_snoc (l : List (List UInt8)) (x : List UInt8) : bas (l ++ [x]) = bas l ++ [⟨x.toArray⟩] := by simp [bas]
end Go.Proofs.YtdihngkdhanhkaaGreatDoor
namespace Go.Proofs.YtdihngkdhanhkaaGreatDoor
open Go.RowKit

theorem bas_at (l : List (List UInt8)) (i : Nat) (hi : i < l.length) (x : List UInt8) (hx : l.getD i [] = x) : (bas l)[i]'(by rw [bas_length]; exact hi) = ⟨x.toArray⟩ := by
  simp only [bas, List.getElem_map]
  congr 2
  rw [← hx, List.getD_eq_getElem?_getD, List.getElem?_eq_getElem hi]
  rfl
theorem rightB_long (s : List UInt8) (h : 100 < s.length) : rightB s = false := by
  unfold rightB
  have : decide (s.length ≤ 100) = false := by simp; omega
  rw [this]; simp
/-- The call answers texts of its own, and a fault. -/
def Lists (l : List (List UInt8)) (f : Nat) (w : World) (e : Ending) (w' : World) : Prop :=
  ∃ v, e = .returned (.tuple #[v, .int .i64 (f : Int)]) ∧ OwnS 9 w' w.heap.size v (bas l) ∧ Below w.heap.size w w'
def namesL (s : List UInt8) : List (List UInt8) := if rightB s = true then cutL s else []
def namesE (s : List UInt8) : Nat := if rightB s = true then 0 else 13
theorem names_yes (s : List UInt8) (h : rightB s = true) : namesL s = cutL s ∧ namesE s = 0 := by simp [namesL, namesE, h]
theorem names_not (s : List UInt8) (h : rightB s = false) : namesL s = [] ∧ namesE s = 13 := by simp [namesL, namesE, h]
theorem rightB_len (s : List UInt8) (h : rightB s = true) : s.length ≤ 100 ∧ (cutL s).all nameB = true ∧ slashB s = true ∧ (cutL s).length ≤ 8 := by
  unfold rightB at h
  simp only [Bool.and_eq_true, decide_eq_true_eq] at h
  exact ⟨h.1.1.1, h.1.1.2, h.1.2, h.2⟩

end Go.Proofs.YtdihngkdhanhkaaGreatDoor
namespace Go.Proofs.YtdihngkdhanhkaaGreatDoor
open Go.RowKit

theorem joinL_split (s nm : List UInt8) : (joinL (splitL nm s)).length = 1 + nm.length + s.length := by
  induction s generalizing nm with
  | nil => simp [splitL, joinL]; omega
  | cons c r ih =>
    rw [splitL]
    split
    · rw [joinL_cons]
      have := ih []
      simp at this ⊢; omega
    · have := ih (nm ++ [c]); simp at this ⊢; omega
theorem joinL_cut (s : List UInt8) : (joinL (cutL s)).length ≤ s.length := by
  match s with
  | [] => simp [cutL, joinL]
  | c :: r =>
    rw [cutL]
    split
    · split
      · simp [joinL]
      · rw [joinL_split]; simp; omega
    · simp [joinL]
theorem RdS.take {B : Nat} {w : World} {A : Option Addr} {n c : Nat} {l : List ByteArray} (h : RdS B w (.slice A n c) l) (k : Nat) (hk : k ≤ n) : RdS B w (.slice A k c) (l.take k) := by
  obtain ⟨A', c', hv, hc, hm, hn, hr⟩ := h
  injection hv with h1 h2 h3
  subst h1 h2 h3
  have hl : (l.take k).length = k := by simp; omega
  refine ⟨A, c, by rw [hl], by rw [hl]; omega, hm, hn, fun a ha => ⟨fun h0 => (hr a ha).1 (by omega), fun j hj => ?_⟩⟩
  rw [(hr a ha).2 j (by omega)]
  simp
def parentS (s : List UInt8) : List UInt8 := if rightB s = true ∧ cutL s ≠ [] then madeL ((cutL s).take ((cutL s).length - 1)) else []
def parentE (s : List UInt8) : Nat := if rightB s = true then (if cutL s = [] then 6 else 0) else 13
theorem parent_not (s : List UInt8) (h : rightB s = false) : parentS s = [] ∧ parentE s = 13 := by simp [parentS, parentE, h]
theorem parent_root (s : List UInt8) (h : rightB s = true) (h2 : cutL s = []) : parentS s = [] ∧ parentE s = 6 := by simp [parentS, parentE, h, h2]
theorem parent_yes (s : List UInt8) (h : rightB s = true) (h2 : cutL s ≠ []) : parentS s = madeL ((cutL s).take ((cutL s).length - 1)) ∧ parentE s = 0 := by simp [parentS, parentE, h, h2]
/-- The call answers a text and a fault. -/
def Says (l : List UInt8) (f : Nat) (w : World) (e : Ending) (w' : World) : Prop := e = .returned (.tuple #[txt l, .int .i64 (f : Int)]) ∧ Below w.heap.size w w'

end Go.Proofs.YtdihngkdhanhkaaGreatDoor
namespace Go.Proofs.YtdihngkdhanhkaaGreatDoor
open Go.RowKit

theorem aheadL_diff : ∀ (a b : List (List UInt8)) (i : Nat), i < a.length → i < b.length → (∀ j, j < i → a.getD j [] = b.getD j []) → a.getD i [] ≠ b.getD i [] → aheadL a b = lessB (a.getD i []) (b.getD i [])
  | [], _, _, h, _, _, _ => by simp at h
  | _ :: _, [], _, _, h, _, _ => by simp at h
  | x :: a, y :: b, i, h, h2, hj, hd => by
    unfold aheadL
    cases i with
    | zero =>
      have : x ≠ y := by simpa using hd
      rw [if_neg this]
      rfl
    | succ i =>
      have h0 : x = y := by simpa using hj 0 (by omega)
      rw [if_pos h0]
      simpa using aheadL_diff a b i (by simpa using h) (by simpa using h2) (fun j hj2 => by simpa using hj (j + 1) (by omega)) (by simpa using hd)
theorem aheadL_end : ∀ (a b : List (List UInt8)), (∀ i, i < a.length → i < b.length → a.getD i [] = b.getD i []) → aheadL a b = decide (a.length < b.length)
  | [], [], _ => rfl
  | [], _ :: _, _ => by simp [aheadL]
  | _ :: _, [], _ => by simp [aheadL]
  | x :: a, y :: b, hd => by
    unfold aheadL
    have h0 : x = y := by simpa using hd 0 (by simp) (by simp)
    rw [if_pos h0, aheadL_end a b (fun i h1 h2 => by simpa using hd (i + 1) (by simpa using h1) (by simpa using h2))]
    simp

def belowB (p q : List UInt8) : Bool := rightB p && rightB q && belowL (cutL p) (cutL q)
def aheadB (p q : List UInt8) : Bool := rightB p && rightB q && aheadL (cutL p) (cutL q)
theorem aheadB_not (p q : List UInt8) (h : (rightB p && rightB q) = false) : aheadB p q = false := by simp [aheadB, h]
theorem aheadB_yes (p q : List UInt8) (h : rightB p = true) (h2 : rightB q = true) : aheadB p q = aheadL (cutL p) (cutL q) := by simp [aheadB, h, h2]
theorem namesE_or (p : List UInt8) : (rightB p = true ∧ namesE p = 0 ∧ namesL p = cutL p) ∨ (rightB p = false ∧ namesE p = 13 ∧ namesL p = []) := by
  cases h : rightB p
  · exact .inr ⟨rfl, (names_not p h).2, (names_not p h).1⟩
  · exact .inl ⟨rfl, (names_yes p h).2, (names_yes p h).1⟩
theorem txt_ne (x y : List UInt8) (h : x ≠ y) : (x == y) = false := by simpa using h

end Go.Proofs.YtdihngkdhanhkaaGreatDoor
namespace Go.Proofs.YtdihngkdhanhkaaGreatDoor
open Go.RowKit

end Go.Proofs.YtdihngkdhanhkaaGreatDoor
namespace Go.Proofs.YtdihngkdhanhkaaGreatDoor

def headS : List UInt8 → List UInt8
  | [] => []
  | c :: r => if c = 47 then [] else c :: headS r
def tailS : List UInt8 → List UInt8
  | [] => []
  | c :: r => if c = 47 then r else tailS r
def hasS : List UInt8 → Bool
  | [] => false
  | c :: r => if c = 47 then true else hasS r
theorem hasS_not : ∀ s, hasS s = false → headS s = s ∧ tailS s = []
  | [], _ => ⟨rfl, rfl⟩
  | c :: r, h => by
    unfold hasS at h
    by_cases hc : c = 47
    · rw [if_pos hc] at h; cases h
    · rw [if_neg hc] at h
      obtain ⟨h1, h2⟩ := hasS_not r h
      unfold headS tailS
      rw [if_neg hc, if_neg hc, h1, h2]
      exact ⟨rfl, rfl⟩
theorem hasS_yes : ∀ s, hasS s = true → s = headS s ++ 47 :: tailS s
  | [], h => by cases h
  | c :: r, h => by
    unfold hasS at h
    by_cases hc : c = 47
    · unfold headS tailS
      rw [if_pos hc, if_pos hc, hc]
      rfl
    · rw [if_neg hc] at h
      unfold headS tailS
      rw [if_neg hc, if_neg hc, List.cons_append, ← hasS_yes r h]
theorem hasS_len (s : List UInt8) (h : hasS s = true) : (headS s).length + 1 + (tailS s).length = s.length := by
  have e := congrArg List.length (hasS_yes s h)
  simp at e
  omega
theorem headS_take (s : List UInt8) (h : hasS s = true) : s.take (headS s).length = headS s := by
  have e := congrArg (List.take (headS s).length) (hasS_yes s h)
  exact e.trans (by simp)
theorem tailS_drop (s : List UInt8) (h : hasS s = true) : s.drop ((headS s).length + 1) = tailS s := by
  have e := congrArg (List.drop ((headS s).length + 1)) (hasS_yes s h)
  exact e.trans (by rw [← List.drop_drop]; simp)
theorem headS_le (s : List UInt8) : (headS s).length ≤ s.length := by
  cases h : hasS s
  · rw [(hasS_not s h).1]; exact Nat.le_refl _
  · have := hasS_len s h; omega
theorem index_head : ∀ s, Lib.indexByte s 47 = if hasS s = true then ((headS s).length : Int) else -1
  | [] => rfl
  | c :: r => by
    unfold Lib.indexByte hasS headS
    by_cases hc : c = 47
    · subst hc; simp
    · have h1 : (c == 47) = false := by simpa using hc
      rw [h1, if_neg hc, if_neg hc, index_head r]
      cases h : hasS r <;> simp
theorem split_head : ∀ s nm, splitL nm s = if hasS s = true then (nm ++ headS s) :: splitL [] (tailS s) else [nm ++ s]
  | [], nm => by simp [splitL, hasS]
  | c :: r, nm => by
    by_cases hc : c = 47
    · simp [splitL, hasS, headS, tailS, hc]
    · simp only [splitL, hasS, headS, tailS, if_neg hc]
      rw [split_head r (nm ++ [c])]
      simp
theorem split_not (s : List UInt8) (h : hasS s = false) : splitL [] s = [s] := by rw [split_head, h]; simp
theorem split_yes (s : List UInt8) (h : hasS s = true) : splitL [] s = headS s :: splitL [] (tailS s) := by rw [split_head, h]; simp
theorem split_count : ∀ s nm, (splitL nm s).length = s.count 47 + 1
  | [], nm => rfl
  | c :: r, nm => by
    unfold splitL
    by_cases hc : c = 47
    · subst hc
      rw [if_pos rfl, List.length_cons, split_count r [], List.count_cons_self]
    · rw [if_neg hc, split_count r, List.count_cons_of_ne (by simpa using hc)]

/-- The program's own question. -/
theorem right_root : rightB [47] = true := by decide
theorem right_many (p : List UInt8) (h : 8 < p.count 47) : rightB p = false := by
  cases p with
  | nil => rfl
  | cons c r =>
    by_cases hc : c = 47
    · subst hc
      have hr : r ≠ [] := by
        intro e; subst e; simp at h
      have e : (cutL (47 :: r)).length = r.count 47 + 1 := by
        rw [cutL, if_pos rfl, if_neg hr, split_count]
      rw [List.count_cons_self] at h
      unfold rightB
      have : decide ((cutL (47 :: r)).length ≤ 8) = false := by rw [e]; simp; omega
      rw [this]; simp
    · unfold rightB slashB
      simp [hc]
theorem right_start (p : List UInt8) (h : slashB p = false) : rightB p = false := by
  unfold rightB
  rw [h]; simp
theorem right_rest (r : List UInt8) (hr : r ≠ []) (hl : (47 :: r).length ≤ 100) (hc : (47 :: r).count 47 ≤ 8) : rightB (47 :: r) = (splitL [] r).all nameB := by
  have e : cutL (47 :: r) = splitL [] r := by rw [cutL, if_pos rfl, if_neg hr]
  rw [List.count_cons_self] at hc
  have h3 : (splitL [] r).length ≤ 8 := by rw [split_count]; omega
  unfold rightB
  rw [e]
  simp [slashB, h3]
  intro _
  simpa using hl
theorem slash_prefix (p : List UInt8) : Lib.hasPrefix p [47] = slashB p := by
  cases p with
  | nil => rfl
  | cons c r =>
    unfold Lib.hasPrefix slashB
    by_cases hc : c = 47
    · subst hc; simp [List.isPrefixOf]
    · have : ((47 : UInt8) == c) = false := by simpa using fun e => hc e.symm
      simp [List.isPrefixOf, this, hc]
theorem slash_trim (p : List UInt8) (h : slashB p = true) : p = 47 :: Lib.trimPrefix p [47] := by
  cases p with
  | nil => cases h
  | cons c r =>
    have hc : c = 47 := by simpa [slashB] using h
    subst hc
    unfold Lib.trimPrefix
    rw [slash_prefix, h]
    rfl

theorem right_slash (p : List UInt8) (h : rightB p = true) : slashB p = true := (rightB_len p h).2.2.1
theorem cut_root (p : List UInt8) (h : slashB p = true) : cutL p = [] ↔ p = [47] := by
  cases p with
  | nil => cases h
  | cons c r =>
    have hc : c = 47 := by simpa [slashB] using h
    subst hc
    rw [cutL, if_pos rfl]
    by_cases hr : r = []
    · subst hr; simp
    · rw [if_neg hr]
      constructor
      · intro e
        have := split_count r []
        rw [e] at this; simp at this
      · intro e; injection e with _ e; exact absurd e hr
theorem join_cut (p : List UInt8) (h : slashB p = true) (h2 : p ≠ [47]) : joinL (cutL p) = p := by
  have e := made_cut p h
  have hn : cutL p ≠ [] := fun e => h2 ((cut_root p h).1 e)
  unfold madeL at e
  split at e
  · rename_i hj
    cases hc : cutL p with
    | nil => exact absurd hc hn
    | cons x l => rw [hc] at hj; simp [joinL] at hj
  · exact e
theorem right_names (p : List UInt8) (h : rightB p = true) : ∀ y ∈ cutL p, y.all chrB = true := by
  intro y hy
  have h1 := (rightB_len p h).2.1
  rw [List.all_eq_true] at h1
  have := h1 y hy
  unfold nameB at this
  simp only [Bool.and_eq_true] at this
  exact this.1.1
/-- The last slash of a path with names. -/
theorem last_slash (p : List UInt8) (h : rightB p = true) (h1 : p ≠ [47]) : ∃ m : Nat, m < p.length ∧ p.getD m 0 = 47 ∧ (∀ j, m < j → j < p.length → p.getD j 0 ≠ 47) ∧ parentE p = 0 ∧ parentS p = if m = 0 then [47] else p.take m := by
  have sp := right_slash p h
  have hj := join_cut p sp h1
  have hn : cutL p ≠ [] := fun e => h1 ((cut_root p sp).1 e)
  obtain ⟨l, x, hlx⟩ : ∃ l x, cutL p = l ++ [x] := ⟨(cutL p).dropLast, (cutL p).getLast hn, (List.dropLast_concat_getLast hn).symm⟩
  have hx := right_names p h x (by rw [hlx]; simp)
  have e : p = joinL l ++ 47 :: x := by rw [← hj, hlx, joinL_snoc]
  have hy := parent_yes p h hn
  refine ⟨(joinL l).length, ?_, ?_, ?_, hy.2, ?_⟩
  · have := congrArg List.length e
    simp at this; omega
  · rw [e]; simp
  · intro j hj1 hj2 hc
    have hl := congrArg List.length e
    simp at hl
    rw [e] at hc
    rw [List.getD_eq_getElem?_getD, List.getElem?_append_right (by omega)] at hc
    obtain ⟨k, hk⟩ : ∃ k, j - (joinL l).length = k + 1 := ⟨j - (joinL l).length - 1, by omega⟩
    rw [hk, List.getElem?_cons_succ, List.getElem?_eq_getElem (by omega)] at hc
    rw [List.all_eq_true] at hx
    have := hx _ (List.getElem_mem (l := x) (n := k) (by omega))
    simp at hc
    rw [hc] at this
    exact absurd this (by decide)
  · rw [hy.1, hlx]
    simp only [List.length_append, List.length_cons, List.length_nil, Nat.zero_add, Nat.add_sub_cancel]
    rw [List.take_append_of_le_length (Nat.le_refl _), List.take_length]
    unfold madeL
    by_cases h0 : joinL l = []
    · rw [if_pos h0, h0]; rfl
    · rw [if_neg h0, if_neg (fun h2 => h0 (List.eq_nil_of_length_eq_zero h2))]
      conv => rhs; rw [e]
      simp
theorem last_of (p : List UInt8) (m : Nat) (hm : m < p.length) (h1 : p.getD m 0 = 47) (h2 : ∀ j, m < j → j < p.length → p.getD j 0 ≠ 47) : Lib.lastIndexByte ⟨p.toArray⟩ 47 = (m : Int) := by
  have hsz : (⟨p.toArray⟩ : ByteArray).size = p.length := rfl
  have hb : ∀ j, j < p.length → (⟨p.toArray⟩ : ByteArray).data[j]! = p.getD j 0 := by
    intro j hj
    rw [getElem!_pos _ j (by simpa using hj)]
    simp [List.getD_eq_getElem?_getD, List.getElem?_eq_getElem hj]
  unfold Lib.lastIndexByte
  rw [hsz]
  rcases Lib.lastIdx_spec ⟨p.toArray⟩ 47 p.length with ⟨_, hn⟩ | ⟨i, hi, e, hc, hn⟩
  · have := hn m hm
    rw [hb m hm, h1] at this
    exact absurd rfl this
  · rw [e]
    rw [hb i hi] at hc
    have hci : p.getD i 0 = 47 := by
      apply UInt8.toNat_inj.1
      have : ((47 : UInt8).toNat : Int) = 47 := rfl
      omega
    by_cases h : i < m
    · have := hn m h hm
      rw [hb m hm, h1] at this
      exact absurd rfl this
    · by_cases h3 : m < i
      · exact absurd hci (h2 i h3 hi)
      · congr 1; omega
end Go.Proofs.YtdihngkdhanhkaaGreatDoor
namespace Go.Proofs
open Go.Shelf
def Tryz.lays103_ren : Go.Shelf.Ren := ⟨fun | 103 => 125 | 210 => 152 | 206 => 175 | n => n, fun | 9 => 9 | 4 => 4 | 24 => 212 | 3 => 3 | n => n, fun | n => n⟩
theorem Tryz.lays103 : Go.Proofs.Lays.n103 Tryz.prog Tryz.lays103_ren := {
  mixed := by kernel_rfl
  f103 := Tryz.func125.trans (congrArg some (by kernel_rfl))
  f206 := Tryz.func175.trans (congrArg some (by kernel_rfl))
  f210 := Tryz.func152.trans (congrArg some (by kernel_rfl))
  t3 := Tryz.underlying3
  a3 := Tryz.isAgg3
  z3 := Tryz.sizeOf3
  v3 := Tryz.zeroValue3
  t4 := Tryz.underlying4
  a4 := Tryz.isAgg4
  z4 := Tryz.sizeOf4
  v4 := Tryz.zeroValue4
  t9 := Tryz.underlying9
  a9 := Tryz.isAgg9
  z9 := Tryz.sizeOf9
  v9 := Tryz.zeroValue9
  t24 := Tryz.underlying212
  a24 := Tryz.isAgg212
  z24 := Tryz.sizeOf212
  v24 := Tryz.zeroValue212 }
open Go.RowKit in
theorem Tryz.strings_CutPrefix (s p : ByteArray) (w : World) :
    Calls Tryz.prog 125 #[.string s, .string p] w fun e w' => e = .returned (.tuple #[.string ⟨(Lib.trimPrefix s.data.toList p.data.toList).toArray⟩, .bool (Lib.hasPrefix s.data.toList p.data.toList)]) ∧ w' = w := Any.strings_CutPrefix Tryz.lays103 s p w
def Tryz.lays219_ren : Go.Shelf.Ren := ⟨fun | 219 => 174 | 217 => 201 | 225 => 202 | 224 => 203 | 267 => 204 | 266 => 214 | 314 => 215 | n => n, fun | 9 => 9 | 3 => 3 | 4 => 4 | 5 => 5 | 46 => 209 | 146 => 246 | 51 => 245 | n => n, fun | 1 => 0 | n => n⟩
theorem Tryz.lays219 : Go.Proofs.Lays.n219 Tryz.prog Tryz.lays219_ren := {
  mixed := by kernel_rfl
  f217 := Tryz.func201.trans (congrArg some (by kernel_rfl))
  f219 := Tryz.func174.trans (congrArg some (by kernel_rfl))
  f224 := Tryz.func203.trans (congrArg some (by kernel_rfl))
  f225 := Tryz.func202.trans (congrArg some (by kernel_rfl))
  f266 := Tryz.func214.trans (congrArg some (by kernel_rfl))
  f267 := Tryz.func204.trans (congrArg some (by kernel_rfl))
  f314 := Tryz.func215.trans (congrArg some (by kernel_rfl))
  t3 := Tryz.underlying3
  a3 := Tryz.isAgg3
  z3 := Tryz.sizeOf3
  v3 := Tryz.zeroValue3
  t4 := Tryz.underlying4
  a4 := Tryz.isAgg4
  z4 := Tryz.sizeOf4
  v4 := Tryz.zeroValue4
  t5 := Tryz.underlying5
  a5 := Tryz.isAgg5
  z5 := Tryz.sizeOf5
  v5 := Tryz.zeroValue5
  t9 := Tryz.underlying9
  a9 := Tryz.isAgg9
  z9 := Tryz.sizeOf9
  v9 := Tryz.zeroValue9
  t46 := Tryz.underlying209
  a46 := Tryz.isAgg209
  z46 := Tryz.sizeOf209
  v46 := Tryz.zeroValue209
  t51 := Tryz.underlying245
  a51 := Tryz.isAgg245
  z51 := Tryz.sizeOf245
  v51 := Tryz.zeroValue245
  t146 := Tryz.underlying246
  a146 := Tryz.isAgg246
  z146 := Tryz.sizeOf246
  v146 := Tryz.zeroValue246
  g1 := by kernel_rfl }
open Go.RowKit Go.Lib in
theorem Tryz.stringslite_Index_one (s : ByteArray) (c : UInt8) (w : World) :
    Calls Tryz.prog 174 #[.string s, .string ⟨#[c]⟩] w fun e w' => e = .returned (.int .i64 (Lib.indexByte s.data.toList c)) ∧ w' = w := Any.stringslite_Index_one Tryz.lays219 s c w
def Tryz.lays143_ren : Go.Shelf.Ren := ⟨fun | 143 => 151 | 219 => 174 | 217 => 201 | 225 => 202 | 224 => 203 | 267 => 204 | 266 => 214 | 314 => 215 | n => n, fun | 9 => 9 | 3 => 3 | 4 => 4 | 5 => 5 | 46 => 209 | 146 => 246 | 51 => 245 | n => n, fun | 1 => 0 | n => n⟩
theorem Tryz.lays143 : Go.Proofs.Lays.n143 Tryz.prog Tryz.lays143_ren := {
  mixed := by kernel_rfl
  f143 := Tryz.func151.trans (congrArg some (by kernel_rfl))
  f217 := Tryz.func201.trans (congrArg some (by kernel_rfl))
  f219 := Tryz.func174.trans (congrArg some (by kernel_rfl))
  f224 := Tryz.func203.trans (congrArg some (by kernel_rfl))
  f225 := Tryz.func202.trans (congrArg some (by kernel_rfl))
  f266 := Tryz.func214.trans (congrArg some (by kernel_rfl))
  f267 := Tryz.func204.trans (congrArg some (by kernel_rfl))
  f314 := Tryz.func215.trans (congrArg some (by kernel_rfl))
  t3 := Tryz.underlying3
  a3 := Tryz.isAgg3
  z3 := Tryz.sizeOf3
  v3 := Tryz.zeroValue3
  t4 := Tryz.underlying4
  a4 := Tryz.isAgg4
  z4 := Tryz.sizeOf4
  v4 := Tryz.zeroValue4
  t5 := Tryz.underlying5
  a5 := Tryz.isAgg5
  z5 := Tryz.sizeOf5
  v5 := Tryz.zeroValue5
  t9 := Tryz.underlying9
  a9 := Tryz.isAgg9
  z9 := Tryz.sizeOf9
  v9 := Tryz.zeroValue9
  t46 := Tryz.underlying209
  a46 := Tryz.isAgg209
  z46 := Tryz.sizeOf209
  v46 := Tryz.zeroValue209
  t51 := Tryz.underlying245
  a51 := Tryz.isAgg245
  z51 := Tryz.sizeOf245
  v51 := Tryz.zeroValue245
  t146 := Tryz.underlying246
  a146 := Tryz.isAgg246
  z146 := Tryz.sizeOf246
  v146 := Tryz.zeroValue246
  g1 := by kernel_rfl }
open Go.RowKit Go.Lib in
theorem Tryz.strings_Index_one (s : ByteArray) (c : UInt8) (w : World) :
    Calls Tryz.prog 151 #[.string s, .string ⟨#[c]⟩] w fun e w' => e = .returned (.int .i64 (Lib.indexByte s.data.toList c)) ∧ w' = w := Any.strings_Index_one Tryz.lays143 s c w
def Tryz.lays138_ren : Go.Shelf.Ren := ⟨fun | 138 => 124 | 195 => 149 | 218 => 150 | 143 => 151 | 219 => 174 | 217 => 201 | 225 => 202 | 224 => 203 | 267 => 204 | 266 => 214 | 314 => 215 | n => n, fun | 9 => 9 | 3 => 3 | 4 => 4 | 5 => 5 | 0 => 0 | 46 => 209 | 146 => 246 | 51 => 245 | n => n, fun | 1 => 0 | n => n⟩
theorem Tryz.lays138 : Go.Proofs.Lays.n138 Tryz.prog Tryz.lays138_ren := {
  mixed := by kernel_rfl
  f138 := Tryz.func124.trans (congrArg some (by kernel_rfl))
  f143 := Tryz.func151.trans (congrArg some (by kernel_rfl))
  f195 := Tryz.func149.trans (congrArg some (by kernel_rfl))
  f217 := Tryz.func201.trans (congrArg some (by kernel_rfl))
  f218 := Tryz.func150.trans (congrArg some (by kernel_rfl))
  f219 := Tryz.func174.trans (congrArg some (by kernel_rfl))
  f224 := Tryz.func203.trans (congrArg some (by kernel_rfl))
  f225 := Tryz.func202.trans (congrArg some (by kernel_rfl))
  f266 := Tryz.func214.trans (congrArg some (by kernel_rfl))
  f267 := Tryz.func204.trans (congrArg some (by kernel_rfl))
  f314 := Tryz.func215.trans (congrArg some (by kernel_rfl))
  t0 := Tryz.underlying0
  a0 := Tryz.isAgg0
  z0 := Tryz.sizeOf0
  v0 := Tryz.zeroValue0
  t3 := Tryz.underlying3
  a3 := Tryz.isAgg3
  z3 := Tryz.sizeOf3
  v3 := Tryz.zeroValue3
  t4 := Tryz.underlying4
  a4 := Tryz.isAgg4
  z4 := Tryz.sizeOf4
  v4 := Tryz.zeroValue4
  t5 := Tryz.underlying5
  a5 := Tryz.isAgg5
  z5 := Tryz.sizeOf5
  v5 := Tryz.zeroValue5
  t9 := Tryz.underlying9
  a9 := Tryz.isAgg9
  z9 := Tryz.sizeOf9
  v9 := Tryz.zeroValue9
  t46 := Tryz.underlying209
  a46 := Tryz.isAgg209
  z46 := Tryz.sizeOf209
  v46 := Tryz.zeroValue209
  t51 := Tryz.underlying245
  a51 := Tryz.isAgg245
  z51 := Tryz.sizeOf245
  v51 := Tryz.zeroValue245
  t146 := Tryz.underlying246
  a146 := Tryz.isAgg246
  z146 := Tryz.sizeOf246
  v146 := Tryz.zeroValue246
  g1 := by kernel_rfl }
open Go.RowKit Go.Lib in
theorem Tryz.strings_Count_one (s : ByteArray) (c : UInt8) (w : World) :
    Calls Tryz.prog 124 #[.string s, .string ⟨#[c]⟩] w fun e w' => e = .returned (.int .i64 (Lib.countByte s.data.toList c)) ∧ w' = w := Any.strings_Count_one Tryz.lays138 s c w
def Tryz.lays148_ren : Go.Shelf.Ren := ⟨fun | 148 => 128 | 222 => 155 | 223 => 156 | 269 => 178 | n => n, fun | 9 => 9 | 3 => 3 | 4 => 4 | 5 => 5 | 146 => 246 | 51 => 245 | 46 => 209 | n => n, fun | n => n⟩
theorem Tryz.lays148 : Go.Proofs.Lays.n148 Tryz.prog Tryz.lays148_ren := {
  mixed := by kernel_rfl
  f148 := Tryz.func128.trans (congrArg some (by kernel_rfl))
  f222 := Tryz.func155.trans (congrArg some (by kernel_rfl))
  f223 := Tryz.func156.trans (congrArg some (by kernel_rfl))
  f269 := Tryz.func178.trans (congrArg some (by kernel_rfl))
  t3 := Tryz.underlying3
  a3 := Tryz.isAgg3
  z3 := Tryz.sizeOf3
  v3 := Tryz.zeroValue3
  t4 := Tryz.underlying4
  a4 := Tryz.isAgg4
  z4 := Tryz.sizeOf4
  v4 := Tryz.zeroValue4
  t5 := Tryz.underlying5
  a5 := Tryz.isAgg5
  z5 := Tryz.sizeOf5
  v5 := Tryz.zeroValue5
  t9 := Tryz.underlying9
  a9 := Tryz.isAgg9
  z9 := Tryz.sizeOf9
  v9 := Tryz.zeroValue9
  t46 := Tryz.underlying209
  a46 := Tryz.isAgg209
  z46 := Tryz.sizeOf209
  v46 := Tryz.zeroValue209
  t51 := Tryz.underlying245
  a51 := Tryz.isAgg245
  z51 := Tryz.sizeOf245
  v51 := Tryz.zeroValue245
  t146 := Tryz.underlying246
  a146 := Tryz.isAgg246
  z146 := Tryz.sizeOf246
  v146 := Tryz.zeroValue246 }
open Go.RowKit Go.Lib in
theorem Tryz.strings_LastIndex_one (s sub : ByteArray) (h1 : sub.size = 1) (hs : s.size < 4611686018427387904) (w : World) :
    Calls Tryz.prog 128 #[.string s, .string sub] w fun e w' => e = .returned (.int .i64 (Lib.lastIndexByte s ((sub[0]'(by omega)).toNat : Int))) ∧ w' = w := Any.strings_LastIndex_one Tryz.lays148 s sub h1 hs w
def Tryz.lays221_ren : Go.Shelf.Ren := ⟨fun | 221 => 199 | 268 => 213 | 138 => 124 | 143 => 151 | 195 => 149 | 197 => 218 | 218 => 150 | 219 => 174 | 260 => 221 | 217 => 201 | 225 => 202 | 224 => 203 | 267 => 204 | 266 => 214 | 314 => 215 | n => n, fun | 9 => 9 | 3 => 3 | 31 => 55 | 4 => 4 | 0 => 0 | 105 => 271 | 21 => 21 | 5 => 5 | 46 => 209 | 119 => 275 | 139 => 278 | 138 => 277 | 146 => 246 | 51 => 245 | n => n, fun | 1 => 0 | 3 => 1 | 4 => 2 | n => n⟩
theorem Tryz.lays221 : Go.Proofs.Lays.n221 Tryz.prog Tryz.lays221_ren := {
  mixed := by kernel_rfl
  f138 := Tryz.func124.trans (congrArg some (by kernel_rfl))
  f143 := Tryz.func151.trans (congrArg some (by kernel_rfl))
  f195 := Tryz.func149.trans (congrArg some (by kernel_rfl))
  f197 := Tryz.func218.trans (congrArg some (by kernel_rfl))
  f217 := Tryz.func201.trans (congrArg some (by kernel_rfl))
  f218 := Tryz.func150.trans (congrArg some (by kernel_rfl))
  f219 := Tryz.func174.trans (congrArg some (by kernel_rfl))
  f221 := Tryz.func199.trans (congrArg some (by kernel_rfl))
  f224 := Tryz.func203.trans (congrArg some (by kernel_rfl))
  f225 := Tryz.func202.trans (congrArg some (by kernel_rfl))
  f260 := Tryz.func221.trans (congrArg some (by kernel_rfl))
  f266 := Tryz.func214.trans (congrArg some (by kernel_rfl))
  f267 := Tryz.func204.trans (congrArg some (by kernel_rfl))
  f268 := Tryz.func213.trans (congrArg some (by kernel_rfl))
  f314 := Tryz.func215.trans (congrArg some (by kernel_rfl))
  t0 := Tryz.underlying0
  a0 := Tryz.isAgg0
  z0 := Tryz.sizeOf0
  v0 := Tryz.zeroValue0
  t3 := Tryz.underlying3
  a3 := Tryz.isAgg3
  z3 := Tryz.sizeOf3
  v3 := Tryz.zeroValue3
  t4 := Tryz.underlying4
  a4 := Tryz.isAgg4
  z4 := Tryz.sizeOf4
  v4 := Tryz.zeroValue4
  t5 := Tryz.underlying5
  a5 := Tryz.isAgg5
  z5 := Tryz.sizeOf5
  v5 := Tryz.zeroValue5
  t9 := Tryz.underlying9
  a9 := Tryz.isAgg9
  z9 := Tryz.sizeOf9
  v9 := Tryz.zeroValue9
  t21 := Tryz.underlying21
  a21 := Tryz.isAgg21
  z21 := Tryz.sizeOf21
  v21 := Tryz.zeroValue21
  t31 := Tryz.underlying55
  a31 := Tryz.isAgg55
  z31 := Tryz.sizeOf55
  v31 := Tryz.zeroValue55
  t46 := Tryz.underlying209
  a46 := Tryz.isAgg209
  z46 := Tryz.sizeOf209
  v46 := Tryz.zeroValue209
  t51 := Tryz.underlying245
  a51 := Tryz.isAgg245
  z51 := Tryz.sizeOf245
  v51 := Tryz.zeroValue245
  t105 := Tryz.underlying271
  a105 := Tryz.isAgg271
  z105 := Tryz.sizeOf271
  v105 := Tryz.zeroValue271
  t119 := Tryz.underlying275
  a119 := Tryz.isAgg275
  z119 := Tryz.sizeOf275
  t138 := Tryz.underlying277
  a138 := Tryz.isAgg277
  z138 := Tryz.sizeOf277
  v138 := Tryz.zeroValue277
  t139 := Tryz.underlying278
  a139 := Tryz.isAgg278
  z139 := Tryz.sizeOf278
  v139 := Tryz.zeroValue278
  t146 := Tryz.underlying246
  a146 := Tryz.isAgg246
  z146 := Tryz.sizeOf246
  v146 := Tryz.zeroValue246
  g1 := by kernel_rfl
  g3 := by kernel_rfl
  g4 := by kernel_rfl }
end Go.Proofs
