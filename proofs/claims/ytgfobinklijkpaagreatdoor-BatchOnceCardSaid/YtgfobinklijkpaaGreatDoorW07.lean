/-
  Texts Q0 Sh Q1 Q2.
-/
import Derived.Test.YtgfobinklijkpaaGreatDoorW01
import Derived.Lib.SplitLaws
import Derived.Lib.LastIndexByte
import Derived.Shelf.Small.Wraps
import Derived.Shelf.Strings.Search1
import Derived.Shelf.Strings.Search2
import Derived.Shelf.Strings.Search3
import Derived.Shelf.Strings.Cut
import Derived.Shelf.Strings.Count
import Derived.Shelf.Strings.LastIndex
import Derived.Shelf.Strings.Prefix
import Derived.Shelf.Strings.Split
import Derived.Test.YtgfobinklijkpaaGreatDoorProg
import Derived.Test.YtgfobinklijkpaaGreatDoorW06
namespace Go.Proofs.YtgfobinklijkpaaGreatDoor
set_option maxRecDepth 100000
set_option maxHeartbeats 16000000
def headS : List UInt8 → List UInt8
 | [] => []
 | c :: r => if c = 47 then [] else c :: headS r
def tailS : List UInt8 → List UInt8
 | [] => []
 | c :: r => if c = 47 then r else tailS r
def hasS : List UInt8 → Bool
 | [] => false
 | c :: r => if c = 47 then true else hasS r
theorem hasS_not : ∀ s, hasS s = false → headS s = s ∧ tailS s = []
 | [], _ => ⟨rfl, rfl⟩
 | c :: r, h => by
   unfold hasS at h
   by_cases hc : c = 47
   ·rw [if_pos hc] at h; cases h
   ·rw [if_neg hc] at h
    obtain ⟨h1, h2⟩ := hasS_not r h
    unfold headS tailS
    rw [if_neg hc, if_neg hc, h1, h2]
    exact ⟨rfl, rfl⟩
theorem hasS_yes : ∀ s, hasS s = true → s = headS s ++ 47 :: tailS s
 | [], h => by cases h
 | c :: r, h => by
   unfold hasS at h
   by_cases hc : c = 47
   ·unfold headS tailS
    rw [if_pos hc, if_pos hc, hc]
    rfl
   ·rw [if_neg hc] at h
    unfold headS tailS
    rw [if_neg hc, if_neg hc, List.cons_append, ← hasS_yes r h]
theorem hasS_len (s : List UInt8) (h : hasS s = true) : (headS s).length + 1 + (tailS s).length = s.length := by
 have e := congrArg List.length (hasS_yes s h)
 simp at e
 omega
theorem headS_take (s : List UInt8) (h : hasS s = true) : s.take (headS s).length = headS s := by
 have e := congrArg (List.take (headS s).length) (hasS_yes s h)
 exact e.trans (by simp)
theorem tailS_drop (s : List UInt8) (h : hasS s = true) : s.drop ((headS s).length + 1) = tailS s := by
 have e := congrArg (List.drop ((headS s).length + 1)) (hasS_yes s h)
 exact e.trans (by rw [← List.drop_drop]; simp)
theorem headS_le (s : List UInt8) : (headS s).length ≤ s.length := by
 cases h : hasS s
 ·rw [(hasS_not s h).1]; exact Nat.le_refl _
 ·have := hasS_len s h; omega
theorem index_head : ∀ s, Lib.indexByte s 47 = if hasS s = true then ((headS s).length : Int) else -1
 | [] => rfl
 | c :: r => by
   unfold Lib.indexByte hasS headS
   by_cases hc : c = 47
   ·subst hc; simp
   ·have h1 : (c == 47) = false := by simpa using hc
    rw [h1, if_neg hc, if_neg hc, index_head r]
    cases h : hasS r <;> simp
theorem split_head : ∀ s nm, splitL nm s = if hasS s = true then (nm ++ headS s) :: splitL [] (tailS s) else [nm ++ s]
 | [], nm => by simp [splitL, hasS]
 | c :: r, nm => by
   by_cases hc : c = 47
   ·simp [splitL, hasS, headS, tailS, hc]
   ·simp only [splitL, hasS, headS, tailS, if_neg hc]
    rw [split_head r (nm ++ [c])]
    simp
theorem split_not (s : List UInt8) (h : hasS s = false) : splitL [] s = [s] := by rw [split_head, h]; simp
theorem split_yes (s : List UInt8) (h : hasS s = true) : splitL [] s = headS s :: splitL [] (tailS s) := by rw [split_head, h]; simp
theorem split_count : ∀ s nm, (splitL nm s).length = s.count 47 + 1
 | [], nm => rfl
 | c :: r, nm => by
   unfold splitL
   by_cases hc : c = 47
   ·subst hc
    rw [if_pos rfl, List.length_cons, split_count r [], List.count_cons_self]
   ·rw [if_neg hc, split_count r, List.count_cons_of_ne (by simpa using hc)]
theorem right_root : rightB [47] = true := by decide
theorem right_many (p : List UInt8) (h : 8 < p.count 47) : rightB p = false := by
 cases p with
 | nil => rfl
 | cons c r =>
   by_cases hc : c = 47
   ·subst hc
    have hr : r ≠ [] := by
     intro e; subst e; simp at h
    have e : (cutL (47 :: r)).length = r.count 47 + 1 := by
     rw [cutL, if_pos rfl, if_neg hr, split_count]
    rw [List.count_cons_self] at h
    unfold rightB
    have : decide ((cutL (47 :: r)).length ≤ 8) = false := by rw [e]; simp; omega
    rw [this]; simp
   ·unfold rightB slashB
    simp [hc]
theorem right_start (p : List UInt8) (h : slashB p = false) : rightB p = false := by
 unfold rightB
 rw [h]; simp
theorem right_rest (r : List UInt8) (hr : r ≠ []) (hl : (47 :: r).length ≤ 100) (hc : (47 :: r).count 47 ≤ 8) : rightB (47 :: r) = (splitL [] r).all nameB := by
 have e : cutL (47 :: r) = splitL [] r := by rw [cutL, if_pos rfl, if_neg hr]
 rw [List.count_cons_self] at hc
 have h3 : (splitL [] r).length ≤ 8 := by rw [split_count]; omega
 unfold rightB
 rw [e]
 simp [slashB, h3]
 intro _
 simpa using hl
theorem slash_prefix (p : List UInt8) : Lib.hasPrefix p [47] = slashB p := by
 cases p with
 | nil => rfl
 | cons c r =>
   unfold Lib.hasPrefix slashB
   by_cases hc : c = 47
   ·subst hc; simp [List.isPrefixOf]
   ·have : ((47 : UInt8) == c) = false := by simpa using fun e => hc e.symm
    simp [List.isPrefixOf, this, hc]
theorem slash_trim (p : List UInt8) (h : slashB p = true) : p = 47 :: Lib.trimPrefix p [47] := by
 cases p with
 | nil => cases h
 | cons c r =>
   have hc : c = 47 := by simpa [slashB] using h
   subst hc
   unfold Lib.trimPrefix
   rw [slash_prefix, h]
   rfl
theorem right_slash (p : List UInt8) (h : rightB p = true) : slashB p = true := (rightB_len p h).2.2.1
theorem cut_root (p : List UInt8) (h : slashB p = true) : cutL p = [] ↔ p = [47] := by
 cases p with
 | nil => cases h
 | cons c r =>
   have hc : c = 47 := by simpa [slashB] using h
   subst hc
   rw [cutL, if_pos rfl]
   by_cases hr : r = []
   ·subst hr; simp
   ·rw [if_neg hr]
    constructor
    ·intro e
     have := split_count r []
     rw [e] at this; simp at this
    ·intro e; injection e with _ e; exact absurd e hr
theorem join_cut (p : List UInt8) (h : slashB p = true) (h2 : p ≠ [47]) : joinL (cutL p) = p := by
 have e := made_cut p h
 have hn : cutL p ≠ [] := fun e => h2 ((cut_root p h).1 e)
 unfold madeL at e
 split at e
 ·rename_i hj
  cases hc : cutL p with
  | nil => exact absurd hc hn
  | cons x l => rw [hc] at hj; simp [joinL] at hj
 ·exact e
theorem right_names (p : List UInt8) (h : rightB p = true) : ∀ y ∈ cutL p, y.all chrB = true := by
 intro y hy
 have h1 := (rightB_len p h).2.1
 rw [List.all_eq_true] at h1
 have := h1 y hy
 unfold nameB at this
 simp only [Bool.and_eq_true] at this
 exact this.1.1
theorem last_slash (p : List UInt8) (h : rightB p = true) (h1 : p ≠ [47]) : ∃ m : Nat, m < p.length ∧ p.getD m 0 = 47 ∧ (∀ j, m < j → j < p.length → p.getD j 0 ≠ 47) ∧ parentE p = 0 ∧ parentS p = if m = 0 then [47] else p.take m := by
 have sp := right_slash p h
 have hj := join_cut p sp h1
 have hn : cutL p ≠ [] := fun e => h1 ((cut_root p sp).1 e)
 obtain ⟨l, x, hlx⟩ : ∃ l x, cutL p = l ++ [x] := ⟨(cutL p).dropLast, (cutL p).getLast hn, (List.dropLast_concat_getLast hn).symm⟩
 have hx := right_names p h x (by rw [hlx]; simp)
 have e : p = joinL l ++ 47 :: x := by rw [← hj, hlx, joinL_snoc]
 have hy := parent_yes p h hn
 refine ⟨(joinL l).length, ?_, ?_, ?_, hy.2, ?_⟩
 ·have := congrArg List.length e
  simp at this; omega
 ·rw [e]; simp
 ·intro j hj1 hj2 hc
  have hl := congrArg List.length e
  simp at hl
  rw [e] at hc
  rw [List.getD_eq_getElem?_getD, List.getElem?_append_right (by omega)] at hc
  obtain ⟨k, hk⟩ : ∃ k, j - (joinL l).length = k + 1 := ⟨j - (joinL l).length - 1, by omega⟩
  rw [hk, List.getElem?_cons_succ, List.getElem?_eq_getElem (by omega)] at hc
  rw [List.all_eq_true] at hx
  have := hx _ (List.getElem_mem (l := x) (n := k) (by omega))
  simp at hc
  rw [hc] at this
  exact absurd this (by decide)
 ·rw [hy.1, hlx]
  simp only [List.length_append, List.length_cons, List.length_nil, Nat.zero_add, Nat.add_sub_cancel]
  rw [List.take_append_of_le_length (Nat.le_refl _), List.take_length]
  unfold madeL
  by_cases h0 : joinL l = []
  ·rw [if_pos h0, h0]; rfl
  ·rw [if_neg h0, if_neg (fun h2 => h0 (List.eq_nil_of_length_eq_zero h2))]
   conv => rhs; rw [e]
   simp
theorem last_of (p : List UInt8) (m : Nat) (hm : m < p.length) (h1 : p.getD m 0 = 47) (h2 : ∀ j, m < j → j < p.length → p.getD j 0 ≠ 47) : Lib.lastIndexByte ⟨p.toArray⟩ 47 = (m : Int) := by
 have hsz : (⟨p.toArray⟩ : ByteArray).size = p.length := rfl
 have hb : ∀ j, j < p.length → (⟨p.toArray⟩ : ByteArray).data[j]! = p.getD j 0 := by
  intro j hj
  rw [getElem!_pos _ j (by simpa using hj)]
  simp [List.getD_eq_getElem?_getD, List.getElem?_eq_getElem hj]
 unfold Lib.lastIndexByte
 rw [hsz]
 rcases Lib.lastIdx_spec ⟨p.toArray⟩ 47 p.length with ⟨_, hn⟩ | ⟨i, hi, e, hc, hn⟩
 ·have := hn m hm
  rw [hb m hm, h1] at this
  exact absurd rfl this
 ·rw [e]
  rw [hb i hi] at hc
  have hci : p.getD i 0 = 47 := by
   apply UInt8.toNat_inj.1
   have : ((47 : UInt8).toNat : Int) = 47 := rfl
   omega
  by_cases h : i < m
  ·have := hn m h hm
   rw [hb m hm, h1] at this
   exact absurd rfl this
  ·by_cases h3 : m < i
   ·exact absurd hci (h2 i h3 hi)
   ·congr 1; omega
end Go.Proofs.YtgfobinklijkpaaGreatDoor
namespace Go.Proofs
set_option maxRecDepth 100000
set_option maxHeartbeats 16000000
open Go.Shelf
def Tryz.lays103_ren : Go.Shelf.Ren := ⟨fun | 103 => 227 | 210 => 248 | 206 => 260 | n => n, fun | 9 => 9 | 4 => 4 | 24 => 302 | 3 => 3 | n => n, fun | n => n⟩
theorem Tryz.lays103 : Go.Proofs.Lays.n103 Tryz.prog Tryz.lays103_ren := {
 mixed := by kernel_rfl
 f103 := Tryz.func227.trans (congrArg some (by kernel_rfl))
 f206 := Tryz.func260.trans (congrArg some (by kernel_rfl))
 f210 := Tryz.func248.trans (congrArg some (by kernel_rfl))
 t3 := Tryz.underlying3
 a3 := Tryz.isAgg3
 z3 := Tryz.sizeOf3
 v3 := Tryz.zeroValue3
 t4 := Tryz.underlying4
 a4 := Tryz.isAgg4
 z4 := Tryz.sizeOf4
 v4 := Tryz.zeroValue4
 t9 := Tryz.underlying9
 a9 := Tryz.isAgg9
 z9 := Tryz.sizeOf9
 v9 := Tryz.zeroValue9
 t24 := Tryz.underlying302
 a24 := Tryz.isAgg302
 z24 := Tryz.sizeOf302
 v24 := Tryz.zeroValue302 }
open Go.RowKit in
theorem Tryz.strings_CutPrefix (s p : ByteArray) (w : World) :
 Calls Tryz.prog 227 #[.string s, .string p] w fun e w' => e = .returned (.tuple #[.string ⟨(Lib.trimPrefix s.data.toList p.data.toList).toArray⟩, .bool (Lib.hasPrefix s.data.toList p.data.toList)]) ∧ w' = w := Any.strings_CutPrefix Tryz.lays103 s p w
def Tryz.lays219_ren : Go.Shelf.Ren := ⟨fun | 219 => 259 | 217 => 268 | 225 => 269 | 224 => 270 | 267 => 271 | 266 => 274 | 314 => 275 | n => n, fun | 9 => 9 | 3 => 3 | 4 => 4 | 5 => 5 | 46 => 192 | 146 => 320 | 51 => 145 | n => n, fun | 1 => 0 | n => n⟩
theorem Tryz.lays219 : Go.Proofs.Lays.n219 Tryz.prog Tryz.lays219_ren := {
 mixed := by kernel_rfl
 f217 := Tryz.func268.trans (congrArg some (by kernel_rfl))
 f219 := Tryz.func259.trans (congrArg some (by kernel_rfl))
 f224 := Tryz.func270.trans (congrArg some (by kernel_rfl))
 f225 := Tryz.func269.trans (congrArg some (by kernel_rfl))
 f266 := Tryz.func274.trans (congrArg some (by kernel_rfl))
 f267 := Tryz.func271.trans (congrArg some (by kernel_rfl))
 f314 := Tryz.func275.trans (congrArg some (by kernel_rfl))
 t3 := Tryz.underlying3
 a3 := Tryz.isAgg3
 z3 := Tryz.sizeOf3
 v3 := Tryz.zeroValue3
 t4 := Tryz.underlying4
 a4 := Tryz.isAgg4
 z4 := Tryz.sizeOf4
 v4 := Tryz.zeroValue4
 t5 := Tryz.underlying5
 a5 := Tryz.isAgg5
 z5 := Tryz.sizeOf5
 v5 := Tryz.zeroValue5
 t9 := Tryz.underlying9
 a9 := Tryz.isAgg9
 z9 := Tryz.sizeOf9
 v9 := Tryz.zeroValue9
 t46 := Tryz.underlying192
 a46 := Tryz.isAgg192
 z46 := Tryz.sizeOf192
 v46 := Tryz.zeroValue192
 t51 := Tryz.underlying145
 a51 := Tryz.isAgg145
 z51 := Tryz.sizeOf145
 v51 := Tryz.zeroValue145
 t146 := Tryz.underlying320
 a146 := Tryz.isAgg320
 z146 := Tryz.sizeOf320
 v146 := Tryz.zeroValue320
 g1 := by kernel_rfl }
open Go.RowKit Go.Lib in
theorem Tryz.stringslite_Index_one (s : ByteArray) (c : UInt8) (w : World) :
 Calls Tryz.prog 259 #[.string s, .string ⟨#[c]⟩] w fun e w' => e = .returned (.int .i64 (Lib.indexByte s.data.toList c)) ∧ w' = w := Any.stringslite_Index_one Tryz.lays219 s c w
def Tryz.lays143_ren : Go.Shelf.Ren := ⟨fun | 143 => 247 | 219 => 259 | 217 => 268 | 225 => 269 | 224 => 270 | 267 => 271 | 266 => 274 | 314 => 275 | n => n, fun | 9 => 9 | 3 => 3 | 4 => 4 | 5 => 5 | 46 => 192 | 146 => 320 | 51 => 145 | n => n, fun | 1 => 0 | n => n⟩
theorem Tryz.lays143 : Go.Proofs.Lays.n143 Tryz.prog Tryz.lays143_ren := {
 mixed := by kernel_rfl
 f143 := Tryz.func247.trans (congrArg some (by kernel_rfl))
 f217 := Tryz.func268.trans (congrArg some (by kernel_rfl))
 f219 := Tryz.func259.trans (congrArg some (by kernel_rfl))
 f224 := Tryz.func270.trans (congrArg some (by kernel_rfl))
 f225 := Tryz.func269.trans (congrArg some (by kernel_rfl))
 f266 := Tryz.func274.trans (congrArg some (by kernel_rfl))
 f267 := Tryz.func271.trans (congrArg some (by kernel_rfl))
 f314 := Tryz.func275.trans (congrArg some (by kernel_rfl))
 t3 := Tryz.underlying3
 a3 := Tryz.isAgg3
 z3 := Tryz.sizeOf3
 v3 := Tryz.zeroValue3
 t4 := Tryz.underlying4
 a4 := Tryz.isAgg4
 z4 := Tryz.sizeOf4
 v4 := Tryz.zeroValue4
 t5 := Tryz.underlying5
 a5 := Tryz.isAgg5
 z5 := Tryz.sizeOf5
 v5 := Tryz.zeroValue5
 t9 := Tryz.underlying9
 a9 := Tryz.isAgg9
 z9 := Tryz.sizeOf9
 v9 := Tryz.zeroValue9
 t46 := Tryz.underlying192
 a46 := Tryz.isAgg192
 z46 := Tryz.sizeOf192
 v46 := Tryz.zeroValue192
 t51 := Tryz.underlying145
 a51 := Tryz.isAgg145
 z51 := Tryz.sizeOf145
 v51 := Tryz.zeroValue145
 t146 := Tryz.underlying320
 a146 := Tryz.isAgg320
 z146 := Tryz.sizeOf320
 v146 := Tryz.zeroValue320
 g1 := by kernel_rfl }
open Go.RowKit Go.Lib in
theorem Tryz.strings_Index_one (s : ByteArray) (c : UInt8) (w : World) :
 Calls Tryz.prog 247 #[.string s, .string ⟨#[c]⟩] w fun e w' => e = .returned (.int .i64 (Lib.indexByte s.data.toList c)) ∧ w' = w := Any.strings_Index_one Tryz.lays143 s c w
def Tryz.lays138_ren : Go.Shelf.Ren := ⟨fun | 138 => 226 | 195 => 245 | 218 => 246 | 143 => 247 | 219 => 259 | 217 => 268 | 225 => 269 | 224 => 270 | 267 => 271 | 266 => 274 | 314 => 275 | n => n, fun | 9 => 9 | 3 => 3 | 4 => 4 | 5 => 5 | 0 => 0 | 46 => 192 | 146 => 320 | 51 => 145 | n => n, fun | 1 => 0 | n => n⟩
theorem Tryz.lays138 : Go.Proofs.Lays.n138 Tryz.prog Tryz.lays138_ren := {
 mixed := by kernel_rfl
 f138 := Tryz.func226.trans (congrArg some (by kernel_rfl))
 f143 := Tryz.func247.trans (congrArg some (by kernel_rfl))
 f195 := Tryz.func245.trans (congrArg some (by kernel_rfl))
 f217 := Tryz.func268.trans (congrArg some (by kernel_rfl))
 f218 := Tryz.func246.trans (congrArg some (by kernel_rfl))
 f219 := Tryz.func259.trans (congrArg some (by kernel_rfl))
 f224 := Tryz.func270.trans (congrArg some (by kernel_rfl))
 f225 := Tryz.func269.trans (congrArg some (by kernel_rfl))
 f266 := Tryz.func274.trans (congrArg some (by kernel_rfl))
 f267 := Tryz.func271.trans (congrArg some (by kernel_rfl))
 f314 := Tryz.func275.trans (congrArg some (by kernel_rfl))
 t0 := Tryz.underlying0
 a0 := Tryz.isAgg0
 z0 := Tryz.sizeOf0
 v0 := Tryz.zeroValue0
 t3 := Tryz.underlying3
 a3 := Tryz.isAgg3
 z3 := Tryz.sizeOf3
 v3 := Tryz.zeroValue3
 t4 := Tryz.underlying4
 a4 := Tryz.isAgg4
 z4 := Tryz.sizeOf4
 v4 := Tryz.zeroValue4
 t5 := Tryz.underlying5
 a5 := Tryz.isAgg5
 z5 := Tryz.sizeOf5
 v5 := Tryz.zeroValue5
 t9 := Tryz.underlying9
 a9 := Tryz.isAgg9
 z9 := Tryz.sizeOf9
 v9 := Tryz.zeroValue9
 t46 := Tryz.underlying192
 a46 := Tryz.isAgg192
 z46 := Tryz.sizeOf192
 v46 := Tryz.zeroValue192
 t51 := Tryz.underlying145
 a51 := Tryz.isAgg145
 z51 := Tryz.sizeOf145
 v51 := Tryz.zeroValue145
 t146 := Tryz.underlying320
 a146 := Tryz.isAgg320
 z146 := Tryz.sizeOf320
 v146 := Tryz.zeroValue320
 g1 := by kernel_rfl }
open Go.RowKit Go.Lib in
theorem Tryz.strings_Count_one (s : ByteArray) (c : UInt8) (w : World) :
 Calls Tryz.prog 226 #[.string s, .string ⟨#[c]⟩] w fun e w' => e = .returned (.int .i64 (Lib.countByte s.data.toList c)) ∧ w' = w := Any.strings_Count_one Tryz.lays138 s c w
def Tryz.lays148_ren : Go.Shelf.Ren := ⟨fun | 148 => 229 | 222 => 251 | 223 => 252 | 269 => 263 | n => n, fun | 9 => 9 | 3 => 3 | 4 => 4 | 5 => 5 | 146 => 320 | 51 => 145 | 46 => 192 | n => n, fun | n => n⟩
theorem Tryz.lays148 : Go.Proofs.Lays.n148 Tryz.prog Tryz.lays148_ren := {
 mixed := by kernel_rfl
 f148 := Tryz.func229.trans (congrArg some (by kernel_rfl))
 f222 := Tryz.func251.trans (congrArg some (by kernel_rfl))
 f223 := Tryz.func252.trans (congrArg some (by kernel_rfl))
 f269 := Tryz.func263.trans (congrArg some (by kernel_rfl))
 t3 := Tryz.underlying3
 a3 := Tryz.isAgg3
 z3 := Tryz.sizeOf3
 v3 := Tryz.zeroValue3
 t4 := Tryz.underlying4
 a4 := Tryz.isAgg4
 z4 := Tryz.sizeOf4
 v4 := Tryz.zeroValue4
 t5 := Tryz.underlying5
 a5 := Tryz.isAgg5
 z5 := Tryz.sizeOf5
 v5 := Tryz.zeroValue5
 t9 := Tryz.underlying9
 a9 := Tryz.isAgg9
 z9 := Tryz.sizeOf9
 v9 := Tryz.zeroValue9
 t46 := Tryz.underlying192
 a46 := Tryz.isAgg192
 z46 := Tryz.sizeOf192
 v46 := Tryz.zeroValue192
 t51 := Tryz.underlying145
 a51 := Tryz.isAgg145
 z51 := Tryz.sizeOf145
 v51 := Tryz.zeroValue145
 t146 := Tryz.underlying320
 a146 := Tryz.isAgg320
 z146 := Tryz.sizeOf320
 v146 := Tryz.zeroValue320 }
open Go.RowKit Go.Lib in
theorem Tryz.strings_LastIndex_one (s sub : ByteArray) (h1 : sub.size = 1) (hs : s.size < 4611686018427387904) (w : World) :
 Calls Tryz.prog 229 #[.string s, .string sub] w fun e w' => e = .returned (.int .i64 (Lib.lastIndexByte s ((sub[0]'(by omega)).toNat : Int))) ∧ w' = w := Any.strings_LastIndex_one Tryz.lays148 s sub h1 hs w
def Tryz.lays221_ren : Go.Shelf.Ren := ⟨fun | 221 => 256 | 268 => 266 | 138 => 226 | 143 => 247 | 195 => 245 | 197 => 273 | 218 => 246 | 219 => 259 | 260 => 276 | 217 => 268 | 225 => 269 | 224 => 270 | 267 => 271 | 266 => 274 | 314 => 275 | n => n, fun | 9 => 9 | 3 => 3 | 31 => 77 | 4 => 4 | 0 => 0 | 105 => 326 | 21 => 21 | 5 => 5 | 46 => 192 | 119 => 328 | 139 => 331 | 138 => 330 | 146 => 320 | 51 => 145 | n => n, fun | 1 => 0 | 3 => 1 | 4 => 2 | n => n⟩
theorem Tryz.lays221 : Go.Proofs.Lays.n221 Tryz.prog Tryz.lays221_ren := {
 mixed := by kernel_rfl
 f138 := Tryz.func226.trans (congrArg some (by kernel_rfl))
 f143 := Tryz.func247.trans (congrArg some (by kernel_rfl))
 f195 := Tryz.func245.trans (congrArg some (by kernel_rfl))
 f197 := Tryz.func273.trans (congrArg some (by kernel_rfl))
 f217 := Tryz.func268.trans (congrArg some (by kernel_rfl))
 f218 := Tryz.func246.trans (congrArg some (by kernel_rfl))
 f219 := Tryz.func259.trans (congrArg some (by kernel_rfl))
 f221 := Tryz.func256.trans (congrArg some (by kernel_rfl))
 f224 := Tryz.func270.trans (congrArg some (by kernel_rfl))
 f225 := Tryz.func269.trans (congrArg some (by kernel_rfl))
 f260 := Tryz.func276.trans (congrArg some (by kernel_rfl))
 f266 := Tryz.func274.trans (congrArg some (by kernel_rfl))
 f267 := Tryz.func271.trans (congrArg some (by kernel_rfl))
 f268 := Tryz.func266.trans (congrArg some (by kernel_rfl))
 f314 := Tryz.func275.trans (congrArg some (by kernel_rfl))
 t0 := Tryz.underlying0
 a0 := Tryz.isAgg0
 z0 := Tryz.sizeOf0
 v0 := Tryz.zeroValue0
 t3 := Tryz.underlying3
 a3 := Tryz.isAgg3
 z3 := Tryz.sizeOf3
 v3 := Tryz.zeroValue3
 t4 := Tryz.underlying4
 a4 := Tryz.isAgg4
 z4 := Tryz.sizeOf4
 v4 := Tryz.zeroValue4
 t5 := Tryz.underlying5
 a5 := Tryz.isAgg5
 z5 := Tryz.sizeOf5
 v5 := Tryz.zeroValue5
 t9 := Tryz.underlying9
 a9 := Tryz.isAgg9
 z9 := Tryz.sizeOf9
 v9 := Tryz.zeroValue9
 t21 := Tryz.underlying21
 a21 := Tryz.isAgg21
 z21 := Tryz.sizeOf21
 v21 := Tryz.zeroValue21
 t31 := Tryz.underlying77
 a31 := Tryz.isAgg77
 z31 := Tryz.sizeOf77
 v31 := Tryz.zeroValue77
 t46 := Tryz.underlying192
 a46 := Tryz.isAgg192
 z46 := Tryz.sizeOf192
 v46 := Tryz.zeroValue192
 t51 := Tryz.underlying145
 a51 := Tryz.isAgg145
 z51 := Tryz.sizeOf145
 v51 := Tryz.zeroValue145
 t105 := Tryz.underlying326
 a105 := Tryz.isAgg326
 z105 := Tryz.sizeOf326
 v105 := Tryz.zeroValue326
 t119 := Tryz.underlying328
 a119 := Tryz.isAgg328
 z119 := Tryz.sizeOf328
 t138 := Tryz.underlying330
 a138 := Tryz.isAgg330
 z138 := Tryz.sizeOf330
 v138 := Tryz.zeroValue330
 t139 := Tryz.underlying331
 a139 := Tryz.isAgg331
 z139 := Tryz.sizeOf331
 v139 := Tryz.zeroValue331
 t146 := Tryz.underlying320
 a146 := Tryz.isAgg320
 z146 := Tryz.sizeOf320
 v146 := Tryz.zeroValue320
 g1 := by kernel_rfl
 g3 := by kernel_rfl
 g4 := by kernel_rfl }
end Go.Proofs
namespace Go.Proofs.YtgfobinklijkpaaGreatDoor
set_option maxRecDepth 100000
set_option maxHeartbeats 16000000
open Go.RowKit
theorem pxChr_any (c : UInt8) (w : World) : Calls Tryz.prog 262 #[.int .u8 (c.toNat : Int)] w fun e w' => e = .returned (.bool (chrB c)) ∧ w' = w := by
 have hC : c.toNat < 256 := c.toNat_lt
 have HL : Hid (chrB c = (decide (97 ≤ c.toNat) && decide (c.toNat ≤ 122) || decide (48 ≤ c.toNat) && decide (c.toNat ≤ 57) || decide (c.toNat = 45) || decide (c.toNat = 95))) := by
  show _ = _
  unfold chrB
  simp
 obtain ⟨C, hCE⟩ : ∃ C, c.toNat = C := ⟨_, rfl⟩
 rw [hCE] at hC HL ⊢
 clear hCE
 go_enter Tryz.func262, Tryz.ntmps262
 by_cases h1 : 97 ≤ (C : Int) <;> by_cases h2 : (C : Int) ≤ 122 <;> by_cases h3 : 48 ≤ (C : Int) <;> by_cases h4 : (C : Int) ≤ 57 <;> by_cases h5 : (C : Int) = 45 <;> by_cases h6 : (C : Int) = 95 <;> first | (exfalso; omega) | skip
 all_goals first
  | (have HB : Hid (chrB c = true) := by
      show _ = _
      rw [HL.out]
      simp only [Bool.or_eq_true, Bool.and_eq_true, decide_eq_true_eq]
      omega
     clear HL
     go_wp2
     go_ret
     exact ⟨by rw [HB.out]; rfl, rfl⟩)
  | (have HB : Hid (chrB c = false) := by
      show _ = _
      rw [HL.out, Bool.eq_false_iff]
      intro hh
      simp only [Bool.or_eq_true, Bool.and_eq_true, decide_eq_true_eq] at hh
      omega
     have b5 : ((C : Int) == 45) = false := by simpa using h5
     have b6 : ((C : Int) == 95) = false := by simpa using h6
     clear HL
     go_wp2
     go_ret
     exact ⟨by rw [HB.out]; rfl, rfl⟩)
theorem pxName_w (s : List UInt8) (w : World) (hs : s.length ≤ 1000000) : Calls Tryz.prog 250 #[txt s] w fun e w' => e = .returned (.bool (nameB s)) ∧ w' = w := by
 obtain ⟨n, hn⟩ : ∃ n, s.length = n := ⟨_, rfl⟩
 have hsz : (⟨s.toArray⟩ : ByteArray).size = n := hn
 have HN := lhd hn
 rw [hn] at hs
 have HX : Hid (∀ b, s.all chrB = b → nameB s = (b && (decide (1 ≤ n) && decide (n ≤ 30)))) := by
  intro b hb
  rw [nameB_of s b hb, hn]
 clear hn
 go_enter Tryz.func250, Tryz.ntmps250
 by_cases h1 : (n : Int) < 1
 ·have HF : Hid (nameB s = false) := by
   show _ = _
   rw [HX.out _ rfl]
   have : decide (1 ≤ n) = false := by simp; omega
   simp [this]
  go_wp2
  go_ret
  exact ⟨by rw [HF.out]; rfl, rfl⟩
 by_cases h2 : 30 < (n : Int)
 ·have HF : Hid (nameB s = false) := by
   show _ = _
   rw [HX.out _ rfl]
   have : decide (n ≤ 30) = false := by simp; omega
   simp [this]
  go_wp2
  go_ret
  exact ⟨by rw [HF.out]; rfl, rfl⟩
 go_wp2
 go_loop [14] (fun x => ∃ i : Nat, i ≤ n ∧ x = .int .i64 (i : Int) ∧ Hid ((s.take i).all chrB = true)) (fun x => n - (intOf x).toNat)
 case atStart => exact ⟨0, by omega, rfl, by simp [Hid]⟩
 case round =>
  obtain ⟨i, hi, rfl, HA⟩ := hrel
  by_cases hi2 : i < n
  ·have zi : (i : Int) < (n : Int) := by omega
   have hil : i < s.length := by rw [HN.out]; exact hi2
   have hix := run_index_txt s i hil
   have HT : Hid (s.take (i + 1) = s.take i ++ [s.getD i 0]) := by
    show _ = _
    rw [List.take_add_one]
    have e : s[i]? = some (s.getD i 0) := by
     rw [List.getD_eq_getElem?_getD, List.getElem?_eq_getElem hil]
     rfl
    rw [e]; rfl
   have HM : Hid (s.getD i 0 ∈ s) := by
    show _ ∈ _
    rw [List.getD_eq_getElem?_getD, List.getElem?_eq_getElem hil]
    exact List.getElem_mem _
   obtain ⟨c, hc⟩ : ∃ c, s.getD i 0 = c := ⟨_, rfl⟩
   rw [hc] at hix HT HM
   clear hc hil
   go_wp2_with fail
   refine (pxChr_any c w).mono ?_
   rintro e w1 ⟨rfl, rfl⟩
   cases hb : chrB c
   ·have HF : Hid (s.all chrB = false) := by
     show _ = _
     rw [List.all_eq_false]
     exact ⟨c, HM.out, by rw [hb]; simp⟩
    go_wp2
    go_ret
    exact ⟨by rw [HX.out _ HF.out]; rfl, rfl⟩
   ·go_wp2
    go_round
    case rel =>
     refine ⟨i + 1, by omega, by go_num, ?_⟩
     show _ = _
     rw [HT.out, List.all_append, HA.out]
     simp [hb]
    case measure => simp [intOf]; omega
  ·have hE : i = n := by omega
   subst hE
   have HF : Hid (s.all chrB = true) := by
    show _ = _
    have h := HA.out
    rw [List.take_of_length_le (by rw [HN.out]; exact Nat.le_refl _)] at h
    exact h
   have HG : Hid (nameB s = true) := by
    show _ = _
    rw [HX.out _ HF.out]
    simp
    omega
   go_wp2
   go_ret
   exact ⟨by rw [HG.out]; rfl, rfl⟩
theorem txt_extract (s : List UInt8) (a b : Nat) : Value.string ((⟨s.toArray⟩ : ByteArray).extract a b) = txt ((s.drop a).take (b - a)) := by
 rw [Lib.extract_eq]
def Halves (s : List UInt8) (w : World) (e : Ending) (w' : World) : Prop := e = .returned (.tuple #[txt (headS s), txt (tailS s), .bool (hasS s)]) ∧ ∃ n, w' = w.drewN n
theorem cutSl_any (s : List UInt8) (w : World) (hs : s.length ≤ 1000000) : Calls Tryz.prog 261 #[txt s, .string ⟨#[47]⟩] w (Halves s w) := by
 have hI := Tryz.stringslite_Index_one ⟨s.toArray⟩ 47 w
 rw [show (⟨s.toArray⟩ : ByteArray).data.toList = s from rfl, index_head] at hI
 have HI := lhd hI
 clear hI
 obtain ⟨n, hn⟩ : ∃ n, s.length = n := ⟨_, rfl⟩
 have hsz : (⟨s.toArray⟩ : ByteArray).size = n := hn
 go_enter Tryz.func261, Tryz.ntmps261
 cases hb : hasS s
 ·have HF : Hid (headS s = s ∧ tailS s = []) := hasS_not s hb
  rw [hb] at HI
  clear hn
  go_wp2_with fail
  refine HI.out.mono ?_
  rintro e w' ⟨rfl, rfl⟩
  simp only [Bool.false_eq_true, if_false]
  go_wp2
  go_ret3
  refine ⟨?_, 0, rfl⟩
  rw [HF.out.1, HF.out.2, hb]
  rfl
 ·have hl := hasS_len s hb
  have ht := lhd (headS_take s hb)
  have hd := lhd (tailS_drop s hb)
  have HB := lhd hb
  rw [hb] at HI
  obtain ⟨i, hi⟩ : ∃ i, (headS s).length = i := ⟨_, rfl⟩
  rw [hi] at HI hl ht hd
  rw [hn] at hl hs
  clear hb hi hn
  go_wp2_with fail
  refine HI.out.mono ?_
  rintro e w' ⟨rfl, rfl⟩
  simp only [if_true]
  have c1 : (0 : Int) ≤ (i : Int) := by omega
  have c2 : (i : Int) ≤ (n : Int) := by omega
  have c3 : (0 : Int) ≤ (i : Int) + 1 := by omega
  have c4 : (i : Int) + 1 ≤ (n : Int) := by omega
  have c5 : IntKind.i64.wrap ((i : Int) + 1) = (i : Int) + 1 := by rw [IntKind.wrap_i64]; omega
  clear HI
  go_wp2
  go_region
  go_wp2
  go_ret3
  refine ⟨?_, 1, rfl⟩
  show Ending.returned (.tuple #[Value.string ((⟨s.toArray⟩ : ByteArray).extract 0 i), Value.string ((⟨s.toArray⟩ : ByteArray).extract (i + 1) n), .bool true]) = _
  rw [txt_extract, txt_extract, HB.out, List.drop_zero, Nat.sub_zero, ht.out, hd.out, List.take_of_length_le (by omega)]
theorem cutStr_any (s : List UInt8) (w : World) (hs : s.length ≤ 1000000) : Calls Tryz.prog 249 #[txt s, .string ⟨#[47]⟩] w fun e w' => e = .returned (.tuple #[txt (headS s), txt (tailS s), .bool (hasS s)]) ∧ Below w.heap.size w w' := by
 have H := lhd (cutSl_any s w hs)
 clear hs
 go_enter Tryz.func249, Tryz.ntmps249
 go_wp2_with fail
 refine H.out.mono ?_
 rintro e w' ⟨rfl, n, rfl⟩
 go_wp2
 go_ret3
 exact ⟨rfl, Below.drewN' (Below.refl _ _)⟩
def lenV : Value → Nat
 | .string b => b.size
 | _ => 0
theorem lenV_txt (t : List UInt8) : lenV (txt t) = t.length := rfl
theorem allNames_any (s : List UInt8) (w : World) (hs : s.length ≤ 1000000) : Calls Tryz.prog 228 #[txt s] w (One (.bool ((splitL [] s).all nameB)) w) := by
 have HS := lhd hs
 obtain ⟨b, hb⟩ : ∃ b, (splitL [] s).all nameB = b := ⟨_, rfl⟩
 have HB := lhd hb
 rw [hb]
 clear hb hs
 go_enter Tryz.func228, Tryz.ntmps228
 go_wp2
 go_loopw [0] (fun v wr => ∃ t : List UInt8, v = txt t ∧ Hid (t.length ≤ 1000000) ∧ Hid ((splitL [] t).all nameB = b) ∧ Hid (Below w.heap.size w wr)) (fun v _ => lenV v)
 case atStart => exact ⟨s, rfl, HS, HB, Below.refl _ _⟩
 case round =>
  obtain ⟨t, rfl, HT, HA, HW⟩ := hrel
  have hwr := HW.out.size
  have HL := lhd (lenV_txt t)
  go_wp2_with fail
  refine (cutStr_any t wr HT.out).mono ?_
  rintro e w1 ⟨rfl, hb1⟩
  have HB1 := lhd (HW.out.trans (hb1.mono hwr))
  clear hb1
  have HH := lhd (Nat.le_trans (headS_le t) HT.out)
  cases hm : hasS t
  ·have HQ := lhd (hasS_not t hm)
   have HX := lhd (split_not t hm)
   have HE : Hid (nameB (headS t) = b) := by
    show _ = _
    rw [← HA.out, HX.out, HQ.out.1]; simp
   clear hm
   go_wp2_with fail
   refine (pxName_w (headS t) w1 HH.out).mono ?_
   rintro e w2 ⟨rfl, rfl⟩
   cases hb : nameB (headS t)
   ·rw [hb] at HE
    go_wp2
    go_ret
    exact ⟨by rw [← HE.out]; rfl, HB1.out⟩
   ·rw [hb] at HE
    go_wp2
    go_ret
    exact ⟨by rw [← HE.out]; rfl, HB1.out⟩
  ·have HQ := lhd (hasS_len t hm)
   have HX := lhd (split_yes t hm)
   have HE : Hid ((nameB (headS t) && (splitL [] (tailS t)).all nameB) = b) := by
    show _ = _
    rw [← HA.out, HX.out]; simp
   clear hm
   go_wp2_with fail
   refine (pxName_w (headS t) w1 HH.out).mono ?_
   rintro e w2 ⟨rfl, rfl⟩
   cases hb : nameB (headS t)
   ·rw [hb] at HE
    go_wp2
    go_ret
    exact ⟨by rw [← HE.out]; rfl, HB1.out⟩
   ·rw [hb] at HE
    have HE2 : Hid ((splitL [] (tailS t)).all nameB = b) := by
     show _ = _
     have := HE.out
     simpa using this
    have HT2 : Hid ((tailS t).length ≤ 1000000) := by
     show _ ≤ _
     have := HQ.out
     have := HT.out
     omega
    go_wp2
    go_roundw
    case rel => exact ⟨tailS t, rfl, HT2, HE2, HB1⟩
    case measure =>
     show lenV (txt (tailS t)) < lenV (txt t)
     rw [lenV_txt, lenV_txt]
     have := HQ.out
     omega
theorem pxRight_any (s : List UInt8) (w : World) : Calls Tryz.prog 188 #[txt s] w (One (.bool (rightB s)) w) := by
 obtain ⟨n, hn⟩ : ∃ n, s.length = n := ⟨_, rfl⟩
 have hsz : (⟨s.toArray⟩ : ByteArray).size = n := hn
 have HN := lhd hn
 clear hn
 go_enter Tryz.func188, Tryz.ntmps188
 by_cases hr : s = [47]
 ·subst hr
  go_wp2
  go_ret
  exact ⟨by rw [right_root]; rfl, Below.refl _ _⟩
 have hr2 : (s == [47]) = false := txt_ne s [47] hr
 by_cases h100 : 100 < (n : Int)
 ·have HF := lhd (rightB_long s (by rw [HN.out]; omega))
  clear hr
  go_wp2
  go_ret
  exact ⟨by rw [HF.out]; rfl, Below.refl _ _⟩
 ·have hC := Tryz.strings_Count_one ⟨s.toArray⟩ 47 w
  rw [show (⟨s.toArray⟩ : ByteArray).data.toList = s from rfl] at hC
  unfold Lib.countByte at hC
  have HM := lhd (right_many s)
  have hP := Tryz.strings_CutPrefix ⟨s.toArray⟩ ⟨#[47]⟩ w
  rw [show (⟨s.toArray⟩ : ByteArray).data.toList = s from rfl, show (⟨#[47]⟩ : ByteArray).data.toList = [47] from rfl, slash_prefix] at hP
  have HP := lhd hP
  have HT := lhd (slash_trim s)
  have HR : Hid (s.count 47 ≤ 8 → ∀ r, s = 47 :: r → rightB s = (splitL [] r).all nameB) := by
   intro hc r hrr
   rw [hrr] at hr hc ⊢
   refine right_rest r (fun h => hr (by rw [h])) ?_ hc
   rw [← hrr, HN.out]
   omega
  obtain ⟨k, hk⟩ : ∃ k, s.count 47 = k := ⟨_, rfl⟩
  rw [hk] at hC HM HR
  have HC := lhd hC
  clear hC hP hr hk
  by_cases h8 : 8 < (k : Int)
  ·have HF := lhd (HM.out (by omega))
   clear HM HR HT HP
   go_wp2_with fail
   refine HC.out.mono ?_
   rintro e w' ⟨rfl, rfl⟩
   go_wp2
   go_ret
   exact ⟨by rw [HF.out]; rfl, Below.refl _ _⟩
  ·have HR2 := lhd (HR.out (by omega))
   clear HM HR
   go_wp2_with fail
   refine HC.out.mono ?_
   rintro e w' ⟨rfl, rfl⟩
   clear HC
   go_wp2_with fail
   refine HP.out.mono ?_
   rintro e w' ⟨rfl, rfl⟩
   clear HP
   cases hb : slashB s
   ·have HF := lhd (right_start s hb)
    clear hb
    go_wp2
    go_ret
    exact ⟨by rw [HF.out]; rfl, Below.refl _ _⟩
   ·have HE := lhd (HT.out hb)
    obtain ⟨r, hrr⟩ : ∃ r, Lib.trimPrefix s [47] = r := ⟨_, rfl⟩
    rw [hrr] at HE ⊢
    have HF := lhd (HR2.out r HE.out)
    have HL : Hid (r.length ≤ 1000000) := by
     show _ ≤ _
     have h := congrArg List.length HE.out
     rw [HN.out] at h
     simp at h
     omega
    clear hb hrr HR2 HT HE
    go_wp2_with fail
    refine (allNames_any r w' HL.out).mono ?_
    rintro e w1 ⟨rfl, hb1⟩
    have HB := lhd hb1
    clear hb1
    go_wp2
    go_ret
    exact ⟨by rw [HF.out]; rfl, HB.out⟩
end Go.Proofs.YtgfobinklijkpaaGreatDoor
