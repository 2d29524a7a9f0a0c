/-
  Texts Sh Q1 Q2 Q3 Q4.
-/
import Derived.Test.YtgfobinklijkpaaGreatDoorX01
import Derived.Shelf.Small.Wraps
import Derived.Shelf.Strings.Search1
import Derived.Shelf.Strings.Search2
import Derived.Shelf.Strings.Search3
import Derived.Shelf.Strings.Cut
import Derived.Shelf.Strings.Count
import Derived.Shelf.Strings.LastIndex
import Derived.Shelf.Strings.Prefix
import Derived.Shelf.Strings.Split
import Derived.Test.YtgfobinklijkpaaGreatDoorProg
import Derived.Lib.IndexBytes
import Derived.Test.YtgfobinklijkpaaGreatDoorX17
namespace Go.Proofs
set_option maxRecDepth 100000
set_option maxHeartbeats 16000000
open Go.Shelf
def Tryz.lays103_ren : Go.Shelf.Ren := ⟨fun | 103 => 227 | 210 => 248 | 206 => 260 | n => n, fun | 9 => 9 | 4 => 4 | 24 => 302 | 3 => 3 | n => n, fun | n => n⟩
theorem Tryz.lays103 : Go.Proofs.Lays.n103 Tryz.prog Tryz.lays103_ren := {
 mixed := by kernel_rfl
 f103 := Tryz.func227.trans (congrArg some (by kernel_rfl))
 f206 := Tryz.func260.trans (congrArg some (by kernel_rfl))
 f210 := Tryz.func248.trans (congrArg some (by kernel_rfl))
 t3 := Tryz.underlying3
 a3 := Tryz.isAgg3
 z3 := Tryz.sizeOf3
 v3 := Tryz.zeroValue3
 t4 := Tryz.underlying4
 a4 := Tryz.isAgg4
 z4 := Tryz.sizeOf4
 v4 := Tryz.zeroValue4
 t9 := Tryz.underlying9
 a9 := Tryz.isAgg9
 z9 := Tryz.sizeOf9
 v9 := Tryz.zeroValue9
 t24 := Tryz.underlying302
 a24 := Tryz.isAgg302
 z24 := Tryz.sizeOf302
 v24 := Tryz.zeroValue302 }
open Go.RowKit in
theorem Tryz.strings_CutPrefix (s p : ByteArray) (w : World) :
 Calls Tryz.prog 227 #[.string s, .string p] w fun e w' => e = .returned (.tuple #[.string ⟨(Lib.trimPrefix s.data.toList p.data.toList).toArray⟩, .bool (Lib.hasPrefix s.data.toList p.data.toList)]) ∧ w' = w := Any.strings_CutPrefix Tryz.lays103 s p w
def Tryz.lays219_ren : Go.Shelf.Ren := ⟨fun | 219 => 259 | 217 => 268 | 225 => 269 | 224 => 270 | 267 => 271 | 266 => 274 | 314 => 275 | n => n, fun | 9 => 9 | 3 => 3 | 4 => 4 | 5 => 5 | 46 => 192 | 146 => 320 | 51 => 145 | n => n, fun | 1 => 0 | n => n⟩
theorem Tryz.lays219 : Go.Proofs.Lays.n219 Tryz.prog Tryz.lays219_ren := {
 mixed := by kernel_rfl
 f217 := Tryz.func268.trans (congrArg some (by kernel_rfl))
 f219 := Tryz.func259.trans (congrArg some (by kernel_rfl))
 f224 := Tryz.func270.trans (congrArg some (by kernel_rfl))
 f225 := Tryz.func269.trans (congrArg some (by kernel_rfl))
 f266 := Tryz.func274.trans (congrArg some (by kernel_rfl))
 f267 := Tryz.func271.trans (congrArg some (by kernel_rfl))
 f314 := Tryz.func275.trans (congrArg some (by kernel_rfl))
 t3 := Tryz.underlying3
 a3 := Tryz.isAgg3
 z3 := Tryz.sizeOf3
 v3 := Tryz.zeroValue3
 t4 := Tryz.underlying4
 a4 := Tryz.isAgg4
 z4 := Tryz.sizeOf4
 v4 := Tryz.zeroValue4
 t5 := Tryz.underlying5
 a5 := Tryz.isAgg5
 z5 := Tryz.sizeOf5
 v5 := Tryz.zeroValue5
 t9 := Tryz.underlying9
 a9 := Tryz.isAgg9
 z9 := Tryz.sizeOf9
 v9 := Tryz.zeroValue9
 t46 := Tryz.underlying192
 a46 := Tryz.isAgg192
 z46 := Tryz.sizeOf192
 v46 := Tryz.zeroValue192
 t51 := Tryz.underlying145
 a51 := Tryz.isAgg145
 z51 := Tryz.sizeOf145
 v51 := Tryz.zeroValue145
 t146 := Tryz.underlying320
 a146 := Tryz.isAgg320
 z146 := Tryz.sizeOf320
 v146 := Tryz.zeroValue320
 g1 := by kernel_rfl }
open Go.RowKit Go.Lib in
theorem Tryz.stringslite_Index_one (s : ByteArray) (c : UInt8) (w : World) :
 Calls Tryz.prog 259 #[.string s, .string ⟨#[c]⟩] w fun e w' => e = .returned (.int .i64 (Lib.indexByte s.data.toList c)) ∧ w' = w := Any.stringslite_Index_one Tryz.lays219 s c w
def Tryz.lays143_ren : Go.Shelf.Ren := ⟨fun | 143 => 247 | 219 => 259 | 217 => 268 | 225 => 269 | 224 => 270 | 267 => 271 | 266 => 274 | 314 => 275 | n => n, fun | 9 => 9 | 3 => 3 | 4 => 4 | 5 => 5 | 46 => 192 | 146 => 320 | 51 => 145 | n => n, fun | 1 => 0 | n => n⟩
theorem Tryz.lays143 : Go.Proofs.Lays.n143 Tryz.prog Tryz.lays143_ren := {
 mixed := by kernel_rfl
 f143 := Tryz.func247.trans (congrArg some (by kernel_rfl))
 f217 := Tryz.func268.trans (congrArg some (by kernel_rfl))
 f219 := Tryz.func259.trans (congrArg some (by kernel_rfl))
 f224 := Tryz.func270.trans (congrArg some (by kernel_rfl))
 f225 := Tryz.func269.trans (congrArg some (by kernel_rfl))
 f266 := Tryz.func274.trans (congrArg some (by kernel_rfl))
 f267 := Tryz.func271.trans (congrArg some (by kernel_rfl))
 f314 := Tryz.func275.trans (congrArg some (by kernel_rfl))
 t3 := Tryz.underlying3
 a3 := Tryz.isAgg3
 z3 := Tryz.sizeOf3
 v3 := Tryz.zeroValue3
 t4 := Tryz.underlying4
 a4 := Tryz.isAgg4
 z4 := Tryz.sizeOf4
 v4 := Tryz.zeroValue4
 t5 := Tryz.underlying5
 a5 := Tryz.isAgg5
 z5 := Tryz.sizeOf5
 v5 := Tryz.zeroValue5
 t9 := Tryz.underlying9
 a9 := Tryz.isAgg9
 z9 := Tryz.sizeOf9
 v9 := Tryz.zeroValue9
 t46 := Tryz.underlying192
 a46 := Tryz.isAgg192
 z46 := Tryz.sizeOf192
 v46 := Tryz.zeroValue192
 t51 := Tryz.underlying145
 a51 := Tryz.isAgg145
 z51 := Tryz.sizeOf145
 v51 := Tryz.zeroValue145
 t146 := Tryz.underlying320
 a146 := Tryz.isAgg320
 z146 := Tryz.sizeOf320
 v146 := Tryz.zeroValue320
 g1 := by kernel_rfl }
open Go.RowKit Go.Lib in
theorem Tryz.strings_Index_one (s : ByteArray) (c : UInt8) (w : World) :
 Calls Tryz.prog 247 #[.string s, .string ⟨#[c]⟩] w fun e w' => e = .returned (.int .i64 (Lib.indexByte s.data.toList c)) ∧ w' = w := Any.strings_Index_one Tryz.lays143 s c w
def Tryz.lays138_ren : Go.Shelf.Ren := ⟨fun | 138 => 226 | 195 => 245 | 218 => 246 | 143 => 247 | 219 => 259 | 217 => 268 | 225 => 269 | 224 => 270 | 267 => 271 | 266 => 274 | 314 => 275 | n => n, fun | 9 => 9 | 3 => 3 | 4 => 4 | 5 => 5 | 0 => 0 | 46 => 192 | 146 => 320 | 51 => 145 | n => n, fun | 1 => 0 | n => n⟩
theorem Tryz.lays138 : Go.Proofs.Lays.n138 Tryz.prog Tryz.lays138_ren := {
 mixed := by kernel_rfl
 f138 := Tryz.func226.trans (congrArg some (by kernel_rfl))
 f143 := Tryz.func247.trans (congrArg some (by kernel_rfl))
 f195 := Tryz.func245.trans (congrArg some (by kernel_rfl))
 f217 := Tryz.func268.trans (congrArg some (by kernel_rfl))
 f218 := Tryz.func246.trans (congrArg some (by kernel_rfl))
 f219 := Tryz.func259.trans (congrArg some (by kernel_rfl))
 f224 := Tryz.func270.trans (congrArg some (by kernel_rfl))
 f225 := Tryz.func269.trans (congrArg some (by kernel_rfl))
 f266 := Tryz.func274.trans (congrArg some (by kernel_rfl))
 f267 := Tryz.func271.trans (congrArg some (by kernel_rfl))
 f314 := Tryz.func275.trans (congrArg some (by kernel_rfl))
 t0 := Tryz.underlying0
 a0 := Tryz.isAgg0
 z0 := Tryz.sizeOf0
 v0 := Tryz.zeroValue0
 t3 := Tryz.underlying3
 a3 := Tryz.isAgg3
 z3 := Tryz.sizeOf3
 v3 := Tryz.zeroValue3
 t4 := Tryz.underlying4
 a4 := Tryz.isAgg4
 z4 := Tryz.sizeOf4
 v4 := Tryz.zeroValue4
 t5 := Tryz.underlying5
 a5 := Tryz.isAgg5
 z5 := Tryz.sizeOf5
 v5 := Tryz.zeroValue5
 t9 := Tryz.underlying9
 a9 := Tryz.isAgg9
 z9 := Tryz.sizeOf9
 v9 := Tryz.zeroValue9
 t46 := Tryz.underlying192
 a46 := Tryz.isAgg192
 z46 := Tryz.sizeOf192
 v46 := Tryz.zeroValue192
 t51 := Tryz.underlying145
 a51 := Tryz.isAgg145
 z51 := Tryz.sizeOf145
 v51 := Tryz.zeroValue145
 t146 := Tryz.underlying320
 a146 := Tryz.isAgg320
 z146 := Tryz.sizeOf320
 v146 := Tryz.zeroValue320
 g1 := by kernel_rfl }
open Go.RowKit Go.Lib in
theorem Tryz.strings_Count_one (s : ByteArray) (c : UInt8) (w : World) :
 Calls Tryz.prog 226 #[.string s, .string ⟨#[c]⟩] w fun e w' => e = .returned (.int .i64 (Lib.countByte s.data.toList c)) ∧ w' = w := Any.strings_Count_one Tryz.lays138 s c w
def Tryz.lays148_ren : Go.Shelf.Ren := ⟨fun | 148 => 229 | 222 => 251 | 223 => 252 | 269 => 263 | n => n, fun | 9 => 9 | 3 => 3 | 4 => 4 | 5 => 5 | 146 => 320 | 51 => 145 | 46 => 192 | n => n, fun | n => n⟩
theorem Tryz.lays148 : Go.Proofs.Lays.n148 Tryz.prog Tryz.lays148_ren := {
 mixed := by kernel_rfl
 f148 := Tryz.func229.trans (congrArg some (by kernel_rfl))
 f222 := Tryz.func251.trans (congrArg some (by kernel_rfl))
 f223 := Tryz.func252.trans (congrArg some (by kernel_rfl))
 f269 := Tryz.func263.trans (congrArg some (by kernel_rfl))
 t3 := Tryz.underlying3
 a3 := Tryz.isAgg3
 z3 := Tryz.sizeOf3
 v3 := Tryz.zeroValue3
 t4 := Tryz.underlying4
 a4 := Tryz.isAgg4
 z4 := Tryz.sizeOf4
 v4 := Tryz.zeroValue4
 t5 := Tryz.underlying5
 a5 := Tryz.isAgg5
 z5 := Tryz.sizeOf5
 v5 := Tryz.zeroValue5
 t9 := Tryz.underlying9
 a9 := Tryz.isAgg9
 z9 := Tryz.sizeOf9
 v9 := Tryz.zeroValue9
 t46 := Tryz.underlying192
 a46 := Tryz.isAgg192
 z46 := Tryz.sizeOf192
 v46 := Tryz.zeroValue192
 t51 := Tryz.underlying145
 a51 := Tryz.isAgg145
 z51 := Tryz.sizeOf145
 v51 := Tryz.zeroValue145
 t146 := Tryz.underlying320
 a146 := Tryz.isAgg320
 z146 := Tryz.sizeOf320
 v146 := Tryz.zeroValue320 }
open Go.RowKit Go.Lib in
theorem Tryz.strings_LastIndex_one (s sub : ByteArray) (h1 : sub.size = 1) (hs : s.size < 4611686018427387904) (w : World) :
 Calls Tryz.prog 229 #[.string s, .string sub] w fun e w' => e = .returned (.int .i64 (Lib.lastIndexByte s ((sub[0]'(by omega)).toNat : Int))) ∧ w' = w := Any.strings_LastIndex_one Tryz.lays148 s sub h1 hs w
def Tryz.lays221_ren : Go.Shelf.Ren := ⟨fun | 221 => 256 | 268 => 266 | 138 => 226 | 143 => 247 | 195 => 245 | 197 => 273 | 218 => 246 | 219 => 259 | 260 => 276 | 217 => 268 | 225 => 269 | 224 => 270 | 267 => 271 | 266 => 274 | 314 => 275 | n => n, fun | 9 => 9 | 3 => 3 | 31 => 77 | 4 => 4 | 0 => 0 | 105 => 326 | 21 => 21 | 5 => 5 | 46 => 192 | 119 => 328 | 139 => 331 | 138 => 330 | 146 => 320 | 51 => 145 | n => n, fun | 1 => 0 | 3 => 1 | 4 => 2 | n => n⟩
theorem Tryz.lays221 : Go.Proofs.Lays.n221 Tryz.prog Tryz.lays221_ren := {
 mixed := by kernel_rfl
 f138 := Tryz.func226.trans (congrArg some (by kernel_rfl))
 f143 := Tryz.func247.trans (congrArg some (by kernel_rfl))
 f195 := Tryz.func245.trans (congrArg some (by kernel_rfl))
 f197 := Tryz.func273.trans (congrArg some (by kernel_rfl))
 f217 := Tryz.func268.trans (congrArg some (by kernel_rfl))
 f218 := Tryz.func246.trans (congrArg some (by kernel_rfl))
 f219 := Tryz.func259.trans (congrArg some (by kernel_rfl))
 f221 := Tryz.func256.trans (congrArg some (by kernel_rfl))
 f224 := Tryz.func270.trans (congrArg some (by kernel_rfl))
 f225 := Tryz.func269.trans (congrArg some (by kernel_rfl))
 f260 := Tryz.func276.trans (congrArg some (by kernel_rfl))
 f266 := Tryz.func274.trans (congrArg some (by kernel_rfl))
 f267 := Tryz.func271.trans (congrArg some (by kernel_rfl))
 f268 := Tryz.func266.trans (congrArg some (by kernel_rfl))
 f314 := Tryz.func275.trans (congrArg some (by kernel_rfl))
 t0 := Tryz.underlying0
 a0 := Tryz.isAgg0
 z0 := Tryz.sizeOf0
 v0 := Tryz.zeroValue0
 t3 := Tryz.underlying3
 a3 := Tryz.isAgg3
 z3 := Tryz.sizeOf3
 v3 := Tryz.zeroValue3
 t4 := Tryz.underlying4
 a4 := Tryz.isAgg4
 z4 := Tryz.sizeOf4
 v4 := Tryz.zeroValue4
 t5 := Tryz.underlying5
 a5 := Tryz.isAgg5
 z5 := Tryz.sizeOf5
 v5 := Tryz.zeroValue5
 t9 := Tryz.underlying9
 a9 := Tryz.isAgg9
 z9 := Tryz.sizeOf9
 v9 := Tryz.zeroValue9
 t21 := Tryz.underlying21
 a21 := Tryz.isAgg21
 z21 := Tryz.sizeOf21
 v21 := Tryz.zeroValue21
 t31 := Tryz.underlying77
 a31 := Tryz.isAgg77
 z31 := Tryz.sizeOf77
 v31 := Tryz.zeroValue77
 t46 := Tryz.underlying192
 a46 := Tryz.isAgg192
 z46 := Tryz.sizeOf192
 v46 := Tryz.zeroValue192
 t51 := Tryz.underlying145
 a51 := Tryz.isAgg145
 z51 := Tryz.sizeOf145
 v51 := Tryz.zeroValue145
 t105 := Tryz.underlying326
 a105 := Tryz.isAgg326
 z105 := Tryz.sizeOf326
 v105 := Tryz.zeroValue326
 t119 := Tryz.underlying328
 a119 := Tryz.isAgg328
 z119 := Tryz.sizeOf328
 t138 := Tryz.underlying330
 a138 := Tryz.isAgg330
 z138 := Tryz.sizeOf330
 v138 := Tryz.zeroValue330
 t139 := Tryz.underlying331
 a139 := Tryz.isAgg331
 z139 := Tryz.sizeOf331
 v139 := Tryz.zeroValue331
 t146 := Tryz.underlying320
 a146 := Tryz.isAgg320
 z146 := Tryz.sizeOf320
 v146 := Tryz.zeroValue320
 g1 := by kernel_rfl
 g3 := by kernel_rfl
 g4 := by kernel_rfl }
end Go.Proofs
namespace Go.Proofs.YtgfobinklijkpaaGreatDoor
set_option maxRecDepth 100000
set_option maxHeartbeats 16000000
open Go.RowKit
theorem pxChr_any (c : UInt8) (w : World) : Calls Tryz.prog 262 #[.int .u8 (c.toNat : Int)] w fun e w' => e = .returned (.bool (chrB c)) ∧ w' = w := by
 have hC : c.toNat < 256 := c.toNat_lt
 have HL : Hid (chrB c = (decide (97 ≤ c.toNat) && decide (c.toNat ≤ 122) || decide (48 ≤ c.toNat) && decide (c.toNat ≤ 57) || decide (c.toNat = 45) || decide (c.toNat = 95))) := by
  show _ = _
  unfold chrB
  simp
 obtain ⟨C, hCE⟩ : ∃ C, c.toNat = C := ⟨_, rfl⟩
 rw [hCE] at hC HL ⊢
 clear hCE
 go_enter Tryz.func262, Tryz.ntmps262
 by_cases h1 : 97 ≤ (C : Int) <;> by_cases h2 : (C : Int) ≤ 122 <;> by_cases h3 : 48 ≤ (C : Int) <;> by_cases h4 : (C : Int) ≤ 57 <;> by_cases h5 : (C : Int) = 45 <;> by_cases h6 : (C : Int) = 95 <;> first | (exfalso; omega) | skip
 all_goals first
  | (have HB : Hid (chrB c = true) := by
      show _ = _
      rw [HL.out]
      simp only [Bool.or_eq_true, Bool.and_eq_true, decide_eq_true_eq]
      omega
     clear HL
     go_wp2
     go_ret
     exact ⟨by rw [HB.out]; rfl, rfl⟩)
  | (have HB : Hid (chrB c = false) := by
      show _ = _
      rw [HL.out, Bool.eq_false_iff]
      intro hh
      simp only [Bool.or_eq_true, Bool.and_eq_true, decide_eq_true_eq] at hh
      omega
     have b5 : ((C : Int) == 45) = false := by simpa using h5
     have b6 : ((C : Int) == 95) = false := by simpa using h6
     clear HL
     go_wp2
     go_ret
     exact ⟨by rw [HB.out]; rfl, rfl⟩)
theorem pxName_w (s : List UInt8) (w : World) (hs : s.length ≤ 1000000) : Calls Tryz.prog 250 #[txt s] w fun e w' => e = .returned (.bool (nameB s)) ∧ w' = w := by
 obtain ⟨n, hn⟩ : ∃ n, s.length = n := ⟨_, rfl⟩
 have hsz : (⟨s.toArray⟩ : ByteArray).size = n := hn
 have HN := lhd hn
 rw [hn] at hs
 have HX : Hid (∀ b, s.all chrB = b → nameB s = (b && (decide (1 ≤ n) && decide (n ≤ 30)))) := by
  intro b hb
  rw [nameB_of s b hb, hn]
 clear hn
 go_enter Tryz.func250, Tryz.ntmps250
 by_cases h1 : (n : Int) < 1
 ·have HF : Hid (nameB s = false) := by
   show _ = _
   rw [HX.out _ rfl]
   have : decide (1 ≤ n) = false := by simp; omega
   simp [this]
  go_wp2
  go_ret
  exact ⟨by rw [HF.out]; rfl, rfl⟩
 by_cases h2 : 30 < (n : Int)
 ·have HF : Hid (nameB s = false) := by
   show _ = _
   rw [HX.out _ rfl]
   have : decide (n ≤ 30) = false := by simp; omega
   simp [this]
  go_wp2
  go_ret
  exact ⟨by rw [HF.out]; rfl, rfl⟩
 go_wp2
 go_loop [14] (fun x => ∃ i : Nat, i ≤ n ∧ x = .int .i64 (i : Int) ∧ Hid ((s.take i).all chrB = true)) (fun x => n - (intOf x).toNat)
 case atStart => exact ⟨0, by omega, rfl, by simp [Hid]⟩
 case round =>
  obtain ⟨i, hi, rfl, HA⟩ := hrel
  by_cases hi2 : i < n
  ·have zi : (i : Int) < (n : Int) := by omega
   have hil : i < s.length := by rw [HN.out]; exact hi2
   have hix := run_index_txt s i hil
   have HT : Hid (s.take (i + 1) = s.take i ++ [s.getD i 0]) := by
    show _ = _
    rw [List.take_add_one]
    have e : s[i]? = some (s.getD i 0) := by
     rw [List.getD_eq_getElem?_getD, List.getElem?_eq_getElem hil]
     rfl
    rw [e]; rfl
   have HM : Hid (s.getD i 0 ∈ s) := by
    show _ ∈ _
    rw [List.getD_eq_getElem?_getD, List.getElem?_eq_getElem hil]
    exact List.getElem_mem _
   obtain ⟨c, hc⟩ : ∃ c, s.getD i 0 = c := ⟨_, rfl⟩
   rw [hc] at hix HT HM
   clear hc hil
   go_wp2_with fail
   refine (pxChr_any c w).mono ?_
   rintro e w1 ⟨rfl, rfl⟩
   cases hb : chrB c
   ·have HF : Hid (s.all chrB = false) := by
     show _ = _
     rw [List.all_eq_false]
     exact ⟨c, HM.out, by rw [hb]; simp⟩
    go_wp2
    go_ret
    exact ⟨by rw [HX.out _ HF.out]; rfl, rfl⟩
   ·go_wp2
    go_round
    case rel =>
     refine ⟨i + 1, by omega, by go_num, ?_⟩
     show _ = _
     rw [HT.out, List.all_append, HA.out]
     simp [hb]
    case measure => simp [intOf]; omega
  ·have hE : i = n := by omega
   subst hE
   have HF : Hid (s.all chrB = true) := by
    show _ = _
    have h := HA.out
    rw [List.take_of_length_le (by rw [HN.out]; exact Nat.le_refl _)] at h
    exact h
   have HG : Hid (nameB s = true) := by
    show _ = _
    rw [HX.out _ HF.out]
    simp
    omega
   go_wp2
   go_ret
   exact ⟨by rw [HG.out]; rfl, rfl⟩
theorem txt_extract (s : List UInt8) (a b : Nat) : Value.string ((⟨s.toArray⟩ : ByteArray).extract a b) = txt ((s.drop a).take (b - a)) := by
 rw [Lib.extract_eq]
def Halves (s : List UInt8) (w : World) (e : Ending) (w' : World) : Prop := e = .returned (.tuple #[txt (headS s), txt (tailS s), .bool (hasS s)]) ∧ ∃ n, w' = w.drewN n
theorem cutSl_any (s : List UInt8) (w : World) (hs : s.length ≤ 1000000) : Calls Tryz.prog 261 #[txt s, .string ⟨#[47]⟩] w (Halves s w) := by
 have hI := Tryz.stringslite_Index_one ⟨s.toArray⟩ 47 w
 rw [show (⟨s.toArray⟩ : ByteArray).data.toList = s from rfl, index_head] at hI
 have HI := lhd hI
 clear hI
 obtain ⟨n, hn⟩ : ∃ n, s.length = n := ⟨_, rfl⟩
 have hsz : (⟨s.toArray⟩ : ByteArray).size = n := hn
 go_enter Tryz.func261, Tryz.ntmps261
 cases hb : hasS s
 ·have HF : Hid (headS s = s ∧ tailS s = []) := hasS_not s hb
  rw [hb] at HI
  clear hn
  go_wp2_with fail
  refine HI.out.mono ?_
  rintro e w' ⟨rfl, rfl⟩
  simp only [Bool.false_eq_true, if_false]
  go_wp2
  go_ret3
  refine ⟨?_, 0, rfl⟩
  rw [HF.out.1, HF.out.2, hb]
  rfl
 ·have hl := hasS_len s hb
  have ht := lhd (headS_take s hb)
  have hd := lhd (tailS_drop s hb)
  have HB := lhd hb
  rw [hb] at HI
  obtain ⟨i, hi⟩ : ∃ i, (headS s).length = i := ⟨_, rfl⟩
  rw [hi] at HI hl ht hd
  rw [hn] at hl hs
  clear hb hi hn
  go_wp2_with fail
  refine HI.out.mono ?_
  rintro e w' ⟨rfl, rfl⟩
  simp only [if_true]
  have c1 : (0 : Int) ≤ (i : Int) := by omega
  have c2 : (i : Int) ≤ (n : Int) := by omega
  have c3 : (0 : Int) ≤ (i : Int) + 1 := by omega
  have c4 : (i : Int) + 1 ≤ (n : Int) := by omega
  have c5 : IntKind.i64.wrap ((i : Int) + 1) = (i : Int) + 1 := by rw [IntKind.wrap_i64]; omega
  clear HI
  go_wp2
  go_region
  go_wp2
  go_ret3
  refine ⟨?_, 1, rfl⟩
  show Ending.returned (.tuple #[Value.string ((⟨s.toArray⟩ : ByteArray).extract 0 i), Value.string ((⟨s.toArray⟩ : ByteArray).extract (i + 1) n), .bool true]) = _
  rw [txt_extract, txt_extract, HB.out, List.drop_zero, Nat.sub_zero, ht.out, hd.out, List.take_of_length_le (by omega)]
theorem cutStr_any (s : List UInt8) (w : World) (hs : s.length ≤ 1000000) : Calls Tryz.prog 249 #[txt s, .string ⟨#[47]⟩] w fun e w' => e = .returned (.tuple #[txt (headS s), txt (tailS s), .bool (hasS s)]) ∧ Below w.heap.size w w' := by
 have H := lhd (cutSl_any s w hs)
 clear hs
 go_enter Tryz.func249, Tryz.ntmps249
 go_wp2_with fail
 refine H.out.mono ?_
 rintro e w' ⟨rfl, n, rfl⟩
 go_wp2
 go_ret3
 exact ⟨rfl, Below.drewN' (Below.refl _ _)⟩
def lenV : Value → Nat
 | .string b => b.size
 | _ => 0
theorem lenV_txt (t : List UInt8) : lenV (txt t) = t.length := rfl
theorem allNames_any (s : List UInt8) (w : World) (hs : s.length ≤ 1000000) : Calls Tryz.prog 228 #[txt s] w (One (.bool ((splitL [] s).all nameB)) w) := by
 have HS := lhd hs
 obtain ⟨b, hb⟩ : ∃ b, (splitL [] s).all nameB = b := ⟨_, rfl⟩
 have HB := lhd hb
 rw [hb]
 clear hb hs
 go_enter Tryz.func228, Tryz.ntmps228
 go_wp2
 go_loopw [0] (fun v wr => ∃ t : List UInt8, v = txt t ∧ Hid (t.length ≤ 1000000) ∧ Hid ((splitL [] t).all nameB = b) ∧ Hid (Below w.heap.size w wr)) (fun v _ => lenV v)
 case atStart => exact ⟨s, rfl, HS, HB, Below.refl _ _⟩
 case round =>
  obtain ⟨t, rfl, HT, HA, HW⟩ := hrel
  have hwr := HW.out.size
  have HL := lhd (lenV_txt t)
  go_wp2_with fail
  refine (cutStr_any t wr HT.out).mono ?_
  rintro e w1 ⟨rfl, hb1⟩
  have HB1 := lhd (HW.out.trans (hb1.mono hwr))
  clear hb1
  have HH := lhd (Nat.le_trans (headS_le t) HT.out)
  cases hm : hasS t
  ·have HQ := lhd (hasS_not t hm)
   have HX := lhd (split_not t hm)
   have HE : Hid (nameB (headS t) = b) := by
    show _ = _
    rw [← HA.out, HX.out, HQ.out.1]; simp
   clear hm
   go_wp2_with fail
   refine (pxName_w (headS t) w1 HH.out).mono ?_
   rintro e w2 ⟨rfl, rfl⟩
   cases hb : nameB (headS t)
   ·rw [hb] at HE
    go_wp2
    go_ret
    exact ⟨by rw [← HE.out]; rfl, HB1.out⟩
   ·rw [hb] at HE
    go_wp2
    go_ret
    exact ⟨by rw [← HE.out]; rfl, HB1.out⟩
  ·have HQ := lhd (hasS_len t hm)
   have HX := lhd (split_yes t hm)
   have HE : Hid ((nameB (headS t) && (splitL [] (tailS t)).all nameB) = b) := by
    show _ = _
    rw [← HA.out, HX.out]; simp
   clear hm
   go_wp2_with fail
   refine (pxName_w (headS t) w1 HH.out).mono ?_
   rintro e w2 ⟨rfl, rfl⟩
   cases hb : nameB (headS t)
   ·rw [hb] at HE
    go_wp2
    go_ret
    exact ⟨by rw [← HE.out]; rfl, HB1.out⟩
   ·rw [hb] at HE
    have HE2 : Hid ((splitL [] (tailS t)).all nameB = b) := by
     show _ = _
     have := HE.out
     simpa using this
    have HT2 : Hid ((tailS t).length ≤ 1000000) := by
     show _ ≤ _
     have := HQ.out
     have := HT.out
     omega
    go_wp2
    go_roundw
    case rel => exact ⟨tailS t, rfl, HT2, HE2, HB1⟩
    case measure =>
     show lenV (txt (tailS t)) < lenV (txt t)
     rw [lenV_txt, lenV_txt]
     have := HQ.out
     omega
theorem pxRight_any (s : List UInt8) (w : World) : Calls Tryz.prog 188 #[txt s] w (One (.bool (rightB s)) w) := by
 obtain ⟨n, hn⟩ : ∃ n, s.length = n := ⟨_, rfl⟩
 have hsz : (⟨s.toArray⟩ : ByteArray).size = n := hn
 have HN := lhd hn
 clear hn
 go_enter Tryz.func188, Tryz.ntmps188
 by_cases hr : s = [47]
 ·subst hr
  go_wp2
  go_ret
  exact ⟨by rw [right_root]; rfl, Below.refl _ _⟩
 have hr2 : (s == [47]) = false := txt_ne s [47] hr
 by_cases h100 : 100 < (n : Int)
 ·have HF := lhd (rightB_long s (by rw [HN.out]; omega))
  clear hr
  go_wp2
  go_ret
  exact ⟨by rw [HF.out]; rfl, Below.refl _ _⟩
 ·have hC := Tryz.strings_Count_one ⟨s.toArray⟩ 47 w
  rw [show (⟨s.toArray⟩ : ByteArray).data.toList = s from rfl] at hC
  unfold Lib.countByte at hC
  have HM := lhd (right_many s)
  have hP := Tryz.strings_CutPrefix ⟨s.toArray⟩ ⟨#[47]⟩ w
  rw [show (⟨s.toArray⟩ : ByteArray).data.toList = s from rfl, show (⟨#[47]⟩ : ByteArray).data.toList = [47] from rfl, slash_prefix] at hP
  have HP := lhd hP
  have HT := lhd (slash_trim s)
  have HR : Hid (s.count 47 ≤ 8 → ∀ r, s = 47 :: r → rightB s = (splitL [] r).all nameB) := by
   intro hc r hrr
   rw [hrr] at hr hc ⊢
   refine right_rest r (fun h => hr (by rw [h])) ?_ hc
   rw [← hrr, HN.out]
   omega
  obtain ⟨k, hk⟩ : ∃ k, s.count 47 = k := ⟨_, rfl⟩
  rw [hk] at hC HM HR
  have HC := lhd hC
  clear hC hP hr hk
  by_cases h8 : 8 < (k : Int)
  ·have HF := lhd (HM.out (by omega))
   clear HM HR HT HP
   go_wp2_with fail
   refine HC.out.mono ?_
   rintro e w' ⟨rfl, rfl⟩
   go_wp2
   go_ret
   exact ⟨by rw [HF.out]; rfl, Below.refl _ _⟩
  ·have HR2 := lhd (HR.out (by omega))
   clear HM HR
   go_wp2_with fail
   refine HC.out.mono ?_
   rintro e w' ⟨rfl, rfl⟩
   clear HC
   go_wp2_with fail
   refine HP.out.mono ?_
   rintro e w' ⟨rfl, rfl⟩
   clear HP
   cases hb : slashB s
   ·have HF := lhd (right_start s hb)
    clear hb
    go_wp2
    go_ret
    exact ⟨by rw [HF.out]; rfl, Below.refl _ _⟩
   ·have HE := lhd (HT.out hb)
    obtain ⟨r, hrr⟩ : ∃ r, Lib.trimPrefix s [47] = r := ⟨_, rfl⟩
    rw [hrr] at HE ⊢
    have HF := lhd (HR2.out r HE.out)
    have HL : Hid (r.length ≤ 1000000) := by
     show _ ≤ _
     have h := congrArg List.length HE.out
     rw [HN.out] at h
     simp at h
     omega
    clear hb hrr HR2 HT HE
    go_wp2_with fail
    refine (allNames_any r w' HL.out).mono ?_
    rintro e w1 ⟨rfl, hb1⟩
    have HB := lhd hb1
    clear hb1
    go_wp2
    go_ret
    exact ⟨by rw [HF.out]; rfl, HB.out⟩
theorem count_head : ∀ s : List UInt8, s.count 47 = if hasS s = true then 1 + (tailS s).count 47 else 0
 | [] => rfl
 | c :: r => by
   unfold hasS tailS
   by_cases hc : c = 47
   ·subst hc
    rw [List.count_cons_self, if_pos rfl, if_pos rfl, if_pos rfl]; omega
   ·rw [List.count_cons_of_ne (by simpa using hc), if_neg hc, if_neg hc, count_head r]
theorem indexB_head (s : List UInt8) : Lib.indexB ⟨s.toArray⟩ ⟨#[47]⟩ = if hasS s = true then ((headS s).length : Int) else -1 := by
 show Lib.index s [47] = _
 rw [Lib.index_one, index_head]
theorem splitB_bas : ∀ (k : Nat) (s : List UInt8), s.count 47 = k → Lib.splitB ⟨#[47]⟩ 0 k ⟨s.toArray⟩ = bas (splitL [] s)
 | 0, s, h => by
   have hb : hasS s = false := by
    rw [count_head] at h
    cases hb : hasS s
    ·rfl
    ·rw [hb] at h; simp at h
   rw [split_not s hb]
   rfl
 | k + 1, s, h => by
   have hb : hasS s = true := by
    rw [count_head] at h
    cases hb : hasS s
    ·rw [hb] at h; simp at h
    ·rfl
   have hk : (tailS s).count 47 = k := by
    rw [count_head, hb] at h; simp at h; omega
   have hix : Lib.indexB ⟨s.toArray⟩ ⟨#[47]⟩ = ((headS s).length : Int) := by rw [indexB_head, hb]; rfl
   have hl := hasS_len s hb
   rw [Lib.splitB_hit _ _ _ _ _ hix, split_yes s hb]
   have e1 : (⟨s.toArray⟩ : ByteArray).extract 0 ((headS s).length + 0) = ⟨(headS s).toArray⟩ := by
    rw [Lib.extract_eq]
    simp [headS_take s hb]
   have e2 : (⟨s.toArray⟩ : ByteArray).extract ((headS s).length + (⟨#[47]⟩ : ByteArray).size) (⟨s.toArray⟩ : ByteArray).size = ⟨(tailS s).toArray⟩ := by
    rw [Lib.extract_eq]
    show (⟨((s.drop ((headS s).length + 1)).take (s.length - ((headS s).length + 1))).toArray⟩ : ByteArray) = _
    rw [tailS_drop s hb, List.take_of_length_le (by omega)]
   rw [e1, e2, splitB_bas k (tailS s) hk]
   rfl
theorem infoSp : (Tryz.prog.info? 9).map (fun i => (i.zero, i.size, i.bytes)) = some (some (.string ByteArray.empty), 1, 16) := by kernel_rfl
def Rows (l : List (List UInt8)) (w : World) (e : Ending) (w' : World) : Prop := ∃ v, e = .returned v ∧ OwnS 9 w' w.heap.size v (bas l) ∧ Below w.heap.size w w'
theorem genSplit_any (s : List UInt8) (w : World) (hs : s.length ≤ 1000000) : Calls Tryz.prog 256 #[txt s, .string ⟨#[47]⟩, .int .i64 0, .int .i64 (-1)] w (Rows (splitL [] s) w) := by
 have hC := Tryz.strings_Count_one ⟨s.toArray⟩ 47 w
 have ec : Lib.countB ⟨s.toArray⟩ ⟨#[47]⟩ = s.count 47 := Lib.count_one 47 s
 have hN : (((s.count 47 + 1 : Nat)) : Int) = min (if (-1 : Int) < 0 then (Lib.countB ⟨s.toArray⟩ ⟨#[47]⟩ : Int) + 1 else -1) (((⟨s.toArray⟩ : ByteArray).size : Int) + 1) := by
  rw [ec, if_pos (by decide)]
  have h1 : s.count 47 ≤ s.length := List.count_le_length
  have h2 : (⟨s.toArray⟩ : ByteArray).size = s.length := rfl
  rw [h2]; omega
 have H := Any.strings_genSplit_core Tryz.lays221 infoSp ⟨s.toArray⟩ ⟨#[47]⟩ 0 (-1) (s.count 47 + 1) w (by show s.length < _; omega) (by decide) (by decide)
  (fun x c _ => by
    have h := Tryz.strings_Index_one x 47 (w.alloc (.cells c 9))
    have e : Lib.indexB x ⟨#[47]⟩ = Lib.indexByte x.data.toList 47 := Lib.index_one _ _
    rw [e]
    exact h)
  (by rw [ec]; exact hC) (by decide) (by decide) hN
 refine Calls.mono H ?_
 rintro e w' ⟨rfl, rfl⟩
 rw [Nat.add_sub_cancel, splitB_bas _ s rfl]
 have hl : (bas (splitL [] s)).length = s.count 47 + 1 := by rw [bas_length, split_count]
 rw [← hl, Lib.cellsOf_full]
 have hle : s.count 47 ≤ s.length := List.count_le_length
 refine ⟨_, rfl, ?_, (Below.refl _ _).alloc (Nat.le_refl _) _⟩
 have h := World.ownsRow_lit (base := w.heap.size) (e := 9) (size := 1) w ((bas (splitL [] s)).map Value.string).toArray (bas (splitL [] s)).length (Nat.le_refl _) (by rw [hl]; unfold maxLen; omega) (by simp)
 exact h
theorem split_any (s : List UInt8) (w : World) (hs : s.length ≤ 1000000) : Calls Tryz.prog 241 #[txt s, .string ⟨#[47]⟩] w (Rows (splitL [] s) w) := by
 have H := lhd (genSplit_any s w hs)
 clear hs
 go_enter Tryz.func241, Tryz.ntmps241
 go_wp2_with fail
 refine H.out.mono ?_
 rintro e w1 ⟨v, rfl, ho, hb⟩
 have HO := lhd ho
 have HB := lhd hb
 clear ho hb H
 go_wp2
 go_ret
 exact ⟨_, rfl, HO.out, HB.out⟩
theorem right_tail (s : List UInt8) (h : rightB s = true) (h1 : s ≠ [47]) : ∃ r, s = 47 :: r ∧ cutL s = splitL [] r := by
 have hs := right_slash s h
 cases s with
 | nil => cases hs
 | cons c r =>
   have hc : c = 47 := by simpa [slashB] using hs
   subst hc
   refine ⟨r, rfl, ?_⟩
   rw [cutL, if_pos rfl, if_neg (fun e => h1 (by rw [e]))]
theorem pxNames_any (s : List UInt8) (w : World) : Calls Tryz.prog 219 #[txt s] w (Lists (namesL s) (namesE s) w) := by
 go_enter Tryz.func219, Tryz.ntmps219
 go_wp2_with fail
 refine (pxRight_any s w).mono ?_
 rintro e w1 ⟨rfl, hb⟩
 have hs1 := hb.size
 have HB := lhd hb
 clear hb
 cases hR : rightB s
 ·have HN := lhd (names_not s hR)
  clear hR
  go_wp2
  go_ret2
  rw [HN.out.1, HN.out.2]
  exact ⟨_, rfl, OwnS.nil _ _ _, HB.out⟩
 ·have HN := lhd (names_yes s hR)
  by_cases hr : s = [47]
  ·subst hr
   clear hR
   go_wp2
   go_ret2
   rw [HN.out.1, HN.out.2]
   exact ⟨_, rfl, OwnS.nil _ _ _, HB.out⟩
  ·have hr2 := txt_ne s [47] hr
   have HQ := lhd (rightB_len s hR).1
   obtain ⟨r, hsr, hc⟩ := right_tail s hR hr
   have HC := lhd hc
   have HR : Hid (r.length ≤ 1000000) := by
    show _ ≤ _
    have h := HQ.out
    rw [hsr] at h
    simp at h
    omega
   have hz : (⟨s.toArray⟩ : ByteArray).size = r.length + 1 := by
    show s.length = _
    rw [hsr]; rfl
   have HX : Hid (Value.string ((⟨s.toArray⟩ : ByteArray).extract 1 (r.length + 1)) = txt r) := by
    show _ = _
    rw [txt_extract, hsr]
    simp
   have H1 : Hid (Calls Tryz.prog 241 #[Value.string ((⟨s.toArray⟩ : ByteArray).extract 1 (r.length + 1)), .string ⟨#[47]⟩] w1 (Rows (splitL [] r) w1)) := by
    show Calls _ _ _ _ _
    rw [HX.out]
    exact split_any r w1 HR.out
   clear hR hr hsr hc
   have c1 : (1 : Int) ≤ (r.length : Int) + 1 := by omega
   go_wp2_with fail
   refine H1.out.mono ?_
   rintro e w2 ⟨v, rfl, ho, hb⟩
   have HO := lhd (ho.base hs1)
   have HB2 := lhd (HB.out.trans (hb.mono hs1))
   clear ho hb H1
   go_wp2
   go_ret2
   rw [HN.out.1, HN.out.2, HC.out]
   exact ⟨_, rfl, HO.out, HB2.out⟩
theorem pxParent_any (s : List UInt8) (w : World) : Calls Tryz.prog 190 #[txt s] w (Says (parentS s) (parentE s) w) := by
 go_enter Tryz.func190, Tryz.ntmps190
 go_wp2_with fail
 refine (pxRight_any s w).mono ?_
 rintro e w1 ⟨rfl, hb⟩
 have hs1 := hb.size
 have HB := lhd hb
 clear hb
 cases hR : rightB s
 ·have HP := lhd (parent_not s hR)
  clear hR
  go_wp2
  go_ret2
  rw [HP.out.1, HP.out.2]
  exact ⟨rfl, HB.out⟩
 ·by_cases hr : s = [47]
  ·have HP := lhd (parent_root s hR ((cut_root s (right_slash s hR)).2 hr))
   subst hr
   clear hR
   go_wp2
   go_ret2
   rw [HP.out.1, HP.out.2]
   exact ⟨rfl, HB.out⟩
  ·have hr2 := txt_ne s [47] hr
   obtain ⟨m, hm, h1, h2, h3, h4⟩ := last_slash s hR hr
   have hl := (rightB_len s hR).1
   have HI := Tryz.strings_LastIndex_one ⟨s.toArray⟩ ⟨#[47]⟩ rfl (by show s.length < _; omega) w1
   have e1 : Lib.lastIndexByte ⟨s.toArray⟩ (((⟨#[47]⟩ : ByteArray)[0]'(by decide)).toNat : Int) = (m : Int) := last_of s m hm h1 h2
   rw [e1] at HI
   have HI2 := lhd HI
   have H3 := lhd h3
   have H4 := lhd h4
   obtain ⟨n, hn⟩ : ∃ n, s.length = n := ⟨_, rfl⟩
   have hsz : (⟨s.toArray⟩ : ByteArray).size = n := hn
   rw [hn] at hm hl
   have zi : (m : Int) ≤ (n : Int) := by omega
   clear hR hr HI e1 h1 h2 h3 h4 hn
   go_wp2_with fail
   refine HI2.out.mono ?_
   rintro e w' ⟨rfl, rfl⟩
   by_cases h0 : m = 0
   ·subst h0
    clear HI2
    go_wp2
    go_ret2
    rw [H3.out, H4.out]
    exact ⟨rfl, HB.out⟩
   ·have hz : ((m : Int) == 0) = false := by simpa using h0
    clear HI2
    go_wp2
    go_ret2
    rw [H3.out, H4.out, if_neg h0]
    refine ⟨?_, HB.out⟩
    show Ending.returned (.tuple #[Value.string ((⟨s.toArray⟩ : ByteArray).extract 0 m), _]) = _
    rw [txt_extract]
    rfl
end Go.Proofs.YtgfobinklijkpaaGreatDoor
