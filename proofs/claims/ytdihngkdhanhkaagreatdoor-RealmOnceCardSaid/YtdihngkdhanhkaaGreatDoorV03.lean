/-
  Texts SX OJ DD OA OB OC CC Lp LA Rel4 LB Y1 Y2.
-/
import Derived.Test.YtdihngkdhanhkaaGreatDoorChecked
import Derived.WalkKit
import Derived.WalkLawsBesides
import Derived.Outline
import Derived.Lib.Hide
import Derived.Deep.QuietTactic
import Derived.BigQuiet
import Derived.Deep.Draws
import Derived.StillTailTactics
import Derived.Lib.MinMax
import Derived.ChangeKeysEq
import Derived.Laws.CopyOwn
import Derived.IntWalk
import Derived.Laws.BitsAllLaws
import Derived.Maps.Own
import Derived.Maps.OwnOps
import Derived.Maps.RangeWalk
import Derived.ScopeJumps
import Derived.WalkMore
import Derived.Laws.EntriesVeiled
import Derived.Test.YtdihngkdhanhkaaGreatDoorV01
import Derived.Test.YtdihngkdhanhkaaGreatDoorV02
namespace Go.Proofs.YtdihngkdhanhkaaGreatDoor
set_option maxRecDepth 100000
set_option maxHeartbeats 16000000
open Go.RowKit
def Two (x y : Value) (w : World) (e : Ending) (w' : World) : Prop := e = .returned (.tuple #[x, y]) ∧ Below w.heap.size w w'
theorem c5 : Tryz.prog.cellsOf 5 = 1 := by kernel_rfl
theorem Blk.setCells {g : Nat} {t : TypeId} : ∀ (vs : List Value) (o : Nat) {w : World} {cs : List Value}, Blk w g cs t → o + vs.length ≤ cs.length → Blk (w.setCells g o vs) g (cs.take o ++ (vs ++ cs.drop (o + vs.length))) t
 | [], o, w, cs, h, _ => by
   simp only [List.length_nil, Nat.add_zero, List.nil_append, List.take_append_drop]
   exact h
 | v :: r, o, w, cs, h, hl => by
   have ih := Blk.setCells r (o + 1) (h.set o v) (by simp at hl ⊢; omega)
   have hl' : o < cs.length := by simp at hl; omega
   have e : (cs.set o v).take (o + 1) ++ (r ++ (cs.set o v).drop (o + 1 + r.length)) = cs.take o ++ ((v :: r) ++ cs.drop (o + (v :: r).length)) := by
    rw [List.take_set, List.drop_set, if_pos (by omega), List.take_succ_eq_append_getElem hl', List.set_append, if_neg (by rw [List.length_take]; omega), List.length_take, Nat.min_eq_left (by omega), Nat.sub_self]
    simp [Nat.add_assoc, Nat.add_comm 1]
   rw [e] at ih
   exact ih
section
variable {P : Program} {w : World} {ops : Array Oper} {rest : List Oper} {o : Oper} {a : Act} {Q : Exit → Act → World → Prop}
end
theorem s5 : (Tryz.prog.info? 5).map (·.size) = some 1 := by kernel_rfl
def One (v : Value) (w : World) (e : Ending) (w' : World) : Prop := e = .returned v ∧ Below w.heap.size w w'
theorem wp_of_list {P : Program} {o : Oper} {a : Act} {w : World} {K : Act → World → Prop} {Q : Exit → Act → World → Prop} (hg : o.guard = none)
 (h : wpList P #[] (fun e a w => match e with | .normal => K a w | .panic c => Q (.panic c) a w | _ => False) [o] a w) : o.wp P a w K Q := by
 unfold wpList at h
 simp only [Region.wanted, hg, if_true] at h
 rcases h with h | h
 ·unfold Oper.wp at *
  generalize (execOp a.eval o).run P w = r at *
  cases r with
  | ok n w' =>
    cases n <;> simp only [Oper.upon] at h ⊢ <;>
     first
      | exact h
      | exact Calls.mono h (fun e w'' he => by cases e <;> first | exact he | (obtain ⟨_, _, hf⟩ := he; exact hf.elim))
      | exact Rows.mono h (fun _ _ he => he)
  | halt x w' => cases x <;> simp only [Oper.upon] at h ⊢ <;> exact h
 ·obtain ⟨_, _, _, hf⟩ := h
  exact hf.elim
def hstep (p : List UInt8) (i j : Nat) (x : List UInt8) : List UInt8 := hash (p ++ [by2 i, [UInt8.ofNat j], x].flatten)
section
variable {P : Program} {w : World} {ops : Array Oper} {rest : List Oper} {o : Oper} {a : Act} {Q : Exit → Act → World → Prop}
end
theorem calls_args {P : Program} {f : FuncId} {args args2 : Array Value} {w : World} {R : Ending → World → Prop} (h : args = args2) (hc : Calls P f args2 w R) : Calls P f args w R := h ▸ hc
open Go.Maps (Keyed int_keyed)
theorem ret_blk2U {P : Program} {fn : Func} {p u : Tmp} {ty : TypeId} (h : fn.results = #[.cell p ty, .tmp u]) (tmps : Array Value) (w : World) (g : Nat) (t : TypeId) (cs : List Value) (v : Value)
 (hp : tmps.getD p undef = .pointer (some ⟨g, 0, none⟩)) (hv : tmps.getD u undef = v) (hb : Blk w g cs t) (d : TypeDesc) (hu : P.underlying ty = some d) (hd : d.isRow = true) (hi : (P.info? ty).map (·.size) = some cs.length) :
 (results fn tmps).run P w = .ok (.tuple #[.agg cs.toArray, v]) w := by
 rw [results_cell_tmp h, hp]
 simp [asAddr, Result.andThen, run_loadVar_row w g t ty cs.toArray (0, 0) d hb hu (by cases d <;> first | rfl | cases hd) (by simpa using hi)]
 simpa using hv
theorem Blk.at_ {w : World} {g : Nat} {cs : List Value} {t : TypeId} (h : Blk w g cs t) (j : Nat) (v : Value) (hj : cs[j]? = some v) : w.cell? ⟨g, j, none⟩ = some v := (h.cell j).trans hj
theorem ret_blkUL {P : Program} {fn : Func} {p : Tmp} {ty : TypeId} (h : fn.results = #[.cell p ty]) (tmps : Array Value) (w : World) (g : Nat) (t : TypeId) (cs : List Value)
 (hp : tmps.getD p undef = .pointer (some ⟨g, 0, none⟩)) (hb : Blk w g cs t) (d : TypeDesc) (hu : P.underlying ty = some d) (hd : d.isRow = true) (hi : (P.info? ty).map (·.size) = some cs.length) :
 (results fn tmps).run P w = .ok (.agg cs.toArray) w :=
 results_cell_row h tmps w g t cs.toArray (0, 0) d hp hb hu (by cases d <;> first | rfl | cases hd) (by simpa using hi)
section
variable {P : Program} {l : List Oper} {Q : Exit → Act → World → Prop} {F : (Nat → Value) → Act} {Φ : Nat → Value → World → Prop} {w0 : World}
theorem StepsAt.consG (j : Nat) {n : Nat} {o : Oper} {r : List Oper} (hk : ∀ v w w', Φ j v w → Below w.heap.size w w' → Φ j v w') (hp : ∀ x v, (F x).put o.dst v = F (upd x j v)) (ho : l[j]? = some o)
 (hw : ∀ x w, (∀ k, waitsB .any l.toArray j k = true → Φ k (x k) w) → Region.wanted o (yielded l.toArray (F x).tmps) = true)
 (h : ∀ x w, Below w0.heap.size w0 w → (∀ k, waitsB .any l.toArray j k = true → Φ k (x k) w) → ∀ K : Act → World → Prop, Shut (∀ v w', Below w.heap.size w w' → Φ j v w' → K ((F x).put o.dst v) w') → Oper.wp P o (F x) w K (NoPanic Q))
 (hr : StepsAt P l Q F Φ w0 n r (j + 1)) : StepsAt P l Q F Φ w0 (n + 1) (o :: r) j := by
 refine ⟨⟨hk, hp, fun x w hb hd => ?_⟩, hr⟩
 unfold wpOp
 rw [show l.toArray[j]? = some o by simpa using ho]
 simp only [hw x w hd, if_true]
 exact .inl (h x w hb hd _ fun v w' h1 h2 => ⟨v, rfl, h1, h2⟩)
theorem StepsAt.valG (j : Nat) (v : Value) {n : Nat} {o : Oper} {r : List Oper} (hΦ : Φ j = eqV v) (hp : ∀ x v, (F x).put o.dst v = F (upd x j v)) (ho : l[j]? = some o)
 (hw : ∀ x w, (∀ k, waitsB .any l.toArray j k = true → Φ k (x k) w) → Region.wanted o (yielded l.toArray (F x).tmps) = true)
 (h : ∀ x w, Below w0.heap.size w0 w → (∀ k, waitsB .any l.toArray j k = true → Φ k (x k) w) → (execOp (F x).eval o).run P w = .ok (.value v) w)
 (hr : StepsAt P l Q F Φ w0 n r (j + 1)) : StepsAt P l Q F Φ w0 (n + 1) (o :: r) j := by
 refine StepsAt.consG j (fun u w w' h1 _ => ?_) hp ho hw (fun x w hb hd K hK => ?_) hr
 ·rw [hΦ] at h1 ⊢; exact h1
 ·unfold Oper.wp
  rw [h x w hb hd]
  exact hK.out v w (Below.refl _ _) (by rw [hΦ]; rfl)
theorem StepsAt.skip (j : Nat) {n : Nat} {o : Oper} {r : List Oper} (hΦ : Φ j = eqV undef) (hp : ∀ x v, (F x).put o.dst v = F (upd x j v)) (ho : l[j]? = some o)
 (hw : ∀ x w, (∀ k, waitsB .any l.toArray j k = true → Φ k (x k) w) → Region.wanted o (yielded l.toArray (F x).tmps) = false)
 (hr : StepsAt P l Q F Φ w0 n r (j + 1)) : StepsAt P l Q F Φ w0 (n + 1) (o :: r) j := by
 refine ⟨⟨fun u w w' h1 _ => by rw [hΦ] at h1 ⊢; exact h1, hp, fun x w hb hd => ?_⟩, hr⟩
 unfold wpOp
 rw [show l.toArray[j]? = some o by simpa using ho]
 simp only [hw x w hd, Bool.false_eq_true, if_false]
 exact ⟨undef, rfl, Below.refl _ _, by rw [hΦ]; rfl⟩
end
abbrev txt (l : List UInt8) : Value := .string ⟨l.toArray⟩
theorem run_index_txt (s : List UInt8) (i : Nat) (hi : i < s.length) (w : World) : (Instr.index 9 (txt s) (.int .i64 (i : Int))).run Tryz.prog w = .ok (.int .u8 (((s.getD i 0).toNat : Nat) : Int)) w := by
 have h := run_index_string (P := Tryz.prog) (w := w) 9 ⟨s.toArray⟩ .i64 (i : Int) Tryz.underlying9
 rw [h]
 have hs : (⟨s.toArray⟩ : ByteArray).size = s.length := rfl
 simp [hs, hi]
 rfl
theorem nameB_of (s : List UInt8) (b : Bool) (h : s.all chrB = b) : nameB s = (b && (decide (1 ≤ s.length) && decide (s.length ≤ 30))) := by
 unfold nameB
 rw [h, Bool.and_assoc]
theorem rfName_any (s : List UInt8) (w : World) (hs : s.length ≤ 1000000) : Calls Tryz.prog 106 #[txt s] w (One (.bool (nameB s)) w) := by
 obtain ⟨n, hn⟩ : ∃ n, s.length = n := ⟨_, rfl⟩
 have hsz : (⟨s.toArray⟩ : ByteArray).size = n := hn
 have HN := lhd hn
 rw [hn] at hs
 go_enter Tryz.func106, Tryz.ntmps106
 go_wp2
 go_loop [3] (fun x => ∃ i : Nat, i ≤ n ∧ x = .int .i64 (i : Int) ∧ Hid ((s.take i).all chrB = true)) (fun x => n - (intOf x).toNat)
 case atStart => exact ⟨0, by omega, rfl, by simp [Hid]⟩
 case round =>
  obtain ⟨i, hi, rfl, HA⟩ := hrel
  by_cases hi2 : i < n
  ·have hix := run_index_txt s i (by rw [hn]; exact hi2)
   obtain ⟨c, hc⟩ : ∃ c, s.getD i 0 = c := ⟨_, rfl⟩
   rw [hc] at hix
   have hC : c.toNat < 256 := c.toNat_lt
   have hT : s.take (i + 1) = s.take i ++ [c] := by
    rw [List.take_add_one]
    have e : s[i]? = some c := by
     rw [List.getElem?_eq_getElem (by rw [hn]; exact hi2)]
     congr 1
     rw [← hc, List.getD_eq_getElem?_getD, List.getElem?_eq_getElem (by rw [hn]; exact hi2)]
     rfl
    rw [e]; rfl
   have HT := lhd hT
   have HM : Hid (c ∈ s) := by
    show _ ∈ _
    rw [← hc, List.getD_eq_getElem?_getD, List.getElem?_eq_getElem (by rw [hn]; exact hi2)]
    exact List.getElem_mem _
   have zi : (i : Int) < (n : Int) := by omega
   have HL : Hid (chrB c = (decide (97 ≤ c.toNat) && decide (c.toNat ≤ 122) || decide (48 ≤ c.toNat) && decide (c.toNat ≤ 57) || decide (c.toNat = 45) || decide (c.toNat = 95))) := by
    show _ = _
    unfold chrB
    simp
   obtain ⟨C, hCE⟩ : ∃ C, c.toNat = C := ⟨_, rfl⟩
   rw [hCE] at hix hC HL
   clear hc hT hCE hn
   by_cases h1 : 97 ≤ (C : Int) <;> by_cases h2 : (C : Int) ≤ 122 <;> by_cases h3 : 48 ≤ (C : Int) <;> by_cases h4 : (C : Int) ≤ 57 <;> by_cases h5 : (C : Int) = 45 <;> by_cases h6 : (C : Int) = 95 <;> first | (exfalso; omega) | skip
   ·have HB : Hid (chrB c = true) := by
     show _ = _
     rw [HL.out]
     simp only [Bool.or_eq_true, Bool.and_eq_true, decide_eq_true_eq]
     omega
    clear HL HM
    go_wp2
    go_round
    case rel =>
     refine ⟨i + 1, by omega, by go_num, ?_⟩
     show _ = _
     rw [HT.out, List.all_append, HA.out]
     simp [HB.out]
    case measure => simp [intOf]; omega
   ·have HB : Hid (chrB c = false) := by
     show _ = _
     rw [HL.out, Bool.eq_false_iff]
     intro hh
     simp only [Bool.or_eq_true, Bool.and_eq_true, decide_eq_true_eq] at hh
     omega
    have HF : Hid (s.all chrB = false) := by
     show _ = _
     rw [List.all_eq_false]
     exact ⟨c, HM.out, by rw [HB.out]; simp⟩
    have b5 : ((C : Int) == 45) = false := by simpa using h5
    have b6 : ((C : Int) == 95) = false := by simpa using h6
    clear HL HM HB HA HT
    go_wp2
    go_ret
    exact ⟨by rw [nameB_of s _ HF.out]; rfl, Below.refl _ _⟩
   ·have HB : Hid (chrB c = true) := by
     show _ = _
     rw [HL.out]
     simp only [Bool.or_eq_true, Bool.and_eq_true, decide_eq_true_eq]
     omega
    clear HL HM
    go_wp2
    go_round
    case rel =>
     refine ⟨i + 1, by omega, by go_num, ?_⟩
     show _ = _
     rw [HT.out, List.all_append, HA.out]
     simp [HB.out]
    case measure => simp [intOf]; omega
   ·have HB : Hid (chrB c = true) := by
     show _ = _
     rw [HL.out]
     simp only [Bool.or_eq_true, Bool.and_eq_true, decide_eq_true_eq]
     omega
    clear HL HM
    go_wp2
    go_round
    case rel =>
     refine ⟨i + 1, by omega, by go_num, ?_⟩
     show _ = _
     rw [HT.out, List.all_append, HA.out]
     simp [HB.out]
    case measure => simp [intOf]; omega
   ·have HB : Hid (chrB c = false) := by
     show _ = _
     rw [HL.out, Bool.eq_false_iff]
     intro hh
     simp only [Bool.or_eq_true, Bool.and_eq_true, decide_eq_true_eq] at hh
     omega
    have HF : Hid (s.all chrB = false) := by
     show _ = _
     rw [List.all_eq_false]
     exact ⟨c, HM.out, by rw [HB.out]; simp⟩
    have b5 : ((C : Int) == 45) = false := by simpa using h5
    have b6 : ((C : Int) == 95) = false := by simpa using h6
    clear HL HM HB HA HT
    go_wp2
    go_ret
    exact ⟨by rw [nameB_of s _ HF.out]; rfl, Below.refl _ _⟩
   ·have HB : Hid (chrB c = true) := by
     show _ = _
     rw [HL.out]
     simp only [Bool.or_eq_true, Bool.and_eq_true, decide_eq_true_eq]
     omega
    clear HL HM
    go_wp2
    go_round
    case rel =>
     refine ⟨i + 1, by omega, by go_num, ?_⟩
     show _ = _
     rw [HT.out, List.all_append, HA.out]
     simp [HB.out]
    case measure => simp [intOf]; omega
   ·have HB : Hid (chrB c = false) := by
     show _ = _
     rw [HL.out, Bool.eq_false_iff]
     intro hh
     simp only [Bool.or_eq_true, Bool.and_eq_true, decide_eq_true_eq] at hh
     omega
    have HF : Hid (s.all chrB = false) := by
     show _ = _
     rw [List.all_eq_false]
     exact ⟨c, HM.out, by rw [HB.out]; simp⟩
    have b5 : ((C : Int) == 45) = false := by simpa using h5
    have b6 : ((C : Int) == 95) = false := by simpa using h6
    clear HL HM HB HA HT
    go_wp2
    go_ret
    exact ⟨by rw [nameB_of s _ HF.out]; rfl, Below.refl _ _⟩
  ·obtain rfl : i = n := by omega
   have HF : Hid (s.all chrB = true) := by
    have h := HA.out
    rw [List.take_of_length_le (by rw [hn]; exact Nat.le_refl _)] at h
    exact h
   have hnb := nameB_of s true HF.out
   rw [hn] at hnb
   have HNB := lhd hnb
   clear HA HF hnb hn
   have zi : ¬ (i : Int) < (i : Int) := by omega
   by_cases h1 : 1 ≤ i
   ·have d1 : decide ((1 : Int) ≤ (i : Int)) = true := decide_eq_true (by omega)
    by_cases h2 : i ≤ 30
    ·have d2 : decide ((i : Int) ≤ 30) = true := decide_eq_true (by omega)
     go_wp2
     go_ret
     exact ⟨by rw [HNB.out]; simp [h1, h2], Below.refl _ _⟩
    ·have d2 : decide ((i : Int) ≤ 30) = false := decide_eq_false (by omega)
     go_wp2
     go_ret
     exact ⟨by rw [HNB.out]; simp [h1, h2], Below.refl _ _⟩
   ·have d1 : decide ((1 : Int) ≤ (i : Int)) = false := decide_eq_false (by omega)
    go_wp2
    go_ret
    exact ⟨by rw [HNB.out]; simp [h1], Below.refl _ _⟩
def bas (l : List (List UInt8)) : List ByteArray := l.map fun x => ⟨x.toArray⟩
theorem bas_length (l : List (List UInt8)) : (bas l).length = l.length := by simp [bas]
theorem joinL_take (l : List (List UInt8)) (i : Nat) : (joinL (l.take i)).length ≤ (joinL l).length := by
 have h : joinL l = joinL (l.take i) ++ joinL (l.drop i) := by
  conv => lhs; rw [← List.take_append_drop i l]
  simp only [joinL, List.flatMap_append]
 rw [h]; simp
theorem joinL_next (l : List (List UInt8)) (i : Nat) (hi : i < l.length) (x : List UInt8) (hx : l.getD i [] = x) : joinL (l.take (i + 1)) = joinL (l.take i) ++ 47 :: x := by
 rw [List.take_add_one]
 have e : l[i]? = some x := by
  rw [List.getElem?_eq_getElem hi]
  congr 1
  rw [← hx, List.getD_eq_getElem?_getD, List.getElem?_eq_getElem hi]
  rfl
 rw [e]
 exact joinL_snoc _ _
theorem two_add (y x : List UInt8) : (⟨y.toArray⟩ : ByteArray) ++ ⟨#[47]⟩ ++ ⟨x.toArray⟩ = ⟨(y ++ 47 :: x).toArray⟩ := by
 apply ByteArray.ext
 simp [ByteArray.data_append]
theorem rfMade_any (l : List (List UInt8)) (v : Value) (w : World) (hr : RdS w.heap.size w v (bas l)) (hl : (joinL l).length ≤ 1000000) : Calls Tryz.prog 108 #[v] w (One (txt (madeL l)) w) := by
 obtain ⟨A, c, rfl, hc, hm⟩ := hr.shape
 unfold maxLen at hm
 rw [bas_length] at hc hr ⊢
 obtain ⟨n, hn⟩ : ∃ n, l.length = n := ⟨_, rfl⟩
 have HN := lhd hn
 have HR := lhd hr
 have HL := lhd hl
 rw [hn] at hc HR ⊢
 clear hr hn hl
 go_enter Tryz.func108, Tryz.ntmps108
 go_wp2
 go_loop [3, 4] (fun o x => ∃ i : Nat, i ≤ n ∧ x = .int .i64 (i : Int) ∧ o = txt (joinL (l.take i))) (fun _ x => n - (intOf x).toNat)
 case atStart => exact ⟨0, by omega, rfl, rfl⟩
 case round =>
  obtain ⟨i, hi, rfl, rfl⟩ := hrel
  by_cases hi2 : i < n
  ·have zi : (i : Int) < (n : Int) := by omega
   obtain ⟨a, hA, ca⟩ := HR.out.at_ i (by rw [bas_length, HN.out]; exact hi2)
   subst hA
   obtain ⟨x, hx⟩ : ∃ x, l.getD i [] = x := ⟨_, rfl⟩
   have ex : (bas l)[i]'(by rw [bas_length, HN.out]; exact hi2) = ⟨x.toArray⟩ := by
    simp only [bas, List.getElem_map]
    congr 2
    rw [← hx, List.getD_eq_getElem?_getD, List.getElem?_eq_getElem (by rw [HN.out]; exact hi2)]
    rfl
   rw [ex] at ca
   have HE := lhd (joinL_next l i (by rw [HN.out]; exact hi2) x hx)
   have hq := joinL_take l (i + 1)
   rw [HE.out] at hq
   have hq2 := HL.out
   obtain ⟨y, hy⟩ : ∃ y, joinL (l.take i) = y := ⟨_, rfl⟩
   rw [hy] at hq HE ⊢
   simp only [List.length_append, List.length_cons] at hq
   have b1 : ¬ 9223372036854775807 < y.length + 1 := by omega
   have b2 : ¬ 9223372036854775807 < y.length + 1 + x.length := by omega
   clear hq hq2 hx ex
   go_wp2
   go_round
   case rel =>
    refine ⟨i + 1, by omega, by go_num, ?_⟩
    rw [HE.out]
    exact congrArg Value.string (two_add y x)
   case measure => simp [intOf]; omega
  ·have hE : i = n := by omega
   subst hE
   have HT : l.take i = l := List.take_of_length_le (by rw [HN.out]; exact Nat.le_refl _)
   rw [HT] at *
   obtain ⟨y, hy⟩ : ∃ y, joinL l = y := ⟨_, rfl⟩
   have hy3 : madeL l = if y = [] then [47] else y := by unfold madeL; rw [hy]
   have HM := lhd hy3
   rw [hy]
   clear hy hy3 HT
   by_cases hye : y = []
   ·subst hye
    go_wp2
    go_ret
    exact ⟨by rw [HM.out]; rfl, Below.refl _ _⟩
   ·have hz : y.isEmpty = false := by simpa using hye
    go_wp2
    go_ret
    exact ⟨by rw [HM.out, if_neg hye]; rfl, Below.refl _ _⟩
end Go.Proofs.YtdihngkdhanhkaaGreatDoor
