/-
  Texts UG0 UH UI UJ UK UL UC UM UD.
-/
import Derived.Test.YtgfobinklijkpaaGreatDoorX01
import Derived.Test.YtgfobinklijkpaaGreatDoorX18
import Derived.Test.YtgfobinklijkpaaGreatDoorX27
namespace Go.Proofs.YtgfobinklijkpaaGreatDoor
set_option maxRecDepth 100000
set_option maxHeartbeats 16000000
open Go.RowKit
abbrev zWa : Value := .agg (wac wa0).toArray
theorem infoQWa : (Tryz.prog.info? 163).map (fun i => (i.zero, i.size, i.bytes)) = some (some zWa, 3, 32) := by kernel_rfl
theorem infoPWa : ∃ i, Tryz.prog.info? 163 = some i ∧ i.zero = some zWa ∧ i.size = 3 ∧ i.bytes = 32 := by
 have h := infoQWa
 cases hi : Tryz.prog.info? 163 with
 | none => rw [hi] at h; simp at h
 | some i =>
   rw [hi] at h
   simp at h
   exact ⟨i, rfl, h.1, h.2.1, h.2.2⟩
theorem kindPWa : KindOf Tryz.prog 163 WaK 32 := kind_of (z := zWa) (by kernel_rfl) rfl
theorem rwLenWa (l : List Wa) : (rowsE WaK l).length = l.length * 3 := rowsE_length WaK l
theorem ownBlkWa {e : TypeId} {w : World} {base n cap g : Nat} {l : List Wa} (h : OwnE WaK e w base (.slice (some ⟨g, 0, none⟩) n cap) l) : ∃ cur : Array Value, Blk w g cur.toList e ∧ base ≤ g ∧ l.length ≤ cap ∧ cap ≤ maxLen ∧ cur.size = cap * 3 ∧ cur.toList.take (l.length * 3) = rowsE WaK l ∧ n = l.length := h.block
theorem clone_anyWa (l : List Wa) (v : Value) (w : World) (hr : RdE WaK w.heap.size w v l) (hl : l.length ≤ 100000) : Calls Tryz.prog 88 #[v] w (OwnsE WaK 163 l w) := by
 obtain ⟨i1, hJ, hy0, hy1, hy2⟩ := infoPWa
 obtain ⟨A, cp, rfl, hc, hm⟩ := hr.shape
 unfold maxLen at hm
 cases A with
 | none =>
   obtain ⟨A', c', hv, _, _, hn, _⟩ := hr
   injection hv with q1 q2 q3
   subst q1 q3
   have h0 := hn rfl
   have h1 : l = [] := List.eq_nil_of_length_eq_zero (by omega)
   subst h1
   subst h0
   have he : ∀ w, (binOp .eql 45 (.slice none 0 0) (.slice none 0 0)).run Tryz.prog w = .ok (.bool true) w := fun _ => rfl
   go_enter Tryz.func88, Tryz.ntmps88
   go_wp2
   go_ret
   exact ⟨_, rfl, OwnE.nil _ _ _, Below.refl _ _⟩
 | some a =>
   have HR := lhd hr
   have HL := lhd hl
   obtain ⟨n, hn⟩ : ∃ n, l.length = n := ⟨_, rfl⟩
   rw [hn] at HR hc ⊢
   clear hr hl hn
   have he : ∀ w, (binOp .eql 45 (.slice (some a) n cp) (.slice none 0 0)).run Tryz.prog w = .ok (.bool false) w := fun _ => rfl
   have HO : Hid (OwnE WaK 163 (w.alloc (.cells #[] 163)) w.heap.size (.slice (some ⟨w.heap.size, 0, none⟩) 0 0) []) := OwnE.empty (E := WaK) 163 w w.heap.size (Nat.le_refl _)
   have HA : Hid (Below w.heap.size w (w.alloc (.cells #[] 163))) := (Below.refl _ _).alloc (Nat.le_refl _) _
   have HR2 := lhd (HR.out.below HA.out)
   go_enter Tryz.func88, Tryz.ntmps88
   go_wp2_with (at_builtin; refine wpList_appF (E := WaK) rfl _ _ 45 rfl 163 32 Tryz.underlying45 kindPWa w.heap.size _ _ _ [] l rfl HO.out rfl HR2.out ?d1 ?d2 ?d3 ?_)
   case d1 => have := HL.out; simp; omega
   case d2 => have := HL.out; simp; omega
   case d3 => simp
   intro v' w' h1 h2 h3
   have H1 := lhd h1
   have H2 := lhd (HA.out.trans h2)
   clear h1 h2 h3
   go_wp2
   go_ret
   exact ⟨_, rfl, H1.out, H2.out⟩
def Tests (q : Wa → Bool) (fv : Value) (a b : Nat) (w : World) : Prop :=
 ∃ (f : Nat) (lb : Array Value), fv = .func (.func f) #[] lb ∧ (∀ args W, (callFunc f args).run Tryz.prog W = .ok (.enter f args) W) ∧
   ∀ W, (∀ k, a ≤ k → k < b → W.heap[k]? = w.heap[k]?) → ∀ x : Wa, Calls Tryz.prog f (#[.agg #[txt (wP x), .int .i64 (wC x), .bool (wK x)]] ++ lb) W (One (.bool (q x)) W)
theorem Tests.keep {q : Wa → Bool} {fv : Value} {a b : Nat} {w W : World} (h : Tests q fv a b w) (hW : ∀ k, a ≤ k → k < b → W.heap[k]? = w.heap[k]?) : Tests q fv a b W := by
 obtain ⟨f, lb, h1, h2, h3⟩ := h
 exact ⟨f, lb, h1, h2, fun V hV x => h3 V (fun k k1 k2 => (hV k k1 k2).trans (hW k k1 k2)) x⟩
theorem none_any (x : Wa) (w : World) : Calls Tryz.prog 189 #[.agg #[txt (wP x), .int .i64 (wC x), .bool (wK x)]] w (One (.bool false) w) := by
 go_enter Tryz.func189, Tryz.ntmps189
 go_wp2_with (refine wpList_box_blk rfl 163 _ rfl (wac x) rfl ?_)
 intro w1 b1 b2 b3
 have HB := lhd b3
 clear b1 b2 b3
 go_wp2
 go_ret
 exact ⟨rfl, HB.out⟩
def askB (c : Ch) (par : List UInt8) (ok : Bool) (x : Wa) : Bool := if wK x = true then ok && decide (wP x = par) else decide (wP x = cP c)
theorem ask_any (c : Ch) (par : List UInt8) (ok : Bool) (x : Wa) (g0 g1 g2 : Nat) (w : World) (h0 : Blk w g0 (chc c) 235) (h1 : Blk w g1 [txt par] 9) (h2 : Blk w g2 [.bool ok] 4) :
 Calls Tryz.prog 191 #[.agg #[txt (wP x), .int .i64 (wC x), .bool (wK x)], .pointer (some ⟨g2, 0, none⟩), .pointer (some ⟨g1, 0, none⟩), .pointer (some ⟨g0, 0, none⟩)] w (One (.bool (askB c par ok x)) w) := by
 have l0 := h0.lt
 have l1 := h1.lt
 have l2 := h2.lt
 have H0 := lhd h0
 have H1 := lhd h1
 have H2 := lhd h2
 clear h0 h1 h2
 obtain ⟨R, hR⟩ : ∃ R, askB c par ok x = R := ⟨_, rfl⟩
 have HR := lhd hR
 rw [hR]
 clear hR
 go_enter Tryz.func191, Tryz.ntmps191
 go_wp2_with (refine wpList_box_blk rfl 163 _ rfl (wac x) rfl ?_)
 intro w1 b1 b2 b3
 have HB := lhd b3
 have Y0 := H0.out.below b3 l0
 have Y1 := H1.out.below b3 l1
 have Y2 := H2.out.below b3 l2
 have e0 := Y0.at_ 1 _ rfl
 have e1 := Y1.at_ 0 _ rfl
 have e2 := Y2.at_ 0 _ rfl
 have d0 := b1.at_ 0 _ rfl
 have d2 := b1.at_ 2 _ rfl
 obtain ⟨g3, hg3⟩ : ∃ g, w.heap.size = g := ⟨_, rfl⟩
 rw [hg3] at d0 d2 ⊢
 clear b1 b2 b3 Y0 Y1 Y2 H0 H1 H2
 obtain ⟨p, hp⟩ : ∃ p, wP x = p := ⟨_, rfl⟩
 obtain ⟨q, hq⟩ : ∃ q, cP c = q := ⟨_, rfl⟩
 obtain ⟨kd, hkd⟩ : ∃ kd, wK x = kd := ⟨_, rfl⟩
 have hE : Hid (R = if kd = true then ok && decide (p = par) else decide (p = q)) := by
  show _ = _
  rw [← HR.out]
  unfold askB
  rw [hp, hq, hkd]
 rw [hp] at d0 ⊢
 rw [hkd] at d2 ⊢
 have e0b : w1.cell? ⟨g0, 1, none⟩ = some (txt q) := by rw [← hq]; exact e0
 clear e0
 clear hp hq hkd HR
 cases kd
 ·by_cases hpq : p = q
  ·have hb := txt_eqE p q hpq
   have HF : Hid (R = true) := by show _ = _; rw [hE.out, if_neg (by simp), decide_eq_true hpq]
   clear hpq
   go_wp2
   go_ret
   exact ⟨by rw [HF.out]; rfl, HB.out⟩
  ·have hb := txt_neE p q hpq
   have HF : Hid (R = false) := by show _ = _; rw [hE.out, if_neg (by simp), decide_eq_false hpq]
   clear hpq
   go_wp2
   go_ret
   exact ⟨by rw [HF.out]; rfl, HB.out⟩
 ·cases ok
  ·have HF : Hid (R = false) := by show _ = _; rw [hE.out, if_pos rfl, Bool.false_and]
   go_wp2
   go_ret
   exact ⟨by rw [HF.out]; rfl, HB.out⟩
  by_cases hpq : p = par
  ·have hb := txt_eqE p par hpq
   have HF : Hid (R = true) := by show _ = _; rw [hE.out, if_pos rfl, decide_eq_true hpq]; rfl
   clear hpq
   go_wp2
   go_ret
   exact ⟨by rw [HF.out]; rfl, HB.out⟩
  ·have hb := txt_neE p par hpq
   have HF : Hid (R = false) := by show _ = _; rw [hE.out, if_pos rfl, decide_eq_false hpq]; rfl
   clear hpq
   go_wp2
   go_ret
   exact ⟨by rw [HF.out]; rfl, HB.out⟩
theorem noneIs (a b : Nat) (w : World) : Tests (fun _ => false) (.func (.func 189) #[] #[]) a b w :=
 ⟨_, _, rfl, fun _ _ => rfl, fun W _ x => none_any x W⟩
theorem askIs (c : Ch) (par : List UInt8) (ok : Bool) (g0 g1 g2 a b : Nat) (w : World) (h0 : Blk w g0 (chc c) 235) (h1 : Blk w g1 [txt par] 9) (h2 : Blk w g2 [.bool ok] 4)
 (a0 : a ≤ g0 ∧ g0 < b) (a1 : a ≤ g1 ∧ g1 < b) (a2 : a ≤ g2 ∧ g2 < b) :
 Tests (askB c par ok) (.func (.func 191) #[] #[.pointer (some ⟨g2, 0, none⟩), .pointer (some ⟨g1, 0, none⟩), .pointer (some ⟨g0, 0, none⟩)]) a b w :=
 ⟨_, _, rfl, fun _ _ => rfl, fun W hW x => ask_any c par ok x g0 g1 g2 W (h0.same (hW g0 a0.1 a0.2)) (h1.same (hW g1 a1.1 a1.2)) (h2.same (hW g2 a2.1 a2.2))⟩
def IdxF (q : Wa → Bool) (l : List Wa) (w : World) (e : Ending) (w' : World) : Prop := ∃ z : Int, e = .returned (.int .i64 z) ∧ (z = if l.findIdx q < l.length then ((l.findIdx q : Nat) : Int) else -1) ∧ Below w.heap.size w w'
theorem find_here (q : Wa → Bool) (l : List Wa) (i : Nat) (hi : i < l.length) (hq : q (l.getD i wa0) = true) (h : ∀ j, j < i → q (l.getD j wa0) = false) : l.findIdx q = i := by
 have e : ∀ j (hj : j < l.length), l.getD j wa0 = l[j] := fun j hj => by rw [List.getD_eq_getElem?_getD, List.getElem?_eq_getElem hj]; rfl
 rw [List.findIdx_eq hi]
 refine ⟨by rw [← e i hi]; exact hq, fun j hj => ?_⟩
 rw [← e j (by omega)]
 simpa using h j hj
theorem find_none (q : Wa → Bool) (l : List Wa) (h : ∀ j, j < l.length → q (l.getD j wa0) = false) : l.findIdx q = l.length := by
 have e : ∀ j (hj : j < l.length), l.getD j wa0 = l[j] := fun j hj => by rw [List.getD_eq_getElem?_getD, List.getElem?_eq_getElem hj]; rfl
 rw [List.findIdx_eq_length]
 intro x hx
 obtain ⟨j, hj, rfl⟩ := List.getElem_of_mem hx
 rw [← e j hj]
 exact h j hj
theorem indexFunc_any (q : Wa → Bool) (l : List Wa) (v fv : Value) (p r : Nat) (w : World) (hr : RdE WaK w.heap.size w v l) (ht : Tests q fv p r w) (hpr : r ≤ w.heap.size) : Calls Tryz.prog 192 #[v, fv] w (IdxF q l w) := by
 obtain ⟨A, cp, rfl, hc, hm⟩ := hr.shape
 unfold maxLen at hm
 obtain ⟨f, lb, rfl, ef, hf⟩ := ht
 have HT : Hid (∀ W, Below w.heap.size w W → ∀ x : Wa, Calls Tryz.prog f (#[.agg #[txt (wP x), .int .i64 (wC x), .bool (wK x)]] ++ lb) W (One (.bool (q x)) W)) := fun W hW x => hf W (fun k _ k2 => hW.block k (by omega)) x
 obtain ⟨n, hn⟩ : ∃ n, l.length = n := ⟨_, rfl⟩
 have HN := lhd hn
 have HR := lhd hr
 rw [hn] at hc HR ⊢
 clear hr hn hf
 go_enter Tryz.func192, Tryz.ntmps192
 go_wp2
 go_loopw [5, 8] (fun _ x wr => ∃ i : Nat, i ≤ n ∧ x = .int .i64 (i : Int) ∧ Hid (∀ j, j < i → q (l.getD j wa0) = false) ∧ Hid (Below w.heap.size w wr)) (fun _ x _ => n - (intOf x).toNat)
 case atStart => exact ⟨0, by omega, rfl, fun j hj => by omega, Below.refl _ _⟩
 case round =>
  obtain ⟨i, hi, rfl, HA, HW⟩ := hrel
  by_cases hi2 : i < n
  ·have zi : (i : Int) < (n : Int) := by omega
   obtain ⟨a, hA, c0, c1, c2⟩ := (HR.out.below HW.out).atWa i (by rw [HN.out]; exact hi2)
   subst hA
   obtain ⟨x, hx⟩ : ∃ x, l.getD i wa0 = x := ⟨_, rfl⟩
   rw [hx] at c0 c1 c2
   have hcall := HT.out wr HW.out x
   obtain ⟨B, hB⟩ : ∃ B, q x = B := ⟨_, rfl⟩
   rw [hB] at hcall
   have HC := lhd hcall
   have HX := lhd hx
   have HBB := lhd hB
   clear hcall hx hB
   go_wp2_with fail
   refine HC.out.mono ?_
   rintro e w2 ⟨rfl, hb⟩
   have HW2 := lhd (HW.out.trans (hb.mono HW.out.size))
   clear hb c0 c1 c2
   cases B
   ·have HA2 : Hid (∀ j, j < i + 1 → q (l.getD j wa0) = false) := by
     intro j hj
     by_cases h : j < i
     ·exact HA.out j h
     ·have : j = i := by omega
      subst this
      rw [HX.out]
      exact HBB.out
    go_wp2
    go_roundw
    case rel => exact ⟨i + 1, by omega, by go_num, HA2, HW2⟩
    case measure => simp [intOf]; omega
   ·have HE := lhd (find_here q l i (by rw [HN.out]; exact hi2) (by rw [HX.out]; exact HBB.out) HA.out)
    go_wp2
    go_ret
    exact ⟨(i : Int), rfl, by rw [HE.out, HN.out, if_pos hi2], HW2.out⟩
  ·have hE : i = n := by omega
   subst hE
   have HE := lhd (find_none q l (by rw [HN.out]; exact HA.out))
   go_wp2
   go_ret
   exact ⟨-1, rfl, by rw [HE.out, if_neg (by omega)], HW.out⟩
structure KeptW (q : Wa → Bool) (l L : List Wa) (i j : Nat) : Prop where
 len : L.length = l.length
 lt : i < j
 le : j ≤ l.length
 done : L.take i = (l.take j).filter fun x => !q x
 rest : L.drop j = l.drop j
theorem kept_start (q : Wa → Bool) (l : List Wa) (h : l.findIdx q < l.length) : KeptW q l l (l.findIdx q) (l.findIdx q + 1) := by
 refine ⟨rfl, by omega, by omega, ?_, rfl⟩
 have e : ∀ j (hj : j < l.length), l.getD j wa0 = l[j] := fun j hj => by rw [List.getD_eq_getElem?_getD, List.getElem?_eq_getElem hj]; rfl
 rw [take_snocW l wa0 _ h, List.filter_append, List.filter_cons_of_neg, List.filter_nil, List.append_nil]
 ·symm
  rw [List.filter_eq_self]
  intro x hx
  obtain ⟨j, hj, rfl⟩ := List.mem_take_iff_getElem.1 hx
  have := List.not_of_lt_findIdx (p := q) (xs := l) (i := j) (by omega)
  simpa using this
 ·rw [e _ h]
  have := List.findIdx_getElem (w := h)
  rw [this]; simp
theorem kept_at {q : Wa → Bool} {l L : List Wa} {i j : Nat} (h : KeptW q l L i j) (_hj : j < l.length) : L.getD j wa0 = l.getD j wa0 := by
 have e := congrArg (fun m => m.getD 0 wa0) h.rest
 simp only [List.getD_eq_getElem?_getD, List.getElem?_drop, Nat.add_zero] at e
 rw [List.getD_eq_getElem?_getD, List.getD_eq_getElem?_getD, e]
theorem kept_skip {q : Wa → Bool} {l L : List Wa} {i j : Nat} (h : KeptW q l L i j) (hj : j < l.length) (hq : q (l.getD j wa0) = true) : KeptW q l L i (j + 1) := by
 refine ⟨h.len, by have := h.lt; omega, by omega, ?_, ?_⟩
 ·rw [take_snocW l wa0 j hj, List.filter_append, ← h.done, List.filter_cons_of_neg (by rw [hq]; simp), List.filter_nil, List.append_nil]
 ·rw [← List.drop_drop, ← List.drop_drop, h.rest]
theorem kept_move {q : Wa → Bool} {l L : List Wa} {i j : Nat} (h : KeptW q l L i j) (hj : j < l.length) (hq : q (l.getD j wa0) = false) : KeptW q l (L.set i (l.getD j wa0)) (i + 1) (j + 1) := by
 have hl := h.lt
 have hn := h.len
 refine ⟨by rw [List.length_set]; exact h.len, by omega, by omega, ?_, ?_⟩
 ·rw [take_snocW l wa0 j hj, List.filter_append, ← h.done, List.filter_cons_of_pos (by rw [hq]; rfl), List.filter_nil]
  rw [take_snocW (L.set i (l.getD j wa0)) wa0 i (by rw [List.length_set]; omega), getD_setE L i _ wa0 (by omega), List.take_set_of_le (Nat.le_refl _)]
 ·rw [List.drop_set_of_lt (by omega), ← List.drop_drop, ← List.drop_drop, h.rest]
theorem kept_end {q : Wa → Bool} {l L : List Wa} {i : Nat} (h : KeptW q l L i l.length) : L.take i = l.filter fun x => !q x := by rw [h.done, List.take_length]
theorem run_clear_many {P : Program} (w : World) (t e ty : TypeId) (i : TypeInfo) (z : Value) (zs : List Value) (ht : P.underlying t = some (.slice e)) (hi : P.info? e = some i) (hz : i.zero = some z) (g o N c : Nat) (hN : N ≠ 0)
 (hzc : (Builtin.zeroCells z.cells N).toList = zs) (h1 : ∀ v ∈ zs, v.oneCell' = true)
 (hc : ∀ j, j < zs.length → (w.cell? ⟨g, o + j, none⟩).isSome = true ∧ w.frozen? ⟨g, o + j, none⟩ = false) :
 (Builtin.clear_ #[t] ty #[.slice (some ⟨g, o, none⟩) N c]).run P w = .ok (.tuple #[]) (w.setCells g o zs) := by
 obtain ⟨m, rfl⟩ : ∃ m, N = m + 1 := ⟨N - 1, by omega⟩
 have hzv : (zeroValue e).run P w = .ok z w := by simp [zeroValue, typeInfo, hi, hz]
 have hst := run_storeCells_cells (P := P) g o zs 0 w (fun j hj => (hc j hj).1) (fun j hj => (hc j hj).2) h1
 simp only [Nat.add_zero] at hst
 simp [Builtin.clear_, run_underlying ht, hzv, hzc, hst]
theorem zerosW (N : Nat) : ∃ zs, (Builtin.zeroCells zWa.cells N).toList = zs ∧ zs.length = N * 3 ∧ ∀ v ∈ zs, v.oneCell' = true := by
 refine ⟨_, rfl, ?_, ?_⟩
 ·have hs : zWa.cells.size = 3 := rfl
  simp [Builtin.zeroCells, hs]
 ·intro v hv
  have hs : zWa.cells.size = 3 := rfl
  simp only [Builtin.zeroCells, hs, Array.toList_map, List.mem_map] at hv
  obtain ⟨i, _, rfl⟩ := hv
  have hi : i % 3 < 3 := Nat.mod_lt _ (by decide)
  obtain h | h | h : i % 3 = 0 ∨ i % 3 = 1 ∨ i % 3 = 2 := by omega
  all_goals rw [h]; rfl
theorem cleared_ownWa {e : TypeId} {W : World} {base g cap n : Nat} {L : List Wa} {i : Nat} (h : OwnE WaK e W base (.slice (some ⟨g, 0, none⟩) n cap) L) (hi : i ≤ n) (zs : List Value) (hz : zs.length = (n - i) * 3) :
 OwnE WaK e (W.setCells g (i * 3) zs) base (.slice (some ⟨g, 0, none⟩) i cap) (L.take i) ∧ Below base W (W.setCells g (i * 3) zs) ∧ (∀ j, j < zs.length → (W.cell? ⟨g, i * 3 + j, none⟩).isSome = true ∧ W.frozen? ⟨g, i * 3 + j, none⟩ = false) := by
 obtain ⟨cur, hb, h2, h4, h5, h6, h7, hn⟩ := ownBlkWa h
 have hcl : cur.toList.length = cap * 3 := by rw [Array.length_toList, h6]
 have hl : (L.take i).length = i := by rw [List.length_take]; omega
 have hin : i * 3 + (n - i) * 3 ≤ cap * 3 := by omega
 refine ⟨?_, below_setCellsE h2 _ _ _ (Below.refl _ _), ?_⟩
 ·have b1 := hb.setCells zs (i * 3) (by rw [hz, hcl]; exact hin)
  have t1 := writtenE_take cur.toList zs (i * 3) (by rw [hcl]; omega)
  have t2 := writtenE_len cur.toList zs (i * 3) (by rw [hz, hcl]; exact hin)
  rw [hcl] at t2
  have t3 : cur.toList.take (i * 3) = rowsE WaK (L.take i) := by
   have := (rowsE_append WaK (L.take i) (L.drop i))
   rw [List.take_append_drop, ← h7] at this
   have h8 := congrArg (List.take (i * 3)) this
   rw [List.take_take, Nat.min_eq_left (show i * 3 ≤ L.length * 3 by omega), List.take_left' (by rw [rwLenWa, hl])] at h8
   exact h8
  have := OwnE.of (E := WaK) (e := e) (base := base) (cap := cap) (l := L.take i) _ b1 h2 (by rw [hl]; omega) h5 t2 (by rw [hl]; exact t1.trans t3)
  rw [hl] at this
  exact this
 ·intro j hj
  rw [hb.cell, List.getElem?_eq_getElem (by rw [hcl]; omega)]
  exact ⟨rfl, hb.frozen _⟩
theorem delFunc_any (q : Wa → Bool) (l : List Wa) (v fv : Value) (p r base : Nat) (w : World) (ho : OwnE WaK 163 w base v l) (hbw : base ≤ w.heap.size) (ht : Tests q fv p r w) (hpr : r ≤ w.heap.size) (hne : ∀ g, v.ownBlock = some g → ¬ (p ≤ g ∧ g < r)) :
 Calls Tryz.prog 160 #[v, fv] w (EditsE WaK 163 v base (l.filter fun x => !q x) w) := by
 obtain ⟨i1, hJ, hy0, hy1, hy2⟩ := infoPWa
 have hrd := ho.rd
 obtain ⟨A, cp, rfl, hc, hm⟩ := hrd.shape
 unfold maxLen at hm
 have hidx := indexFunc_any q l (.slice A l.length cp) fv p r w hrd ht hpr
 obtain ⟨f, lb, rfl, ef, hf⟩ := ht
 obtain ⟨n, hn⟩ : ∃ n, l.length = n := ⟨_, rfl⟩
 obtain ⟨F, hF⟩ : ∃ F, l.findIdx q = F := ⟨_, rfl⟩
 have HN := lhd hn
 have HF := lhd hF
 have HI := lhd hidx
 have HO := lhd ho
 rw [hn] at hc HI HO hne ⊢
 clear hrd hn hidx ho hF
 go_enter Tryz.func160, Tryz.ntmps160
 go_wp2_with fail
 refine HI.out.mono ?_
 rintro e w1 ⟨z, rfl, hz, hb⟩
 rw [HF.out, HN.out] at hz
 have HB := lhd hb
 have hw1 := hb.size
 have HO1 := lhd (HO.out.below hb (Nat.le_refl _))
 clear hb HI
 by_cases hFn : F < n
 rotate_left
 ·rw [if_neg hFn] at hz
  subst hz
  have HL : Hid ((l.filter fun x => !q x) = l) := by
   show _ = _
   rw [List.filter_eq_self]
   intro x hx
   have hfl : l.findIdx q = l.length := by
    have : l.findIdx q ≤ l.length := List.findIdx_le_length
    have h1 := HF.out
    have h2 := HN.out
    omega
   rw [List.findIdx_eq_length] at hfl
   simpa using hfl x hx
  go_wp2
  go_ret
  refine ⟨_, rfl, by rw [HL.out]; exact HO1.out, HB.out.mono hbw, fun k hk _ => HB.out.block k hk⟩
 rw [if_pos hFn] at hz
 subst hz
 have hz1 : ((F : Int) == -1) = false := by
  rw [beq_eq_false_iff_ne]
  omega
 obtain ⟨g, cap, hv, hcap, hbg, hgw⟩ := HO.out.inBlock (by rw [HN.out]; omega)
 rw [HN.out] at hv hcap
 obtain ⟨rfl, rfl⟩ : A = some ⟨g, 0, none⟩ ∧ cp = cap := by
  injection hv with e1 e2 e3
  exact ⟨e1, e3⟩
 clear hv
 have hgne : ¬ (p ≤ g ∧ g < r) := hne g rfl
 have HT : Hid (∀ W, (∀ k, k < w.heap.size → k ≠ g → W.heap[k]? = w.heap[k]?) → ∀ x : Wa, Calls Tryz.prog f (#[.agg #[txt (wP x), .int .i64 (wC x), .bool (wK x)]] ++ lb) W (One (.bool (q x)) W)) := fun W hW x => hf W (fun k k1 k2 => hW k (by omega) (fun e => hgne ⟨by omega, by omega⟩)) x
 have HK1 : Hid (∀ k, k < w.heap.size → k ≠ g → w1.heap[k]? = w.heap[k]?) := fun k hk _ => HB.out.block k hk
 have HB1 : Hid (Below base w w1) := HB.out.mono hbw
 have HST := lhd (kept_start q l (by rw [HF.out, HN.out]; exact hFn))
 rw [HF.out] at HST
 have hww1 : w.heap.size ≤ w1.heap.size := hw1
 clear HB HO hf
 go_wp2
 go_loopw [5, 6] (fun x y wr => ∃ (i j : Nat) (L : List Wa), x = .int .i64 (i : Int) ∧ y = .int .i64 (j : Int) ∧ i < j ∧ j ≤ n ∧ Hid (KeptW q l L i j) ∧ Hid (OwnE WaK 163 wr base (.slice (some ⟨g, 0, none⟩) n cp) L) ∧ Hid (Below base w wr) ∧ Hid (∀ k, k < w.heap.size → k ≠ g → wr.heap[k]? = w.heap[k]?) ∧ w.heap.size ≤ wr.heap.size) (fun _ y _ => n - (intOf y).toNat)
 case atStart => exact ⟨F, F + 1, l, rfl, by go_num, by omega, by omega, HST, HO1, HB1, HK1, hww1⟩
 case round =>
  obtain ⟨i, j, L, rfl, rfl, hij, hj, HKP, HOr, HBr, HKr, hwr⟩ := hrel
  by_cases hj2 : j < n
  ·have zj : (j : Int) < (n : Int) := by omega
   have HLN : Hid (L.length = n) := by
    show _ = _
    rw [HKP.out.len]
    exact HN.out
   obtain ⟨a, hA, c0, c1, c2⟩ := HOr.out.rd.atWa j (by rw [HLN.out]; exact hj2)
   obtain rfl : (⟨g, 0, none⟩ : Addr) = a := Option.some.inj hA
   obtain ⟨x, hx⟩ : ∃ x, l.getD j wa0 = x := ⟨_, rfl⟩
   have hat := kept_at HKP.out (by rw [HN.out]; exact hj2)
   rw [hat, hx] at c0 c1 c2
   simp only [Addr.add_lit, Nat.zero_add] at c0 c1 c2
   have hsk := kept_skip HKP.out (by rw [HN.out]; exact hj2)
   have hmv := kept_move HKP.out (by rw [HN.out]; exact hj2)
   rw [hx] at hsk hmv
   have HSK := lhd hsk
   have HMV := lhd hmv
   clear hA hx hat hsk hmv
   go_wp2_with (refine wpList_alloc_blk rfl 163 rfl (wac wa0) zeroWaP ?_)
   intro wa a1 a2 a3
   obtain ⟨gA, hgA⟩ : ∃ g, wr.heap.size = g := ⟨_, rfl⟩
   have A1 := lhd a1
   have HOa := lhd (HOr.out.below a3 (Nat.le_refl _))
   have HBa := lhd (HBr.out.trans (a3.mono (by omega)))
   have HKa : Hid (∀ k, k < w.heap.size → k ≠ g → wa.heap[k]? = w.heap[k]?) := fun k k1 k2 => (a3.block k (by omega)).trans (HKr.out k k1 k2)
   have hgg : g < gA := by omega
   have hwa : w.heap.size ≤ gA := by omega
   have hba : base ≤ gA := by omega
   have hsa : wa.heap.size = gA + 1 := by omega
   rw [hgA] at A1 ⊢
   clear a1 a2 a3 HOr HBr HKr c0 c1 c2 hgA
   go_wp2_with (refine wpList_store_to rfl 163 _ _ rfl gA (wac x) (wac wa0) 163 rfl rfl A1.out szWaP rfl (wac_all x) ?_)
   intro wb e1 e2 e3 e4
   have E1 := lhd e1
   have HOb : Hid (OwnE WaK 163 wb base (.slice (some ⟨g, 0, none⟩) n cp) L) := ownsRow_but HOa.out (fun e => absurd (Option.some.inj e : g = gA) (by omega)) e4
   have HBb := lhd (HBa.out.trans (e3.mono hba))
   have HKb : Hid (∀ k, k < w.heap.size → k ≠ g → wb.heap[k]? = w.heap[k]?) := fun k k1 k2 => (e3.block k (by omega)).trans (HKa.out k k1 k2)
   have d0 := e1.at_ 0 _ rfl
   have d1 := e1.at_ 1 _ rfl
   have d2 := e1.at_ 2 _ rfl
   have hsb : wb.heap.size = gA + 1 := by omega
   clear e1 e2 e3 e4 A1 HOa HBa HKa
   have hcall := HT.out wb HKb.out x
   obtain ⟨B, hB⟩ : ∃ B, q x = B := ⟨_, rfl⟩
   rw [hB] at hcall
   have HC := lhd hcall
   have HBB := lhd hB
   clear hcall hB
   go_wp2_with fail
   refine HC.out.mono ?_
   rintro e w2 ⟨rfl, hb⟩
   have E2 := lhd (E1.out.below hb (by omega))
   have HO2 := lhd (HOb.out.below hb (Nat.le_refl _))
   have HB2 := lhd (HBb.out.trans (hb.mono (by omega)))
   have HK2 : Hid (∀ k, k < w.heap.size → k ≠ g → w2.heap[k]? = w.heap[k]?) := fun k k1 k2 => (hb.block k (by omega)).trans (HKb.out k k1 k2)
   have hs2 : w.heap.size ≤ w2.heap.size := by have := hb.size; omega
   clear hb d0 d1 d2 E1 HOb HBb HKb HC
   have d0 := E2.out.at_ 0 _ rfl
   have d1 := E2.out.at_ 1 _ rfl
   have d2 := E2.out.at_ 2 _ rfl
   cases B
   ·have HKN := lhd (HMV.out HBB.out)
    obtain ⟨o1, o2, o3⟩ := HO2.out.stored i (by rw [HLN.out]; omega) x
    have zi : (i : Int) < (n : Int) := by omega
    have O1 := lhd o1
    have O2 := lhd o2
    have O3 := lhd (HB2.out.trans o3)
    have HK3 : Hid (∀ k, k < w.heap.size → k ≠ g → (w2.setCells g (i * 3) (wac x)).heap[k]? = w.heap[k]?) := fun k k1 k2 => (setCells_otherE g _ _ _ k k2).trans (HK2.out k k1 k2)
    have hs3 : w.heap.size ≤ (w2.setCells g (i * 3) (wac x)).heap.size := by rw [setCells_sizeE]; exact hs2
    clear o1 o2 o3
    go_wp2_with (refine wpList_store_mid rfl 163 _ _ rfl g (i * 3) (wac x).toArray rfl rfl O2.out szWaP (wac_all x) ?_)
    go_wp2
    go_roundw
    case rel => exact ⟨i + 1, j + 1, L.set i x, by go_num, by go_num, by omega, by omega, HKN, O1, O3, HK3, hs3⟩
    case measure => simp [intOf]; omega
   ·have HKN := lhd (HSK.out HBB.out)
    clear d0 d1 d2
    go_wp2
    go_roundw
    case rel => exact ⟨i, j + 1, L, rfl, by go_num, by omega, by omega, HKN, HO2, HB2, HK2, hs2⟩
    case measure => simp [intOf]; omega
  ·have hE : j = n := by omega
   subst hE
   have HEN : Hid (L.take i = l.filter fun x => !q x) := by
    show _ = _
    have h := HKP.out
    rw [← HN.out] at h
    exact kept_end h
   obtain ⟨zs, hz0, hz2, hz3⟩ := zerosW (j - i)
   obtain ⟨o1, o2, o3⟩ := cleared_ownWa HOr.out (show i ≤ j by omega) zs hz2
   rw [HEN.out] at o1
   have O1 := lhd o1
   have O2 := lhd (HBr.out.trans o2)
   have O3 := lhd o3
   have Z0 := lhd hz0
   have Z3 := lhd hz3
   clear o1 o2 o3 hz0 hz2 hz3
   have hci : ¬ (cp = i) := by omega
   have hi1 : i ≤ cp := by omega
   have hi2 : i ≤ j := by omega
   have hi3 : (i : Int) ≤ (j : Int) := by omega
   have hi4 : (0 : Int) ≤ (i : Int) := by omega
   have hi6 : j ≤ cp := by omega
   go_wp2_with (refine wpList_clearE_run rfl _ 45 rfl _ rfl (run_clear_many _ 45 163 _ i1 zWa zs Tryz.underlying45 hJ hy0 g (i * 3) (j - i) _ (by omega) Z0.out Z3.out O3.out) ?_)
   go_wp2
   go_ret
   refine ⟨_, rfl, O1.out, O2.out, fun k hk hv => (setCells_otherE g _ _ _ k (fun e => hv (by rw [e]; rfl))).trans (HKr.out k hk (fun e => hv (by rw [e]; rfl)))⟩
theorem rowTbP : ∃ d, Tryz.prog.underlying 47 = some d ∧ d.isRow = true := ⟨_, Tryz.underlying47, rfl⟩
theorem sTbP : (Tryz.prog.info? 47).map (·.size) = some 1 := by kernel_rfl
theorem zTbP : (Tryz.prog.info? 47).map (·.zero) = some (some (.agg [Value.slice none 0 0].toArray)) := by kernel_rfl
theorem zStrP : (Tryz.prog.info? 9).map (·.zero) = some (some (txt [])) := by kernel_rfl
theorem zBoolP : (Tryz.prog.info? 4).map (·.zero) = some (some (Value.bool false)) := by kernel_rfl
theorem sStrP : (Tryz.prog.info? 9).map (·.size) = some 1 := by kernel_rfl
theorem sBoolP : (Tryz.prog.info? 4).map (·.size) = some 1 := by kernel_rfl
theorem pRightIs (s : List UInt8) (b : Bool) (h : rightB s = b) (w : World) : Calls Tryz.prog 188 #[txt s] w (One (.bool b) w) := by
 rw [← h]
 exact pxRight_any s w
theorem pParentIs (s u : List UInt8) (f : Nat) (h : parentS s = u) (h2 : parentE s = f) (w : World) : Calls Tryz.prog 190 #[txt s] w (Says u f w) := by
 rw [← h, ← h2]
 exact pxParent_any s w
def TestsOf (q : Wa → Bool) (w : World) (e : Ending) (w' : World) : Prop := ∃ fv, e = .returned fv ∧ Tests q fv w.heap.size w'.heap.size w' ∧ Below w.heap.size w w'
theorem ask_touch (c : Ch) (h1 : ¬ cK c < 1) (h2 : ¬ 3 < cK c) (h3 : rightB (cP c) = true) : askB c (parentS (cP c)) (decide (parentE (cP c) = 0) && decide (cK c ≠ 2)) = touchB c := by
 funext x
 unfold askB
 cases hk : wK x
 ·rw [if_neg (by simp), touch_here c x h1 h2 h3 hk]
  by_cases h : wP x = cP c
  ·rw [decide_eq_true h, decide_eq_true h.symm]
  ·rw [decide_eq_false h, decide_eq_false (fun e => h e.symm)]
 ·rw [if_pos rfl, touch_kids c x h1 h2 h3 hk]
  unfold kidsB
  by_cases h : wP x = parentS (cP c)
  ·rw [decide_eq_true h, decide_eq_true h.symm]
   cases decide (parentE (cP c) = 0) <;> simp
  ·have h' : ¬ parentS (cP c) = wP x := fun e => h e.symm
   rw [decide_eq_false h, decide_eq_false h']
   simp
theorem none_touch (c : Ch) (h : cK c < 1 ∨ 3 < cK c ∨ rightB (cP c) = false) : (fun _ => false) = touchB c := by
 funext x
 rcases h with h | h | h
 ·rw [touch_low c x h]
 ·rw [touch_high c x h]
 ·rw [touch_bad c x h]
theorem touchedBy_any (c : Ch) (w : World) : Calls Tryz.prog 159 #[.agg #[.int .i64 (cK c), txt (cP c)]] w (TestsOf (touchB c) w) := by
 have hnone := none_touch c
 have hask := ask_touch c
 obtain ⟨Q, hQ⟩ : ∃ Q, touchB c = Q := ⟨_, rfl⟩
 rw [hQ] at hnone hask ⊢
 clear hQ
 obtain ⟨par, hpar⟩ : ∃ u, parentS (cP c) = u := ⟨_, rfl⟩
 obtain ⟨f, hf⟩ : ∃ f, parentE (cP c) = f := ⟨_, rfl⟩
 obtain ⟨R, hR⟩ : ∃ R, rightB (cP c) = R := ⟨_, rfl⟩
 rw [hpar, hf, hR] at hask
 rw [hR] at hnone
 have HPar := lhd hpar
 have HF := lhd hf
 have HRR := lhd hR
 have HNO := lhd hnone
 have HAS := lhd hask
 have hmf : ∀ (fn : Fn) (first cap : Array Value) (w : World), (Instr.makeFunc fn first cap).run Tryz.prog w = .ok (.func fn first cap) w := fun _ _ _ _ => rfl
 clear hnone hask hpar hf hR
 go_enter Tryz.func159, Tryz.ntmps159
 go_wp2_with (refine wpList_box_blk rfl 235 _ rfl (chc c) rfl ?_)
 intro w1 b1 b2 b3
 obtain ⟨g0, hg0⟩ : ∃ g, w.heap.size = g := ⟨_, rfl⟩
 have X0 := lhd b1
 have HB := lhd b3
 have hs1 : w1.heap.size = g0 + 1 := by omega
 have HG0 := lhd hg0
 rw [hg0] at X0 HB ⊢
 have ca := X0.out.at_ 0 _ rfl
 have cb := X0.out.at_ 1 _ rfl
 clear b1 b2 b3 hg0
 by_cases hlo : cK c < 1
 ·have HX := lhd (HNO.out (.inl hlo))
  go_wp2
  go_ret
  exact ⟨_, rfl, by rw [← HX.out]; exact noneIs _ _ _, by rw [HG0.out]; exact HB.out⟩
 by_cases hhi : 3 < cK c
 ·have HX := lhd (HNO.out (.inr (.inl hhi)))
  go_wp2
  go_ret
  exact ⟨_, rfl, by rw [← HX.out]; exact noneIs _ _ _, by rw [HG0.out]; exact HB.out⟩
 go_wp2_with fail
 refine (pRightIs (cP c) R HRR.out w1).mono ?_
 rintro e w2 ⟨rfl, hb⟩
 have X2 := lhd (X0.out.below hb (by omega))
 have HB2 := lhd (HB.out.trans (hb.mono (by omega)))
 have hs2 : g0 + 1 ≤ w2.heap.size := by have := hb.size; omega
 clear hb ca cb X0 HB
 cases R
 ·have HX := lhd (HNO.out (.inr (.inr rfl)))
  go_wp2
  go_ret
  exact ⟨_, rfl, by rw [← HX.out]; exact noneIs _ _ _, by rw [HG0.out]; exact HB2.out⟩
 have ca := X2.out.at_ 0 _ rfl
 have cb := X2.out.at_ 1 _ rfl
 go_wp2_with fail
 refine (pParentIs (cP c) par f HPar.out HF.out w2).mono ?_
 rintro e w3 ⟨rfl, hb⟩
 have X3 := lhd (X2.out.below hb (by omega))
 have HB3 := lhd (HB2.out.trans (hb.mono (by omega)))
 have hs3 : g0 + 1 ≤ w3.heap.size := by have := hb.size; omega
 clear hb ca cb X2 HB2
 go_wp2_with (refine wpList_alloc_one rfl 9 rfl (txt []) zStrP rfl ?_)
 intro w4 a1 a2 a3
 obtain ⟨g1, hg1⟩ : ∃ g, w3.heap.size = g := ⟨_, rfl⟩
 have A1 := lhd a1
 have X4 := lhd (X3.out.below a3 (by omega))
 have HB4 := lhd (HB3.out.trans (a3.mono (by omega)))
 have hs4 : w4.heap.size = g1 + 1 := by omega
 have h01 : g0 < g1 := by omega
 rw [hg1] at A1 ⊢
 clear a1 a2 a3 hg1 X3 HB3
 go_wp2_with (refine wpList_put_one rfl 9 _ _ rfl g1 (txt par) (txt []) 9 rfl rfl A1.out sStrP rfl ?_)
 intro w5 e1 e2 e3 e4
 have Y5 := lhd e1
 have X5 := lhd (X4.out.same (e4 g0 (by omega)))
 have HB5 := lhd (HB4.out.trans (e3.mono (by omega)))
 have hs5 : w5.heap.size = g1 + 1 := by omega
 clear e1 e2 e3 e4 A1 X4 HB4
 have ca := X5.out.at_ 0 _ rfl
 obtain ⟨F2, hF2⟩ : ∃ b, decide (f = 0) = b := ⟨_, rfl⟩
 obtain ⟨K2, hK2⟩ : ∃ b, decide (cK c ≠ 2) = b := ⟨_, rfl⟩
 have has := HAS.out hlo hhi (by trivial)
 rw [hF2, hK2] at has
 have HAX := lhd has
 have he1 : ((f : Int) == 0) = F2 := by
  rw [← hF2]
  by_cases h : f = 0
  ·rw [decide_eq_true h, h]; rfl
  ·rw [decide_eq_false h]; exact int_neE _ _ (by omega)
 have he2 : (cK c != 2) = K2 := by
  rw [← hK2]
  by_cases h : cK c = 2
  ·rw [decide_eq_false (by simpa using h), h]; rfl
  ·rw [decide_eq_true h]; rw [bne_iff_ne]; exact h
 clear has hF2 hK2 HNO HAS HRR HPar HF hlo hhi
 cases F2
 ·have HAY : Hid (askB c par (false) = Q) := by
   show _ = _
   rw [← HAX.out]
   rfl
  go_wp2_with (refine wpList_alloc_one rfl 4 rfl (Value.bool false) zBoolP rfl ?_)
  intro w6 a1 a2 a3
  obtain ⟨g2, hg2⟩ : ∃ g, g1 + 1 = g := ⟨_, rfl⟩
  have A1 := lhd a1
  have X6 := lhd (X5.out.below a3 (by omega))
  have Y6 := lhd (Y5.out.below a3 (by omega))
  have HB6 := lhd (HB5.out.trans (a3.mono (by omega)))
  have hs6 : w6.heap.size = g2 + 1 := by omega
  have h12 : g1 < g2 := by omega
  rw [hg2] at A1 ⊢
  clear a1 a2 a3 hg2 X5 Y5 HB5 ca
  go_wp2_with (refine wpList_put_one rfl 4 _ _ rfl g2 (Value.bool (false)) (Value.bool false) 4 rfl rfl A1.out sBoolP rfl ?_)
  intro w7 e1 e2 e3 e4
  have Z7 := lhd e1
  have X7 := lhd (X6.out.same (e4 g0 (by omega)))
  have Y7 := lhd (Y6.out.same (e4 g1 (by omega)))
  have HB7 := lhd (HB6.out.trans (e3.mono (by omega)))
  have hs7 : w7.heap.size = g2 + 1 := by omega
  clear e1 e2 e3 e4 A1 X6 Y6 HB6
  go_wp2
  go_ret
  refine ⟨_, rfl, ?_, by rw [HG0.out]; exact HB7.out⟩
  rw [← HAY.out, HG0.out]
  exact askIs c par (false) g0 g1 g2 _ _ w7 X7.out Y7.out Z7.out ⟨Nat.le_refl _, by omega⟩ ⟨by omega, by omega⟩ ⟨by omega, by omega⟩
 ·have HAY : Hid (askB c par (K2) = Q) := by
   show _ = _
   rw [← HAX.out]
   rfl
  go_wp2_with (refine wpList_alloc_one rfl 4 rfl (Value.bool false) zBoolP rfl ?_)
  intro w6 a1 a2 a3
  obtain ⟨g2, hg2⟩ : ∃ g, g1 + 1 = g := ⟨_, rfl⟩
  have A1 := lhd a1
  have X6 := lhd (X5.out.below a3 (by omega))
  have Y6 := lhd (Y5.out.below a3 (by omega))
  have HB6 := lhd (HB5.out.trans (a3.mono (by omega)))
  have hs6 : w6.heap.size = g2 + 1 := by omega
  have h12 : g1 < g2 := by omega
  rw [hg2] at A1 ⊢
  clear a1 a2 a3 hg2 X5 Y5 HB5 ca
  go_wp2_with (refine wpList_put_one rfl 4 _ _ rfl g2 (Value.bool (K2)) (Value.bool false) 4 rfl rfl A1.out sBoolP rfl ?_)
  intro w7 e1 e2 e3 e4
  have Z7 := lhd e1
  have X7 := lhd (X6.out.same (e4 g0 (by omega)))
  have Y7 := lhd (Y6.out.same (e4 g1 (by omega)))
  have HB7 := lhd (HB6.out.trans (e3.mono (by omega)))
  have hs7 : w7.heap.size = g2 + 1 := by omega
  clear e1 e2 e3 e4 A1 X6 Y6 HB6
  go_wp2
  go_ret
  refine ⟨_, rfl, ?_, by rw [HG0.out]; exact HB7.out⟩
  rw [← HAY.out, HG0.out]
  exact askIs c par (K2) g0 g1 g2 _ _ w7 X7.out Y7.out Z7.out ⟨Nat.le_refl _, by omega⟩ ⟨by omega, by omega⟩ ⟨by omega, by omega⟩
def TsV (q : Wa → Bool) (v : Value) (w : World) : Prop := ∃ p r, r ≤ w.heap.size ∧ Tests q v p r w
theorem TsV.below {q : Wa → Bool} {v : Value} {w w' : World} (h : TsV q v w) (hb : Below w.heap.size w w') : TsV q v w' := by
 obtain ⟨p, r, h1, h2⟩ := h
 exact ⟨p, r, Nat.le_trans h1 hb.size, h2.keep fun k _ k2 => hb.block k (by omega)⟩
end Go.Proofs.YtgfobinklijkpaaGreatDoor
