/-
  Texts RX NK RS NM.
-/
import Derived.Test.YtgfobinklijkpaaGreatDoorX01
import Derived.Lib.AppendZeros
import Derived.Test.YtgfobinklijkpaaGreatDoorX08
import Derived.Test.YtgfobinklijkpaaGreatDoorX12
namespace Go.Proofs.YtgfobinklijkpaaGreatDoor
set_option maxRecDepth 100000
set_option maxHeartbeats 16000000
open Go.RowKit
section
variable {P : Program} {l : List Oper} {Q : Exit → Act → World → Prop} {F : (Nat → Value) → Act} {Φ : Nat → (Nat → Value) → World → Prop} {S : Nat → (Nat → Value) → World → World → Prop} {sp : List Nat} {x0 : Nat → Value} {w0 : World}
structure StepZ (m : Nat) (P : Program) (l : List Oper) (Q : Exit → Act → World → Prop) (F : (Nat → Value) → Act) (Φ : Nat → (Nat → Value) → World → Prop) (S : Nat → (Nat → Value) → World → World → Prop) (sp : List Nat) (x0 : Nat → Value) (w0 : World) (j : Nat) (o : Oper) : Prop where
 keep : ∀ x i v w w', i ≠ j → i ∉ clos l l.length (depsOf l j) → Φ j x w → effX sp S i x w w' → Φ i (upd x i v) w' → Φ j (upd x i v) w'
 put : ∀ x v, (F x).put o.dst v = F (upd x j v)
 step : ∀ x w, Below w0.heap.size w0 w → x j = x0 j → (∀ k, waitsB .any l.toArray j k = true → Φ k x w) → (∀ k, k < m → x k = x0 k ∨ Φ k x w) →
  wpOp P l.toArray (NoPanic Q) j (fun a' w' => ∃ v, a' = (F x).put o.dst v ∧ Below w0.heap.size w w' ∧ effX sp S j x w w' ∧ Φ j (upd x j v) w') (F x) w
def StepsZ (m : Nat) (P : Program) (l : List Oper) (Q : Exit → Act → World → Prop) (F : (Nat → Value) → Act) (Φ : Nat → (Nat → Value) → World → Prop) (S : Nat → (Nat → Value) → World → World → Prop) (sp : List Nat) (x0 : Nat → Value) (w0 : World) : Nat → List Oper → Nat → Prop
 | 0, _, _ => True
 | _ + 1, [], _ => True
 | n + 1, o :: r, j => StepZ m P l Q F Φ S sp x0 w0 j o ∧ StepsZ m P l Q F Φ S sp x0 w0 n r (j + 1)
theorem StepsZ.done {m : Nat} {r : List Oper} {j : Nat} : StepsZ m P l Q F Φ S sp x0 w0 0 r j := trivial
theorem StepsZ.get {m : Nat} : ∀ (n : Nat) (r : List Oper) (j : Nat), StepsZ m P l Q F Φ S sp x0 w0 n r j → ∀ i o, i < n → r[i]? = some o → StepZ m P l Q F Φ S sp x0 w0 (j + i) o
 | 0, _, _, _, i, _, hi, _ => by omega
 | n + 1, [], _, _, i, _, _, ho => by simp at ho
 | n + 1, o :: r, j, h, 0, o', _, ho => by simp at ho; subst ho; exact h.1
 | n + 1, o :: r, j, h, i + 1, o', hi, ho => by
   have := StepsZ.get n r (j + 1) h.2 i o' (by omega) (by simpa using ho)
   rwa [show j + 1 + i = j + (i + 1) by omega] at this
theorem StepsZ.cons {m : Nat} (j : Nat) {n : Nat} {o : Oper} {r : List Oper} (hk : ∀ x i v w w', i ≠ j → i ∉ clos l l.length (depsOf l j) → Φ j x w → effX sp S i x w w' → Φ i (upd x i v) w' → Φ j (upd x i v) w') (hp : ∀ x v, (F x).put o.dst v = F (upd x j v)) (ho : l[j]? = some o) (hw : o.guard = none)
 (h : ∀ x w, Below w0.heap.size w0 w → x j = x0 j → (∀ k, waitsB .any l.toArray j k = true → Φ k x w) → (∀ k, k < m → x k = x0 k ∨ Φ k x w) → ∀ K : Act → World → Prop, Shut (∀ v w', Below w0.heap.size w w' → effX sp S j x w w' → Φ j (upd x j v) w' → K ((F x).put o.dst v) w') → Oper.wp P o (F x) w K (NoPanic Q))
 (hr : StepsZ m P l Q F Φ S sp x0 w0 n r (j + 1)) : StepsZ m P l Q F Φ S sp x0 w0 (n + 1) (o :: r) j := by
 refine ⟨⟨hk, hp, fun x w hb hx hd hs9 => ?_⟩, hr⟩
 unfold wpOp
 rw [show l.toArray[j]? = some o by simpa using ho]
 have hwt : Region.wanted o (yielded l.toArray (F x).tmps) = true := by simp [Region.wanted, hw]
 simp only [hwt, if_true]
 exact .inl (h x w hb hx hd hs9 _ fun v w' h1 h2 h3 => ⟨v, rfl, h1, h2, h3⟩)
theorem StepsZ.val {m : Nat} (j : Nat) (v : Value) {n : Nat} {o : Oper} {r : List Oper} (hφ : Φ j = fun x w => eqV v (x j) w) (hjp : sp.contains j = false) (hp : ∀ x v, (F x).put o.dst v = F (upd x j v)) (ho : l[j]? = some o) (hw : o.guard = none)
 (h : ∀ x w, Below w0.heap.size w0 w → (∀ k, waitsB .any l.toArray j k = true → Φ k x w) → (execOp (F x).eval o).run P w = .ok (.value v) w)
 (hr : StepsZ m P l Q F Φ S sp x0 w0 n r (j + 1)) : StepsZ m P l Q F Φ S sp x0 w0 (n + 1) (o :: r) j := by
 refine StepsZ.cons j (fun x i v' w w' hij _ h1 _ _ => ?_) hp ho hw (fun x w hb _ hd _ K hK => ?_) hr
 ·rw [hφ] at h1 ⊢
  show eqV v (upd x i v' j) w'
  rw [upd_ne _ _ _ _ (Ne.symm hij)]
  exact h1
 ·unfold Oper.wp
  rw [h x w hb hd]
  refine hK.out v w (Below.refl _ _) ?_ ?_
  ·unfold effX
   rw [if_neg (by rw [hjp]; simp)]
   exact Below.refl _ _
  ·rw [hφ]
   show eqV v (upd x j v j) w
   rw [upd_same]
   rfl
theorem StepsZ.skip {m : Nat} (j : Nat) {n : Nat} {o : Oper} {r : List Oper} (hφ : Φ j = fun x w => eqV undef (x j) w) (hjp : sp.contains j = false) (hp : ∀ x v, (F x).put o.dst v = F (upd x j v)) (ho : l[j]? = some o)
 (hw : ∀ x w, (∀ k, waitsB .any l.toArray j k = true → Φ k x w) → Region.wanted o (yielded l.toArray (F x).tmps) = false)
 (hr : StepsZ m P l Q F Φ S sp x0 w0 n r (j + 1)) : StepsZ m P l Q F Φ S sp x0 w0 (n + 1) (o :: r) j := by
 refine ⟨⟨fun x i v w w' hij _ h1 _ _ => ?_, hp, fun x w hb hx hd hs9 => ?_⟩, hr⟩
 ·rw [hφ] at h1 ⊢
  show eqV undef (upd x i v j) w'
  rw [upd_ne _ _ _ _ (Ne.symm hij)]
  exact h1
 ·unfold wpOp
  rw [show l.toArray[j]? = some o by simpa using ho]
  simp only [hw x w hd, Bool.false_eq_true, if_false]
  refine ⟨undef, rfl, Below.refl _ _, ?_, ?_⟩
  ·unfold effX
   rw [if_neg (by rw [hjp]; simp)]
   exact Below.refl _ _
  ·rw [hφ]
   show eqV undef (upd x j undef j) w
   rw [upd_same]
   rfl
end
def U8K : RowK UInt8 := { enc := fun b => [.int .u8 (b.toNat : Int)], k := 1, d := 0, len := fun _ => rfl, one := fun _ u hu => by simp only [List.mem_cons, List.not_mem_nil, or_false] at hu; subst hu; rfl, pos := by decide }
theorem rowsU8 (l : List UInt8) : rowsE U8K l = bys l := by
 unfold rowsE bys
 induction l with
 | nil => rfl
 | cons b r ih =>
   rw [List.flatMap_cons, ih]
   rfl
theorem Own.toE {e : TypeId} {w : World} {B : Nat} {v : Value} {l : List UInt8} (h : Own e w B v l) : OwnE U8K e w B v l := by
 unfold OwnE
 rw [rowsU8]
 exact h
theorem OwnE.toB {e : TypeId} {w : World} {B : Nat} {v : Value} {l : List UInt8} (h : OwnE U8K e w B v l) : Own e w B v l := by
 unfold OwnE at h
 rw [rowsU8] at h
 exact h
theorem Rd.toE {B : Nat} {w : World} {v : Value} {l : List UInt8} (h : Rd B w v l) : RdE U8K B w v l := by
 obtain ⟨A, c, hv, hc, hm, hn, hr⟩ := h
 refine ⟨A, c, hv, hc, hm, hn, fun a ha => ⟨(hr a ha).1, fun j u hu => ?_⟩⟩
 rw [rowsU8] at hu
 have hj : j < l.length := by
  have := (List.getElem?_eq_some_iff.1 hu).1
  simpa [bys] using this
 rw [(hr a ha).2 j hj]
 simp [bys, hj] at hu
 rw [← hu]
theorem Own.isSlice {e : TypeId} {w : World} {B : Nat} {v : Value} {l : List UInt8} (h : Own e w B v l) : ∃ A n c, v = .slice A n c := by
 obtain ⟨A, c, hv, -, -⟩ := h.rd.shape
 exact ⟨A, _, c, hv⟩
theorem Own.belowB {e : TypeId} {w w' : World} {base B : Nat} {v : Value} {l : List UInt8} (h : Own e w base v l) (hb : Below B w w') (hB : w.heap.size ≤ B) : Own e w' base v l := by
 refine ⟨h.1, ?_⟩
 rcases h.2 with hn | ⟨g, cap, cur, rfl, hg0, hg, r⟩
 ·exact .inl hn
 ·have hlt : g < w.heap.size := (Array.getElem?_eq_some_iff.1 hg).1
  exact .inr ⟨g, cap, cur, rfl, hg0, by rw [hb.block g (by omega)]; exact hg, r⟩
def BackB (e : TypeId) (B : Nat) (l : List UInt8) (a : Value) (w : World) : Prop := (∃ A n c, a = .slice A n c) ∧ Own e w B a l
theorem BackB.keep {e : TypeId} {B : Nat} {l : List UInt8} {a : Value} {w w' : World} (h : BackB e B l a w) (hb : Below w.heap.size w w') : BackB e B l a w' := ⟨h.1, h.2.belowB hb (Nat.le_refl _)⟩
theorem grow_nil (n : Nat) (w : World) (hn : n ≤ 10000000) : Calls Tryz.prog 109 #[.slice none 0 0, .int .i64 (n : Int)] w (Gives w.heap.size [] w) := by
 obtain ⟨i0, hi, hz0, hz1, hz2⟩ := info_parts info5
 go_enter Tryz.func109, Tryz.ntmps109
 by_cases h0 : n = 0
 ·subst h0
  go_wp2
  go_ret
  exact ⟨_, rfl, Own.nil _ _ _, Below.refl _ _⟩
 have hp : 0 < n := by omega
 have hp2 : (0 : Int) < (n : Int) := by omega
 have hrz := fun ty => Lib.run_append_nil_zeros (P := Tryz.prog) w 92 3 ty 5 i0 (.int .u8 0) .i64 .i64 Tryz.underlying92 Tryz.underlying3 hi hz0 n hp (by rw [hz1]; decide) (by omega) (by rw [hz2]; omega)
 obtain ⟨G, hG⟩ : ∃ G, grownCap w n 0 5 = G := ⟨_, rfl⟩
 have hG1 : n ≤ G := by rw [← hG]; exact grownCap_ge w _ _ _
 have hG2 : G ≤ maxLen := by rw [← hG]; exact grownCap_le_maxLen w _ _ _ (by unfold maxLen; omega)
 rw [hG] at hrz
 obtain ⟨ROW, hROW⟩ : ∃ R : Array Value, Builtin.zeroCells (Value.int .u8 0).cells n ++ Builtin.zeroCells (Value.int .u8 0).cells (G - n) = R := ⟨_, rfl⟩
 rw [hROW] at hrz
 have hRl : ROW.toList.length = G := by
  rw [← hROW]
  simp only [Array.toList_append, List.length_append, Array.length_toList, size_zeroCells]
  show n * 1 + (G - n) * 1 = G
  omega
 obtain ⟨N, hN⟩ : ∃ N, w.heap.size = N := ⟨_, rfl⟩
 obtain ⟨V, hV⟩ : ∃ V, w.drew.alloc (.cells ROW 5) = V := ⟨_, rfl⟩
 have hbN : Blk V N ROW.toList 5 := by
  rw [← hN, ← hV]
  exact heap_alloc_new w.drew (.cells ROW 5)
 have hWV : Below N w V := by
  rw [← hV]
  exact ((Below.refl N w).drew).alloc (by show N ≤ w.heap.size; omega) _
 rw [hN, hV] at hrz
 have HO : Hid (Own 5 V N (.slice (some ⟨N, 0, none⟩) 0 G) []) := by
  refine OwnE.toB (OwnE.of (E := U8K) (l := []) ROW.toList hbN (Nat.le_refl _) (Nat.zero_le _) hG2 ?_ ?_)
  ·rw [hRl]; exact (Nat.mul_one G).symm
  ·rfl
 have HWV := lhd hWV
 have HRZ := lhd hrz
 have HG2 := lhd hG2
 clear hRl hbN hWV hrz hROW hV hG hz0 hz1 hz2 hi hG2
 go_wp2_with (at_builtin; refine Lib.wpList_append_run _ rfl _ _ _ _ rfl _ _ rfl rfl _ _ (HRZ.out _) ?_)
 go_wp2
 go_ret
 refine ⟨_, rfl, ?_, ?_⟩
 ·rw [hN]; exact HO.out
 ·rw [hN]; exact HWV.out
abbrev SlT := Option Addr × Nat × Nat
def slv (s : SlT) : Value := .slice s.1 s.2.1 s.2.2
def sl0 : SlT := (none, 0, 0)
def SlK : RowK SlT := { enc := fun s => [slv s], k := 1, d := sl0, len := fun _ => rfl, one := fun _ u hu => by simp only [List.mem_cons, List.not_mem_nil, or_false] at hu; subst hu; rfl, pos := by decide }
theorem RdE.atSl {B : Nat} {w : World} {A : Option Addr} {n c : Nat} {l : List SlT} (h : RdE SlK B w (.slice A n c) l) (j : Nat) (hj : j < l.length) :
 ∃ a, A = some a ∧ w.cell? (a.add j) = some (slv (l.getD j sl0)) := by
 obtain ⟨a, ha, hc⟩ := h.cells j hj
 have h0 := hc 0 (by decide)
 rw [show j * SlK.k = j from Nat.mul_one j] at h0
 exact ⟨a, ha, h0⟩
theorem flat_take (ls : List (List UInt8)) (i : Nat) (hi : i < ls.length) : (ls.take (i + 1)).flatten = (ls.take i).flatten ++ ls.getD i [] := by
 rw [List.take_succ_eq_append_getElem hi, List.flatten_append, List.getD_eq_getElem?_getD, List.getElem?_eq_getElem hi]
 simp
theorem flat_le (ls : List (List UInt8)) (i : Nat) : (ls.take i).flatten.length ≤ ls.flatten.length := by
 have h : ls.flatten = (ls.take i).flatten ++ (ls.drop i).flatten := by rw [← List.flatten_append, List.take_append_drop]
 rw [h, List.length_append]
 omega
theorem concat_any (vs : List SlT) (ls : List (List UInt8)) (v : Value) (w : World) (hv : RdE SlK w.heap.size w v vs) (he : vs.length = ls.length)
 (hr : ∀ j, j < ls.length → Rd w.heap.size w (slv (vs.getD j sl0)) (ls.getD j [])) (hl : ls.flatten.length ≤ 10000000) (hn : ls.length ≤ 100) :
 Calls Tryz.prog 65 #[v] w (Gives w.heap.size ls.flatten w) := by
 obtain ⟨i0, hI, hz0, hz1, hz2⟩ := info_parts info5
 obtain ⟨A, c, rfl, hc, hm⟩ := hv.shape
 obtain ⟨n, hn2⟩ : ∃ n, ls.length = n := ⟨_, rfl⟩
 rw [he, hn2] at hv hc ⊢
 rw [hn2] at hr hn
 have HV := lhd hv
 have HR := lhd hr
 have HN := lhd hn2
 have HE : Hid (vs.length = n) := he.trans hn2
 obtain ⟨T, hT⟩ : ∃ T, ls.flatten.length = T := ⟨_, rfl⟩
 rw [hT] at hl
 have HT := lhd hT
 unfold maxLen at hm
 clear hv hr hn2 hT he
 go_enter Tryz.func65, Tryz.ntmps65
 go_wp2
 go_loopw [3, 11] (fun s x wr => ∃ (i m : Nat), i ≤ n ∧ x = .int .i64 (i : Int) ∧ s = .int .i64 (m : Int) ∧ Hid (m = (ls.take i).flatten.length) ∧ Hid (m ≤ T) ∧ Hid (Below w.heap.size w wr)) (fun _ x _ => n - (intOf x).toNat)
 case atStart => exact ⟨0, 0, by omega, rfl, rfl, rfl, Nat.zero_le _, Below.refl _ _⟩
 case round =>
  obtain ⟨i, m, hi, rfl, rfl, HM, HMT, HB⟩ := hrel
  have hsz := HB.out.size
  by_cases hi2 : i < n
  ·have zi : (i : Int) < (n : Int) := by omega
   obtain ⟨a, hA, c0⟩ := (HV.out.below HB.out).atSl i (by rw [HE.out]; exact hi2)
   subst hA
   obtain ⟨A9, c9, hs9, hc9, hm9⟩ := (HR.out i hi2).shape
   obtain ⟨k9, hk9⟩ : ∃ k, (ls.getD i []).length = k := ⟨_, rfl⟩
   rw [hs9, hk9] at c0
   have h1 : m + k9 = (ls.take (i + 1)).flatten.length := by
    rw [flat_take ls i (by rw [HN.out]; exact hi2), List.length_append, hk9, HM.out]
   have h2 : m + k9 ≤ T := by rw [h1, ← HT.out]; exact flat_le ls (i + 1)
   have H1 := lhd h1
   have hp : (0 : Int) ≤ (m : Int) + (k9 : Int) := by omega
   have hp2 : ¬ ((m : Int) + (k9 : Int) < 0) := by omega
   clear hs9 hc9 hm9 hk9 h1 HM
   go_wp2
   go_roundw
   case rel => exact ⟨i + 1, m + k9, by omega, by go_num, by go_num, H1, h2, HB⟩
   case measure => first | (simp [intOf]; done) | (simp [intOf]; omega)
  ·obtain rfl : i = n := by omega
   have hmT := HMT.out
   have hm0 : (0 : Int) ≤ (m : Int) := by omega
   go_wp2_with fail
   refine (grow_nil m wr (by omega)).mono ?_
   rintro e w3 ⟨v3, rfl, hown3, hb3⟩
   have HO3 : Hid (Own 5 w3 w.heap.size v3 []) := hown3.base hsz
   have HB3 : Hid (Below w.heap.size w w3) := HB.out.trans (hb3.mono hsz)
   clear hown3 hb3 HB HM
   go_wp2
   go_loopw [6, 27] (fun o x wq => ∃ (j : Nat), j ≤ i ∧ x = .int .i64 (j : Int) ∧ Hid (Own 5 wq w.heap.size o (ls.take j).flatten) ∧ Hid (Below w.heap.size w wq)) (fun _ x _ => i - (intOf x).toNat)
   case atStart => exact ⟨0, by omega, rfl, HO3, HB3⟩
   case round =>
    obtain ⟨j, hj, rfl, HO, HB⟩ := hrel
    have hsq := HB.out.size
    by_cases hj2 : j < i
    ·have zj : (j : Int) < (i : Int) := by omega
     obtain ⟨a, hA, c0⟩ := (HV.out.below HB.out).atSl j (by rw [HE.out]; exact hj2)
     subst hA
     have HR9 := lhd ((HR.out j hj2).below HB.out)
     have h2 : (ls.take j).flatten.length + (ls.getD j []).length ≤ T := by
      rw [← List.length_append, ← flat_take ls j (by rw [HN.out]; exact hj2), ← HT.out]
      exact flat_le ls (j + 1)
     have H2 := lhd h2
     have HF := lhd (flat_take ls j (by rw [HN.out]; exact hj2))
     obtain ⟨A9, c9, hs9, hc9, hm9⟩ := (HR.out j hj2).shape
     obtain ⟨l9, hl9⟩ : ∃ k, ls.getD j [] = k := ⟨_, rfl⟩
     rw [hs9] at c0 HR9
     rw [hl9] at HR9 H2 HF c0
     clear hs9 hc9 hm9 hl9 h2
     go_wp2_with (at_builtin; refine wpList_app rfl _ _ 92 rfl 5 i0 Tryz.underlying92 hI hz0 hz1 hz2 w.heap.size w.heap.size _ _ (ls.take j).flatten l9 rfl HO.out rfl HR9.out ?c1 hsq ?_)
     case c1 => have := H2.out; omega
     intro v' w5 h5 hb5
     have HO5 : Hid (Own 5 w5 w.heap.size v' (ls.take (j + 1)).flatten) := by
      show Own _ _ _ _ _
      rw [HF.out]
      exact h5
     have HB5 := lhd (HB.out.trans hb5)
     clear h5 hb5
     go_wp2
     go_roundw
     case rel => exact ⟨j + 1, by omega, by go_num, HO5, HB5⟩
     case measure => first | (simp [intOf]; done) | (simp [intOf]; omega)
    ·obtain rfl : j = i := by omega
     go_wp2
     go_ret
     refine ⟨_, rfl, ?_, HB.out⟩
     have h := HO.out
     rw [← HN.out, List.take_length] at h
     exact h
theorem numbers_any (v : Value) (ns : List Int) (w : World) (hv : RdE InK w.heap.size w v ns) (hf : ∀ n ∈ ns, fit64 n) (hn : ns.length ≤ 100) :
 Calls Tryz.prog 66 #[v] w (Gives w.heap.size (encIs ns) w) := by
 obtain ⟨A, c, rfl, hc, hm⟩ := hv.shape
 obtain ⟨n, hn2⟩ : ∃ n, ns.length = n := ⟨_, rfl⟩
 rw [hn2] at hv hc hn ⊢
 have HV := lhd hv
 have HF := lhd hf
 have HN := lhd hn2
 unfold maxLen at hm
 clear hv hf hn2
 go_enter Tryz.func66, Tryz.ntmps66
 go_wp2
 go_loopw [3, 8] (fun o x wr => ∃ (i : Nat), i ≤ n ∧ x = .int .i64 (i : Int) ∧ Hid (Own 5 wr w.heap.size o (encIs (ns.take i))) ∧ Hid (Below w.heap.size w wr)) (fun _ x _ => n - (intOf x).toNat)
 case atStart => exact ⟨0, by omega, rfl, Own.nil _ _ _, Below.refl _ _⟩
 case round =>
  obtain ⟨i, hi, rfl, HO, HB⟩ := hrel
  have hsz := HB.out.size
  by_cases hi2 : i < n
  ·have zi : (i : Int) < (n : Int) := by omega
   obtain ⟨a, hA, c0⟩ := (HV.out.below HB.out).at1 i (by rw [HN.out]; exact hi2)
   subst hA
   have hlt : i < ns.length := by rw [HN.out]; exact hi2
   obtain ⟨n9, hn9⟩ : ∃ x, ns.getD i 0 = x := ⟨_, rfl⟩
   have HT := lhd (encIs_take ns i hlt)
   have HF9 : Hid (fit64 n9) := by
    show fit64 _
    rw [← hn9, List.getD_eq_getElem?_getD, List.getElem?_eq_getElem hlt]
    exact HF.out _ (List.getElem_mem _)
   rw [hn9] at c0 HT
   have HLL : Hid ((encIs (ns.take i)).length ≤ 900) := by
    show _ ≤ _
    have h1 := encIs_len (ns.take i)
    have h2 := List.length_take_le i ns
    omega
   clear hn9
   go_wp2_with fail
   refine (int_any u3 (encIs (ns.take i)) n9 wr HO.out.rd HF9.out.1 HF9.out.2 (by have := HLL.out; omega)).mono ?_
   rintro e w3 ⟨v3, rfl, hown, hb⟩
   have HO3 : Hid (Own 5 w3 w.heap.size v3 (encIs (ns.take (i + 1)))) := by
    show Own _ _ _ _ _
    rw [HT.out]
    exact hown.base hsz
   have HB3 := lhd (HB.out.trans (hb.mono hsz))
   clear hown hb
   go_wp2
   go_roundw
   case rel => exact ⟨i + 1, by omega, by go_num, HO3, HB3⟩
   case measure => first | (simp [intOf]; done) | (simp [intOf]; omega)
  ·obtain rfl : i = n := by omega
   go_wp2
   go_ret
   refine ⟨_, rfl, ?_, HB.out⟩
   have h := HO.out
   rw [← HN.out, List.take_length] at h
   exact h
end Go.Proofs.YtgfobinklijkpaaGreatDoor
