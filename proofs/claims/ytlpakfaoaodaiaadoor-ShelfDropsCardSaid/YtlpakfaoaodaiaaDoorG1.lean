/-
  The program's shelves: the first node of which a function says yes; a node's place. Each theorem states its own conditions.
-/
import Derived.Test.YtlpakfaoaodaiaaDoorH3
import Derived.Shelf.Abstract
namespace Go.Proofs.YtlpakfaoaodaiaaDoor
open Go.RowKit

/-- A value of one cell is boxed. -/
theorem wpList_box_one {P : Program} {w : World} {ops : Array Oper} {rest : List Oper} {o : Oper} {a : Act} {Q : Exit → Act → World → Prop} (hg : o.guard = none) (t : TypeId) (x : Operand) (ho : o.op = .box t x) (v : Value) (hx : a.eval x = v) (hv : v.cells = #[v])
    (h : ∀ w1, Blk w1 w.heap.size [v] t → w1.heap.size = w.heap.size + 1 → Below w.heap.size w w1 → wpList P ops Q rest (a.put o.dst (.pointer (some ⟨w.heap.size, 0, none⟩))) w1) : wpList P ops Q (o :: rest) a w := by
  refine wpList_plain hg fun K hK => ?_
  unfold Oper.wp execOp
  simp only [ho, hx, hv, Sem.run_bind, Instr.box, newVar, newRow, run_newObj_alloc, Sem.run_pure, Result.andThen_ok]
  exact hK _ _ (h _ (heap_alloc_new w _) (by simp) ((Below.refl _ _).alloc (Nat.le_refl _) _))

def firstI (l : List Nd) (q : Nd → Bool) : Int := if l.findIdx q < l.length then (l.findIdx q : Int) else -1
theorem findIdx_here (q : Nd → Bool) : ∀ (l : List Nd) (i : Nat), i < l.length → q (l.getD i nd0) = true → (∀ j, j < i → q (l.getD j nd0) = false) → l.findIdx q = i
  | [], i, h, _, _ => by simp at h
  | x :: r, 0, _, h1, _ => by
    have : q x = true := by simpa using h1
    simp [List.findIdx_cons, this]
  | x :: r, i + 1, h, h1, h2 => by
    have h0 : q x = false := by simpa using h2 0 (by omega)
    rw [List.findIdx_cons, h0]
    have := findIdx_here q r i (by simpa using h) (by simpa using h1) (fun j hj => by simpa using h2 (j + 1) (by omega))
    simp [this]
theorem findIdx_none (q : Nd → Bool) : ∀ (l : List Nd), (∀ j, j < l.length → q (l.getD j nd0) = false) → l.findIdx q = l.length
  | [], _ => rfl
  | x :: r, h => by
    have h0 : q x = false := by simpa using h 0 (by simp)
    rw [List.findIdx_cons, h0]
    have := findIdx_none q r (fun j hj => by simpa using h (j + 1) (by simpa using hj))
    simp [this]
theorem firstI_here (l : List Nd) (q : Nd → Bool) (i : Nat) (hi : i < l.length) (h : q (l.getD i nd0) = true) (hf : ∀ j, j < i → q (l.getD j nd0) = false) : firstI l q = (i : Int) := by
  unfold firstI
  rw [findIdx_here q l i hi h hf, if_pos hi]
theorem firstI_none (l : List Nd) (q : Nd → Bool) (h : ∀ j, j < l.length → q (l.getD j nd0) = false) : firstI l q = -1 := by
  unfold firstI
  rw [findIdx_none q l h, if_neg (by omega)]
theorem firstI_or (l : List Nd) (q : Nd → Bool) : (l.any q = true ∧ ∃ k : Nat, firstI l q = (k : Int) ∧ k < l.length) ∨ (l.any q = false ∧ firstI l q = -1) := by
  unfold firstI
  by_cases h : l.findIdx q < l.length
  · left
    rw [if_pos h]
    refine ⟨?_, _, rfl, h⟩
    rw [List.any_eq_true]
    exact ⟨l[l.findIdx q], List.getElem_mem _, List.findIdx_getElem (w := h)⟩
  · right
    rw [if_neg h]
    refine ⟨?_, rfl⟩
    have h2 : l.findIdx q = l.length := Nat.le_antisymm List.findIdx_le_length (by omega)
    rw [List.findIdx_eq_length] at h2
    rw [List.any_eq_false]
    intro x hx
    rw [h2 x hx]
    simp
theorem placeN_find (p : List UInt8) : ∀ l : List Nd, placeN l p = l.findIdx fun x => nP x == p
  | [] => rfl
  | x :: r => by
    unfold placeN
    rw [List.findIdx_cons]
    by_cases h : nP x = p
    · rw [if_pos h]; simp [h]
    · rw [if_neg h, placeN_find p r]
      have : (nP x == p) = false := by simpa using h
      rw [this]; rfl
theorem firstI_at (l : List Nd) (p : List UInt8) : firstI l (fun x => nP x == p) = atI l p := by
  unfold firstI atI hasN
  rw [placeN_find p l]
  by_cases h : (l.findIdx fun x => nP x == p) < l.length
  · rw [if_pos h, if_pos (by simpa using h)]
  · rw [if_neg h, if_neg (by simpa using h)]

set_option maxRecDepth 100000 in
set_option maxHeartbeats 2000000 in
/-- slices.IndexFunc over nodes, whatever function is asked. -/
theorem ixFunc_any (l : List Nd) (v : Value) (f : Nat) (lb : Array Value) (q : Nd → Bool) (w : World) (hr : RdNd w.heap.size w v l) (ef : ∀ args w, (callFunc f args).run Tryd.prog w = .ok (.enter f args) w)
    (hp : ∀ x W, Below w.heap.size w W → Calls Tryd.prog f (#[ndv x] ++ lb) W (One (.bool (q x)) W)) :
    Calls Tryd.prog 71 #[v, .func (.func f) #[] lb] w (One (.int .i64 (firstI l q)) w) := by
  obtain ⟨A, cp, rfl, hc, hm⟩ := hr.shape
  unfold maxLen at hm
  obtain ⟨n, hn⟩ : ∃ n, l.length = n := ⟨_, rfl⟩
  have HN := Lib.hid hn
  have HR := Lib.hid hr
  have HP := Lib.hid hp
  rw [hn] at hc HR ⊢
  clear hr hn hp
  obtain ⟨g, hg⟩ : ∃ g, w.heap.size = g := ⟨_, rfl⟩
  have HG := Lib.hid hg
  go_enter Tryd.func71, Tryd.ntmps71
  go_wp2
  go_loopw [5, 8] (fun o x wr => ∃ i : Nat, i ≤ n ∧ x = .int .i64 (i : Int) ∧ Hid (∀ j, j < i → q (l.getD j nd0) = false) ∧ Hid (Below g w wr)) (fun _ x _ => n - (intOf x).toNat)
  case atStart => exact ⟨0, by omega, rfl, (fun j hj => by omega), Below.refl _ _⟩
  case round =>
    obtain ⟨i, hi, rfl, HA, HW⟩ := hrel
    by_cases hi2 : i < n
    · have zi : (i : Int) < (n : Int) := by omega
      obtain ⟨a, hA, c0, c1, c2, c3⟩ := (HR.out.below (by rw [HG.out]; exact HW.out)).at_ i (by rw [HN.out]; exact hi2)
      subst hA
      obtain ⟨x, hx⟩ : ∃ x, l.getD i nd0 = x := ⟨_, rfl⟩
      rw [hx] at c0 c1 c2 c3
      have HX := Lib.hid hx
      clear hx
      go_wp2_with fail
      refine (HP.out x wr (by rw [HG.out]; exact HW.out)).mono ?_
      rintro e w2 ⟨rfl, hb⟩
      have hsz := HW.out.size
      have HW2 := Lib.hid (HW.out.trans (hb.mono (by rw [HG.out] at hsz; omega)))
      clear hb c0 c1 c2 c3
      cases hq : q x
      · have HA2 : Hid (∀ j, j < i + 1 → q (l.getD j nd0) = false) := by
          intro j hj
          by_cases h : j < i
          · exact HA.out j h
          · have : j = i := by omega
            subst this
            rw [HX.out]; exact hq
        clear hq
        go_wp2
        go_roundw
        case rel => exact ⟨i + 1, by omega, by go_num, HA2, HW2⟩
        case measure => simp [intOf]; omega
      · have HE := Lib.hid (firstI_here l q i (by rw [HN.out]; exact hi2) (by rw [HX.out]; exact hq) HA.out)
        clear hq
        go_wp2
        go_ret
        exact ⟨by rw [HE.out]; rfl, by rw [HG.out]; exact HW2.out⟩
    · have hE : i = n := by omega
      subst hE
      have HE := Lib.hid (firstI_none l q (by rw [HN.out]; exact HA.out))
      go_wp2
      go_ret
      exact ⟨by rw [HE.out]; rfl, by rw [HG.out]; exact HW.out⟩

set_option maxRecDepth 100000 in
set_option maxHeartbeats 2000000 in
/-- slices.ContainsFunc over nodes. -/
theorem anyFunc_any (l : List Nd) (v : Value) (f : Nat) (lb : Array Value) (q : Nd → Bool) (w : World) (hr : RdNd w.heap.size w v l) (ef : ∀ args w, (callFunc f args).run Tryd.prog w = .ok (.enter f args) w)
    (hp : ∀ x W, Below w.heap.size w W → Calls Tryd.prog f (#[ndv x] ++ lb) W (One (.bool (q x)) W)) :
    Calls Tryd.prog 51 #[v, .func (.func f) #[] lb] w (One (.bool (l.any q)) w) := by
  have HC := Lib.hid (ixFunc_any l v f lb q w hr ef hp)
  clear hr hp ef
  go_enter Tryd.func51, Tryd.ntmps51
  go_wp2_with fail
  refine HC.out.mono ?_
  rintro e w1 ⟨rfl, hb⟩
  have HB := Lib.hid hb
  clear hb
  rcases firstI_or l q with ⟨h1, k, h2, _⟩ | ⟨h1, h2⟩
  · have HF := Lib.hid h1
    rw [h2]
    have h3 : (0 : Int) ≤ (k : Int) := by omega
    clear h1 h2
    go_wp2
    go_ret
    exact ⟨by rw [HF.out]; rfl, HB.out⟩
  · have HF := Lib.hid h1
    rw [h2]
    clear h1 h2
    go_wp2
    go_ret
    exact ⟨by rw [HF.out]; rfl, HB.out⟩

set_option maxRecDepth 100000 in
set_option maxHeartbeats 2000000 in
/-- The function that asks for a path; the path lies in block g. -/
theorem ixFn_any (x : Nd) (p : List UInt8) (g : Nat) (w : World) (hg : g < w.heap.size) (hc : w.cell? ⟨g, 0, none⟩ = some (txt p)) : Calls Tryd.prog 72 #[ndv x, .pointer (some ⟨g, 0, none⟩)] w (One (.bool (nP x == p)) w) := by
  obtain ⟨a, b, c, d⟩ := x
  show Calls Tryd.prog _ #[.agg #[txt a, txt b, .int .i64 c, .int .i64 d], _] w (One (.bool (a == p)) w)
  go_enter Tryd.func72, Tryd.ntmps72
  go_wp2_with (refine wpList_box_blk rfl 53 _ rfl [txt a, txt b, .int .i64 c, .int .i64 d] rfl ?_)
  intro w1 b1 b2 b3
  have HB := Lib.hid b3
  have c0 := b1.cell 0
  have c1 : w1.cell? ⟨g, 0, none⟩ = some (txt p) := (b3.cell hg).trans hc
  obtain ⟨k, hk⟩ : ∃ k, w.heap.size = k := ⟨_, rfl⟩
  rw [hk] at c0 ⊢
  clear b1 b2 b3 hk hc hg
  obtain ⟨B, hB⟩ : ∃ B, (a == p) = B := ⟨_, rfl⟩
  have HF := Lib.hid hB
  go_wp2
  go_ret
  exact ⟨by rw [HF.out]; rfl, HB.out⟩

set_option maxRecDepth 100000 in
set_option maxHeartbeats 2000000 in
theorem shIndex_any (l : List Nd) (p : List UInt8) (v : Value) (w : World) (hr : RdNd w.heap.size w v l) : Calls Tryd.prog 49 #[v, txt p] w (One (.int .i64 (atI l p)) w) := by
  have hmf : ∀ (fn : Fn) (first cap : Array Value) (w : World), (Instr.makeFunc fn first cap).run Tryd.prog w = .ok (.func fn first cap) w := fun _ _ _ _ => rfl
  have ef : ∀ args w, (callFunc 72 args).run Tryd.prog w = .ok (.enter 72 args) w := fun args w => enters_of Tryd.func72 (by kernel_rfl) rfl args w
  have HR := Lib.hid hr
  have HE := Lib.hid ef
  clear hr ef
  go_enter Tryd.func49, Tryd.ntmps49
  go_wp2_with (refine wpList_box_one rfl 9 _ rfl (txt p) rfl rfl ?_)
  intro w1 b1 b2 b3
  have HB := Lib.hid b3
  have c0 := Lib.hid (b1.cell 0)
  have hk1 : w.heap.size < w1.heap.size := by omega
  have HR1 := Lib.hid ((HR.out.below b3).more (show w.heap.size ≤ w1.heap.size by omega))
  obtain ⟨k, hk⟩ : ∃ k, w.heap.size = k := ⟨_, rfl⟩
  have HK := Lib.hid hk
  rw [hk] at c0 hk1 ⊢
  clear b1 b2 b3 hk HR
  go_wp2_with fail
  refine (ixFunc_any l v 72 #[.pointer (some ⟨k, 0, none⟩)] (fun x => nP x == p) w1 HR1.out HE.out (fun x W hW => ixFn_any x p k W (Nat.lt_of_lt_of_le hk1 hW.size) ((hW.cell hk1).trans c0.out))).mono ?_
  rintro e w2 ⟨rfl, hb⟩
  have HB2 := Lib.hid (HB.out.trans (hb.mono (by rw [HK.out]; omega)))
  clear hb
  rw [firstI_at]
  go_wp2
  go_ret
  exact ⟨rfl, by rw [HK.out] at *; exact HB2.out⟩
end Go.Proofs.YtlpakfaoaodaiaaDoor
