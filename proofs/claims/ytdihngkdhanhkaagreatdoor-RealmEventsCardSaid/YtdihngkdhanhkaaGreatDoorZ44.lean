/-
  Texts KA GQ GR KB KC NU.
-/
import Derived.Test.YtdihngkdhanhkaaGreatDoorZ10
import Derived.Test.YtdihngkdhanhkaaGreatDoorZ17
import Derived.Test.YtdihngkdhanhkaaGreatDoorZ19
import Derived.Test.YtdihngkdhanhkaaGreatDoorZ23
import Derived.Test.YtdihngkdhanhkaaGreatDoorZ25
import Derived.Test.YtdihngkdhanhkaaGreatDoorZ28
import Derived.Test.YtdihngkdhanhkaaGreatDoorZ29
import Derived.Test.YtdihngkdhanhkaaGreatDoorZ42
import Derived.Test.YtdihngkdhanhkaaGreatDoorZ43
namespace Go.Proofs.YtdihngkdhanhkaaGreatDoor
open Go.RowKit

/-- Not too many events. -/
theorem few_ev (r : Rm) (o : Or) (h : RightR r) : (applyR r o).2.2.length ≤ 300 := by
  have h4 := (right_done r o h).2.2.1.few
  have h5 := fire_len (mW (doneR r o).1) (doneR r o).2.2
  have h6 : (takenR r o).2.2.length ≤ 300 := by
    show (fireW (mW (doneR r o).1) (doneR r o).2.2).length ≤ 300
    omega
  obtain ⟨q, hq⟩ : ∃ q, takenR r o = q := ⟨_, rfl⟩
  unfold applyR
  rw [hq] at h6 ⊢
  split
  · exact Nat.zero_le _
  split
  · exact Nat.zero_le _
  split
  · exact Nat.zero_le _
  split
  · exact Nat.zero_le _
  · exact h6
theorem names_fold (l : List Or) : ∀ r : Rm, RightR r → NamesR (mL r) → NamesR (mL (foldR r l).1) := by
  induction l with
  | nil => exact fun _ _ h => h
  | cons o l ih => exact fun r h hn => ih _ (right_apply r o h) (names_apply r o h hn).1
theorem take_or (l : List Or) (i : Nat) (hi : i < l.length) : l.take (i + 1) = l.take i ++ [l.getD i or0] := by
  rw [List.take_add_one, List.getElem?_eq_getElem hi, List.getD_eq_getElem?_getD, List.getElem?_eq_getElem hi]
  rfl
theorem fold_snoc (r : Rm) (l : List Or) (i : Nat) (hi : i < l.length) : foldR r (l.take (i + 1)) = ((applyR (foldR r (l.take i)).1 (l.getD i or0)).1, (foldR r (l.take i)).2.1 ++ [(applyR (foldR r (l.take i)).1 (l.getD i or0)).2.1], (foldR r (l.take i)).2.2 ++ (applyR (foldR r (l.take i)).1 (l.getD i or0)).2.2) := by
  rw [take_or l i hi, foldR_append, foldR_one]
/-- A row that is not of the other one's block. -/
def NeV (v u : Value) : Prop := ∀ a n c, v = .slice (some a) n c → 0 < n → u.ownBlock ≠ some a.block
/-- Beside a row of one's own that grew, or was written to. -/
theorem GoE.grew {α : Type} {E : RowK α} {e : TypeId} {b : Nat} {w w' : World} {u v : Value} {l : List α} (h : GoE E e b w v l) (hb : Below b w w') (hw : b ≤ w.heap.size) (hg : w.grownBy w' u.ownBlock) (hne : NeV v u) : GoE E e b w' v l := by
  have hz := hb.size
  rcases Nat.eq_zero_or_pos l.length with h0 | h0
  · have hl := List.eq_nil_of_length_eq_zero h0
    subst hl
    obtain ⟨A, c, rfl, hc, hm, hn, _⟩ := h.1
    refine ⟨⟨A, c, rfl, hc, hm, hn, fun a ha => ⟨fun h1 => absurd h1 (by simp), fun j u hu => by simp [rowsE] at hu⟩⟩, .inl fun a n c' e h1 => ?_⟩
    injection e with _ e2 _
    simp at e2
    omega
  · obtain ⟨A, c, hv, _, _, hn, _⟩ := h.1
    subst hv
    cases A with
    | none => have := hn rfl; omega
    | some a =>
      have hna : u.ownBlock ≠ some a.block := hne a _ _ rfl h0
      rcases h.2 with h2 | h2
      · exact ⟨h.1.lo_keep h2 (fun k hk => hb.block k hk) (by omega), .inl h2⟩
      · have h3 : OwnE E e w' b (.slice (some a) l.length c) l := ownsRow_at h2 (fun g hg2 => by
          have hlt := (World.ownsRow.lt h2 g hg2).2
          refine hg.block g hlt fun e2 => ?_
          have : g = a.block := by
            injection hg2 with hg2
            exact hg2.symm
          subst this
          exact hna e2.symm)
        exact ⟨h3.rd, .inr h3⟩
theorem OwnRps.below {e es : TypeId} {b : Nat} {w w' : World} {v : Value} {l : List Rp} (h : OwnRps e es b w v l) (hb : Below w.heap.size w w') : OwnRps e es b w' v l := by
  obtain ⟨ss, h1, h2, h3⟩ := h
  exact ⟨ss, h1, h2.below hb (Nat.le_refl _), fun j hj => (h3 j hj).below hb (Nat.le_refl _)⟩
theorem OwnRps.keep {T : TypeId → Prop} {e es : TypeId} {b d : Nat} {w w' : World} {v : Value} {l : List Rp} (h : OwnRps e es b w v l) (hk : Keep T d w w') (hT : ¬ T e) (hS : ¬ T es) : OwnRps e es b w' v l := by
  obtain ⟨ss, h1, h2, h3⟩ := h
  exact ⟨ss, h1, h2.keep hk hT, fun j hj => (h3 j hj).keep hk hS⟩
theorem GoRp.grew {e es : TypeId} {T : TypeId → Prop} {b : Nat} {w w' : World} {u v : Value} {l : List Rp} (h : GoRp e es b w v l) (hb : Below b w w') (hw : b ≤ w.heap.size) (hg : w.grownBy w' u.ownBlock) (hne : NeV v u) (hk : Keep T b w w') (hS : ¬ T es) : GoRp e es b w' v l := by
  obtain ⟨ss, h1, h2, h3⟩ := h
  exact ⟨ss, h1, h2.grew hb hw hg hne, fun j hj => (h3 j hj).keep hk hS (Nat.le_refl _)⟩
/-- What is carried from world to world. -/
structure FoldF (y : Rm × List Rp × List Ev) (B : Nat) (w : World) (vN vS vW vL vR vE : Value) : Prop where
  n : GoE NdK 91 B w vN (mN y.1)
  s : GoE SeK 105 B w vS (mS y.1)
  t : GoE WaK 94 B w vW (mW y.1)
  l : GoRp 57 9 B w vL (mL y.1)
  r : OwnRps 57 9 B w vR y.2.1
  e : OwnE EvK 98 w B vE y.2.2
  ne : NeV vL vR
theorem FoldF.below {y : Rm × List Rp × List Ev} {B : Nat} {w w' : World} {vN vS vW vL vR vE : Value} (h : FoldF y B w vN vS vW vL vR vE) (hb : Below w.heap.size w w') (hs : B ≤ w.heap.size) : FoldF y B w' vN vS vW vL vR vE :=
  ⟨h.n.below hb hs, h.s.below hb hs, h.t.below hb hs, h.l.below hb hs, h.r.below hb, h.e.below hb (Nat.le_refl _), h.ne⟩
theorem FoldF.keep {T : TypeId → Prop} {y : Rm × List Rp × List Ev} {B : Nat} {w w' : World} {vN vS vW vL vR vE : Value} (h : FoldF y B w vN vS vW vL vR vE) (hk : Keep T B w w') (h1 : ¬ T 91) (h2 : ¬ T 105) (h3 : ¬ T 94) (h4 : ¬ T 57) (h5 : ¬ T 9) (h6 : ¬ T 98) : FoldF y B w' vN vS vW vL vR vE :=
  ⟨h.n.keep hk h1 (Nat.le_refl _), h.s.keep hk h2 (Nat.le_refl _), h.t.keep hk h3 (Nat.le_refl _), h.l.keep hk h4 h5 (Nat.le_refl _), h.r.keep hk h4 h5, h.e.keep hk h6, h.ne⟩
/-- After a request: the realm, and what was there before. -/
theorem FoldF.step {y z : Rm × List Rp × List Ev} {B : Nat} {w w' : World} {vN vS vW vL vR vE uN uS uW uL : Value} (h : FoldF y B w vN vS vW vL vR vE) (hs : B ≤ w.heap.size) (hb : Below w.heap.size w w') (h1 : GoE NdK 91 B w' uN (mN z.1)) (h2 : GoE SeK 105 B w' uS (mS z.1)) (h3 : GoE WaK 94 B w' uW (mW z.1)) (h4 : GoRp 57 9 B w' uL (mL z.1)) (h5 : uL = vL ∨ ∀ k, uL.ownBlock = some k → w.heap.size ≤ k) (h6 : z.2 = y.2) : FoldF z B w' uN uS uW uL vR vE := by
  have h' := h.below hb hs
  refine ⟨h1, h2, h3, h4, by rw [h6]; exact h'.r, by rw [h6]; exact h'.e, ?_⟩
  rcases h5 with rfl | h5
  · exact h.ne
  · intro a n c hv hn he
    subst hv
    have h7 := h5 a.block (by rfl)
    obtain ⟨ss, _, h8, _⟩ := h.r
    have h9 := (World.ownsRow.lt h8 _ he).2
    omega
/-- One more reply. -/
theorem FoldF.more {y : Rm × List Rp × List Ev} {B : Nat} {w w' : World} {vN vS vW vL vR vE u : Value} {ss : List SlT} {x : Rp} {s : SlT} (h : FoldF y B w vN vS vW vL vR vE) (hs : B ≤ w.heap.size) (hss : ss.length = y.2.1.length) (hn : ∀ j, j < y.2.1.length → OwnE StK 9 w B (slv (ss.getD j sl0)) (pN (y.2.1.getD j rp0)))
    (hv : OwnE RvK 57 w B vR (rvs y.2.1 ss)) (hx : OwnE StK 9 w B (slv s) (pN x)) (ho : OwnE RvK 57 w' B u (rvs y.2.1 ss ++ [rpv x s])) (hb : Below B w w') (hg : w.grownBy w' vR.ownBlock) (hu : u.ownBlock = vR.ownBlock ∨ ∃ k, u.ownBlock = some k ∧ w.heap.size ≤ k) :
    FoldF (y.1, y.2.1 ++ [x], y.2.2) B w' vN vS vW vL u vE ∧ Keep (fun e => e = 57) B w w' := by
  have hk : Keep (fun e => e = 57) B w w' := Keep.grown hv rfl hs hb hg
  have hq : rvs y.2.1 ss ++ [rpv x s] = rvs (y.2.1 ++ [x]) (ss ++ [s]) := by
    rw [rvs_append hss]
    rfl
  refine ⟨⟨h.n.keep hk (by decide) (Nat.le_refl _), h.s.keep hk (by decide) (Nat.le_refl _), h.t.keep hk (by decide) (Nat.le_refl _), h.l.grew hb hs hg h.ne hk (by decide), ⟨ss ++ [s], by simp [hss], by rw [← hq]; exact ho, fun j hj => ?_⟩, h.e.keep hk (by decide), ?_⟩, hk⟩
  · simp only [List.getD_eq_getElem?_getD]
    by_cases hj2 : j < y.2.1.length
    · rw [List.getElem?_append_left (by omega), List.getElem?_append_left hj2, ← List.getD_eq_getElem?_getD, ← List.getD_eq_getElem?_getD]
      exact (hn j hj2).keep hk (by decide)
    · rw [List.length_append, List.length_singleton] at hj
      have e1 : j = y.2.1.length := by omega
      rw [List.getElem?_append_right (by omega), List.getElem?_append_right (by omega), show j - ss.length = 0 by omega, show j - y.2.1.length = 0 by omega]
      exact hx.keep hk (by decide)
  · intro a n c he hn0 hu2
    rcases hu with hu | ⟨k, hk1, hk2⟩
    · rw [hu] at hu2
      exact h.ne a n c he hn0 hu2
    · rw [hk1] at hu2
      injection hu2 with hu2
      obtain ⟨sq, _, h2, _⟩ := h.l
      obtain ⟨A, c', he2, _, _, _, h3⟩ := h2.1
      rw [he] at he2
      injection he2 with q1 q2 q3
      have := (h3 a q1.symm).1 (by omega)
      omega
/-- More events. -/
theorem FoldF.told {y : Rm × List Rp × List Ev} {B : Nat} {w w' : World} {vN vS vW vL vR vE u : Value} {m : List Ev} (h : FoldF y B w vN vS vW vL vR vE) (hs : B ≤ w.heap.size) (ho : OwnE EvK 98 w' B u (y.2.2 ++ m)) (hb : Below B w w') (hg : w.grownBy w' vE.ownBlock) :
    FoldF (y.1, y.2.1, y.2.2 ++ m) B w' vN vS vW vL vR u ∧ Keep (fun e => e = 98) B w w' := by
  have hk : Keep (fun e => e = 98) B w w' := Keep.grown h.e rfl hs hb hg
  exact ⟨⟨h.n.keep hk (by decide) (Nat.le_refl _), h.s.keep hk (by decide) (Nat.le_refl _), h.t.keep hk (by decide) (Nat.le_refl _), h.l.keep hk (by decide) (by decide) (Nat.le_refl _), h.r.keep hk (by decide) (by decide), ho, h.ne⟩, hk⟩
end Go.Proofs.YtdihngkdhanhkaaGreatDoor
namespace Go.Proofs.YtdihngkdhanhkaaGreatDoor
open Go.RowKit

end Go.Proofs.YtdihngkdhanhkaaGreatDoor
namespace Go.Proofs.YtdihngkdhanhkaaGreatDoor
open Go.RowKit
end Go.Proofs.YtdihngkdhanhkaaGreatDoor
namespace Go.Proofs.YtdihngkdhanhkaaGreatDoor
open Go.RowKit

theorem wpList_load_partG {P : Program} {w : World} {ops : Array Oper} {rest : List Oper} {o : Oper} {a : Act} {Q : Exit → Act → World → Prop} (hgd : Region.wanted o (yielded ops a.tmps) = true) (t : TypeId) (x : Operand) (ho : o.op = .load t x) (g j : Nat) (cs vs : List Value) (u : TypeId)
    (hx : a.eval x = .pointer (some ⟨g, j, none⟩)) (hb : Blk w g cs u) (hv : (cs.drop j).take vs.length = vs) {d : TypeDesc} (hu : P.underlying t = some d) (hd : d.isRow = true) (hi : (P.info? t).map (·.size) = some vs.length)
    (h : wpList P ops Q rest (a.put o.dst (.agg vs.toArray)) w) : wpList P ops Q (o :: rest) a w := by
  refine BigFrame.wpList_want hgd fun K hK => ?_
  refine wp_load_part t x ho g j cs vs u hx hb hv hu hd hi ?_
  exact hK _ _ h
theorem RdE.at_block {α : Type} {E : RowK α} {B B' : Nat} {w w' : World} {v : Value} {l : List α} (h : RdE E B w v l) (hk : ∀ a n c, v = .slice (some a) n c → w'.heap[a.block]? = w.heap[a.block]?) (hB : B ≤ B') : RdE E B' w' v l := by
  obtain ⟨A, c, rfl, hc, hm, hn, hr⟩ := h
  refine ⟨A, c, rfl, hc, hm, hn, fun a ha => ⟨fun h0 => Nat.lt_of_lt_of_le ((hr a ha).1 h0) hB, fun j u hu => ?_⟩⟩
  have hq := hk a _ _ (by rw [ha])
  rw [cell_heap (a.add j) (show w'.heap[(a.add j).block]? = w.heap[(a.add j).block]? by rw [addr_block]; exact hq)]
  exact (hr a ha).2 j u hu
theorem RdE.none_any {α : Type} {E : RowK α} {B B' : Nat} {w w' : World} {v : Value} (h : RdE E B w v []) : RdE E B' w' v [] := by
  obtain ⟨A, c, rfl, hc, hm, hn, _⟩ := h
  exact ⟨A, c, rfl, hc, hm, hn, fun a ha => ⟨fun h1 => absurd h1 (by simp), fun j u hu => by simp [rowsE] at hu⟩⟩
/-- The call answers a realm. -/
def Realm1 (r : Rm) (w : World) (e : Ending) (w' : World) : Prop := ∃ vN vS vW vL, e = .returned (.agg (rmc (mT r) vN vS vW vL).toArray) ∧ RdRm w'.heap.size w' vN vS vW vL r ∧ Below w.heap.size w w'
set_option maxRecDepth 100000 in
set_option maxHeartbeats 4000000 in
theorem rmNew_any (w : World) : Calls Tryz.prog 23 #[] w (Realm1 rm0 w) := by
  obtain ⟨dR, huR, hdR⟩ := rowRmP
  go_enter Tryz.func23, Tryz.ntmps23
  go_wp2_with (refine wpList_alloc_blk rfl 33 rfl (rmc 0 (.slice none 0 0) (.slice none 0 0) (.slice none 0 0) (.slice none 0 0)) zeroRmP ?_)
  intro w1 a1 a2 a3
  obtain ⟨B, hB⟩ : ∃ g, w.heap.size = g := ⟨_, rfl⟩
  have X := Lib.hid a1
  have HB := Lib.hid a3
  have hs1 : B + 1 ≤ w1.heap.size := by omega
  rw [hB] at X HB ⊢
  have HBB := Lib.hid hB
  clear a1 a2 a3 hB
  go_wp2_with fail
  refine (shNew_own w1).mono ?_
  rintro e w2 ⟨vN, rfl, hn, hnw, hb⟩
  have HNW : Hid (∀ a n c, vN = .slice (some a) n c → a.block ≠ B) := Lib.hid (fun a n c h => by have := hnw a n c h; omega)
  have X2 := Lib.hid (X.out.below hb X.out.lt)
  have HB2 := Lib.hid (HB.out.trans (hb.mono (by omega)))
  have HN := Lib.hid hn
  have hs2 : B + 1 ≤ w2.heap.size := Nat.le_trans hs1 hb.size
  clear hn hnw hb X HB hs1
  go_wp2_with fail
  refine (bkNew_any w2).mono ?_
  rintro e w3 ⟨vS, rfl, hn, hb⟩
  have X3 := Lib.hid (X2.out.below hb X2.out.lt)
  have HB3 := Lib.hid (HB2.out.trans (hb.mono (by omega)))
  have HN3 := Lib.hid ((HN.out.below hb).more hb.size)
  have HS3 := Lib.hid hn
  have hs3 : B + 1 ≤ w3.heap.size := Nat.le_trans hs2 hb.size
  clear hn hb X2 HB2 HN hs2
  obtain ⟨AN, cN, hv1, -, -⟩ := HN3.out.shape
  obtain ⟨AS, cS, hv2, -, -⟩ := HS3.out.shape
  subst hv1 hv2
  go_wp2_with (refine wpList_store_to rfl 33 _ _ rfl B (rmc 0 (.slice AN [rootN].length cN) (.slice AS ([] : List Se).length cS) (.slice none 0 0) (.slice none 0 0)) (rmc 0 (.slice none 0 0) (.slice none 0 0) (.slice none 0 0) (.slice none 0 0)) 33 rfl rfl X3.out szRmP rfl (rmc_all _ _ _ _ _ _ _ _ _ _ _ _ _) ?_)
  intro w4 e1 e2 e3 e4
  have V4 := Lib.hid e1
  have KR := Lib.hid (Keep.store (T := fun e => e = 33) (b := B) X3.out rfl (Nat.le_refl _) e2 e4)
  go_wp2
  refine bodyPost_ret (v := .agg (rmc 0 (.slice AN [rootN].length cN) (.slice AS ([] : List Se).length cS) (.slice none 0 0) (.slice none 0 0)).toArray) ?_ rfl ?_
  · exact ret_blkUL rfl _ _ B 33 (rmc 0 (.slice AN [rootN].length cN) (.slice AS ([] : List Se).length cS) (.slice none 0 0) (.slice none 0 0)) rfl V4.out dR huR hdR szRmP
  · have hN : RdE NdK w4.heap.size w4 (.slice AN [rootN].length cN) [rootN] := HN3.out.toE.at_block (fun a n c h => e4 _ (HNW.out a n c h)) (by omega)
    have hS : RdE SeK w4.heap.size w4 (.slice AS ([] : List Se).length cS) [] := HS3.out.none_any
    exact ⟨_, _, _, _, rfl, ⟨RdNd.ofE hN, hS, RdE.nil _ _, ⟨[], rfl, RdE.nil _ _, fun _ h => by cases h⟩⟩, by rw [HBB.out]; exact HB3.out.trans e3⟩
end Go.Proofs.YtdihngkdhanhkaaGreatDoor
namespace Go.Proofs.YtdihngkdhanhkaaGreatDoor
open Go.RowKit

theorem lastR_no : ∀ (l : List Rp) (c : Int), (lastR l c).2 = false → (lastR l c).1 = rp0
  | [], _, _ => rfl
  | x :: r, c, h => by
    unfold lastR at h ⊢
    by_cases hx : pC x = c
    · rw [if_pos hx] at h
      cases h
    · rw [if_neg hx] at h ⊢
      exact lastR_no r c h
/-- A reply and whether there is one. -/
def LastO (x : Rp × Bool) (w : World) (e : Ending) (w' : World) : Prop := ∃ nv, e = .returned (.tuple #[.agg (rpc x.1 nv).toArray, .bool x.2]) ∧ RdE StK w'.heap.size w' nv (pN x.1) ∧ Below w.heap.size w w'
set_option maxRecDepth 100000 in
set_option maxHeartbeats 8000000 in
theorem rmLast_any (r : Rm) (c : Int) (vN vS vW vL : Value) (w : World) (hr : RdRm w.heap.size w vN vS vW vL r) (hl : (mL r).length ≤ 1000) (hn : ∀ x ∈ mL r, (pN x).length ≤ 1000) (ho : AscR (mL r)) : Calls Tryz.prog 31 #[.agg (rmc (mT r) vN vS vW vL).toArray, .int .i64 c] w (LastO (lastR (mL r) c) w) := by
  obtain ⟨ss, hss, hsv, hsn⟩ := hr.l
  obtain ⟨AL, cL, hvL, -, -⟩ := hsv.shape
  rw [rvs_len hss] at hvL
  obtain ⟨nL, hnL⟩ : ∃ q, (mL r).length = q := ⟨_, rfl⟩
  rw [hnL] at hvL
  have HNL := Lib.hid hnL
  subst hvL
  have HSS := Lib.hid hss
  have HSV := Lib.hid hsv
  have HSN := Lib.hid hsn
  have HL := Lib.hid hl
  have HNM := Lib.hid hn
  have HA := Lib.hid ho
  clear hss hsv hsn hl hn ho hnL hr
  obtain ⟨dP, huP, hdP⟩ := rowRpT
  go_enter Tryz.func31, Tryz.ntmps31
  go_wp2_with (refine wpList_box_blk rfl 33 _ rfl (rmc (mT r) vN vS vW (.slice AL nL cL)) rfl ?_)
  intro w1 b1 b2 b3
  go_wp2_with (refine wpList_alloc_blk rfl 57 rfl (rpc rp0 (.slice none 0 0)) zeroRpT ?_)
  intro w2 e1 e2 e3
  obtain ⟨B, hB⟩ : ∃ g, w.heap.size = g := ⟨_, rfl⟩
  obtain ⟨g4, hg4⟩ : ∃ g, w.heap.size + 1 = g := ⟨_, rfl⟩
  have X := Lib.hid (b1.below e3 (by omega))
  have X4 := Lib.hid e1
  have HB := Lib.hid (b3.trans (e3.mono (by omega)))
  have hs2 : B ≤ w2.heap.size := by omega
  have hB4 : B ≤ g4 := by omega
  rw [hg4] at X4 ⊢
  rw [hB] at X HB HSV HSN ⊢
  have HBB := Lib.hid hB
  clear b1 b2 b3 e1 e2 e3 hB hg4
  have c4 := X.out.at_ 4 _ rfl
  go_wp2_with fail
  refine (rpFind_any (mL r) ss HSS.out c (.slice AL nL cL) w2 ((HSV.out.below HB.out).more hs2) HL.out HA.out).mono ?_
  rintro e w3 ⟨rfl, hb⟩
  have X3 := Lib.hid (X.out.below hb X.out.lt)
  have X43 := Lib.hid (X4.out.below hb X4.out.lt)
  have HB3 := Lib.hid (HB.out.trans (hb.mono hs2))
  have hs3 : B ≤ w3.heap.size := Nat.le_trans hs2 hb.size
  have hat : Hid ((lastR (mL r) c).2 = true → posR (mL r) c < nL ∧ (mL r).getD (posR (mL r) c) rp0 = (lastR (mL r) c).1) := by
    show _ → _
    intro h
    have h1 := lastR_is (mL r) c HA.out
    have h2 := lastR_pos (mL r) c HA.out
    rw [h] at h1
    have h3 := h1.symm
    rw [Bool.and_eq_true, decide_eq_true_eq, decide_eq_true_eq] at h3
    refine ⟨by rw [← HNL.out]; exact h3.1, ?_⟩
    rw [h2, if_pos h3]
  have hno : Hid ((lastR (mL r) c).2 = false → (lastR (mL r) c).1 = rp0) := Lib.hid (lastR_no _ _)
  obtain ⟨y, hy⟩ : ∃ q, lastR (mL r) c = q := ⟨_, rfl⟩
  obtain ⟨p, hp⟩ : ∃ q, posR (mL r) c = q := ⟨_, rfl⟩
  rw [hy] at hat hno ⊢
  rw [hp] at hat ⊢
  have hmem : Hid (y.2 = true → y.1 ∈ mL r) := by
    show _ → _
    intro h
    rw [← hy] at h ⊢
    exact (lastR_mem _ _ h).1
  have HY := Lib.hid hy
  clear c4 X X4 HB hs2 hb hy hp
  obtain ⟨x, f⟩ := y
  cases f with
  | false =>
    obtain rfl : x = rp0 := hno.out rfl
    have hex : rpc rp0 (.slice none 0 0) = [.int .i64 0, .int .i64 0, .int .i64 0, txt [], .int .i64 0, .slice none 0 0] := rfl
    go_wp2_with (refine wpList_store_to rfl 57 _ _ rfl g4 (rpc rp0 (.slice none 0 0)) (rpc rp0 (.slice none 0 0)) 57 rfl rfl X43.out szRpT rfl (rpc_allM _ _ _ _) ?_)
    intro w4 e1 e2 e3 e4
    have V4 := Lib.hid e1
    have HB4 := Lib.hid (HB3.out.trans (e3.mono hB4))
    clear e1 e2 e3 e4
    go_wp2
    refine bodyPost_ret (v := .tuple #[.agg (rpc rp0 (.slice none 0 0)).toArray, .bool false]) ?_ rfl ?_
    · exact ret_blk2U rfl _ _ g4 57 (rpc rp0 (.slice none 0 0)) _ rfl rfl V4.out dP huP hdP szRpT
    · rw [HY.out]
      exact ⟨_, rfl, RdE.nil _ _, by rw [HBB.out]; exact HB4.out⟩
  | true =>
    obtain ⟨hpn, hpx⟩ := hat.out rfl
    have hpz : (p : Int) < (nL : Int) := by omega
    have hxm := hmem.out rfl
    have hxf := HNM.out _ hxm
    have hkl : p < (mL r).length := by rw [HNL.out]; exact hpn
    have hrd := (HSV.out.below HB3.out).more hs3
    obtain ⟨aQ, hA, -⟩ := hrd.cells p (by rw [rvs_len HSS.out]; exact hkl)
    subst hA
    obtain ⟨sx, hsx⟩ : ∃ q, ss.getD p sl0 = q := ⟨_, rfl⟩
    have hnd : ∀ j v, (rpc x (slv sx))[j]? = some v → w3.cell? ((aQ.add (p * 6)).add j) = some v := by
      intro j v hv
      refine hrd.node p (by rw [rvs_len HSS.out]; exact hkl) j v ?_
      show (rvc ((rvs (mL r) ss).getD p rv0))[j]? = some v
      rw [rvs_at HSS.out p hkl, hpx, hsx]
      exact hv
    have hxn : RdE StK w3.heap.size w3 (slv sx) (pN x) := by
      have h := (((HSN.out p hkl).toE).below HB3.out).more hs3
      rw [hsx, hpx] at h
      exact h
    have HXN := Lib.hid hxn
    obtain ⟨An, nn, cn, hsv⟩ : ∃ A n c, slv sx = .slice A n c := ⟨_, _, _, rfl⟩
    rw [hsv] at hnd HXN
    clear hxn hrd hkl hsx hpx hsv hxm
    have c4 := X3.out.at_ 4 _ rfl
    go_wp2_with (first | refine wpList_load_rowE rfl 57 _ rfl (aQ.add (p * 6)) (by first | rfl | (simp [Act.eval, Act.put, Addr.add])) (rpc x (.slice An nn cn)) hnd dP huP hdP szRpT ?_ | fail)
    refine (detRp_any x (.slice An nn cn) w3 HXN.out (by show (pN x).length ≤ _; have h : (pN x).length ≤ 1000 := hxf; omega)).mono ?_
    rintro e w4 ⟨nv, rfl, hon, hb⟩
    obtain ⟨Am, cm, hnv⟩ := hon.shape
    obtain ⟨nm, hnm⟩ : ∃ q, (pN x).length = q := ⟨_, rfl⟩
    rw [hnm] at hnv
    subst hnv
    clear hnm
    have X44 := Lib.hid (X43.out.below hb X43.out.lt)
    have HB4 := Lib.hid (HB3.out.trans (hb.mono hs3))
    have HO := Lib.hid hon
    clear hon hb X43 HB3 X3 c4
    go_wp2_with (refine wpList_store_to rfl 57 _ _ rfl g4 (rpc x (.slice Am nm cm)) (rpc rp0 (.slice none 0 0)) 57 rfl rfl X44.out szRpT rfl (rpc_allM _ _ _ _) ?_)
    intro w5 e1 e2 e3 e4
    have V4 := Lib.hid e1
    have HB5 := Lib.hid (HB4.out.trans (e3.mono hB4))
    have HO5 := Lib.hid (HO.out.keep (Keep.store (T := fun e => e = 57) (b := B) X44.out rfl hB4 e2 e4) (by decide))
    clear e1 e2 e3 e4
    go_wp2
    refine bodyPost_ret (v := .tuple #[.agg (rpc x (.slice Am nm cm)).toArray, .bool true]) ?_ rfl ?_
    · exact ret_blk2U rfl _ _ g4 57 (rpc x (.slice Am nm cm)) _ rfl rfl V4.out dP huP hdP szRpT
    · rw [HY.out]
      exact ⟨_, rfl, HO5.out.rd, by rw [HBB.out]; exact HB5.out⟩
end Go.Proofs.YtdihngkdhanhkaaGreatDoor
namespace Go.Proofs.YtdihngkdhanhkaaGreatDoor
open Go.RowKit

set_option maxRecDepth 100000 in
set_option maxHeartbeats 4000000 in
theorem equalS_same (l : List ByteArray) (v u : Value) (w : World) (hr : RdS w.heap.size w v l) (hr2 : RdS w.heap.size w u l) : Calls Tryz.prog 91 #[v, u] w (One (.bool true) w) := by
  obtain ⟨A, cp, rfl, hc, hm⟩ := hr.shape
  obtain ⟨A2, cp2, rfl, hc2, hm2⟩ := hr2.shape
  unfold maxLen at hm hm2
  obtain ⟨n, hn⟩ : ∃ n, l.length = n := ⟨_, rfl⟩
  have HN := Lib.hid hn
  have HRa := Lib.hid hr
  have HRb := Lib.hid hr2
  rw [hn] at hc HRa hc2 HRb ⊢
  clear hr hn hr2
  go_enter Tryz.func91, Tryz.ntmps91
  go_wp2
  go_loopw [5, 13] (fun _ x wr => ∃ i : Nat, i ≤ n ∧ x = .int .i64 (i : Int) ∧ Hid (Below w.heap.size w wr)) (fun _ x _ => n - (intOf x).toNat)
  case atStart => exact ⟨0, by omega, rfl, Below.refl _ _⟩
  case round =>
    obtain ⟨i, hi, rfl, HD⟩ := hrel
    by_cases hi2 : i < n
    · have zi : (i : Int) < (n : Int) := by omega
      have hlt : i < l.length := by rw [HN.out]; exact hi2
      obtain ⟨a, hA, c0⟩ := (HRa.out.below HD.out).at_ i hlt
      obtain ⟨b, hA2, d0⟩ := (HRb.out.below HD.out).at_ i hlt
      subst hA hA2
      obtain ⟨x, hx⟩ : ∃ x, l[i] = x := ⟨_, rfl⟩
      rw [hx] at c0 d0
      have hne : (x.toList != x.toList) = false := by simp
      have hne1 : (x.toList == x.toList) = true := beq_self_eq_true _
      clear hx
      go_wp2
      refine wp_region_quiet_lit (by kernel_rfl) (by kernel_rfl) ?_
      repeat (first | go_big_quiet_step (fail) | quiet_step (fail))
      refine wpQuiet_nil ?_
      intro _ hw'
      obtain ⟨nq, hw''⟩ := hw'
      subst hw''
      have HD2 : Hid (Below w.heap.size w (wr.drewN nq)) := Below.drewN' HD.out
      go_wp2
      go_roundw
      case rel => exact ⟨i + 1, by omega, by go_num, HD2⟩
      case measure => simp [intOf]; omega
    · have hE : i = n := by omega
      subst hE
      go_wp2
      go_ret
      exact ⟨rfl, HD.out⟩

set_option maxRecDepth 100000 in
set_option maxHeartbeats 4000000 in
theorem orSame_any (r : Rp) (z : Int) (nv nu : Value) (w : World) (hr : RdS w.heap.size w nv (pN r)) (hr2 : RdS w.heap.size w nu (pN r)) (hn : (pN r).length ≤ 1000000) : Calls Tryz.prog 55 #[.agg (rpc r nv).toArray, .agg (rpc (pC r, pQ r, pE r, pV r, z, pN r) nu).toArray] w (One (.bool (decide (pR r = z))) w) := by
  have HR := Lib.hid hr
  have HS := Lib.hid hr2
  have HN := Lib.hid hn
  clear hr hr2 hn HN
  have n1 : (pC r == pC r) = true := beq_self_eq_true _
  have n2 : (pQ r == pQ r) = true := beq_self_eq_true _
  have n3 : (pE r == pE r) = true := beq_self_eq_true _
  have n4 : ((⟨(pV r).toArray⟩ : ByteArray).toList == (⟨(pV r).toArray⟩ : ByteArray).toList) = true := beq_self_eq_true _
  go_enter Tryz.func55, Tryz.ntmps55
  go_wp2_with (refine wpList_box_blk rfl 57 _ rfl (rpc r nv) rfl ?_)
  intro y0 b1 b2 b3
  obtain ⟨gb0, hg⟩ : ∃ g, w.heap.size = g := ⟨_, rfl⟩
  have X0 := Lib.hid b1
  have EB0 := Lib.hid b3
  rw [hg] at X0 ⊢
  clear b1 b2 b3 hg
  go_wp2_with (refine wpList_box_blk rfl 57 _ rfl (rpc (pC r, pQ r, pE r, pV r, z, pN r) nu) rfl ?_)
  intro y1 b1 b2 b3
  obtain ⟨gb1, hg⟩ : ∃ g, y0.heap.size = g := ⟨_, rfl⟩
  have X1 := Lib.hid b1
  have EB1 := Lib.hid b3
  rw [hg] at X1 ⊢
  clear b1 b2 b3 hg
  have P0_w := Lib.hid (EB0.out.trans (EB1.out.mono EB0.out.size))
  have c_X0 := (X0.out.below EB1.out X0.out.lt).at_ 0 _ rfl
  have c_X0_1 := (X0.out.below EB1.out X0.out.lt).at_ 1 _ rfl
  have c_X0_2 := (X0.out.below EB1.out X0.out.lt).at_ 2 _ rfl
  have c_X0_3 := (X0.out.below EB1.out X0.out.lt).at_ 3 _ rfl
  have c_X0_4 := (X0.out.below EB1.out X0.out.lt).at_ 4 _ rfl
  have c_X0_5 := (X0.out.below EB1.out X0.out.lt).at_ 5 _ rfl
  have c_X1 := X1.out.at_ 0 _ rfl
  have c_X1_1 := X1.out.at_ 1 _ rfl
  have c_X1_2 := X1.out.at_ 2 _ rfl
  have c_X1_3 := X1.out.at_ 3 _ rfl
  have c_X1_4 := X1.out.at_ 4 _ rfl
  have c_X1_5 := X1.out.at_ 5 _ rfl
  by_cases hz : pR r = z
  · subst hz
    have n5 : (pR r == pR r) = true := beq_self_eq_true _
    have HD : Hid (decide (pR r = pR r) = true) := decide_eq_true rfl
    go_wp2_with fail
    refine (equalS_same (pN r) nv nu _ ((HR.out.below P0_w.out).more P0_w.out.size) ((HS.out.below P0_w.out).more P0_w.out.size)).mono ?_
    rintro e w9 ⟨rfl, hb⟩
    have E9 := Lib.hid hb
    clear hb
    have P1_w := Lib.hid (P0_w.out.trans (E9.out.mono P0_w.out.size))
    clear P0_w
    have P1_y0 := Lib.hid (EB1.out.trans (E9.out.mono EB1.out.size))
    go_wp2
    go_ret
    exact ⟨by rw [HD.out]; rfl, P1_w.out⟩
  · have n5 : (pR r == z) = false := by rw [beq_eq_false_iff_ne]; exact hz
    have HD : Hid (decide (pR r = z) = false) := decide_eq_false hz
    clear hz
    go_wp2
    go_ret
    exact ⟨by rw [HD.out]; rfl, P0_w.out⟩
end Go.Proofs.YtdihngkdhanhkaaGreatDoor
