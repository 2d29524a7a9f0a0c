/-
  Texts KA GQ KB KC KD KE.
-/
import Derived.Test.YtgfobinklijkpaaGreatDoorX01
import Derived.Test.YtgfobinklijkpaaGreatDoorX09
import Derived.Test.YtgfobinklijkpaaGreatDoorX10
import Derived.Test.YtgfobinklijkpaaGreatDoorX12
import Derived.Test.YtgfobinklijkpaaGreatDoorX15
import Derived.Test.YtgfobinklijkpaaGreatDoorX24
import Derived.Test.YtgfobinklijkpaaGreatDoorX25
import Derived.Test.YtgfobinklijkpaaGreatDoorX26
import Derived.Test.YtgfobinklijkpaaGreatDoorX28
import Derived.Test.YtgfobinklijkpaaGreatDoorX29
import Derived.Test.YtgfobinklijkpaaGreatDoorX33
namespace Go.Proofs.YtgfobinklijkpaaGreatDoor
set_option maxRecDepth 100000
set_option maxHeartbeats 16000000
open Go.RowKit
theorem few_ev (r : Rm) (o : Or) (h : RightR r) : (applyR r o).2.2.length ≤ 300 := by
 have h4 := (right_done r o h).2.2.1.few
 have h5 := fire_len (mW (doneR r o).1) (doneR r o).2.2
 have h6 : (takenR r o).2.2.length ≤ 300 := by
  show (fireW (mW (doneR r o).1) (doneR r o).2.2).length ≤ 300
  omega
 obtain ⟨q, hq⟩ : ∃ q, takenR r o = q := ⟨_, rfl⟩
 unfold applyR
 rw [hq] at h6 ⊢
 split
 ·exact Nat.zero_le _
 split
 ·exact Nat.zero_le _
 split
 ·exact Nat.zero_le _
 split
 ·exact Nat.zero_le _
 ·exact h6
theorem fold_ev (l : List Or) : ∀ r : Rm, RightR r → (foldR r l).2.2.length ≤ 300 * l.length := by
 induction l with
 | nil => exact fun _ _ => Nat.zero_le _
 | cons o l ih =>
   intro r h
   have h1 := few_ev r o h
   have h2 := ih _ (right_apply r o h)
   show ((applyR r o).2.2 ++ (foldR (applyR r o).1 l).2.2).length ≤ _
   rw [List.length_append, List.length_cons]
   omega
theorem names_fold (l : List Or) : ∀ r : Rm, RightR r → NamesR (mL r) → NamesR (mL (foldR r l).1) := by
 induction l with
 | nil => exact fun _ _ h => h
 | cons o l ih => exact fun r h hn => ih _ (right_apply r o h) (names_apply r o h hn).1
theorem take_or (l : List Or) (i : Nat) (hi : i < l.length) : l.take (i + 1) = l.take i ++ [l.getD i or0] := by
 rw [List.take_add_one, List.getElem?_eq_getElem hi, List.getD_eq_getElem?_getD, List.getElem?_eq_getElem hi]
 rfl
theorem fold_snoc (r : Rm) (l : List Or) (i : Nat) (hi : i < l.length) : foldR r (l.take (i + 1)) = ((applyR (foldR r (l.take i)).1 (l.getD i or0)).1, (foldR r (l.take i)).2.1 ++ [(applyR (foldR r (l.take i)).1 (l.getD i or0)).2.1], (foldR r (l.take i)).2.2 ++ (applyR (foldR r (l.take i)).1 (l.getD i or0)).2.2) := by
 rw [take_or l i hi, foldR_append, foldR_one]
def NeV (v u : Value) : Prop := ∀ a n c, v = .slice (some a) n c → 0 < n → u.ownBlock ≠ some a.block
theorem GoE.grew {α : Type} {E : RowK α} {e : TypeId} {b : Nat} {w w' : World} {u v : Value} {l : List α} (h : GoE E e b w v l) (hb : Below b w w') (hw : b ≤ w.heap.size) (hg : w.grownBy w' u.ownBlock) (hne : NeV v u) : GoE E e b w' v l := by
 have hz := hb.size
 rcases Nat.eq_zero_or_pos l.length with h0 | h0
 ·have hl := List.eq_nil_of_length_eq_zero h0
  subst hl
  obtain ⟨A, c, rfl, hc, hm, hn, _⟩ := h.1
  refine ⟨⟨A, c, rfl, hc, hm, hn, fun a ha => ⟨fun h1 => absurd h1 (by simp), fun j u hu => by simp [rowsE] at hu⟩⟩, .inl fun a n c' e h1 => ?_⟩
  injection e with _ e2 _
  simp at e2
  omega
 ·obtain ⟨A, c, hv, _, _, hn, _⟩ := h.1
  subst hv
  cases A with
  | none => have := hn rfl; omega
  | some a =>
    have hna : u.ownBlock ≠ some a.block := hne a _ _ rfl h0
    rcases h.2 with h2 | h2
    ·exact ⟨h.1.lo_keep h2 (fun k hk => hb.block k hk) (by omega), .inl h2⟩
    ·have h3 : OwnE E e w' b (.slice (some a) l.length c) l := ownsRow_at h2 (fun g hg2 => by
      have hlt := (World.ownsRow.lt h2 g hg2).2
      refine hg.block g hlt fun e2 => ?_
      have : g = a.block := by
       injection hg2 with hg2
       exact hg2.symm
      subst this
      exact hna e2.symm)
     exact ⟨h3.rd, .inr h3⟩
def FoldO (y : Rm × List Rp × List Ev) (w : World) (e : Ending) (w' : World) : Prop :=
 ∃ vN vS vW vL vR vE, e = .returned (.tuple #[.agg (rmc (mT y.1) vN vS vW vL).toArray, vR, vE]) ∧ OwnRm w.heap.size w' vN vS vW vL y.1 ∧ OwnRps 79 9 w.heap.size w' vR y.2.1 ∧ OwnE EvK 239 w' w.heap.size vE y.2.2 ∧ Below w.heap.size w w'
theorem OwnRps.below {e es : TypeId} {b : Nat} {w w' : World} {v : Value} {l : List Rp} (h : OwnRps e es b w v l) (hb : Below w.heap.size w w') : OwnRps e es b w' v l := by
 obtain ⟨ss, h1, h2, h3⟩ := h
 exact ⟨ss, h1, h2.below hb (Nat.le_refl _), fun j hj => (h3 j hj).below hb (Nat.le_refl _)⟩
theorem OwnRps.keep {T : TypeId → Prop} {e es : TypeId} {b d : Nat} {w w' : World} {v : Value} {l : List Rp} (h : OwnRps e es b w v l) (hk : Keep T d w w') (hT : ¬ T e) (hS : ¬ T es) : OwnRps e es b w' v l := by
 obtain ⟨ss, h1, h2, h3⟩ := h
 exact ⟨ss, h1, h2.keep hk hT, fun j hj => (h3 j hj).keep hk hS⟩
theorem GoRp.grew {e es : TypeId} {T : TypeId → Prop} {b : Nat} {w w' : World} {u v : Value} {l : List Rp} (h : GoRp e es b w v l) (hb : Below b w w') (hw : b ≤ w.heap.size) (hg : w.grownBy w' u.ownBlock) (hne : NeV v u) (hk : Keep T b w w') (hS : ¬ T es) : GoRp e es b w' v l := by
 obtain ⟨ss, h1, h2, h3⟩ := h
 exact ⟨ss, h1, h2.grew hb hw hg hne, fun j hj => (h3 j hj).keep hk hS (Nat.le_refl _)⟩
structure FoldF (y : Rm × List Rp × List Ev) (B : Nat) (w : World) (vN vS vW vL vR vE : Value) : Prop where
 n : GoE NdK 157 B w vN (mN y.1)
 s : GoE SeK 160 B w vS (mS y.1)
 t : GoE WaK 163 B w vW (mW y.1)
 l : GoRp 79 9 B w vL (mL y.1)
 r : OwnRps 79 9 B w vR y.2.1
 e : OwnE EvK 239 w B vE y.2.2
 ne : NeV vL vR
theorem FoldF.below {y : Rm × List Rp × List Ev} {B : Nat} {w w' : World} {vN vS vW vL vR vE : Value} (h : FoldF y B w vN vS vW vL vR vE) (hb : Below w.heap.size w w') (hs : B ≤ w.heap.size) : FoldF y B w' vN vS vW vL vR vE :=
 ⟨h.n.below hb hs, h.s.below hb hs, h.t.below hb hs, h.l.below hb hs, h.r.below hb, h.e.below hb (Nat.le_refl _), h.ne⟩
theorem FoldF.keep {T : TypeId → Prop} {y : Rm × List Rp × List Ev} {B : Nat} {w w' : World} {vN vS vW vL vR vE : Value} (h : FoldF y B w vN vS vW vL vR vE) (hk : Keep T B w w') (h1 : ¬ T 157) (h2 : ¬ T 160) (h3 : ¬ T 163) (h4 : ¬ T 79) (h5 : ¬ T 9) (h6 : ¬ T 239) : FoldF y B w' vN vS vW vL vR vE :=
 ⟨h.n.keep hk h1 (Nat.le_refl _), h.s.keep hk h2 (Nat.le_refl _), h.t.keep hk h3 (Nat.le_refl _), h.l.keep hk h4 h5 (Nat.le_refl _), h.r.keep hk h4 h5, h.e.keep hk h6, h.ne⟩
theorem FoldF.step {y z : Rm × List Rp × List Ev} {B : Nat} {w w' : World} {vN vS vW vL vR vE uN uS uW uL : Value} (h : FoldF y B w vN vS vW vL vR vE) (hs : B ≤ w.heap.size) (hb : Below w.heap.size w w') (h1 : GoE NdK 157 B w' uN (mN z.1)) (h2 : GoE SeK 160 B w' uS (mS z.1)) (h3 : GoE WaK 163 B w' uW (mW z.1)) (h4 : GoRp 79 9 B w' uL (mL z.1)) (h5 : uL = vL ∨ ∀ k, uL.ownBlock = some k → w.heap.size ≤ k) (h6 : z.2 = y.2) : FoldF z B w' uN uS uW uL vR vE := by
 have h' := h.below hb hs
 refine ⟨h1, h2, h3, h4, by rw [h6]; exact h'.r, by rw [h6]; exact h'.e, ?_⟩
 rcases h5 with rfl | h5
 ·exact h.ne
 ·intro a n c hv hn he
  subst hv
  have h7 := h5 a.block (by rfl)
  obtain ⟨ss, _, h8, _⟩ := h.r
  have h9 := (World.ownsRow.lt h8 _ he).2
  omega
theorem FoldF.more {y : Rm × List Rp × List Ev} {B : Nat} {w w' : World} {vN vS vW vL vR vE u : Value} {ss : List SlT} {x : Rp} {s : SlT} (h : FoldF y B w vN vS vW vL vR vE) (hs : B ≤ w.heap.size) (hss : ss.length = y.2.1.length) (hn : ∀ j, j < y.2.1.length → OwnE StK 9 w B (slv (ss.getD j sl0)) (pN (y.2.1.getD j rp0)))
 (hv : OwnE RvK 79 w B vR (rvs y.2.1 ss)) (hx : OwnE StK 9 w B (slv s) (pN x)) (ho : OwnE RvK 79 w' B u (rvs y.2.1 ss ++ [rpv x s])) (hb : Below B w w') (hg : w.grownBy w' vR.ownBlock) (hu : u.ownBlock = vR.ownBlock ∨ ∃ k, u.ownBlock = some k ∧ w.heap.size ≤ k) :
 FoldF (y.1, y.2.1 ++ [x], y.2.2) B w' vN vS vW vL u vE ∧ Keep (fun e => e = 79) B w w' := by
 have hk : Keep (fun e => e = 79) B w w' := Keep.grown hv rfl hs hb hg
 have hq : rvs y.2.1 ss ++ [rpv x s] = rvs (y.2.1 ++ [x]) (ss ++ [s]) := by
  rw [rvs_append hss]
  rfl
 refine ⟨⟨h.n.keep hk (by decide) (Nat.le_refl _), h.s.keep hk (by decide) (Nat.le_refl _), h.t.keep hk (by decide) (Nat.le_refl _), h.l.grew hb hs hg h.ne hk (by decide), ⟨ss ++ [s], by simp [hss], by rw [← hq]; exact ho, fun j hj => ?_⟩, h.e.keep hk (by decide), ?_⟩, hk⟩
 ·simp only [List.getD_eq_getElem?_getD]
  by_cases hj2 : j < y.2.1.length
  ·rw [List.getElem?_append_left (by omega), List.getElem?_append_left hj2, ← List.getD_eq_getElem?_getD, ← List.getD_eq_getElem?_getD]
   exact (hn j hj2).keep hk (by decide)
  ·rw [List.length_append, List.length_singleton] at hj
   have e1 : j = y.2.1.length := by omega
   rw [List.getElem?_append_right (by omega), List.getElem?_append_right (by omega), show j - ss.length = 0 by omega, show j - y.2.1.length = 0 by omega]
   exact hx.keep hk (by decide)
 ·intro a n c he hn0 hu2
  rcases hu with hu | ⟨k, hk1, hk2⟩
  ·rw [hu] at hu2
   exact h.ne a n c he hn0 hu2
  ·rw [hk1] at hu2
   injection hu2 with hu2
   obtain ⟨sq, _, h2, _⟩ := h.l
   obtain ⟨A, c', he2, _, _, _, h3⟩ := h2.1
   rw [he] at he2
   injection he2 with q1 q2 q3
   have := (h3 a q1.symm).1 (by omega)
   omega
theorem FoldF.told {y : Rm × List Rp × List Ev} {B : Nat} {w w' : World} {vN vS vW vL vR vE u : Value} {m : List Ev} (h : FoldF y B w vN vS vW vL vR vE) (hs : B ≤ w.heap.size) (ho : OwnE EvK 239 w' B u (y.2.2 ++ m)) (hb : Below B w w') (hg : w.grownBy w' vE.ownBlock) :
 FoldF (y.1, y.2.1, y.2.2 ++ m) B w' vN vS vW vL vR u ∧ Keep (fun e => e = 239) B w w' := by
 have hk : Keep (fun e => e = 239) B w w' := Keep.grown h.e rfl hs hb hg
 exact ⟨⟨h.n.keep hk (by decide) (Nat.le_refl _), h.s.keep hk (by decide) (Nat.le_refl _), h.t.keep hk (by decide) (Nat.le_refl _), h.l.keep hk (by decide) (by decide) (Nat.le_refl _), h.r.keep hk (by decide) (by decide), ho, h.ne⟩, hk⟩
theorem rmFold_kf (r : Rm) (l : List Or) (vN vS vW vL vO : Value) (w : World) (hr : RdRm w.heap.size w vN vS vW vL r) (hR : RightR r) (hn : NamesR (mL r)) (hO : RdE OrK w.heap.size w vO l) (hl : l.length ≤ 1000) (hi : ∀ o ∈ l, KindFn o) : Calls Tryz.prog 17 #[.agg (rmc (mT r) vN vS vW vL).toArray, vO] w (FoldO (foldR r l) w) := by
 obtain ⟨AN, cN, hvN, -, -⟩ := hr.n.shape
 obtain ⟨nN, hnN⟩ : ∃ q, (mN r).length = q := ⟨_, rfl⟩
 rw [hnN] at hvN
 clear hnN
 subst hvN
 obtain ⟨AS, cS, hvS, -, -⟩ := hr.s.shape
 obtain ⟨nS, hnS⟩ : ∃ q, (mS r).length = q := ⟨_, rfl⟩
 rw [hnS] at hvS
 clear hnS
 subst hvS
 obtain ⟨AW, cW, hvW, -, -⟩ := hr.t.shape
 obtain ⟨nW, hnW⟩ : ∃ q, (mW r).length = q := ⟨_, rfl⟩
 rw [hnW] at hvW
 clear hnW
 subst hvW
 obtain ⟨AL, cL, hvL, -, -⟩ := hr.l.shape
 obtain ⟨nL, hnL⟩ : ∃ q, (mL r).length = q := ⟨_, rfl⟩
 rw [hnL] at hvL
 clear hnL
 subst hvL
 obtain ⟨AO, cO, hvO, hcO, hmO⟩ := hO.shape
 unfold maxLen at hmO
 obtain ⟨n, hnO⟩ : ∃ q, l.length = q := ⟨_, rfl⟩
 rw [hnO] at hvO hcO
 have HN := lhd hnO
 subst hvO
 have HR := lhd hR
 have HNM := lhd hn
 have HRD := lhd hr
 have HO := lhd hO
 have HL := lhd hl
 have HI := lhd hi
 clear hr hR hn hO hl hi hnO
 obtain ⟨dR, huR, hdR⟩ := rowRmP
 obtain ⟨dP, huP, hdP⟩ := rowRpT
 obtain ⟨dO, huO, hdO⟩ := rowOrT
 go_enter Tryz.func17, Tryz.ntmps17
 go_wp2_with (refine wpList_box_blk rfl 50 _ rfl (rmc (mT r) (.slice AN nN cN) (.slice AS nS cS) (.slice AW nW cW) (.slice AL nL cL)) rfl ?_)
 intro w1 b1 b2 b3
 go_wp2_with (refine wpList_alloc_blk rfl 50 rfl (rmc 0 (.slice none 0 0) (.slice none 0 0) (.slice none 0 0) (.slice none 0 0)) zeroRmP ?_)
 intro w2 e1 e2 e3
 obtain ⟨B, hB⟩ : ∃ g, w.heap.size = g := ⟨_, rfl⟩
 obtain ⟨g4, hg4⟩ : ∃ g, w.heap.size + 1 = g := ⟨_, rfl⟩
 have X2 := lhd (b1.below e3 (by omega))
 have X4 := lhd e1
 have HB := lhd (b3.trans (e3.mono (by omega)))
 have ne24 : B ≠ g4 := by omega
 have hB4 : B ≤ g4 := by omega
 have hB2 : Hid (B + 2 ≤ w2.heap.size) := lhd (show _ ≤ _ by omega)
 have h4B : g4 < B + 2 := by omega
 rw [hg4] at X4 ⊢
 rw [hB] at X2 HB ⊢
 have HBB := lhd hB
 rw [hB] at HRD HO
 clear b1 b2 b3 e1 e2 e3 hg4 hB
 have hs0 : B ≤ w2.heap.size := by have := hB2.out; omega
 have F0 : Hid (FoldF (foldR r (l.take 0)) B w2 (.slice AN nN cN) (.slice AS nS cS) (.slice AW nW cW) (.slice AL nL cL) (.slice none 0 0) (.slice none 0 0)) := by
  rw [List.take_zero]
  exact ⟨GoE.given (HRD.out.n.toE.below HB.out) hs0, GoE.given (HRD.out.s.below HB.out) hs0, GoE.given (HRD.out.t.below HB.out) hs0, GoRp.given (HRD.out.l.below HB.out) hs0, ⟨[], rfl, OwnE.nil _ _ _, fun _ h => by cases h⟩, OwnE.nil _ _ _, fun a n c _ _ h => by cases h⟩
 have XX : Hid (Blk w2 B (rmc (mT (foldR r (l.take 0)).1) (.slice AN nN cN) (.slice AS nS cS) (.slice AW nW cW) (.slice AL nL cL)) 50) := by
  rw [List.take_zero]
  exact X2.out
 clear X2 hs0
 go_wp2
 go_loopw [7, 8, 16] (fun vR vE x wr => ∃ k : Nat, k ≤ n ∧ x = .int .i64 (k : Int) ∧ Hid (∃ vN vS vW vL, FoldF (foldR r (l.take k)) B wr vN vS vW vL vR vE ∧ Blk wr B (rmc (mT (foldR r (l.take k)).1) vN vS vW vL) 50) ∧ Hid (Blk wr g4 (rmc 0 (.slice none 0 0) (.slice none 0 0) (.slice none 0 0) (.slice none 0 0)) 50) ∧ Hid (Below B w wr) ∧ Hid (B + 2 ≤ wr.heap.size)) (fun _ _ x _ => n - (intOf x).toNat)
 case atStart => exact ⟨0, Nat.zero_le _, rfl, lhd ⟨_, _, _, _, F0.out, XX.out⟩, X4, HB, hB2⟩
 case round =>
  clear F0 XX X4 HB hB2
  obtain ⟨k, hk, rfl, HIV, X4, HB, hs⟩ := hrel
  obtain ⟨vN, vS, vW, vL, hF, hX⟩ := HIV.out
  obtain ⟨y, hy⟩ : ∃ q, foldR r (l.take k) = q := ⟨_, rfl⟩
  rw [hy] at hF hX
  have HY := lhd hy
  have HYR : Hid (RightR y.1) := by rw [← hy]; exact lhd (right_fold _ r HR.out)
  have HYN : Hid (NamesR (mL y.1)) := by rw [← hy]; exact lhd (names_fold _ r HR.out HNM.out)
  have HYL : Hid (y.2.1.length = k) := by
   show _ = _
   rw [← hy, foldR_len, List.length_take, HN.out]
   omega
  have HYE : Hid (y.2.2.length ≤ 300 * k) := by
   show _ ≤ _
   rw [← hy]
   refine Nat.le_trans (fold_ev _ r HR.out) ?_
   rw [List.length_take, HN.out]
   omega
  have F := lhd hF
  have X2 := lhd hX
  clear hF hX hy HIV
  have hwr : B ≤ wr.heap.size := by have := hs.out; omega
  by_cases hk2 : k < n
  ·have zk : (k : Int) < (n : Int) := by omega
   have hkl : k < l.length := by rw [HN.out]; exact hk2
   have hOr := (HO.out.below HB.out).more hwr
   have hsnoc := fold_snoc r l k hkl
   have hmem : l.getD k or0 ∈ l := by
    rw [List.getD_eq_getElem?_getD, List.getElem?_eq_getElem hkl]
    exact List.getElem_mem hkl
   obtain ⟨a, hA, c0, c1, c2, c3, c4, c5, c6, c7⟩ := hOr.atOr k hkl
   subst hA
   rw [HY.out] at hsnoc
   have hio := HI.out _ hmem
   obtain ⟨o, ho⟩ : ∃ o, l.getD k or0 = o := ⟨_, rfl⟩
   rw [ho] at c0 c1 c2 c3 c4 c5 c6 c7 hsnoc hio
   have HS := lhd hsnoc
   have HIO := lhd hio
   clear ho hsnoc hio hmem hkl hOr
   go_wp2_with (refine wpList_alloc_blk rfl 86 rfl (orc or0) zeroOrP ?_)
   intro wa a1 a2 a3
   obtain ⟨gO, hgO⟩ : ∃ g, wr.heap.size = g := ⟨_, rfl⟩
   have A1 := lhd a1
   have BA := lhd a3
   rw [hgO] at A1 BA ⊢
   have HGO := lhd hgO
   clear a1 a2 a3 hgO c0 c1 c2 c3 c4 c5 c6 c7
   go_wp2_with (refine wpList_store_to rfl 86 _ _ rfl gO (orc o) (orc or0) 86 rfl rfl A1.out szOrT rfl (orc_all o) ?_)
   intro wb e1 e2 e3 e4
   have A2 := lhd e1
   have BB := lhd (BA.out.trans e3)
   have Fb := lhd (F.out.below (by rw [HGO.out]; exact BB.out) hwr)
   have X2b := lhd (X2.out.below (by rw [HGO.out]; exact BB.out) X2.out.lt)
   have X4b := lhd (X4.out.below (by rw [HGO.out]; exact BB.out) X4.out.lt)
   have hgOB : B ≤ gO := by rw [← HGO.out]; exact hwr
   have HBb := lhd (HB.out.trans (BB.out.mono hgOB))
   have hsb : Hid (B + 2 ≤ wb.heap.size) := by
    have h1 := hs.out
    have h2 := e1.lt
    have h3 := HGO.out
    exact lhd (show _ ≤ _ by omega)
   have hwb : B ≤ wb.heap.size := by have := hsb.out; omega
   clear e1 e2 e3 e4 A1 BA BB F X2 X4 HB HGO hs hwr
   go_wp2_with (first | refine wpList_load_part rfl 50 _ rfl B 0 (rmc (mT y.1) vN vS vW vL) (rmc (mT y.1) vN vS vW vL) 50 rfl X2b.out rfl huR hdR szRmP ?_ | refine wpList_load_part rfl 86 _ rfl gO 0 (orc o) (orc o) 86 rfl A2.out rfl huO hdO szOrT ?_)
   refine (step_any B y.1 o _ _ _ _ wb hwb Fb.out.n Fb.out.s Fb.out.t Fb.out.l HYR.out HIO.out).mono ?_
   rintro e w5 ⟨uN, uS, uW, uL, nv, vM, rfl, y1, y2, y3, y4, y5, y6, y7, hb⟩
   have hzr := right_apply y.1 o HYR.out
   have hzn := names_apply y.1 o HYR.out HYN.out
   have hze := few_ev y.1 o HYR.out
   obtain ⟨z, hz⟩ : ∃ q, applyR y.1 o = q := ⟨_, rfl⟩
   rw [hz] at y1 y2 y3 y4 y6 y7 hzr hzn hze ⊢
   have HS2 := HS.out
   rw [hz] at HS2
   have HZS := lhd HS2
   have HZN := lhd hzn.2
   have HZE := lhd hze
   have F5 : Hid (FoldF (z.1, y.2) B w5 uN uS uW uL u7 u8) := lhd (Fb.out.step hwb hb y1 y2 y3 y4 y5 rfl)
   have G6 := lhd y6
   have EV : Hid (EvO B w5 vM z.2.2) := lhd (y7.imp id fun h => h.base hwb)
   have X25 := lhd (X2b.out.below hb X2b.out.lt)
   have X45 := lhd (X4b.out.below hb X4b.out.lt)
   have HB5 := lhd (HBb.out.trans (hb.mono hwb))
   have hs5 : Hid (B + 2 ≤ w5.heap.size) := lhd (Nat.le_trans hsb.out hb.size)
   have hw5 : B ≤ w5.heap.size := by have := hs5.out; omega
   obtain ⟨AP, cP, hv1, -, -⟩ := y1.1.shape
   obtain ⟨AR, cR, hv2, -, -⟩ := y2.1.shape
   obtain ⟨AT, cT, hv3, -, -⟩ := y3.1.shape
   obtain ⟨AQ, cQ, hv4, -, -⟩ := y4.rd.shape
   obtain ⟨Ax, cx, hv5, -, -⟩ := y6.1.shape
   obtain ⟨nP, hn1⟩ : ∃ q, (mN z.1).length = q := ⟨_, rfl⟩
   obtain ⟨nR, hn2⟩ : ∃ q, (mS z.1).length = q := ⟨_, rfl⟩
   obtain ⟨nT, hn3⟩ : ∃ q, (mW z.1).length = q := ⟨_, rfl⟩
   obtain ⟨nQ, hn4⟩ : ∃ q, (mL z.1).length = q := ⟨_, rfl⟩
   obtain ⟨nx, hn5⟩ : ∃ q, (pN z.2.1).length = q := ⟨_, rfl⟩
   rw [hn1] at hv1
   rw [hn2] at hv2
   rw [hn3] at hv3
   rw [hn4] at hv4
   rw [hn5] at hv5
   subst hv1 hv2 hv3 hv4 hv5
   clear y1 y2 y3 y4 y5 y6 y7 hb hn1 hn2 hn3 hn4 hn5 hz HS2 HS hzr hzn hze Fb X2b X4b HBb hsb hwb A2
   obtain ⟨RC, hRC⟩ : ∃ q : List Value, rmc (mT z.1) (.slice AP nP cP) (.slice AR nR cR) (.slice AT nT cT) (.slice AQ nQ cQ) = q := ⟨_, rfl⟩
   have hRA : RC.toArray.all (·.oneCell') = true := by rw [← hRC]; exact rmc_all _ _ _ _ _ _ _ _ _ _ _ _ _
   have hRL : RC.length = 5 := by rw [← hRC]; rfl
   have HRC := lhd hRC
   have HRL := lhd hRL
   rw [hRC]
   clear hRC hRL
   go_wp2_with (refine wpList_alloc_blk rfl 50 rfl (rmc 0 (.slice none 0 0) (.slice none 0 0) (.slice none 0 0) (.slice none 0 0)) zeroRmP ?_)
   intro w6 a1 a2 a3
   go_wp2_with (refine wpList_alloc_blk rfl 79 rfl (rpc rp0 (.slice none 0 0)) zeroRpT ?_)
   intro w7 d1 d2 d3
   obtain ⟨gA, hgA⟩ : ∃ g, w5.heap.size = g := ⟨_, rfl⟩
   obtain ⟨gP, hgP⟩ : ∃ g, w5.heap.size + 1 = g := ⟨_, rfl⟩
   have hAP : gA < gP := by omega
   have hBA : B ≤ gA := by omega
   have A1 := lhd (a1.below d3 (by omega))
   have P1 := lhd d1
   have B7 := lhd (a3.trans (d3.mono (by omega)))
   rw [hgP] at P1 ⊢
   rw [hgA] at A1 B7 ⊢
   have HGA := lhd hgA
   clear a1 a2 a3 d1 d2 d3 hgA hgP
   go_wp2_with (refine wpList_store_to rfl 50 _ _ rfl gA RC (rmc 0 (.slice none 0 0) (.slice none 0 0) (.slice none 0 0) (.slice none 0 0)) 50 rfl rfl A1.out (by rw [HRL.out]; exact szRmP) (by rw [HRL.out]; rfl) hRA ?_)
   intro w8 e1 e2 e3 e4
   have A2 := lhd e1
   have P2 := lhd (P1.out.same (e4 gP (by omega)))
   have B8 := lhd (B7.out.trans e3)
   clear e1 e2 e3 e4 A1 P1 B7
   go_wp2_with (refine wpList_store_to rfl 79 _ _ rfl gP (rpc z.2.1 (.slice Ax nx cx)) (rpc rp0 (.slice none 0 0)) 79 rfl rfl P2.out szRpT rfl (rpc_allM _ _ _ _) ?_)
   intro w9 e1 e2 e3 e4
   have P3 := lhd e1
   have A3 := lhd (A2.out.same (e4 gA (by omega)))
   have B9 : Hid (Below w5.heap.size w5 w9) := lhd (by rw [HGA.out]; exact B8.out.trans (e3.mono (by omega)))
   have F9 := lhd (F5.out.below B9.out hw5)
   have G9 := lhd (G6.out.below B9.out hw5)
   have E9 := lhd (EV.out.below B9.out)
   have X29 := lhd (X25.out.below B9.out X25.out.lt)
   have X49 := lhd (X45.out.below B9.out X45.out.lt)
   have HB9 := lhd (HB5.out.trans (B9.out.mono hw5))
   have hs9 : Hid (B + 2 ≤ w9.heap.size) := lhd (Nat.le_trans hs5.out B9.out.size)
   have hw9 : B ≤ w9.heap.size := by have := hs9.out; omega
   have hAB : Hid (B ≠ gA) := by
    have h1 := hs5.out
    rw [HGA.out] at h1
    exact lhd (show _ ≠ _ by omega)
   have hPB : Hid (B ≠ gP ∧ g4 ≠ gA ∧ g4 ≠ gP) := by
    have h1 := hs5.out
    rw [HGA.out] at h1
    exact lhd (show _ ∧ _ by refine ⟨?_, ?_, ?_⟩ <;> omega)
   clear e1 e2 e3 e4 A2 P2 B8 B9 F5 G6 EV X25 X45 HB5 hs5 hw5 HGA
   go_wp2_with (first | refine wpList_load_part rfl 50 _ rfl gA 0 RC RC 50 rfl A3.out (by simp) huR hdR (by rw [HRL.out]; exact szRmP) ?_ | refine wpList_store_to rfl 50 _ _ rfl B RC (rmc (mT y.1) vN vS vW vL) 50 rfl rfl X29.out (by rw [HRL.out]; exact szRmP) (by rw [HRL.out]; rfl) hRA ?_)
   intro wc e1 e2 e3 e4
   have KR := lhd (Keep.store (T := fun e => e = 50) (b := B) X29.out rfl (Nat.le_refl _) e2 e4)
   have X2c := lhd e1
   have X4c := lhd (X49.out.same (e4 g4 ne24.symm))
   have P4 := lhd (P3.out.same (e4 gP hPB.out.1.symm))
   have Fc := lhd (F9.out.keep KR.out (by decide) (by decide) (by decide) (by decide) (by decide) (by decide))
   have Gc := lhd (G9.out.keep KR.out (by decide) (Nat.le_refl _))
   have Ec := lhd (E9.out.keep KR.out (by decide))
   have HBc := lhd (HB9.out.trans e3)
   have hsc : Hid (B + 2 ≤ wc.heap.size) := lhd (by rw [e2]; exact hs9.out)
   have hwc : B ≤ wc.heap.size := by have := hsc.out; omega
   clear e1 e2 e3 e4 KR X29 X49 P3 F9 G9 E9 HB9 hs9 hw9 A3 hAB
   go_wp2_with (first | refine wpList_load_part rfl 79 _ rfl gP 0 (rpc z.2.1 (.slice Ax nx cx)) (rpc z.2.1 (.slice Ax nx cx)) 79 rfl P4.out rfl huP hdP szRpT ?_ | fail)
   refine (detRp_any z.2.1 (.slice Ax nx cx) wc Gc.out.1 (by have := HZN.out; omega)).mono ?_
   rintro e wd ⟨nv, rfl, hon, hb⟩
   obtain ⟨Am, cm, hnv⟩ := hon.shape
   obtain ⟨nm, hnm⟩ : ∃ q, (pN z.2.1).length = q := ⟨_, rfl⟩
   rw [hnm] at hnv
   subst hnv
   clear hnm
   have HX := lhd (show OwnE StK 9 wd B (slv (Am, nm, cm)) (pN z.2.1) from hon.base hwc)
   have Fd := lhd (Fc.out.below hb hwc)
   have Ed := lhd (Ec.out.below hb)
   have X2d := lhd (X2c.out.below hb X2c.out.lt)
   have X4d := lhd (X4c.out.below hb X4c.out.lt)
   have HBd := lhd (HBc.out.trans (hb.mono hwc))
   have hsd : Hid (B + 2 ≤ wd.heap.size) := lhd (Nat.le_trans hsc.out hb.size)
   have hwd : B ≤ wd.heap.size := by have := hsd.out; omega
   clear hon hb Fc Ec Gc X2c X4c P4 HBc hsc hwc
   have hex : rpc z.2.1 (.slice Am nm cm) = [.int .i64 (pC z.2.1), .int .i64 (pQ z.2.1), .int .i64 (pE z.2.1), txt (pV z.2.1), .int .i64 (pR z.2.1), .slice Am nm cm] := rfl
   rw [hex]
   clear hex
   have hba : Below wd.heap.size wd (wd.alloc (.cells #[.int .i64 (pC z.2.1), .int .i64 (pQ z.2.1), .int .i64 (pE z.2.1), txt (pV z.2.1), .int .i64 (pR z.2.1), .slice Am nm cm] 79)) := (Below.refl wd.heap.size wd).alloc (Nat.le_refl _) _
   have HXa := lhd (HX.out.below hba (Nat.le_refl _))
   have Fa := lhd (Fd.out.below hba hwd)
   have Ea := lhd (Ed.out.below hba)
   have X2a := lhd (X2d.out.below hba X2d.out.lt)
   have X4a := lhd (X4d.out.below hba X4d.out.lt)
   have HBa := lhd (HBd.out.trans (hba.mono hwd))
   have hsa : Hid (B + 2 ≤ (wd.alloc (.cells #[.int .i64 (pC z.2.1), .int .i64 (pQ z.2.1), .int .i64 (pE z.2.1), txt (pV z.2.1), .int .i64 (pR z.2.1), .slice Am nm cm] 79)).heap.size) := lhd (Nat.le_trans hsd.out hba.size)
   have hRa : Hid (RdE RvK (wd.heap.size + 1) (wd.alloc (.cells #[.int .i64 (pC z.2.1), .int .i64 (pQ z.2.1), .int .i64 (pE z.2.1), txt (pV z.2.1), .int .i64 (pR z.2.1), .slice Am nm cm] 79)) (.slice (some ⟨wd.heap.size, 0, none⟩) 1 1) [rpv z.2.1 (Am, nm, cm)]) := lhd (RdE.one wd 79 (rpv z.2.1 (Am, nm, cm)))
   obtain ⟨ss, hss, hv, hn⟩ := Fa.out.r
   have HSS := lhd hss
   have HV := lhd hv
   have HNS := lhd hn
   have hn9 : n ≤ 1000 := by rw [← HN.out]; exact HL.out
   have hrl : (rvs y.2.1 ss).length = k := by rw [rvs_len hss]; exact HYL.out
   have HRL2 := lhd hrl
   clear hss hv hn hba HX Fd Ed X2d X4d HBd hsd hrl
   go_wp2_with (at_builtin; refine wpList_appE (E := RvK) rfl _ _ 48 rfl 79 72 Tryz.underlying48 kindPRv B _ _ _ (rvs y.2.1 ss) [rpv z.2.1 (Am, nm, cm)] rfl HV.out rfl hRa.out (by simp) ?d1 ?d2 ?d3 ?_)
   case d1 => rw [HRL2.out]; simp only [List.length_cons, List.length_nil]; omega
   case d2 => rw [HRL2.out]; simp only [List.length_cons, List.length_nil]; omega
   case d3 => have := hsa.out; omega
   intro v' we m1 m2 m3 m4
   have hzw : (wd.alloc (.cells #[.int .i64 (pC z.2.1), .int .i64 (pQ z.2.1), .int .i64 (pE z.2.1), txt (pV z.2.1), .int .i64 (pR z.2.1), .slice Am nm cm] 79)).heap.size = wd.heap.size + 1 := by simp
   have hwa9 : B ≤ (wd.alloc (.cells #[.int .i64 (pC z.2.1), .int .i64 (pQ z.2.1), .int .i64 (pE z.2.1), txt (pV z.2.1), .int .i64 (pR z.2.1), .slice Am nm cm] 79)).heap.size := by have := hsa.out; omega
   obtain ⟨hF, hKp⟩ := Fa.out.more hwa9 HSS.out HNS.out HV.out HXa.out m1 m2 m3 (m4.imp id fun ⟨q, q1, q2⟩ => ⟨q, q1, by have := hzw; omega⟩)
   have Fe := lhd hF
   have Ee := lhd (Ea.out.keep hKp (by decide))
   have X2e := lhd (X2a.out.keepT hKp (by decide))
   have X4e := lhd (X4a.out.keepT hKp (by decide))
   have HBe := lhd (HBa.out.trans m2)
   have hse : Hid (B + 2 ≤ we.heap.size) := lhd (Nat.le_trans hsa.out hKp.size)
   have hwe : B ≤ we.heap.size := by have := hse.out; omega
   clear m1 m2 m3 m4 hF hKp hwa9 hzw HSS HNS HV HXa Fa Ea X2a X4a HBa hsa hRa HRL2 hwd
   go_wp2_with (at_builtin; refine wpList_appF (E := EvK) rfl _ _ 51 rfl 239 56 Tryz.underlying51 kindEvP B _ _ _ y.2.2 z.2.2 rfl Fe.out.e rfl Ee.out.rd ?d1 ?d2 hwe ?_)
   case d1 => have := HZE.out; have := HYE.out; omega
   case d2 => have := HZE.out; have := HYE.out; omega
   intro u' wf m1 m2 m3
   obtain ⟨hF, hKp⟩ := Fe.out.told hwe m1 m2 m3
   have Ff := lhd hF
   have X2f : Hid (Blk wf B (rmc (mT z.1) (.slice AP nP cP) (.slice AR nR cR) (.slice AT nT cT) (.slice AQ nQ cQ)) 50) := lhd (by rw [HRC.out]; exact X2e.out.keepT hKp (by decide))
   have X4f := lhd (X4e.out.keepT hKp (by decide))
   have HBf := lhd (HBe.out.trans m2)
   have hsf : Hid (B + 2 ≤ wf.heap.size) := lhd (Nat.le_trans hse.out hKp.size)
   clear m1 m2 m3 hF hKp Fe Ee X2e X4e HBe hse hwe
   go_wp2
   go_roundw
   case rel =>
    refine ⟨k + 1, by omega, by go_num, ?_, X4f, HBf, hsf⟩
    rw [HZS.out]
    exact lhd ⟨_, _, _, _, Ff.out, X2f.out⟩
   case measure => simp [intOf]; omega
  ·obtain rfl : k = n := by omega
   have hyl : y = foldR r l := by
    rw [← HY.out, List.take_of_length_le (by rw [HN.out]; exact Nat.le_refl _)]
   have HFR := lhd (fewR_of y.1 HYR.out HYN.out)
   have HRM : Hid (RdRm wr.heap.size wr vN vS vW vL y.1) := lhd ⟨RdNd.ofE F.out.n.1, F.out.s.1, F.out.t.1, F.out.l.rd⟩
   have HYQ := lhd hyl
   clear hyl
   go_wp2_with (first | refine wpList_load_part rfl 50 _ rfl B 0 (rmc (mT y.1) vN vS vW vL) (rmc (mT y.1) vN vS vW vL) 50 rfl X2.out rfl huR hdR szRmP ?_ | fail)
   refine (detachedM_any y.1 _ _ _ _ wr HRM.out HFR.out).mono ?_
   rintro e wa ⟨uN, uS, uW, uL, rfl, hom, hb⟩
   obtain ⟨Ba, ca, hu1⟩ := hom.n.shape
   obtain ⟨Bb, cb, hu2⟩ := hom.s.shape
   obtain ⟨Bc, cc, hu3⟩ := hom.t.shape
   obtain ⟨Bd, cd, hu4, -, -⟩ := hom.l.rd.shape
   obtain ⟨ma, hm1⟩ : ∃ q, (mN y.1).length = q := ⟨_, rfl⟩
   obtain ⟨mb, hm2⟩ : ∃ q, (mS y.1).length = q := ⟨_, rfl⟩
   obtain ⟨mc, hm3⟩ : ∃ q, (mW y.1).length = q := ⟨_, rfl⟩
   obtain ⟨md, hm4⟩ : ∃ q, (mL y.1).length = q := ⟨_, rfl⟩
   rw [hm1] at hu1
   rw [hm2] at hu2
   rw [hm3] at hu3
   rw [hm4] at hu4
   subst hu1 hu2 hu3 hu4
   obtain ⟨RD, hRD⟩ : ∃ q : List Value, rmc (mT y.1) (.slice Ba ma ca) (.slice Bb mb cb) (.slice Bc mc cc) (.slice Bd md cd) = q := ⟨_, rfl⟩
   have hDA : RD.toArray.all (·.oneCell') = true := by rw [← hRD]; exact rmc_all _ _ _ _ _ _ _ _ _ _ _ _ _
   have hDL : RD.length = 5 := by rw [← hRD]; rfl
   have HRD2 := lhd hRD
   have HDL := lhd hDL
   rw [hRD]
   clear hRD hDL hm1 hm2 hm3 hm4
   have OM := lhd hom
   have Fa := lhd (F.out.below hb hwr)
   have X4a := lhd (X4.out.below hb X4.out.lt)
   have HBa := lhd (HB.out.trans (hb.mono hwr))
   have h4a : g4 < wr.heap.size := X4.out.lt
   clear hom hb F X2 X4 HB HRM HFR
   go_wp2_with (first | refine wpList_store_to rfl 50 _ _ rfl g4 RD (rmc 0 (.slice none 0 0) (.slice none 0 0) (.slice none 0 0) (.slice none 0 0)) 50 rfl rfl X4a.out (by rw [HDL.out]; exact szRmP) (by rw [HDL.out]; rfl) hDA ?_ | fail)
   intro wb e1 e2 e3 e4
   have V4 := lhd e1
   have KR := lhd (Keep.store (T := fun e => e = 50) (b := B) X4a.out rfl hB4 e2 e4)
   have OMb := lhd (OM.out.same (fun k hk => e4 k (by omega)))
   have Fb := lhd (Fa.out.keep KR.out (by decide) (by decide) (by decide) (by decide) (by decide) (by decide))
   have HBb := lhd (HBa.out.trans (e3.mono hB4))
   clear e1 e2 e3 e4 KR X4a Fa OM HBa
   go_wp2
   refine bodyPost_ret (v := .tuple #[.agg RD.toArray, u7, u8]) ?_ rfl ?_
   ·exact ret_blk3K rfl _ _ g4 50 RD u7 u8 rfl rfl rfl V4.out dR huR hdR (by rw [HDL.out]; exact szRmP)
   ·rw [← HYQ.out]
    refine ⟨_, _, _, _, u7, u8, by rw [HRD2.out], ?_, ?_, ?_, ?_⟩
    all_goals rw [HBB.out]
    ·exact OMb.out.base hwr
    ·exact Fb.out.r
    ·exact Fb.out.e
    ·exact HBb.out
theorem RdE.at_block {α : Type} {E : RowK α} {B B' : Nat} {w w' : World} {v : Value} {l : List α} (h : RdE E B w v l) (hk : ∀ a n c, v = .slice (some a) n c → w'.heap[a.block]? = w.heap[a.block]?) (hB : B ≤ B') : RdE E B' w' v l := by
 obtain ⟨A, c, rfl, hc, hm, hn, hr⟩ := h
 refine ⟨A, c, rfl, hc, hm, hn, fun a ha => ⟨fun h0 => Nat.lt_of_lt_of_le ((hr a ha).1 h0) hB, fun j u hu => ?_⟩⟩
 have hq := hk a _ _ (by rw [ha])
 rw [cell_heap (a.add j) (show w'.heap[(a.add j).block]? = w.heap[(a.add j).block]? by rw [addr_block]; exact hq)]
 exact (hr a ha).2 j u hu
theorem RdE.none_any {α : Type} {E : RowK α} {B B' : Nat} {w w' : World} {v : Value} (h : RdE E B w v []) : RdE E B' w' v [] := by
 obtain ⟨A, c, rfl, hc, hm, hn, _⟩ := h
 exact ⟨A, c, rfl, hc, hm, hn, fun a ha => ⟨fun h1 => absurd h1 (by simp), fun j u hu => by simp [rowsE] at hu⟩⟩
def Realm1 (r : Rm) (w : World) (e : Ending) (w' : World) : Prop := ∃ vN vS vW vL, e = .returned (.agg (rmc (mT r) vN vS vW vL).toArray) ∧ RdRm w'.heap.size w' vN vS vW vL r ∧ Below w.heap.size w w'
theorem rmNew_any (w : World) : Calls Tryz.prog 18 #[] w (Realm1 rm0 w) := by
 obtain ⟨dR, huR, hdR⟩ := rowRmP
 go_enter Tryz.func18, Tryz.ntmps18
 go_wp2_with (refine wpList_alloc_blk rfl 50 rfl (rmc 0 (.slice none 0 0) (.slice none 0 0) (.slice none 0 0) (.slice none 0 0)) zeroRmP ?_)
 intro w1 a1 a2 a3
 obtain ⟨B, hB⟩ : ∃ g, w.heap.size = g := ⟨_, rfl⟩
 have X := lhd a1
 have HB := lhd a3
 have hs1 : B + 1 ≤ w1.heap.size := by omega
 rw [hB] at X HB ⊢
 have HBB := lhd hB
 clear a1 a2 a3 hB
 go_wp2_with fail
 refine (shNew_own w1).mono ?_
 rintro e w2 ⟨vN, rfl, hn, hnw, hb⟩
 have HNW : Hid (∀ a n c, vN = .slice (some a) n c → a.block ≠ B) := lhd (fun a n c h => by have := hnw a n c h; omega)
 have X2 := lhd (X.out.below hb X.out.lt)
 have HB2 := lhd (HB.out.trans (hb.mono (by omega)))
 have HN := lhd hn
 have hs2 : B + 1 ≤ w2.heap.size := Nat.le_trans hs1 hb.size
 clear hn hnw hb X HB hs1
 go_wp2_with fail
 refine (bkNew_any w2).mono ?_
 rintro e w3 ⟨vS, rfl, hn, hb⟩
 have X3 := lhd (X2.out.below hb X2.out.lt)
 have HB3 := lhd (HB2.out.trans (hb.mono (by omega)))
 have HN3 := lhd ((HN.out.below hb).more hb.size)
 have HS3 := lhd hn
 have hs3 : B + 1 ≤ w3.heap.size := Nat.le_trans hs2 hb.size
 clear hn hb X2 HB2 HN hs2
 obtain ⟨AN, cN, hv1, -, -⟩ := HN3.out.shape
 obtain ⟨AS, cS, hv2, -, -⟩ := HS3.out.shape
 subst hv1 hv2
 go_wp2_with (refine wpList_store_to rfl 50 _ _ rfl B (rmc 0 (.slice AN [rootN].length cN) (.slice AS ([] : List Se).length cS) (.slice none 0 0) (.slice none 0 0)) (rmc 0 (.slice none 0 0) (.slice none 0 0) (.slice none 0 0) (.slice none 0 0)) 50 rfl rfl X3.out szRmP rfl (rmc_all _ _ _ _ _ _ _ _ _ _ _ _ _) ?_)
 intro w4 e1 e2 e3 e4
 have V4 := lhd e1
 have KR := lhd (Keep.store (T := fun e => e = 50) (b := B) X3.out rfl (Nat.le_refl _) e2 e4)
 go_wp2
 refine bodyPost_ret (v := .agg (rmc 0 (.slice AN [rootN].length cN) (.slice AS ([] : List Se).length cS) (.slice none 0 0) (.slice none 0 0)).toArray) ?_ rfl ?_
 ·exact ret_blkUL rfl _ _ B 50 (rmc 0 (.slice AN [rootN].length cN) (.slice AS ([] : List Se).length cS) (.slice none 0 0) (.slice none 0 0)) rfl V4.out dR huR hdR szRmP
 ·have hN : RdE NdK w4.heap.size w4 (.slice AN [rootN].length cN) [rootN] := HN3.out.toE.at_block (fun a n c h => e4 _ (HNW.out a n c h)) (by omega)
  have hS : RdE SeK w4.heap.size w4 (.slice AS ([] : List Se).length cS) [] := HS3.out.none_any
  exact ⟨_, _, _, _, rfl, ⟨RdNd.ofE hN, hS, RdE.nil _ _, ⟨[], rfl, RdE.nil _ _, fun _ h => by cases h⟩⟩, by rw [HBB.out]; exact HB3.out.trans e3⟩
section
variable {P : Program} {l : List Oper} {Q : Exit → Act → World → Prop} {F : (Nat → Value) → Act} {Φ : Nat → Value → World → Prop} {w0 : World}
theorem StepsAt.rel (j : Nat) {n : Nat} {o : Oper} {r : List Oper} (hk : ∀ v w w', Φ j v w → Below w.heap.size w w' → Φ j v w') (hp : ∀ x v, (F x).put o.dst v = F (upd x j v)) (ho : l[j]? = some o) (hg : o.guard = none)
 (h : ∀ x w, Below w0.heap.size w0 w → (∀ k, waitsB .any l.toArray j k = true → Φ k (x k) w) → ∃ v, (execOp (F x).eval o).run P w = .ok (.value v) w ∧ Φ j v w)
 (hr : StepsAt P l Q F Φ w0 n r (j + 1)) : StepsAt P l Q F Φ w0 (n + 1) (o :: r) j := by
 refine StepsAt.cons j hk hp hg ho (fun x w hb hd K hK => ?_) hr
 obtain ⟨v, h1, h2⟩ := h x w hb hd
 unfold Oper.wp
 rw [h1]
 exact hK.out v w (Below.refl _ _) h2
end
def RmV (B : Nat) (r : Rm) (v : Value) (w : World) : Prop := ∃ vN vS vW vL, v = .agg (rmc (mT r) vN vS vW vL).toArray ∧ OwnRm B w vN vS vW vL r
def RpO (B : Nat) (x : Rp) (v : Value) (w : World) : Prop := ∃ nv, v = .agg (rpc x nv).toArray ∧ OwnE StK 9 w B nv (pN x)
def AppV (B : Nat) (y : Rm × Rp × List Ev) (v : Value) (w : World) : Prop :=
 ∃ a b c, v = .tuple #[a, b, c] ∧ RmV B y.1 a w ∧ RpO B y.2.1 b w ∧ EvO B w c y.2.2
def RmR (r : Rm) (v : Value) (w : World) : Prop := ∃ vN vS vW vL, v = .agg (rmc (mT r) vN vS vW vL).toArray ∧ RdRm w.heap.size w vN vS vW vL r
theorem RdRm.belowM {w w' : World} {vN vS vW vL : Value} {r : Rm} (h : RdRm w.heap.size w vN vS vW vL r) (hb : Below w.heap.size w w') : RdRm w'.heap.size w' vN vS vW vL r :=
 ⟨RdNd.ofE ((h.n.toE.below hb).more hb.size), (h.s.below hb).more hb.size, (h.t.below hb).more hb.size, (h.l.below hb).more hb.size⟩
theorem RmV.keep {B : Nat} {r : Rm} {v : Value} {w w' : World} (h : RmV B r v w) (hb : Below w.heap.size w w') : RmV B r v w' := by
 obtain ⟨vN, vS, vW, vL, h1, h2⟩ := h
 exact ⟨vN, vS, vW, vL, h1, h2.below hb⟩
theorem RpO.keep {B : Nat} {x : Rp} {v : Value} {w w' : World} (h : RpO B x v w) (hb : Below w.heap.size w w') : RpO B x v w' := by
 obtain ⟨nv, h1, h2⟩ := h
 exact ⟨nv, h1, h2.below hb (Nat.le_refl _)⟩
theorem AppV.keep {B : Nat} {y : Rm × Rp × List Ev} {v : Value} {w w' : World} (h : AppV B y v w) (hb : Below w.heap.size w w') : AppV B y v w' := by
 obtain ⟨a, b, c, h1, h2, h3, h4⟩ := h
 exact ⟨a, b, c, h1, h2.keep hb, h3.keep hb, h4.below hb⟩
theorem RmR.keep {r : Rm} {v : Value} {w w' : World} (h : RmR r v w) (hb : Below w.heap.size w w') : RmR r v w' := by
 obtain ⟨vN, vS, vW, vL, h1, h2⟩ := h
 exact ⟨vN, vS, vW, vL, h1, h2.belowM hb⟩
theorem AppO.val {y : Rm × Rp × List Ev} {w : World} {B : Nat} (hB : B ≤ w.heap.size) {e : Ending} {w' : World} (h : AppO y w e w') : ∃ v, e = .returned v ∧ AppV B y v w' ∧ Below w.heap.size w w' := by
 obtain ⟨vN, vS, vW, vL, nv, vE, h1, h2, h3, h4, h5⟩ := h
 exact ⟨_, h1, ⟨_, _, _, rfl, ⟨_, _, _, _, rfl, h2.base hB⟩, ⟨_, rfl, h3.base hB⟩, h4.imp id fun h => h.base hB⟩, h5⟩
end Go.Proofs.YtgfobinklijkpaaGreatDoor
