/-
  Texts RT IT BC BD IK.
-/
import Derived.Test.YtgfobinklijkpaaGreatDoorX01
import Derived.Lib.ConvBytes
import Derived.Test.YtgfobinklijkpaaGreatDoorX08
import Derived.Test.YtgfobinklijkpaaGreatDoorX09
import Derived.Test.YtgfobinklijkpaaGreatDoorX12
import Derived.Test.YtgfobinklijkpaaGreatDoorX14
import Derived.Test.YtgfobinklijkpaaGreatDoorX15
import Derived.Test.YtgfobinklijkpaaGreatDoorX16
import Derived.Test.YtgfobinklijkpaaGreatDoorX17
import Derived.Test.YtgfobinklijkpaaGreatDoorX21
namespace Go.Proofs.YtgfobinklijkpaaGreatDoor
set_option maxRecDepth 100000
set_option maxHeartbeats 16000000
open Go.RowKit
theorem mem_at {α : Type} {L : List α} (n : Nat) {p : α} (h : L[n]? = some p) : p ∈ L := List.mem_of_getElem? h
def Knows (x : Nat → Value) (L : List (Nat × Value)) : Prop := ∀ p ∈ L, x p.1 = p.2
theorem Knows.nil (x : Nat → Value) : Knows x [] := fun _ h => by cases h
theorem Knows.at_ {x : Nat → Value} {L : List (Nat × Value)} (h : Knows x L) (n : Nat) {k : Nat} {v : Value} (e : L[n]? = some (k, v)) : x k = v := h (k, v) (mem_at n e)
theorem Knows.add {x : Nat → Value} {L : List (Nat × Value)} (h : Knows x L) (i : Nat) (v : Value) (hi : (L.all fun p => p.1 != i) = true) : Knows (upd x i v) ((i, v) :: L) := by
 intro p hp
 rcases List.mem_cons.1 hp with rfl | hp
 ·exact upd_same _ _ _
 ·have := (List.all_eq_true.1 hi) p hp
  rw [upd_ne _ _ _ _ (by simpa using this)]
  exact h p hp
def StoresTo (P : Program) (o : Oper) (a : Act) (g j : Nat) (vs : List Value) : Prop :=
 ∃ t x y, o.op = .store t x y ∧ o.guard = none ∧ o.dst = none ∧ a.eval x = .pointer (some ⟨g, j, none⟩) ∧ (a.eval y = .agg vs.toArray ∨ vs = [a.eval y]) ∧ (P.info? t).map (·.size) = some vs.length ∧ vs.toArray.all (·.oneCell') = true
section
variable {P : Program} {l : List Oper} {Q : Exit → Act → World → Prop} {md : Region.Mode} {S : World → Prop} {m : Nat} {F : (Nat → Value) → Act}
theorem wp_storesTo {o : Oper} {a : Act} {w : World} {K : Act → World → Prop} {g j : Nat} {cs vs : List Value} {u : TypeId} (h : StoresTo P o a g j vs) (hb : Blk w g cs u) (hj : j + vs.length ≤ cs.length)
 (hk : ∀ w', Blk w' g (putL cs j vs) u → w'.heap.size = w.heap.size → Below g w w' → (∀ k, k ≠ g → w'.heap[k]? = w.heap[k]?) → K a w') : Oper.wp P o a w K Q := by
 obtain ⟨t, x, y, ho, _, hd, hx, hy, hi, h1⟩ := h
 have hput : a.put o.dst undef = a := by rw [hd]; rfl
 rcases hy with hy | hy
 ·refine wp_store_mid t x y ho g j vs.toArray hx hy (by simpa using hb.thereP j vs.length hj) (by simpa using hi) h1 ?_
  rw [hput, List.toList_toArray]
  exact hk _ (Blk.puts vs j w cs hb) (setCells_sizeE g vs j w) (below_setCellsE (Nat.le_refl g) vs j w (Below.refl g w)) (fun k hne => setCells_otherE g vs j w k hne)
 ·rw [hy] at hi hj h1 hk
  have h2 : (a.eval y).oneCell' = true := by simpa using h1
  unfold Oper.wp execOp
  simp only [ho, hx, Instr.storeAt, Instr.sureAddr, Sem.run_bind, Sem.run_pure, Result.andThen_ok, run_storeVar_cell w g j u t cs _ hb hi hj h2]
  have hput2 : a.put o.dst undef = a := hput
  refine cast (congrArg (fun q => K q _) hput2.symm) (hk _ (Blk.puts [a.eval y] j w cs hb) (setCells_sizeE g [a.eval y] j w) (below_setCellsE (Nat.le_refl g) [a.eval y] j w (Below.refl g w)) (fun k hne => setCells_otherE g [a.eval y] j w k hne))
theorem wanted_none {o : Oper} {ys : Nat → Option Bool} (h : o.guard = none) : Region.wanted o ys = true := by simp [Region.wanted, h]
theorem wp_region_tillK (N : Nat) (F : (Nat → Value) → Act) (x0 : Nat → Value) (S : World → Prop) {id : Nat} {a : Act} {w : World} (ha : a = F x0) (hN : l.length = N) (hm : P.follows .mixedOrders = true)
 (h : ∀ x, Knows x [] → AnyTill P .any l.toArray (NoPanic Q) S N N (Array.replicate N false) (F x) w.drew) : (Code.region id l.toArray true).wp P Q a w := by
 rw [ha]
 exact wp_region_till N N S hm (by simpa using hN) (h x0 (Knows.nil _))
theorem AnyTill.takeK {x : Nat → Value} {L : List (Nat × Value)} (i : Nat) (v : Value) {oi : Oper} {n : Nat} {listed : Array Bool} {w : World} (hi : l[i]? = some oi) (hsel : Region.noSelect l.toArray = true) (hm : (l[m]?).isNone = true) (hml : listed.getD m false = false)
 (hf : Region.free md l.toArray listed i = true) (hr : (Region.ready md l.toArray listed).contains i = true) {G : (Nat → Value) → Act} (hF : Hid (F = G)) (hg : Region.wanted oi (yielded l.toArray (G x).tmps) = true) (hp : ∀ x v, (G x).put oi.dst v = G (upd x i v)) (hL : Knows x L) (hi2 : (L.all fun p => p.1 != i) = true)
 (hy : ∀ w, S w → (execOp (G x).eval oi).run P w = .ok (.value v) w) (hS : S w)
 (h : ∀ x', Knows x' ((i, v) :: L) → AnyTill P md l.toArray (NoPanic Q) S m n (listed.setIfInBounds i true) (F x') w) : AnyTill P md l.toArray (NoPanic Q) S m (n + 1) listed (F x) w := by
 obtain rfl := hF.out
 have hw : waitsB md l.toArray m i = true := by
  unfold waitsB
  rw [show l.toArray[m]? = none by simpa using hm]
 refine AnyTill.take hi hsel (by rw [hw, hml]; rfl) hf hr (fun _ _ _ h => (h : False).elim) hg hy hS ?_
 rw [hp]
 exact h _ (hL.add i v hi2)
theorem AnyTill.skipK {x : Nat → Value} {L : List (Nat × Value)} (i : Nat) {oi : Oper} {n : Nat} {listed : Array Bool} {w : World} (hi : l[i]? = some oi) (hsel : Region.noSelect l.toArray = true) (hm : (l[m]?).isNone = true) (hml : listed.getD m false = false)
 (hf : Region.free md l.toArray listed i = true) (hr : (Region.ready md l.toArray listed).contains i = true) {G : (Nat → Value) → Act} (hF : Hid (F = G)) (hg : Region.wanted oi (yielded l.toArray (G x).tmps) = false) (hp : ∀ x v, (G x).put oi.dst v = G (upd x i v)) (hL : Knows x L) (hi2 : (L.all fun p => p.1 != i) = true) (hS : S w)
 (h : ∀ x', Knows x' ((i, undef) :: L) → AnyTill P md l.toArray (NoPanic Q) S m n (listed.setIfInBounds i true) (F x') w) : AnyTill P md l.toArray (NoPanic Q) S m (n + 1) listed (F x) w := by
 obtain rfl := hF.out
 have hw : waitsB md l.toArray m i = true := by
  unfold waitsB
  rw [show l.toArray[m]? = none by simpa using hm]
 refine AnyTill.first (by simpa using hi) hsel hw (fun _ _ _ h => (h : False).elim) n listed (F x) w hml (Region.free_spec (by simpa using hi) hf) (by simpa using hr) (v := undef) (.inr ⟨hg, rfl⟩) hS ?_
 rw [hp]
 exact h _ (hL.add i undef hi2)
theorem AnyTill.oneK {x : Nat → Value} {L : List (Nat × Value)} (i : Nat) {o : Oper} {n : Nat} {listed : Array Bool} {w : World} (hr : Region.ready md l.toArray listed = [i]) (ho : l[i]? = some o) {G : (Nat → Value) → Act} (hF : Hid (F = G)) (hg : Region.wanted o (yielded l.toArray (G x).tmps) = true) (hp : ∀ x v, (G x).put o.dst v = G (upd x i v)) (hL : Knows x L) (hi2 : (L.all fun p => p.1 != i) = true)
 (h : ∀ K : Act → World → Prop, Shut (∀ v w', S w' → (∀ x', Knows x' ((i, v) :: L) → AnyTill P md l.toArray (NoPanic Q) S m n (listed.setIfInBounds i true) (F x') w') → K ((G x).put o.dst v) w') → Oper.wp P o (G x) w K (NoPanic Q)) : AnyTill P md l.toArray (NoPanic Q) S m (n + 1) listed (F x) w := by
 obtain rfl := hF.out
 refine AnyTill.one hr ho hg (fun K hK => h K fun v w' h1 h2 => hK.out _ _ (.inr h1) ?_)
 rw [hp]
 exact h2 _ (hL.add i v hi2)
theorem AnyTill.store1 (i : Nat) {x : Nat → Value} {o : Oper} {n : Nat} {listed : Array Bool} {w : World} (hr : Region.ready md l.toArray listed = [i]) (ho : l[i]? = some o) {g a : Nat} {cs vs : List Value} {u : TypeId} {G : (Nat → Value) → Act} (hF : Hid (F = G)) (h1 : StoresTo P o (G x) g a vs) (hb : Blk w g cs u) (l1 : a + vs.length ≤ cs.length)
 (hS : ∀ w', w'.heap.size = w.heap.size → (∀ k, k ≠ g → w'.heap[k]? = w.heap[k]?) → S w')
 (h : ∀ w', Blk w' g (putL cs a vs) u → w'.heap.size = w.heap.size → Below g w w' → (∀ k, k ≠ g → w'.heap[k]? = w.heap[k]?) → AnyTill P md l.toArray Q S m n (listed.setIfInBounds i true) (F x) w') : AnyTill P md l.toArray Q S m (n + 1) listed (F x) w := by
 obtain rfl := hF.out
 have hg : o.guard = none := by obtain ⟨_, _, _, _, h, _⟩ := h1; exact h
 refine AnyTill.one hr ho (wanted_none hg) (fun K hK => wp_storesTo h1 hb l1 fun w' b1 b2 b3 b4 => hK.out _ _ (.inr (hS w' b2 b4)) (h w' b1 b2 b3 b4))
end
theorem AnyTill.tk {P : Program} {l : List Oper} {Q : Exit → Act → World → Prop} {md : Region.Mode} {S : World → Prop} {m : Nat} {F : (Nat → Value) → Act} {x : Nat → Value} {L : List (Nat × Value)} (i : Nat) (v : Value) {oi : Oper} {n : Nat} {listed : Array Bool} {w : World} {G : (Nat → Value) → Act} (hg : Region.wanted oi (yielded l.toArray (G x).tmps) = true) (hF : Hid (F = G)) (hL : Knows x L)
 (hy : ∀ w, S w → (execOp (G x).eval oi).run P w = .ok (.value v) w) (hS : S w)
 (h : ∀ x', Knows x' ((i, v) :: L) → AnyTill P md l.toArray (NoPanic Q) S m n (listed.setIfInBounds i true) (F x') w)
 (hi : l[i]? = some oi := by rfl) (hsel : Region.noSelect l.toArray = true := by kernel_rfl) (hm : (l[m]?).isNone = true := by rfl) (hml : listed.getD m false = false := by rfl) (hf : Region.free md l.toArray listed i = true := by kernel_rfl) (hr : (Region.ready md l.toArray listed).contains i = true := by kernel_rfl) (hp : ∀ x v, (G x).put oi.dst v = G (upd x i v) := by exact fun _ _ => rfl) (hi2 : (L.all fun p => p.1 != i) = true := by rfl) : AnyTill P md l.toArray (NoPanic Q) S m (n + 1) listed (F x) w :=
 AnyTill.takeK i v hi hsel hm hml hf hr hF hg hp hL hi2 hy hS h
def tnc (t : Int) (vN vS vW vL : Value) (x : Rp) (nv vC : Value) : List Value := [vN, .int .i64 t, vS, vW, vL, .int .i64 (pC x), .int .i64 (pQ x), .int .i64 (pE x), txt (pV x), .int .i64 (pR x), nv, vC]
theorem tnc_all (t : Int) (x : Rp) (A0 A1 A2 A3 A4 A5 : Option Addr) (n0 n1 n2 n3 n4 n5 c0 c1 c2 c3 c4 c5 : Nat) : (tnc t (.slice A0 n0 c0) (.slice A1 n1 c1) (.slice A2 n2 c2) (.slice A3 n3 c3) x (.slice A4 n4 c4) (.slice A5 n5 c5)).toArray.all (·.oneCell') = true := by
 rw [Array.all_eq_true_iff_forall_mem]
 intro v hv
 simp only [tnc, List.mem_toArray, List.mem_cons, List.not_mem_nil, or_false] at hv
 rcases hv with rfl | rfl | rfl | rfl | rfl | rfl | rfl | rfl | rfl | rfl | rfl | rfl <;> rfl
theorem szTn : (Tryz.prog.info? 206).map (·.size) = some 12 := by kernel_rfl
theorem zeroTn : (Tryz.prog.info? 206).map (·.zero) = some (some (.agg (tnc 0 (.slice none 0 0) (.slice none 0 0) (.slice none 0 0) (.slice none 0 0) rp0 (.slice none 0 0) (.slice none 0 0)).toArray)) := by kernel_rfl
theorem rowShT : ∃ d, Tryz.prog.underlying 41 = some d ∧ d.isRow = true := ⟨_, Tryz.underlying41, rfl⟩
theorem szShT : (Tryz.prog.info? 41).map (·.size) = some 1 := by kernel_rfl
theorem rowBkT : ∃ d, Tryz.prog.underlying 44 = some d ∧ d.isRow = true := ⟨_, Tryz.underlying44, rfl⟩
theorem szBkT : (Tryz.prog.info? 44).map (·.size) = some 2 := by kernel_rfl
theorem rowTaT : ∃ d, Tryz.prog.underlying 47 = some d ∧ d.isRow = true := ⟨_, Tryz.underlying47, rfl⟩
theorem szTaT : (Tryz.prog.info? 47).map (·.size) = some 1 := by kernel_rfl
theorem rowRpT : ∃ d, Tryz.prog.underlying 79 = some d ∧ d.isRow = true := ⟨_, Tryz.underlying79, rfl⟩
theorem szRpT : (Tryz.prog.info? 79).map (·.size) = some 6 := by kernel_rfl
theorem zeroRpT : (Tryz.prog.info? 79).map (·.zero) = some (some (.agg (rpc rp0 (.slice none 0 0)).toArray)) := by kernel_rfl
theorem szErT : (Tryz.prog.info? 25).map (·.size) = some 1 := by kernel_rfl
theorem szNaT : (Tryz.prog.info? 77).map (·.size) = some 1 := by kernel_rfl
theorem szChT : (Tryz.prog.info? 204).map (·.size) = some 1 := by kernel_rfl
theorem rowOrT : ∃ d, Tryz.prog.underlying 86 = some d ∧ d.isRow = true := ⟨_, Tryz.underlying86, rfl⟩
theorem szOrT : (Tryz.prog.info? 86).map (·.size) = some 8 := by kernel_rfl
def TT (e : TypeId) : Prop := e = 206 ∨ e = 235
theorem TT_nd : ¬ TT 157 := by unfold TT; decide
theorem TT_se : ¬ TT 160 := by unfold TT; decide
theorem TT_wa : ¬ TT 163 := by unfold TT; decide
theorem TT_rp : ¬ TT 79 := by unfold TT; decide
theorem TT_st : ¬ TT 9 := by unfold TT; decide
theorem TT_or : ¬ TT 86 := by unfold TT; decide
theorem Blk.keepT {T : TypeId → Prop} {b g : Nat} {w w' : World} {cs : List Value} {t : TypeId} (h : Blk w g cs t) (hk : Keep T b w w') (hT : ¬ T t) : Blk w' g cs t := h.same (hk.other g _ _ _ h hT)
structure TnF (a b : Nat) (w : World) (vN vS vW vL nv : Value) (r : Rm) (x : Rp) : Prop where
 n : GoE NdK 157 a w vN (mN r)
 s : GoE SeK 160 a w vS (mS r)
 t : GoE WaK 163 a w vW (mW r)
 l : GoRp 79 9 a w vL (mL r)
 x : GoE StK 9 a w nv (pN x)
 ab : a ≤ b
theorem TnF.keep {a b : Nat} {w w' : World} {vN vS vW vL nv : Value} {r : Rm} {x : Rp} (h : TnF a b w vN vS vW vL nv r x) (hk : Keep TT b w w') : TnF a b w' vN vS vW vL nv r x :=
 ⟨h.n.keep hk TT_nd h.ab, h.s.keep hk TT_se h.ab, h.t.keep hk TT_wa h.ab, h.l.keep hk TT_rp TT_st h.ab, h.x.keep hk TT_st h.ab, h.ab⟩
def TnP (a b g : Nat) (w : World) (r : Rm) (x : Rp) (cs : List Ch) : Prop :=
 ∃ vN vS vW vL nv vC, Blk w g (tnc (mT r) vN vS vW vL x nv vC) 206 ∧ TnF a b w vN vS vW vL nv r x ∧ OwnE ChK 235 w b vC cs ∧ b ≤ g
structure Kp (b : Nat) (w w' : World) : Prop where
 bel : Below b w w'
 k : Keep TT b w w'
theorem Kp.trans {b : Nat} {w w' w'' : World} (h : Kp b w w') (h' : Kp b w' w'') : Kp b w w'' := ⟨h.bel.trans h'.bel, h.k.trans h'.k⟩
theorem Kp.of {b : Nat} {w w' : World} (hb : Below w.heap.size w w') (hs : b ≤ w.heap.size) : Kp b w w' := ⟨hb.mono hs, .of hb hs⟩
theorem Kp.store {b g : Nat} {w w' : World} {cs : List Value} (hx : Blk w g cs 206) (hg : b ≤ g) (hs : w'.heap.size = w.heap.size) (hb : Below g w w') (ho : ∀ k, k ≠ g → w'.heap[k]? = w.heap[k]?) : Kp b w w' := ⟨hb.mono hg, .store hx (.inl rfl) hg hs ho⟩
theorem Kp.le {b : Nat} {w w' : World} (h : Kp b w w') : b ≤ w'.heap.size := Nat.le_trans h.k.le h.k.size
def TnQ (a b g : Nat) (r : Rm) (x : Rp) (cs : List Ch) (w : World) (e : Ending) (w' : World) : Prop := (∃ v, e = .returned v) ∧ TnP a b g w' r x cs ∧ Kp b w w'
theorem wp_load_part {P : Program} {w : World} {o : Oper} {a : Act} {K : Act → World → Prop} {Q : Exit → Act → World → Prop} (t : TypeId) (x : Operand) (ho : o.op = .load t x) (g j : Nat) (cs vs : List Value) (u : TypeId)
 (hx : a.eval x = .pointer (some ⟨g, j, none⟩)) (hb : Blk w g cs u) (hv : (cs.drop j).take vs.length = vs) {d : TypeDesc} (hu : P.underlying t = some d) (hd : d.isRow = true) (hi : (P.info? t).map (·.size) = some vs.length)
 (h : K (a.put o.dst (.agg vs.toArray)) w) : Oper.wp P o a w K Q := by
 refine wp_load_mid t x ho g j hx vs d (fun i v hv2 => ?_) hu hd hi h
 rw [hb.cell (j + i), ← List.getElem?_drop]
 rw [← hv] at hv2
 rw [List.getElem?_take] at hv2
 split at hv2
 ·exact hv2
 ·cases hv2
theorem run_load_part {P : Program} {w : World} {o : Oper} {a : Act} (t : TypeId) (x : Operand) (ho : o.op = .load t x) (g j : Nat) (cs vs : List Value) (u : TypeId)
 (hx : a.eval x = .pointer (some ⟨g, j, none⟩)) (hb : Blk w g cs u) (hv : (cs.drop j).take vs.length = vs) {d : TypeDesc} (hu : P.underlying t = some d) (hd : d.isRow = true) (hi : (P.info? t).map (·.size) = some vs.length) : (execOp a.eval o).run P w = .ok (.value (.agg vs.toArray)) w := by
 unfold execOp
 simp only [ho, hx, Instr.loadAt, Instr.sureAddr, Sem.run_bind, Sem.run_pure, Result.andThen_ok]
 rw [run_loadVar_mid w g j t vs d (fun i v hv2 => ?_) hu hd hi]
 ·rfl
 ·rw [hb.cell (j + i), ← List.getElem?_drop]
  rw [← hv] at hv2
  rw [List.getElem?_take] at hv2
  split at hv2
  ·exact hv2
  ·cases hv2
def NewBx (t : TypeId) (cs : List Value) (B : Nat) (u : Value) (w : World) : Prop := ∃ g, u = .pointer (some ⟨g, 0, none⟩) ∧ Blk w g cs t ∧ B ≤ g
theorem NewBx.keep {t : TypeId} {cs : List Value} {B : Nat} {u : Value} {w w' : World} (h : NewBx t cs B u w) (hb : Below w.heap.size w w') : NewBx t cs B u w' := by
 obtain ⟨g, h1, h2, h3⟩ := h
 exact ⟨g, h1, h2.below hb h2.lt, h3⟩
theorem TnP.keep {a b g : Nat} {w w' : World} {r : Rm} {x : Rp} {cs : List Ch} (h : TnP a b g w r x cs) (hb : Below w.heap.size w w') (hs : b ≤ w.heap.size) : TnP a b g w' r x cs := by
 obtain ⟨vN, vS, vW, vL, nv, vC, hX, hF, hC, hbg⟩ := h
 exact ⟨vN, vS, vW, vL, nv, vC, hX.below hb hX.lt, hF.keep (.of hb hs), hC.below hb (Nat.le_refl _), hbg⟩
theorem OwnE.shape {α : Type} {E : RowK α} {e : TypeId} {w : World} {b : Nat} {v : Value} {l : List α} (h : OwnE E e w b v l) : ∃ A c, v = .slice A l.length c := by
 obtain ⟨A, c, hv, _⟩ := h.rd.shape
 exact ⟨A, c, hv⟩
def encV (l : List Or) : List UInt8 := if encE l = 0 then encB l else []
theorem fits_ns (o : Or) (h : mayO o = true) (hf : fitsO o) : ∀ n ∈ nsO o, fit64 n := by
 obtain ⟨m1, m2, m3, m4, m5, m6, m7, m8⟩ := may_sized h
 intro n hn
 have hn : n ∈ [oC o, oQ o, oK o, oR o, oS o, oT o] := hn
 simp only [List.mem_cons, List.not_mem_nil, or_false] at hn
 rcases hn with rfl | rfl | rfl | rfl | rfl | rfl
 ·exact ⟨by omega, by omega⟩
 ·exact ⟨by omega, by omega⟩
 ·exact ⟨by omega, by omega⟩
 ·exact hf.1
 ·exact hf.2.1
 ·exact hf.2.2
theorem enc_large (l : List Or) (h : 10 < l.length) : encV l = [] ∧ encE l = 5 := by
 have e : encE l = 5 := by unfold encE; rw [if_pos h]
 refine ⟨?_, e⟩
 unfold encV
 rw [e, if_neg (by decide)]
theorem enc_bad (l : List Or) (h : ¬ 10 < l.length) (i : Nat) (hi : i < l.length) (hb : mayO (l.getD i or0) = false) : encV l = [] ∧ encE l = 1 := by
 have e : encE l = 1 := by
  unfold encE
  rw [if_neg h, if_neg]
  intro ha
  rw [List.all_eq_true] at ha
  have := ha (l.getD i or0) (by rw [List.getD_eq_getElem?_getD, List.getElem?_eq_getElem hi]; exact List.getElem_mem hi)
  rw [hb] at this
  cases this
 refine ⟨?_, e⟩
 unfold encV
 rw [e, if_neg (by decide)]
theorem enc_good (l : List Or) (h : ¬ 10 < l.length) (ha : ∀ j, j < l.length → mayO (l.getD j or0) = true) : encV l = encB l ∧ encE l = 0 := by
 have e : encE l = 0 := by
  unfold encE
  rw [if_neg h, if_pos]
  rw [List.all_eq_true]
  intro x hx
  obtain ⟨j, hj, rfl⟩ := List.getElem_of_mem hx
  have := ha j hj
  rwa [List.getD_eq_getElem?_getD, List.getElem?_eq_getElem hj] at this
 refine ⟨?_, e⟩
 unfold encV
 rw [e, if_pos rfl]
theorem or_take (l : List Or) (i : Nat) (hi : i < l.length) : l.take (i + 1) = l.take i ++ [l.getD i or0] := by
 rw [List.getD_eq_getElem?_getD, List.getElem?_eq_getElem hi, List.take_add_one, List.getElem?_eq_getElem hi]
 rfl
theorem or_mem (l : List Or) (i : Nat) (hi : i < l.length) : l.getD i or0 ∈ l := by
 rw [List.getD_eq_getElem?_getD, List.getElem?_eq_getElem hi]
 exact List.getElem_mem hi
theorem encOs_few (l : List Or) (i : Nat) (hi : i ≤ l.length) (ha : ∀ j, j < i → mayO (l.getD j or0) = true) : (encOs (l.take i)).length ≤ 1200 * i := by
 have h := encOs_len (l.take i) (fun o ho => by
  obtain ⟨j, hj, rfl⟩ := List.getElem_of_mem ho
  rw [List.length_take] at hj
  have := ha j (by omega)
  rw [List.getD_eq_getElem?_getD, List.getElem?_eq_getElem (by omega)] at this
  rw [List.getElem_take]
  exact this)
 rw [List.length_take, Nat.min_eq_left hi] at h
 exact h
theorem btEncode_any (l : List Or) (v : Value) (w : World) (hr : RdE OrK w.heap.size w v l) (hf : ∀ o ∈ l, fitsO o) : Calls Tryz.prog 9 #[v] w (One (.tuple #[txt (encV l), .int .i64 (encE l)]) w) := by
 obtain ⟨A, cp, rfl, hc, hm⟩ := hr.shape
 unfold maxLen at hm
 obtain ⟨n, hn⟩ : ∃ n, l.length = n := ⟨_, rfl⟩
 have HN := lhd hn
 have HR := lhd hr
 have HF := lhd hf
 rw [hn] at hc HR
 clear hr hf
 obtain ⟨V, hV⟩ : ∃ V, encV l = V := ⟨_, rfl⟩
 obtain ⟨F, hE⟩ : ∃ F, encE l = F := ⟨_, rfl⟩
 have HV := lhd hV
 have HE := lhd hE
 rw [hV, hE, hn]
 clear hV hE hn
 obtain ⟨dO, huO, hdO⟩ := rowOrP
 go_enter Tryz.func9, Tryz.ntmps9
 have HB := lhd (Below.refl w.heap.size w)
 by_cases h10 : (10 : Int) < (n : Int)
 ·have h1 := enc_large l (by rw [HN.out]; omega)
  have HX : Hid (V = [] ∧ F = 5) := lhd (by rw [← HV.out, ← HE.out]; exact h1)
  clear h1
  go_wp2
  go_ret2
  exact ⟨by rw [HX.out.1, HX.out.2]; rfl, HB.out⟩
 have hw : IntKind.u64.wrap (n : Int) = (n : Int) := by rw [IntKind.wrap_u64]; omega
 go_wp2_with fail
 refine (put_any (.slice none 0 0) [] (n : Int) w (Rd.nil _ _) (by omega) (by omega) (by simp)).mono ?_
 rintro e w1 ⟨v1, rfl, hown, hb⟩
 have e1 : ([] : List UInt8) ++ enc (n : Int).toNat = enc n ++ encOs (l.take 0) := by simp [encOs]
 rw [e1] at hown
 have HO := lhd hown
 have HB1 := lhd hb
 clear e1 hown hb hw HB
 go_wp2
 go_loopw [4, 16] (fun o x wr => ∃ i : Nat, i ≤ n ∧ x = .int .i64 (i : Int) ∧ Hid (Own 5 wr w.heap.size o (enc n ++ encOs (l.take i))) ∧ Hid (∀ j, j < i → mayO (l.getD j or0) = true) ∧ Hid (Below w.heap.size w wr)) (fun _ x _ => n - (intOf x).toNat)
 case atStart => exact ⟨0, by omega, rfl, HO, lhd (fun j hj => by omega), HB1⟩
 case round =>
  clear HO HB1
  obtain ⟨i, hi, rfl, HO, HA, HB⟩ := hrel
  have hsz := HB.out.size
  by_cases hi2 : i < n
  ·have zi : (i : Int) < (n : Int) := by omega
   have hil : i < l.length := by rw [HN.out]; exact hi2
   obtain ⟨a, hA, c0, c1, c2, c3, c4, c5, c6, c7⟩ := ((HR.out.below HB.out).more hsz).atOr i hil
   subst hA
   have hT := or_take l i hil
   have hM := or_mem l i hil
   have hfo := HF.out _ hM
   have hfew := encOs_few l i (by omega) HA.out
   obtain ⟨o, ho⟩ : ∃ o, l.getD i or0 = o := ⟨_, rfl⟩
   rw [ho] at c0 c1 c2 c3 c4 c5 c6 c7 hT hfo
   have HT := lhd hT
   have HFO := lhd hfo
   have HOO := lhd ho
   have HFW := lhd hfew
   clear hil hT hM hfo ho hfew
   go_wp2_with (refine wpList_alloc_blk rfl 86 rfl (orc or0) zeroOrP ?_)
   intro wa a1 a2 a3
   obtain ⟨g, hg⟩ : ∃ g, wr.heap.size = g := ⟨_, rfl⟩
   have A1 := lhd a1
   have BA := lhd a3
   have HG := lhd hg
   rw [hg] at A1 ⊢
   clear a1 a2 a3 hg c0 c1 c2 c3 c4 c5 c6 c7
   go_wp2_with (refine wpList_store_to rfl 86 _ _ rfl g (orc o) (orc or0) 86 rfl rfl A1.out szOrP rfl (orc_all o) ?_)
   intro wb e1 e2 e3 e4
   have A2 := lhd e1
   have BB : Hid (Below wr.heap.size wr wb) := lhd (BA.out.trans (by rw [HG.out]; exact e3))
   clear e1 e2 e3 e4 A1 BA
   go_wp2_with (refine wpList_load_part rfl 86 _ rfl g 0 (orc o) (orc o) 86 rfl A2.out rfl huO hdO szOrP ?_)
   refine (orMay_any o wb).mono ?_
   rintro e w3 ⟨rfl, hb⟩
   have hbb : wb.heap.size ≤ w3.heap.size := hb.size
   have B3 : Hid (Below wr.heap.size wr w3) := lhd (BB.out.trans (hb.mono BB.out.size))
   have A3 := lhd (A2.out.below hb A2.out.lt)
   clear hb hbb A2 BB
   obtain ⟨M, hM⟩ : ∃ M, mayO o = M := ⟨_, rfl⟩
   have HM := lhd hM
   rw [hM]
   clear hM
   cases M
   ·have h1 := enc_bad l (by rw [HN.out]; omega) i (by rw [HN.out]; exact hi2) (by rw [HOO.out]; exact HM.out)
    have HX : Hid (V = [] ∧ F = 1) := lhd (by rw [← HV.out, ← HE.out]; exact h1)
    have HB4 : Hid (Below w.heap.size w w3) := lhd (HB.out.trans (B3.out.mono hsz))
    clear h1
    go_wp2
    go_ret2
    exact ⟨by rw [HX.out.1, HX.out.2]; rfl, HB4.out⟩
   have O3 : Hid (Own 5 w3 w.heap.size u4 (enc n ++ encOs (l.take i))) := lhd (HO.out.below B3.out (Nat.le_refl _))
   have hlen : (enc n ++ encOs (l.take i)).length + (oP o).length + (oV o).length ≤ 1000000 := by
    have h1 := HFW.out
    have h2 := may_sized HM.out
    have h3 := enc_length n
    have h4 := wid_le n
    rw [List.length_append]
    omega
   have HLE := lhd hlen
   clear hlen
   go_wp2_with (refine wpList_load_part rfl 86 _ rfl g 0 (orc o) (orc o) 86 rfl A3.out rfl huO hdO szOrP ?_)
   refine (orPut_any u4 (enc n ++ encOs (l.take i)) o w3 O3.out.rd (fits_ns o HM.out HFO.out) HLE.out).mono ?_
   rintro e w4 ⟨v4, rfl, hown, hb⟩
   have hs3 : w.heap.size ≤ w3.heap.size := Nat.le_trans hsz B3.out.size
   have e5 : (enc n ++ encOs (l.take i)) ++ encO o = enc n ++ encOs (l.take (i + 1)) := by
    rw [HT.out, encOs_append, encOs_one, List.append_assoc]
   rw [e5] at hown
   have HO4 : Hid (Own 5 w4 w.heap.size v4 (enc n ++ encOs (l.take (i + 1)))) := lhd (hown.base hs3)
   have HB4 : Hid (Below w.heap.size w w4) := lhd ((HB.out.trans (B3.out.mono hsz)).trans (hb.mono hs3))
   have HA4 : Hid (∀ j, j < i + 1 → mayO (l.getD j or0) = true) := by
    refine lhd (fun j hj => ?_)
    by_cases h : j < i
    ·exact HA.out j h
    ·obtain rfl : j = i := by omega
     rw [HOO.out]
     exact HM.out
   clear e5 hown hb hs3
   go_wp2
   go_roundw
   case rel => exact ⟨i + 1, by omega, by go_num, HO4, HA4, HB4⟩
   case measure => first | (simp [intOf]; done) | (simp [intOf]; omega)
  ·obtain rfl : i = n := by omega
   have h1 := enc_good l (by rw [HN.out]; omega) (fun j hj => HA.out j (by rw [← HN.out]; exact hj))
   have e2 : enc i ++ encOs (l.take i) = V := by
    rw [← HV.out, h1.1, ← HN.out, List.take_length]
    rfl
   have HX : Hid (F = 0) := lhd (by rw [← HE.out]; exact h1.2)
   have hrd := HO.out.rd
   rw [e2] at hrd
   obtain ⟨A3, c3, rfl, -, -⟩ := hrd.shape
   have hst := run_string_rd 92 9 5 Tryz.underlying92 Tryz.underlying5 Tryz.underlying9 hrd
   clear h1 e2 hrd HO
   go_wp2
   go_ret2
   exact ⟨by rw [HX.out]; rfl, HB.out⟩
theorem bytes_any {P : Program} (w : World) (src dst e : TypeId) (s : List UInt8) (hs : P.underlying src = some .string) (hd : P.underlying dst = some (.slice e)) (he : P.underlying e = some (.int .u8)) (hl : s.length ≤ maxLen) :
 ∃ A c w', (convert src dst (txt s)).run P w = .ok (.slice A s.length c) w' ∧ Rd w'.heap.size w' (.slice A s.length c) s ∧ Below w.heap.size w w' := by
 have hsz : (⟨s.toArray⟩ : ByteArray).size = s.length := ba_size s
 refine ⟨some ⟨w.heap.size, 0, none⟩, grownCap w s.length 0 e, Lib.bytesWorld w e ⟨s.toArray⟩, ?_, ?_, ?_⟩
 ·have h := Lib.run_convert_string_bytes w src dst e ⟨s.toArray⟩ hs hd he
  rw [hsz] at h
  exact h
 ·refine ⟨_, _, rfl, grownCap_ge _ _ _ _, grownCap_le_maxLen _ _ _ _ hl, (fun h => by cases h), fun a ha => ?_⟩
  injection ha with ha
  subst ha
  refine ⟨fun _ => by rw [Lib.bytesWorld_size]; exact Nat.lt_succ_self _, fun j hj => ?_⟩
  have h := Lib.bytesWorld_cell w e ⟨s.toArray⟩ j (by rw [hsz]; exact hj)
  have ha : (⟨w.heap.size, 0, none⟩ : Addr).add j = ⟨w.heap.size, j, none⟩ := by simp only [Addr.add]; split <;> simp_all
  rw [ha, h]
  simp [hj]
 ·exact ⟨rfl, rfl, rfl, by rw [Lib.bytesWorld_size]; omega, fun k hk => Lib.bytesWorld_at_old w e _ k hk⟩
def DecO (d : Option (List Or)) (w : World) (e : Ending) (w' : World) : Prop :=
 ∃ v, e = .returned (.tuple #[v, .int .i64 (if d.isSome then 0 else 3)]) ∧ RdE OrK w'.heap.size w' v (d.getD []) ∧ Below w.heap.size w w'
theorem DecO.no {d : Option (List Or)} {w w' : World} (h : d = none) (hb : Below w.heap.size w w') : DecO d w (.returned (.tuple #[.slice none 0 0, .int .i64 3])) w' := by
 subst h
 exact ⟨_, rfl, RdE.nil _ _, hb⟩
theorem takeOs_stop (k : Nat) (acc : List Or) (b : List UInt8) (h : (takeO b).2.2 ≠ 0) : takeOs (k + 1) acc b = none := by
 show (if (takeO b).2.2 = 0 then _ else none) = none
 rw [if_neg h]
theorem takeOs_step (k : Nat) (acc : List Or) (b r : List UInt8) (o : Or) (h : takeO b = (o, r, 0)) : takeOs (k + 1) acc b = takeOs k (acc ++ [o]) r := by
 show (if (takeO b).2.2 = 0 then takeOs k (acc ++ [(takeO b).1]) (takeO b).2.1 else none) = _
 rw [h, if_pos rfl]
theorem btDecode_any (s : List UInt8) (w : World) (hl : s.length ≤ 1000000) : Calls Tryz.prog 12 #[txt s] w (DecO (decB s) w) := by
 obtain ⟨dO, huO, hdO⟩ := rowOrP
 have HL := lhd hl
 clear hl
 go_enter Tryz.func12, Tryz.ntmps12
 obtain ⟨A, c, w1, hcv, hrd, hb1⟩ := bytes_any (P := Tryz.prog) w 9 92 5 s Tryz.underlying9 Tryz.underlying92 Tryz.underlying5 (by have := HL.out; unfold maxLen; omega)
 have R1 := lhd hrd
 have B1 := lhd hb1
 clear hrd hb1
 go_wp2_with fail
 refine (take_any (.slice A s.length c) s w1 R1.out (by have := HL.out; omega)).mono ?_
 rintro e w2 ⟨v2, rfl, hown, hb⟩
 have hsz1 := B1.out.size
 have hN := takeN_lt s
 have hrest := takeN_rest s
 obtain ⟨⟨n, rest, er⟩, hT⟩ : ∃ q, takeN s = q := ⟨_, rfl⟩
 rw [hT] at hown hN hrest
 dsimp only at hown hN hrest
 have hrl : rest.length ≤ 1000000 := Nat.le_trans hrest HL.out
 have HT := lhd hT
 have R2 : Hid (Rd w2.heap.size w2 v2 rest) := lhd hown.rd
 have B2 := lhd (B1.out.trans (hb.mono hsz1))
 have hn2 : (n : Int) ≤ 18446744073709551615 := by omega
 rw [hT]
 dsimp only
 clear hT hown hb hrest hcv R1 B1 hsz1
 by_cases he : er = 0
 ·subst he
  by_cases h10 : (10 : Int) < (n : Int)
  ·have HX := lhd (decB_few s (.inr (by rw [HT.out]; show 10 < n; omega)))
   go_wp2
   go_ret2
   exact DecO.no HX.out B2.out
  have hk10 : n ≤ 10 := by omega
  have h10f : decide ((10 : Int) < (n : Int)) = false := decide_eq_false h10
  go_wp2
  go_loopw [5, 6, 7, 23] (fun vr er vl x wr => ∃ k : Nat, k ≤ n ∧ x = .int .u64 (k : Int) ∧ ∃ (acc : List Or) (r : List UInt8), er = .int .i64 0 ∧ acc.length = k ∧ r.length ≤ 1000000 ∧ Hid (takeOs n [] rest = takeOs (n - k) acc r) ∧ Hid (Rd wr.heap.size wr vr r) ∧ Hid (OwnE OrK 86 wr w.heap.size vl acc) ∧ Hid (Below w.heap.size w wr)) (fun _ _ _ x _ => n - (intOf x).toNat)
  case atStart => exact ⟨0, Nat.zero_le _, rfl, [], rest, rfl, rfl, hrl, rfl, R2, OwnE.nil _ _ _, B2⟩
  case round =>
   clear R2 B2 hrl
   obtain ⟨k, hk, rfl, acc, r, rfl, hac, hrl, HK, HR, HO, HB⟩ := hrel
   have hsz := HB.out.size
   by_cases hlt : k < n
   ·have hlt2 : decide ((k : Int) < (n : Int)) = true := by simp; omega
    go_wp2_with (refine wpList_alloc_blk rfl 86 rfl (orc or0) zeroOrP ?_)
    intro wa a1 a2 a3
    obtain ⟨g, hg⟩ : ∃ g, wr.heap.size = g := ⟨_, rfl⟩
    have A1 := lhd a1
    have BA := lhd a3
    have HG := lhd hg
    have Ra := lhd ((HR.out.below a3).more a3.size)
    have hga : g < wa.heap.size := by rw [← hg]; exact a1.lt
    rw [hg] at A1 ⊢
    clear a1 a2 a3 hg
    go_wp2_with fail
    refine (orTake_own u5 r wa Ra.out hrl).mono ?_
    rintro e w3 ⟨v3, rfl, hr3, hb⟩
    obtain ⟨⟨o, r', er'⟩, hq⟩ : ∃ q, takeO r = q := ⟨_, rfl⟩
    have hless := takeO_lessB r
    rw [hq] at hr3 hless ⊢
    dsimp only at hr3 hless ⊢
    have hrl2 : r'.length ≤ 1000000 := Nat.le_trans hless hrl
    have HQ := lhd hq
    have R3 := lhd hr3
    have A3 := lhd (A1.out.below hb A1.out.lt)
    have B3 : Hid (Below wr.heap.size wr w3) := lhd (BA.out.trans (hb.mono BA.out.size))
    have ek : n - k = (n - (k + 1)) + 1 := by omega
    have HE := lhd ek
    clear hq hless hr3 hb ek Ra A1 BA HR
    go_wp2_with (refine wpList_store_to rfl 86 _ _ rfl g (orc o) (orc or0) 86 rfl rfl A3.out szOrP rfl (orc_all o) ?_)
    intro w4 e1 e2 e3 e4
    have A4 := lhd e1
    have B4 : Hid (Below wr.heap.size wr w4) := lhd (B3.out.trans (by rw [HG.out]; exact e3))
    have R4 : Hid (Own 5 w4 wa.heap.size v3 r') := lhd (R3.out.storedB hga e4)
    clear e1 e2 e3 e4 A3 B3 R3
    by_cases he3 : er' = 0
    ·subst he3
     have HK2 : Hid (takeOs n [] rest = takeOs (n - (k + 1)) (acc ++ [o]) r') := lhd (by rw [HK.out, HE.out, takeOs_step _ _ _ _ _ HQ.out])
     have O4 := lhd (HO.out.below B4.out (Nat.le_refl _))
     have hex : orc o = [.int .i64 (oC o), .int .i64 (oQ o), .int .i64 (oK o), txt (oP o), txt (oV o), .int .i64 (oR o), .int .i64 (oS o), .int .i64 (oT o)] := rfl
     clear HK HE HQ
     clear hex
     go_wp2_with (first | refine wpList_load_part rfl 86 _ rfl g 0 (orc o) [.int .i64 (oC o), .int .i64 (oQ o), .int .i64 (oK o), txt (oP o), txt (oV o), .int .i64 (oR o), .int .i64 (oS o), .int .i64 (oT o)] 86 rfl A4.out rfl huO hdO szOrP ?_ | (at_builtin; refine wpList_appF (E := OrK) rfl _ _ 22 rfl 86 80 Tryz.underlying22 kindOrP w.heap.size _ _ _ acc [o] rfl (O4.out.alloc _) rfl (RdE.one w4 86 o) ?d1 ?d2 ?d3 ?_))
     case d1 => simp only [List.length_cons, List.length_nil, hac]; omega
     case d2 => simp only [List.length_cons, List.length_nil, hac]; omega
     case d3 => have := B4.out.size; simp; omega
     intro v' we m1 m2 m3
     have hba : Below w4.heap.size w4 (w4.alloc (.cells (orc o).toArray 86)) := (Below.refl w4.heap.size w4).alloc (Nat.le_refl _) _
     have hs4 : w.heap.size ≤ w4.heap.size := Nat.le_trans hsz B4.out.size
     have HOe := lhd m1
     have HBe : Hid (Below w.heap.size w we) := lhd ((HB.out.trans (B4.out.mono hsz)).trans ((hba.mono hs4).trans m2))
     have Re : Hid (Rd we.heap.size we v3 r') := lhd (Own.rd (ownsRow_other (by decide) (R4.out.alloc (.cells (orc o).toArray 86)) (O4.out.alloc (.cells (orc o).toArray 86)) m3))
     clear m1 m2 m3 hba hs4 O4 B4 R4 A4 HB HO HG
     go_wp2
     go_roundw
     case rel => exact ⟨k + 1, by omega, by go_num, acc ++ [o], r', rfl, by simp only [List.length_append, List.length_cons, List.length_nil]; omega, hrl2, HK2, Re, HOe, HBe⟩
     case measure => simp [intOf]; omega
    ·have he4 : ((er' : Int) != 0) = true := by simp; omega
     have HX := lhd (decB_bad s (by rw [HT.out]; show takeOs n [] rest = none; rw [HK.out, HE.out]; exact takeOs_stop _ _ _ (by rw [HQ.out]; exact he3)))
     have HB5 := lhd (HB.out.trans (B4.out.mono hsz))
     go_wp2
     go_ret2
     exact DecO.no HX.out HB5.out
   ·obtain rfl : k = n := by omega
    have h1 := decB_ends s acc r (by rw [HT.out]) (by rw [HT.out]; exact hk10) (by rw [HT.out]; show takeOs k [] rest = _; rw [HK.out, Nat.sub_self]; rfl)
    have HX := lhd h1
    clear h1
    obtain ⟨A5, c5, rfl, -, -⟩ := HR.out.shape
    obtain ⟨m, hm⟩ : ∃ m, r.length = m := ⟨_, rfl⟩
    have HM := lhd hm
    rw [hm] at hrl ⊢
    clear hm
    by_cases hm0 : (0 : Int) < (m : Int)
    ·have HX2 : Hid (decB s = none) := lhd (by
      rw [HX.out, if_neg]
      intro h
      have := HM.out
      rw [h] at this
      simp only [List.length_nil] at this
      omega)
     go_wp2
     go_ret2
     exact DecO.no HX2.out HB.out
    ·have HX2 : Hid (decB s = some acc) := lhd (by
      rw [HX.out, if_pos]
      apply List.length_eq_zero_iff.1
      rw [HM.out]
      omega)
     have HR7 := lhd HO.out.rd
     go_wp2
     go_ret2
     rw [HX2.out]
     exact ⟨_, rfl, HR7.out, HB.out⟩
 ·have he1 : ((er : Int) != 0) = true := by simp; omega
  have HX := lhd (decB_few s (.inl (by rw [HT.out]; exact he)))
  go_wp2
  go_ret2
  exact DecO.no HX.out B2.out
theorem RdE.at6 {B : Nat} {w : World} {A : Option Addr} {n c : Nat} {l : List RpV} (h : RdE RvK B w (.slice A n c) l) (j : Nat) (hj : j < l.length) :
 ∃ a, A = some a ∧ w.cell? (a.add (j * 6)) = some (.int .i64 (l.getD j rv0).1) ∧ w.cell? ⟨(a.add (j * 6)).block, (a.add (j * 6)).off + 1, none⟩ = some (.int .i64 (l.getD j rv0).2.1) ∧ w.cell? ⟨(a.add (j * 6)).block, (a.add (j * 6)).off + 2, none⟩ = some (.int .i64 (l.getD j rv0).2.2.1) ∧
   w.cell? ⟨(a.add (j * 6)).block, (a.add (j * 6)).off + 3, none⟩ = some (txt (l.getD j rv0).2.2.2.1) ∧ w.cell? ⟨(a.add (j * 6)).block, (a.add (j * 6)).off + 4, none⟩ = some (.int .i64 (l.getD j rv0).2.2.2.2.1) ∧ w.cell? ⟨(a.add (j * 6)).block, (a.add (j * 6)).off + 5, none⟩ = some (slv (l.getD j rv0).2.2.2.2.2) := by
 obtain ⟨a, ha, hc⟩ := h.cells j hj
 exact ⟨a, ha, hc 0 (by decide), hc 1 (by decide), hc 2 (by decide), hc 3 (by decide), hc 4 (by decide), hc 5 (by decide)⟩
end Go.Proofs.YtgfobinklijkpaaGreatDoor
