/-
  Texts H3 IA R3 IG IK IL0.
-/
import Derived.Test.YtgfobinklijkpaaGreatDoorW01
import Derived.Test.YtgfobinklijkpaaGreatDoorW08
import Derived.Test.YtgfobinklijkpaaGreatDoorW09
import Derived.Test.YtgfobinklijkpaaGreatDoorW11
import Derived.Test.YtgfobinklijkpaaGreatDoorW12
import Derived.Test.YtgfobinklijkpaaGreatDoorW13
namespace Go.Proofs.YtgfobinklijkpaaGreatDoor
set_option maxRecDepth 100000
set_option maxHeartbeats 16000000
open Go.RowKit
def ndc (x : Nd) : List Value := [txt (nP x), txt (nV x), .int .i64 (nR x), .int .i64 (nO x)]
def nds (l : List Nd) : List Value := l.flatMap ndc
theorem nds_length : ∀ l : List Nd, (nds l).length = 4 * l.length
 | [] => rfl
 | x :: r => by
   have := nds_length r
   unfold nds at *
   rw [List.flatMap_cons, List.length_append, this, List.length_cons]
   show 4 + _ = _
   omega
theorem nds_append (a b : List Nd) : nds (a ++ b) = nds a ++ nds b := by simp [nds]
theorem nds_one (x : Nd) : nds [x] = ndc x := by simp [nds]
theorem nds_get : ∀ (l : List Nd) (j k : Nat), j < l.length → k < 4 → (nds l)[4 * j + k]? = (ndc (l.getD j nd0))[k]?
 | [], j, _, h, _ => by simp at h
 | x :: r, j, k, h, hk => by
   have e : nds (x :: r) = ndc x ++ nds r := by simp [nds]
   rw [e]
   cases j with
   | zero =>
     rw [List.getElem?_append_left (by show _ < 4; omega)]
     simp
   | succ j =>
     rw [List.getElem?_append_right (by show 4 ≤ _; omega)]
     have := nds_get r j k (by simpa using h) hk
     rw [show 4 * (j + 1) + k - (ndc x).length = 4 * j + k from by show _ - 4 = _; omega, this]
     simp
theorem ndc_get (x : Nd) (k : Nat) (hk : k < 4) : (ndc x)[k]? = some ((ndc x).getD k undef) := by
 match k, hk with
 | 0, _ => rfl
 | 1, _ => rfl
 | 2, _ => rfl
 | 3, _ => rfl
theorem nds_cell (l : List Nd) : ∀ u ∈ nds l, u.oneCell' = true := by
 intro u hu
 unfold nds at hu
 obtain ⟨x, _, h⟩ := List.mem_flatMap.1 hu
 unfold ndc at h
 simp only [List.mem_cons, List.not_mem_nil, or_false] at h
 rcases h with rfl | rfl | rfl | rfl <;> rfl
def RdNd (B : Nat) (w : World) (v : Value) (l : List Nd) : Prop :=
 ∃ A c, v = .slice A l.length c ∧ l.length ≤ c ∧ c ≤ maxLen ∧ (A = none → c = 0) ∧
   ∀ a, A = some a → (0 < l.length → a.block < B) ∧ ∀ j u, (nds l)[j]? = some u → w.cell? (a.add j) = some u
def OwnNd (e : TypeId) (w : World) (base : Nat) (v : Value) (l : List Nd) : Prop := w.ownsRow base e 4 v l.length (nds l)
theorem RdNd.keep {B : Nat} {w w' : World} {v : Value} {l : List Nd} (h : RdNd B w v l) (hk : ∀ p : Addr, p.block < B → w'.cell? p = w.cell? p) : RdNd B w' v l := by
 obtain ⟨A, c, hv, hc, hm, hn, hr⟩ := h
 refine ⟨A, c, hv, hc, hm, hn, fun a ha => ⟨(hr a ha).1, fun j u hu => ?_⟩⟩
 have hj : j < (nds l).length := (List.getElem?_eq_some_iff.1 hu).1
 rw [nds_length] at hj
 rw [hk _ (by rw [addr_block]; exact (hr a ha).1 (by omega))]
 exact (hr a ha).2 j u hu
theorem RdNd.below {B : Nat} {w w' : World} {v : Value} {l : List Nd} (h : RdNd B w v l) (hb : Below B w w') : RdNd B w' v l := h.keep fun _ hp => hb.cell hp
theorem RdNd.more {B B' : Nat} {w : World} {v : Value} {l : List Nd} (h : RdNd B w v l) (hB : B ≤ B') : RdNd B' w v l := by
 obtain ⟨A, c, hv, hc, hm, hn, hr⟩ := h
 exact ⟨A, c, hv, hc, hm, hn, fun a ha => ⟨fun h0 => Nat.lt_of_lt_of_le ((hr a ha).1 h0) hB, (hr a ha).2⟩⟩
theorem RdNd.nil (B : Nat) (w : World) : RdNd B w (.slice none 0 0) [] := ⟨none, 0, rfl, Nat.le_refl _, Nat.zero_le _, fun _ => rfl, fun _ h => by cases h⟩
theorem RdNd.shape {B : Nat} {w : World} {v : Value} {l : List Nd} (h : RdNd B w v l) : ∃ A c, v = .slice A l.length c ∧ l.length ≤ c ∧ c ≤ maxLen := by
 obtain ⟨A, c, hv, h1, h2, _⟩ := h
 exact ⟨A, c, hv, h1, h2⟩
theorem RdNd.at_ {B : Nat} {w : World} {A : Option Addr} {n c : Nat} {l : List Nd} (h : RdNd B w (.slice A n c) l) (j : Nat) (hj : j < l.length) :
 ∃ a, A = some a ∧ w.cell? (a.add (j * 4)) = some (txt (nP (l.getD j nd0))) ∧ w.cell? ⟨(a.add (j * 4)).block, (a.add (j * 4)).off + 1, none⟩ = some (txt (nV (l.getD j nd0))) ∧
   w.cell? ⟨(a.add (j * 4)).block, (a.add (j * 4)).off + 2, none⟩ = some (.int .i64 (nR (l.getD j nd0))) ∧ w.cell? ⟨(a.add (j * 4)).block, (a.add (j * 4)).off + 3, none⟩ = some (.int .i64 (nO (l.getD j nd0))) := by
 obtain ⟨A', c', hv, hc, hm, hn, hr⟩ := h
 injection hv with h1 h2 h3
 subst h1 h2 h3
 cases A with
 | none => have := hn rfl; omega
 | some a =>
   have hg : ∀ k, k < 4 → w.cell? ((a.add (j * 4)).add k) = some ((ndc (l.getD j nd0)).getD k undef) := by
    intro k hk
    rw [Addr.add_add, show j * 4 = 4 * j from Nat.mul_comm _ _]
    exact (hr a rfl).2 (4 * j + k) _ ((nds_get l j k hj hk).trans (ndc_get (l.getD j nd0) k hk))
   exact ⟨a, rfl, hg 0 (by decide), hg 1 (by decide), hg 2 (by decide), hg 3 (by decide)⟩
theorem OwnNd.rd {e : TypeId} {w : World} {base : Nat} {v : Value} {l : List Nd} (h : OwnNd e w base v l) : RdNd w.heap.size w v l := by
 rcases h.2 with ⟨rfl, hn⟩ | ⟨g, cap, cur, rfl, hb, hg, hnc, hm, _, _⟩
 ·have : l = [] := List.eq_nil_of_length_eq_zero hn
  subst this
  exact RdNd.nil _ _
 ·have hlt : g < w.heap.size := (Array.getElem?_eq_some_iff.1 hg).1
  refine ⟨some ⟨g, 0, none⟩, cap, rfl, hnc, hm, fun h => (by cases h), fun a ha => ?_⟩
  cases ha
  exact ⟨fun _ => hlt, fun j u hu => World.ownsRow.cells (g := g) h rfl j _ hu⟩
theorem OwnNd.below {e : TypeId} {w w' : World} {base B : Nat} {v : Value} {l : List Nd} (h : OwnNd e w base v l) (hb : Below B w w') (hB : w.heap.size ≤ B) : OwnNd e w' base v l := by
 refine ⟨h.1, ?_⟩
 rcases h.2 with hn | ⟨g, cap, cur, rfl, hg0, hg, r⟩
 ·exact .inl hn
 ·have hlt : g < w.heap.size := (Array.getElem?_eq_some_iff.1 hg).1
  exact .inr ⟨g, cap, cur, rfl, hg0, by rw [hb.block g (by omega)]; exact hg, r⟩
theorem OwnNd.base {e : TypeId} {w : World} {base base' : Nat} {v : Value} {l : List Nd} (h : OwnNd e w base v l) (hb : base' ≤ base) : OwnNd e w base' v l := by
 refine ⟨h.1, ?_⟩
 rcases h.2 with hn | ⟨g, cap, cur, rfl, hg0, r⟩
 ·exact .inl hn
 ·exact .inr ⟨g, cap, cur, rfl, by omega, r⟩
theorem OwnNd.nil (e : TypeId) (w : World) (base : Nat) : OwnNd e w base (.slice none 0 0) [] := World.ownsRow_nil w base e 4
theorem OwnNd.alloc {e : TypeId} {w : World} {base : Nat} {v : Value} {l : List Nd} (h : OwnNd e w base v l) (o : Obj) : OwnNd e (w.alloc o) base v l := World.ownsRow.alloc h o
theorem OwnNd.grown {e : TypeId} {w w' : World} {base : Nat} {v : Value} {l : List Nd} (h : OwnNd e w base v l) (hg : w.grownBy w' v.ownBlock) (hb : base ≤ w.heap.size) : Below base w w' :=
 (Below.refl base w).grown hg hb fun k hk => (World.ownsRow.lt h k hk).1
theorem OwnNd.empty (e : TypeId) (w : World) (base : Nat) (hb : base ≤ w.heap.size) : OwnNd e (w.alloc (.cells #[] e)) base (.slice (some ⟨w.heap.size, 0, none⟩) 0 0) [] :=
 World.ownsRow_made w #[] 0 hb (by decide) rfl
def ndz : Value := .agg #[.string ⟨#[]⟩, .string ⟨#[]⟩, .int .i64 0, .int .i64 0]
theorem wpList_appNd {P : Program} {w : World} {ops : Array Oper} {rest : List Oper} {o : Oper} {a : Act} {Q : Exit → Act → World → Prop}
 (hgd : o.guard = none) (s x : Operand) (t : TypeId) (ho : o.op = .call { callee := .builtin .append, args := #[s, x], argTypes := #[t, t] })
 (e : TypeId) (i : TypeInfo) (ht : P.underlying t = some (.slice e)) (hi : P.info? e = some i) (hz : i.zero = some ndz) (hsize : i.size = 4) (hby : i.bytes = 48)
 (base B : Nat) (v vx : Value) (l m : List Nd) (hs : a.eval s = v) (hown : OwnNd e w base v l) (hx : a.eval x = vx) (hr : RdNd B w vx m)
 (hlen : l.length + m.length ≤ 1000000) (hbase : base ≤ w.heap.size)
 (h : ∀ v' w', OwnNd e w' base v' (l ++ m) → Below base w w' → w.grownBy w' v.ownBlock → wpList P ops Q rest (a.put o.dst v') w') : wpList P ops Q (o :: rest) a w := by
 obtain ⟨A, c, hv, hc, hm, hn, hrr⟩ := hr
 cases A with
 | none =>
   have h0 : c = 0 := hn rfl
   have h1 : m.length = 0 := by omega
   have h2 : m = [] := List.eq_nil_of_length_eq_zero h1
   subst h0 h2
   refine wpList_append_own_none hgd s x t ho base e i 4 ht hi v l.length (nds l) hs hown (by rw [hx, hv]; rfl) ?_
   exact h v w (by rw [List.append_nil]; exact hown) (Below.refl _ _) ⟨rfl, rfl, rfl, Nat.le_refl _, fun _ _ _ => rfl⟩
 | some ad =>
   refine wpList_append_own w hgd s x t ho base e i ndz 4 48 ht hi hz hsize hby rfl (by decide) v l.length (nds l) hs hown ad m.length c (nds m) (by rw [hx, hv]) (by rw [nds_length]; omega) (hrr ad rfl).2 (nds_cell m) (by unfold maxLen; omega) (by omega) hbase ?_
   intro v' w' h1 h2 _
   refine h v' w' ?_ (OwnNd.grown hown h2 hbase) h2
   unfold OwnNd
   rw [List.length_append, nds_append]
   exact h1
theorem RdNd.node {B : Nat} {w : World} {a : Addr} {n c : Nat} {l : List Nd} (h : RdNd B w (.slice (some a) n c) l) (j : Nat) (hj : j < l.length) : ∀ k v, (ndc (l.getD j nd0))[k]? = some v → w.cell? ((a.add (j * 4)).add k) = some v := by
 intro k v hv
 have hk : k < 4 := (List.getElem?_eq_some_iff.1 hv).1
 obtain ⟨A', c', e, hc, hm, hn, hr⟩ := h
 injection e with h1 h2 h3
 subst h1 h2 h3
 rw [Addr.add_add, show j * 4 = 4 * j from Nat.mul_comm _ _]
 exact (hr a rfl).2 (4 * j + k) v ((nds_get l j k hj hk).trans hv)
abbrev RpV := Int × Int × Int × List UInt8 × Int × SlT
def rpv (x : Rp) (s : SlT) : RpV := (pC x, pQ x, pE x, pV x, pR x, s)
def rv0 : RpV := rpv rp0 sl0
def rvc (x : RpV) : List Value := [.int .i64 x.1, .int .i64 x.2.1, .int .i64 x.2.2.1, txt x.2.2.2.1, .int .i64 x.2.2.2.2.1, slv x.2.2.2.2.2]
theorem rvc_one (x : RpV) : ∀ u ∈ rvc x, u.oneCell' = true := by
 intro u hu
 unfold rvc at hu
 simp only [List.mem_cons, List.not_mem_nil, or_false] at hu
 rcases hu with rfl | rfl | rfl | rfl | rfl | rfl <;> rfl
def RvK : RowK RpV := { enc := rvc, k := 6, d := rv0, len := fun _ => rfl, one := rvc_one, pos := by decide }
def rvs (l : List Rp) (ss : List SlT) : List RpV := List.zipWith rpv l ss
theorem rvs_len {l : List Rp} {ss : List SlT} (h : ss.length = l.length) : (rvs l ss).length = l.length := by simp [rvs, h]
theorem rvs_at {l : List Rp} {ss : List SlT} (h : ss.length = l.length) (j : Nat) (hj : j < l.length) : (rvs l ss).getD j rv0 = rpv (l.getD j rp0) (ss.getD j sl0) := by
 unfold rvs
 simp [List.getD_eq_getElem?_getD, List.getElem?_zipWith, List.getElem?_eq_getElem hj, List.getElem?_eq_getElem (show j < ss.length by omega)]
theorem rvs_append {l m : List Rp} {ss tt : List SlT} (h : ss.length = l.length) : rvs (l ++ m) (ss ++ tt) = rvs l ss ++ rvs m tt := by
 unfold rvs
 rw [List.zipWith_append h.symm]
def RdRp (B : Nat) (w : World) (v : Value) (l : List Rp) : Prop :=
 ∃ ss : List SlT, ss.length = l.length ∧ RdE RvK B w v (rvs l ss) ∧ ∀ j, j < l.length → RdS B w (slv (ss.getD j sl0)) (pN (l.getD j rp0))
theorem RdRp.below {B : Nat} {w w' : World} {v : Value} {l : List Rp} (h : RdRp B w v l) (hb : Below B w w') : RdRp B w' v l := by
 obtain ⟨ss, h1, h2, h3⟩ := h
 exact ⟨ss, h1, h2.below hb, fun j hj => (h3 j hj).below hb⟩
theorem RdRp.more {B B' : Nat} {w : World} {v : Value} {l : List Rp} (h : RdRp B w v l) (hB : B ≤ B') : RdRp B' w v l := by
 obtain ⟨ss, h1, h2, h3⟩ := h
 exact ⟨ss, h1, h2.more hB, fun j hj => (h3 j hj).more hB⟩
theorem RdRp.shape {B : Nat} {w : World} {v : Value} {l : List Rp} (h : RdRp B w v l) : ∃ A c, v = .slice A l.length c ∧ l.length ≤ c ∧ c ≤ maxLen := by
 obtain ⟨ss, h1, h2, _⟩ := h
 have h3 := h2.shape
 rw [rvs_len h1] at h3
 exact h3
def rmc (t : Int) (vN vS vW vL : Value) : List Value := [vN, .int .i64 t, vS, vW, vL]
structure RdRm (B : Nat) (w : World) (vN vS vW vL : Value) (r : Rm) : Prop where
 n : RdNd B w vN (mN r)
 s : RdE SeK B w vS (mS r)
 t : RdE WaK B w vW (mW r)
 l : RdRp B w vL (mL r)
theorem rmc_all (t : Int) (A0 A1 A2 A3 : Option Addr) (n0 n1 n2 n3 c0 c1 c2 c3 : Nat) : (rmc t (.slice A0 n0 c0) (.slice A1 n1 c1) (.slice A2 n2 c2) (.slice A3 n3 c3)).toArray.all (·.oneCell') = true := by
 rw [Array.all_eq_true_iff_forall_mem]
 intro v hv
 simp only [rmc, List.mem_toArray, List.mem_cons, List.not_mem_nil, or_false] at hv
 rcases hv with rfl | rfl | rfl | rfl | rfl <;> rfl
theorem rowRmP : ∃ d, Tryz.prog.underlying 50 = some d ∧ d.isRow = true := ⟨_, Tryz.underlying50, rfl⟩
theorem szRmP : (Tryz.prog.info? 50).map (·.size) = some 5 := by kernel_rfl
theorem zeroRmP : (Tryz.prog.info? 50).map (·.zero) = some (some (.agg (rmc 0 (.slice none 0 0) (.slice none 0 0) (.slice none 0 0) (.slice none 0 0)).toArray)) := by kernel_rfl
theorem cell_heap {w w' : World} (p : Addr) (h : w'.heap[p.block]? = w.heap[p.block]?) : w'.cell? p = w.cell? p := by
 unfold World.cell?
 rw [h]
def NdK : RowK Nd := { enc := ndc, k := 4, d := nd0, len := fun _ => rfl, one := fun x u hu => nds_cell [x] u (by rw [nds_one]; exact hu), pos := by decide }
def StK : RowK ByteArray := { enc := fun s => [.string s], k := 1, d := ⟨#[]⟩, len := fun _ => rfl, one := fun _ u hu => by simp only [List.mem_cons, List.not_mem_nil, or_false] at hu; subst hu; rfl, pos := by decide }
theorem RdNd.toE {B : Nat} {w : World} {v : Value} {l : List Nd} (h : RdNd B w v l) : RdE NdK B w v l := h
theorem RdNd.ofE {B : Nat} {w : World} {v : Value} {l : List Nd} (h : RdE NdK B w v l) : RdNd B w v l := h
theorem OwnNd.toE {e : TypeId} {w : World} {b : Nat} {v : Value} {l : List Nd} (h : OwnNd e w b v l) : OwnE NdK e w b v l := h
theorem rowsE_str : ∀ l : List ByteArray, rowsE StK l = strs l
 | [] => rfl
 | s :: r => by
   have := rowsE_str r
   unfold rowsE strs at *
   rw [List.flatMap_cons, this]
   rfl
theorem strs_at (l : List ByteArray) (j : Nat) (hj : j < l.length) : (rowsE StK l)[j]? = some (.string l[j]) := by
 rw [rowsE_str]
 unfold strs
 rw [List.getElem?_map, List.getElem?_eq_getElem hj]
 rfl
theorem RdS.toE {B : Nat} {w : World} {v : Value} {l : List ByteArray} (h : RdS B w v l) : RdE StK B w v l := by
 obtain ⟨A, c, hv, hc, hm, hn, hr⟩ := h
 refine ⟨A, c, hv, hc, hm, hn, fun a ha => ⟨(hr a ha).1, fun j u hu => ?_⟩⟩
 have hj : j < l.length := by
  have := (List.getElem?_eq_some_iff.1 hu).1
  rw [rowsE_length] at this
  exact Nat.lt_of_lt_of_eq this (Nat.mul_one _)
 rw [strs_at l j hj] at hu
 injection hu with hu
 subst hu
 exact (hr a ha).2 j hj
theorem RdS.ofE {B : Nat} {w : World} {v : Value} {l : List ByteArray} (h : RdE StK B w v l) : RdS B w v l := by
 obtain ⟨A, c, hv, hc, hm, hn, hr⟩ := h
 exact ⟨A, c, hv, hc, hm, hn, fun a ha => ⟨(hr a ha).1, fun j hj => (hr a ha).2 j _ (strs_at l j hj)⟩⟩
theorem OwnS.toE {e : TypeId} {w : World} {b : Nat} {v : Value} {l : List ByteArray} (h : OwnS e w b v l) : OwnE StK e w b v l := by
 unfold OwnE
 rw [rowsE_str]
 exact h
def Lo (b : Nat) (v : Value) : Prop := ∀ a n c, v = .slice (some a) n c → 0 < n → a.block < b
theorem RdE.lo {α : Type} {E : RowK α} {b : Nat} {w : World} {v : Value} {l : List α} (h : RdE E b w v l) : Lo b v := by
 obtain ⟨A, c, rfl, _, _, _, hr⟩ := h
 intro a n c' e h0
 injection e with e1 e2 e3
 exact (hr a e1).1 (by omega)
theorem Lo.nil (b : Nat) : Lo b (.slice none 0 0) := fun _ _ _ e => by cases e
structure Keep (T : TypeId → Prop) (b : Nat) (w w' : World) : Prop where
 le : b ≤ w.heap.size
 size : w.heap.size ≤ w'.heap.size
 low : ∀ k : Nat, k < b → w'.heap[k]? = w.heap[k]?
 other : ∀ (k : Nat) (cs : Array Value) (e : TypeId) (fz : Nat × Nat), w.heap[k]? = some (Obj.cells cs e fz) → ¬ T e → w'.heap[k]? = w.heap[k]?
theorem Keep.trans {T : TypeId → Prop} {b : Nat} {w w' w'' : World} (h : Keep T b w w') (h' : Keep T b w' w'') : Keep T b w w'' :=
 ⟨h.le, Nat.le_trans h.size h'.size, fun k hk => (h'.low k hk).trans (h.low k hk), fun k cs e fz he hT => by
  have h1 := h.other k cs e fz he hT
  exact (h'.other k cs e fz (h1.trans he) hT).trans h1⟩
theorem Keep.of {T : TypeId → Prop} {b : Nat} {w w' : World} (hb : Below w.heap.size w w') (hs : b ≤ w.heap.size) : Keep T b w w' :=
 ⟨hs, hb.size, fun k hk => hb.block k (by omega), fun k cs e fz he _ => hb.block k (Array.getElem?_eq_some_iff.1 he).1⟩
theorem Keep.store {T : TypeId → Prop} {b g : Nat} {w w' : World} {cs : List Value} {t : TypeId} (hx : Blk w g cs t) (hT : T t) (hg : b ≤ g) (hs : w'.heap.size = w.heap.size) (ho : ∀ k, k ≠ g → w'.heap[k]? = w.heap[k]?) : Keep T b w w' := by
 have hlt := hx.lt
 refine ⟨by omega, by omega, fun k hk => ho k (by omega), fun k cs' e fz he hne => ho k fun e2 => ?_⟩
 subst e2
 unfold Blk at hx
 rw [hx] at he
 injection he with he
 injection he with _ h2
 exact hne (h2 ▸ hT)
theorem Keep.grown {α : Type} {E : RowK α} {T : TypeId → Prop} {b : Nat} {w w' : World} {t : TypeId} {v : Value} {l : List α} (hx : OwnE E t w b v l) (hT : T t) (hs : b ≤ w.heap.size) (hb : Below b w w') (hg : w.grownBy w' v.ownBlock) : Keep T b w w' := by
 refine ⟨hs, hb.size, fun k hk => hb.block k hk, fun k cs e fz he hne => ?_⟩
 refine hg.block k (Array.getElem?_eq_some_iff.1 he).1 fun e2 => ?_
 rcases hx.2 with ⟨rfl, _⟩ | ⟨g', cap', cur', rfl, _, h3, _⟩
 ·cases e2
 ·injection e2 with e2
  have e3 : k = g' := e2
  subst e3
  rw [he] at h3
  injection h3 with h3
  injection h3 with _ h4
  exact hne (h4 ▸ hT)
theorem RdE.lo_keep {α : Type} {E : RowK α} {b B B' : Nat} {w w' : World} {v : Value} {l : List α} (h : RdE E B w v l) (hl : Lo b v) (hk : ∀ k, k < b → w'.heap[k]? = w.heap[k]?) (hB : b ≤ B') : RdE E B' w' v l := by
 obtain ⟨A, c, rfl, hc, hm, hn, hr⟩ := h
 refine ⟨A, c, rfl, hc, hm, hn, fun a ha => ⟨fun h0 => Nat.lt_of_lt_of_le (hl a _ _ (by rw [ha]) h0) hB, fun j u hu => ?_⟩⟩
 have h0 : 0 < l.length := by
  cases l with
  | nil => simp [rowsE] at hu
  | cons x r => simp
 rw [cell_heap _ (hk _ (by rw [addr_block]; exact hl a _ _ (by rw [ha]) h0))]
 exact (hr a ha).2 j u hu
theorem OwnE.keep {α : Type} {E : RowK α} {T : TypeId → Prop} {e : TypeId} {b b' : Nat} {w w' : World} {v : Value} {l : List α} (h : OwnE E e w b v l) (hk : Keep T b' w w') (hT : ¬ T e) : OwnE E e w' b v l := by
 refine ⟨h.1, ?_⟩
 rcases h.2 with hn | ⟨g, cap, cur, rfl, hg0, hg1, r⟩
 ·exact .inl hn
 ·exact .inr ⟨g, cap, cur, rfl, hg0, by rw [hk.other g _ _ _ hg1 hT]; exact hg1, r⟩
theorem OwnE.swap {α : Type} {E : RowK α} {e : TypeId} {b B : Nat} {w : World} {v : Value} {l l' : List α} (h : OwnE E e w b v l) (hr : RdE E B w v l') : OwnE E e w b v l' := by
 obtain ⟨A, c, rfl, hc, hm, hn, h1⟩ := h.rd
 obtain ⟨A', c', he, _, _, _, h2⟩ := hr
 injection he with e1 e2 e3
 subst e1 e3
 have hq : rowsE E l' = rowsE E l := by
  cases A with
  | none =>
    have := hn rfl
    have z : l.length = 0 := by omega
    rw [List.eq_nil_of_length_eq_zero z, List.eq_nil_of_length_eq_zero (e2.symm.trans z)]
  | some a =>
    refine List.ext_getElem? fun j => ?_
    by_cases hj : j < (rowsE E l).length
    ·have hj' : j < (rowsE E l').length := by rw [rowsE_length] at hj ⊢; rw [← e2]; exact hj
     have u1 := (h1 a rfl).2 j _ (List.getElem?_eq_getElem hj)
     have u2 := (h2 a rfl).2 j _ (List.getElem?_eq_getElem hj')
     rw [List.getElem?_eq_getElem hj, List.getElem?_eq_getElem hj', ← u1, ← u2]
    ·have hj' : ¬ j < (rowsE E l').length := by rw [rowsE_length] at hj ⊢; rw [← e2]; exact hj
     rw [List.getElem?_eq_none (Nat.le_of_not_lt hj), List.getElem?_eq_none (Nat.le_of_not_lt hj')]
 unfold OwnE at h ⊢
 rw [hq, ← e2]
 exact h
def GoE {α : Type} (E : RowK α) (e : TypeId) (b : Nat) (w : World) (v : Value) (l : List α) : Prop := RdE E w.heap.size w v l ∧ (Lo b v ∨ OwnE E e w b v l)
theorem GoE.keep {α : Type} {E : RowK α} {T : TypeId → Prop} {e : TypeId} {b d : Nat} {w w' : World} {v : Value} {l : List α} (h : GoE E e b w v l) (hk : Keep T d w w') (hT : ¬ T e) (hd : b ≤ d) : GoE E e b w' v l := by
 rcases h.2 with h2 | h2
 ·exact ⟨h.1.lo_keep h2 (fun k hb => hk.low k (Nat.lt_of_lt_of_le hb hd)) (Nat.le_trans hd (Nat.le_trans hk.le hk.size)), .inl h2⟩
 ·have := h2.keep hk hT
  exact ⟨this.rd, .inr this⟩
theorem GoE.given {α : Type} {E : RowK α} {e : TypeId} {b : Nat} {w : World} {v : Value} {l : List α} (h : RdE E b w v l) (hb : b ≤ w.heap.size) : GoE E e b w v l := ⟨h.more hb, .inl h.lo⟩
theorem GoE.own {α : Type} {E : RowK α} {e : TypeId} {b b' : Nat} {w : World} {v : Value} {l : List α} (h : OwnE E e w b v l) (hb : b' ≤ b) : GoE E e b' w v l := ⟨h.rd, .inr (h.base hb)⟩
theorem GoE.nil {α : Type} (E : RowK α) (e : TypeId) (b : Nat) (w : World) : GoE E e b w (.slice none 0 0) [] := ⟨RdE.nil _ _, .inl (Lo.nil b)⟩
theorem GoE.next {α : Type} {E : RowK α} {e : TypeId} {b : Nat} {w w' : World} {v v0 : Value} {l l0 : List α} (h : GoE E e b w v0 l0) (hr : RdE E w'.heap.size w' v l) (ho : v = v0 ∨ OwnE E e w' w.heap.size v l) (hb : Below w.heap.size w w') (hs : b ≤ w.heap.size) : GoE E e b w' v l := by
 rcases ho with rfl | ho
 ·rcases h.2 with h2 | h2
  ·exact ⟨hr, .inl h2⟩
  ·exact ⟨hr, .inr ((h2.below hb (Nat.le_refl _)).swap hr)⟩
 ·exact ⟨hr, .inr (ho.base hs)⟩
theorem GoE.below {α : Type} {E : RowK α} {e : TypeId} {b : Nat} {w w' : World} {v : Value} {l : List α} (h : GoE E e b w v l) (hb : Below w.heap.size w w') (hs : b ≤ w.heap.size) : GoE E e b w' v l :=
 h.next ((h.1.below hb).more hb.size) (.inl rfl) hb hs
theorem GoE.but {α : Type} {E : RowK α} {e : TypeId} {b g : Nat} {w w' : World} {v : Value} {l : List α} (h : GoE E e b w v l) (hb : b ≤ g) (hs : w'.heap.size = w.heap.size) (hw : b ≤ w.heap.size) (ho : ∀ k : Nat, k ≠ g → w'.heap[k]? = w.heap[k]?) (hne : 0 < l.length → v.ownBlock ≠ some g) : GoE E e b w' v l := by
 rcases Nat.eq_zero_or_pos l.length with h0 | h0
 ·have hl := List.eq_nil_of_length_eq_zero h0
  subst hl
  obtain ⟨A, c, rfl, hc, hm, hn, _⟩ := h.1
  refine ⟨⟨A, c, rfl, hc, hm, hn, fun a ha => ⟨fun h1 => absurd h1 (by simp), fun j u hu => by simp [rowsE] at hu⟩⟩, .inl fun a n c' e h1 => ?_⟩
  injection e with _ e2 _
  simp at e2
  omega
 ·rcases h.2 with h2 | h2
  ·exact ⟨h.1.lo_keep h2 (fun k hk => ho k (by omega)) (by omega), .inl h2⟩
  ·have h3 : OwnE E e w' b v l := ownsRow_but h2 (hne h0) ho
   exact ⟨h3.rd, .inr h3⟩
def GoRp (e es : TypeId) (b : Nat) (w : World) (v : Value) (l : List Rp) : Prop :=
 ∃ ss : List SlT, ss.length = l.length ∧ GoE RvK e b w v (rvs l ss) ∧ ∀ j, j < l.length → GoE StK es b w (slv (ss.getD j sl0)) (pN (l.getD j rp0))
theorem GoRp.keep {T : TypeId → Prop} {e es : TypeId} {b d : Nat} {w w' : World} {v : Value} {l : List Rp} (h : GoRp e es b w v l) (hk : Keep T d w w') (hT : ¬ T e) (hS : ¬ T es) (hd : b ≤ d) : GoRp e es b w' v l := by
 obtain ⟨ss, h1, h2, h3⟩ := h
 exact ⟨ss, h1, h2.keep hk hT hd, fun j hj => (h3 j hj).keep hk hS hd⟩
theorem GoRp.rd {e es : TypeId} {b : Nat} {w : World} {v : Value} {l : List Rp} (h : GoRp e es b w v l) : RdRp w.heap.size w v l := by
 obtain ⟨ss, h1, h2, h3⟩ := h
 exact ⟨ss, h1, h2.1, fun j hj => RdS.ofE (h3 j hj).1⟩
theorem GoRp.given {e es : TypeId} {b : Nat} {w : World} {v : Value} {l : List Rp} (h : RdRp b w v l) (hb : b ≤ w.heap.size) : GoRp e es b w v l := by
 obtain ⟨ss, h1, h2, h3⟩ := h
 exact ⟨ss, h1, .given h2 hb, fun j hj => .given (h3 j hj).toE hb⟩
theorem GoRp.below {e es : TypeId} {b : Nat} {w w' : World} {v : Value} {l : List Rp} (h : GoRp e es b w v l) (hb : Below w.heap.size w w') (hs : b ≤ w.heap.size) : GoRp e es b w' v l := by
 obtain ⟨ss, h1, h2, h3⟩ := h
 exact ⟨ss, h1, h2.below hb hs, fun j hj => (h3 j hj).below hb hs⟩
theorem RdE.at6 {B : Nat} {w : World} {A : Option Addr} {n c : Nat} {l : List RpV} (h : RdE RvK B w (.slice A n c) l) (j : Nat) (hj : j < l.length) :
 ∃ a, A = some a ∧ w.cell? (a.add (j * 6)) = some (.int .i64 (l.getD j rv0).1) ∧ w.cell? ⟨(a.add (j * 6)).block, (a.add (j * 6)).off + 1, none⟩ = some (.int .i64 (l.getD j rv0).2.1) ∧ w.cell? ⟨(a.add (j * 6)).block, (a.add (j * 6)).off + 2, none⟩ = some (.int .i64 (l.getD j rv0).2.2.1) ∧
   w.cell? ⟨(a.add (j * 6)).block, (a.add (j * 6)).off + 3, none⟩ = some (txt (l.getD j rv0).2.2.2.1) ∧ w.cell? ⟨(a.add (j * 6)).block, (a.add (j * 6)).off + 4, none⟩ = some (.int .i64 (l.getD j rv0).2.2.2.2.1) ∧ w.cell? ⟨(a.add (j * 6)).block, (a.add (j * 6)).off + 5, none⟩ = some (slv (l.getD j rv0).2.2.2.2.2) := by
 obtain ⟨a, ha, hc⟩ := h.cells j hj
 exact ⟨a, ha, hc 0 (by decide), hc 1 (by decide), hc 2 (by decide), hc 3 (by decide), hc 4 (by decide), hc 5 (by decide)⟩
abbrev zRv : Value := .agg (rvc rv0).toArray
theorem infoQRv : (Tryz.prog.info? 79).map (fun i => (i.zero, i.size, i.bytes)) = some (some zRv, 6, 72) := by kernel_rfl
theorem infoPRv : ∃ i, Tryz.prog.info? 79 = some i ∧ i.zero = some zRv ∧ i.size = 6 ∧ i.bytes = 72 := by
 have h := infoQRv
 cases hi : Tryz.prog.info? 79 with
 | none => rw [hi] at h; simp at h
 | some i =>
   rw [hi] at h
   simp at h
   exact ⟨i, rfl, h.1, h.2.1, h.2.2⟩
theorem kindPRv : KindOf Tryz.prog 79 RvK 72 := kind_of (z := zRv) (by kernel_rfl) rfl
theorem sizeRv : (Tryz.prog.info? 79).map (·.size) = some 6 := by kernel_rfl
theorem rwLenRv (l : List RpV) : (rowsE RvK l).length = l.length * 6 := rowsE_length RvK l
theorem rwCutRv (l : List RpV) (i : Nat) (hi : i < l.length) : (rowsE RvK l).take (i * 6) = rowsE RvK (l.take i) ∧ (rowsE RvK l).drop (i * 6 + 6) = rowsE RvK (l.drop (i + 1)) := rowsE_cut (E := RvK) l i hi
theorem ownBlkRv {e : TypeId} {w : World} {base n cap g : Nat} {l : List RpV} (h : OwnE RvK e w base (.slice (some ⟨g, 0, none⟩) n cap) l) : ∃ cur : Array Value, Blk w g cur.toList e ∧ base ≤ g ∧ l.length ≤ cap ∧ cap ≤ maxLen ∧ cur.size = cap * 6 ∧ cur.toList.take (l.length * 6) = rowsE RvK l ∧ n = l.length := h.block
theorem insRRv (l : List RpV) (x : RpV) (m : Nat) : rowsE RvK (insE l x m) = rowsE RvK (l.take m) ++ (rvc x ++ rowsE RvK (l.drop m)) := insE_rows l x m
theorem run_copyERv (w : World) (dT sT ty elem : TypeId) (b o dLen dCap : Nat) (a : Addr) (sLen sCap : Nat) (cs : List Value)
 (hu : Tryz.prog.underlying dT = some (.slice elem)) (hs : (Tryz.prog.info? elem).map (·.size) = some 6) (hn : cs.length = Nat.min sLen dLen * 6)
 (hsrc : ∀ j v, cs[j]? = some v → w.cell? (a.add j) = some v) (hc : ∀ j, j < cs.length → (w.cell? ⟨b, o + j, none⟩).isSome = true ∧ w.frozen? ⟨b, o + j, none⟩ = false) (h1 : ∀ v ∈ cs, v.oneCell' = true) :
 (Builtin.copy_ #[dT, sT] ty #[.slice (some ⟨b, o, none⟩) dLen dCap, .slice (some a) sLen sCap]).run Tryz.prog w = .ok (goInt (Nat.min sLen dLen)) (w.setCells b o cs) := run_copy_rowE w dT sT ty elem 6 b o dLen dCap a sLen sCap cs hu hs hn hsrc hc h1
theorem clone_anyRv (l : List RpV) (v : Value) (w : World) (hr : RdE RvK w.heap.size w v l) (hl : l.length ≤ 100000) : Calls Tryz.prog 89 #[v] w (OwnsE RvK 79 l w) := by
 obtain ⟨i1, hJ, hy0, hy1, hy2⟩ := infoPRv
 obtain ⟨A, cp, rfl, hc, hm⟩ := hr.shape
 unfold maxLen at hm
 cases A with
 | none =>
   obtain ⟨A', c', hv, _, _, hn, _⟩ := hr
   injection hv with q1 q2 q3
   subst q1 q3
   have h0 := hn rfl
   have h1 : l = [] := List.eq_nil_of_length_eq_zero (by omega)
   subst h1
   subst h0
   have he : ∀ w, (binOp .eql 48 (.slice none 0 0) (.slice none 0 0)).run Tryz.prog w = .ok (.bool true) w := fun _ => rfl
   go_enter Tryz.func89, Tryz.ntmps89
   go_wp2
   go_ret
   exact ⟨_, rfl, OwnE.nil _ _ _, Below.refl _ _⟩
 | some a =>
   have HR := lhd hr
   have HL := lhd hl
   obtain ⟨n, hn⟩ : ∃ n, l.length = n := ⟨_, rfl⟩
   rw [hn] at HR hc ⊢
   clear hr hl hn
   have he : ∀ w, (binOp .eql 48 (.slice (some a) n cp) (.slice none 0 0)).run Tryz.prog w = .ok (.bool false) w := fun _ => rfl
   have HO : Hid (OwnE RvK 79 (w.alloc (.cells #[] 79)) w.heap.size (.slice (some ⟨w.heap.size, 0, none⟩) 0 0) []) := OwnE.empty (E := RvK) 79 w w.heap.size (Nat.le_refl _)
   have HA : Hid (Below w.heap.size w (w.alloc (.cells #[] 79))) := (Below.refl _ _).alloc (Nat.le_refl _) _
   have HR2 := lhd (HR.out.below HA.out)
   go_enter Tryz.func89, Tryz.ntmps89
   go_wp2_with (at_builtin; refine wpList_appF (E := RvK) rfl _ _ 48 rfl 79 72 Tryz.underlying48 kindPRv w.heap.size _ _ _ [] l rfl HO.out rfl HR2.out ?d1 ?d2 ?d3 ?_)
   case d1 => have := HL.out; simp; omega
   case d2 => have := HL.out; simp; omega
   case d3 => simp
   intro v' w' h1 h2 h3
   have H1 := lhd h1
   have H2 := lhd (HA.out.trans h2)
   clear h1 h2 h3
   go_wp2
   go_ret
   exact ⟨_, rfl, H1.out, H2.out⟩
end Go.Proofs.YtgfobinklijkpaaGreatDoor
